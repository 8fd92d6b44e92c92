/-
  CONTRACTS OF LAYER 11 (keyword): Text, and the reference's Text. By an AI agent.
-/
import Derived.Test.YtmkdljemiollfaaKeyWalks
import Derived.Test.YtmkdljemiollfaaNumBits
namespace Go.Proofs.Ytmkdljemiollfaa
open Go.RowKit

theorem parts_take {l : List Int} {j : Nat} {x : Int} (hx : l[j]? = some x) : (l.take (j + 1)).map Kw.nameI = (l.take j).map Kw.nameI ++ [Kw.nameI x] := by
  obtain ⟨hj, rfl⟩ := List.getElem?_eq_some_iff.1 hx
  rw [List.take_succ_eq_append_getElem hj, List.map_append]
  rfl
theorem textN_parts {k : Nat} (h0 : 0 < k) : Kw.textN k = Lib.join (Kw.parts k 31) [43] := by
  unfold Kw.textN
  rw [if_neg (by omega)]
theorem join_parts_len {k : Nat} (h0 : 0 < k) (h : k ≤ 131071) : (Lib.join (Kw.parts k 31) [43]).length ≤ 238 := by
  rw [← textN_parts h0]
  exact Kw.textN_len h
/-- the bits of a mask are places of names -/
def BitsFit (l : List Int) : Prop := ∀ (j : Nat) (x : Int), l[j]? = some x → ∃ k : Nat, x = (k : Int) ∧ k < 17
theorem bits_fit {m : Nat} (h : m ≤ 131071) : BitsFit (Num.bitsL m 31) := by
  intro j x hx
  have hmem := List.mem_of_getElem? hx
  rw [Kw.bits_top h] at hmem
  unfold Num.bitsL at hmem
  obtain ⟨i, hi, rfl⟩ := List.mem_map.1 hmem
  exact ⟨i, rfl, List.mem_range.1 (List.mem_filter.1 hi).1⟩
theorem bits_some {m : Nat} (h0 : 0 < m) (h : m ≤ 131071) : Num.bitsL m 31 ≠ [] := by
  intro e
  have : Kw.parts m 17 = [] := by rw [← Kw.parts_top h]; unfold Kw.parts; rw [e]; rfl
  have := Kw.parts_zero h this
  omega
theorem names_at {k : Nat} (h : k < 17) : Kw.names[k]? = some (Kw.name k) := by
  unfold Kw.name List.getD
  rw [List.getElem?_eq_getElem (show k < Kw.names.length from h)]
  rfl
set_option maxHeartbeats 1000000 in
set_option maxRecDepth 100000 in
theorem keyText (m : Int) (w : World) :
    Calls Try.prog 12 #[.int .i64 m] w fun e w' => e = .returned (str (Kw.textI m)) ∧ Below w.heap.size w w' := by
  rcases Kw.valid_cases m with ⟨k, rfl, hk, hv⟩ | ⟨_, hv⟩
  · have HV := Lib.hid hv
    clear hv
    by_cases h0 : k = 0
    · subst h0
      clear HV
      go_enter Try.func12, Try.ntmps12
      go_wp2_with fail
      refine (keyIs _ _).mono ?_
      rw [show Kw.validB 0 = true by decide]
      rintro e w1 ⟨rfl, rfl⟩
      go_wp2_with fail
      go_ret
      exact ⟨by rw [show Kw.textI ((0 : Nat) : Int) = [110, 111, 110, 101] by decide]; rfl, Below.refl _ _⟩
    · have h0' : ((k : Int) == 0) = false := by simp; omega
      have hk' : (k : Int) ≤ 9223372036854775807 := by omega
      have HT := Lib.hid ((Kw.textI_nat hk).trans (textN_parts (by omega)))
      have HL := Lib.hid (join_parts_len (by omega) hk)
      have HS := Lib.hid (bits_some (by omega) hk)
      have HFIT := Lib.hid (bits_fit hk)
      have hlen := Num.bitsL_len k 31
      have HK := Lib.hid (keyFrom 0)
      rw [show Kw.fromI 0 = Kw.names from rfl] at HK
      clear h0
      go_enter Try.func12, Try.ntmps12
      go_wp2_with fail
      refine (keyIs _ _).mono ?_
      rw [HV.out]
      rintro e w0 ⟨rfl, rfl⟩
      go_wp2_with fail
      refine (HK.out _).mono ?_
      rintro e wn ⟨vn, rfl, hnames, hbn⟩
      have BN := Lib.hid hbn
      rcases hnames.shape with ⟨_, hl⟩ | ⟨gn, capn, rfl, _, hgn, hlcn, hcapn, hcelln⟩
      · exact absurd hl (by decide)
      have CN := Lib.hid hcelln
      rw [show Kw.names.length = 17 from rfl] at hlcn
      rw [show Kw.names.length = 17 from rfl]
      clear hnames hbn hcelln
      go_wp2_with fail
      refine (numBits k hk' _).mono ?_
      rintro e w1 ⟨v, rfl, hown, hb⟩
      have HB1 := Lib.hid (BN.out.trans (hb.mono BN.out.size))
      have CN1 : Hid (∀ i x, Kw.names[i]? = some x → w1.cell? ⟨gn, i, none⟩ = some (str x)) := Lib.hid fun i x hx => (hb.cell (p := ⟨gn, i, none⟩) hgn).trans (CN.out i x hx)
      have hgn1 : gn < w1.heap.size := by have := hb.size; omega
      rcases hown.shape with ⟨_, hl⟩ | ⟨g, cap, rfl, _, hg, hlc, hcap, hcell⟩
      · exact absurd hl HS.out
      have HPT : Hid (Kw.parts k 31 = (Num.bitsL k 31).map Kw.nameI) := Lib.hid rfl
      have D := Lib.hid hcell
      clear hown hb hcell HS CN BN hgn
      generalize Num.bitsL k 31 = l at *
      unfold maxLen at hcap hcapn
      go_wp2_with fail
      go_loopw [4, 6, 16] (fun pv _ iv wr => ∃ j : Nat, j ≤ l.length ∧ iv = .int .i64 (j : Int) ∧ OwnStrs w1.heap.size wr pv ((l.take j).map Kw.nameI) ∧ Below w1.heap.size w1 wr) (fun _ _ iv _ => l.length - (intOf iv).toNat)
      case atStart => exact ⟨0, by omega, rfl, OwnStrs.nil _ _, Below.refl _ _⟩
      case round =>
        obtain ⟨j, hj, rfl, hown, hbr⟩ := hrel
        by_cases hlt : j < l.length
        · have hsz := hbr.size
          have hx : l[j]? = some l[j] := List.getElem?_eq_getElem hlt
          obtain ⟨q, hq, hq17⟩ := HFIT.out j _ hx
          rw [hq] at hx
          have hc : wr.cell? ⟨g, j, none⟩ = some (.int .i64 (q : Int)) := (hbr.cell (p := ⟨g, j, none⟩) hg).trans (D.out j _ hx)
          have HP := Lib.hid (parts_take hx)
          obtain ⟨sx, hsx, ex⟩ := exists_bytes (Kw.name q)
          have hcn : wr.cell? ⟨gn, q, none⟩ = some (.string sx) := ((hbr.cell (p := ⟨gn, q, none⟩) hgn1).trans (CN1.out q _ (names_at hq17))).trans (congrArg some ex)
          have HSX := Lib.hid (hsx.trans (Kw.nameI_nat q).symm)
          have hpl : ((l.take j).map Kw.nameI).length ≤ 1000000000000 := by simp; omega
          have HO := Lib.hid hown
          have HBR := Lib.hid hbr
          have HPL := Lib.hid hpl
          clear hx hsx ex hown hbr hpl hq
          go_wp2_with (at_builtin; refine wpList_push_str rfl _ _ rfl rfl HO.out sx rfl HPL.out hsz HBR.out ?_)
          intro v' w2 ho hb'
          go_wp2_with fail
          go_roundw
          case rel => exact ⟨j + 1, by omega, by go_num, by rw [HP.out, ← HSX.out, List.map_take]; exact ho, hb'⟩
          case measure => simp [intOf]; omega
        · obtain rfl : j = l.length := by omega
          have HO := Lib.hid (by rw [List.take_length] at hown; exact hown : OwnStrs w1.heap.size wr _ (l.map Kw.nameI))
          have HBR := Lib.hid hbr
          have HJ := Lib.hid (wordJoin _ (l.map Kw.nameI) ⟨#[43]⟩ wr HO.out.strs (by simp; omega) (by rw [← HPT.out]; exact Nat.le_trans HL.out (by omega)))
          clear hown hbr HO
          go_wp2_with fail
          refine HJ.out.mono ?_
          rintro e w2 ⟨rfl, hb2⟩
          go_wp2_with fail
          go_ret
          exact ⟨by rw [HT.out, HPT.out]; rfl, (HB1.out.trans (HBR.out.mono HB1.out.size)).trans (hb2.mono (Nat.le_trans HB1.out.size HBR.out.size))⟩
  · have HV := Lib.hid hv
    have HT := Lib.hid (Kw.textI_bad hv)
    clear hv
    go_enter Try.func12, Try.ntmps12
    go_wp2_with fail
    refine (keyIs _ _).mono ?_
    rw [HV.out]
    rintro e w1 ⟨rfl, rfl⟩
    go_wp2_with fail
    go_ret
    exact ⟨by rw [HT.out]; rfl, Below.refl _ _⟩
end Go.Proofs.Ytmkdljemiollfaa
