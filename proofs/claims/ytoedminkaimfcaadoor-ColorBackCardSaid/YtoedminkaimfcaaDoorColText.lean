/-
  CONTRACTS OF LAYER 9 (color): Text, and the reference's Text. By an AI agent.
-/
import Derived.Test.YtoedminkaimfcaaDoorColCount
import Derived.Test.YtoedminkaimfcaaDoorWordJoin
namespace Go.Proofs.YtoedminkaimfcaaDoor
open Go.RowKit

theorem bits_some : ∀ k, k < 32 → 0 < k → 0 < (Num.bitsL k 31).length := by decide +kernel
theorem parts_take {l : List Int} {j : Nat} {x : Int} (hx : l[j]? = some x) : (l.take (j + 1)).map Col.nameI = (l.take j).map Col.nameI ++ [Col.nameI x] := by
  obtain ⟨hj, rfl⟩ := List.getElem?_eq_some_iff.1 hx
  rw [List.take_succ_eq_append_getElem hj, List.map_append]
  rfl
theorem join_parts_len {k : Nat} (h0 : 0 < k) (h : k ≤ 31) : (Lib.join (Col.parts k 31) [43]).length ≤ 40 := by
  have := Col.textN_len h
  unfold Col.textN at this
  rwa [if_neg (by omega)] at this
theorem textN_parts {k : Nat} (h0 : 0 < k) : Col.textN k = Lib.join (Col.parts k 31) [43] := by
  unfold Col.textN
  rw [if_neg (by omega)]
set_option maxHeartbeats 1000000 in
set_option maxRecDepth 100000 in
theorem colorText (m : Int) (w : World) (hE : Env w) :
    Calls Tryd.prog 15 #[.int .i64 m] w fun e w' => e = .returned (str (Col.textI m)) ∧ Below w.heap.size w w' := by
  rcases Col.valid_cases m with ⟨k, rfl, hk, hv⟩ | ⟨_, hv⟩
  · have HV := Lib.hid hv
    clear hv
    by_cases h0 : k = 0
    · subst h0
      clear HV
      go_enter Tryd.func15, Tryd.ntmps15
      go_wp2_with fail
      refine (colorIs _ _).mono ?_
      rw [show Col.validB 0 = true by decide]
      rintro e w1 ⟨rfl, rfl⟩
      go_wp2_with fail
      go_ret
      exact ⟨by rw [show Col.textI ((0 : Nat) : Int) = [110, 111, 110, 101] by decide]; rfl, Below.refl _ _⟩
    · have h0' : ((k : Int) == 0) = false := by simp; omega
      have hk' : (k : Int) ≤ 9223372036854775807 := by omega
      have HT := Lib.hid ((Col.textI_nat hk).trans (textN_parts (by omega)))
      have HL := Lib.hid (join_parts_len (by omega) hk)
      have HS := Lib.hid (bits_some k (by omega) (by omega))
      have hlen := Num.bitsL_len k 31
      have HE := Lib.hid hE
      clear h0 hE
      go_enter Tryd.func15, Tryd.ntmps15
      go_wp2_with fail
      refine (colorIs _ _).mono ?_
      rw [HV.out]
      rintro e w1 ⟨rfl, rfl⟩
      go_wp2_with fail
      refine (numBits k hk' _).mono ?_
      rintro e w1 ⟨v, rfl, hown, hb⟩
      have HE1 := Lib.hid (HE.out.below hb)
      have HB1 := Lib.hid hb
      rcases hown.shape with ⟨_, hl⟩ | ⟨g, cap, rfl, _, hg, hlc, hcap, hcell⟩
      · exact absurd (HS.out) (by rw [hl]; decide)
      have HPT : Hid (Col.parts k 31 = (Num.bitsL k 31).map Col.nameI) := Lib.hid rfl
      have D := Lib.hid hcell
      clear hown hb hcell HS HE
      generalize Num.bitsL k 31 = l at *
      unfold maxLen at hcap
      go_wp2_with fail
      go_loopw [3, 14] (fun pv iv wr => ∃ j : Nat, j ≤ l.length ∧ iv = .int .i64 (j : Int) ∧ OwnStrs w1.heap.size wr pv ((l.take j).map Col.nameI) ∧ Below w1.heap.size w1 wr) (fun _ iv _ => l.length - (intOf iv).toNat)
      case atStart => exact ⟨0, by omega, rfl, OwnStrs.nil _ _, Below.refl _ _⟩
      case round =>
        obtain ⟨j, hj, rfl, hown, hbr⟩ := hrel
        by_cases hlt : j < l.length
        · have hsz := hbr.size
          have hx : l[j]? = some l[j] := List.getElem?_eq_getElem hlt
          have hc : wr.cell? ⟨g, j, none⟩ = some (.int .i64 l[j]) := (hbr.cell (p := ⟨g, j, none⟩) hg).trans (D.out j _ hx)
          have HP := Lib.hid (parts_take hx)
          have hpl : ((l.take j).map Col.nameI).length ≤ 1000000000000 := by simp; omega
          obtain ⟨sx, hsx, ex⟩ := exists_bytes (Col.nameI l[j])
          have HSX := Lib.hid hsx
          have HN : Hid (Calls Tryd.prog 10 #[.int .i64 l[j]] wr fun e w' => e = .returned (.string sx) ∧ wr = w') := Lib.hid (by rw [← ex]; exact colorName _ _ (HE1.out.below hbr))
          have HO := Lib.hid hown
          have HBR := Lib.hid hbr
          have HPL := Lib.hid hpl
          clear hx hsx ex hown hbr hpl
          generalize l[j] = x at *
          go_wp2_with fail
          refine HN.out.mono ?_
          rintro e w2 ⟨rfl, rfl⟩
          go_wp2_with (at_builtin; refine wpList_push_str rfl _ _ rfl rfl HO.out sx rfl HPL.out hsz HBR.out ?_)
          intro v' w2 ho hb'
          go_wp2_with fail
          go_roundw
          case rel => exact ⟨j + 1, by omega, by go_num, by rw [HP.out, ← HSX.out, List.map_take]; exact ho, hb'⟩
          case measure => simp [intOf]; omega
        · obtain rfl : j = l.length := by omega
          have HO := Lib.hid (by rw [List.take_length] at hown; exact hown : OwnStrs w1.heap.size wr _ (l.map Col.nameI))
          have HBR := Lib.hid hbr
          have HJ := Lib.hid (wordJoin _ (l.map Col.nameI) ⟨#[43]⟩ wr HO.out.strs (by simp; omega) (by rw [← HPT.out]; exact Nat.le_trans HL.out (by omega)))
          clear hown hbr HO
          go_wp2_with fail
          refine HJ.out.mono ?_
          rintro e w2 ⟨rfl, hb2⟩
          go_wp2_with fail
          go_ret
          exact ⟨by rw [HT.out, HPT.out]; rfl, (HB1.out.trans (HBR.out.mono HB1.out.size)).trans (hb2.mono (Nat.le_trans HB1.out.size HBR.out.size))⟩
  · have HV := Lib.hid hv
    have HT := Lib.hid (Col.textI_bad hv)
    clear hv
    go_enter Tryd.func15, Tryd.ntmps15
    go_wp2_with fail
    refine (colorIs _ _).mono ?_
    rw [HV.out]
    rintro e w1 ⟨rfl, rfl⟩
    go_wp2_with fail
    go_ret
    exact ⟨by rw [HT.out]; rfl, Below.refl _ _⟩
end Go.Proofs.YtoedminkaimfcaaDoor
