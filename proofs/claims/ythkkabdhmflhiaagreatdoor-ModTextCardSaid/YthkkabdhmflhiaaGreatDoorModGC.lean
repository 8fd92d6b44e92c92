/-
  MERGED: FWordI, FColT, FKeyT. By an AI agent.
-/
import Derived.Test.YthkkabdhmflhiaaGreatDoorFWord
import Derived.Test.YthkkabdhmflhiaaGreatDoorShelfI
import Derived.Test.YthkkabdhmflhiaaGreatDoorFCol
import Derived.Test.YthkkabdhmflhiaaGreatDoorFLine
import Derived.Test.YthkkabdhmflhiaaGreatDoorNumBits
import Derived.Test.YthkkabdhmflhiaaGreatDoorFKey
import Derived.Test.YthkkabdhmflhiaaGreatDoorBits64
namespace Go.Proofs.YthkkabdhmflhiaaGreatDoor
open Go.RowKit
open Wd (Bs)

set_option maxRecDepth 100000 in
theorem wordIndex (v : Value) (l : List Bs) (s : ByteArray) (w : World) (hv : Strs w v l) :
    Calls Tryz.prog 146 #[v, .string s] w fun e w' => e = .returned (.int .i64 (idx l s.data.toList)) ∧ w = w' := by
  rcases hv.shape with ⟨b, k, rfl, rfl⟩ | ⟨b, o, k, rfl, p, q, n1, m1, d⟩
  · go_enter Tryz.func146, Tryz.ntmps146
    go_wp2_with fail
    refine (Tryz.slices_Index_string_empty _ _ _ _).mono ?_
    rintro e w1 ⟨rfl, rfl⟩
    go_wp2_with fail
    go_ret
    exact ⟨rfl, rfl⟩
  · unfold maxLen at m1
    have D := Lib.hid d
    clear d hv
    go_enter Tryz.func146, Tryz.ntmps146
    go_wp2_with fail
    refine (Tryz.slices_Index_string b o l.length k (l.map ba) s _ (by simp) (by omega) (fun j hj => ?_)).mono ?_
    · have hj' : j < l.length := by simpa using hj
      rw [ba_getD l j hj']
      exact D.out j l[j] (List.getElem?_eq_getElem hj')
    rintro e w1 ⟨rfl, rfl⟩
    go_wp2_with fail
    go_ret
    exact ⟨ret_int (by rw [List.take_of_length_le (by simp)]; rfl), rfl⟩
end Go.Proofs.YthkkabdhmflhiaaGreatDoor
namespace Go.Proofs.YthkkabdhmflhiaaGreatDoor
open Go.RowKit
open Wd (Bs)

set_option maxRecDepth 100000 in
theorem colorIs (m : Int) (w : World) :
    Calls Tryz.prog 30 #[.int .i64 m] w fun e w' => e = .returned (.bool (Col.validB m)) ∧ w = w' := by
  rcases Int.lt_or_le m 0 with h0 | h0
  · have HB : Hid (Col.validB m = false) := Lib.hid (by unfold Col.validB; simp; omega)
    go_enter Tryz.func30, Tryz.ntmps30
    go_wp2
    go_ret
    exact ⟨ret_bool HB.out.symm, rfl⟩
  · by_cases h1 : m ≤ 31
    · have HB : Hid (Col.validB m = true) := Lib.hid (by unfold Col.validB; simp; omega)
      go_enter Tryz.func30, Tryz.ntmps30
      go_wp2
      go_ret
      exact ⟨ret_bool HB.out.symm, rfl⟩
    · have HB : Hid (Col.validB m = false) := Lib.hid (by unfold Col.validB; simp; omega)
      go_enter Tryz.func30, Tryz.ntmps30
      go_wp2
      go_ret
      exact ⟨ret_bool HB.out.symm, rfl⟩

theorem bits_someC : ∀ k, k < 32 → 0 < k → 0 < (Num.bitsL k 31).length := by decide +kernel
theorem parts_takeC {l : List Int} {j : Nat} {x : Int} (hx : l[j]? = some x) : (l.take (j + 1)).map Col.nameI = (l.take j).map Col.nameI ++ [Col.nameI x] := by
  obtain ⟨hj, rfl⟩ := List.getElem?_eq_some_iff.1 hx
  rw [List.take_succ_eq_append_getElem hj, List.map_append]
  rfl
theorem join_parts_lenC {k : Nat} (h0 : 0 < k) (h : k ≤ 31) : (Lib.join (Col.parts k 31) [43]).length ≤ 40 := by
  have := Col.textN_len h
  unfold Col.textN at this
  rwa [if_neg (by omega)] at this
theorem textN_partsC {k : Nat} (h0 : 0 < k) : Col.textN k = Lib.join (Col.parts k 31) [43] := by
  unfold Col.textN
  rw [if_neg (by omega)]
set_option maxHeartbeats 1000000 in
set_option maxRecDepth 100000 in
theorem colorText (m : Int) (w : World) (hE : EnvC w) :
    Calls Tryz.prog 68 #[.int .i64 m] w fun e w' => e = .returned (str (Col.textI m)) ∧ Below w.heap.size w w' := by
  rcases Col.valid_cases m with ⟨k, rfl, hk, hv⟩ | ⟨_, hv⟩
  · have HV := Lib.hid hv
    clear hv
    by_cases h0 : k = 0
    · subst h0
      clear HV
      go_enter Tryz.func68, Tryz.ntmps68
      go_wp2_with fail
      refine (colorIs _ _).mono ?_
      rw [show Col.validB 0 = true by decide]
      rintro e w1 ⟨rfl, rfl⟩
      go_wp2_with fail
      go_ret
      exact ⟨by rw [show Col.textI ((0 : Nat) : Int) = [110, 111, 110, 101] by decide]; rfl, Below.refl _ _⟩
    · have h0' : ((k : Int) == 0) = false := by simp; omega
      have hk' : (k : Int) ≤ 9223372036854775807 := by omega
      have HT := Lib.hid ((Col.textI_nat hk).trans (textN_partsC (by omega)))
      have HL := Lib.hid (join_parts_lenC (by omega) hk)
      have HS := Lib.hid (bits_someC k (by omega) (by omega))
      have hlen := Num.bitsL_len k 31
      have HE := Lib.hid hE
      clear h0 hE
      go_enter Tryz.func68, Tryz.ntmps68
      go_wp2_with fail
      refine (colorIs _ _).mono ?_
      rw [HV.out]
      rintro e w1 ⟨rfl, rfl⟩
      go_wp2_with fail
      refine (numBits k hk' _).mono ?_
      rintro e w1 ⟨v, rfl, hown, hb⟩
      have HE1 := Lib.hid (HE.out.below hb)
      have HB1 := Lib.hid hb
      rcases hown.shape with ⟨_, hl⟩ | ⟨g, cap, rfl, _, hg, hlc, hcap, hcell⟩
      · exact absurd (HS.out) (by rw [hl]; decide)
      have HPT : Hid (Col.parts k 31 = (Num.bitsL k 31).map Col.nameI) := Lib.hid rfl
      have D := Lib.hid hcell
      clear hown hb hcell HS HE
      generalize Num.bitsL k 31 = l at *
      unfold maxLen at hcap
      go_wp2_with fail
      go_loopw [3, 14] (fun pv iv wr => ∃ j : Nat, j ≤ l.length ∧ iv = .int .i64 (j : Int) ∧ OwnStrs w1.heap.size wr pv ((l.take j).map Col.nameI) ∧ Below w1.heap.size w1 wr) (fun _ iv _ => l.length - (intOf iv).toNat)
      case atStart => exact ⟨0, by omega, rfl, OwnStrs.nil _ _, Below.refl _ _⟩
      case round =>
        obtain ⟨j, hj, rfl, hown, hbr⟩ := hrel
        by_cases hlt : j < l.length
        · have hsz := hbr.size
          have hx : l[j]? = some l[j] := List.getElem?_eq_getElem hlt
          have hc : wr.cell? ⟨g, j, none⟩ = some (.int .i64 l[j]) := (hbr.cell (p := ⟨g, j, none⟩) hg).trans (D.out j _ hx)
          have HP := Lib.hid (parts_takeC hx)
          have hpl : ((l.take j).map Col.nameI).length ≤ 1000000000000 := by simp; omega
          obtain ⟨sx, hsx, ex⟩ := exists_bytes (Col.nameI l[j])
          have HSX := Lib.hid hsx
          have HN : Hid (Calls Tryz.prog 111 #[.int .i64 l[j]] wr fun e w' => e = .returned (.string sx) ∧ wr = w') := Lib.hid (by rw [← ex]; exact colorName _ _ (HE1.out.below hbr))
          have HO := Lib.hid hown
          have HBR := Lib.hid hbr
          have HPL := Lib.hid hpl
          clear hx hsx ex hown hbr hpl
          generalize l[j] = x at *
          go_wp2_with fail
          refine HN.out.mono ?_
          rintro e w2 ⟨rfl, rfl⟩
          go_wp2_with (at_builtin; refine wpList_push_str rfl _ _ rfl rfl HO.out sx rfl HPL.out hsz HBR.out ?_)
          intro v' w2 ho hb'
          go_wp2_with fail
          go_roundw
          case rel => exact ⟨j + 1, by omega, by go_num, by rw [HP.out, ← HSX.out, List.map_take]; exact ho, hb'⟩
          case measure => simp [intOf]; omega
        · obtain rfl : j = l.length := by omega
          have HO := Lib.hid (by rw [List.take_length] at hown; exact hown : OwnStrs w1.heap.size wr _ (l.map Col.nameI))
          have HBR := Lib.hid hbr
          have HJ := Lib.hid (wordJoin _ (l.map Col.nameI) ⟨#[43]⟩ wr HO.out.strs (by simp; omega) (by rw [← HPT.out]; exact Nat.le_trans HL.out (by omega)))
          clear hown hbr HO
          go_wp2_with fail
          refine HJ.out.mono ?_
          rintro e w2 ⟨rfl, hb2⟩
          go_wp2_with fail
          go_ret
          exact ⟨by rw [HT.out, HPT.out]; rfl, (HB1.out.trans (HBR.out.mono HB1.out.size)).trans (hb2.mono (Nat.le_trans HB1.out.size HBR.out.size))⟩
  · have HV := Lib.hid hv
    have HT := Lib.hid (Col.textI_bad hv)
    clear hv
    go_enter Tryz.func68, Tryz.ntmps68
    go_wp2_with fail
    refine (colorIs _ _).mono ?_
    rw [HV.out]
    rintro e w1 ⟨rfl, rfl⟩
    go_wp2_with fail
    go_ret
    exact ⟨by rw [HT.out]; rfl, Below.refl _ _⟩
/-- no mask below k has the text s -/
def NoneToC (s : List UInt8) (k : Nat) : Prop := ∀ j, j < k → Col.textN j ≠ s
theorem NoneToC.next {s : List UInt8} {k : Nat} (h : NoneToC s k) (hk : Col.textN k ≠ s) : NoneToC s (k + 1) := by
  intro j hj
  by_cases e : j = k
  · subst e; exact hk
  · exact h j (by omega)
set_option maxHeartbeats 1000000 in
set_option maxRecDepth 100000 in
theorem colorParse (s : ByteArray) (w : World) (hE : EnvC w) :
    Calls Tryz.prog 129 #[.string s] w fun e w' => e = .returned (.tuple #[.int .i64 (Col.parseI s.data.toList), .int .i64 (Col.parseE s.data.toList)]) ∧ Below w.heap.size w w' := by
  have HE := Lib.hid hE
  clear hE
  go_enter Tryz.func129, Tryz.ntmps129
  go_wp2_with fail
  go_loopw [5] (fun iv wr => ∃ j : Nat, j ≤ 32 ∧ iv = .int .i64 (j : Int) ∧ NoneToC s.data.toList j ∧ Below w.heap.size w wr) (fun iv _ => 32 - (intOf iv).toNat)
  case atStart => exact ⟨0, by omega, rfl, fun j hj => absurd hj (by omega), Below.refl _ _⟩
  case round =>
    obtain ⟨j, hj, rfl, hno, hb⟩ := hrel
    have HB := Lib.hid hb
    have HNO := Lib.hid hno
    clear hb hno
    by_cases hlt : j < 32
    · obtain ⟨sx, hsx, ex⟩ := exists_bytes (Col.textI (j : Int))
      have HSX := Lib.hid (hsx.trans (Col.textI_nat (m := j) (by omega)))
      have HC : Hid (Calls Tryz.prog 68 #[.int .i64 (j : Int)] wr fun e w' => e = .returned (.string sx) ∧ Below wr.heap.size wr w') := Lib.hid (by rw [← ex]; exact colorText _ _ (HE.out.below HB.out))
      clear hsx ex
      cases ht : (sx.toList == s.toList) with
      | true =>
        have HP := Lib.hid (Col.parse_hit_out (s := s.data.toList) hlt HNO.out (by rw [← HSX.out, (Lib.bytes_beq_iff _ _).1 ht]))
        go_wp2_with fail
        refine HC.out.mono ?_
        rintro e w2 ⟨rfl, hb2⟩
        go_wp2_with fail
        go_ret2
        exact ⟨by rw [HP.out.1, HP.out.2]; rfl, HB.out.trans (hb2.mono HB.out.size)⟩
      | false =>
        have HN := Lib.hid (HNO.out.next (k := j) (by rw [← HSX.out]; intro e; exact (Lib.bytes_beq_false_iff _ _).1 ht (bytes_same e)))
        go_wp2_with fail
        refine HC.out.mono ?_
        rintro e w2 ⟨rfl, hb2⟩
        go_wp2_with fail
        go_roundw
        case rel => exact ⟨j + 1, by omega, by go_num, HN.out, HB.out.trans (hb2.mono HB.out.size)⟩
        case measure => simp [intOf]; omega
    · obtain rfl : j = 32 := by omega
      have HP := Lib.hid (Col.parse_none_out HNO.out)
      go_wp2_with fail
      go_ret2
      exact ⟨by rw [HP.out.1, HP.out.2]; rfl, HB.out⟩
end Go.Proofs.YthkkabdhmflhiaaGreatDoor
namespace Go.Proofs.YthkkabdhmflhiaaGreatDoor
open Go.RowKit
open Wd (Bs)


theorem parts_takeK {l : List Int} {j : Nat} {x : Int} (hx : l[j]? = some x) : (l.take (j + 1)).map Kw.nameI = (l.take j).map Kw.nameI ++ [Kw.nameI x] := by
  obtain ⟨hj, rfl⟩ := List.getElem?_eq_some_iff.1 hx
  rw [List.take_succ_eq_append_getElem hj, List.map_append]
  rfl
theorem textN_partsK {k : Nat} (h0 : 0 < k) : Kw.textN k = Lib.join (Kw.parts k 31) [43] := by
  unfold Kw.textN
  rw [if_neg (by omega)]
theorem join_parts_lenK {k : Nat} (h0 : 0 < k) (h : k ≤ 131071) : (Lib.join (Kw.parts k 31) [43]).length ≤ 238 := by
  rw [← textN_partsK h0]
  exact Kw.textN_len h
/-- the bits of a mask are places of names -/
def BitsFitK (l : List Int) : Prop := ∀ (j : Nat) (x : Int), l[j]? = some x → ∃ k : Nat, x = (k : Int) ∧ k < 17
theorem bits_fitK {m : Nat} (h : m ≤ 131071) : BitsFitK (Num.bitsL m 31) := by
  intro j x hx
  have hmem := List.mem_of_getElem? hx
  rw [Kw.bits_top h] at hmem
  unfold Num.bitsL at hmem
  obtain ⟨i, hi, rfl⟩ := List.mem_map.1 hmem
  exact ⟨i, rfl, List.mem_range.1 (List.mem_filter.1 hi).1⟩
theorem bits_someK {m : Nat} (h0 : 0 < m) (h : m ≤ 131071) : Num.bitsL m 31 ≠ [] := by
  intro e
  have : Kw.parts m 17 = [] := by rw [← Kw.parts_top h]; unfold Kw.parts; rw [e]; rfl
  have := Kw.parts_zero h this
  omega
theorem names_atK {k : Nat} (h : k < 17) : Kw.names[k]? = some (Kw.name k) := by
  unfold Kw.name List.getD
  rw [List.getElem?_eq_getElem (show k < Kw.names.length from h)]
  rfl
set_option maxHeartbeats 1000000 in
set_option maxRecDepth 100000 in
theorem keyText (m : Int) (w : World) :
    Calls Tryz.prog 69 #[.int .i64 m] w fun e w' => e = .returned (str (Kw.textI m)) ∧ Below w.heap.size w w' := by
  rcases Kw.valid_cases m with ⟨k, rfl, hk, hv⟩ | ⟨_, hv⟩
  · have HV := Lib.hid hv
    clear hv
    by_cases h0 : k = 0
    · subst h0
      clear HV
      go_enter Tryz.func69, Tryz.ntmps69
      go_wp2_with fail
      refine (keyIs _ _).mono ?_
      rw [show Kw.validB 0 = true by decide]
      rintro e w1 ⟨rfl, rfl⟩
      go_wp2_with fail
      go_ret
      exact ⟨by rw [show Kw.textI ((0 : Nat) : Int) = [110, 111, 110, 101] by decide]; rfl, Below.refl _ _⟩
    · have h0' : ((k : Int) == 0) = false := by simp; omega
      have hk' : (k : Int) ≤ 9223372036854775807 := by omega
      have HT := Lib.hid ((Kw.textI_nat hk).trans (textN_partsK (by omega)))
      have HL := Lib.hid (join_parts_lenK (by omega) hk)
      have HS := Lib.hid (bits_someK (by omega) hk)
      have HFIT := Lib.hid (bits_fitK hk)
      have hlen := Num.bitsL_len k 31
      have HK := Lib.hid (keyFrom 0)
      rw [show Kw.fromI 0 = Kw.names from rfl] at HK
      clear h0
      go_enter Tryz.func69, Tryz.ntmps69
      go_wp2_with fail
      refine (keyIs _ _).mono ?_
      rw [HV.out]
      rintro e w0 ⟨rfl, rfl⟩
      go_wp2_with fail
      refine (HK.out _).mono ?_
      rintro e wn ⟨vn, rfl, hnames, hbn⟩
      have BN := Lib.hid hbn
      rcases hnames.shape with ⟨_, hl⟩ | ⟨gn, capn, rfl, _, hgn, hlcn, hcapn, hcelln⟩
      · exact absurd hl (by decide)
      have CN := Lib.hid hcelln
      rw [show Kw.names.length = 17 from rfl] at hlcn
      rw [show Kw.names.length = 17 from rfl]
      clear hnames hbn hcelln
      go_wp2_with fail
      refine (numBits k hk' _).mono ?_
      rintro e w1 ⟨v, rfl, hown, hb⟩
      have HB1 := Lib.hid (BN.out.trans (hb.mono BN.out.size))
      have CN1 : Hid (∀ i x, Kw.names[i]? = some x → w1.cell? ⟨gn, i, none⟩ = some (str x)) := Lib.hid fun i x hx => (hb.cell (p := ⟨gn, i, none⟩) hgn).trans (CN.out i x hx)
      have hgn1 : gn < w1.heap.size := by have := hb.size; omega
      rcases hown.shape with ⟨_, hl⟩ | ⟨g, cap, rfl, _, hg, hlc, hcap, hcell⟩
      · exact absurd hl HS.out
      have HPT : Hid (Kw.parts k 31 = (Num.bitsL k 31).map Kw.nameI) := Lib.hid rfl
      have D := Lib.hid hcell
      clear hown hb hcell HS CN BN hgn
      generalize Num.bitsL k 31 = l at *
      unfold maxLen at hcap hcapn
      go_wp2_with fail
      go_loopw [4, 6, 16] (fun pv _ iv wr => ∃ j : Nat, j ≤ l.length ∧ iv = .int .i64 (j : Int) ∧ OwnStrs w1.heap.size wr pv ((l.take j).map Kw.nameI) ∧ Below w1.heap.size w1 wr) (fun _ _ iv _ => l.length - (intOf iv).toNat)
      case atStart => exact ⟨0, by omega, rfl, OwnStrs.nil _ _, Below.refl _ _⟩
      case round =>
        obtain ⟨j, hj, rfl, hown, hbr⟩ := hrel
        by_cases hlt : j < l.length
        · have hsz := hbr.size
          have hx : l[j]? = some l[j] := List.getElem?_eq_getElem hlt
          obtain ⟨q, hq, hq17⟩ := HFIT.out j _ hx
          rw [hq] at hx
          have hc : wr.cell? ⟨g, j, none⟩ = some (.int .i64 (q : Int)) := (hbr.cell (p := ⟨g, j, none⟩) hg).trans (D.out j _ hx)
          have HP := Lib.hid (parts_takeK hx)
          obtain ⟨sx, hsx, ex⟩ := exists_bytes (Kw.name q)
          have hcn : wr.cell? ⟨gn, q, none⟩ = some (.string sx) := ((hbr.cell (p := ⟨gn, q, none⟩) hgn1).trans (CN1.out q _ (names_atK hq17))).trans (congrArg some ex)
          have HSX := Lib.hid (hsx.trans (Kw.nameI_nat q).symm)
          have hpl : ((l.take j).map Kw.nameI).length ≤ 1000000000000 := by simp; omega
          have HO := Lib.hid hown
          have HBR := Lib.hid hbr
          have HPL := Lib.hid hpl
          clear hx hsx ex hown hbr hpl hq
          go_wp2_with (at_builtin; refine wpList_push_str rfl _ _ rfl rfl HO.out sx rfl HPL.out hsz HBR.out ?_)
          intro v' w2 ho hb'
          go_wp2_with fail
          go_roundw
          case rel => exact ⟨j + 1, by omega, by go_num, by rw [HP.out, ← HSX.out, List.map_take]; exact ho, hb'⟩
          case measure => simp [intOf]; omega
        · obtain rfl : j = l.length := by omega
          have HO := Lib.hid (by rw [List.take_length] at hown; exact hown : OwnStrs w1.heap.size wr _ (l.map Kw.nameI))
          have HBR := Lib.hid hbr
          have HJ := Lib.hid (wordJoin _ (l.map Kw.nameI) ⟨#[43]⟩ wr HO.out.strs (by simp; omega) (by rw [← HPT.out]; exact Nat.le_trans HL.out (by omega)))
          clear hown hbr HO
          go_wp2_with fail
          refine HJ.out.mono ?_
          rintro e w2 ⟨rfl, hb2⟩
          go_wp2_with fail
          go_ret
          exact ⟨by rw [HT.out, HPT.out]; rfl, (HB1.out.trans (HBR.out.mono HB1.out.size)).trans (hb2.mono (Nat.le_trans HB1.out.size HBR.out.size))⟩
  · have HV := Lib.hid hv
    have HT := Lib.hid (Kw.textI_bad hv)
    clear hv
    go_enter Tryz.func69, Tryz.ntmps69
    go_wp2_with fail
    refine (keyIs _ _).mono ?_
    rw [HV.out]
    rintro e w1 ⟨rfl, rfl⟩
    go_wp2_with fail
    go_ret
    exact ⟨by rw [HT.out]; rfl, Below.refl _ _⟩

theorem cut_valsK (l c : Bs) : ∃ p r : ByteArray, p.data.toList = (Wd.cut l c).1 ∧ r.data.toList = (Wd.cut l c).2.1 ∧ cutV (Wd.cut l c) = .tuple #[.string p, .string r, .bool (Wd.cut l c).2.2] :=
  ⟨⟨(Wd.cut l c).1.toArray⟩, ⟨(Wd.cut l c).2.1.toArray⟩, rfl, rfl, rfl⟩
theorem cut_lenK (l c : Bs) : (Wd.cut l c).2.1.length ≤ l.length := by
  unfold Wd.cut
  split
  · simp
  · split <;> simp
theorem bytes_lenK (s : ByteArray) : s.data.toList.length = s.size := by simp
theorem key_idx (p : Bs) : (∃ k : Nat, k < 17 ∧ Kw.ix p = k ∧ idx Kw.names p = (k : Int)) ∨ (Kw.ix p = 17 ∧ idx Kw.names p = -1) := by
  by_cases h : Kw.ix p < 17
  · refine .inl ⟨Kw.ix p, h, rfl, idx_hit (k := Kw.ix p) ?_ ?_⟩
    · have h1 : Kw.names.findIdx (· == p) < Kw.names.length := h
      have h2 := List.findIdx_getElem (w := h1)
      have h3 : Kw.names[Kw.names.findIdx (· == p)] = p := by simpa using h2
      rw [show Kw.ix p = Kw.names.findIdx (· == p) from rfl, List.getElem?_eq_getElem h1, h3]
    · intro j y hj hy e
      obtain ⟨hj', rfl⟩ := List.getElem?_eq_some_iff.1 hy
      have := List.not_of_lt_findIdx (p := (· == p)) (xs := Kw.names) hj
      simp [e] at this
  · have h17 : Kw.ix p = 17 := by have := Kw.ix_le p; omega
    refine .inr ⟨h17, idx_miss fun j y hj hy e => ?_⟩
    obtain ⟨hj', rfl⟩ := List.getElem?_eq_some_iff.1 hy
    have h2 : Kw.names.findIdx (· == p) < Kw.names.length := List.findIdx_lt_length_of_exists ⟨_, List.getElem_mem hj', by simp [e]⟩
    exact h h2
theorem collect_stepK {g k R : Nat} {s : Bs} (h : Ct.meas s true ≤ g ∧ Kw.collectF g k s true = R ∧ k < 131072) :
    0 < g ∧ Ct.meas (Wd.cut s [43]).2.1 (Wd.cut s [43]).2.2 ≤ g - 1 ∧ Kw.collectF (g - 1) (Kw.addW k (Wd.cut s [43]).1) (Wd.cut s [43]).2.1 (Wd.cut s [43]).2.2 = R ∧ Kw.addW k (Wd.cut s [43]).1 < 131072 := by
  obtain ⟨h1, h2, h3⟩ := h
  have h4 := Ct.meas_cut (s := s) (c := [43]) (by simp)
  cases g with
  | zero => omega
  | succ g =>
    refine ⟨by omega, by simp; omega, ?_, Kw.addW_lt _ h3⟩
    rw [← h2, Kw.collectF_go]
    rfl
set_option maxHeartbeats 1000000 in
set_option maxRecDepth 100000 in
theorem keyCollect (s : ByteArray) (w : World) (hs : s.size ≤ 140737488355328) :
    Calls Tryz.prog 154 #[.string s] w fun e w' => e = .returned (.int .i64 (Kw.collectL s.data.toList : Nat)) ∧ Below w.heap.size w w' := by
  obtain ⟨R, hR⟩ : ∃ R, R = Kw.collectL s.data.toList := ⟨_, rfl⟩
  rw [← hR]
  have HR0 : Hid (Kw.collectF (s.size + 1) 0 s.data.toList true = R) := Lib.hid (by rw [hR, ← bytes_lenK s]; rfl)
  have HK := Lib.hid (keyFrom 0 w)
  rw [show Kw.fromI 0 = Kw.names from rfl] at HK
  clear hR
  go_enter Tryz.func154, Tryz.ntmps154
  go_wp2_with fail
  refine HK.out.mono ?_
  rintro e wn ⟨vn, rfl, hnames, hbn⟩
  have BN := Lib.hid hbn
  have SN := Lib.hid hnames.strs
  clear hnames hbn HK
  go_wp2_with fail
  go_loopg [0, 4, 6] (s.size + 1) (fun g sv kv mv wr => ∃ (k : Nat) (sx : ByteArray) (more : Bool), sv = .string sx ∧ kv = .int .i64 (k : Int) ∧ mv = .bool more ∧ sx.size ≤ 140737488355328 ∧ Hid (Ct.meas sx.data.toList more ≤ g ∧ Kw.collectF g k sx.data.toList more = R ∧ k < 131072) ∧ Below wn.heap.size wn wr)
  case atStart => exact ⟨0, s, true, rfl, rfl, rfl, hs, Lib.hid ⟨by unfold Ct.meas; rw [bytes_lenK]; simp, HR0.out, by decide⟩, Below.refl _ _⟩
  case round =>
    obtain ⟨k, sx, more, rfl, rfl, rfl, hsx, HKR, hb⟩ := hrel
    have HB := Lib.hid hb
    clear hb
    cases more with
    | true =>
      obtain ⟨hg0, hstep⟩ := collect_stepK HKR.out
      have HST := Lib.hid hstep
      obtain ⟨p, r, hp, hr, hv⟩ := cut_valsK sx.data.toList [43]
      have hrl : r.size ≤ 140737488355328 := by
        have h1 := bytes_lenK r
        have h2 := cut_lenK sx.data.toList [43]
        have h3 := bytes_lenK sx
        rw [hr] at h1
        omega
      have HCUT := Lib.hid (wordCutFar sx ⟨#[43]⟩ wr hsx (by show 1 ≤ _; omega))
      unfold CutRes at HCUT
      rw [show (⟨#[43]⟩ : ByteArray).data.toList = [43] from rfl, hv] at HCUT
      rw [← hp, ← hr] at HST
      generalize (Wd.cut sx.data.toList [43]).2.2 = m at *
      clear hp hr hv hstep
      go_wp2_with fail
      refine HCUT.out.mono ?_
      rintro e w2 ⟨rfl, hb2⟩
      have HB2 := Lib.hid (HB.out.trans (hb2.mono HB.out.size))
      have HI := Lib.hid (wordIndex vn Kw.names p w2 (SN.out.below HB2.out (Nat.le_refl _)))
      clear hb2
      have hk64 : k < 2 ^ 63 := by have := HKR.out.2.2; omega
      rcases key_idx p.data.toList with ⟨j, hj, hix, hid⟩ | ⟨hix, hid⟩
      · have HA : Hid (Kw.addW k p.data.toList = k ||| 2 ^ j) := Lib.hid (Kw.addW_hit hj hix)
        have HOR : Hid (bits .or .i64 (k : Int) (wrap64 ((2 : Int) ^ j)) = ((k ||| 2 ^ j : Nat) : Int)) := Lib.hid (Bt.or_pow k j hk64 (by omega))
        rw [hid] at HI
        clear hix hid hk64 HCUT HB
        go_wp2_with fail
        refine HI.out.mono ?_
        rintro e w3 ⟨rfl, rfl⟩
        go_wp2_with fail
        obtain ⟨g1, hg1⟩ : ∃ g1, g1 = gk - 1 := ⟨_, rfl⟩
        rw [← hg1] at HST
        have hgl : g1 < gk := by omega
        go_roundg g1
        case rel => exact ⟨k ||| 2 ^ j, r, m, rfl, by rw [HOR.out], rfl, hrl, by rw [HA.out] at HST; exact HST, HB2.out⟩
        case measure => omega
      · have HA : Hid (Kw.addW k p.data.toList = k) := Lib.hid (Kw.addW_none hix)
        rw [hid] at HI
        clear hix hid hk64 HCUT HB
        go_wp2_with fail
        refine HI.out.mono ?_
        rintro e w3 ⟨rfl, rfl⟩
        go_wp2_with fail
        obtain ⟨g1, hg1⟩ : ∃ g1, g1 = gk - 1 := ⟨_, rfl⟩
        rw [← hg1] at HST
        have hgl : g1 < gk := by omega
        go_roundg g1
        case rel => exact ⟨k, r, m, rfl, rfl, rfl, hrl, by rw [HA.out] at HST; exact HST, HB2.out⟩
        case measure => omega
    | false =>
      have HE : Hid (k = R) := Lib.hid (by have h1 := HKR.out.2.1; rwa [Kw.collectF_stop] at h1)
      go_wp2_with fail
      go_ret
      exact ⟨by rw [← HE.out]; rfl, BN.out.trans (HB.out.mono BN.out.size)⟩
set_option maxHeartbeats 1000000 in
set_option maxRecDepth 100000 in
theorem keyParse (s : ByteArray) (w : World) (hs : s.size ≤ 140737488355328) :
    Calls Tryz.prog 130 #[.string s] w fun e w' => e = .returned (.tuple #[.int .i64 (Kw.parseI s.data.toList), .int .i64 (Kw.parseE s.data.toList)]) ∧ Below w.heap.size w w' := by
  have HC := Lib.hid (keyCollect s w hs)
  have hl := Kw.collectL_lt s.data.toList
  have HTN := Lib.hid (Kw.textI_nat (m := Kw.collectL s.data.toList) (by omega))
  have HY : Hid ((Kw.textN (Kw.collectL s.data.toList) = s.data.toList ∧ Kw.parseI s.data.toList = (Kw.collectL s.data.toList : Nat) ∧ Kw.parseE s.data.toList = 0) ∨ (Kw.textN (Kw.collectL s.data.toList) ≠ s.data.toList ∧ Kw.parseI s.data.toList = 0 ∧ Kw.parseE s.data.toList = 3)) := Lib.hid (by
    by_cases h : Kw.textN (Kw.collectL s.data.toList) = s.data.toList
    · exact .inl ⟨h, Kw.parse_yes h⟩
    · exact .inr ⟨h, Kw.parse_no h⟩)
  clear hl
  generalize Kw.collectL s.data.toList = k at *
  obtain ⟨tx, htx, ex⟩ := exists_bytes (Kw.textI (k : Int))
  have HT : Hid (∀ w, Calls Tryz.prog 69 #[.int .i64 (k : Int)] w fun e w' => e = .returned (.string tx) ∧ Below w.heap.size w w') := Lib.hid (fun w => by rw [← ex]; exact keyText _ _)
  rcases HY.out with ⟨ht, hi, he⟩ | ⟨ht, hi, he⟩
  · have h1 : (tx.toList == s.toList) = true := bytes_eq (by rw [htx, HTN.out, ht])
    have HI := Lib.hid hi
    have HE := Lib.hid he
    clear ht hi he htx ex HY
    go_enter Tryz.func130, Tryz.ntmps130
    go_wp2_with fail
    refine HC.out.mono ?_
    rintro e w1 ⟨rfl, hb⟩
    have B := Lib.hid hb
    clear hb
    go_wp2_with fail
    refine (HT.out _).mono ?_
    rintro e w2 ⟨rfl, hb2⟩
    have B2 := Lib.hid (B.out.trans (hb2.mono B.out.size))
    clear hb2
    go_wp2_with fail
    go_ret2
    exact ⟨by rw [HI.out, HE.out]; rfl, B2.out⟩
  · have h1 : (tx.toList == s.toList) = false := bytes_ne (by rw [htx, HTN.out]; exact ht)
    have HI := Lib.hid hi
    have HE := Lib.hid he
    clear ht hi he htx ex HY
    go_enter Tryz.func130, Tryz.ntmps130
    go_wp2_with fail
    refine HC.out.mono ?_
    rintro e w1 ⟨rfl, hb⟩
    have B := Lib.hid hb
    clear hb
    go_wp2_with fail
    refine (HT.out _).mono ?_
    rintro e w2 ⟨rfl, hb2⟩
    have B2 := Lib.hid (B.out.trans (hb2.mono B.out.size))
    clear hb2
    go_wp2_with fail
    go_ret2
    exact ⟨by rw [HI.out, HE.out]; rfl, B2.out⟩
end Go.Proofs.YthkkabdhmflhiaaGreatDoor
