/-
  CONTRACTS OF LAYER 11 (keyword) that layer 13 reaches: Is, Name. By an AI agent.
-/
import Derived.Test.YtkohfomiigcifaaGreatDoorKeyFrom
import Derived.Test.YtkohfomiigcifaaGreatDoorFWord
namespace Go.Proofs.YtkohfomiigcifaaGreatDoor
open Go.RowKit
open Wd (Bs)

set_option maxRecDepth 100000 in
theorem keyIs (m : Int) (w : World) :
    Calls Tryz.prog 47 #[.int .i64 m] w fun e w' => e = .returned (.bool (Kw.validB m)) ∧ w = w' := by
  rcases Int.lt_or_le m 0 with h0 | h0
  · have HB : Hid (Kw.validB m = false) := Lib.hid (by unfold Kw.validB; simp; omega)
    go_enter Tryz.func47, Tryz.ntmps47
    go_wp2
    go_ret
    exact ⟨ret_bool HB.out.symm, rfl⟩
  · by_cases h1 : m ≤ 131071
    · have HB : Hid (Kw.validB m = true) := Lib.hid (by unfold Kw.validB; simp; omega)
      go_enter Tryz.func47, Tryz.ntmps47
      go_wp2
      go_ret
      exact ⟨ret_bool HB.out.symm, rfl⟩
    · have HB : Hid (Kw.validB m = false) := Lib.hid (by unfold Kw.validB; simp; omega)
      go_enter Tryz.func47, Tryz.ntmps47
      go_wp2
      go_ret
      exact ⟨ret_bool HB.out.symm, rfl⟩
theorem drop_name {k : Nat} (h : k < 17) : Kw.names.drop k = Kw.name k :: Kw.names.drop (k + 1) := by
  have hl : k < Kw.names.length := h
  rw [List.drop_eq_getElem_cons hl]
  unfold Kw.name List.getD
  rw [List.getElem?_eq_getElem hl]
  rfl
set_option maxRecDepth 100000 in
theorem keyName (i : Int) (w : World) :
    Calls Tryz.prog 87 #[.int .i64 i] w fun e w' => e = .returned (str (Kw.nameI i)) ∧ Below w.heap.size w w' := by
  by_cases hin : 0 ≤ i ∧ i < 17
  · obtain ⟨k, rfl⟩ : ∃ k : Nat, i = (k : Int) := ⟨i.toNat, by omega⟩
    have HC := Lib.hid (keyFrom (k : Int) w)
    have HN := Lib.hid (Kw.nameI_nat k)
    have HF : Hid (Kw.fromI (k : Int) = Kw.name k :: Kw.names.drop (k + 1)) := Lib.hid (by rw [Kw.fromI_nat]; exact drop_name (by omega))
    have HL : Hid ((Kw.fromI (k : Int)).length = 17 - k) := Lib.hid (by rw [Kw.fromI_nat, List.length_drop]; rfl)
    clear hin
    go_enter Tryz.func87, Tryz.ntmps87
    go_wp2_with fail
    refine HC.out.mono ?_
    rintro e w1 ⟨v, rfl, hown, hb⟩
    have B := Lib.hid hb
    rcases hown.shape with ⟨_, hl⟩ | ⟨g, cap, rfl, _, hg, hlc, hcap, hcell⟩
    · exfalso
      rw [HF.out] at hl
      cases hl
    · have hc : w1.cell? ⟨g, 0, none⟩ = some (str (Kw.name k)) := hcell 0 _ (by rw [HF.out]; rfl)
      obtain ⟨sx, hsx, ex⟩ := exists_bytes (Kw.name k)
      rw [ex] at hc
      have HX := Lib.hid ex
      have hlen : 0 < (Kw.fromI (k : Int)).length := by rw [HF.out]; simp
      have hz : (((Kw.fromI (k : Int)).length : Int) == 0) = false := beq_eq_false_iff_ne.2 (by omega)
      clear hown hb hcell hsx ex
      generalize (Kw.fromI (k : Int)).length = n at *
      go_wp2_with fail
      go_ret
      exact ⟨by rw [HN.out, HX.out]; rfl, B.out⟩
  · have HC := Lib.hid (keyFrom i w)
    have HN := Lib.hid (Kw.nameI_out (i := i) (by omega))
    have HF := Lib.hid (Kw.fromI_out (i := i) (by omega))
    go_enter Tryz.func87, Tryz.ntmps87
    go_wp2_with fail
    refine HC.out.mono ?_
    rw [HF.out]
    rintro e w1 ⟨v, rfl, hown, hb⟩
    have B := Lib.hid hb
    rcases hown.shape with ⟨rfl, _⟩ | ⟨g, cap, rfl, _, hg, hlc, hcap, hcell⟩
    all_goals
      go_wp2_with fail
      go_ret
      exact ⟨by rw [HN.out]; rfl, B.out⟩
end Go.Proofs.YtkohfomiigcifaaGreatDoor
