/-
  CONTRACTS OF LAYER 11's REFERENCE that layer 13 reaches: names, Name. By an AI agent.
-/
import Derived.Test.YtkohfomiigcifaaGreatDoorFKey
namespace Go.Proofs.YtkohfomiigcifaaGreatDoor
open Go.RowKit
open Wd (Bs)

set_option maxRecDepth 100000 in
theorem refNames (w : World) :
    Calls Tryz.prog 96 #[] w fun e w' => ∃ v, e = .returned v ∧ OwnStrs w.heap.size w' v Kw.names ∧ Below w.heap.size w w' := by
  have HO := Lib.hid (OwnStrs.lit w Kw.names (by decide))
  go_enter Tryz.func96, Tryz.ntmps96
  go_wp2_with fail
  go_ret
  exact ⟨_, rfl, HO.out, (Below.refl _ _).alloc (Nat.le_refl _) _⟩
set_option maxRecDepth 100000 in
theorem refName11 (i : Int) (w : World) :
    Calls Tryz.prog 63 #[.int .i64 i] w fun e w' => e = .returned (str (Kw.nameI i)) ∧ Below w.heap.size w w' := by
  rcases Int.lt_or_le i 0 with h0 | h0
  · have HN := Lib.hid (Kw.nameI_out (i := i) (.inl h0))
    go_enter Tryz.func63, Tryz.ntmps63
    go_wp2_with fail
    go_ret
    exact ⟨by rw [HN.out]; rfl, Below.refl _ _⟩
  · by_cases h1 : i ≤ 16
    · obtain ⟨k, rfl⟩ : ∃ k : Nat, i = (k : Int) := ⟨i.toNat, by omega⟩
      have HN := Lib.hid (Kw.nameI_nat k)
      have hk : k < 17 := by omega
      go_enter Tryz.func63, Tryz.ntmps63
      go_wp2_with fail
      refine (refNames _).mono ?_
      rintro e w1 ⟨v, rfl, hown, hb⟩
      have B := Lib.hid hb
      rcases hown.shape with ⟨_, hl⟩ | ⟨g, cap, rfl, _, hg, hlc, hcap, hcell⟩
      · exact absurd hl (by decide)
      · obtain ⟨sx, hsx, ex⟩ := exists_bytes (Kw.name k)
        have hc : w1.cell? ⟨g, k, none⟩ = some (str (Kw.name k)) := hcell k _ (by unfold Kw.name List.getD; rw [List.getElem?_eq_getElem (show k < Kw.names.length from hk)]; rfl)
        rw [ex] at hc
        have HX := Lib.hid ex
        have hl : Kw.names.length = 17 := rfl
        rw [hl] at hlc
        clear hown hb hcell hsx ex
        rw [hl]
        clear hl
        go_wp2_with fail
        go_ret
        exact ⟨by rw [HN.out, HX.out]; rfl, B.out⟩
    · have HN := Lib.hid (Kw.nameI_out (i := i) (.inr (by omega)))
      go_enter Tryz.func63, Tryz.ntmps63
      go_wp2_with fail
      go_ret
      exact ⟨by rw [HN.out]; rfl, Below.refl _ _⟩
end Go.Proofs.YtkohfomiigcifaaGreatDoor
