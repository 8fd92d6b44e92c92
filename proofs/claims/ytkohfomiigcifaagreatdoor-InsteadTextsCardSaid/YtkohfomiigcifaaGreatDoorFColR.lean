/-
  CONTRACT OF LAYER 9's REFERENCE that layer 13 reaches: Name. By an AI agent.
-/
import Derived.Test.YtkohfomiigcifaaGreatDoorFCol
namespace Go.Proofs.YtkohfomiigcifaaGreatDoor
open Go.RowKit
open Wd (Bs)

set_option maxRecDepth 100000 in
theorem refName9 (i : Int) (w : World) :
    Calls Tryz.prog 62 #[.int .i64 i] w fun e w' => e = .returned (str (Col.nameI i)) ∧ w = w' := by
  by_cases e0 : i = 0
  · subst e0
    go_enter Tryz.func62, Tryz.ntmps62
    go_wp2
    go_ret
    exact ⟨rfl, rfl⟩
  by_cases e1 : i = 1
  · subst e1
    go_enter Tryz.func62, Tryz.ntmps62
    go_wp2
    go_ret
    exact ⟨rfl, rfl⟩
  by_cases e2 : i = 2
  · subst e2
    go_enter Tryz.func62, Tryz.ntmps62
    go_wp2
    go_ret
    exact ⟨rfl, rfl⟩
  by_cases e3 : i = 3
  · subst e3
    go_enter Tryz.func62, Tryz.ntmps62
    go_wp2
    go_ret
    exact ⟨rfl, rfl⟩
  by_cases e4 : i = 4
  · subst e4
    go_enter Tryz.func62, Tryz.ntmps62
    go_wp2
    go_ret
    exact ⟨rfl, rfl⟩
  have HN := Lib.hid (Col.nameI_out (i := i) (by omega))
  have t0 : (i == 0) = false := by simpa using e0
  have t1 : (i == 1) = false := by simpa using e1
  have t2 : (i == 2) = false := by simpa using e2
  have t3 : (i == 3) = false := by simpa using e3
  have t4 : (i == 4) = false := by simpa using e4
  go_enter Tryz.func62, Tryz.ntmps62
  go_wp2
  go_ret
  exact ⟨by rw [HN.out]; rfl, rfl⟩
end Go.Proofs.YtkohfomiigcifaaGreatDoor
