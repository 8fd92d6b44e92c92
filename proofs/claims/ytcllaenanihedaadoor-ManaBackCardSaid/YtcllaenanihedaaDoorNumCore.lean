/-
  CONTRACTS OF LAYER 1 (num), Clamp, Add and Mul, AND OF ITS REFERENCE, over this program. By an AI agent.
-/
import Derived.Test.YtcllaenanihedaaDoorNumPlain
import Derived.Test.YtcllaenanihedaaDoorProg
import Derived.WalkKit
import Derived.WalkLawsBesides
import Derived.BigQuiet
import Derived.Deep.QuietTactic
import Derived.Handy
namespace Go.Proofs.YtcllaenanihedaaDoor
open Go.RowKit Go.Lib

theorem ret_int {k : IntKind} {a b : Int} (h : a = b) : Ending.returned (.int k a) = .returned (.int k b) := by rw [h]
theorem ret_bool {a b : Bool} (h : a = b) : Ending.returned (.bool a) = .returned (.bool b) := by rw [h]

set_option maxRecDepth 100000 in
theorem numClamp (n : Int) (w : World) :
    Calls Tryd.prog 52 #[.int .i64 n] w fun e w' => e = .returned (.int .i64 (Num.clampI n)) ∧ w = w' := by
  rcases (show 1000000 < n ∨ n < -1000000 ∨ (-1000000 ≤ n ∧ n ≤ 1000000) by omega) with h | h | ⟨h, h'⟩
  · rw [Num.clampI_hi h]
    go_enter Tryd.func52, Tryd.ntmps52
    go_wp2
    all_goals (go_ret; exact ⟨rfl, rfl⟩)
  · rw [Num.clampI_lo h]
    go_enter Tryd.func52, Tryd.ntmps52
    go_wp2
    all_goals (go_ret; exact ⟨rfl, rfl⟩)
  · rw [Num.clampI_in h h']
    go_enter Tryd.func52, Tryd.ntmps52
    go_wp2
    all_goals (go_ret; exact ⟨ret_int (by omega), rfl⟩)
set_option maxRecDepth 100000 in
theorem refClamp (n : Int) (w : World) :
    Calls Tryd.prog 53 #[.int .i64 n] w fun e w' => e = .returned (.int .i64 (Num.clampI n)) ∧ w = w' := by
  rcases (show 1000000 < n ∨ n < -1000000 ∨ (-1000000 ≤ n ∧ n ≤ 1000000) by omega) with h | h | ⟨h, h'⟩
  · rw [Num.clampI_hi h]
    go_enter Tryd.func53, Tryd.ntmps53
    go_wp2
    all_goals (go_ret; exact ⟨rfl, rfl⟩)
  · rw [Num.clampI_lo h]
    go_enter Tryd.func53, Tryd.ntmps53
    go_wp2
    all_goals (go_ret; exact ⟨rfl, rfl⟩)
  · rw [Num.clampI_in h h']
    go_enter Tryd.func53, Tryd.ntmps53
    go_wp2
    all_goals (go_ret; exact ⟨ret_int (by omega), rfl⟩)

set_option maxRecDepth 100000 in
theorem numAdd (a b : Int) (w : World) :
    Calls Tryd.prog 35 #[.int .i64 a, .int .i64 b] w fun e w' => e = .returned (.int .i64 (Num.clampI (Num.clampI a + Num.clampI b))) ∧ w = w' := by
  obtain ⟨a0, a1⟩ := Num.clampI_bd a
  obtain ⟨b0, b1⟩ := Num.clampI_bd b
  go_enter Tryd.func35, Tryd.ntmps35
  go_wp2_with (go_at_call 52; refine (numClamp _ _).mono ?_; rintro e w' ⟨rfl, rfl⟩)
  go_ret
  exact ⟨rfl, rfl⟩
set_option maxRecDepth 100000 in
theorem refAdd (a b : Int) (w : World) :
    Calls Tryd.prog 37 #[.int .i64 a, .int .i64 b] w fun e w' => e = .returned (.int .i64 (Num.clampI (Num.clampI a + Num.clampI b))) ∧ w = w' := by
  obtain ⟨a0, a1⟩ := Num.clampI_bd a
  obtain ⟨b0, b1⟩ := Num.clampI_bd b
  go_enter Tryd.func37, Tryd.ntmps37
  go_wp2_with (go_at_call 53; refine (refClamp _ _).mono ?_; rintro e w' ⟨rfl, rfl⟩)
  go_ret
  exact ⟨rfl, rfl⟩
set_option maxRecDepth 100000 in
theorem numMul (a b : Int) (w : World) :
    Calls Tryd.prog 36 #[.int .i64 a, .int .i64 b] w fun e w' => e = .returned (.int .i64 (Num.clampI (Num.clampI a * Num.clampI b))) ∧ w = w' := by
  obtain ⟨p0, p1⟩ := Num.mul_bd (Num.clampI_bd a) (Num.clampI_bd b)
  go_enter Tryd.func36, Tryd.ntmps36
  go_wp2_with (go_at_call 52; refine (numClamp _ _).mono ?_; rintro e w' ⟨rfl, rfl⟩)
  go_ret
  exact ⟨rfl, rfl⟩
set_option maxRecDepth 100000 in
theorem refMul (a b : Int) (w : World) :
    Calls Tryd.prog 38 #[.int .i64 a, .int .i64 b] w fun e w' => e = .returned (.int .i64 (Num.clampI (Num.clampI a * Num.clampI b))) ∧ w = w' := by
  obtain ⟨p0, p1⟩ := Num.mul_bd (Num.clampI_bd a) (Num.clampI_bd b)
  go_enter Tryd.func38, Tryd.ntmps38
  go_wp2_with (go_at_call 53; refine (refClamp _ _).mono ?_; rintro e w' ⟨rfl, rfl⟩)
  go_ret
  exact ⟨rfl, rfl⟩
end Go.Proofs.YtcllaenanihedaaDoor
