/-
  CONTRACTS OF LAYER 1 (num), Clamp, Add and Sub, AND OF ITS REFERENCE, over this program. By an AI agent.
-/
import Derived.Test.YtgljibplhiabgaaDoorNumPlain
import Derived.Test.YtgljibplhiabgaaDoorProg
import Derived.WalkKit
import Derived.WalkLawsBesides
import Derived.BigQuiet
import Derived.Deep.QuietTactic
import Derived.Handy
namespace Go.Proofs.YtgljibplhiabgaaDoor
open Go.RowKit
open Go.Lib


theorem ret_int {k : IntKind} {a b : Int} (h : a = b) : Ending.returned (.int k a) = .returned (.int k b) := by rw [h]
theorem ret_bool {a b : Bool} (h : a = b) : Ending.returned (.bool a) = .returned (.bool b) := by rw [h]

set_option maxRecDepth 100000 in
theorem numClamp (n : Int) (w : World) :
    Calls Tryd.prog 29 #[.int .i64 n] w fun e w' => e = .returned (.int .i64 (Num.clampI n)) ∧ w = w' := by
  rcases (show 1000000 < n ∨ n < -1000000 ∨ (-1000000 ≤ n ∧ n ≤ 1000000) by omega) with h | h | ⟨h, h'⟩
  · rw [Num.clampI_hi h]
    go_enter Tryd.func29, Tryd.ntmps29
    go_wp2
    all_goals (go_ret; exact ⟨rfl, rfl⟩)
  · rw [Num.clampI_lo h]
    go_enter Tryd.func29, Tryd.ntmps29
    go_wp2
    all_goals (go_ret; exact ⟨rfl, rfl⟩)
  · rw [Num.clampI_in h h']
    go_enter Tryd.func29, Tryd.ntmps29
    go_wp2
    all_goals (go_ret; exact ⟨ret_int (by omega), rfl⟩)
set_option maxRecDepth 100000 in
theorem refClamp (n : Int) (w : World) :
    Calls Tryd.prog 30 #[.int .i64 n] w fun e w' => e = .returned (.int .i64 (Num.clampI n)) ∧ w = w' := by
  rcases (show 1000000 < n ∨ n < -1000000 ∨ (-1000000 ≤ n ∧ n ≤ 1000000) by omega) with h | h | ⟨h, h'⟩
  · rw [Num.clampI_hi h]
    go_enter Tryd.func30, Tryd.ntmps30
    go_wp2
    all_goals (go_ret; exact ⟨rfl, rfl⟩)
  · rw [Num.clampI_lo h]
    go_enter Tryd.func30, Tryd.ntmps30
    go_wp2
    all_goals (go_ret; exact ⟨rfl, rfl⟩)
  · rw [Num.clampI_in h h']
    go_enter Tryd.func30, Tryd.ntmps30
    go_wp2
    all_goals (go_ret; exact ⟨ret_int (by omega), rfl⟩)

set_option maxRecDepth 100000 in
theorem numAdd (a b : Int) (w : World) :
    Calls Tryd.prog 25 #[.int .i64 a, .int .i64 b] w fun e w' => e = .returned (.int .i64 (Num.clampI (Num.clampI a + Num.clampI b))) ∧ w = w' := by
  obtain ⟨a0, a1⟩ := Num.clampI_bd a
  obtain ⟨b0, b1⟩ := Num.clampI_bd b
  go_enter Tryd.func25, Tryd.ntmps25
  go_wp2_with (go_at_call 29; refine (numClamp _ _).mono ?_; rintro e w' ⟨rfl, rfl⟩)
  go_ret
  exact ⟨rfl, rfl⟩
set_option maxRecDepth 100000 in
theorem refAdd (a b : Int) (w : World) :
    Calls Tryd.prog 26 #[.int .i64 a, .int .i64 b] w fun e w' => e = .returned (.int .i64 (Num.clampI (Num.clampI a + Num.clampI b))) ∧ w = w' := by
  obtain ⟨a0, a1⟩ := Num.clampI_bd a
  obtain ⟨b0, b1⟩ := Num.clampI_bd b
  go_enter Tryd.func26, Tryd.ntmps26
  go_wp2_with (go_at_call 30; refine (refClamp _ _).mono ?_; rintro e w' ⟨rfl, rfl⟩)
  go_ret
  exact ⟨rfl, rfl⟩

set_option maxRecDepth 100000 in
theorem numSub (a b : Int) (w : World) :
    Calls Tryd.prog 27 #[.int .i64 a, .int .i64 b] w fun e w' => e = .returned (.int .i64 (Num.clampI (Num.clampI a - Num.clampI b))) ∧ w = w' := by
  obtain ⟨a0, a1⟩ := Num.clampI_bd a
  obtain ⟨b0, b1⟩ := Num.clampI_bd b
  go_enter Tryd.func27, Tryd.ntmps27
  go_wp2_with (go_at_call 29; refine (numClamp _ _).mono ?_; rintro e w' ⟨rfl, rfl⟩)
  go_ret
  exact ⟨rfl, rfl⟩
set_option maxRecDepth 100000 in
theorem refSub (a b : Int) (w : World) :
    Calls Tryd.prog 28 #[.int .i64 a, .int .i64 b] w fun e w' => e = .returned (.int .i64 (Num.clampI (Num.clampI a - Num.clampI b))) ∧ w = w' := by
  obtain ⟨a0, a1⟩ := Num.clampI_bd a
  obtain ⟨b0, b1⟩ := Num.clampI_bd b
  go_enter Tryd.func28, Tryd.ntmps28
  go_wp2_with (go_at_call 30; refine (refClamp _ _).mono ?_; rintro e w' ⟨rfl, rfl⟩)
  go_ret
  exact ⟨rfl, rfl⟩
end Go.Proofs.YtgljibplhiabgaaDoor
