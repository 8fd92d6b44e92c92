/-
  CONTRACTS OF LAYER 1 (num) AND OF ITS REFERENCE, over this program. By an AI agent.
-/
import Derived.Test.YtbobapnenadopaaDoorNumPlain
import Derived.Test.YtbobapnenadopaaDoorProg
import Derived.WalkKit
import Derived.WalkLawsBesides
import Derived.BigQuiet
import Derived.Deep.QuietTactic
import Derived.Handy
namespace Go.Proofs.YtbobapnenadopaaDoor
open Go.RowKit Go.Lib

theorem ret_int {k : IntKind} {a b : Int} (h : a = b) : Ending.returned (.int k a) = .returned (.int k b) := by rw [h]
theorem ret_bool {a b : Bool} (h : a = b) : Ending.returned (.bool a) = .returned (.bool b) := by rw [h]

set_option maxRecDepth 100000 in
theorem numClamp (n : Int) (w : World) :
    Calls Tryd.prog 10 #[.int .i64 n] w fun e w' => e = .returned (.int .i64 (Num.clampI n)) ∧ w = w' := by
  rcases (show 1000000 < n ∨ n < -1000000 ∨ (-1000000 ≤ n ∧ n ≤ 1000000) by omega) with h | h | ⟨h, h'⟩
  · rw [Num.clampI_hi h]
    go_enter Tryd.func10, Tryd.ntmps10
    go_wp2
    all_goals (go_ret; exact ⟨rfl, rfl⟩)
  · rw [Num.clampI_lo h]
    go_enter Tryd.func10, Tryd.ntmps10
    go_wp2
    all_goals (go_ret; exact ⟨rfl, rfl⟩)
  · rw [Num.clampI_in h h']
    go_enter Tryd.func10, Tryd.ntmps10
    go_wp2
    all_goals (go_ret; exact ⟨ret_int (by omega), rfl⟩)
set_option maxRecDepth 100000 in
theorem refClamp (n : Int) (w : World) :
    Calls Tryd.prog 11 #[.int .i64 n] w fun e w' => e = .returned (.int .i64 (Num.clampI n)) ∧ w = w' := by
  rcases (show 1000000 < n ∨ n < -1000000 ∨ (-1000000 ≤ n ∧ n ≤ 1000000) by omega) with h | h | ⟨h, h'⟩
  · rw [Num.clampI_hi h]
    go_enter Tryd.func11, Tryd.ntmps11
    go_wp2
    all_goals (go_ret; exact ⟨rfl, rfl⟩)
  · rw [Num.clampI_lo h]
    go_enter Tryd.func11, Tryd.ntmps11
    go_wp2
    all_goals (go_ret; exact ⟨rfl, rfl⟩)
  · rw [Num.clampI_in h h']
    go_enter Tryd.func11, Tryd.ntmps11
    go_wp2
    all_goals (go_ret; exact ⟨ret_int (by omega), rfl⟩)

set_option maxRecDepth 100000 in
theorem numAdd (a b : Int) (w : World) :
    Calls Tryd.prog 12 #[.int .i64 a, .int .i64 b] w fun e w' => e = .returned (.int .i64 (Num.clampI (Num.clampI a + Num.clampI b))) ∧ w = w' := by
  obtain ⟨a0, a1⟩ := Num.clampI_bd a
  obtain ⟨b0, b1⟩ := Num.clampI_bd b
  go_enter Tryd.func12, Tryd.ntmps12
  go_wp2_with (go_at_call 10; refine (numClamp _ _).mono ?_; rintro e w' ⟨rfl, rfl⟩)
  go_ret
  exact ⟨rfl, rfl⟩
set_option maxRecDepth 100000 in
theorem refAdd (a b : Int) (w : World) :
    Calls Tryd.prog 13 #[.int .i64 a, .int .i64 b] w fun e w' => e = .returned (.int .i64 (Num.clampI (Num.clampI a + Num.clampI b))) ∧ w = w' := by
  obtain ⟨a0, a1⟩ := Num.clampI_bd a
  obtain ⟨b0, b1⟩ := Num.clampI_bd b
  go_enter Tryd.func13, Tryd.ntmps13
  go_wp2_with (go_at_call 11; refine (refClamp _ _).mono ?_; rintro e w' ⟨rfl, rfl⟩)
  go_ret
  exact ⟨rfl, rfl⟩
set_option maxRecDepth 100000 in
theorem numSub (a b : Int) (w : World) :
    Calls Tryd.prog 14 #[.int .i64 a, .int .i64 b] w fun e w' => e = .returned (.int .i64 (Num.clampI (Num.clampI a - Num.clampI b))) ∧ w = w' := by
  obtain ⟨a0, a1⟩ := Num.clampI_bd a
  obtain ⟨b0, b1⟩ := Num.clampI_bd b
  go_enter Tryd.func14, Tryd.ntmps14
  go_wp2_with (go_at_call 10; refine (numClamp _ _).mono ?_; rintro e w' ⟨rfl, rfl⟩)
  go_ret
  exact ⟨rfl, rfl⟩
set_option maxRecDepth 100000 in
theorem refSub (a b : Int) (w : World) :
    Calls Tryd.prog 15 #[.int .i64 a, .int .i64 b] w fun e w' => e = .returned (.int .i64 (Num.clampI (Num.clampI a - Num.clampI b))) ∧ w = w' := by
  obtain ⟨a0, a1⟩ := Num.clampI_bd a
  obtain ⟨b0, b1⟩ := Num.clampI_bd b
  go_enter Tryd.func15, Tryd.ntmps15
  go_wp2_with (go_at_call 11; refine (refClamp _ _).mono ?_; rintro e w' ⟨rfl, rfl⟩)
  go_ret
  exact ⟨rfl, rfl⟩
set_option maxRecDepth 100000 in
theorem numMul (a b : Int) (w : World) :
    Calls Tryd.prog 16 #[.int .i64 a, .int .i64 b] w fun e w' => e = .returned (.int .i64 (Num.clampI (Num.clampI a * Num.clampI b))) ∧ w = w' := by
  obtain ⟨p0, p1⟩ := Num.mul_bd (Num.clampI_bd a) (Num.clampI_bd b)
  go_enter Tryd.func16, Tryd.ntmps16
  go_wp2_with (go_at_call 10; refine (numClamp _ _).mono ?_; rintro e w' ⟨rfl, rfl⟩)
  go_ret
  exact ⟨rfl, rfl⟩
set_option maxRecDepth 100000 in
theorem refMul (a b : Int) (w : World) :
    Calls Tryd.prog 17 #[.int .i64 a, .int .i64 b] w fun e w' => e = .returned (.int .i64 (Num.clampI (Num.clampI a * Num.clampI b))) ∧ w = w' := by
  obtain ⟨p0, p1⟩ := Num.mul_bd (Num.clampI_bd a) (Num.clampI_bd b)
  go_enter Tryd.func17, Tryd.ntmps17
  go_wp2_with (go_at_call 11; refine (refClamp _ _).mono ?_; rintro e w' ⟨rfl, rfl⟩)
  go_ret
  exact ⟨rfl, rfl⟩
set_option maxRecDepth 100000 in
theorem numHalf (a : Int) (up : Bool) (w : World) :
    Calls Tryd.prog 18 #[.int .i64 a, .bool up] w fun e w' => e = .returned (.int .i64 (Num.halfI a up)) ∧ w = w' := by
  obtain ⟨a0, a1⟩ := Num.clampI_bd a
  cases up
  all_goals
    go_enter Tryd.func18, Tryd.ntmps18
    go_wp2_with (go_at_call 10; refine (numClamp _ _).mono ?_; rintro e w' ⟨rfl, rfl⟩)
    go_ret
    exact ⟨ret_int (by unfold Num.halfI; simp <;> omega), rfl⟩
set_option maxRecDepth 100000 in
theorem refHalf (a : Int) (up : Bool) (w : World) :
    Calls Tryd.prog 19 #[.int .i64 a, .bool up] w fun e w' => e = .returned (.int .i64 (Num.halfI a up)) ∧ w = w' := by
  obtain ⟨a0, a1⟩ := Num.clampI_bd a
  rcases Int.lt_or_le (Num.clampI a) 0 with hs | hs
  · obtain ⟨b0, b1⟩ := Num.tdiv2_bd hs a0
    cases up
    all_goals
      go_enter Tryd.func19, Tryd.ntmps19
      go_wp2_with (go_at_call 11; refine (refClamp _ _).mono ?_; rintro e w' ⟨rfl, rfl⟩)
      all_goals (go_ret; exact ⟨ret_int (by have := Num.tdiv2 hs; unfold Num.halfI; simp <;> omega), rfl⟩)
  · cases up
    all_goals
      go_enter Tryd.func19, Tryd.ntmps19
      go_wp2_with (go_at_call 11; refine (refClamp _ _).mono ?_; rintro e w' ⟨rfl, rfl⟩)
      all_goals (go_ret; exact ⟨ret_int (by unfold Num.halfI; simp <;> omega), rfl⟩)
set_option maxRecDepth 100000 in
theorem numMeets (k m n : Int) (w : World) :
    Calls Tryd.prog 26 #[.agg #[.int .i64 k, .int .i64 m], .int .i64 n] w fun e w' => e = .returned (.bool (Num.meetsB k m n)) ∧ Below w.heap.size w w' := by
  rcases (show k = 0 ∨ k = 1 ∨ k = 2 ∨ k = 3 ∨ (¬ k = 0 ∧ ¬ k = 1 ∧ ¬ k = 2 ∧ ¬ k = 3) by omega) with rfl | rfl | rfl | rfl | ⟨k0, k1, k2, k3⟩
  all_goals
    go_enter Tryd.func26, Tryd.ntmps26
    go_wp2
    all_goals go_ret
    all_goals exact ⟨ret_bool (by simp [Num.meetsB, *]), by go_grown⟩
set_option maxRecDepth 100000 in
theorem refMeets (k m n : Int) (w : World) :
    Calls Tryd.prog 27 #[.agg #[.int .i64 k, .int .i64 m], .int .i64 n] w fun e w' => e = .returned (.bool (Num.meetsB k m n)) ∧ Below w.heap.size w w' := by
  rcases (show k = 0 ∨ k = 1 ∨ k = 2 ∨ k = 3 ∨ (¬ k = 0 ∧ ¬ k = 1 ∧ ¬ k = 2 ∧ ¬ k = 3) by omega) with rfl | rfl | rfl | rfl | ⟨k0, k1, k2, k3⟩
  all_goals
    go_enter Tryd.func27, Tryd.ntmps27
    go_wp2
    all_goals go_ret
    all_goals exact ⟨ret_bool (by simp [Num.meetsB, *]), by go_grown⟩
end Go.Proofs.YtbobapnenadopaaDoor
