/-
  CONTRACTS OF LAYER 6 (dice) AND OF ITS REFERENCE: Next, Below. By an AI agent.
-/
import Derived.Test.YtllihnlljgdigaaRowI
import Derived.Test.YtllihnlljgdigaaDicePlain
import Derived.Deep.QuietTactic
import Derived.BigQuiet
import Derived.Deep.LoopGhost
import Derived.WalkMore
import Derived.IntWalk
namespace Go.Proofs.Ytllihnlljgdigaa
open Go.RowKit

def two (a b : Int) : Ending := .returned (.tuple #[.int .u64 a, .int .u64 b])
def pair (a b : Int) : Ending := .returned (.tuple #[.int .i64 a, .int .u64 b])
theorem two_of {a b c d : Int} (h1 : a = c) (h2 : b = d) : Ending.returned (.tuple #[.int .u64 a, .int .u64 b]) = two c d := by rw [h1, h2]; rfl
theorem pair_of {a b c d : Int} (h1 : a = c) (h2 : b = d) : Ending.returned (.tuple #[.int .i64 a, .int .u64 b]) = pair c d := by rw [h1, h2]; rfl
set_option maxHeartbeats 1000000 in
set_option maxRecDepth 100000 in
theorem diceNext (x : Int) (w : World) :
    Calls Try.prog 8 #[.int .u64 x] w fun e w' => e = two (Dice.valS x) (Dice.seedS x) ∧ w = w' := by
  go_enter Try.func8, Try.ntmps8
  go_wp2
  go_ret2
  exact ⟨two_of (Dice.walked x) (Dice.walked_seed x), rfl⟩
set_option maxHeartbeats 1000000 in
set_option maxRecDepth 100000 in
theorem refNext (x : Int) (w : World) :
    Calls Try.prog 9 #[.int .u64 x] w fun e w' => e = two (Dice.valS x) (Dice.seedS x) ∧ w = w' := by
  go_enter Try.func9, Try.ntmps9
  go_wp2
  go_ret2
  exact ⟨two_of (Dice.walked x) (Dice.walked_seed x), rfl⟩
set_option maxHeartbeats 1000000 in
set_option maxRecDepth 100000 in
theorem diceBelow (x n : Int) (w : World) (lo : -9223372036854775808 ≤ n) (hi : n ≤ 9223372036854775807) :
    Calls Try.prog 11 #[.int .u64 x, .int .i64 n] w fun e w' => e = pair (Dice.belowV x n) (Dice.belowS x n) ∧ w = w' := by
  by_cases h : n < 1
  · have HV : Hid (Dice.belowV x n = 0) := Lib.hid (by unfold Dice.belowV; rw [if_pos h])
    have HS : Hid (Dice.belowS x n = x) := Lib.hid (by unfold Dice.belowS; rw [if_pos h])
    go_enter Try.func11, Try.ntmps11
    go_wp2
    go_ret2
    exact ⟨pair_of HV.out.symm HS.out.symm, rfl⟩
  · have HV : Hid (Dice.belowV x n = Dice.valS x % n) := Lib.hid (by unfold Dice.belowV; rw [if_neg h])
    have HS : Hid (Dice.belowS x n = Dice.seedS x) := Lib.hid (by unfold Dice.belowS; rw [if_neg h])
    have hv := Dice.val_bounds x
    have hn1 : (1 : Int) ≤ n := by omega
    go_enter Try.func11, Try.ntmps11
    go_wp2_with fail
    refine (diceNext x _).mono ?_
    generalize Dice.valS x = z at hv HV ⊢
    have hz0 : 0 ≤ z % n := Int.emod_nonneg _ (by omega)
    have hz1 : z % n < n := Int.emod_lt_of_pos _ (by omega)
    unfold two
    rintro e w1 ⟨rfl, rfl⟩
    go_wp2
    go_ret2
    exact ⟨pair_of HV.out.symm HS.out.symm, rfl⟩
set_option maxHeartbeats 1000000 in
set_option maxRecDepth 100000 in
theorem refBelow (x n : Int) (w : World) (lo : -9223372036854775808 ≤ n) (hi : n ≤ 9223372036854775807) :
    Calls Try.prog 12 #[.int .u64 x, .int .i64 n] w fun e w' => e = pair (Dice.belowV x n) (Dice.belowS x n) ∧ w = w' := by
  by_cases h : n < 1
  · have HV : Hid (Dice.belowV x n = 0) := Lib.hid (by unfold Dice.belowV; rw [if_pos h])
    have HS : Hid (Dice.belowS x n = x) := Lib.hid (by unfold Dice.belowS; rw [if_pos h])
    go_enter Try.func12, Try.ntmps12
    go_wp2
    go_ret2
    exact ⟨pair_of HV.out.symm HS.out.symm, rfl⟩
  · have HV : Hid (Dice.belowV x n = Dice.valS x % n) := Lib.hid (by unfold Dice.belowV; rw [if_neg h])
    have HS : Hid (Dice.belowS x n = Dice.seedS x) := Lib.hid (by unfold Dice.belowS; rw [if_neg h])
    have hv := Dice.val_bounds x
    have hn1 : (1 : Int) ≤ n := by omega
    go_enter Try.func12, Try.ntmps12
    go_wp2_with fail
    refine (refNext x _).mono ?_
    generalize Dice.valS x = z at hv HV ⊢
    have hz0 : 0 ≤ z % n := Int.emod_nonneg _ (by omega)
    have hz1 : z % n < n := Int.emod_lt_of_pos _ (by omega)
    unfold two
    rintro e w1 ⟨rfl, rfl⟩
    go_wp2
    go_ret2
    exact ⟨pair_of HV.out.symm HS.out.symm, rfl⟩
end Go.Proofs.Ytllihnlljgdigaa
