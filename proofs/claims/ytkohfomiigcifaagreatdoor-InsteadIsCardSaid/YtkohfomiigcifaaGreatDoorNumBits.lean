/-
  CONTRACT OF LAYER 1 (num): Bits of the program. By an AI agent.
-/
import Derived.Test.YtkohfomiigcifaaGreatDoorNumPlain
import Derived.Test.YtkohfomiigcifaaGreatDoorOwn
import Derived.WalkKit
import Derived.WalkLawsBesides
import Derived.BigQuiet
import Derived.Handy
import Derived.Lib.Hide
namespace Go.Proofs.YtkohfomiigcifaaGreatDoor
open Go.RowKit

/-- what Bits leaves: a row of its own that holds l -/
def IntsRes (l : List Int) (w : World) (e : Ending) (w' : World) : Prop := ∃ v, e = .returned v ∧ OwnInts w.heap.size w' v l ∧ Below w.heap.size w w'

set_option maxRecDepth 100000 in
theorem numBitsNeg (n : Int) (hn : n < 0) (w : World) :
    Calls Tryz.prog 120 #[.int .i64 n] w (IntsRes [] w) := by
  go_enter Tryz.func120, Tryz.ntmps120
  go_wp2
  go_ret
  exact ⟨_, rfl, OwnInts.nil _ _, Below.refl _ _⟩
set_option maxRecDepth 100000 in
theorem numBits (n : Nat) (hn : (n : Int) ≤ 9223372036854775807) (w : World) :
    Calls Tryz.prog 120 #[.int .i64 n] w (IntsRes (Num.bitsL n 31) w) := by
  go_enter Tryz.func120, Tryz.ntmps120
  go_wp2
  go_loopw [3, 8] (fun v i wr => ∃ k : Nat, (k : Int) ≤ 31 ∧ i = .int .i64 k ∧ OwnInts w.heap.size wr v (Num.bitsL n k) ∧ Below w.heap.size w wr) (fun _ i _ => 31 - (intOf i).toNat)
  case atStart => exact ⟨0, by omega, rfl, OwnInts.nil _ _, Below.refl _ _⟩
  case round =>
    obtain ⟨k, hk, rfl, hown, hb⟩ := hrel
    by_cases hlt : (k : Int) < 31
    · have hsz := hb.size
      have hlen := Num.bitsL_len n k
      cases hbit : Num.bitB n k with
      | false =>
        have ht : (bits BinOp.and IntKind.i64 ((n : Int) / 2 ^ k) 1 == 1) = false := by rw [Num.bit_test n k hn, hbit]
        have HB := Lib.hid (Num.bitsL_no hbit)
        clear hbit
        go_wp2
        go_roundw
        case rel => exact ⟨k + 1, by omega, by go_num, by rw [HB.out]; exact hown, hb⟩
        case measure => simp [intOf]; omega
      | true =>
        have ht : (bits BinOp.and IntKind.i64 ((n : Int) / 2 ^ k) 1 == 1) = true := by rw [Num.bit_test n k hn, hbit]
        have HB := Lib.hid (Num.bitsL_yes hbit)
        clear hbit
        go_wp2_with (at_builtin; refine wpList_push_int rfl _ _ rfl rfl hown (k : Int) rfl (by omega) hsz hb ?_)
        intro v' w1 ho hb'
        clear hown hb
        go_wp2
        go_roundw
        case rel => exact ⟨k + 1, by omega, by go_num, by rw [HB.out]; exact ho, hb'⟩
        case measure => simp [intOf]; omega
    · obtain rfl : k = 31 := by omega
      go_wp2
      go_ret
      exact ⟨_, rfl, hown, hb⟩
end Go.Proofs.YtkohfomiigcifaaGreatDoor
