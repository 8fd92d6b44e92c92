/-
  CONTRACTS OF LAYER 9 (color): Count, and the reference's Count and Text. By an AI agent.
-/
import Derived.Test.YtoedminkaimfcaaDoorColWalks
import Derived.Test.YtoedminkaimfcaaDoorNumBits
namespace Go.Proofs.YtoedminkaimfcaaDoor
open Go.RowKit

set_option maxRecDepth 100000 in
theorem colorCount (m : Int) (w : World) :
    Calls Tryd.prog 12 #[.int .i64 m] w fun e w' => e = .returned (.int .i64 (Col.countI m)) ∧ Below w.heap.size w w' := by
  rcases Col.valid_cases m with ⟨k, rfl, hk, hv⟩ | ⟨_, hv⟩
  · have HV := Lib.hid hv
    have HC := Lib.hid (Col.countI_nat hk)
    have hk' : (k : Int) ≤ 9223372036854775807 := by omega
    clear hv
    go_enter Tryd.func12, Tryd.ntmps12
    go_wp2_with fail
    refine (colorIs _ _).mono ?_
    rw [HV.out]
    rintro e w1 ⟨rfl, rfl⟩
    go_wp2_with fail
    refine (numBits k hk' _).mono ?_
    rintro e w1 ⟨v, rfl, hown, hb⟩
    rcases hown.shape with ⟨rfl, hl⟩ | ⟨g, cap, rfl, -⟩
    · have HL := Lib.hid hl
      clear hl hown
      go_wp2_with fail
      go_ret
      exact ⟨ret_int (by rw [HC.out, HL.out]; rfl), hb⟩
    · go_wp2_with fail
      go_ret
      exact ⟨ret_int (by rw [HC.out]), hb⟩
  · have HV := Lib.hid hv
    have HC := Lib.hid (Col.countI_bad hv)
    clear hv
    go_enter Tryd.func12, Tryd.ntmps12
    go_wp2_with fail
    refine (colorIs _ _).mono ?_
    rw [HV.out]
    rintro e w1 ⟨rfl, rfl⟩
    go_wp2_with fail
    go_ret
    exact ⟨ret_int HC.out.symm, Below.refl _ _⟩
theorem pow_bits (k : Nat) (hk : k < 5) : wrap64 ((2 : Int) ^ k) = 2 ^ k := by
  match k, hk with
  | 0, _ => exact IntWalk.wrap64_in _ (by decide)
  | 1, _ => exact IntWalk.wrap64_in _ (by decide)
  | 2, _ => exact IntWalk.wrap64_in _ (by decide)
  | 3, _ => exact IntWalk.wrap64_in _ (by decide)
  | 4, _ => exact IntWalk.wrap64_in _ (by decide)
theorem pow_some (k : Nat) (hk : k < 5) : ¬ wrap64 ((2 : Int) ^ k) = 0 := by
  rw [pow_bits k hk]
  match k, hk with
  | 0, _ => decide
  | 1, _ => decide
  | 2, _ => decide
  | 3, _ => decide
  | 4, _ => decide
theorem quo_test (m k : Nat) (hm : m ≤ 31) (hk : k < 5) : ((wrap64 ((m : Int) / wrap64 ((2 : Int) ^ k))).tmod 2 == 1) = Num.bitB m k := by
  rw [pow_bits k hk]
  have e : ((m : Int) / 2 ^ k) = ((m / 2 ^ k : Nat) : Int) := by simp
  have hle : m / 2 ^ k ≤ m := Nat.div_le_self _ _
  rw [e]
  unfold Num.bitB
  generalize m / 2 ^ k = q at *
  rw [IntWalk.wrap64_in (q : Int) ⟨by omega, by omega⟩, Int.tmod_eq_emod_of_nonneg (by omega), Num.half_test]
set_option maxRecDepth 100000 in
theorem refCount9 (m : Int) (w : World) :
    Calls Tryd.prog 13 #[.int .i64 m] w fun e w' => e = .returned (.int .i64 (Col.countI m)) ∧ w = w' := by
  rcases Col.valid_cases m with ⟨m, rfl, hk, hv⟩ | ⟨_, hv⟩
  · have HV := Lib.hid hv
    have HC := Lib.hid ((Col.countI_nat hk).trans (by rw [Col.bits_five hk]))
    clear hv
    go_enter Tryd.func13, Tryd.ntmps13
    go_wp2_with fail
    go_loop [3, 4] (fun n i => ∃ k : Nat, k ≤ 5 ∧ i = .int .i64 (k : Int) ∧ n = .int .i64 ((Num.bitsL m k).length : Int)) (fun _ i => 5 - (intOf i).toNat)
    case atStart => exact ⟨0, by omega, rfl, rfl⟩
    case round =>
      obtain ⟨k, hk5, rfl, rfl⟩ := hrel
      have hlen := Num.bitsL_len m k
      by_cases hlt : k < 5
      · cases hbit : Num.bitB m k with
        | false =>
          have hz := pow_some k hlt
          have ht := (quo_test m k hk hlt).trans hbit
          have HB := Lib.hid (Num.bitsL_no hbit)
          clear hbit
          go_wp2_with fail
          refine (refIs9 _ _).mono ?_
          rw [HV.out]
          rintro e w1 ⟨rfl, rfl⟩
          go_wp2_with fail
          go_round
          case rel => exact ⟨k + 1, by omega, by go_num, by rw [HB.out]⟩
          case measure => simp [intOf]; omega
        | true =>
          have hz := pow_some k hlt
          have ht := (quo_test m k hk hlt).trans hbit
          have HB := Lib.hid (congrArg List.length (Num.bitsL_yes hbit))
          clear hbit
          go_wp2_with fail
          refine (refIs9 _ _).mono ?_
          rw [HV.out]
          rintro e w1 ⟨rfl, rfl⟩
          go_wp2_with fail
          go_round
          case rel => exact ⟨k + 1, by omega, by go_num, by rw [HB.out, List.length_append]; rfl⟩
          case measure => simp [intOf]; omega
      · obtain rfl : k = 5 := by omega
        go_wp2_with fail
        go_ret
        exact ⟨ret_int HC.out.symm, rfl⟩
  · have HV := Lib.hid hv
    have HC := Lib.hid (Col.countI_bad hv)
    clear hv
    go_enter Tryd.func13, Tryd.ntmps13
    go_wp2_with fail
    refine wp_loop_rounds 1 ?_
    rw [rounds_succ]
    go_wp2_with fail
    refine (refIs9 _ _).mono ?_
    rw [HV.out]
    rintro e w1 ⟨rfl, rfl⟩
    go_wp2_with fail
    go_ret
    exact ⟨ret_int HC.out.symm, rfl⟩
end Go.Proofs.YtoedminkaimfcaaDoor
