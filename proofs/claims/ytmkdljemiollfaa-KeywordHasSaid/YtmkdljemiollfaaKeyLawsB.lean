/-
  THE LAW KeywordHas OF LAYER 11: whether all bits of a key are set. By an AI agent.
-/
import Derived.Test.YtmkdljemiollfaaKeyLaws
namespace Go.Proofs.Ytmkdljemiollfaa
open Go.RowKit

theorem allTo_next (m k : Int) (i : Nat) : Bt.allTo m k (i + 1) = (Bt.allTo m k i && (!Bt.bitI k i || Bt.bitI m i)) := rfl
set_option maxHeartbeats 1000000 in
set_option maxRecDepth 100000 in
theorem lawKeywordHas (m : Int) (m0 : -9223372036854775808 ≤ m) (m1 : m ≤ 9223372036854775807) (k : Int) (k0 : -9223372036854775808 ≤ k) (k1 : k ≤ 9223372036854775807) (w : World) :
    Calls Try.prog 6 #[.int .i64 m, .int .i64 k] w fun e w' => e = .returned (.bool true) ∧ Below w.heap.size w w' := by
  have HALL : Hid (hasB m k = (Bt.allTo m k 63 && (decide (0 ≤ k) || decide (m < 0)))) := Lib.hid (Bt.has_all ⟨m0, m1⟩ ⟨k0, k1⟩)
  have G1 := Lib.hid (fun w => keyHas m k w)
  have G2 := Lib.hid (fun w => refHas11 m k w)
  generalize hasB m k = hb at *
  go_enter Try.func6, Try.ntmps6
  go_wp2_with fail
  go_loop [5, 7] (fun av iv => ∃ (i : Nat) (b : Bool), i ≤ 63 ∧ iv = .int .i64 (i : Int) ∧ av = .bool b ∧ Hid (b = Bt.allTo m k i)) (fun _ iv => 63 - (intOf iv).toNat)
  case atStart => exact ⟨0, true, by omega, rfl, rfl, Lib.hid rfl⟩
  case round =>
    obtain ⟨i, b, hi, rfl, rfl, HA⟩ := hrel
    by_cases hlt : i < 63
    · have z1 := Bt.bit_zero k i (by omega)
      have z2 := Bt.bit_one m i (by omega)
      have HN := Lib.hid (allTo_next m k i)
      cases b with
      | false =>
        have HF : Hid (false = Bt.allTo m k (i + 1)) := Lib.hid (by rw [HN.out, ← HA.out]; rfl)
        clear z1 z2 HA HN
        go_wp2_with fail
        go_round
        case rel => exact ⟨i + 1, false, by omega, by go_num, rfl, HF⟩
        case measure => simp [intOf]; omega
      | true =>
        cases hk : Bt.bitI k i with
        | false =>
          rw [hk] at z1
          have HF : Hid (true = Bt.allTo m k (i + 1)) := Lib.hid (by rw [HN.out, ← HA.out, hk]; rfl)
          clear z2 HA HN hk
          go_wp2_with fail
          go_round
          case rel => exact ⟨i + 1, true, by omega, by go_num, rfl, HF⟩
          case measure => simp [intOf]; omega
        | true =>
          rw [hk] at z1
          have HF : Hid (Bt.bitI m i = Bt.allTo m k (i + 1)) := Lib.hid (by rw [HN.out, ← HA.out, hk]; rfl)
          generalize Bt.bitI m i = c at *
          clear HA HN hk
          go_wp2_with fail
          go_round
          case rel => exact ⟨i + 1, c, by omega, by go_num, rfl, HF⟩
          case measure => simp [intOf]; omega
    · obtain rfl : i = 63 := by omega
      have HH : Hid (hb = (b && (decide (0 ≤ k) || decide (m < 0)))) := Lib.hid (by rw [HA.out]; exact HALL.out)
      clear HA HALL
      obtain ⟨p, hp⟩ : ∃ p : Bool, decide (0 ≤ k) = p := ⟨_, rfl⟩
      obtain ⟨q, hq⟩ : ∃ q : Bool, decide (m < 0) = q := ⟨_, rfl⟩
      rw [hp, hq] at HH
      cases b <;> cases p <;> cases q
      all_goals
        first
          | obtain rfl : hb = true := HH.out
          | obtain rfl : hb = false := HH.out
        clear HH
        go_wp2_with fail
        refine (G1.out _).mono ?_
        rintro e w1 ⟨rfl, rfl⟩
        go_wp2_with fail
        refine (G1.out _).mono ?_
        rintro e w1 ⟨rfl, rfl⟩
        go_wp2_with fail
        refine (G2.out _).mono ?_
        rintro e w1 ⟨rfl, rfl⟩
        go_wp2_with fail
        refine (keyAlive _).mono ?_
        rintro e w1 ⟨rfl, hb1⟩
        go_wp2_with fail
        go_ret
        exact ⟨rfl, hb1⟩
end Go.Proofs.Ytmkdljemiollfaa
