/-
  READERS OF LAYER 4: what a contract says of the program's reader and of the reference's, and the decoding of one number. By an AI agent.
-/
import Derived.Test.YtafdkfojimnbnaaOctWalksF
namespace Go.Proofs.Ytafdkfojimnbnaa
open Go.RowKit
open Go.Lib (uvarint uvarint_small uvarint_big zigzag unzigzag)

set_option maxRecDepth 100000 in
theorem andNot128 {c : Int} (h0 : 0 ≤ c) (h1 : c < 256) : bits .andNot .u8 c 128 = c % 128 := by
  obtain ⟨n, rfl⟩ := Int.eq_ofNat_of_zero_le h0
  have h : ∀ a : Fin 256, bits .andNot .u8 ((a.val : Nat) : Int) 128 = ((a.val : Nat) : Int) % 128 := by decide
  exact h ⟨n, by omega⟩
theorem or_val (acc c k : Nat) (h1 : acc < 2 ^ (7 * k)) (h2 : c * 2 ^ (7 * k) < 18446744073709551616) (hk : k ≤ 9) : bits .or .u64 (acc : Int) (IntKind.u64.wrap ((c : Int) * 2 ^ (7 * k))) = ((acc + c * 2 ^ (7 * k) : Nat) : Int) := by
  have e : (c : Int) * 2 ^ (7 * k) = ((c * 2 ^ (7 * k) : Nat) : Int) := by rw [Int.natCast_mul, Int.natCast_pow]; rfl
  have e2 : ((2 ^ (7 * k) : Nat) : Int) = (2 : Int) ^ (7 * k) := by rw [Int.natCast_pow]; rfl
  have hp : 2 ^ (7 * k) ≤ 2 ^ 63 := Nat.pow_le_pow_right (by omega) (by omega)
  have h3 : (acc : Int) < 2 ^ (7 * k) := by rw [← e2]; exact Int.ofNat_lt.2 h1
  have h4 : (acc : Int) < 9223372036854775808 := by have := Nat.lt_of_lt_of_le h1 hp; omega
  rw [e, IntKind.wrap_u64]
  generalize hx : c * 2 ^ (7 * k) = X at h2
  have hm : (X : Int) % 2 ^ (7 * k) = 0 := by rw [← e2, ← hx, ← Int.natCast_emod, Nat.mul_mod_left]; rfl
  rw [Int.emod_eq_of_lt (by omega) (by omega)]
  rw [bits_join_low .u64 64 (by decide) wraps_u64 (7 * k) (acc : Int) (X : Int) (by omega) h3 (by omega) (by omega) hm (by omega)]
  omega
theorem pow_le9 {k : Nat} (hk : k ≤ 8) : 128 * 2 ^ (7 * k) ≤ 9223372036854775808 := by
  have : 2 ^ (7 * k) ≤ 2 ^ 56 := Nat.pow_le_pow_right (by omega) (by omega)
  omega
theorem ret_dec {a a' : Int} {b b' : Int} {c c' : Int} (h1 : a = a') (h2 : b = b') (h3 : c = c') : Ending.returned (.tuple #[.int .u64 a, .int .i64 b, .int .i64 c]) = .returned (.tuple #[.int .u64 a', .int .i64 b', .int .i64 c']) := by rw [h1, h2, h3]
theorem drop_cons {l : List UInt8} {k : Nat} (h : k < l.length) : l.drop k = l.getD k 0 :: l.drop (k + 1) := by
  rw [List.drop_eq_getElem_cons h]
  simp [List.getD, h]
set_option maxHeartbeats 2000000 in
set_option maxRecDepth 100000 in
theorem octFirst (va : Value) (l : List UInt8) (w : World) (lo hi : Nat) (ha : RowIn encB lo hi w va l) :
    Calls Try.prog 43 #[va] w fun e w' => e = .returned (.tuple #[.int .u64 ((Oct.dec l).1 : Int), .int .i64 ((Oct.dec l).2.1 : Int), .int .i64 (Oct.dec l).2.2]) ∧ w = w' := by
  obtain ⟨a, c, rfl, hc1, hc2, -, hd⟩ := ha
  unfold maxLen at hc2
  have D := Lib.hid hd
  clear hd
  go_enter Try.func43, Try.ntmps43
  go_wp2_with fail
  go_step3
  go_wp2_with fail
  go_step3
  go_wp2_with fail
  go_loopg [5, 6, 7, 12] l.length (fun g n z e i wr => wr = w ∧ z = .int .i64 0 ∧ e = .int .i64 4 ∧ ∃ k : Nat, k + g = l.length ∧ k ≤ 9 ∧ i = .int .i64 (k : Int) ∧ ∃ acc : Nat, n = .int .u64 (acc : Int) ∧ Hid (acc < 2 ^ (7 * k)) ∧ Hid (Oct.decFrom k acc (l.drop k) = Oct.dec l))
  case atStart => exact ⟨rfl, rfl, rfl, 0, by omega, by omega, rfl, 0, rfl, Lib.hid (by decide), Lib.hid rfl⟩
  case round =>
    obtain ⟨rfl, rfl, rfl, k, hkg, hk9, rfl, acc, rfl, HAC, HD⟩ := hrel
    have hk : k ≤ l.length := by omega
    have HKG := Lib.hid hkg
    clear hkg
    have i0 : (0 : Int) ≤ (k : Int) := by omega
    by_cases hlt : k < l.length
    · have i1 : (k : Int) < (l.length : Int) := by omega
      obtain ⟨b, o, rfl, -, -, hq, hcell⟩ := D.out k _ (getD_get (d := 0) hlt)
      have c1 : wr.cell? ⟨b, o + k, none⟩ = some (.int .u8 ((l.getD k 0).toNat : Int)) := hcell
      clear hcell
      have hc := (l.getD k 0).toNat_lt
      have HD2 := HD.out
      rw [drop_cons hlt] at HD2
      generalize l.getD k 0 = x at c1 hc HD2
      rw [Oct.decFrom] at HD2
      have x0 : (0 : Int) ≤ (x.toNat : Int) := by omega
      have x1 : (x.toNat : Int) < 256 := by omega
      have ha := andNot128 x0 x1
      have j0 : (0 : Int) ≤ 7 * (k : Int) := by omega
      have j1 : 7 * (k : Int) ≤ 63 := by omega
      by_cases hA : (k = 9 ∧ 1 < x.toNat) ∨ (0 < k ∧ x.toNat = 0)
      · rw [if_pos hA] at HD2
        have HB := Lib.hid HD2.symm
        clear HD2 HD hc
        by_cases hA1 : k = 9 ∧ 1 < x.toNat
        · obtain ⟨rfl, h1⟩ := hA1
          have t1 : (1 : Int) < (x.toNat : Int) := by omega
          clear hA
          go_wp2_with fail
          (try rw [Exit.noGoto_ret])
          go_ret3
          exact ⟨by rw [HB.out]; rfl, rfl⟩
        · have hA2 : 0 < k ∧ x.toNat = 0 := by omega
          obtain ⟨h1, h2⟩ := hA2
          have t1 : (0 : Int) < (k : Int) := by omega
          have t2 : (x.toNat : Int) = 0 := by omega
          have t3 : ¬ ((1 : Int) < (x.toNat : Int)) := by omega
          rw [t2] at c1 ha
          clear hA hA1 t3 x0 x1 t2 h2
          go_wp2_with fail
          all_goals (try rw [Exit.noGoto_ret])
          all_goals go_ret3
          all_goals exact ⟨by rw [HB.out]; rfl, rfl⟩
      · rw [if_neg hA] at HD2
        have hmul : x.toNat % 128 * 2 ^ (7 * k) < 18446744073709551616 ∧ (k ≤ 8 → acc + x.toNat % 128 * 2 ^ (7 * k) < 2 ^ (7 * (k + 1))) := by
          have h0 := HAC.out
          by_cases h9 : k = 9
          · subst h9
            have : x.toNat % 128 ≤ 1 := by omega
            exact ⟨by omega, fun h => by omega⟩
          · have h8 := pow_le9 (k := k) (by omega)
            have h7 : x.toNat % 128 * 2 ^ (7 * k) ≤ 127 * 2 ^ (7 * k) := Nat.mul_le_mul_right _ (by omega)
            exact ⟨by omega, fun _ => by rw [Oct.pow7]; omega⟩
        obtain ⟨n, hn, HN⟩ : ∃ n : Nat, bits .or .u64 (acc : Int) (IntKind.u64.wrap ((x.toNat : Int) % 128 * 2 ^ (7 * k))) = (n : Int) ∧ Hid (n = acc + x.toNat % 128 * 2 ^ (7 * k)) :=
          ⟨_, by have := or_val acc (x.toNat % 128) k HAC.out hmul.1 hk9; rw [← this]; rfl, Lib.hid rfl⟩
        by_cases h128 : x.toNat < 128
        · rw [if_pos h128] at HD2
          have HB := Lib.hid (show Oct.dec l = (n, k + 1, 0) by rw [← HD2, HN.out, Nat.mod_eq_of_lt h128])
          have t3 : (x.toNat : Int) < 128 := by omega
          have h3 : (((k : Int) == 9) = true ∧ ¬ (1 : Int) < (x.toNat : Int) ∧ (0 : Int) < (k : Int) ∧ ((x.toNat : Int) == 0) = false) ∨ (((k : Int) == 9) = false ∧ (0 : Int) < (k : Int) ∧ ((x.toNat : Int) == 0) = false) ∨ (((k : Int) == 9) = false ∧ ¬ (0 : Int) < (k : Int)) := by
            simp only [beq_eq_false_iff_ne, beq_iff_eq]; omega
          clear HD2 HD hc hmul hA h128
          rcases h3 with ⟨e1, e2, e3, e4⟩ | ⟨e1, e3, e4⟩ | ⟨e1, e3⟩
          · go_wp2_with fail
            (try rw [Exit.noGoto_ret])
            go_ret3
            exact ⟨by rw [HB.out]; rfl, rfl⟩
          · go_wp2_with fail
            (try rw [Exit.noGoto_ret])
            go_ret3
            exact ⟨by rw [HB.out]; rfl, rfl⟩
          · go_wp2_with fail
            (try rw [Exit.noGoto_ret])
            go_ret3
            exact ⟨by rw [HB.out]; rfl, rfl⟩
        · rw [if_neg h128] at HD2
          have HB := Lib.hid (show Oct.decFrom (k + 1) n (l.drop (k + 1)) = Oct.dec l by rw [← HD2, HN.out])
          have t3 : ¬ (x.toNat : Int) < 128 := by omega
          have h8 : k ≤ 8 := by omega
          have HN2 := Lib.hid (show n < 2 ^ (7 * (k + 1)) by rw [HN.out]; exact hmul.2 h8)
          have h3 : (((k : Int) == 9) = false ∧ (0 : Int) < (k : Int) ∧ ((x.toNat : Int) == 0) = false) ∨ (((k : Int) == 9) = false ∧ ¬ (0 : Int) < (k : Int)) := by
            simp only [beq_eq_false_iff_ne]; omega
          clear HD2 HD hc hmul hA h128
          rcases h3 with ⟨e1, e3, e4⟩ | ⟨e1, e3⟩
          · go_wp2_with fail
            go_roundg (l.length - (k + 1))
            case rel => exact ⟨rfl, rfl, rfl, k + 1, by omega, by omega, by go_num, n, rfl, HN2, HB⟩
            case measure => have := HKG.out; omega
          · go_wp2_with fail
            go_roundg (l.length - (k + 1))
            case rel => exact ⟨rfl, rfl, rfl, k + 1, by omega, by omega, by go_num, n, rfl, HN2, HB⟩
            case measure => have := HKG.out; omega
    · obtain rfl : k = l.length := by omega
      have HB := Lib.hid (show Oct.dec l = (0, 0, 4) by rw [← HD.out, List.drop_length]; rfl)
      go_wp2_with fail
      (try rw [Exit.noGoto_ret])
      go_ret3
      exact ⟨by rw [HB.out]; rfl, rfl⟩
end Go.Proofs.Ytafdkfojimnbnaa
