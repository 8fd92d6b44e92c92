/-
  CONTRACTS OF LAYER 5 (sum) AND OF ITS REFERENCE: the register. By an AI agent.
-/
import Derived.Test.YtahaggliplcijaaRowB
import Derived.Test.YtahaggliplcijaaSumPlain
import Derived.Laws.BitsAllLaws
import Derived.Deep.QuietTactic
import Derived.BigQuiet
import Derived.Deep.LoopGhost
import Derived.WalkMore
import Derived.IntWalk
namespace Go.Proofs.Ytahaggliplcijaa
open Go.RowKit

theorem ret_u32 {a b : Int} (h : a = b) : Ending.returned (.int .u32 a) = .returned (.int .u32 b) := by rw [h]
theorem getD_get {α : Type} {l : List α} {k : Nat} {d : α} (h : k < l.length) : l[k]? = some (l.getD k d) := by simp [List.getD, h]
theorem reg_getD {l : List UInt8} {k : Nat} (h : k < l.length) : Crc.reg 4294967295 (l.take (k + 1)) = Crc.bits (Crc.reg 4294967295 (l.take k)) (l.getD k 0).toNat 8 := by
  rw [Crc.reg_take h]
  simp [List.getD, h]

theorem and_bit (x : Nat) (h : x < 4294967296) : bits .and .u32 (x : Int) 1 = ((x % 2 : Nat) : Int) := by
  have h1 := u32_and_nat x 1 h (by decide)
  rw [Nat.and_one_is_mod] at h1
  exact h1
theorem and_bit_of (c j : Nat) (h : c < 256) : bits .and .u32 ((c : Int) / 2 ^ j % 4294967296) 1 = ((c / 2 ^ j % 2 : Nat) : Int) := by
  have h1 : c / 2 ^ j ≤ c := Nat.div_le_self _ _
  have e : ((c : Int) / 2 ^ j % 4294967296) = ((c / 2 ^ j : Nat) : Int) := by
    have e1 : (c : Int) / 2 ^ j = ((c / 2 ^ j : Nat) : Int) := by rw [Int.natCast_ediv, Int.natCast_pow]; rfl
    rw [e1]
    generalize c / 2 ^ j = m at h1
    omega
  rw [e]
  exact and_bit _ (by omega)
theorem xor_poly (x : Nat) (h : x < 4294967296) : bits .xor .u32 ((x : Int) / 2) 3988292384 = ((x / 2 ^^^ 3988292384 : Nat) : Int) := by
  have h1 := u32_xor_nat (x / 2) 3988292384 (by omega) (by decide)
  have e : ((x / 2 : Nat) : Int) = (x : Int) / 2 := by omega
  rw [e] at h1
  exact h1
theorem compl_u32 (x : Nat) (h : x < 4294967296) : bits .xor .u32 IntKind.u32.max (x : Int) = ((4294967295 - x : Nat) : Int) := by
  have h1 := u32_xor_nat 4294967295 x (by decide) h
  have h2 := Crc.compl_xor h
  have h3 : 4294967295 ^^^ x = 4294967295 - x := by
    conv => lhs; rw [← h2]
    rw [Nat.xor_comm x, Nat.xor_assoc, Nat.xor_self, Nat.xor_zero]
  rw [h3] at h1
  exact h1
theorem ne_bits {a b : Nat} : ((a : Int) != (b : Int)) = true ↔ ¬ a = b := by rw [bne_iff_ne]; constructor <;> intro h <;> omega
theorem eq_bits {a b : Nat} : ((a : Int) != (b : Int)) = false ↔ a = b := by rw [bne_eq_false_iff_eq]; constructor <;> intro h <;> omega

set_option maxHeartbeats 1000000 in
set_option maxRecDepth 100000 in
theorem sumOf (v : Value) (l : List UInt8) (w : World) (hv : Bytes w v l) (hl : l.length ≤ 140737488355328) :
    Calls Try.prog 9 #[v] w fun e w' => e = .returned (.int .u32 (Crc.ofS l : Nat)) ∧ w = w' := by
  obtain ⟨a, cap, rfl, h1, h2, h3, h4⟩ := hv
  unfold maxLen at h2
  have D := Lib.hid h4
  clear h3 h4
  go_enter Try.func9, Try.ntmps9
  go_wp2
  go_loop [3, 10] (fun r i => ∃ k : Nat, k ≤ l.length ∧ i = .int .i64 (k : Int) ∧ r = .int .u32 ((Crc.reg 4294967295 (l.take k) : Nat) : Int)) (fun _ i => l.length - (intOf i).toNat)
  case atStart => exact ⟨0, by omega, rfl, rfl⟩
  case round =>
    obtain ⟨k, hk, rfl, rfl⟩ := hrel
    have hr := Crc.reg_lt (r := 4294967295) (by decide) (l.take k)
    have i0 : (0 : Int) ≤ (k : Int) := by omega
    by_cases hlt : k < l.length
    · have i1 : (k : Int) < (l.length : Int) := by omega
      obtain ⟨b, o, rfl, -, -, -, hcell⟩ := D.out k _ (getD_get (d := 0) hlt)
      have HS := Lib.hid (reg_getD hlt)
      generalize Crc.reg 4294967295 (l.take k) = R at hr HS ⊢
      generalize l.getD k 0 = c at hcell HS
      unfold encB at hcell
      have hc := UInt8.toNat_lt c
      go_wp2
      go_loop [3, 14] (fun r i => ∃ j : Nat, j ≤ 8 ∧ i = .int .i64 (j : Int) ∧ r = .int .u32 ((Crc.bits R c.toNat j : Nat) : Int)) (fun _ i => 8 - (intOf i).toNat)
      case atStart => exact ⟨0, by omega, rfl, rfl⟩
      case round =>
        obtain ⟨j, hj, rfl, rfl⟩ := hrel
        have hx := Crc.bits_lt (c := c.toNat) hr j
        have HB := Lib.hid (show Crc.bits R c.toNat (j + 1) = Crc.bit (Crc.bits R c.toNat j) (c.toNat / 2 ^ j % 2) from rfl)
        have j0 : (0 : Int) ≤ (j : Int) := by omega
        by_cases hjt : j < 8
        · have j1 : (j : Int) < 8 := by omega
          generalize Crc.bits R c.toNat j = x at hx HB ⊢
          have x0 : (0 : Int) ≤ (x : Int) := by omega
          have x1 : (x : Int) ≤ 4294967295 := by omega
          have A1 := Lib.hid (and_bit x hx)
          have A2 := Lib.hid (and_bit_of c.toNat j hc)
          have A3 := Lib.hid (xor_poly x hx)
          go_wp2
          · rename_i ht
            rw [A1.out, A2.out, ne_bits] at ht
            go_round
            case rel => exact ⟨j + 1, by omega, by go_num, by rw [HB.out, Crc.bit, if_neg ht, A3.out]⟩
            case measure => simp [intOf]; omega
          · rename_i ht
            rw [A1.out, A2.out, eq_bits] at ht
            go_round
            case rel => exact ⟨j + 1, by omega, by go_num, by rw [HB.out, Crc.bit, if_pos ht]; go_num⟩
            case measure => simp [intOf]; omega
        · obtain rfl : j = 8 := by omega
          go_wp2
          go_round
          case rel => exact ⟨k + 1, by omega, by go_num, by rw [HS.out]⟩
          case measure => simp [intOf]; omega
    · obtain rfl : k = l.length := by omega
      have HE : Hid (Crc.reg 4294967295 (l.take l.length) = Crc.reg 4294967295 l) := Lib.hid (by rw [List.take_of_length_le (Nat.le_refl _)])
      generalize Crc.reg 4294967295 (l.take l.length) = R at hr HE ⊢
      have A4 := Lib.hid (compl_u32 R hr)
      go_wp2
      go_ret
      exact ⟨ret_u32 (by rw [Crc.ofS, ← HE.out, A4.out]), rfl⟩
theorem half_pow (c j : Nat) : c / 2 ^ j / 2 = c / 2 ^ (j + 1) := by rw [Nat.div_div_eq_div_mul, ← Nat.pow_succ]
set_option maxHeartbeats 1000000 in
set_option maxRecDepth 100000 in
theorem refOf (v : Value) (l : List UInt8) (w : World) (hv : Bytes w v l) (hl : l.length ≤ 140737488355328) :
    Calls Try.prog 10 #[v] w fun e w' => e = .returned (.int .u32 (Crc.ofS l : Nat)) ∧ w = w' := by
  obtain ⟨a, cap, rfl, h1, h2, h3, h4⟩ := hv
  unfold maxLen at h2
  have D := Lib.hid h4
  clear h3 h4
  go_enter Try.func10, Try.ntmps10
  go_wp2
  go_loop [3, 4] (fun r i => ∃ k : Nat, k ≤ l.length ∧ i = .int .i64 (k : Int) ∧ r = .int .u32 ((Crc.reg 4294967295 (l.take k) : Nat) : Int)) (fun _ i => l.length - (intOf i).toNat)
  case atStart => exact ⟨0, by omega, rfl, rfl⟩
  case round =>
    obtain ⟨k, hk, rfl, rfl⟩ := hrel
    have hr := Crc.reg_lt (r := 4294967295) (by decide) (l.take k)
    have i0 : (0 : Int) ≤ (k : Int) := by omega
    by_cases hlt : k < l.length
    · have i1 : (k : Int) < (l.length : Int) := by omega
      obtain ⟨b, o, rfl, -, -, -, hcell⟩ := D.out k _ (getD_get (d := 0) hlt)
      have HS := Lib.hid (reg_getD hlt)
      generalize Crc.reg 4294967295 (l.take k) = R at hr HS ⊢
      generalize l.getD k 0 = c at hcell HS
      unfold encB at hcell
      have hc := UInt8.toNat_lt c
      go_wp2
      go_loop [3, 5, 6] (fun r s i => ∃ j : Nat, j ≤ 8 ∧ i = .int .i64 (j : Int) ∧ s = .int .u32 ((c.toNat / 2 ^ j : Nat) : Int) ∧ r = .int .u32 ((Crc.bits R c.toNat j : Nat) : Int)) (fun _ _ i => 8 - (intOf i).toNat)
      case atStart => exact ⟨0, by omega, rfl, by simp, rfl⟩
      case round =>
        obtain ⟨j, hj, rfl, rfl, rfl⟩ := hrel
        have hx := Crc.bits_lt (c := c.toNat) hr j
        have HB := Lib.hid (show Crc.bits R c.toNat (j + 1) = Crc.bit (Crc.bits R c.toNat j) (c.toNat / 2 ^ j % 2) from rfl)
        have HH := Lib.hid (half_pow c.toNat j)
        have hcj : c.toNat / 2 ^ j ≤ c.toNat := Nat.div_le_self _ _
        have j0 : (0 : Int) ≤ (j : Int) := by omega
        by_cases hjt : j < 8
        · have j1 : (j : Int) < 8 := by omega
          generalize Crc.bits R c.toNat j = x at hx HB ⊢
          generalize c.toNat / 2 ^ j = y at hcj HH HB ⊢
          have x0 : (0 : Int) ≤ (x : Int) := by omega
          have x1 : (x : Int) ≤ 4294967295 := by omega
          have y0 : (0 : Int) ≤ (y : Int) := by omega
          have y1 : (y : Int) ≤ 4294967295 := by omega
          have A3 := Lib.hid (xor_poly x hx)
          go_wp2
          · rename_i ht
            have ht' : ¬ x % 2 = y % 2 := by intro e; rw [bne_iff_ne] at ht; apply ht; omega
            go_round
            case rel => exact ⟨j + 1, by omega, by go_num, by rw [← HH.out]; go_num, by rw [HB.out, Crc.bit, if_neg ht', A3.out]⟩
            case measure => simp [intOf]; omega
          · rename_i ht
            have ht' : x % 2 = y % 2 := by rw [bne_eq_false_iff_eq] at ht; omega
            go_round
            case rel => exact ⟨j + 1, by omega, by go_num, by rw [← HH.out]; go_num, by rw [HB.out, Crc.bit, if_pos ht']; go_num⟩
            case measure => simp [intOf]; omega
        · obtain rfl : j = 8 := by omega
          go_wp2
          go_round
          case rel => exact ⟨k + 1, by omega, by go_num, by rw [HS.out]⟩
          case measure => simp [intOf]; omega
    · obtain rfl : k = l.length := by omega
      have HE : Hid (Crc.reg 4294967295 (l.take l.length) = Crc.reg 4294967295 l) := Lib.hid (by rw [List.take_of_length_le (Nat.le_refl _)])
      generalize Crc.reg 4294967295 (l.take l.length) = R at hr HE ⊢
      have x0 : (0 : Int) ≤ (R : Int) := by omega
      have x1 : (R : Int) ≤ 4294967295 := by omega
      go_wp2
      go_ret
      exact ⟨ret_u32 (by rw [Crc.ofS, ← HE.out]; omega), rfl⟩
end Go.Proofs.Ytahaggliplcijaa
