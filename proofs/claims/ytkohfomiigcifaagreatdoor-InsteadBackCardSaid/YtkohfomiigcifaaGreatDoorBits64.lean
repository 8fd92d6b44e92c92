/-
  PLAIN FACTS OF BITS of 64-bit integers: '&', '|' of numbers; when all bits of one integer are set in another; no program in it. By an AI agent.
-/
import Derived.Test.YtkohfomiigcifaaGreatDoorNumPlain
import Derived.Laws.BitsAllLaws
import Derived.IntWalk
namespace Go.Proofs.YtkohfomiigcifaaGreatDoor.Bt
open Go.RowKit

theorem wraps_i64 (n : Int) (h0 : 0 ≤ n) (h1 : n < 2 ^ 63) : IntKind.i64.wrap n = n := IntWalk.i64_in _ ⟨by omega, by omega⟩
theorem and_nat (a b : Nat) (ha : a < 2 ^ 63) (hb : b < 2 ^ 63) : bits .and .i64 (a : Int) (b : Int) = ((a &&& b : Nat) : Int) := (bits_nat .i64 63 (by decide) wraps_i64 a b ha hb).1
theorem or_nat (a b : Nat) (ha : a < 2 ^ 63) (hb : b < 2 ^ 63) : bits .or .i64 (a : Int) (b : Int) = ((a ||| b : Nat) : Int) := (bits_nat .i64 63 (by decide) wraps_i64 a b ha hb).2
theorem pow_lt {i : Nat} (h : i < 63) : 2 ^ i < 2 ^ 63 := Nat.pow_lt_pow_right (by omega) h
theorem pow64 (i : Nat) (h : i < 63) : wrap64 ((2 : Int) ^ i) = ((2 ^ i : Nat) : Int) := by
  have e : ((2 : Int) ^ i) = ((2 ^ i : Nat) : Int) := by simp
  have h3 := pow_lt h
  rw [e]
  generalize 2 ^ i = q at h3 ⊢
  exact IntWalk.wrap64_in _ ⟨by omega, by omega⟩
theorem or_pow (m i : Nat) (hm : m < 2 ^ 63) (h : i < 63) : bits .or .i64 (m : Int) (wrap64 ((2 : Int) ^ i)) = ((m ||| 2 ^ i : Nat) : Int) := by
  rw [pow64 i h]
  exact or_nat m (2 ^ i) hm (pow_lt h)
/-- one bit of a number is looked at -/
theorem has_pow (m i : Nat) (hm : m < 2 ^ 63) (h : i < 63) : (bits .and .i64 (m : Int) ((2 ^ i : Nat) : Int) == ((2 ^ i : Nat) : Int)) = Num.bitB m i := by
  rw [and_nat m (2 ^ i) hm (pow_lt h), nat_bit]
  have hp := Nat.two_pow_pos i
  unfold Num.bitB
  generalize 2 ^ i = q at *
  rcases Nat.mod_two_eq_zero_or_one (m / q) with e | e
  · rw [e]
    simp
    omega
  · rw [e]
    simp
/-! negative integers, too -/
/-- bit i of an integer of 64 bits -/
def bitI (x : Int) (i : Nat) : Bool := (BitVec.ofInt 64 x).getLsbD i
def In64 (x : Int) : Prop := -9223372036854775808 ≤ x ∧ x ≤ 9223372036854775807
theorem ofInt_nat (x : Int) : (BitVec.ofInt 64 x).toNat = (x % 18446744073709551616).toNat := by simp [BitVec.ofInt, BitVec.toNat]
theorem and_one (x : Int) : bits .and .i64 x 1 = x % 2 := by
  have h1 : (BitVec.ofInt 64 x &&& BitVec.ofInt 64 1).toNat = (x % 18446744073709551616).toNat % 2 := by
    rw [BitVec.toNat_and, ofInt_nat, ofInt_nat, show ((1 : Int) % 18446744073709551616).toNat = 1 from rfl, nat_mask1]
  show IntKind.i64.wrap ((BitVec.ofInt 64 x &&& BitVec.ofInt 64 1).toNat : Int) = _
  rw [h1, IntKind.wrap_i64]
  omega
theorem bitI_eq (x : Int) (i : Nat) (h : i ≤ 63) : bitI x i = decide ((x / 2 ^ i) % 2 = 1) := by
  unfold bitI
  rw [BitVec.getLsbD, Nat.testBit_eq_decide_div_mod_eq, ofInt_nat]
  have hq : ∃ q : Int, x = (x % 18446744073709551616) + 2 ^ i * (2 * q) := by
    refine ⟨2 ^ (63 - i) * (x / 18446744073709551616), ?_⟩
    have e : (2 : Int) ^ i * (2 * (2 ^ (63 - i) * (x / 18446744073709551616))) = 18446744073709551616 * (x / 18446744073709551616) := by
      rw [← Int.mul_assoc, ← Int.mul_assoc, Int.mul_assoc ((2 : Int) ^ i), Int.mul_comm 2, ← Int.mul_assoc, ← Int.pow_add, show i + (63 - i) = 63 by omega]
      rfl
    rw [e]
    omega
  obtain ⟨q, hq⟩ := hq
  have hX : x % 18446744073709551616 = ((x % 18446744073709551616).toNat : Int) := by omega
  generalize (x % 18446744073709551616).toNat = X at *
  have hp : ((2 : Int) ^ i) = ((2 ^ i : Nat) : Int) := by simp
  have hd : x / 2 ^ i = ((X / 2 ^ i : Nat) : Int) + 2 * q := by
    rw [hq, hX, hp, Int.add_mul_ediv_left _ _ (by have := Nat.two_pow_pos i; omega)]
    simp
  rw [hd]
  generalize X / 2 ^ i = y
  rw [Bool.eq_iff_iff]
  simp
  omega
/-- the walk's two tests of a bit -/
theorem bit_one (x : Int) (i : Nat) (h : i ≤ 63) : (bits .and .i64 (x / 2 ^ i) 1 == 1) = bitI x i := by
  rw [and_one, bitI_eq x i h, Bool.eq_iff_iff]
  simp
theorem bit_zero (x : Int) (i : Nat) (h : i ≤ 63) : (bits .and .i64 (x / 2 ^ i) 1 == 0) = !bitI x i := by
  rw [and_one, bitI_eq x i h, Bool.eq_iff_iff]
  simp
  omega
theorem bit_sign {x : Int} (h : In64 x) : bitI x 63 = decide (x < 0) := by
  unfold In64 at h
  rw [bitI_eq x 63 (by omega), Bool.eq_iff_iff]
  simp
  omega
theorem toInt_wrap (v : BitVec 64) : IntKind.i64.wrap (v.toNat : Int) = v.toInt := by
  have := v.isLt
  rw [BitVec.toInt_eq_toNat_cond, IntKind.wrap_i64]
  split <;> omega
theorem toInt_of {x : Int} (h : In64 x) : (BitVec.ofInt 64 x).toInt = x := by
  unfold In64 at h
  have h1 := ofInt_nat x
  rw [BitVec.toInt_eq_toNat_cond, h1]
  split <;> omega
theorem has_iff {m k : Int} (hk : In64 k) : (bits .and .i64 m k == k) = true ↔ ∀ i, i < 64 → bitI k i = true → bitI m i = true := by
  have e : bits .and .i64 m k = (BitVec.ofInt 64 m &&& BitVec.ofInt 64 k).toInt := toInt_wrap _
  rw [beq_iff_eq, e]
  conv => lhs; rhs; rw [← toInt_of hk]
  rw [BitVec.toInt_inj]
  constructor
  · intro h i _ hb
    unfold bitI at *
    rw [← h, BitVec.getLsbD_and, Bool.and_eq_true] at hb
    exact hb.1
  · intro h
    refine BitVec.eq_of_getLsbD_eq fun i hi => ?_
    rw [BitVec.getLsbD_and]
    cases hb : (BitVec.ofInt 64 k).getLsbD i with
    | false => simp
    | true => rw [show (BitVec.ofInt 64 m).getLsbD i = true from h i hi hb]; rfl
/-- all bits of k below n are set in m -/
def allTo (m k : Int) : Nat → Bool
  | 0 => true
  | n + 1 => allTo m k n && (!bitI k n || bitI m n)
theorem allTo_iff (m k : Int) : ∀ n, allTo m k n = true ↔ ∀ i, i < n → bitI k i = true → bitI m i = true
  | 0 => ⟨fun _ i h => absurd h (by omega), fun _ => rfl⟩
  | n + 1 => by
    have ih := allTo_iff m k n
    show (allTo m k n && _) = true ↔ _
    rw [Bool.and_eq_true, ih]
    constructor
    · rintro ⟨h1, h2⟩ i hi hb
      by_cases e : i = n
      · subst e
        rw [hb] at h2
        simpa using h2
      · exact h1 i (by omega) hb
    · intro h
      refine ⟨fun i hi => h i (by omega), ?_⟩
      cases hb : bitI k n with
      | false => rfl
      | true => rw [h n (by omega) hb]; rfl
theorem has_all {m k : Int} (hm : In64 m) (hk : In64 k) : (bits .and .i64 m k == k) = (allTo m k 63 && (decide (0 ≤ k) || decide (m < 0))) := by
  rw [Bool.eq_iff_iff, has_iff hk, Bool.and_eq_true, allTo_iff]
  have s1 := bit_sign hm
  have s2 := bit_sign hk
  constructor
  · intro h
    refine ⟨fun i hi => h i (by omega), ?_⟩
    have := h 63 (by omega)
    rw [s1, s2] at this
    simp at this ⊢
    omega
  · rintro ⟨h1, h2⟩ i hi hb
    by_cases e : i = 63
    · subst e
      rw [s2] at hb
      rw [s1]
      simp at hb h2 ⊢
      omega
    · exact h1 i (by omega) hb
end Go.Proofs.YtkohfomiigcifaaGreatDoor.Bt
