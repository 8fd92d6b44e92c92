/-
  PLAIN NUMBERS OF LAYER 1 (num): what clamping, halving, bits and bounds come to; no program in it. By an AI agent.
-/
import Derived.WalkKit
import Derived.Lib.ItoaNum
import Derived.Lib.AtoiAll
namespace Go.Proofs.YtokenooggmnbaaaDoor.Num

/-- n, or the nearest of -1000000 and 1000000. -/
def clampI (n : Int) : Int := if 1000000 < n then 1000000 else if n < -1000000 then -1000000 else n
theorem clampI_hi {n : Int} (h : 1000000 < n) : clampI n = 1000000 := by unfold clampI; rw [if_pos h]
theorem clampI_lo {n : Int} (h : n < -1000000) : clampI n = -1000000 := by unfold clampI; rw [if_neg (by omega), if_pos h]
theorem clampI_in {n : Int} (h0 : -1000000 ≤ n) (h1 : n ≤ 1000000) : clampI n = n := by unfold clampI; rw [if_neg (by omega), if_neg (by omega)]
theorem clampI_bd (n : Int) : -1000000 ≤ clampI n ∧ clampI n ≤ 1000000 := by unfold clampI; split <;> (try split) <;> omega
/-- the product of two clamped numbers -/
theorem mul_bd {x y : Int} (hx : -1000000 ≤ x ∧ x ≤ 1000000) (hy : -1000000 ≤ y ∧ y ≤ 1000000) : -1000000000000 ≤ x * y ∧ x * y ≤ 1000000000000 := by
  have h1 : 0 ≤ (1000000 - x) * (1000000 - y) := Int.mul_nonneg (by omega) (by omega)
  have h2 : 0 ≤ (1000000 + x) * (1000000 + y) := Int.mul_nonneg (by omega) (by omega)
  have h3 : 0 ≤ (1000000 - x) * (1000000 + y) := Int.mul_nonneg (by omega) (by omega)
  have h4 : 0 ≤ (1000000 + x) * (1000000 - y) := Int.mul_nonneg (by omega) (by omega)
  simp only [Int.sub_mul, Int.mul_sub, Int.add_mul, Int.mul_add] at h1 h2 h3 h4
  omega
/-- Go's quotient and remainder of a negative number by 2 -/
theorem tdiv2 {x : Int} (h : x < 0) : x.tdiv 2 = -((-x) / 2) ∧ x.tmod 2 = -((-x) % 2) := by
  have e : x = -(-x) := by omega
  have h0 : 0 ≤ -x := by omega
  rw [e, Int.neg_tdiv, Int.neg_tmod, Int.tdiv_eq_ediv_of_nonneg h0, Int.tmod_eq_emod_of_nonneg h0]
  omega
theorem tdiv2_bd {x : Int} (h : x < 0) (h1 : -1000000 ≤ x) : -500000 ≤ x.tdiv 2 ∧ x.tdiv 2 ≤ 0 := by
  have := tdiv2 h
  omega
/-- half of the clamped number, downward or upward -/
def halfI (n : Int) (up : Bool) : Int := if up then (clampI n + 1) / 2 else clampI n / 2
theorem half_bd (n : Int) (up : Bool) : -1000000 ≤ halfI n up ∧ halfI n up ≤ 1000000 := by
  have := clampI_bd n
  unfold halfI
  split <;> omega
theorem half_sum (n : Int) : halfI n false + halfI n true = clampI n := by
  unfold halfI
  simp
  omega
theorem clampI_neg (n : Int) : clampI (-n) = -(clampI n) := by
  unfold clampI
  split <;> split <;> (try split) <;> (try split) <;> omega
/-- whether n meets the bound of kind k and number m -/
def meetsB (k m n : Int) : Bool := if k = 0 then true else if k = 1 then decide (m ≤ n) else if k = 2 then decide (n ≤ m) else if k = 3 then n == m else false
/-- the last decimal digit, as a byte -/
def dig (k : Nat) : UInt8 := UInt8.ofNat (48 + k % 10)
theorem dig_eq (k : Nat) : dig k = UInt8.ofNat (48 + k % 10) := rfl
/-- the digits of what is left, none of 0 -/
def pre (k : Nat) : List UInt8 := if k = 0 then [] else Lib.decDigits k
theorem pre_step {k : Nat} (h : 0 < k) : pre k = pre (k / 10) ++ [dig k] := by
  unfold pre
  rw [if_neg (by omega)]
  by_cases h10 : k < 10
  · rw [if_pos (by omega), Lib.decDigits_one h10, dig, Nat.mod_eq_of_lt h10]; rfl
  · rw [if_neg (by omega)]
    conv => lhs; rw [Lib.decDigits, dif_neg h10]
    rfl
/-- what has been gathered and what is left spell u -/
def DigRel (u k : Nat) (l : List UInt8) : Prop := pre k ++ l = Lib.decDigits u
theorem digRel_start (u : Nat) : DigRel u (u / 10) [dig u] := by
  unfold DigRel
  by_cases h : u = 0
  · subst h; rw [show (0 : Nat) / 10 = 0 from rfl, Lib.decDigits_one (by omega)]; simp [pre, dig]
  · rw [← pre_step (by omega), pre, if_neg h]
theorem digRel_step {u k : Nat} {l : List UInt8} (h : DigRel u k l) (hk : 0 < k) : DigRel u (k / 10) ([dig k] ++ l) := by
  unfold DigRel at *
  rw [← h, pre_step hk]; simp
theorem digRel_end {u : Nat} {l : List UInt8} (h : DigRel u 0 l) : l = Lib.decDigits u := by
  unfold DigRel at h; simpa [pre] using h
theorem decDigits_len : ∀ (k u : Nat), u < 10 ^ (k + 1) → (Lib.decDigits u).length ≤ k + 1
  | 0, u, h => by rw [Lib.decDigits_one (by simpa using h)]; simp
  | k + 1, u, h => by
    rw [Lib.decDigits]
    split
    · simp
    · have := decDigits_len k (u / 10) (by have e : 10 ^ (k + 1 + 1) = 10 ^ (k + 1) * 10 := Nat.pow_succ ..; omega)
      simp; omega
theorem digRel_len {u k : Nat} {l : List UInt8} (h : DigRel u k l) (hu : u < 18446744073709551616) : l.length ≤ 20 := by
  have h1 := decDigits_len 19 u (by omega)
  unfold DigRel at h
  rw [← h] at h1
  simp at h1; omega
/-! bits -/
/-- whether bit i of n is set -/
def bitB (n i : Nat) : Bool := n / 2 ^ i % 2 == 1
/-- the bits of n below k, rising -/
def bitsL (n k : Nat) : List Int := ((List.range k).filter (bitB n)).map fun (i : Nat) => (i : Int)
theorem bitsL_zero (n : Nat) : bitsL n 0 = [] := rfl
theorem bitsL_yes {n k : Nat} (h : bitB n k = true) : bitsL n (k + 1) = bitsL n k ++ [(k : Int)] := by
  simp [bitsL, List.range_succ, List.filter_append, h]
theorem bitsL_no {n k : Nat} (h : bitB n k = false) : bitsL n (k + 1) = bitsL n k := by
  simp [bitsL, List.range_succ, List.filter_append, h]
theorem bitsL_len (n k : Nat) : (bitsL n k).length ≤ k := by
  simp only [bitsL, List.length_map]
  have := List.length_filter_le (bitB n) (List.range k)
  simpa using this
theorem bitB_zero {n k : Nat} (h : n / 2 ^ k = 0) (j : Nat) (hj : k ≤ j) : bitB n j = false := by
  have : n / 2 ^ j = 0 := by
    obtain ⟨d, rfl⟩ := Nat.exists_eq_add_of_le hj
    rw [Nat.pow_add, ← Nat.div_div_eq_div_mul, h, Nat.zero_div]
  simp [bitB, this]
theorem bitsL_end {n k : Nat} (h : n / 2 ^ k = 0) : ∀ d, bitsL n (k + d) = bitsL n k
  | 0 => rfl
  | d + 1 => by rw [← Nat.add_assoc, bitsL_no (bitB_zero h (k + d) (by omega)), bitsL_end h d]
theorem bitsL_full {n k : Nat} (h : n / 2 ^ k = 0) (hk : k ≤ 31) : bitsL n k = bitsL n 31 := by
  obtain ⟨d, hd⟩ := Nat.exists_eq_add_of_le hk
  rw [hd, bitsL_end h]
theorem half_pow (n k : Nat) : n / 2 ^ k / 2 = n / 2 ^ (k + 1) := by
  rw [Nat.div_div_eq_div_mul, Nat.pow_succ]
theorem bit_test (n k : Nat) (h : (n : Int) ≤ 9223372036854775807) : (bits BinOp.and IntKind.i64 ((n : Int) / 2 ^ k) 1 == 1) = bitB n k := by
  have e : ((n : Int) / 2 ^ k) = ((n / 2 ^ k : Nat) : Int) := by simp
  rw [e]
  generalize hm : n / 2 ^ k = m
  have hle : m ≤ n := by rw [← hm]; exact Nat.div_le_self _ _
  have hb : bits BinOp.and IntKind.i64 (m : Int) 1 = ((m % 2 : Nat) : Int) := by
    have h := bits_mask .i64 63 (by decide) (fun n h0 h1 => IntWalk.i64_in _ ⟨by omega, by omega⟩) 1 (by decide) (m : Int) (by omega) (by omega)
    rw [show (2 : Int) ^ 1 - 1 = 1 from rfl, show (2 : Int) ^ 1 = 2 from rfl] at h
    rw [h]; rfl
  rw [hb]
  unfold bitB
  rw [hm]
  rcases Nat.mod_two_eq_zero_or_one m with h | h <;> simp [h]
/-- what the reference's mask has come to at bit k -/
def HalfRel (n k j : Nat) : Prop := n / 2 ^ k = j
theorem halfRel_start (n : Nat) : HalfRel n 0 n := by simp [HalfRel]
theorem halfRel_step {n k j : Nat} (h : HalfRel n k j) : HalfRel n (k + 1) (j / 2) := by unfold HalfRel at *; rw [← h, half_pow]
theorem halfRel_bit {n k j : Nat} (h : HalfRel n k j) : (j % 2 == 1) = bitB n k := by unfold HalfRel at h; unfold bitB; rw [h]
theorem halfRel_zero {n k : Nat} (h : HalfRel n k 0) : n / 2 ^ k = 0 := h
theorem half_test (j : Nat) : ((j : Int) % 2 == 1) = (j % 2 == 1) := by
  rcases Nat.mod_two_eq_zero_or_one j with h | h
  · rw [h]; rw [show (j : Int) % 2 = 0 by omega]; rfl
  · rw [h]; rw [show (j : Int) % 2 = 1 by omega]; rfl
end Go.Proofs.YtokenooggmnbaaaDoor.Num
