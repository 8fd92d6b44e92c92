/-
  LAYER 4 AS PLAIN FUNCTIONS: the encoding of a number (the library's 'uvarint'), its decoding byte by byte with the chapter's errors, a reader's steps; that what was encoded is decoded, and the other way round. No model in this text. By an AI agent.
-/
import Derived.Lib.Varint
import Derived.Lib.VarintDec
namespace Go.Proofs.Ytafdkfojimnbnaa.Oct
open Go.Lib (uvarint uvarint_small uvarint_big zigzag unzigzag)

/-- the number at the beginning of the bytes, i bytes of it read already: the number, how many bytes it has, the error -/
def decFrom (i acc : Nat) : List UInt8 → Nat × Nat × Int
  | [] => (0, 0, 4)
  | c :: r =>
    if (i = 9 ∧ 1 < c.toNat) ∨ (0 < i ∧ c.toNat = 0) then (0, 0, 3)
    else if c.toNat < 128 then (acc + c.toNat * 2 ^ (7 * i), i + 1, 0)
    else decFrom (i + 1) (acc + c.toNat % 128 * 2 ^ (7 * i)) r
def dec (l : List UInt8) : Nat × Nat × Int := decFrom 0 0 l
/-- a reader: the bytes that are left, the error -/
abbrev St := List UInt8 × Int
def num (s : St) : Nat × St :=
  if s.2 = 0 then (if (dec s.1).2.2 = 0 then ((dec s.1).1, (s.1.drop (dec s.1).2.1, 0)) else (0, ([], (dec s.1).2.2))) else (0, s)
def uintS (most : Nat) (s : St) : Nat × St := if (num s).1 ≤ most then num s else (0, ([], 2))
def intS (s : St) : Int × St := (unzigzag (num s).1, (num s).2)
def boolS (s : St) : Bool × St := ((uintS 1 s).1 == 1, (uintS 1 s).2)
def lenS (most : Int) (s : St) : Nat × St := uintS (max most 0).toNat s
def textS (most : Int) (s : St) : List UInt8 × St :=
  if (lenS most s).2.1.length < (lenS most s).1 then ([], ([], 4)) else ((lenS most s).2.1.take (lenS most s).1, ((lenS most s).2.1.drop (lenS most s).1, (lenS most s).2.2))
def loopS : Nat → St → List Int → List Int × St
  | 0, s, acc => (acc, s)
  | n + 1, s, acc => if (intS s).2.2 = 0 then loopS n (intS s).2 (acc ++ [(intS s).1]) else ([], (intS s).2)
def intsS (most : Int) (s : St) : List Int × St := loopS (lenS most s).1 (lenS most s).2 []

theorem pow7 (i : Nat) : 2 ^ (7 * (i + 1)) = 128 * 2 ^ (7 * i) := by rw [show 7 * (i + 1) = 7 * i + 7 by omega, Nat.pow_add]; omega
/-- WHAT WAS ENCODED IS DECODED. -/
theorem decFrom_uvarint : ∀ (d i acc x : Nat) (r : List UInt8), i + d = 9 → x < 2 * 128 ^ d → (0 < i → 0 < x) → decFrom i acc (uvarint x ++ r) = (acc + x * 2 ^ (7 * i), i + (uvarint x).length, 0)
  | d, i, acc, x, r, hd, hx, h0 => by
    by_cases hs : x < 128
    · rw [uvarint_small hs]
      have hc : x.toUInt8.toNat = x := by simp; omega
      have h1 : ¬ ((i = 9 ∧ 1 < x) ∨ (0 < i ∧ x = 0)) := by
        rintro (⟨hi, h1⟩ | ⟨hi, h1⟩)
        · obtain rfl : d = 0 := by omega
          simp at hx; omega
        · have := h0 hi; omega
      simp only [List.cons_append, decFrom, hc, if_neg h1, if_pos hs, List.nil_append, List.length_singleton]
    · match d, hd, hx with
      | 0, hd, hx => simp at hx; omega
      | d + 1, hd, hx =>
        rw [uvarint_big (by omega)]
        have hc : ((x % 128 + 128).toUInt8).toNat = x % 128 + 128 := by simp; omega
        have h1 : ¬ ((i = 9 ∧ 1 < x % 128 + 128) ∨ (0 < i ∧ x % 128 + 128 = 0)) := by omega
        have h2 : ¬ (x % 128 + 128 < 128) := by omega
        rw [Nat.pow_succ] at hx
        have ih := decFrom_uvarint d (i + 1) (acc + (x % 128 + 128) % 128 * 2 ^ (7 * i)) (x / 128) r (by omega) (by omega) (by omega)
        simp only [List.cons_append, decFrom, hc, if_neg h1, if_neg h2, ih, List.length_cons, pow7]
        have e : (x % 128 + 128) % 128 = x % 128 := by omega
        have e2 : x % 128 * 2 ^ (7 * i) + x / 128 * (128 * 2 ^ (7 * i)) = x * 2 ^ (7 * i) := by
          rw [← Nat.mul_assoc, ← Nat.add_mul]
          congr 1
          omega
        rw [e, Nat.add_assoc, e2]
        congr 2
        omega
theorem dec_uvarint {x : Nat} (hx : x < 18446744073709551616) (r : List UInt8) : dec (uvarint x ++ r) = (x, (uvarint x).length, 0) := by
  have := decFrom_uvarint 9 0 0 x r rfl (by omega) (by omega)
  simpa [dec] using this
/-- WHAT WAS DECODED IS ENCODED AS THE SAME BYTES. -/
theorem decFrom_back : ∀ (l : List UInt8) (i acc n k : Nat), i ≤ 9 → decFrom i acc l = (n, k, 0) →
    ∃ m j, n = acc + m * 2 ^ (7 * i) ∧ k = i + j ∧ 1 ≤ j ∧ j ≤ l.length ∧ m < 2 * 128 ^ (9 - i) ∧ (0 < i → 0 < m) ∧ uvarint m = l.take j
  | [], i, acc, n, k, _, h => by simp [decFrom] at h
  | c :: r, i, acc, n, k, hi, h => by
    rw [decFrom] at h
    by_cases h1 : (i = 9 ∧ 1 < c.toNat) ∨ (0 < i ∧ c.toNat = 0)
    · rw [if_pos h1] at h; simp at h
    · rw [if_neg h1] at h
      by_cases h2 : c.toNat < 128
      · rw [if_pos h2] at h
        simp only [Prod.mk.injEq, and_true] at h
        refine ⟨c.toNat, 1, h.1.symm, h.2.symm, Nat.le_refl _, by simp, ?_, by omega, ?_⟩
        · by_cases h9 : i = 9
          · subst h9; simp; omega
          · have : 128 ^ 1 ≤ 128 ^ (9 - i) := Nat.pow_le_pow_right (by omega) (by omega)
            omega
        · rw [uvarint_small h2]; simp
      · rw [if_neg h2] at h
        have h9 : i ≠ 9 := by omega
        have hc := c.toNat_lt
        obtain ⟨m, j, rfl, rfl, hj1, hj2, hm, hm0, hu⟩ := decFrom_back r (i + 1) _ n k (by omega) h
        have hm0' := hm0 (by omega)
        have e9 : 9 - i = (9 - (i + 1)) + 1 := by omega
        refine ⟨c.toNat % 128 + m * 128, j + 1, ?_, by omega, by omega, by simpa using hj2, ?_, by omega, ?_⟩
        · rw [pow7, ← Nat.mul_assoc, Nat.add_mul, Nat.add_assoc]
        · rw [e9, Nat.pow_succ]; omega
        · rw [uvarint_big (by omega), List.take_succ_cons]
          have e1 : (c.toNat % 128 + m * 128) % 128 + 128 = c.toNat := by omega
          have e2 : (c.toNat % 128 + m * 128) / 128 = m := by omega
          rw [e1, e2, hu]
          simp
theorem dec_back {l : List UInt8} {n k : Nat} (h : dec l = (n, k, 0)) : 1 ≤ k ∧ k ≤ l.length ∧ n < 18446744073709551616 ∧ uvarint n = l.take k := by
  obtain ⟨m, j, hn, hk, h1, h2, h3, _, h4⟩ := decFrom_back l 0 0 n k (by omega) h
  simp at hn hk h3
  subst hn hk
  exact ⟨h1, h2, by omega, h4⟩
theorem decFrom_err : ∀ (l : List UInt8) (i acc : Nat), (decFrom i acc l).2.2 = 0 ∨ (decFrom i acc l = (0, 0, 3)) ∨ decFrom i acc l = (0, 0, 4)
  | [], i, acc => .inr (.inr rfl)
  | c :: r, i, acc => by
    rw [decFrom]
    split
    · exact .inr (.inl rfl)
    · split
      · exact .inl rfl
      · exact decFrom_err r _ _
theorem dec_ok {l : List UInt8} (h : (dec l).2.2 = 0) : 1 ≤ (dec l).2.1 ∧ (dec l).2.1 ≤ l.length ∧ (dec l).1 < 18446744073709551616 := by
  have := dec_back (l := l) (n := (dec l).1) (k := (dec l).2.1) (by rw [← h])
  exact ⟨this.1, this.2.1, this.2.2.1⟩
theorem dec_bad {l : List UInt8} (h : (dec l).2.2 ≠ 0) : (dec l).1 = 0 ∧ (dec l).2.1 = 0 := by
  rcases decFrom_err l 0 0 with h1 | h1 | h1
  · exact absurd h1 h
  · rw [dec, h1]; simp
  · rw [dec, h1]; simp
theorem dec_lt (l : List UInt8) : (dec l).1 < 18446744073709551616 := by
  by_cases h : (dec l).2.2 = 0
  · exact (dec_ok h).2.2
  · rw [(dec_bad h).1]; omega

/-- a reader that the program can hold: no bytes after an error -/
def Fine (s : St) : Prop := s.2 ≠ 0 → s.1 = []
theorem num_lt (s : St) : (num s).1 < 18446744073709551616 := by
  unfold num
  split
  · split
    · exact dec_lt _
    · simp
  · simp
theorem num_fine {s : St} (h : Fine s) : Fine (num s).2 := by
  unfold num
  split
  · split
    · intro h; simp at h
    · intro _; rfl
  · exact h
theorem uintS_fine {most : Nat} {s : St} (h : Fine s) : Fine (uintS most s).2 := by
  unfold uintS
  split
  · exact num_fine h
  · intro _; rfl
theorem lenS_fine {most : Int} {s : St} (h : Fine s) : Fine (lenS most s).2 := uintS_fine h
theorem intS_fine {s : St} (h : Fine s) : Fine (intS s).2 := num_fine h
theorem textS_fine {most : Int} {s : St} (h : Fine s) : Fine (textS most s).2 := by
  unfold textS
  split
  · intro _; rfl
  · intro h2
    rw [lenS_fine h h2]
    simp
theorem loopS_fine : ∀ (n : Nat) (s : St) (acc : List Int), Fine s → Fine (loopS n s acc).2
  | 0, s, acc, h => h
  | n + 1, s, acc, h => by
    rw [loopS]
    split
    · exact loopS_fine n _ _ (intS_fine h)
    · exact intS_fine h
theorem intsS_fine {most : Int} {s : St} (h : Fine s) : Fine (intsS most s).2 := loopS_fine _ _ _ (lenS_fine h)
theorem num_err {s : St} (h : s.2 ≠ 0) : num s = (0, s) := by unfold num; rw [if_neg h]
theorem uintS_err {most : Nat} {s : St} (h : s.2 ≠ 0) : uintS most s = (0, s) := by unfold uintS; rw [num_err h]; simp
/-- how a step goes on: an error takes the number away -/
theorem uintS_bad {most : Nat} {s : St} (h : (uintS most s).2.2 ≠ 0) : (uintS most s).1 = 0 := by
  unfold uintS at h ⊢
  split
  · rename_i h1
    rw [if_pos h1] at h
    unfold num at h ⊢
    split
    · rename_i h2
      rw [if_pos h2] at h
      split
      · rename_i h3; rw [if_pos h3] at h; simp at h
      · rfl
    · rfl
  · rfl
theorem num_len (s : St) : (num s).2.1.length ≤ s.1.length := by
  unfold num
  split
  · split
    · simp
    · simp
  · simp
theorem num_less {s : St} (h : (num s).2.2 = 0) : (num s).2.1.length + 1 ≤ s.1.length := by
  unfold num at h ⊢
  split
  · rename_i h2
    rw [if_pos h2] at h
    split
    · rename_i h3
      have := dec_ok h3
      simp; omega
    · rename_i h3; rw [if_neg h3] at h; exact absurd h h3
  · rename_i h2; rw [if_neg h2] at h; exact absurd h h2
theorem uintS_len (most : Nat) (s : St) : (uintS most s).2.1.length ≤ s.1.length := by
  unfold uintS
  split
  · exact num_len s
  · simp
theorem uintS_lt (most : Nat) (s : St) : (uintS most s).1 < 18446744073709551616 ∧ (uintS most s).1 ≤ most := by
  unfold uintS
  split
  · rename_i h; exact ⟨num_lt s, h⟩
  · simp
theorem textS_len (most : Int) (s : St) : (textS most s).2.1.length ≤ s.1.length := by
  have := uintS_len (max most 0).toNat s
  unfold textS lenS
  split
  · simp
  · simp; omega
theorem loopS_len : ∀ (n : Nat) (s : St) (acc : List Int), (loopS n s acc).2.1.length ≤ s.1.length
  | 0, s, acc => Nat.le_refl _
  | n + 1, s, acc => by
    have h := num_len s
    rw [loopS]
    split
    · exact Nat.le_trans (loopS_len n _ _) h
    · exact h
theorem intsS_len (most : Int) (s : St) : (intsS most s).2.1.length ≤ s.1.length := Nat.le_trans (loopS_len _ _ _) (uintS_len _ _)

/-! ### back: what was written is read -/
theorem num_uvarint {x : Nat} (hx : x < 18446744073709551616) (r : List UInt8) : num (uvarint x ++ r, 0) = (x, (r, 0)) := by
  unfold num
  simp [dec_uvarint hx r]
theorem uintS_uvarint {x most : Nat} (hx : x < 18446744073709551616) (hm : x ≤ most) (r : List UInt8) : uintS most (uvarint x ++ r, 0) = (x, (r, 0)) := by
  unfold uintS
  rw [num_uvarint hx, if_pos hm]
theorem unzigzag_zigzag {x : Int} (h0 : -9223372036854775808 ≤ x) (h1 : x ≤ 9223372036854775807) : unzigzag (zigzag x) = x := by
  unfold unzigzag zigzag
  split <;> split <;> omega
theorem zigzag_unzigzag (u : Nat) : zigzag (unzigzag u) = u := by
  unfold unzigzag zigzag
  split <;> split <;> omega
theorem zigzag_lt {x : Int} (h0 : -9223372036854775808 ≤ x) (h1 : x ≤ 9223372036854775807) : zigzag x < 18446744073709551616 := by
  unfold zigzag
  split <;> omega
theorem unzigzag_range {u : Nat} (h : u < 18446744073709551616) : -9223372036854775808 ≤ unzigzag u ∧ unzigzag u ≤ 9223372036854775807 := by
  unfold unzigzag
  split <;> omega
theorem intS_zigzag {x : Int} (h0 : -9223372036854775808 ≤ x) (h1 : x ≤ 9223372036854775807) (r : List UInt8) : intS (uvarint (zigzag x) ++ r, 0) = (x, (r, 0)) := by
  unfold intS
  rw [num_uvarint (zigzag_lt h0 h1)]
  simp [unzigzag_zigzag h0 h1]
def Fits (l : List Int) : Prop := ∀ x ∈ l, -9223372036854775808 ≤ x ∧ x ≤ 9223372036854775807
/-- the bytes of a list's elements -/
def elems (l : List Int) : List UInt8 := l.flatMap fun x => uvarint (zigzag x)
theorem loopS_elems : ∀ (l : List Int) (r : List UInt8) (acc : List Int), Fits l → loopS l.length (elems l ++ r, 0) acc = (acc ++ l, (r, 0))
  | [], r, acc, _ => by simp [loopS, elems]
  | x :: l, r, acc, h => by
    have hx := h x (by simp)
    have e : elems (x :: l) ++ r = uvarint (zigzag x) ++ (elems l ++ r) := by simp [elems]
    rw [List.length_cons, loopS, e, intS_zigzag hx.1 hx.2, if_pos rfl, loopS_elems l r _ fun y hy => h y (by simp [hy])]
    simp
/-- the bytes of a text, of a list -/
def textE (s : List UInt8) : List UInt8 := uvarint s.length ++ s
def listE (l : List Int) : List UInt8 := uvarint l.length ++ elems l
theorem textS_textE {s : List UInt8} (h : s.length < 9223372036854775808) (r : List UInt8) : textS (s.length : Int) (textE s ++ r, 0) = (s, (r, 0)) := by
  have e : lenS (s.length : Int) (textE s ++ r, 0) = (s.length, (s ++ r, 0)) := by
    unfold lenS textE
    rw [List.append_assoc, uintS_uvarint (by omega) (by omega)]
  unfold textS
  rw [e]
  simp
theorem intsS_listE {l : List Int} (h : l.length < 9223372036854775808) (hf : Fits l) (r : List UInt8) : intsS (l.length : Int) (listE l ++ r, 0) = (l, (r, 0)) := by
  have e : lenS (l.length : Int) (listE l ++ r, 0) = (l.length, (elems l ++ r, 0)) := by
    unfold lenS listE
    rw [List.append_assoc, uintS_uvarint (by omega) (by omega)]
  unfold intsS
  rw [e, loopS_elems l r [] hf]
  simp
end Go.Proofs.Ytafdkfojimnbnaa.Oct
