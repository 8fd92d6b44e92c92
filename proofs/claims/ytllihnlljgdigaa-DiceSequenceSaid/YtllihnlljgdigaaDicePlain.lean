/-
  LAYER 6 AS PLAIN FUNCTIONS: the next number and the next seed, Below, the exchange of two places, Shuffle; a shuffle keeps how often each element is there. By an AI agent.
-/
import Derived.WalkKit
import Derived.Laws.BitsAllLaws
namespace Go.Proofs.Ytllihnlljgdigaa.Dice

def two64 : Int := 18446744073709551616
/-- the next seed -/
def seedS (x : Int) : Int := (x + 11400714819323198485) % two64
theorem wrap_two (n : Int) : IntKind.u64.wrap n = n % 18446744073709551616 := by simp [IntKind.wrap, IntKind.bits, IntKind.signed]
/-- a number mixed with its quotient, times a constant -/
def mixS (z d c : Int) : Int := (bits .xor .u64 z (z / d) * c) % two64
def valS (x : Int) : Int :=
  bits .xor .u64 (mixS (mixS (seedS x) 1073741824 13787848793156543929) 134217728 10723151780598845931) (mixS (mixS (seedS x) 1073741824 13787848793156543929) 134217728 10723151780598845931 / 2147483648)
theorem seed_bounds (x : Int) : 0 ≤ seedS x ∧ seedS x < 18446744073709551616 := by unfold seedS two64; omega
theorem mix_bounds (z d c : Int) : 0 ≤ mixS z d c ∧ mixS z d c < 18446744073709551616 := by unfold mixS two64; omega
theorem xor_bounds (a b : Int) (h1 : 0 ≤ a) (h2 : a < 18446744073709551616) (h3 : 0 ≤ b) (h4 : b < 18446744073709551616) : 0 ≤ bits .xor .u64 a b ∧ bits .xor .u64 a b < 18446744073709551616 := by
  rw [u64_xor a b h1 h2 h3 h4]
  have h := Nat.xor_lt_two_pow (n := 64) (x := a.toNat) (y := b.toNat) (by omega) (by omega)
  omega
theorem val_bounds (x : Int) : 0 ≤ valS x ∧ valS x < 18446744073709551616 := by
  unfold valS
  have h := mix_bounds (mixS (seedS x) 1073741824 13787848793156543929) 134217728 10723151780598845931
  exact xor_bounds _ _ h.1 h.2 (by omega) (by omega)
theorem walked (x : Int) :
    bits BinOp.xor IntKind.u64 (IntKind.u64.wrap (bits BinOp.xor IntKind.u64 (IntKind.u64.wrap (bits BinOp.xor IntKind.u64 (IntKind.u64.wrap (x + 11400714819323198485)) (IntKind.u64.wrap (x + 11400714819323198485) / 1073741824) * 13787848793156543929))
      (IntKind.u64.wrap (bits BinOp.xor IntKind.u64 (IntKind.u64.wrap (x + 11400714819323198485)) (IntKind.u64.wrap (x + 11400714819323198485) / 1073741824) * 13787848793156543929) / 134217728) * 10723151780598845931))
      (IntKind.u64.wrap (bits BinOp.xor IntKind.u64 (IntKind.u64.wrap (bits BinOp.xor IntKind.u64 (IntKind.u64.wrap (x + 11400714819323198485)) (IntKind.u64.wrap (x + 11400714819323198485) / 1073741824) * 13787848793156543929))
      (IntKind.u64.wrap (bits BinOp.xor IntKind.u64 (IntKind.u64.wrap (x + 11400714819323198485)) (IntKind.u64.wrap (x + 11400714819323198485) / 1073741824) * 13787848793156543929) / 134217728) * 10723151780598845931) / 2147483648) = valS x := by
  simp only [wrap_two, valS, mixS, seedS, two64]
theorem walked_seed (x : Int) : IntKind.u64.wrap (x + 11400714819323198485) = seedS x := by rw [wrap_two]; rfl
/-- Below: its number and its seed -/
def belowV (s n : Int) : Int := if n < 1 then 0 else valS s % n
def belowS (s n : Int) : Int := if n < 1 then s else seedS s
theorem below_bounds (s n : Int) (h : 1 ≤ n) : 0 ≤ belowV s n ∧ belowV s n < n := by
  unfold belowV
  rw [if_neg (by omega)]
  exact ⟨Int.emod_nonneg _ (by omega), Int.emod_lt_of_pos _ (by omega)⟩
theorem belowV_nonneg (s n : Int) : 0 ≤ belowV s n := by
  by_cases h : n < 1
  · unfold belowV; rw [if_pos h]; exact Int.le_refl _
  · exact (below_bounds s n (by omega)).1
theorem belowS_bounds (s n : Int) (h1 : 0 ≤ s) (h2 : s < 18446744073709551616) : 0 ≤ belowS s n ∧ belowS s n < 18446744073709551616 := by
  unfold belowS
  split
  · exact ⟨h1, h2⟩
  · exact seed_bounds s
/-- two places exchanged -/
def swap (l : List Int) (i j : Nat) : List Int := (l.set i (l.getD j 0)).set j (l.getD i 0)
theorem swap_length (l : List Int) (i j : Nat) : (swap l i j).length = l.length := by simp [swap]
theorem swap_perm (l : List Int) (i j : Nat) (hi : i < l.length) (hj : j < l.length) : (swap l i j).Perm l := by
  have h := List.set_set_perm hi hj
  simpa [swap, List.getD, hi, hj] using h
/-- the exchanges from place k on down -/
def shuf : Nat → Int → List Int → List Int
  | 0, _, l => l
  | k + 1, s, l => shuf k (belowS s (k + 2)) (swap l (k + 1) (belowV s (k + 2)).toNat)
def after : Nat → Int → Int
  | 0, s => s
  | k + 1, s => after k (belowS s (k + 2))
theorem shuf_length : ∀ (k : Nat) (s : Int) (l : List Int), (shuf k s l).length = l.length
  | 0, _, _ => rfl
  | k + 1, s, l => by rw [shuf, shuf_length k, swap_length]
theorem after_bounds : ∀ (k : Nat) (s : Int), 0 ≤ s → s < 18446744073709551616 → 0 ≤ after k s ∧ after k s < 18446744073709551616
  | 0, _, h1, h2 => ⟨h1, h2⟩
  | k + 1, s, h1, h2 => by
    have h := belowS_bounds s (k + 2) h1 h2
    exact after_bounds k _ h.1 h.2
theorem shuf_perm : ∀ (k : Nat) (s : Int) (l : List Int), k < l.length ∨ k = 0 → (shuf k s l).Perm l
  | 0, _, l, _ => List.Perm.refl l
  | k + 1, s, l, h => by
    have h1 : k + 1 < l.length := by omega
    have h2 := below_bounds s (k + 2) (by omega)
    exact (shuf_perm k _ _ (.inl (by rw [swap_length]; omega))).trans (swap_perm l _ _ h1 (by omega))
def shuffleS (s : Int) (l : List Int) : List Int := shuf (l.length - 1) s l
def afterS (s : Int) (l : List Int) : Int := after (l.length - 1) s
theorem shuffle_perm (s : Int) (l : List Int) : (shuffleS s l).Perm l := shuf_perm _ _ _ (by omega)
theorem shuffle_length (s : Int) (l : List Int) : (shuffleS s l).length = l.length := shuf_length _ _ _
/-- how often x is among the first k -/
def cnt (l : List Int) (x : Int) (k : Nat) : Nat := (l.take k).count x
theorem cnt_zero (l : List Int) (x : Int) : cnt l x 0 = 0 := by simp [cnt]
theorem cnt_le (l : List Int) (x : Int) (k : Nat) : cnt l x k ≤ k := by
  have h := List.count_le_length (a := x) (l := l.take k)
  have h2 : (l.take k).length ≤ k := by simp; omega
  unfold cnt
  omega
theorem cnt_hit {l : List Int} {x : Int} {k : Nat} (hk : k < l.length) (h : l.getD k 0 = x) : cnt l x (k + 1) = cnt l x k + 1 := by
  have e : l[k] = x := by simpa [List.getD, hk] using h
  unfold cnt
  rw [List.take_succ_eq_append_getElem hk, List.count_append, e]
  simp
theorem cnt_miss {l : List Int} {x : Int} {k : Nat} (hk : k < l.length) (h : l.getD k 0 ≠ x) : cnt l x (k + 1) = cnt l x k := by
  have e : l[k] ≠ x := by simpa [List.getD, hk] using h
  unfold cnt
  rw [List.take_succ_eq_append_getElem hk, List.count_append]
  simp [e]
theorem cnt_all {l m : List Int} (h : m.Perm l) (x : Int) : cnt l x l.length = cnt m x l.length := by
  unfold cnt
  rw [List.take_length, ← h.length_eq, List.take_length]
  exact (h.count_eq x).symm
end Go.Proofs.Ytllihnlljgdigaa.Dice
