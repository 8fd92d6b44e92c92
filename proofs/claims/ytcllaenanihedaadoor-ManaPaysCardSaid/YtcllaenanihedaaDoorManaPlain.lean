/-
  COSTS AND POOLS OF LAYER 8 (mana), PLAIN: what is valid, a cost's text, what the two ways of reading it come to, values, payment; no program in it. By an AI agent.
-/
import Derived.Test.YtcllaenanihedaaDoorNumPlain
import Derived.Test.YtcllaenanihedaaDoorNumText
import Derived.Lib.Repeat
import Derived.Lib.Bytealg
import Derived.Lib.SlTrimSet
namespace Go.Proofs.YtcllaenanihedaaDoor.Mana
open Go

/-- a cost: generic mana, the number of X, five colours -/
structure Cst where
  g : Int
  x : Int
  c0 : Int
  c1 : Int
  c2 : Int
  c3 : Int
  c4 : Int
/-- a pool: six kinds of mana -/
structure Pl where
  p0 : Int
  p1 : Int
  p2 : Int
  p3 : Int
  p4 : Int
  p5 : Int
def Cst.col (c : Cst) : Nat → Int
  | 0 => c.c0
  | 1 => c.c1
  | 2 => c.c2
  | 3 => c.c3
  | 4 => c.c4
  | _ => 0
def Pl.el (p : Pl) : Nat → Int
  | 0 => p.p0
  | 1 => p.p1
  | 2 => p.p2
  | 3 => p.p3
  | 4 => p.p4
  | 5 => p.p5
  | _ => 0
/-- from 0 to m -/
def inB (n m : Int) : Bool := decide (0 ≤ n) && decide (n ≤ m)
theorem inB_yes {n m : Int} (h : inB n m = true) : 0 ≤ n ∧ n ≤ m := by unfold inB at h; simpa using h
theorem inB_mk {n m : Int} (h0 : 0 ≤ n) (h1 : n ≤ m) : inB n m = true := by unfold inB; simp [h0, h1]
theorem inB_no {n m : Int} (h : inB n m = false) : n < 0 ∨ m < n := by
  rcases Int.lt_or_le n 0 with h0 | h0
  · exact .inl h0
  · rcases Int.lt_or_le m n with h1 | h1
    · exact .inr h1
    · rw [inB_mk h0 h1] at h; cases h
/-- the colours below k are within 9 -/
def okTo (c : Cst) (k : Nat) : Bool := (List.range k).all fun i => inB (c.col i) 9
/-- a cost is valid -/
def okC (c : Cst) : Bool := okTo c 5 && (inB c.g 99 && inB c.x 2)
theorem okTo_zero (c : Cst) : okTo c 0 = true := rfl
theorem okTo_succ (c : Cst) (k : Nat) : okTo c (k + 1) = (okTo c k && inB (c.col k) 9) := by
  simp [okTo, List.range_succ, List.all_append]
theorem okTo_yes {c : Cst} {k : Nat} (h : okTo c k = true) (hi : inB (c.col k) 9 = true) : okTo c (k + 1) = true := by rw [okTo_succ, h, hi]; rfl
theorem okC_no {c : Cst} {k : Nat} (hk : k < 5) (hi : inB (c.col k) 9 = false) : okC c = false := by
  have : okTo c 5 = false := by
    rw [Bool.eq_false_iff]; intro h
    have := List.all_eq_true.1 h k (List.mem_range.2 hk)
    rw [hi] at this; cases this
  unfold okC; rw [this]; rfl
theorem okC_iff {c : Cst} : okC c = true ↔ (0 ≤ c.g ∧ c.g ≤ 99) ∧ (0 ≤ c.x ∧ c.x ≤ 2) ∧ (0 ≤ c.c0 ∧ c.c0 ≤ 9) ∧ (0 ≤ c.c1 ∧ c.c1 ≤ 9) ∧ (0 ≤ c.c2 ∧ c.c2 ≤ 9) ∧ (0 ≤ c.c3 ∧ c.c3 ≤ 9) ∧ (0 ≤ c.c4 ∧ c.c4 ≤ 9) := by
  simp only [okC, okTo_succ, okTo_zero, Cst.col, inB, Bool.and_eq_true, decide_eq_true_eq, true_and]
  constructor
  · rintro ⟨⟨⟨⟨⟨a, b⟩, c⟩, d⟩, e⟩, f, g⟩; exact ⟨f, g, a, b, c, d, e⟩
  · rintro ⟨f, g, a, b, c, d, e⟩; exact ⟨⟨⟨⟨⟨a, b⟩, c⟩, d⟩, e⟩, f, g⟩
theorem okC_col {c : Cst} (h : okC c = true) (k : Nat) : 0 ≤ c.col k ∧ c.col k ≤ 9 := by
  obtain ⟨_, _, h0, h1, h2, h3, h4⟩ := okC_iff.1 h
  match k with
  | 0 => exact h0
  | 1 => exact h1
  | 2 => exact h2
  | 3 => exact h3
  | 4 => exact h4
  | k + 5 => exact ⟨Int.le_refl 0, show (0 : Int) ≤ 9 by decide⟩
/-! one place turned -/
def Cst.setCol (c : Cst) (k : Nat) (v : Int) : Cst :=
  match k with
  | 0 => { c with c0 := v }
  | 1 => { c with c1 := v }
  | 2 => { c with c2 := v }
  | 3 => { c with c3 := v }
  | 4 => { c with c4 := v }
  | _ => c
def Pl.set (p : Pl) (k : Nat) (v : Int) : Pl :=
  match k with
  | 0 => { p with p0 := v }
  | 1 => { p with p1 := v }
  | 2 => { p with p2 := v }
  | 3 => { p with p3 := v }
  | 4 => { p with p4 := v }
  | 5 => { p with p5 := v }
  | _ => p
theorem Pl.el_set_ne (p : Pl) {k j : Nat} (v : Int) (h : k ≠ j) : (p.set k v).el j = p.el j := by
  unfold Pl.set
  split <;> (unfold Pl.el; split <;> first | rfl | (exfalso; apply h; rfl))
theorem Pl.el_set (p : Pl) {k : Nat} (v : Int) (h : k < 6) : (p.set k v).el k = v := by
  match k, h with
  | 0, _ => rfl
  | 1, _ => rfl
  | 2, _ => rfl
  | 3, _ => rfl
  | 4, _ => rfl
  | 5, _ => rfl
theorem Cst.col_set_ne (c : Cst) {k j : Nat} (v : Int) (h : k ≠ j) : (c.setCol k v).col j = c.col j := by
  unfold Cst.setCol
  split <;> (unfold Cst.col; split <;> first | rfl | (exfalso; apply h; rfl))
theorem Cst.col_set (c : Cst) {k : Nat} (v : Int) (h : k < 5) : (c.setCol k v).col k = v := by
  match k, h with
  | 0, _ => rfl
  | 1, _ => rfl
  | 2, _ => rfl
  | 3, _ => rfl
  | 4, _ => rfl
theorem Pl.ext' {p q : Pl} (h : ∀ k, k < 6 → p.el k = q.el k) : p = q := by
  have h0 := h 0 (by omega); have h1 := h 1 (by omega); have h2 := h 2 (by omega); have h3 := h 3 (by omega); have h4 := h 4 (by omega); have h5 := h 5 (by omega)
  cases p; cases q
  simp only [Pl.el] at h0 h1 h2 h3 h4 h5
  simp only [h0, h1, h2, h3, h4, h5]
/-! values, colours, sums -/
def addI (a b : Int) : Int := Num.clampI (Num.clampI a + Num.clampI b)
def mulI (a b : Int) : Int := Num.clampI (Num.clampI a * Num.clampI b)
def pos (x : Int) : Int := if 0 < x then x else 0
def valTo (c : Cst) : Nat → Int
  | 0 => c.g
  | k + 1 => addI (valTo c k) (c.col k)
/-- what a cost is worth -/
def valI (c : Cst) (x : Int) : Int := if okC c = true then addI (valTo c 5) (mulI c.x (pos x)) else 0
/-- the mask of the colours below k that occur -/
def maskTo (c : Cst) : Nat → Nat
  | 0 => 0
  | k + 1 => if 0 < c.col k then maskTo c k + 2 ^ k else maskTo c k
theorem maskTo_lt (c : Cst) : ∀ k, maskTo c k < 2 ^ k
  | 0 => by simp [maskTo]
  | k + 1 => by
    have := maskTo_lt c k
    unfold maskTo
    rw [Nat.pow_succ]
    split <;> omega
theorem maskTo_yes {c : Cst} {k : Nat} (h : 0 < c.col k) : maskTo c (k + 1) = maskTo c k + 2 ^ k := by rw [maskTo, if_pos h]
theorem maskTo_no {c : Cst} {k : Nat} (h : ¬ 0 < c.col k) : maskTo c (k + 1) = maskTo c k := by rw [maskTo, if_neg h]
def maskI (c : Cst) : Int := if okC c = true then (maskTo c 5 : Nat) else 0
/-- one kind of the sum of two pools -/
def sumEl (p q : Pl) (k : Nat) : Int := pos (addI (p.el k) (q.el k))
def addTo (p q : Pl) (r : Pl) : Nat → Pl
  | 0 => r
  | k + 1 => (addTo p q r k).set k (sumEl p q k)
theorem addTo_el (p q r : Pl) : ∀ k j, k ≤ j → (addTo p q r k).el j = r.el j
  | 0, _, _ => rfl
  | k + 1, j, h => by rw [addTo, Pl.el_set_ne _ _ (by omega), addTo_el p q r k j (by omega)]
theorem addTo_low (p q r : Pl) : ∀ k j, j < k → k ≤ 6 → (addTo p q r k).el j = sumEl p q j
  | 0, _, h, _ => absurd h (by omega)
  | k + 1, j, h, h6 => by
    rcases Nat.lt_or_ge j k with hj | hj
    · rw [addTo, Pl.el_set_ne _ _ (by omega), addTo_low p q r k j hj (by omega)]
    · obtain rfl : j = k := by omega
      rw [addTo, Pl.el_set _ _ (by omega)]
def zeroP : Pl := ⟨0, 0, 0, 0, 0, 0⟩
def addP (p q : Pl) : Pl := addTo p q zeroP 6
theorem addTo_six (p q r : Pl) : addTo p q r 6 = addP p q :=
  Pl.ext' fun k hk => by unfold addP; rw [addTo_low _ _ _ 6 k hk (by omega), addTo_low _ _ _ 6 k hk (by omega)]
/-! valid pools -/
def wholeTo (p : Pl) (k : Nat) : Bool := (List.range k).all fun i => inB (p.el i) 1000000
def wholeB (p : Pl) : Bool := wholeTo p 6
theorem wholeTo_succ (p : Pl) (k : Nat) : wholeTo p (k + 1) = (wholeTo p k && inB (p.el k) 1000000) := by
  simp [wholeTo, List.range_succ, List.all_append]
theorem wholeTo_yes {p : Pl} {k : Nat} (h : wholeTo p k = true) (hi : inB (p.el k) 1000000 = true) : wholeTo p (k + 1) = true := by rw [wholeTo_succ, h, hi]; rfl
theorem whole_no {p : Pl} {k : Nat} (hk : k < 6) (hi : inB (p.el k) 1000000 = false) : wholeB p = false := by
  rw [Bool.eq_false_iff]; intro h
  have := List.all_eq_true.1 h k (List.mem_range.2 hk)
  rw [hi] at this; cases this
theorem whole_iff {p : Pl} : wholeB p = true ↔ ∀ k, k < 6 → 0 ≤ p.el k ∧ p.el k ≤ 1000000 := by
  unfold wholeB wholeTo
  rw [List.all_eq_true]
  constructor
  · intro h k hk; exact inB_yes (h k (List.mem_range.2 hk))
  · intro h k hk; obtain ⟨a, b⟩ := h k (List.mem_range.1 hk); exact inB_mk a b
theorem sum_zero {x : Int} : pos (addI x 0) = x ↔ 0 ≤ x ∧ x ≤ 1000000 := by
  unfold pos addI Num.clampI
  constructor
  · intro h
    split at h <;> (repeat split at h) <;> omega
  · intro ⟨h0, h1⟩
    rw [if_neg (by omega : ¬ 1000000 < x), if_neg (by omega : ¬ x < -1000000)]
    simp only [show ¬ (1000000 : Int) < 0 by decide, show ¬ (0 : Int) < -1000000 by decide, if_false]
    rw [Int.add_zero, if_neg (by omega : ¬ 1000000 < x), if_neg (by omega : ¬ x < -1000000)]
    split <;> omega
theorem addP_el (p q : Pl) (k : Nat) (hk : k < 6) : (addP p q).el k = sumEl p q k := addTo_low p q zeroP 6 k hk (Nat.le_refl _)
theorem whole_add {p : Pl} : wholeB p = true ↔ addP p zeroP = p := by
  rw [whole_iff]
  constructor
  · intro h
    refine Pl.ext' fun k hk => ?_
    rw [addP_el p zeroP k hk]
    have hz : zeroP.el k = 0 := by
      match k with
      | 0 => rfl
      | 1 => rfl
      | 2 => rfl
      | 3 => rfl
      | 4 => rfl
      | 5 => rfl
      | k + 6 => rfl
    unfold sumEl
    rw [hz]
    exact sum_zero.2 (h k hk)
  · intro h k hk
    have hz : zeroP.el k = 0 := by
      match k with
      | 0 => rfl
      | 1 => rfl
      | 2 => rfl
      | 3 => rfl
      | 4 => rfl
      | 5 => rfl
      | k + 6 => rfl
    have := addP_el p zeroP k hk
    rw [h] at this
    unfold sumEl at this
    rw [hz] at this
    exact sum_zero.1 this.symm
end Go.Proofs.YtcllaenanihedaaDoor.Mana
