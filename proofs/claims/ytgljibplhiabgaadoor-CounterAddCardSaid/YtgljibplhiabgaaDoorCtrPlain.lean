/-
  COUNTERS OF LAYER 12, PLAIN: what is valid, what adding, summing, cancelling come to, names; no program in it. By an AI agent.
-/
import Derived.Test.YtgljibplhiabgaaDoorNumPlain
namespace Go.Proofs.YtgljibplhiabgaaDoor.Ctr
open Go

/-- three kinds of counters -/
structure Tri where
  a : Int
  b : Int
  c : Int
/-- from 0 to MaxNum -/
def okN (n : Int) : Bool := decide (0 ≤ n) && decide (n ≤ 1000000)
theorem okN_yes {n : Int} (h : okN n = true) : 0 ≤ n ∧ n ≤ 1000000 := by unfold okN at h; simpa using h
theorem okN_mk {n : Int} (h0 : 0 ≤ n) (h1 : n ≤ 1000000) : okN n = true := by unfold okN; simp [h0, h1]
theorem okN_no {n : Int} (h : okN n = false) : n < 0 ∨ 1000000 < n := by
  rcases Int.lt_or_le n 0 with h0 | h0
  · exact .inl h0
  · rcases Int.lt_or_le 1000000 n with h1 | h1
    · exact .inr h1
    · rw [okN_mk h0 h1] at h; cases h
def okT (p : Tri) : Bool := okN p.a && (okN p.b && okN p.c)
def Tri.el (p : Tri) : Nat → Int
  | 0 => p.a
  | 1 => p.b
  | 2 => p.c
  | _ => 0
/-- the elements below k are valid -/
def okTo (p : Tri) (k : Nat) : Prop := ∀ i, i < k → okN (p.el i) = true
theorem okTo_zero (p : Tri) : okTo p 0 := fun i h => absurd h (by omega)
theorem okTo_yes {p : Tri} {k : Nat} (h : okTo p k) (h1 : okN (p.el k) = true) : okTo p (k + 1) := fun i hi => by
  by_cases e : i = k
  · rw [e]; exact h1
  · exact h i (by omega)
theorem okT_end {p : Tri} (h : okTo p 3) : okT p = true := by
  have h0 : okN p.a = true := h 0 (by omega)
  have h1 : okN p.b = true := h 1 (by omega)
  have h2 : okN p.c = true := h 2 (by omega)
  unfold okT; rw [h0, h1, h2]; rfl
theorem okT_no {p : Tri} {k : Nat} (hk : k < 3) (h : okN (p.el k) = false) : okT p = false := by
  match k, hk with
  | 0, _ => have h0 : okN p.a = false := h; unfold okT; rw [h0]; rfl
  | 1, _ => have h0 : okN p.b = false := h; unfold okT; rw [h0]; simp
  | 2, _ => have h0 : okN p.c = false := h; unfold okT; rw [h0]; simp
/-- one element set -/
def Tri.set (p : Tri) (k : Nat) (v : Int) : Tri :=
  match k with
  | 0 => ⟨v, p.b, p.c⟩
  | 1 => ⟨p.a, v, p.c⟩
  | 2 => ⟨p.a, p.b, v⟩
  | _ => p
/-- n added to one element, at least 0 -/
def addN (x n : Int) : Int := max 0 (Num.clampI (Num.clampI x + Num.clampI n))
def addT (p : Tri) (k n : Int) : Tri := if 0 ≤ k ∧ k < 3 then p.set k.toNat (addN (p.el k.toNat) n) else p
theorem addT_nat (p : Tri) {k : Nat} (hk : k < 3) (n : Int) : addT p (k : Int) n = p.set k (addN (p.el k) n) := by
  unfold addT; rw [if_pos (by omega)]; rfl
theorem addT_out {p : Tri} {k n : Int} (h : k < 0 ∨ 3 ≤ k) : addT p k n = p := by
  unfold addT; rw [if_neg (by omega)]
/-- the sum up to kind k -/
def sumTo (p q : Tri) : Nat → Tri
  | 0 => p
  | k + 1 => addT (sumTo p q k) (k : Int) (q.el k)
def sumT (p q : Tri) : Tri := sumTo p q 3
def minN (p : Tri) : Int := min p.a p.b
def pairsT (p : Tri) : Int := if okT p = true then minN p else 0
def cancelT (p : Tri) : Tri := if okT p = true then ⟨p.a - minN p, p.b - minN p, p.c⟩ else p
def powT (p : Tri) : Int := Num.clampI (Num.clampI p.a - Num.clampI p.b)
theorem okT_iff {p : Tri} : okT p = true ↔ (0 ≤ p.a ∧ p.a ≤ 1000000) ∧ (0 ≤ p.b ∧ p.b ≤ 1000000) ∧ (0 ≤ p.c ∧ p.c ≤ 1000000) := by
  unfold okT okN; simp
theorem pairs_ok {p : Tri} (h : okT p = true) : pairsT p = minN p := if_pos h
theorem pairs_bad {p : Tri} (h : okT p = false) : pairsT p = 0 := if_neg (by rw [h]; decide)
theorem cancel_ok {p : Tri} (h : okT p = true) : cancelT p = ⟨p.a - minN p, p.b - minN p, p.c⟩ := if_pos h
theorem cancel_bad {p : Tri} (h : okT p = false) : cancelT p = p := if_neg (by rw [h]; decide)
/-- what P12.4 says, and more -/
theorem cancel_laws {p : Tri} (h : okT p = true) : powT (cancelT p) = powT p ∧ ((cancelT p).a = 0 ∨ (cancelT p).b = 0) ∧ (cancelT p).c = p.c ∧ (cancelT p).a + pairsT p = p.a ∧ cancelT (cancelT p) = cancelT p ∧ pairsT (cancelT p) = 0 ∧ okT (cancelT p) = true := by
  obtain ⟨⟨a0, a1⟩, ⟨b0, b1⟩, ⟨c0, c1⟩⟩ := okT_iff.1 h
  have hm : minN p = min p.a p.b := rfl
  have ho : okT (cancelT p) = true := by
    rw [cancel_ok h, okT_iff]
    simp only
    omega
  have hz : minN (cancelT p) = 0 := by
    rw [cancel_ok h]
    unfold minN
    simp only
    omega
  refine ⟨?_, ?_, ?_, ?_, ?_, ?_, ho⟩
  · rw [cancel_ok h]
    unfold powT
    simp only
    rw [Num.clampI_in (n := p.a - minN p) (by omega) (by omega), Num.clampI_in (n := p.b - minN p) (by omega) (by omega), Num.clampI_in (n := p.a) (by omega) (by omega), Num.clampI_in (n := p.b) (by omega) (by omega)]
    congr 1
    omega
  · rw [cancel_ok h]
    simp only
    omega
  · rw [cancel_ok h]
  · rw [cancel_ok h, pairs_ok h]
    simp only
    omega
  · rw [cancel_ok ho, hz]
    simp
  · rw [pairs_ok ho, hz]
/-- the names -/
def name : Nat → List UInt8
  | 0 => [112, 108, 117, 115]
  | 1 => [109, 105, 110, 117, 115]
  | 2 => [99, 104, 97, 114, 103, 101]
  | _ => []
def nameI (k : Int) : List UInt8 := if k < 0 then [] else name k.toNat
theorem nameI_nat (k : Nat) : nameI (k : Int) = name k := by unfold nameI; rw [if_neg (by omega)]; rfl
theorem nameI_out {k : Int} (h : k < 0 ∨ 3 ≤ k) : nameI k = [] := by
  unfold nameI
  split
  · rfl
  · obtain ⟨n, rfl⟩ : ∃ n : Nat, k = (n : Int) := ⟨k.toNat, by omega⟩
    match n, (show 3 ≤ n by omega) with
    | n + 3, _ => rfl
def kindI (s : List UInt8) : Int := if name 0 = s then 0 else if name 1 = s then 1 else if name 2 = s then 2 else 0
def kindB (s : List UInt8) : Bool := decide (name 0 = s) || (decide (name 1 = s) || decide (name 2 = s))
theorem kind_name (k : Nat) (hk : k < 3) : kindI (name k) = (k : Int) ∧ kindB (name k) = true := by
  match k, hk with
  | 0, _ => decide
  | 1, _ => decide
  | 2, _ => decide
theorem kind_nil : kindI [] = 0 ∧ kindB [] = false := by decide
end Go.Proofs.YtgljibplhiabgaaDoor.Ctr
