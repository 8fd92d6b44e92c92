/-
  PAYMENT, PLAIN; no program in it. By an AI agent.
-/
import Derived.Test.YtcllaenanihedaaDoorManaPlain
namespace Go.Proofs.YtcllaenanihedaaDoor.Mana
open Go

/-- the coloured mana taken away -/
def subTo (p : Pl) (c : Cst) : Nat → Pl
  | 0 => p
  | k + 1 => (subTo p c k).set (k + 1) (p.el (k + 1) - c.col k)
theorem subTo_high (p : Pl) (c : Cst) : ∀ k j, k < j → (subTo p c k).el j = p.el j
  | 0, _, _ => rfl
  | k + 1, j, h => by rw [subTo, Pl.el_set_ne _ _ (by omega), subTo_high p c k j (by omega)]
theorem subTo_low (p : Pl) (c : Cst) : ∀ k j, j < k → k ≤ 5 → (subTo p c k).el (j + 1) = p.el (j + 1) - c.col j
  | 0, _, h, _ => absurd h (by omega)
  | k + 1, j, h, h5 => by
    rcases Nat.lt_or_ge j k with hj | hj
    · rw [subTo, Pl.el_set_ne _ _ (by omega), subTo_low p c k j hj (by omega)]
    · obtain rfl : j = k := by omega
      rw [subTo, Pl.el_set _ _ (by omega)]
theorem subTo_zero (p : Pl) (c : Cst) : ∀ k, k ≤ 5 → (subTo p c k).el 0 = p.el 0
  | 0, _ => rfl
  | k + 1, h => by rw [subTo, Pl.el_set_ne _ _ (by omega), subTo_zero p c k (by omega)]
/-- what is due behind the first k kinds, and what is left of them -/
def takeD (r : Pl) (d : Int) : Nat → Int
  | 0 => d
  | k + 1 => if takeD r d k < r.el k then 0 else takeD r d k - r.el k
def takeR (r : Pl) (d : Int) : Nat → Pl
  | 0 => r
  | k + 1 => (takeR r d k).set k (if takeD r d k < r.el k then r.el k - takeD r d k else 0)
theorem takeR_high (r : Pl) (d : Int) : ∀ k j, k ≤ j → (takeR r d k).el j = r.el j
  | 0, _, _ => rfl
  | k + 1, j, h => by rw [takeR, Pl.el_set_ne _ _ (by omega), takeR_high r d k j (by omega)]
theorem takeR_low (r : Pl) (d : Int) : ∀ k j, j < k → k ≤ 6 → (takeR r d k).el j = if takeD r d j < r.el j then r.el j - takeD r d j else 0
  | 0, _, h, _ => absurd h (by omega)
  | k + 1, j, h, h6 => by
    rcases Nat.lt_or_ge j k with hj | hj
    · rw [takeR, Pl.el_set_ne _ _ (by omega), takeR_low r d k j hj (by omega)]
    · obtain rfl : j = k := by omega
      rw [takeR, Pl.el_set _ _ (by omega)]
def sumTo (r : Pl) : Nat → Int
  | 0 => 0
  | k + 1 => sumTo r k + r.el k
theorem takeD_eq (r : Pl) (d : Int) (hd : 0 ≤ d) : ∀ k, (∀ j, j < k → 0 ≤ r.el j) → 0 ≤ takeD r d k ∧ 0 ≤ sumTo r k ∧ takeD r d k = max 0 (d - sumTo r k)
  | 0, _ => ⟨hd, Int.le_refl _, by simp [takeD, sumTo]; omega⟩
  | k + 1, h => by
    obtain ⟨h0, h1, h2⟩ := takeD_eq r d hd k (fun j hj => h j (by omega))
    have hk := h k (by omega)
    simp only [takeD, sumTo]
    refine ⟨by split <;> omega, by omega, ?_⟩
    split <;> omega
/-- what is due -/
def dueI (c : Cst) (x : Int) : Int := c.g + c.x * x
def restP (p : Pl) (c : Cst) : Pl := subTo p c 5
/-- valid arguments -/
def argB (p : Pl) (c : Cst) (x : Int) : Bool := okC c && (wholeB p && inB x 1000000)
/-- the coloured mana is there -/
def fitsTo (p : Pl) (c : Cst) (k : Nat) : Prop := ∀ j, j < k → c.col j ≤ p.el (j + 1)
def good (p : Pl) (c : Cst) (x : Int) : Prop := fitsTo p c 5 ∧ ¬ sumTo (restP p c) 6 < dueI c x
open Classical in
noncomputable def payP (p : Pl) (c : Cst) (x : Int) : Pl := if argB p c x = true ∧ good p c x then takeR (restP p c) (dueI c x) 6 else zeroP
open Classical in
noncomputable def payE (p : Pl) (c : Cst) (x : Int) : Int := if argB p c x = true then (if good p c x then 0 else 12) else 1
theorem pay_arg {p : Pl} {c : Cst} {x : Int} (h : argB p c x = false) : payP p c x = zeroP ∧ payE p c x = 1 := by
  unfold payP payE; rw [h]; exact ⟨if_neg (by simp), if_neg (by simp)⟩
theorem pay_bad {p : Pl} {c : Cst} {x : Int} (h : argB p c x = true) (hg : ¬ good p c x) : payP p c x = zeroP ∧ payE p c x = 12 := by
  unfold payP payE; rw [h]; exact ⟨if_neg (fun e => hg e.2), by rw [if_pos rfl, if_neg hg]⟩
theorem pay_good {p : Pl} {c : Cst} {x : Int} (h : argB p c x = true) (hg : good p c x) : payP p c x = takeR (restP p c) (dueI c x) 6 ∧ payE p c x = 0 := by
  unfold payP payE; rw [h]; exact ⟨if_pos ⟨rfl, hg⟩, by rw [if_pos rfl, if_pos hg]⟩
theorem rest_el {p : Pl} {c : Cst} (j : Nat) (hj : j < 5) : (restP p c).el (j + 1) = p.el (j + 1) - c.col j := subTo_low p c 5 j hj (Nat.le_refl _)
theorem rest_zero {p : Pl} {c : Cst} : (restP p c).el 0 = p.el 0 := subTo_zero p c 5 (Nat.le_refl _)
theorem fits_of_rest {p : Pl} {c : Cst} (h : ∀ j, j < 6 → 0 ≤ (restP p c).el j) : fitsTo p c 5 := fun j hj => by
  have := h (j + 1) (by omega)
  rw [rest_el j hj] at this
  omega
theorem rest_of_fits {p : Pl} {c : Cst} (hp : wholeB p = true) (h : fitsTo p c 5) : ∀ j, j < 6 → 0 ≤ (restP p c).el j := fun j hj => by
  match j with
  | 0 => rw [rest_zero]; exact (whole_iff.1 hp 0 (by omega)).1
  | j + 1 => rw [rest_el j (by omega)]; have := h j (by omega); omega
theorem bad_of_neg {p : Pl} {c : Cst} {x : Int} (hp : wholeB p = true) {k : Nat} (hk : k < 6) (hn : (restP p c).el k < 0) : ¬ good p c x := fun h => by
  have := rest_of_fits hp h.1 k hk
  omega
theorem due_bd {c : Cst} {x : Int} (hc : okC c = true) (hx : inB x 1000000 = true) : 0 ≤ c.x * x ∧ c.x * x ≤ 2000000 := by
  obtain ⟨_, ⟨h0, h1⟩, _⟩ := okC_iff.1 hc
  obtain ⟨x0, x1⟩ := inB_yes hx
  have : c.x = 0 ∨ c.x = 1 ∨ c.x = 2 := by omega
  rcases this with h | h | h <;> rw [h] <;> omega
theorem rest_bd {p : Pl} {c : Cst} (hp : wholeB p = true) (hc : okC c = true) : ∀ j, j < 6 → -9 ≤ (restP p c).el j ∧ (restP p c).el j ≤ 1000000 := fun j hj => by
  match j with
  | 0 => rw [rest_zero]; have := whole_iff.1 hp 0 (by omega); omega
  | j + 1 => rw [rest_el j (by omega)]; have := whole_iff.1 hp (j + 1) (by omega); have := okC_col hc j; omega
end Go.Proofs.YtcllaenanihedaaDoor.Mana
