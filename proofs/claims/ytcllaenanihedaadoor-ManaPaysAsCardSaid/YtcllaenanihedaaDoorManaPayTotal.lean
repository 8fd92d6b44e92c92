/-
  WHAT A PAYMENT TAKES, PLAIN; no program in it. By an AI agent.
-/
import Derived.Test.YtcllaenanihedaaDoorManaPayPlain
namespace Go.Proofs.YtcllaenanihedaaDoor.Mana
open Go

theorem take_sum (r : Pl) (d : Int) : ∀ k, k ≤ 6 → sumTo (takeR r d 6) k + d = sumTo r k + takeD r d k
  | 0, _ => by simp [sumTo, takeD]
  | k + 1, h => by
    have ih := take_sum r d k (by omega)
    have hl := takeR_low r d 6 k (by omega) (Nat.le_refl _)
    simp only [sumTo, takeD, hl]
    split <;> omega
theorem sum_six (p : Pl) : sumTo p 6 = p.p0 + p.p1 + p.p2 + p.p3 + p.p4 + p.p5 := by
  simp only [sumTo, Pl.el]; omega
theorem rest_sum (p : Pl) (c : Cst) : sumTo (restP p c) 6 = sumTo p 6 - (c.c0 + c.c1 + c.c2 + c.c3 + c.c4) := by
  have e : ∀ r : Pl, sumTo r 6 = r.el 0 + r.el 1 + r.el 2 + r.el 3 + r.el 4 + r.el 5 := fun r => by simp only [sumTo]; omega
  have h0 : (restP p c).el 0 = p.el 0 := rest_zero
  have h1 : (restP p c).el 1 = p.el 1 - c.c0 := rest_el 0 (by omega)
  have h2 : (restP p c).el 2 = p.el 2 - c.c1 := rest_el 1 (by omega)
  have h3 : (restP p c).el 3 = p.el 3 - c.c2 := rest_el 2 (by omega)
  have h4 : (restP p c).el 4 = p.el 4 - c.c3 := rest_el 3 (by omega)
  have h5 : (restP p c).el 5 = p.el 5 - c.c4 := rest_el 4 (by omega)
  rw [e, e p, h0, h1, h2, h3, h4, h5]
  omega
/-- what a cost is worth, where its X is x -/
theorem val_total {c : Cst} {x : Int} (hc : okC c = true) (hx : inB x 1000000 = true) : valI c x = 1000000 ∨ valI c x = c.g + (c.c0 + c.c1 + c.c2 + c.c3 + c.c4) + c.x * x := by
  obtain ⟨⟨g0, g1⟩, ⟨x0, x1⟩, ⟨a0, a1⟩, ⟨b0, b1⟩, ⟨d0, d1⟩, ⟨e0, e1⟩, ⟨f0, f1⟩⟩ := okC_iff.1 hc
  obtain ⟨y0, y1⟩ := inB_yes hx
  obtain ⟨m0, m1⟩ := due_bd hc hx
  have hp : pos x = x := by unfold pos; split <;> omega
  have hv : valTo c 5 = c.g + (c.c0 + c.c1 + c.c2 + c.c3 + c.c4) := by
    simp only [valTo, Cst.col, addI]
    rw [Num.clampI_in (n := c.g) (by omega) (by omega), Num.clampI_in (n := c.c0) (by omega) (by omega), Num.clampI_in (n := c.c1) (by omega) (by omega), Num.clampI_in (n := c.c2) (by omega) (by omega), Num.clampI_in (n := c.c3) (by omega) (by omega), Num.clampI_in (n := c.c4) (by omega) (by omega)]
    rw [Num.clampI_in (n := c.g + c.c0) (by omega) (by omega)]
    rw [Num.clampI_in (n := c.g + c.c0) (by omega) (by omega)]
    rw [Num.clampI_in (n := c.g + c.c0 + c.c1) (by omega) (by omega)]
    rw [Num.clampI_in (n := c.g + c.c0 + c.c1) (by omega) (by omega)]
    rw [Num.clampI_in (n := c.g + c.c0 + c.c1 + c.c2) (by omega) (by omega)]
    rw [Num.clampI_in (n := c.g + c.c0 + c.c1 + c.c2) (by omega) (by omega)]
    rw [Num.clampI_in (n := c.g + c.c0 + c.c1 + c.c2 + c.c3) (by omega) (by omega)]
    rw [Num.clampI_in (n := c.g + c.c0 + c.c1 + c.c2 + c.c3) (by omega) (by omega)]
    rw [Num.clampI_in (n := c.g + c.c0 + c.c1 + c.c2 + c.c3 + c.c4) (by omega) (by omega)]
    omega
  have hm : mulI c.x x = Num.clampI (c.x * x) := by
    unfold mulI
    rw [Num.clampI_in (n := c.x) (by omega) (by omega), Num.clampI_in (n := x) (by omega) (by omega)]
  unfold valI
  rw [if_pos hc, hp, hv, hm]
  unfold addI
  rw [Num.clampI_in (n := c.g + (c.c0 + c.c1 + c.c2 + c.c3 + c.c4)) (by omega) (by omega)]
  rcases Int.lt_or_le 1000000 (c.x * x) with h | h
  · rw [Num.clampI_hi h, Num.clampI_in (n := 1000000) (by omega) (by omega)]
    left
    rcases Int.lt_or_le 0 (c.g + (c.c0 + c.c1 + c.c2 + c.c3 + c.c4)) with h2 | h2
    · exact Num.clampI_hi (by omega)
    · rw [Num.clampI_in (by omega) (by omega)]; omega
  · rw [Num.clampI_in (n := c.x * x) (by omega) h, Num.clampI_in (n := c.x * x) (by omega) h]
    rcases Int.lt_or_le 1000000 (c.g + (c.c0 + c.c1 + c.c2 + c.c3 + c.c4) + c.x * x) with h2 | h2
    · left; exact Num.clampI_hi h2
    · right; exact Num.clampI_in (by omega) h2
/-- WHAT A PAYMENT LEAVES. -/
theorem pay_total {p : Pl} {c : Cst} {x : Int} (h : payE p c x = 0) : (∀ k, k < 6 → 0 ≤ p.el k ∧ p.el k ≤ 1000000 ∧ 0 ≤ (payP p c x).el k ∧ (payP p c x).el k ≤ p.el k) ∧ (valI c x = 1000000 ∨ sumTo p 6 - sumTo (payP p c x) 6 = valI c x) := by
  have ha : argB p c x = true := by
    cases e : argB p c x with
    | true => rfl
    | false => rw [(pay_arg e).2] at h; cases h
  have hg : good p c x := by
    apply Classical.byContradiction
    intro e
    rw [(pay_bad ha e).2] at h
    cases h
  rw [(pay_good ha hg).1]
  unfold argB at ha
  simp only [Bool.and_eq_true] at ha
  obtain ⟨hc, hp, hx⟩ := ha
  have hpos := rest_of_fits hp hg.1
  obtain ⟨m0, m1⟩ := due_bd hc hx
  have hgx := (okC_iff.1 hc).1
  have hD : 0 ≤ dueI c x := by unfold dueI; omega
  constructor
  · intro k hk
    obtain ⟨p0, p1⟩ := whole_iff.1 hp k hk
    have hr := takeR_low (restP p c) (dueI c x) 6 k hk (Nat.le_refl _)
    have ht := (takeD_eq (restP p c) (dueI c x) hD k (fun j hj => hpos j (by omega))).1
    have hrp : (restP p c).el k ≤ p.el k := by
      match k, hk with
      | 0, _ => rw [rest_zero]; omega
      | k + 1, hk => rw [rest_el k (by omega)]; have := okC_col hc k; omega
    have h0 := hpos k hk
    refine ⟨p0, p1, ?_, ?_⟩ <;> rw [hr] <;> split <;> omega
  · rcases val_total hc hx with hv | hv
    · exact .inl hv
    · right
      have h1 := take_sum (restP p c) (dueI c x) 6 (Nat.le_refl _)
      have h2 := (takeD_eq (restP p c) (dueI c x) hD 6 hpos).2.2
      have h3 := rest_sum p c
      have h4 := hg.2
      have h5 : dueI c x = c.g + c.x * x := rfl
      rw [hv]
      omega
theorem pay_zero {p : Pl} {c : Cst} {x : Int} (h : ¬ payE p c x = 0) : payP p c x = zeroP := by
  cases e : argB p c x with
  | false => exact (pay_arg e).1
  | true =>
    by_cases hg : good p c x
    · exact absurd (pay_good e hg).2 h
    · exact (pay_bad e hg).1
end Go.Proofs.YtcllaenanihedaaDoor.Mana
