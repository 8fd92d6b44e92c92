/-
  RUNS RECKONED AHEAD: a loop that goes through an index and stops where something fails: all, any, find, same. By an AI agent.
-/
import Derived.Test.YtpejbfdmiinokaaSyD3
import Derived.KernelRfl
namespace Go.Sx
open Go.RowKit
/-- the next index -/
abbrev nxtL (li : Nat) : Value := B (bc .add 3) (L 3 li) (I 1)
/-- the checks of such a loop: a round, the end -/
structure WalkCk (P : Program) (G nt h0 li nf : Nat) (cl : Code) (t tE tB : Tr) (m : AM) (oB : Out) (env env0 : Fs → EnvF) (M : List (Value × List Value)) (F Fe : Fs) (bod : TP) : Prop where
  lp : isLoop cl = true
  ne : oB ≠ .normal
  bod : chkP (fun F => runL P G env M nf nt F (flat (loopOf cl)) t m) h0 G nt [⟨.normal, t, m⟩, ⟨.exit (loopId cl), tE, m⟩, ⟨oB, tB, m⟩] bod F = true
  fin : chkP (fun F => runL P G env0 [] nf nt F (flat (loopOf cl)) t m) h0 G nt [⟨.normal, t, m⟩, ⟨.exit (loopId cl), tE, m⟩, ⟨oB, tB, m⟩] (.o 1 []) Fe = true
  cv : cvT [] h0 m.n (dpt nt) t t = true
  cm : cvM [] h0 G m m = true
theorem upd_other {ρ : Nat → Value} {li i : Nat} {v : Value} (h : i ≠ li) : upd ρ [(li, v)] i = ρ i := by
  unfold upd
  have : lookE [(li, v)] i = none := by
    unfold lookE
    have e : Nat.beq li i = false := by
      cases hb : Nat.beq li i with
      | false => rfl
      | true => exact absurd (Nat.eq_of_beq_eq_true hb).symm h
    simp [e, lookE]
  rw [this]
theorem upd_same {ρ : Nat → Value} {li : Nat} {v : Value} : upd ρ [(li, v)] li = dn ρ v := by
  unfold upd
  have : lookE [(li, v)] li = some v := by
    unfold lookE
    simp
  rw [this]
section
variable {P : Program} {G : Nat} {W : World}
/-- A LOOP THROUGH AN INDEX, from 'off' on: either E holds of all numbers below la, or it stops at the first where E fails -/
theorem walkLoop (hN : NoGo P) (hM : P.follows .mixedOrders = true) {nt h0 li nf : Nat} {cl : Code} {t tE tB : Tr} {m : AM} {oB : Out} {env env0 : Fs → EnvF} {M : List (Value × List Value)} {F Fe : Fs} {bod : TP}
    (hck : WalkCk P G nt h0 li nf cl t tE tB m oB env env0 M F Fe bod) {la : Nat} (hla : la < 9223372036854775808) {off : Int} (hoff : -1 ≤ off ∧ off ≤ 0) (E : Nat → Prop) {ρ1 : Nat → Value} (h1 : ρ1 li = .int .i64 off)
    (hbody : ∀ k, k < la → ∀ ρ : Nat → Value, (∀ i, i < h0 → i ≠ li → ρ i = ρ1 i) → ρ li = .int .i64 (k + off) → ∃ ρ' : Nat → Value, (∀ i, i < h0 ∨ i = li → ρ' i = ρ i) ∧ Kn P G W ρ' env M F ∧
      ∀ X, (E k → X 0 (upd ρ' [(li, nxtL li)])) → (¬ E k → X 2 (upd ρ' [])) → bod.Sem ρ' W X)
    (hend : ∀ ρ : Nat → Value, (∀ i, i < h0 → i ≠ li → ρ i = ρ1 i) → ρ li = .int .i64 (la + off) → Kn P G W ρ env0 [] Fe)
    {Q : Exit → Act → World → Prop}
    (hQ0 : (∀ k, k < la → E k) → ∀ ρ : Nat → Value, (∀ i, i < h0 → i ≠ li → ρ i = ρ1 i) → ∀ b w, Inv P G W ρ nt tE m b w → Q .normal b w)
    (hQ1 : ∀ k, k < la → ¬ E k → (∀ i, i < k → E i) → ∀ ρ : Nat → Value, (∀ i, i < h0 → i ≠ li → ρ i = ρ1 i) → ρ li = .int .i64 (k + off) → ∀ b w, Inv P G W ρ nt tB m b w → Q (outOf (loopId cl) oB) b w)
    {b : Act} {w : World} (hI : Inv P G W ρ1 nt t m b w) : cl.wp P Q b w := by
  have hti : ∀ k : Nat, k ≤ la → hasTag 3 (.int .i64 ((k : Int) + off)) := fun k hk => ⟨rfl, by simp [IntKind.min, IntKind.bits, IntKind.signed]; omega, by simp [IntKind.max, IntKind.bits, IntKind.signed]; omega⟩
  refine loopL (xs := [⟨.exit (loopId cl), tE, m⟩, ⟨oB, tB, m⟩]) (X := fun j ρ => (∀ i, i < h0 → i ≠ li → ρ i = ρ1 i) ∧ (j = 0 → ∀ k, k < la → E k) ∧ (j = 1 → ∃ k, k < la ∧ ¬ E k ∧ (∀ i, i < k → E i) ∧ ρ li = .int .i64 (k + off)))
    (J := fun n ρ => ∃ k : Nat, k ≤ la ∧ n = la - k ∧ (∀ i, i < h0 → i ≠ li → ρ i = ρ1 i) ∧ ρ li = .int .i64 (k + off) ∧ ∀ i, i < k → E i)
    hck.lp ?_ ?_ ?_ la ρ1 ⟨0, by omega, by omega, fun _ _ _ => rfl, by rw [h1]; simp, fun i h => by omega⟩ b w hI
  · have := hck.ne
    cases oB <;> first | rfl | exact absurd rfl this
  · rintro n ρ ⟨k, hk, hn, e0, e2, hall⟩ b w hI
    by_cases hlt : k < la
    · obtain ⟨ρ', r0, hKn', hS⟩ := hbody k hlt ρ e0 e2
      have hI' := hI.congr hck.cv hck.cm (fun i hi => r0 i (.inl hi))
      have r2 : ρ' li = .int .i64 (k + off) := by rw [r0 li (.inr rfl), e2]
      refine pieceL hN hM hck.bod hKn' (hS _ (fun hE => ?_) (fun hE => ?_)) hI'
      · refine ⟨la - (k + 1), by omega, k + 1, by omega, rfl, fun i hi hne => ?_, ?_, fun i hi => ?_⟩
        · rw [upd_other hne, r0 i (.inl hi), e0 i hi hne]
        · rw [upd_same]
          refine dn_bop .add (by decide) ?_ (hti (k + 1) (by omega))
          rw [dn_let' (by decide) (by rw [r2]; exact hti k hk), r2, dn_dry ρ' (v := I 1) rfl]
          show some (Value.int .i64 (IntKind.i64.wrap (((k : Int) + off) + 1))) = _
          rw [wrap_i64 (by omega) (by omega)]
          congr 2
          omega
        · rcases (by omega : i < k ∨ i = k) with h | rfl
          · exact hall i h
          · exact hE
      · have hu : ∀ i, upd ρ' [] i = ρ' i := fun i => rfl
        exact ⟨fun i hi hne => by rw [hu, r0 i (.inl hi), e0 i hi hne], fun e => (by cases e), fun _ => ⟨k, hlt, hE, hall, by rw [hu, r2]⟩⟩
    · have hke : k = la := by omega
      subst hke
      refine pieceL hN hM hck.fin (hend ρ e0 e2) ?_ hI
      exact ⟨fun i hi hne => e0 i hi hne, fun _ => hall, fun e => (by cases e)⟩
  · intro j ρ2 x b' w' hX2 hx2 hI2
    rcases j with _ | _ | j
    · simp at hx2
      subst hx2
      have ho : outOf (loopId cl) (.exit (loopId cl)) = .normal := by simp [outOf]
      show Q (outOf (loopId cl) (.exit (loopId cl))) b' w'
      rw [ho]
      exact hQ0 (hX2.2.1 rfl) ρ2 hX2.1 b' w' hI2
    · simp at hx2
      subst hx2
      obtain ⟨k, k1, k2, k3, k4⟩ := hX2.2.2 rfl
      exact hQ1 k k1 k2 k3 ρ2 hX2.1 k4 b' w' hI2
    · simp at hx2
end
end Go.Sx
