/-
  RUNS RECKONED AHEAD: code as a list of items; loops among them. By an AI agent.
-/
import Derived.Test.YtpejbfdmiinokaaSyP
namespace Go.Sx
open Go.RowKit
/-- items one behind the other -/
def flat : Code → List Code
  | .seq x y => flat x ++ flat y
  | c => [c]
def seqWp (P : Program) (Q : Exit → Act → World → Prop) : List Code → Act → World → Prop
  | [], a, w => Q .normal a w
  | c :: l, a, w => c.wp P (Exit.then (seqWp P Q l) Q) a w
theorem then_then (n m : Act → World → Prop) (Q : Exit → Act → World → Prop) : Exit.then n (Exit.then m Q) = Exit.then n Q := by
  funext e a w
  cases e <;> rfl
section
variable {P : Program}
theorem seqWp_append {Q : Exit → Act → World → Prop} : ∀ (l r : List Code) (a : Act) (w : World), seqWp P (Exit.then (seqWp P Q r) Q) l a w → seqWp P Q (l ++ r) a w
  | [], r, a, w, h => h
  | c :: l, r, a, w, h => by
    have h : c.wp P (Exit.then (seqWp P (Exit.then (seqWp P Q r) Q) l) (Exit.then (seqWp P Q r) Q)) a w := h
    rw [then_then] at h
    refine wp_mono h ?_
    intro e b w' he
    cases e with
    | normal => exact seqWp_append l r b w' he
    | _ => exact he
theorem seqWp_code {Q : Exit → Act → World → Prop} : ∀ (c : Code) (a : Act) (w : World), seqWp P Q (flat c) a w → c.wp P Q a w := by
  have last : ∀ (c : Code) (a : Act) (w : World), seqWp P Q [c] a w → c.wp P Q a w := fun c a w h => wp_mono (show c.wp P (Exit.then (seqWp P Q []) Q) a w from h) (fun e b w' he => by cases e <;> exact he)
  have key : ∀ (c : Code) (Q : Exit → Act → World → Prop) (a : Act) (w : World), seqWp P Q (flat c) a w → c.wp P Q a w := by
    intro c
    induction c with
    | seq x y ihx ihy =>
      intro Q a w h
      refine wp_seq (ihx _ a w ?_)
      have gen : ∀ (l r : List Code) (N : Act → World → Prop), (∀ b w', seqWp P Q r b w' → N b w') → ∀ a w, seqWp P Q (l ++ r) a w → seqWp P (Exit.then N Q) l a w := by
        intro l r N hN
        induction l with
        | nil => intro a w h; exact hN a w h
        | cons c l ih =>
          intro a w h
          have h : c.wp P (Exit.then (seqWp P Q (l ++ r)) Q) a w := h
          show c.wp P (Exit.then (seqWp P (Exit.then N Q) l) (Exit.then N Q)) a w
          rw [then_then]
          refine wp_mono h ?_
          intro e b w' he
          cases e with
          | normal => exact ih b w' he
          | _ => exact he
      exact gen (flat x) (flat y) _ (fun b w' hb => ihy Q b w' hb) a w h
    | _ =>
      intro Q a w h
      exact wp_mono h (fun e b w' he => by cases e <;> exact he)
  exact fun c a w h => key c Q a w h
theorem seqWp_mono {Q R : Exit → Act → World → Prop} (h : ∀ e a w, Q e a w → R e a w) : ∀ (l : List Code) (a : Act) (w : World), seqWp P Q l a w → seqWp P R l a w
  | [], a, w, k => h _ a w k
  | c :: l, a, w, k => wp_mono k (fun e b w' he => by
      cases e with
      | normal => exact seqWp_mono h l b w' he
      | _ => exact h _ b w' he)
end
noncomputable def runL (P : Program) (G : Nat) (env : Fs → EnvF) (M : List (Value × List Value)) (n nt : Nat) (F : Fs) : List Code → Tr → AM → Option (Out × Tr × AM)
  | [], t, m => some (.normal, t, m)
  | c :: l, t, m => match runC P G env M n nt c t m F with
    | some (.normal, t', m') => runL P G env M n nt F l t' m'
    | r => r
section
variable {P : Program} {G : Nat} {W : World} {ρ : Nat → Value} {env : Fs → EnvF} {M : List (Value × List Value)}
theorem runL_wp (hN : NoGo P) (hM : P.follows .mixedOrders = true) {n nt : Nat} {F : Fs} (hK : Kn P G W ρ env M F) {Q : Exit → Act → World → Prop} (hQ : ∀ c a w, ¬ Q (.panic c) a w) : ∀ (l : List Code) (t : Tr) (m : AM) (o : Out) (t' : Tr) (m' : AM), runL P G env M n nt F l t m = some (o, t', m') →
    ∀ r b w, @AcT (thOf ρ W) nt r t b → @Wd (thOf ρ W) P G W r m w → W.heap.size ≤ w.heap.size →
    (∀ r' b' w', @AcT (thOf ρ W) nt r' t' b' → @Wd (thOf ρ W) P G W r' m' w' → W.heap.size ≤ w'.heap.size → Q o.toExit b' w') → seqWp P Q l b w
  | [], t, m, o, t', m', h, r, b, w, ha, hw, hB, k => by
    injection h with h
    injection h with h1 h
    injection h with h2 h3
    subst h1 h2 h3
    exact k r b w ha hw hB
  | c :: l, t, m, o, t', m', h, r, b, w, ha, hw, hB, k => by
    letI := thOf ρ W
    letI : Fx := ⟨F, M⟩
    haveI := ts_of ρ W
    haveI := at_of ρ W
    haveI : Sat := ⟨hK.sat, hK.mem⟩
    unfold runL at h
    have good := (evCode_good hN hM (hK.env F hK.sat) n).1
    have hnp : ∀ c a w, ¬ Exit.then (seqWp P Q l) Q (.panic c) a w := fun c a w h => hQ c a w h
    split at h
    · rename_i t1 m1 h1
      refine good nt c t m .normal t1 m1 h1 r b w ha hw hB _ hnp fun r1 b1 w1 ha1 hw1 hs1 => ?_
      exact runL_wp hN hM hK hQ l t1 m1 o t' m' h r1 b1 w1 ha1 hw1 (Nat.le_trans hB hs1.size) k
    · rename_i hne
      refine good nt c t m o t' m' h r b w ha hw hB _ hnp fun r1 b1 w1 ha1 hw1 hs1 => ?_
      have := k r1 b1 w1 ha1 hw1 (Nat.le_trans hB hs1.size)
      cases o with
      | normal => exact absurd h (hne _ _)
      | exit i => exact this
      | ret => exact this
/-- A PIECE: items without a loop over letters -/
theorem pieceL (hN : NoGo P) (hM : P.follows .mixedOrders = true) {n h0 nt : Nat} {l : List Code} {t : Tr} {m : AM} {xs : List Xt} {T : TP} {F : Fs} {X : Nat → (Nat → Value) → Prop}
    (hc : chkP (fun F => runL P G env M n nt F l t m) h0 G nt xs T F = true) (hK : Kn P G W ρ env M F) (hS : T.Sem ρ W X) {b : Act} {w : World} (hI : Inv P G W ρ nt t m b w) : seqWp P (CameOut P G W nt xs X) l b w := by
  obtain ⟨F', j, E, h1, h2, h3⟩ := chkP_leaf T F hc hK.sat hS
  unfold chkX at h2
  split at h2
  · rename_i o t' m' x hr hx
    split at h2
    · rename_i k1 k2 k3
      have k1 := outEq_eq k1
      obtain ⟨r, ha, hw, hB⟩ := hI
      refine runL_wp hN hM ⟨h1, hK.mem, hK.env⟩ ?_ l t m o t' m' hr r b w ha hw hB fun r' b' w' ha' hw' hB' => ?_
      · rintro ch a w' ⟨j, ρ', x, -, -, he, -⟩
        cases hx : x.o <;> rw [hx] at he <;> cases he
      · exact ⟨j, _, x, h3, hx, by rw [k1], _, cvT_sound (upd_Upd E h0) k2 ha', cvM_sound (upd_Upd E h0) k3 hw', hB'⟩
    · cases h2
  · cases h2
/-- a block that is a loop -/
def loopOf : Code → Code
  | .block _ (.loop x) => x
  | _ => .skip
def loopId : Code → Nat
  | .block i _ => i
  | _ => 0
def isLoop : Code → Bool
  | .block _ (.loop _) => true
  | _ => false
theorem isLoop_spec {c : Code} (h : isLoop c = true) : c = .block (loopId c) (.loop (loopOf c)) := by
  unfold isLoop at h
  split at h
  · rfl
  · cases h
/-- the ways out of the block: the loop's own exit is its end -/
def outOf (id : Nat) : Out → Exit
  | .exit i => if i = id then .normal else .exit i
  | o => o.toExit
/-- A LOOP AMONG THE ITEMS. J k: what the letters may be when k bounds the rounds that are left -/
theorem loopL {nt : Nat} {c : Code} {t : Tr} {m : AM} {xs : List Xt} {X : Nat → (Nat → Value) → Prop} {J : Nat → (Nat → Value) → Prop} {Q : Exit → Act → World → Prop} (hc : isLoop c = true) (hn : noNorm xs = true)
    (hb : ∀ k ρ, J k ρ → ∀ b w, Inv P G W ρ nt t m b w → seqWp P (CameOut P G W nt (⟨.normal, t, m⟩ :: xs) (Round (fun ρ2 => ∃ k', k' < k ∧ J k' ρ2) X)) (flat (loopOf c)) b w)
    (hQ : ∀ j ρ' x b' w', X j ρ' → xs[j]? = some x → Inv P G W ρ' nt x.t x.m b' w' → Q (outOf (loopId c) x.o) b' w') :
    ∀ k ρ, J k ρ → ∀ b w, Inv P G W ρ nt t m b w → c.wp P Q b w := by
  have at_ : ∀ k ρ, J k ρ → ∀ b w, Inv P G W ρ nt t m b w → LoopAt P (loopOf c) (CameOut P G W nt xs X) b w := by
    intro k
    induction k using Nat.strongRecOn with
    | ind k ih =>
      intro ρ hj b w hI
      refine LoopAt.of (wp_mono (seqWp_code _ _ _ (hb k ρ hj b w hI)) ?_)
      rintro e b' w' ⟨j, ρ2, y, hX, hy, rfl, hI2⟩
      cases j with
      | zero =>
        simp at hy
        subst hy
        obtain ⟨k', hk, hJ2⟩ := hX
        exact ih k' hk ρ2 hJ2 b' w' hI2
      | succ j =>
        have hy : xs[j]? = some y := by simpa using hy
        have hno := noNorm_get hn hy
        have hfin : CameOut P G W nt xs X y.o.toExit b' w' := ⟨j, ρ2, y, hX, hy, rfl, hI2⟩
        revert hfin
        cases hyo : y.o with
        | normal => exact absurd hyo hno
        | exit i => exact fun h => h
        | ret => exact fun h => h
  intro k ρ hj b w hI
  rw [isLoop_spec hc]
  refine wp_block (wp_mono ((at_ k ρ hj b w hI).wp) ?_)
  rintro e b' w' ⟨j, ρ2, y, hX, hy, rfl, hI2⟩
  have hq := hQ j ρ2 y b' w' hX hy hI2
  have hno := noNorm_get hn hy
  revert hq
  unfold outOf
  cases hyo : y.o with
  | normal => exact absurd hyo hno
  | exit i =>
    intro hq
    show (if i = loopId c then Q .normal b' w' else Q (.exit i) b' w')
    simp only at hq
    split
    · rename_i h
      rw [if_pos h] at hq
      exact hq
    · rename_i h
      rw [if_neg h] at hq
      exact hq
  | ret => exact fun h => h
/-- frames by their slots -/
noncomputable def mkT (nt : Nat) : List (Nat × Value) → Tr
  | [] => .leaf wild
  | (i, v) :: l => (mkT nt l).set (bits (dpt nt) i) v
end
end Go.Sx
