/-
  RUNS RECKONED AHEAD, part nine: what is reckoned comes to pass. By an AI agent.
-/
import Derived.Test.YtpejbfdmiinokaaSyH
import Derived.Scope
import Derived.Below
namespace Go.Sx
variable [Th] [Fx]
open Go.RowKit
section
variable {P : Program} {G : Nat} {W : World}
abbrev EnvF := FuncId → Array Value → AM → Option (Value × AM)
/-- contracts that are taken as they are -/
def EnvOk (P : Program) (G : Nat) (W : World) (env : EnvF) : Prop := CallOk P G W env
omit [Fx] in
theorem Wd.below {r : List Nat} {m : AM} {w w' : World} (h : Wd P G W r m w) (hb : Below w.heap.size w w') : Wd P G W r m w' ∧ Step r m w r m w' := by
  refine ⟨⟨h.low.trans (hb.mono h.low.size), h.n, h.g, fun i x hx => ?_, h.inj, h.low2.below hb, h.opn⟩, ⟨Ext.refl r, hb.os, hb.tape, hb.output, hb.size, fun b hlt _ => hb.block b hlt, fun b hd => .inl hd⟩⟩
  obtain ⟨b, c, h1, h2, h3, h4⟩ := h.at_ i x hx
  exact ⟨b, c, h1, h2, by rw [hb.block b (Array.getElem?_eq_some_iff.1 h3).1]; exact h3, h4⟩
/-- answers that leave the memory alone -/
abbrev EnvP := FuncId → Array Value → AM → Option Value
def EnvPOk (P : Program) (G : Nat) (W : World) (env : EnvP) : Prop := ∀ f args m v, env f args m = some v → ∀ r w args', All (V2 r) args args' → Wd P G W r m w → W.heap.size ≤ w.heap.size →
  Calls P f args' w fun e w' => ∃ v', e = .returned v' ∧ V3 r v v' ∧ Below w.heap.size w w'
/-- the answers of one, then those of the other -/
def envOf (p : EnvP) (q : EnvF) : EnvF := fun f args m => match p f args m with
  | some v => some (v, m)
  | none => q f args m
omit [Fx] in
theorem envOf_ok {p : EnvP} {q : EnvF} (hp : EnvPOk P G W p) (hq : EnvOk P G W q) : EnvOk P G W (envOf p q) := by
  intro f args m v m' e r w args' ha hw hB
  unfold envOf at e
  split at e
  · rename_i u hu
    injection e with e
    injection e with e1 e2
    subst e1 e2
    refine (hp f args m u hu r w args' ha hw hB).mono ?_
    rintro e w' ⟨v', rfl, hv, hb⟩
    exact ⟨v', r, rfl, hv, hw.below hb⟩
  · exact hq f args m v m' e r w args' ha hw hB
omit [Fx] in
theorem envNone_ok : EnvOk P G W (fun _ _ _ => none) := fun _ _ _ _ _ e => by cases e
def GoodCode (P : Program) (G : Nat) (W : World) (code : Nat → Code → Tr → AM → Option (Out × Tr × AM)) : Prop := ∀ n c a m o a' m', code n c a m = some (o, a', m') → ∀ r b w, AcT n r a b → Wd P G W r m w → W.heap.size ≤ w.heap.size →
  ∀ Q : Exit → Act → World → Prop, (∀ c a w, ¬ Q (.panic c) a w) → (∀ r' b' w', AcT n r' a' b' → Wd P G W r' m' w' → Step r m w r' m' w' → Q o.toExit b' w') → c.wp P Q b w
/-- in the middle of a loop -/
def LoopAt (P : Program) (x : Code) (Q : Exit → Act → World → Prop) (a : Act) (w : World) : Prop := ∀ (b : Frame) (k : List Item) (cs : List Frame),
  ∃ e a' w', Q e a' w' ∧ Arrives P (lone (b.at a (.code x :: .inLoop x :: k)) cs w) b k cs e a' w'
def GoodLoop (P : Program) (G : Nat) (W : World) (code : Nat → Code → Tr → AM → Option (Out × Tr × AM)) : Prop := ∀ n x a m o a' m', code n (.loop x) a m = some (o, a', m') → ∀ r b w, AcT n r a b → Wd P G W r m w → W.heap.size ≤ w.heap.size →
  ∀ Q : Exit → Act → World → Prop, (∀ c a w, ¬ Q (.panic c) a w) → (∀ r' b' w', AcT n r' a' b' → Wd P G W r' m' w' → Step r m w r' m' w' → Q o.toExit b' w') → LoopAt P x Q b w
omit [Th] [Fx] in
theorem LoopAt.wp {x : Code} {Q : Exit → Act → World → Prop} {a : Act} {w : World} (h : LoopAt P x Q a w) : (Code.loop x).wp P Q a w := fun b k cs => by
  obtain ⟨e, a', w', hq, harr⟩ := h b k cs
  exact ⟨e, a', w', hq, .of_steps (.one step_loop) harr⟩
omit [Th] [Fx] in
theorem LoopAt.of {x : Code} {Q : Exit → Act → World → Prop} {a : Act} {w : World} (h : x.wp P (Exit.then (fun a' w' => LoopAt P x Q a' w') Q) a w) : LoopAt P x Q a w := fun b k cs => by
  obtain ⟨e, a₁, w₁, hq, harr⟩ := h b (.inLoop x :: k) cs
  cases e with
  | normal =>
    obtain ⟨e₂, a₂, w₂, hq₂, harr₂⟩ := hq b k cs
    exact ⟨e₂, a₂, w₂, hq₂, .of_steps (Steps.trans harr (.one step_inLoop)) harr₂⟩
  | exit id => exact ⟨_, a₁, w₁, hq, .pass (x := .inLoop x) rfl (fun _ _ => .inl (by simp)) harr⟩
  | goto l => exact ⟨_, a₁, w₁, hq, .pass (x := .inLoop x) rfl (fun _ _ => .inl (by simp)) harr⟩
  | ret => exact ⟨_, a₁, w₁, hq, .pass (x := .inLoop x) rfl (fun _ _ => .inl (by simp)) harr⟩
  | panic ch => exact ⟨_, a₁, w₁, hq, .pass (x := .inLoop x) rfl (fun _ _ => .inl (by simp)) harr⟩
  | outgrown => exact ⟨_, a₁, w₁, hq, .pass (x := .inLoop x) rfl (fun _ _ => .inl (by simp)) harr⟩
omit [Fx] in
theorem evCall_ok {env : EnvF} (hE : EnvOk P G W env) {code : Nat → Code → Tr → AM → Option (Out × Tr × AM)} (hG : GoodCode P G W code) : CallOk P G W (evCall P env code) := by
  intro f args m v m' e r w args' ha hw hB
  unfold evCall at e
  split at e
  · rename_i u hu
    injection e with e
    subst e
    exact hE f args m v m' hu r w args' ha hw hB
  · split at e
    · rename_i fn hfn
      split at e
      · rename_i c hc
        split at e
        case h_2 => cases e
        rename_i hk1 hk2
        have hk1 := Nat.le_of_ble_eq_true hk1
        have hk2 := Nat.le_of_ble_eq_true hk2
        have hsz : args.size = args'.size := ha.1
        have hl : args.toList.length = args.size := by simp
        refine calls_of_wp hfn hc ?_
        have hact : AcT fn.ntmps r (argsT fn.ntmps 0 args.toList (.leaf undef)) { tmps := args' ++ Array.replicate (fn.ntmps - args'.size) undef, defers := [] } := by
          refine ⟨by simp; omega, hk1, rfl, fun j => ?_⟩
          have h0 : ∀ j, V3 r ((Tr.leaf undef).at_ fn.ntmps j) ((#[] : Array Value).getD j undef) := fun j => by
            have : (Tr.leaf undef).at_ fn.ntmps j = undef := by
              unfold Tr.at_
              split
              · exact Tr.get_leaf _ _
              · rfl
            rw [this]
            exact undef_V3
          have h1 := argsT_at hk1 (r := r) args.toList args'.toList 0 (.leaf undef) #[] (by omega) (by simpa using ha) rfl h0 j
          have e1 : (args' ++ Array.replicate (fn.ntmps - args'.size) undef).getD j undef = args'.getD j undef := by
            rw [Array.getD_eq_getD_getElem?, Array.getD_eq_getD_getElem?, Array.getElem?_append]
            split
            · rfl
            · rename_i hj
              rw [Array.getElem?_eq_none (xs := args') (by omega), Array.getElem?_replicate]
              split <;> rfl
          show V3 r _ ((args' ++ Array.replicate (fn.ntmps - args'.size) undef).getD j undef)
          rw [e1]
          simpa using h1
        have fin : ∀ {r' : List Nat} {a : Tr} {m1 : AM} {b' : Act} {w' : World} {vs : List Value} {u : Value} (_ : resL P fn.ntmps a m1 fn.results.toList = some vs) (_ : resV vs = some u) (_ : (u = v ∧ m' = m1) ∨ (u = v ∧ m' = m1.keep m.n)),
            AcT fn.ntmps r' a b' → Wd P G W r' m1 w' → Step r m w r' m1 w' → b'.defers = [] ∧ ∃ v1, (results fn b'.tmps).run P w' = .ok v1 w' ∧ ∃ v' r', Ending.returned v1 = .returned v' ∧ V3 r' v v' ∧ Wd P G W r' m' w' ∧ Step r m w r' m' w' := by
          intro r' a m1 b' w' vs u h1 h2 h3 ha' hw' hs
          obtain ⟨v1, hv, hrun⟩ := results_sound ha' hw' h1 h2
          refine ⟨ha'.d, v1, hrun, v1, r', rfl, ?_⟩
          rcases h3 with ⟨rfl, rfl⟩ | ⟨rfl, rfl⟩
          · exact ⟨hv, hw', hs⟩
          · exact ⟨hv, hw'.keep _, hs.keep _⟩
        split at e
        · cases e
        · rename_i o a m1 hno hcode
          refine hG fn.ntmps c _ m o a m1 hcode r _ w hact hw hB _ ?_ ?_
          · rintro ch a' w' ⟨-, v', r', h, -⟩
            cases h
          · intro r' b' w' ha' hw' hs
            split at e
            · rename_i vs hvs
              split at e
              · rename_i u hu
                have hh : (u = v ∧ m' = m1) ∨ (u = v ∧ m' = m1.keep m.n) := by
                  split at e
                  · injection e with e
                    injection e with e1 e2
                    exact .inr ⟨e1, e2.symm⟩
                  · injection e with e
                    injection e with e1 e2
                    exact .inl ⟨e1, e2.symm⟩
                have hf := fin hvs hu hh ha' hw' hs
                cases o with
                | normal => exact hf
                | ret => exact hf
                | exit id => exact (hno id rfl).elim
              · cases e
            · cases e
        · cases e
      · cases e
    · cases e
theorem evCode_good [Ts] [Sat] {G : Nat} {W : World} {env : EnvF} (hN : NoGo P) (hM : P.follows .mixedOrders = true) (hE : EnvOk P G W env) : ∀ n, GoodCode P G W (evCode P G env n) ∧ GoodLoop P G W (evCode P G env n)
  | 0 => ⟨fun k c a m o a' m' e => (by cases e), fun k c a m o a' m' e => (by cases e)⟩
  | n + 1 => by
    obtain ⟨ih, ihl⟩ := evCode_good hN hM hE n
    have hC := evCall_ok hE ih
    have hL : GoodLoop P G W (evCode P G env (n + 1)) := by
      intro kk x a m o a' m' e r b w h hw hB Q hQ k
      change cNext (evCode P G env n kk (.loop x)) (evCode P G env n kk x a m) = some (o, a', m') at e
      unfold cNext at e
      refine LoopAt.of ?_
      split at e
      · rename_i a1 m1 h1
        refine ih kk x a m .normal a1 m1 h1 r b w h hw hB _ (fun c a w => hQ c a w) fun r' b' w' h' hw' hs => ?_
        exact ihl kk x a1 m1 o a' m' e r' b' w' h' hw' (Nat.le_trans hB hs.size) Q hQ fun r2 b2 w2 h2 hw2 hs2 => k r2 b2 w2 h2 hw2 (hs.trans hs2)
      · rename_i hne
        refine ih kk x a m o a' m' e r b w h hw hB _ (fun c a w => hQ c a w) fun r' b' w' h' hw' hs => ?_
        cases o with
        | normal => exact absurd e (hne _ _)
        | exit id => exact k r' b' w' h' hw' hs
        | ret => exact k r' b' w' h' hw' hs
    refine ⟨?_, hL⟩
    intro kk c a m o a' m' e r b w h hw hB Q hQ k
    have done : some (Out.normal, a, m) = some (o, a', m') → Q .normal b w := fun e => by
      injection e with e
      injection e with e1 e
      injection e with e2 e3
      subst e1 e2 e3
      exact k r b w h hw (Step.refl r m w)
    cases c with
    | skip => exact wp_skip (done e)
    | label l => exact wp_label (done e)
    | exit id =>
      injection e with e
      injection e with e1 e
      injection e with e2 e3
      subst e1 e2 e3
      exact wp_exit (k r b w h hw (Step.refl r m w))
    | ret =>
      injection e with e
      injection e with e1 e
      injection e with e2 e3
      subst e1 e2 e3
      exact wp_ret (k r b w h hw (Step.refl r m w))
    | loop x => exact (hL kk x a m o a' m' e r b w h hw hB Q hQ k).wp
    | seq x y =>
      change cNext (evCode P G env n kk y) (evCode P G env n kk x a m) = some (o, a', m') at e
      unfold cNext at e
      refine wp_seq ?_
      split at e
      · rename_i a1 m1 h1
        refine ih kk x a m .normal a1 m1 h1 r b w h hw hB _ (fun c a w => hQ c a w) fun r' b' w' h' hw' hs => ?_
        exact ih kk y a1 m1 o a' m' e r' b' w' h' hw' (Nat.le_trans hB hs.size) Q hQ fun r2 b2 w2 h2 hw2 hs2 => k r2 b2 w2 h2 hw2 (hs.trans hs2)
      · rename_i hne
        refine ih kk x a m o a' m' e r b w h hw hB _ (fun c a w => hQ c a w) fun r' b' w' h' hw' hs => ?_
        cases o with
        | normal => exact absurd e (hne _ _)
        | exit id => exact k r' b' w' h' hw' hs
        | ret => exact k r' b' w' h' hw' hs
    | cond c x y =>
      change cIf (evCode P G env n) kk x y a m (opd G c) (ask Fx.F (a.ev kk c)) = some (o, a', m') at e
      unfold cIf at e
      split at e
      · rename_i hc hv
        exact wp_cond_true (ask_bool Sat.ok (h.eval hw.g _ hc) hv) (ih kk x a m o a' m' e r b w h hw hB Q hQ k)
      · rename_i hc hv
        exact wp_cond_false (ask_bool Sat.ok (h.eval hw.g _ hc) hv) (ih kk y a m o a' m' e r b w h hw hB Q hQ k)
      · cases e
    | block id x =>
      change cBlk id (evCode P G env n kk x a m) = some (o, a', m') at e
      unfold cBlk at e
      refine wp_block ?_
      split at e
      · rename_i i a1 m1 h1
        split at e
        · rename_i hi
          injection e with e
          injection e with e1 e
          injection e with e2 e3
          subst e1 e2 e3
          refine ih kk x a m (.exit i) a1 m1 h1 r b w h hw hB _ (fun c a w => hQ c a w) fun r' b' w' h' hw' hs => ?_
          show (if i = id then Q .normal b' w' else Q (.exit i) b' w')
          rw [if_pos (Nat.eq_of_beq_eq_true hi)]
          exact k r' b' w' h' hw' hs
        · rename_i hi
          injection e with e
          injection e with e1 e
          injection e with e2 e3
          subst e1 e2 e3
          refine ih kk x a m (.exit i) a1 m1 h1 r b w h hw hB _ (fun c a w => hQ c a w) fun r' b' w' h' hw' hs => ?_
          show (if i = id then Q .normal b' w' else Q (.exit i) b' w')
          rw [if_neg (Nat.ne_of_beq_eq_false hi)]
          exact k r' b' w' h' hw' hs
      · rename_i hne
        refine ih kk x a m o a' m' e r b w h hw hB _ (fun c a w => hQ c a w) fun r' b' w' h' hw' hs => ?_
        cases o with
        | normal => exact k r' b' w' h' hw' hs
        | exit id => exact absurd e (hne _ _ _)
        | ret => exact k r' b' w' h' hw' hs
    | scope x =>
      change evCode P G env n kk x a m = some (o, a', m') at e
      refine wp_scope_straight ?_
      refine ih kk x a m o a' m' e r b w h hw hB _ (fun c a w => hQ c a w) fun r' b' w' h' hw' hs => ?_
      cases o <;> exact k r' b' w' h' hw' hs
    | region id ops draw =>
      cases draw with
      | false =>
        change cReg (evOps P G (evCall P env (evCode P G env n)) kk ops ops.toList a m) = some (o, a', m') at e
        unfold cReg at e
        split at e
        · rename_i a1 m1 h1
          injection e with e
          injection e with e1 e
          injection e with e2 e3
          subst e1 e2 e3
          exact wp_region_list (evOps_sound hN hC ops.toList h1 h hw hB k)
        · cases e
      | true =>
        change cDraw P G env (evCode P G env n) kk ops a m (Region.noSelect ops) (plan ops.size 0 (omsL ops 0 ops.toList)) = some (o, a', m') at e
        unfold cDraw at e
        split at e
        · rename_i steps hsel hplan
          unfold cReg at e
          split at e
          · rename_i a1 m1 h1
            injection e with e
            injection e with e1 e
            injection e with e2 e3
            subst e1 e2 e3
            have hwd : Wd P G W r m { w with drawn := w.drawn + 1 } := ⟨⟨hw.low.os, hw.low.tape, hw.low.output, hw.low.size, hw.low.block⟩, hw.n, hw.g, hw.at_, hw.inj, ⟨hw.low2.os, hw.low2.tape, hw.low2.output, hw.low2.size, hw.low2.block⟩, hw.opn⟩
            refine wp_region_any hM (wpAny_of_O _ [] _ _ _ (evPlan_sound hN hC hsel hQ ops.size (left_start ops) hplan h1 h hwd hB closed_none (F := []) (fun y hy => by simp at hy) (fun y hy => by simp at hy) fun r' b' w' h' hw' hs => k r' b' w' h' hw' ?_))
            exact ⟨hs.ext, hs.os, hs.tape, hs.output, hs.size, hs.block, hs.dom⟩
          · cases e
        · cases e
    | _ => cases e
/-- what is known of the package-level variables -/
def Knows (G : Nat) (l : List Bk) (w : World) : Prop := G ≤ w.heap.size ∧ ∀ i x, find l i = some x → i < G ∧ x.ro = true ∧ x.ex = true ∧ w.heap[i]? = some (.cells x.c x.T (0, 0)) ∧ x.c.all dry = true
omit [Fx] in
theorem Knows.wd {G : Nat} {l : List Bk} {w : World} [At w] (h : Knows G l w) : Wd P G w (List.range G) ⟨G, l⟩ w := by
  have hr : ∀ i, i < G → (List.range G)[i]? = some i := fun i hi => by rw [List.getElem?_range hi]
  refine ⟨Below.refl _ _, by simp, hr, fun i x hx => ?_, fun i j b x y hx hy hi hj => ?_, At.low, fun i b x hx hro _ => ?_⟩
  · obtain ⟨h1, h2, h5, h3, h4⟩ := h.2 i x hx
    exact ⟨i, x.c, hr i h1, (fun h => by rw [h2] at h; cases h), h3, Nat.le_refl _, fun _ => rfl, fun h => (by rw [h5] at h; cases h), fun j u v hu hv => (dry_all h4).2 j u v hu hv⟩
  · rw [hr i (h.2 i x hx).1] at hi
    rw [hr j (h.2 j y hy).1] at hj
    injection hi with hi
    injection hj with hj
    omega
  · rw [(h.2 i x hx).2.1] at hro
    cases hro
/-- a call that is reckoned ahead, its arguments without addresses: the answer, and nothing that was there has turned -/
theorem reckoned [Ts] [Sat] {env : EnvF} (n : Nat) (hN : NoGo P) (hM : P.follows .mixedOrders = true) {G : Nat} {l : List Bk} {f : FuncId} {args : Array Value} {v : Value}
    (e : (match evCall P env (evCode P G env n) f args ⟨G, l⟩ with | some (v, _) => some v | none => none) = some v) (ha : args.all still = true) (hv : still3 v = true) (w : World) [At w] (hE : EnvOk P G w env) (hK : Knows G l w) :
    Calls P f args w fun e w' => e = .returned v ∧ Below w.heap.size w w' := by
  split at e
  · rename_i v1 m' e1
    injection e with e
    subst e
    refine (evCall_ok hE (evCode_good hN hM hE n).1 f args ⟨G, l⟩ v1 m' e1 (List.range G) w args (All.same fun x hx => still_V2 (by
      rw [Array.all_eq_true_iff_forall_mem] at ha
      exact ha x hx)) hK.wd (Nat.le_refl _)).mono ?_
    rintro e w' ⟨v', r', rfl, h1, h2, h3⟩
    rw [still3_eq h1 hv]
    exact ⟨rfl, h3.os, h3.tape, h3.output, h3.size, fun k hk => h3.block k hk fun ⟨i, x, hx, hr, _⟩ => (by rw [(hK.2 i x hx).2.1] at hr; cases hr)⟩
  · cases e
end
end Go.Sx
