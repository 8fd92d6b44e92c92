/-
  RUNS RECKONED AHEAD, part nine: what is reckoned comes to pass. By an AI agent.
-/
import Derived.Test.YtlgdmncioakkjaaGreatDoorSyG
namespace Go.Sx
variable [Th] [Fx]
section
variable {P : Program} {G : Nat} {W : World}
/-- known blocks whose number is below k -/
def keep (k : Nat) : List Bk → List Bk
  | [] => []
  | x :: l => match Nat.ble k x.i with
    | true => keep k l
    | false => x :: keep k l
omit [Th] [Fx] in
theorem find_keep {k : Nat} : ∀ {l : List Bk} {i : Nat} {x : Bk}, find (keep k l) i = some x → find l i = some x
  | [], i, x, h => by cases h
  | y :: l, i, x, h => by
    unfold keep at h
    unfold find
    cases hk : Nat.ble k y.i with
    | true =>
      rw [hk] at h
      have h' := find_keep h
      cases hi : Nat.beq y.i i with
      | false => exact h'
      | true =>
        have e := Nat.eq_of_beq_eq_true hi
        subst e
        exact absurd h (by
          have : ∀ (l : List Bk), find (keep k l) y.i = none := by
            intro l
            induction l with
            | nil => rfl
            | cons z l ih =>
              unfold keep
              cases hz : Nat.ble k z.i with
              | true => exact ih
              | false =>
                unfold find
                have : Nat.beq z.i y.i = false := by
                  cases hb : Nat.beq z.i y.i with
                  | false => rfl
                  | true =>
                    rw [Nat.eq_of_beq_eq_true hb, hk] at hz
                    cases hz
                rw [this]
                exact ih
          rw [this]
          simp)
    | false =>
      unfold find at h
      | true => rw [hi] at h; exact h
      | false => rw [hi] at h; exact find_keep h
def AM.keep (k : Nat) (m : AM) : AM := { n := m.n, bs := Sx.keep k m.bs }
omit [Fx] in
theorem Wd.keep {r : List Nat} {m : AM} {w : World} (h : Wd P G W r m w) (k : Nat) : Wd P G W r (m.keep k) w :=
  ⟨h.low, h.n, h.g, fun i x hx => h.at_ i x (find_keep hx), fun i j b x y hx hy => h.inj i j b x y (find_keep hx) (find_keep hy)⟩
theorem Step.keep {r r' : List Nat} {m m' : AM} {w w' : World} (h : Step r m w r' m' w') (k : Nat) : Step r m w r' (m'.keep k) w' :=
  ⟨h.ext, h.os, h.tape, h.output, h.size, h.block, fun b ⟨i, x, hx, hr, hi⟩ => h.dom b ⟨i, x, find_keep hx, hr, hi⟩⟩

/-- what a function gives back -/
noncomputable def res1 (P : Program) (n : Nat) (a : Tr) (m : AM) : ResultVar → Option Value
  | .tmp t => some (a.at_ n t)
  | .cell t T => match a.at_ n t with
    | .pointer (some p) => match look P (loadVar T p) m with
      | some (v, _) => some v
      | none => none
    | _ => none
noncomputable def resL (P : Program) (n : Nat) (a : Tr) (m : AM) : List ResultVar → Option (List Value)
  | [] => some []
  | x :: l => match res1 P n a m x with
    | some v => match resL P n a m l with
      | some vs => some (v :: vs)
    | none => none
def resV : List Value → Option Value
  | [v] => some v
  | vs => match vs.all nt with
    | true => some (.tuple vs.toArray)
    | false => none
/-- one result, as the model has it -/
def resS (b : Act) : ResultVar → Sem Value
  | .tmp t => pure (b.tmps.getD t undef)
  | .cell t T => do loadVar T (← asAddr (b.tmps.getD t undef))
theorem res1_sound {r : List Nat} {n : Nat} {a : Tr} {b : Act} {m : AM} {w : World} {x : ResultVar} {v : Value} (e : res1 P n a m x = some v) (h : AcT n r a b) (hw : Wd P G W r m w) :
    ∃ v', V3 r v v' ∧ (resS b x).run P w = .ok v' w := by
  have ht : ∀ t, V3 r (a.at_ n t) (b.tmps.getD t undef) := h.at_
  cases x with
  | tmp t =>
    injection e with e
    subst e
    exact ⟨_, ht t, rfl⟩
  | cell t T =>
    unfold res1 at e
    simp only at e
    have h1 := ht t
    split at e
    · rename_i p hp
      rw [hp] at h1
      obtain ⟨q, hq, hpq⟩ := h1
      split at e
      · rename_i u F hl
        injection e with e
        obtain ⟨y, G, hy, _, h3, h4⟩ := look_sound _ _ r m w _ _ (sr_loadVar T hpq) hl hw
        refine ⟨y, hy.up, ?_⟩
        show (do loadVar T (← asAddr (b.tmps.getD t undef)) : Sem Value).run P w = _
        rw [hq]
        exact h4 w h3
      · cases e
    · cases e
theorem results_eq (fn : Func) (b : Act) : results fn b.tmps = (do let vs ← fn.results.mapM (resS b); pure (if h : vs.size = 1 then vs[0] else .tuple vs)) := by
  unfold results
  congr 1
theorem resL_sound {n : Nat} {r : List Nat} {a : Tr} {b : Act} {m : AM} {w : World} (h : AcT n r a b) (hw : Wd P G W r m w) : ∀ {l : List ResultVar} {vs : List Value}, resL P n a m l = some vs →
    ∃ vs', All (V3 r) vs.toArray vs'.toArray ∧ (l.mapM (resS b)).run P w = .ok vs' w
  | [], vs, e => by
    exact ⟨[], All.nil, rfl⟩
  | x :: l, vs, e => by
    unfold resL at e
    · rename_i v hv
      · rename_i us hus
        obtain ⟨v', h1, h2⟩ := res1_sound hv h hw
        obtain ⟨us', h3, h4⟩ := resL_sound h hw hus
        refine ⟨v' :: us', ⟨by simpa using h3.1, fun i x y hx hy => ?_⟩, ?_⟩
        · cases i with
          | zero =>
            simp at hx hy
            subst hx hy
            exact h1
          | succ i => exact h3.2 i x y (by simpa using hx) (by simpa using hy)
        · have h2' : (resS b x).run P w = .ok v' w := h2
          rw [List.mapM_cons]
          simp [h2', h4]
theorem results_sound {fn : Func} {n : Nat} {r : List Nat} {a : Tr} {b : Act} {m : AM} {w : World} {vs : List Value} {v : Value} (h : AcT n r a b) (hw : Wd P G W r m w) (e : resL P n a m fn.results.toList = some vs) (ev : resV vs = some v) :
    ∃ v', V3 r v v' ∧ (results fn b.tmps).run P w = .ok v' w := by
  obtain ⟨vs', h1, h2⟩ := resL_sound h hw e
  have hm : (fn.results.mapM (resS b)).run P w = .ok vs'.toArray w := by
    rw [Array.mapM_eq_mapM_toList]
    simp [h2]
  refine ⟨if h : vs'.toArray.size = 1 then vs'.toArray[0] else .tuple vs'.toArray, ?_, by rw [results_eq]; simp [hm]⟩
  have hl : vs.length = vs'.length := by simpa using h1.1
  unfold resV at ev
  split at ev
  · rename_i u
    injection ev with ev
    subst ev
    have : vs'.toArray.size = 1 := by simpa using hl.symm
    rw [dif_pos this]
    exact h1.2 0 _ _ (by simp) (Array.getElem?_eq_getElem (by omega))
  · rename_i hne
    split at ev
    · rename_i hnt
      injection ev with ev
      subst ev
      have : ¬ vs'.toArray.size = 1 := by
        intro h
        have : vs.length = 1 := by simpa [← hl] using h
        obtain ⟨u, hu⟩ := List.length_eq_one_iff.1 this
        exact hne u hu
      rw [dif_neg this]
      refine ⟨_, rfl, h1.1, fun i x y hx hy => (h1.2 i x y hx hy).nt ?_⟩
      exact List.all_eq_true.1 hnt x (by simpa using Array.mem_of_getElem? hx)
    · cases ev
/-- no address: what was known of the memory made on the way may be dropped -/
def light : Value → Bool
  | .iface _ _ => true
  | .agg a => a.all fun v => dry v || isTok v
  | v => dry v
def light3 : Value → Bool
  | .tuple a => a.all light
  | v => light v
/-- the ways out that are reckoned -/
inductive Out where
  | normal
  | exit (id : Nat)
  | ret
def Out.toExit : Out → Exit
  | .normal => .normal
  | .exit i => .exit i
  | .ret => .ret
/-- the arguments in their slots -/
noncomputable def argsT (n : Nat) : Nat → List Value → Tr → Tr
  | _, [], t => t
  | i, v :: l, t => argsT n (i + 1) l (t.set (bits (dpt n) i) v)
noncomputable def evCall (P : Program) (env : FuncId → Array Value → AM → Option (Value × AM)) (code : Nat → Code → Tr → AM → Option (Out × Tr × AM)) : CallF := fun f args m =>
  match env f args m with
  | some v => some v
  | none => match P.funcs[f]? with
    | some fn => match fn.body with
      | some c => match Nat.ble fn.ntmps 512, Nat.ble args.toList.length fn.ntmps with
        | true, true => match code fn.ntmps c (argsT fn.ntmps 0 args.toList (.leaf undef)) m with
          | some (.exit _, _, _) => none
          | some (_, a, m') => match resL P fn.ntmps a m' fn.results.toList with
            | some vs => match resV vs with
              | some v => match light3 v with
                | true => some (v, m'.keep m.n)
                | false => some (v, m')
              | none => none
            | none => none
          | none => none
        | _, _ => none
abbrev CodeF := Nat → Code → Tr → AM → Option (Out × Tr × AM)
noncomputable def cNext (f : Tr → AM → Option (Out × Tr × AM)) (r : Option (Out × Tr × AM)) : Option (Out × Tr × AM) := match r with
  | some (.normal, a', m') => f a' m'
  | r => r
def cBlk (id : Nat) (r : Option (Out × Tr × AM)) : Option (Out × Tr × AM) := match r with
  | some (.exit i, a', m') => match Nat.beq i id with
    | true => some (.normal, a', m')
    | false => some (.exit i, a', m')
def cReg (r : Option (Tr × AM)) : Option (Out × Tr × AM) := match r with
  | some (a', m') => some (.normal, a', m')
  | none => none
noncomputable def cDraw (P : Program) (G : Nat) (env : FuncId → Array Value → AM → Option (Value × AM)) (ih : CodeF) (k : Nat) (ops : Array Oper) (a : Tr) (m : AM) (sel : Bool) (pl : Option (List PStep)) : Option (Out × Tr × AM) := match sel, pl with
  | true, some steps => cReg (evPlan P G (evCall P env ih) k ops steps [] a m)
  | _, _ => none
noncomputable def cIf (ih : CodeF) (k : Nat) (x y : Code) (a : Tr) (m : AM) (ok : Bool) (v : Value) : Option (Out × Tr × AM) := match ok, v with
  | true, .bool true => ih k x a m
  | true, .bool false => ih k y a m
noncomputable def cOne (P : Program) (G : Nat) (env : FuncId → Array Value → AM → Option (Value × AM)) (ih : CodeF) (k : Nat) (c : Code) (a : Tr) (m : AM) : Option (Out × Tr × AM) := match c with
  | .skip => some (.normal, a, m)
  | .label _ => some (.normal, a, m)
  | .region _ ops draw => match draw with
    | false => cReg (evOps P G (evCall P env ih) k ops ops.toList a m)
    | true => cDraw P G env ih k ops a m (Region.noSelect ops) (plan ops.size 0 (omsL ops 0 ops.toList))
  | .seq x y => cNext (ih k y) (ih k x a m)
  | .cond c x y => cIf ih k x y a m (opd G c) (ask Fx.F (a.ev k c))
  | .block id x => cBlk id (ih k x a m)
  | .loop x => cNext (ih k (.loop x)) (ih k x a m)
  | .exit id => some (.exit id, a, m)
  | .scope x => ih k x a m
  | .ret => some (.ret, a, m)
  | _ => none
noncomputable def evCode (P : Program) (G : Nat) (env : FuncId → Array Value → AM → Option (Value × AM)) (n : Nat) : CodeF :=
  Nat.rec (motive := fun _ => CodeF) (fun _ _ _ _ => none) (fun _ ih k c a m => cOne P G env ih k c a m) n
theorem argsT_at {n : Nat} (hn : n ≤ 512) {r : List Nat} : ∀ (l l' : List Value) (i : Nat) (t : Tr) (b : Array Value), i + l.length ≤ n → All (V2 r) l.toArray l'.toArray → b.size = i → (∀ j, V3 r (t.at_ n j) (b.getD j undef)) →
    ∀ j, V3 r ((argsT n i l t).at_ n j) ((b ++ l'.toArray).getD j undef)
  | [], l', i, t, b, _, h, _, ht, j => by
    cases l' with
    | nil => simpa [argsT] using ht j
    | cons y l' => simp [All] at h
  | v :: l, l', i, t, b, hi, h, hb, ht, j => by
    obtain ⟨y, l2, e, hxy, hl⟩ := h.cons
    simp only [List.length_cons] at hi
    have hdp := dpt_le hn
    have := argsT_at hn l l2 (i + 1) (t.set (bits (dpt n) i) v) (b.push y) (by omega) hl (by simp [hb]) (fun j => by
      have hj := ht j
      have hi1 : Nat.blt i n = true := by simp [Nat.blt_eq]; omega
      by_cases e : i = j
      · subst e
        unfold Tr.at_
        rw [hi1]
        simp only
        rw [Tr.get_set, Array.getD_eq_getD_getElem?, Array.getElem?_push, if_pos hb.symm]
        exact hxy.up
      · unfold Tr.at_ at hj ⊢
        have e2 : (b.push y).getD j undef = b.getD j undef := by
          rw [Array.getD_eq_getD_getElem?, Array.getElem?_push, if_neg (by omega), ← Array.getD_eq_getD_getElem?]
        rw [e2]
        cases hb2 : Nat.blt j n with
        | false => rw [hb2] at hj; exact hj
        | true =>
          rw [hb2] at hj
          have hj2 : j < n := by simpa [Nat.blt_eq] using hb2
          simp only at hj ⊢
          rw [Tr.get_set_ne _ _ _ _ (by rw [bits_len, bits_len]) (fun h => e (bits_inj (dpt n) i j (by omega) (by omega) h))]
          exact hj) j
    simpa [argsT] using this
end
end Go.Sx
import Derived.Scope
import Derived.Below
open Go.RowKit
abbrev EnvF := FuncId → Array Value → AM → Option (Value × AM)
/-- contracts that are taken as they are -/
def EnvOk (P : Program) (G : Nat) (W : World) (env : EnvF) : Prop := CallOk P G W env
theorem Wd.below {r : List Nat} {m : AM} {w w' : World} (h : Wd P G W r m w) (hb : Below w.heap.size w w') : Wd P G W r m w' ∧ Step r m w r m w' := by
  refine ⟨⟨h.low.trans (hb.mono h.low.size), h.n, h.g, fun i x hx => ?_, h.inj⟩, ⟨Ext.refl r, hb.os, hb.tape, hb.output, hb.size, fun b hlt _ => hb.block b hlt, fun b hd => .inl hd⟩⟩
  obtain ⟨b, c, h1, h2, h3, h4⟩ := h.at_ i x hx
  exact ⟨b, c, h1, h2, by rw [hb.block b (Array.getElem?_eq_some_iff.1 h3).1]; exact h3, h4⟩
/-- answers that leave the memory alone -/
abbrev EnvP := FuncId → Array Value → AM → Option Value
def EnvPOk (P : Program) (G : Nat) (W : World) (env : EnvP) : Prop := ∀ f args m v, env f args m = some v → ∀ r w args', All (V2 r) args args' → Wd P G W r m w → W.heap.size ≤ w.heap.size →
  Calls P f args' w fun e w' => ∃ v', e = .returned v' ∧ V3 r v v' ∧ Below w.heap.size w w'
/-- the answers of one, then those of the other -/
def envOf (p : EnvP) (q : EnvF) : EnvF := fun f args m => match p f args m with
  | some v => some (v, m)
  | none => q f args m
theorem envOf_ok {p : EnvP} {q : EnvF} (hp : EnvPOk P G W p) (hq : EnvOk P G W q) : EnvOk P G W (envOf p q) := by
  intro f args m v m' e r w args' ha hw hB
  unfold envOf at e
  split at e
  · rename_i u hu
    injection e with e1 e2
    subst e1 e2
    refine (hp f args m u hu r w args' ha hw hB).mono ?_
    rintro e w' ⟨v', rfl, hv, hb⟩
    exact ⟨v', r, rfl, hv, hw.below hb⟩
  · exact hq f args m v m' e r w args' ha hw hB
theorem envNone_ok : EnvOk P G W (fun _ _ _ => none) := fun _ _ _ _ _ e => by cases e
def GoodCode (P : Program) (G : Nat) (W : World) (code : Nat → Code → Tr → AM → Option (Out × Tr × AM)) : Prop := ∀ n c a m o a' m', code n c a m = some (o, a', m') → ∀ r b w, AcT n r a b → Wd P G W r m w → W.heap.size ≤ w.heap.size →
  ∀ Q : Exit → Act → World → Prop, (∀ c a w, ¬ Q (.panic c) a w) → (∀ r' b' w', AcT n r' a' b' → Wd P G W r' m' w' → Step r m w r' m' w' → Q o.toExit b' w') → c.wp P Q b w
/-- in the middle of a loop -/
def LoopAt (P : Program) (x : Code) (Q : Exit → Act → World → Prop) (a : Act) (w : World) : Prop := ∀ (b : Frame) (k : List Item) (cs : List Frame),
  ∃ e a' w', Q e a' w' ∧ Arrives P (lone (b.at a (.code x :: .inLoop x :: k)) cs w) b k cs e a' w'
def GoodLoop (P : Program) (G : Nat) (W : World) (code : Nat → Code → Tr → AM → Option (Out × Tr × AM)) : Prop := ∀ n x a m o a' m', code n (.loop x) a m = some (o, a', m') → ∀ r b w, AcT n r a b → Wd P G W r m w → W.heap.size ≤ w.heap.size →
  ∀ Q : Exit → Act → World → Prop, (∀ c a w, ¬ Q (.panic c) a w) → (∀ r' b' w', AcT n r' a' b' → Wd P G W r' m' w' → Step r m w r' m' w' → Q o.toExit b' w') → LoopAt P x Q b w
theorem LoopAt.wp {x : Code} {Q : Exit → Act → World → Prop} {a : Act} {w : World} (h : LoopAt P x Q a w) : (Code.loop x).wp P Q a w := fun b k cs => by
  obtain ⟨e, a', w', hq, harr⟩ := h b k cs
  exact ⟨e, a', w', hq, .of_steps (.one step_loop) harr⟩
theorem LoopAt.of {x : Code} {Q : Exit → Act → World → Prop} {a : Act} {w : World} (h : x.wp P (Exit.then (fun a' w' => LoopAt P x Q a' w') Q) a w) : LoopAt P x Q a w := fun b k cs => by
  obtain ⟨e, a₁, w₁, hq, harr⟩ := h b (.inLoop x :: k) cs
  cases e with
  | normal =>
    obtain ⟨e₂, a₂, w₂, hq₂, harr₂⟩ := hq b k cs
    exact ⟨e₂, a₂, w₂, hq₂, .of_steps (Steps.trans harr (.one step_inLoop)) harr₂⟩
  | exit id => exact ⟨_, a₁, w₁, hq, .pass (x := .inLoop x) rfl (fun _ _ => .inl (by simp)) harr⟩
  | goto l => exact ⟨_, a₁, w₁, hq, .pass (x := .inLoop x) rfl (fun _ _ => .inl (by simp)) harr⟩
  | ret => exact ⟨_, a₁, w₁, hq, .pass (x := .inLoop x) rfl (fun _ _ => .inl (by simp)) harr⟩
  | panic ch => exact ⟨_, a₁, w₁, hq, .pass (x := .inLoop x) rfl (fun _ _ => .inl (by simp)) harr⟩
  | outgrown => exact ⟨_, a₁, w₁, hq, .pass (x := .inLoop x) rfl (fun _ _ => .inl (by simp)) harr⟩
theorem evCall_ok {env : EnvF} (hE : EnvOk P G W env) {code : Nat → Code → Tr → AM → Option (Out × Tr × AM)} (hG : GoodCode P G W code) : CallOk P G W (evCall P env code) := by
  unfold evCall at e
    exact hE f args m v m' hu r w args' ha hw hB
  · split at e
    · rename_i fn hfn
      · rename_i c hc
        split at e
        case h_2 => cases e
        rename_i hk1 hk2
        have hk1 := Nat.le_of_ble_eq_true hk1
        have hk2 := Nat.le_of_ble_eq_true hk2
        have hsz : args.size = args'.size := ha.1
        have hl : args.toList.length = args.size := by simp
        refine calls_of_wp hfn hc ?_
        have hact : AcT fn.ntmps r (argsT fn.ntmps 0 args.toList (.leaf undef)) { tmps := args' ++ Array.replicate (fn.ntmps - args'.size) undef, defers := [] } := by
          refine ⟨by simp; omega, hk1, rfl, fun j => ?_⟩
          have h0 : ∀ j, V3 r ((Tr.leaf undef).at_ fn.ntmps j) ((#[] : Array Value).getD j undef) := fun j => by
            have : (Tr.leaf undef).at_ fn.ntmps j = undef := by
              unfold Tr.at_
              split
              · exact Tr.get_leaf _ _
              · rfl
            rw [this]
            exact undef_V3
          have h1 := argsT_at hk1 (r := r) args.toList args'.toList 0 (.leaf undef) #[] (by omega) (by simpa using ha) rfl h0 j
          have e1 : (args' ++ Array.replicate (fn.ntmps - args'.size) undef).getD j undef = args'.getD j undef := by
            rw [Array.getD_eq_getD_getElem?, Array.getD_eq_getD_getElem?, Array.getElem?_append]
            split
            · rfl
            · rename_i hj
              rw [Array.getElem?_eq_none (xs := args') (by omega), Array.getElem?_replicate]
              split <;> rfl
          show V3 r _ ((args' ++ Array.replicate (fn.ntmps - args'.size) undef).getD j undef)
          rw [e1]
          simpa using h1
        have fin : ∀ {r' : List Nat} {a : Tr} {m1 : AM} {b' : Act} {w' : World} {vs : List Value} {u : Value} (_ : resL P fn.ntmps a m1 fn.results.toList = some vs) (_ : resV vs = some u) (_ : (u = v ∧ m' = m1) ∨ (u = v ∧ m' = m1.keep m.n)),
            AcT fn.ntmps r' a b' → Wd P G W r' m1 w' → Step r m w r' m1 w' → b'.defers = [] ∧ ∃ v1, (results fn b'.tmps).run P w' = .ok v1 w' ∧ ∃ v' r', Ending.returned v1 = .returned v' ∧ V3 r' v v' ∧ Wd P G W r' m' w' ∧ Step r m w r' m' w' := by
          intro r' a m1 b' w' vs u h1 h2 h3 ha' hw' hs
          obtain ⟨v1, hv, hrun⟩ := results_sound ha' hw' h1 h2
          refine ⟨ha'.d, v1, hrun, v1, r', rfl, ?_⟩
          rcases h3 with ⟨rfl, rfl⟩ | ⟨rfl, rfl⟩
          · exact ⟨hv, hw', hs⟩
          · exact ⟨hv, hw'.keep _, hs.keep _⟩
        · cases e
        · rename_i o a m1 hno hcode
          refine hG fn.ntmps c _ m o a m1 hcode r _ w hact hw hB _ ?_ ?_
          · rintro ch a' w' ⟨-, v', r', h, -⟩
            cases h
          · intro r' b' w' ha' hw' hs
            split at e
            · rename_i vs hvs
              split at e
              · rename_i u hu
                have hh : (u = v ∧ m' = m1) ∨ (u = v ∧ m' = m1.keep m.n) := by
                  split at e
                  · injection e with e
                    injection e with e1 e2
                    exact .inr ⟨e1, e2.symm⟩
                    exact .inl ⟨e1, e2.symm⟩
                have hf := fin hvs hu hh ha' hw' hs
                cases o with
                | normal => exact hf
                | ret => exact hf
                | exit id => exact (hno id rfl).elim
              · cases e
            · cases e
theorem evCode_good [Ts] [Sat] {G : Nat} {W : World} [At W] {env : EnvF} (hN : NoGo P) (hM : P.follows .mixedOrders = true) (hE : EnvOk P G W env) : ∀ n, GoodCode P G W (evCode P G env n) ∧ GoodLoop P G W (evCode P G env n)
  | 0 => ⟨fun k c a m o a' m' e => (by cases e), fun k c a m o a' m' e => (by cases e)⟩
  | n + 1 => by
    obtain ⟨ih, ihl⟩ := evCode_good hN hM hE n
    have hC := evCall_ok hE ih
    have hL : GoodLoop P G W (evCode P G env (n + 1)) := by
      intro kk x a m o a' m' e r b w h hw hB Q hQ k
      change cNext (evCode P G env n kk (.loop x)) (evCode P G env n kk x a m) = some (o, a', m') at e
      unfold cNext at e
      refine LoopAt.of ?_
      · rename_i a1 m1 h1
        refine ih kk x a m .normal a1 m1 h1 r b w h hw hB _ (fun c a w => hQ c a w) fun r' b' w' h' hw' hs => ?_
        exact ihl kk x a1 m1 o a' m' e r' b' w' h' hw' (Nat.le_trans hB hs.size) Q hQ fun r2 b2 w2 h2 hw2 hs2 => k r2 b2 w2 h2 hw2 (hs.trans hs2)
      · rename_i hne
        refine ih kk x a m o a' m' e r b w h hw hB _ (fun c a w => hQ c a w) fun r' b' w' h' hw' hs => ?_
        cases o with
        | normal => exact absurd e (hne _ _)
        | exit id => exact k r' b' w' h' hw' hs
        | ret => exact k r' b' w' h' hw' hs
    refine ⟨?_, hL⟩
    intro kk c a m o a' m' e r b w h hw hB Q hQ k
    have done : some (Out.normal, a, m) = some (o, a', m') → Q .normal b w := fun e => by
      injection e with e
      injection e with e1 e
      injection e with e2 e3
      subst e1 e2 e3
      exact k r b w h hw (Step.refl r m w)
    cases c with
    | skip => exact wp_skip (done e)
    | label l => exact wp_label (done e)
    | exit id =>
      exact wp_exit (k r b w h hw (Step.refl r m w))
    | ret =>
      exact wp_ret (k r b w h hw (Step.refl r m w))
    | loop x => exact (hL kk x a m o a' m' e r b w h hw hB Q hQ k).wp
    | seq x y =>
      change cNext (evCode P G env n kk y) (evCode P G env n kk x a m) = some (o, a', m') at e
      refine wp_seq ?_
        exact ih kk y a1 m1 o a' m' e r' b' w' h' hw' (Nat.le_trans hB hs.size) Q hQ fun r2 b2 w2 h2 hw2 hs2 => k r2 b2 w2 h2 hw2 (hs.trans hs2)
    | cond c x y =>
      change cIf (evCode P G env n) kk x y a m (opd G c) (ask Fx.F (a.ev kk c)) = some (o, a', m') at e
      unfold cIf at e
      · rename_i hc hv
        exact wp_cond_true (ask_bool Sat.ok (h.eval hw.g _ hc) hv) (ih kk x a m o a' m' e r b w h hw hB Q hQ k)
        exact wp_cond_false (ask_bool Sat.ok (h.eval hw.g _ hc) hv) (ih kk y a m o a' m' e r b w h hw hB Q hQ k)
    | block id x =>
      change cBlk id (evCode P G env n kk x a m) = some (o, a', m') at e
      unfold cBlk at e
      refine wp_block ?_
      · rename_i i a1 m1 h1
        · rename_i hi
          injection e with e
          injection e with e1 e
          injection e with e2 e3
          subst e1 e2 e3
          refine ih kk x a m (.exit i) a1 m1 h1 r b w h hw hB _ (fun c a w => hQ c a w) fun r' b' w' h' hw' hs => ?_
          show (if i = id then Q .normal b' w' else Q (.exit i) b' w')
          rw [if_pos (Nat.eq_of_beq_eq_true hi)]
          exact k r' b' w' h' hw' hs
          rw [if_neg (Nat.ne_of_beq_eq_false hi)]
        | normal => exact k r' b' w' h' hw' hs
        | exit id => exact absurd e (hne _ _ _)
    | scope x =>
      change evCode P G env n kk x a m = some (o, a', m') at e
      refine wp_scope_straight ?_
      refine ih kk x a m o a' m' e r b w h hw hB _ (fun c a w => hQ c a w) fun r' b' w' h' hw' hs => ?_
      cases o <;> exact k r' b' w' h' hw' hs
    | region id ops draw =>
      cases draw with
      | false =>
        change cReg (evOps P G (evCall P env (evCode P G env n)) kk ops ops.toList a m) = some (o, a', m') at e
        unfold cReg at e
        · rename_i a1 m1 h1
          exact wp_region_list (evOps_sound hN hC ops.toList h1 h hw hB k)
        change cDraw P G env (evCode P G env n) kk ops a m (Region.noSelect ops) (plan ops.size 0 (omsL ops 0 ops.toList)) = some (o, a', m') at e
        unfold cDraw at e
        · rename_i steps hsel hplan
          unfold cReg at e
          split at e
          · rename_i a1 m1 h1
            injection e with e
            injection e with e1 e
            injection e with e2 e3
            subst e1 e2 e3
            have hwd : Wd P G W r m { w with drawn := w.drawn + 1 } := ⟨⟨hw.low.os, hw.low.tape, hw.low.output, hw.low.size, hw.low.block⟩, hw.n, hw.g, hw.at_, hw.inj⟩
            refine wp_region_any hM (wpAny_of_O _ [] _ _ _ (evPlan_sound hN hC hsel hQ ops.size (left_start ops) hplan h1 h hwd hB closed_none (F := []) (fun y hy => by simp at hy) (fun y hy => by simp at hy) fun r' b' w' h' hw' hs => k r' b' w' h' hw' ?_))
            exact ⟨hs.ext, hs.os, hs.tape, hs.output, hs.size, hs.block, hs.dom⟩
          · cases e
    | _ => cases e
/-- what is known of the package-level variables -/
def Knows (G : Nat) (l : List Bk) (w : World) : Prop := G ≤ w.heap.size ∧ ∀ i x, find l i = some x → i < G ∧ x.ro = true ∧ x.ex = true ∧ w.heap[i]? = some (.cells x.c x.T (0, 0)) ∧ x.c.all dry = true
theorem Knows.wd {G : Nat} {l : List Bk} {w : World} (h : Knows G l w) : Wd P G w (List.range G) ⟨G, l⟩ w := by
  have hr : ∀ i, i < G → (List.range G)[i]? = some i := fun i hi => by rw [List.getElem?_range hi]
  refine ⟨Below.refl _ _, by simp, hr, fun i x hx => ?_, fun i j b x y hx hy hi hj => ?_⟩
  · obtain ⟨h1, h2, h5, h3, h4⟩ := h.2 i x hx
    exact ⟨i, x.c, hr i h1, (fun h => by rw [h2] at h; cases h), h3, Nat.le_refl _, fun _ => rfl, fun h => (by rw [h5] at h; cases h), fun j u v hu hv => (dry_all h4).2 j u v hu hv⟩
  · rw [hr i (h.2 i x hx).1] at hi
    rw [hr j (h.2 j y hy).1] at hj
    injection hi with hi
    injection hj with hj
    omega
/-- a call that is reckoned ahead, its arguments without addresses: the answer, and nothing that was there has turned -/
theorem reckoned [Ts] [Sat] {env : EnvF} (n : Nat) (hN : NoGo P) (hM : P.follows .mixedOrders = true) {G : Nat} {l : List Bk} {f : FuncId} {args : Array Value} {v : Value}
    (e : (match evCall P env (evCode P G env n) f args ⟨G, l⟩ with | some (v, _) => some v | none => none) = some v) (ha : args.all still = true) (hv : still3 v = true) (w : World) [At w] (hE : EnvOk P G w env) (hK : Knows G l w) :
    Calls P f args w fun e w' => e = .returned v ∧ Below w.heap.size w w' := by
  · rename_i v1 m' e1
    refine (evCall_ok hE (evCode_good hN hM hE n).1 f args ⟨G, l⟩ v1 m' e1 (List.range G) w args (All.same fun x hx => still_V2 (by
      rw [Array.all_eq_true_iff_forall_mem] at ha
      exact ha x hx)) hK.wd (Nat.le_refl _)).mono ?_
    rintro e w' ⟨v', r', rfl, h1, h2, h3⟩
    rw [still3_eq h1 hv]
    exact ⟨rfl, h3.os, h3.tape, h3.output, h3.size, fun k hk => h3.block k hk fun ⟨i, x, hx, hr, _⟩ => (by rw [(hK.2 i x hx).2.1] at hr; cases hr)⟩
  · cases e

