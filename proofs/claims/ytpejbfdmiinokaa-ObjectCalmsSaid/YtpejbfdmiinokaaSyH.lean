/-
  RUNS RECKONED AHEAD, part eight: code and calls. By an AI agent.
-/
import Derived.Test.YtpejbfdmiinokaaSyG
namespace Go.Sx
variable [Th] [Fx]
section
variable {P : Program} {G : Nat} {W : World}
/-- known blocks whose number is below k -/
def keep (k : Nat) : List Bk → List Bk
  | [] => []
  | x :: l => match Nat.ble k x.i with
    | true => keep k l
    | false => x :: keep k l
omit [Th] [Fx] in
theorem find_keep {k : Nat} : ∀ {l : List Bk} {i : Nat} {x : Bk}, find (keep k l) i = some x → find l i = some x
  | [], i, x, h => by cases h
  | y :: l, i, x, h => by
    unfold keep at h
    unfold find
    cases hk : Nat.ble k y.i with
    | true =>
      rw [hk] at h
      have h' := find_keep h
      cases hi : Nat.beq y.i i with
      | false => exact h'
      | true =>
        have e := Nat.eq_of_beq_eq_true hi
        subst e
        exact absurd h (by
          have : ∀ (l : List Bk), find (keep k l) y.i = none := by
            intro l
            induction l with
            | nil => rfl
            | cons z l ih =>
              unfold keep
              cases hz : Nat.ble k z.i with
              | true => exact ih
              | false =>
                unfold find
                have : Nat.beq z.i y.i = false := by
                  cases hb : Nat.beq z.i y.i with
                  | false => rfl
                  | true =>
                    rw [Nat.eq_of_beq_eq_true hb, hk] at hz
                    cases hz
                rw [this]
                exact ih
          rw [this]
          simp)
    | false =>
      rw [hk] at h
      unfold find at h
      cases hi : Nat.beq y.i i with
      | true => rw [hi] at h; exact h
      | false => rw [hi] at h; exact find_keep h
def AM.keep (k : Nat) (m : AM) : AM := { n := m.n, bs := Sx.keep k m.bs }
omit [Fx] in
theorem Wd.keep {r : List Nat} {m : AM} {w : World} (h : Wd P G W r m w) (k : Nat) : Wd P G W r (m.keep k) w :=
  ⟨h.low, h.n, h.g, fun i x hx => h.at_ i x (find_keep hx), fun i j b x y hx hy => h.inj i j b x y (find_keep hx) (find_keep hy), h.low2, fun i b x hx => h.opn i b x (find_keep hx)⟩
omit [Th] [Fx] in
theorem Step.keep {r r' : List Nat} {m m' : AM} {w w' : World} (h : Step r m w r' m' w') (k : Nat) : Step r m w r' (m'.keep k) w' :=
  ⟨h.ext, h.os, h.tape, h.output, h.size, h.block, fun b ⟨i, x, hx, hr, hi⟩ => h.dom b ⟨i, x, find_keep hx, hr, hi⟩⟩

/-- what a function gives back -/
noncomputable def res1 (P : Program) (n : Nat) (a : Tr) (m : AM) : ResultVar → Option Value
  | .tmp t => some (a.at_ n t)
  | .cell t T => match a.at_ n t with
    | .pointer (some p) => match look P (loadVar T p) m with
      | some (v, _) => some v
      | none => none
    | _ => none
noncomputable def resL (P : Program) (n : Nat) (a : Tr) (m : AM) : List ResultVar → Option (List Value)
  | [] => some []
  | x :: l => match res1 P n a m x with
    | some v => match resL P n a m l with
      | some vs => some (v :: vs)
      | none => none
    | none => none
def resV : List Value → Option Value
  | [v] => some v
  | vs => match vs.all nt with
    | true => some (.tuple vs.toArray)
    | false => none
/-- one result, as the model has it -/
def resS (b : Act) : ResultVar → Sem Value
  | .tmp t => pure (b.tmps.getD t undef)
  | .cell t T => do loadVar T (← asAddr (b.tmps.getD t undef))
omit [Fx] in
theorem res1_sound {r : List Nat} {n : Nat} {a : Tr} {b : Act} {m : AM} {w : World} {x : ResultVar} {v : Value} (e : res1 P n a m x = some v) (h : AcT n r a b) (hw : Wd P G W r m w) :
    ∃ v', V3 r v v' ∧ (resS b x).run P w = .ok v' w := by
  have ht : ∀ t, V3 r (a.at_ n t) (b.tmps.getD t undef) := h.at_
  cases x with
  | tmp t =>
    injection e with e
    subst e
    exact ⟨_, ht t, rfl⟩
  | cell t T =>
    unfold res1 at e
    simp only at e
    have h1 := ht t
    split at e
    · rename_i p hp
      rw [hp] at h1
      obtain ⟨q, hq, hpq⟩ := h1
      split at e
      · rename_i u F hl
        injection e with e
        subst e
        obtain ⟨y, G, hy, _, h3, h4⟩ := look_sound _ _ r m w _ _ (sr_loadVar T hpq) hl hw
        refine ⟨y, hy.up, ?_⟩
        show (do loadVar T (← asAddr (b.tmps.getD t undef)) : Sem Value).run P w = _
        rw [hq]
        exact h4 w h3
      · cases e
    · cases e
omit [Th] [Fx] in
theorem results_eq (fn : Func) (b : Act) : results fn b.tmps = (do let vs ← fn.results.mapM (resS b); pure (if h : vs.size = 1 then vs[0] else .tuple vs)) := by
  unfold results
  congr 1
omit [Fx] in
theorem resL_sound {n : Nat} {r : List Nat} {a : Tr} {b : Act} {m : AM} {w : World} (h : AcT n r a b) (hw : Wd P G W r m w) : ∀ {l : List ResultVar} {vs : List Value}, resL P n a m l = some vs →
    ∃ vs', All (V3 r) vs.toArray vs'.toArray ∧ (l.mapM (resS b)).run P w = .ok vs' w
  | [], vs, e => by
    injection e with e
    subst e
    exact ⟨[], All.nil, rfl⟩
  | x :: l, vs, e => by
    unfold resL at e
    split at e
    · rename_i v hv
      split at e
      · rename_i us hus
        injection e with e
        subst e
        obtain ⟨v', h1, h2⟩ := res1_sound hv h hw
        obtain ⟨us', h3, h4⟩ := resL_sound h hw hus
        refine ⟨v' :: us', ⟨by simpa using h3.1, fun i x y hx hy => ?_⟩, ?_⟩
        · cases i with
          | zero =>
            simp at hx hy
            subst hx hy
            exact h1
          | succ i => exact h3.2 i x y (by simpa using hx) (by simpa using hy)
        · have h2' : (resS b x).run P w = .ok v' w := h2
          rw [List.mapM_cons]
          simp [h2', h4]
      · cases e
    · cases e
omit [Fx] in
theorem results_sound {fn : Func} {n : Nat} {r : List Nat} {a : Tr} {b : Act} {m : AM} {w : World} {vs : List Value} {v : Value} (h : AcT n r a b) (hw : Wd P G W r m w) (e : resL P n a m fn.results.toList = some vs) (ev : resV vs = some v) :
    ∃ v', V3 r v v' ∧ (results fn b.tmps).run P w = .ok v' w := by
  obtain ⟨vs', h1, h2⟩ := resL_sound h hw e
  have hm : (fn.results.mapM (resS b)).run P w = .ok vs'.toArray w := by
    rw [Array.mapM_eq_mapM_toList]
    simp [h2]
  refine ⟨if h : vs'.toArray.size = 1 then vs'.toArray[0] else .tuple vs'.toArray, ?_, by rw [results_eq]; simp [hm]⟩
  have hl : vs.length = vs'.length := by simpa using h1.1
  unfold resV at ev
  split at ev
  · rename_i u
    injection ev with ev
    subst ev
    have : vs'.toArray.size = 1 := by simpa using hl.symm
    rw [dif_pos this]
    exact h1.2 0 _ _ (by simp) (Array.getElem?_eq_getElem (by omega))
  · rename_i hne
    split at ev
    · rename_i hnt
      injection ev with ev
      subst ev
      have : ¬ vs'.toArray.size = 1 := by
        intro h
        have : vs.length = 1 := by simpa [← hl] using h
        obtain ⟨u, hu⟩ := List.length_eq_one_iff.1 this
        exact hne u hu
      rw [dif_neg this]
      refine ⟨_, rfl, h1.1, fun i x y hx hy => (h1.2 i x y hx hy).nt ?_⟩
      exact List.all_eq_true.1 hnt x (by simpa using Array.mem_of_getElem? hx)
    · cases ev

/-- no address: what was known of the memory made on the way may be dropped -/
def light : Value → Bool
  | .iface _ _ => true
  | .agg a => a.all fun v => dry v || isTok v
  | v => dry v
def light3 : Value → Bool
  | .tuple a => a.all light
  | v => light v
/-- the ways out that are reckoned -/
inductive Out where
  | normal
  | exit (id : Nat)
  | ret
def Out.toExit : Out → Exit
  | .normal => .normal
  | .exit i => .exit i
  | .ret => .ret
/-- the arguments in their slots -/
noncomputable def argsT (n : Nat) : Nat → List Value → Tr → Tr
  | _, [], t => t
  | i, v :: l, t => argsT n (i + 1) l (t.set (bits (dpt n) i) v)
noncomputable def evCall (P : Program) (env : FuncId → Array Value → AM → Option (Value × AM)) (code : Nat → Code → Tr → AM → Option (Out × Tr × AM)) : CallF := fun f args m =>
  match env f args m with
  | some v => some v
  | none => match P.funcs[f]? with
    | some fn => match fn.body with
      | some c => match Nat.ble fn.ntmps 512, Nat.ble args.toList.length fn.ntmps with
        | true, true => match code fn.ntmps c (argsT fn.ntmps 0 args.toList (.leaf undef)) m with
          | some (.exit _, _, _) => none
          | some (_, a, m') => match resL P fn.ntmps a m' fn.results.toList with
            | some vs => match resV vs with
              | some v => match light3 v with
                | true => some (v, m'.keep m.n)
                | false => some (v, m')
              | none => none
            | none => none
          | none => none
        | _, _ => none
      | none => none
    | none => none
abbrev CodeF := Nat → Code → Tr → AM → Option (Out × Tr × AM)
noncomputable def cNext (f : Tr → AM → Option (Out × Tr × AM)) (r : Option (Out × Tr × AM)) : Option (Out × Tr × AM) := match r with
  | some (.normal, a', m') => f a' m'
  | r => r
def cBlk (id : Nat) (r : Option (Out × Tr × AM)) : Option (Out × Tr × AM) := match r with
  | some (.exit i, a', m') => match Nat.beq i id with
    | true => some (.normal, a', m')
    | false => some (.exit i, a', m')
  | r => r
def cReg (r : Option (Tr × AM)) : Option (Out × Tr × AM) := match r with
  | some (a', m') => some (.normal, a', m')
  | none => none
noncomputable def cDraw (P : Program) (G : Nat) (env : FuncId → Array Value → AM → Option (Value × AM)) (ih : CodeF) (k : Nat) (ops : Array Oper) (a : Tr) (m : AM) (sel : Bool) (pl : Option (List PStep)) : Option (Out × Tr × AM) := match sel, pl with
  | true, some steps => cReg (evPlan P G (evCall P env ih) k ops steps [] a m)
  | _, _ => none
noncomputable def cIf (ih : CodeF) (k : Nat) (x y : Code) (a : Tr) (m : AM) (ok : Bool) (v : Value) : Option (Out × Tr × AM) := match ok, v with
  | true, .bool true => ih k x a m
  | true, .bool false => ih k y a m
  | _, _ => none
noncomputable def cOne (P : Program) (G : Nat) (env : FuncId → Array Value → AM → Option (Value × AM)) (ih : CodeF) (k : Nat) (c : Code) (a : Tr) (m : AM) : Option (Out × Tr × AM) := match c with
  | .skip => some (.normal, a, m)
  | .label _ => some (.normal, a, m)
  | .region _ ops draw => match draw with
    | false => cReg (evOps P G (evCall P env ih) k ops ops.toList a m)
    | true => cDraw P G env ih k ops a m (Region.noSelect ops) (plan ops.size 0 (omsL ops 0 ops.toList))
  | .seq x y => cNext (ih k y) (ih k x a m)
  | .cond c x y => cIf ih k x y a m (opd G c) (ask Fx.F (a.ev k c))
  | .block id x => cBlk id (ih k x a m)
  | .loop x => cNext (ih k (.loop x)) (ih k x a m)
  | .exit id => some (.exit id, a, m)
  | .scope x => ih k x a m
  | .ret => some (.ret, a, m)
  | _ => none
noncomputable def evCode (P : Program) (G : Nat) (env : FuncId → Array Value → AM → Option (Value × AM)) (n : Nat) : CodeF :=
  Nat.rec (motive := fun _ => CodeF) (fun _ _ _ _ => none) (fun _ ih k c a m => cOne P G env ih k c a m) n
omit [Fx] in
theorem argsT_at {n : Nat} (hn : n ≤ 512) {r : List Nat} : ∀ (l l' : List Value) (i : Nat) (t : Tr) (b : Array Value), i + l.length ≤ n → All (V2 r) l.toArray l'.toArray → b.size = i → (∀ j, V3 r (t.at_ n j) (b.getD j undef)) →
    ∀ j, V3 r ((argsT n i l t).at_ n j) ((b ++ l'.toArray).getD j undef)
  | [], l', i, t, b, _, h, _, ht, j => by
    cases l' with
    | nil => simpa [argsT] using ht j
    | cons y l' => simp [All] at h
  | v :: l, l', i, t, b, hi, h, hb, ht, j => by
    obtain ⟨y, l2, e, hxy, hl⟩ := h.cons
    injection e with e
    subst e
    simp only [List.length_cons] at hi
    have hdp := dpt_le hn
    have := argsT_at hn l l2 (i + 1) (t.set (bits (dpt n) i) v) (b.push y) (by omega) hl (by simp [hb]) (fun j => by
      have hj := ht j
      have hi1 : Nat.blt i n = true := by simp [Nat.blt_eq]; omega
      by_cases e : i = j
      · subst e
        unfold Tr.at_
        rw [hi1]
        simp only
        rw [Tr.get_set, Array.getD_eq_getD_getElem?, Array.getElem?_push, if_pos hb.symm]
        exact hxy.up
      · unfold Tr.at_ at hj ⊢
        have e2 : (b.push y).getD j undef = b.getD j undef := by
          rw [Array.getD_eq_getD_getElem?, Array.getElem?_push, if_neg (by omega), ← Array.getD_eq_getD_getElem?]
        rw [e2]
        cases hb2 : Nat.blt j n with
        | false => rw [hb2] at hj; exact hj
        | true =>
          rw [hb2] at hj
          have hj2 : j < n := by simpa [Nat.blt_eq] using hb2
          simp only at hj ⊢
          rw [Tr.get_set_ne _ _ _ _ (by rw [bits_len, bits_len]) (fun h => e (bits_inj (dpt n) i j (by omega) (by omega) h))]
          exact hj) j
    simpa [argsT] using this
end
end Go.Sx
