/-
  RUNS RECKONED AHEAD: pieces of code, loops, calls. By an AI agent.
-/
import Derived.Test.YtpejbfdmiinokaaSyL
namespace Go.Sx
open Go.RowKit
/-- the tests of a piece, and where it comes out: the exit's number, the letters' next values -/
inductive TP where
  | o (j : Nat) (E : Es)
  | n (t : Value) (a b : TP)
  | x
/-- where a piece may come out -/
structure Xt where
  o : Out
  t : Tr
  m : AM
def outEq : Out → Out → Bool
  | .normal, .normal => true
  | .ret, .ret => true
  | .exit i, .exit j => Nat.beq i j
  | _, _ => false
theorem outEq_eq {a b : Out} (h : outEq a b = true) : a = b := by
  cases a <;> cases b <;> first | rfl | cases h | (rw [Nat.eq_of_beq_eq_true h])
noncomputable def chkX (h0 G nt : Nat) (E : Es) (r : Option (Out × Tr × AM)) (x : Option Xt) : Bool := match r, x with
  | some (o, t, m), some x => match outEq o x.o, cvT E h0 x.m.n (dpt nt) t x.t, cvM E h0 G m x.m with
    | true, true, true => true
    | _, _, _ => false
  | _, _ => false
noncomputable def chkP (run : Fs → Option (Out × Tr × AM)) (h0 G nt : Nat) (xs : List Xt) : TP → Fs → Bool
  | .o j E, F => chkX h0 G nt E (run F) xs[j]?
  | .n t a b, F => match isBt t with
    | true => match chkP run h0 G nt xs a ((t, true) :: F) with
      | true => chkP run h0 G nt xs b ((t, false) :: F)
      | false => false
    | false => false
  | .x, _ => true
noncomputable def runC (P : Program) (G : Nat) (env : Fs → EnvF) (M : List (Value × List Value)) (n nt : Nat) (c : Code) (t : Tr) (m : AM) (F : Fs) : Option (Out × Tr × AM) := @evCode ⟨F, M⟩ P G (env F) n nt c t m
/-- what has to be shown of a piece: at each way out, of the letters' next values -/
def TP.Sem (ρ : Nat → Value) (W : World) (X : Nat → (Nat → Value) → Prop) : TP → Prop
  | .o j E => X j (upd ρ E)
  | .n t a b => (@De (thOf ρ W) t (.bool true) → a.Sem ρ W X) ∧ (@De (thOf ρ W) t (.bool false) → b.Sem ρ W X)
  | .x => False
/-- a state that is told over letters -/
def Inv (P : Program) (G : Nat) (W : World) (ρ : Nat → Value) (nt : Nat) (t : Tr) (m : AM) (b : Act) (w : World) : Prop :=
  ∃ r, @AcT (thOf ρ W) nt r t b ∧ @Wd (thOf ρ W) P G W r m w ∧ W.heap.size ≤ w.heap.size
/-- what is known of the letters: decisions, places, contracts -/
structure Kn (P : Program) (G : Nat) (W : World) (ρ : Nat → Value) (env : Fs → EnvF) (M : List (Value × List Value)) (F : Fs) : Prop where
  sat : @SatL (thOf ρ W) F
  mem : ∀ p ∈ M, ∃ A, @De (thOf ρ W) p.1 (.pointer (some A)) ∧ @CellsAt (thOf ρ W) A p.2
  env : ∀ F, @SatL (thOf ρ W) F → @EnvOk (thOf ρ W) P G W (env F)
section
variable {P : Program} {G : Nat} {W : World} {ρ : Nat → Value} {env : Fs → EnvF} {M : List (Value × List Value)}
theorem chkP_leaf {run : Fs → Option (Out × Tr × AM)} {h0 nt : Nat} {xs : List Xt} {X : Nat → (Nat → Value) → Prop} : ∀ (T : TP) (F : Fs), chkP run h0 G nt xs T F = true → @SatL (thOf ρ W) F → T.Sem ρ W X →
    ∃ F' j E, @SatL (thOf ρ W) F' ∧ chkX h0 G nt E (run F') xs[j]? = true ∧ X j (upd ρ E)
  | .o j E, F, h, hF, hS => ⟨F, j, E, hF, h, hS⟩
  | .x, _, _, _, hS => hS.elim
  | .n t a b, F, h, hF, hS => by
    unfold chkP at h
    split at h
    · rename_i ht
      split at h
      · rename_i ha
        haveI := ts_of ρ W
        rcases @bt_bool (thOf ρ W) _ t ht with hd | hd
        · exact chkP_leaf a _ ha (fun p hp => by
            rcases List.mem_cons.1 hp with rfl | hp
            · exact hd
            · exact hF p hp) (hS.1 hd)
        · exact chkP_leaf b _ h (fun p hp => by
            rcases List.mem_cons.1 hp with rfl | hp
            · exact hd
            · exact hF p hp) (hS.2 hd)
      · cases h
    · cases h
/-- where a piece has come out -/
def CameOut (P : Program) (G : Nat) (W : World) (nt : Nat) (xs : List Xt) (X : Nat → (Nat → Value) → Prop) (e : Exit) (b : Act) (w : World) : Prop :=
  ∃ j ρ' x, X j ρ' ∧ xs[j]? = some x ∧ e = x.o.toExit ∧ Inv P G W ρ' nt x.t x.m b w
theorem upd_Upd (E : Es) (h0 : Nat) : Upd E h0 ρ (upd ρ E) := fun _ _ => rfl
theorem piece (hN : NoGo P) (hM : P.follows .mixedOrders = true) {n h0 nt : Nat} {c : Code} {t : Tr} {m : AM} {xs : List Xt} {T : TP} {F : Fs} {X : Nat → (Nat → Value) → Prop}
    (hc : chkP (runC P G env M n nt c t m) h0 G nt xs T F = true) (hK : Kn P G W ρ env M F) (hS : T.Sem ρ W X) {b : Act} {w : World} (hI : Inv P G W ρ nt t m b w) : c.wp P (CameOut P G W nt xs X) b w := by
  obtain ⟨F', j, E, h1, h2, h3⟩ := chkP_leaf T F hc hK.sat hS
  unfold chkX at h2
  split at h2
  · rename_i o t' m' x hr hx
    split at h2
    · rename_i k1 k2 k3
      have k1 := outEq_eq k1
      obtain ⟨r, ha, hw, hB⟩ := hI
      letI := thOf ρ W
      letI : Fx := ⟨F', M⟩
      haveI := ts_of ρ W
      haveI := at_of ρ W
      haveI : Sat := ⟨h1, hK.mem⟩
      refine (evCode_good hN hM (hK.env F' h1) n).1 nt c t m o t' m' hr r b w ha hw hB _ ?_ ?_
      · rintro ch a w' ⟨j, ρ', x, -, -, he, -⟩
        cases hx : x.o <;> rw [hx] at he <;> cases he
      · intro r' b' w' ha' hw' hs
        exact ⟨j, _, x, h3, hx, by rw [k1], _, cvT_sound (upd_Upd E h0) k2 ha', cvM_sound (upd_Upd E h0) k3 hw', Nat.le_trans hB hs.size⟩
    · cases h2
  · cases h2
theorem Inv.congr {ρ' : Nat → Value} {h0 nt : Nat} {t : Tr} {m : AM} (h1 : cvT [] h0 m.n (dpt nt) t t = true) (h2 : cvM [] h0 G m m = true) (hU : ∀ i, i < h0 → ρ' i = ρ i) {b : Act} {w : World} (h : Inv P G W ρ nt t m b w) : Inv P G W ρ' nt t m b w := by
  obtain ⟨r, ha, hw, hB⟩ := h
  have hU : Upd [] h0 ρ ρ' := fun i hi => hU i hi
  exact ⟨_, cvT_sound hU h1 ha, cvM_sound hU h2 hw, hB⟩
def noNorm : List Xt → Bool
  | [] => true
  | x :: l => match x.o with
    | .normal => false
    | _ => noNorm l
theorem noNorm_get : ∀ {l : List Xt} {j : Nat} {x : Xt}, noNorm l = true → l[j]? = some x → x.o ≠ .normal
  | [], j, x, _, h => by simp at h
  | y :: l, 0, x, hn, h => by
    simp at h
    subst h
    intro e
    unfold noNorm at hn
    rw [e] at hn
    cases hn
  | y :: l, j + 1, x, hn, h => by
    refine noNorm_get (l := l) ?_ (by simpa using h)
    unfold noNorm at hn
    split at hn
    · cases hn
    · exact hn
/-- the ways out of a loop's round: again, or one of the others -/
def Round (A : (Nat → Value) → Prop) (X : Nat → (Nat → Value) → Prop) : Nat → (Nat → Value) → Prop
  | 0, ρ => A ρ
  | j + 1, ρ => X j ρ
/-- A LOOP: J k says what the letters may be when k bounds the rounds that are left -/
theorem loopP (hN : NoGo P) (hM : P.follows .mixedOrders = true) {n h0 h1 nt : Nat} {x : Code} {t : Tr} {m : AM} {xs : List Xt} {T : TP} {F : Fs} {X : Nat → (Nat → Value) → Prop} {J : Nat → (Nat → Value) → Prop}
    (hc : chkP (runC P G env M n nt x t m) h1 G nt (⟨.normal, t, m⟩ :: xs) T F = true) (hn : noNorm xs = true) (hs1 : cvT [] h0 m.n (dpt nt) t t = true) (hs2 : cvM [] h0 G m m = true)
    (hJ : ∀ k ρ, J k ρ → ∃ ρ', (∀ i, i < h0 → ρ' i = ρ i) ∧ Kn P G W ρ' env M F ∧ T.Sem ρ' W (Round (fun ρ2 => ∃ k', k' < k ∧ J k' ρ2) X)) :
    ∀ k ρ, J k ρ → ∀ b w, Inv P G W ρ nt t m b w → LoopAt P x (CameOut P G W nt xs X) b w := by
  intro k
  induction k using Nat.strongRecOn with
  | ind k ih =>
    intro ρ hj b w hI
    obtain ⟨ρ', hU, hK, hS⟩ := hJ k ρ hj
    refine LoopAt.of (wp_mono (piece hN hM hc hK hS (hI.congr hs1 hs2 hU)) ?_)
    rintro e b' w' ⟨j, ρ2, y, hX, hy, rfl, hI2⟩
    cases j with
    | zero =>
      simp at hy
      subst hy
      obtain ⟨k', hk, hJ2⟩ := hX
      exact ih k' hk ρ2 hJ2 b' w' hI2
    | succ j =>
      have hy : xs[j]? = some y := by simpa using hy
      have hno := noNorm_get hn hy
      have hfin : CameOut P G W nt xs X y.o.toExit b' w' := ⟨j, ρ2, y, hX, hy, rfl, hI2⟩
      revert hfin
      cases hyo : y.o with
      | normal => exact absurd hyo hno
      | exit i => exact fun h => h
      | ret => exact fun h => h
/-- how a call is entered -/
theorem enterP {f : FuncId} {fn : Func} {c : Code} {args args' : Array Value} {l : List Bk} {R : Ending → World → Prop} (hfn : P.funcs[f]? = some fn) (hc : fn.body = some c) (hk : (Nat.ble fn.ntmps 512 && Nat.ble args.toList.length fn.ntmps) = true)
    (ha : All (@V2 (thOf ρ W) (List.range G)) args args') (hKn : Knows G l W)
    (h : ∀ b, Inv P G W ρ fn.ntmps (argsT fn.ntmps 0 args.toList (.leaf undef)) ⟨G, l⟩ b W → c.wp P (bodyPost P fn R) b W) : Calls P f args' W R := by
  letI := thOf ρ W
  haveI := at_of ρ W
  rw [Bool.and_eq_true] at hk
  have hk1 := Nat.le_of_ble_eq_true hk.1
  have hk2 := Nat.le_of_ble_eq_true hk.2
  have hsz : args.size = args'.size := ha.1
  have hl : args.toList.length = args.size := by simp
  refine calls_of_wp hfn hc (h _ ⟨List.range G, ?_, hKn.wd, Nat.le_refl _⟩)
  refine ⟨by simp; omega, hk1, rfl, fun j => ?_⟩
  have h0 : ∀ j, V3 (List.range G) ((Tr.leaf undef).at_ fn.ntmps j) ((#[] : Array Value).getD j undef) := fun j => by
    have : (Tr.leaf undef).at_ fn.ntmps j = undef := by
      unfold Tr.at_
      split
      · exact Tr.get_leaf _ _
      · rfl
    rw [this]
    exact undef_V3
  have h1 := argsT_at hk1 (r := List.range G) args.toList args'.toList 0 (.leaf undef) #[] (by omega) (by simpa using ha) rfl h0 j
  have e1 : (args' ++ Array.replicate (fn.ntmps - args'.size) undef).getD j undef = args'.getD j undef := by
    rw [Array.getD_eq_getD_getElem?, Array.getD_eq_getD_getElem?, Array.getElem?_append]
    split
    · rfl
    · rename_i hj
      rw [Array.getElem?_eq_none (xs := args') (by omega), Array.getElem?_replicate]
      split <;> rfl
  show V3 (List.range G) _ ((args' ++ Array.replicate (fn.ntmps - args'.size) undef).getD j undef)
  rw [e1]
  simpa using h1
/-- how a call answers -/
theorem answerP {fn : Func} {t : Tr} {m : AM} {vs : List Value} {v : Value} {R : Ending → World → Prop} {b : Act} {w : World} {e : Exit} (he : e = .normal ∨ e = .ret) (hI : Inv P G W ρ fn.ntmps t m b w) (h1 : resL P fn.ntmps t m fn.results.toList = some vs) (h2 : resV vs = some v)
    (hR : ∀ X w', (∃ r, @V3 (thOf ρ W) r v X) → Below W.heap.size W w' → R (.returned X) w') : bodyPost P fn R e b w := by
  letI := thOf ρ W
  obtain ⟨r, ha, hw, hB⟩ := hI
  obtain ⟨X, hv, hrun⟩ := results_sound ha hw h1 h2
  have : b.defers = [] ∧ ∃ v, (results fn b.tmps).run P w = .ok v w ∧ R (.returned v) w := ⟨ha.d, X, hrun, hR X w ⟨r, hv⟩ hw.low⟩
  rcases he with rfl | rfl <;> exact this
end
end Go.Sx
