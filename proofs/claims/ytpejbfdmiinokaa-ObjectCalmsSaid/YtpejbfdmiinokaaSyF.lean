/-
  RUNS RECKONED AHEAD, part six: one operation run, a call, a list of operations. By an AI agent.
-/
import Derived.Test.YtpejbfdmiinokaaSyK
import Derived.Tactics
namespace Go.Sx
variable [Th]
open Go.RowKit
variable [Fx]
/-- cells that lie at a place of the world that loads look at -/
def CellsAt (A : Addr) (c : List Value) : Prop := A.spot = none ∧ (A.block < Th.W.heap.size ∧ ¬ Th.S A.block) ∧ ∀ (j : Nat) u, c[j]? = some u → ∃ v, Th.W.cell? (A.add j) = some v ∧ V1 [] u v
/-- they hold -/
class Sat : Prop where
  ok : SatL Fx.F
  mem : ∀ p ∈ Fx.M, ∃ A, De p.1 (.pointer (some A)) ∧ CellsAt A p.2
class At (W : World) : Prop where
  low : Low W
omit [Fx] in
theorem Wd.lowT {P : Program} {G : Nat} {W : World} {r : List Nat} {m : AM} {w : World} (h : Wd P G W r m w) : Low w := h.low2
section
variable {P : Program} {G : Nat} {W : World}
/-- a frame's temporaries, by the bits of their numbers -/
inductive Tr where
  | leaf (v : Value)
  | node (l r : Tr)
noncomputable def Tr.get (p : List Bool) : Tr → Value := List.rec (motive := fun _ => Tr → Value) (fun t => Tr.casesOn t (fun v => v) (fun _ _ => undef)) (fun b _ ih t => Tr.casesOn t (fun v => v) (fun l r => Bool.casesOn b (ih l) (ih r))) p
noncomputable def Tr.set (p : List Bool) : Tr → Value → Tr := List.rec (motive := fun _ => Tr → Value → Tr) (fun _ v => .leaf v) (fun b _ ih t v => Tr.casesOn t (fun u => Bool.casesOn b (.node (ih (.leaf u) v) (.leaf u)) (.node (.leaf u) (ih (.leaf u) v))) (fun l r => Bool.casesOn b (.node (ih l v) r) (.node l (ih r v)))) p
omit [Th] [Fx] in
theorem Tr.get_leaf (p : List Bool) (u : Value) : (Tr.leaf u).get p = u := by cases p <;> rfl
omit [Th] [Fx] in
theorem Tr.get_set : ∀ (p : List Bool) (t : Tr) (v : Value), (t.set p v).get p = v
  | [], _, _ => rfl
  | false :: p, .leaf u, v => Tr.get_set p (.leaf u) v
  | true :: p, .leaf u, v => Tr.get_set p (.leaf u) v
  | false :: p, .node l _, v => Tr.get_set p l v
  | true :: p, .node _ r, v => Tr.get_set p r v
omit [Th] [Fx] in
theorem Tr.get_set_ne : ∀ (p q : List Bool) (t : Tr) (v : Value), p.length = q.length → p ≠ q → (t.set p v).get q = t.get q
  | [], [], _, _, _, h => absurd rfl h
  | [], _ :: _, _, _, h, _ => by cases h
  | _ :: _, [], _, _, h, _ => by cases h
  | a :: p, b :: q, t, v, h, hne => by
    have hl : p.length = q.length := by simpa using h
    cases t with
    | leaf u =>
      cases a <;> cases b
      · show ((Tr.leaf u).set p v).get q = u
        rw [Tr.get_set_ne p q (.leaf u) v hl (fun e => hne (by rw [e])), Tr.get_leaf]
      · exact Tr.get_leaf q u
      · exact Tr.get_leaf q u
      · show ((Tr.leaf u).set p v).get q = u
        rw [Tr.get_set_ne p q (.leaf u) v hl (fun e => hne (by rw [e])), Tr.get_leaf]
    | node l r =>
      cases a <;> cases b
      · exact Tr.get_set_ne p q l v hl (fun e => hne (by rw [e]))
      · rfl
      · rfl
      · exact Tr.get_set_ne p q r v hl (fun e => hne (by rw [e]))
def bits : Nat → Nat → List Bool
  | 0, _ => []
  | d + 1, n => Nat.beq (Nat.mod n 2) 1 :: bits d (Nat.div n 2)
omit [Th] [Fx] in
theorem bits_len : ∀ (d n : Nat), (bits d n).length = d
  | 0, _ => rfl
  | d + 1, n => by simp [bits, bits_len d]
omit [Th] [Fx] in
theorem bits_inj : ∀ (d m n : Nat), m < 2 ^ d → n < 2 ^ d → bits d m = bits d n → m = n
  | 0, m, n, hm, hn, _ => by omega
  | d + 1, m, n, hm, hn, h => by
    injection h with h1 h2
    have e := bits_inj d _ _ (show m / 2 < 2 ^ d by omega) (show n / 2 < 2 ^ d by omega) h2
    have e1 : m / 2 = n / 2 := e
    have h1 : Nat.beq (m % 2) 1 = Nat.beq (n % 2) 1 := h1
    have : m % 2 = n % 2 := by
      cases hb : Nat.beq (n % 2) 1 with
      | true =>
        rw [hb] at h1
        rw [Nat.eq_of_beq_eq_true h1, Nat.eq_of_beq_eq_true hb]
      | false =>
        rw [hb] at h1
        have := Nat.ne_of_beq_eq_false h1
        have := Nat.ne_of_beq_eq_false hb
        omega
    omega
/-- how many levels a frame of n slots has -/
def dpt (n : Nat) : Nat := match Nat.ble n 8, Nat.ble n 16, Nat.ble n 32, Nat.ble n 64, Nat.ble n 128, Nat.ble n 256 with
  | true, _, _, _, _, _ => 3
  | _, true, _, _, _, _ => 4
  | _, _, true, _, _, _ => 5
  | _, _, _, true, _, _ => 6
  | _, _, _, _, true, _ => 7
  | _, _, _, _, _, true => 8
  | _, _, _, _, _, _ => 9
omit [Th] [Fx] in
theorem dpt_le {n : Nat} (h : n ≤ 512) : n ≤ 2 ^ dpt n := by
  unfold dpt
  split <;> (try (have := Nat.le_of_ble_eq_true (by assumption); omega)) <;> omega
noncomputable def Tr.at_ (n : Nat) (t : Tr) (i : Nat) : Value := match Nat.blt i n with
  | true => t.get (bits (dpt n) i)
  | false => undef
noncomputable def Tr.put (n : Nat) (t : Tr) (d : Option Tmp) (v : Value) : Tr := match d with
  | some d => match Nat.blt d n with
    | true => t.set (bits (dpt n) d) v
    | false => t
  | none => t
noncomputable def Tr.ev (n : Nat) (t : Tr) : Operand → Value
  | .tmp i => t.at_ n i
  | .const v => v
  | .global g => .pointer (some ⟨g, 0, none⟩)
  | .func f => .func (.func f) #[] #[]
structure AcT (n : Nat) (r : List Nat) (t : Tr) (b : Act) : Prop where
  size : b.tmps.size = n
  small : n ≤ 512
  d : b.defers = []
  at_ : ∀ i, V3 r (t.at_ n i) (b.tmps.getD i undef)
omit [Fx] in
theorem AcT.ext {n : Nat} {r s : List Nat} {t : Tr} {b : Act} (h : AcT n r t b) (e : Ext r s) : AcT n s t b := ⟨h.size, h.small, h.d, fun i => (h.at_ i).ext e⟩
omit [Fx] in
theorem undef_V3 {r : List Nat} : V3 r undef undef := ⟨#[], rfl, All.nil⟩
/-- an evaluation, and the real one -/
def EvR (G : Nat) (r : List Nat) (e f : Operand → Value) : Prop := ∀ x, opd G x = true → V3 r (e x) (f x)
omit [Fx] in
theorem AcT.eval {n : Nat} {r : List Nat} {t : Tr} {b : Act} (h : AcT n r t b) {G : Nat} (hg : ∀ i, i < G → r[i]? = some i) : EvR G r (t.ev n) b.eval := fun x k => by
  cases x with
  | tmp i => exact h.at_ i
  | const v => exact (still_V2 k).up
  | global g => exact ⟨⟨g, 0, none⟩, rfl, hg g (by simpa [opd, Nat.blt_eq] using k), rfl, rfl⟩
  | func f => exact ⟨_, _, rfl, All.nil, All.nil⟩
omit [Fx] in
theorem AcT.put {n : Nat} {r : List Nat} {t : Tr} {b : Act} (h : AcT n r t b) (d : Option Tmp) {u v : Value} (k : V3 r u v) : AcT n r (t.put n d u) (b.put d v) := by
  cases d with
  | none => exact h
  | some d =>
    refine ⟨by simpa [Act.put] using h.size, h.small, h.d, fun i => ?_⟩
    show V3 r ((Tr.put n t (some d) u).at_ n i) ((b.tmps.setIfInBounds d v).getD i undef)
    have hi := h.at_ i
    have hdp := dpt_le h.small
    rw [Array.getD_eq_getD_getElem?, Array.getElem?_setIfInBounds]
    unfold Tr.put
    simp only
    cases hd : Nat.blt d n with
    | false =>
      have hd' : ¬ d < b.tmps.size := by
        rw [h.size]
        intro hlt
        have : Nat.blt d n = true := by simpa [Nat.blt_eq] using hlt
        rw [this] at hd
        cases hd
      by_cases e : d = i
      · subst e
        rw [if_pos rfl, if_neg hd']
        rw [Array.getD_eq_getD_getElem?, Array.getElem?_eq_none (Nat.le_of_not_lt hd')] at hi
        exact hi
      · rw [if_neg e, ← Array.getD_eq_getD_getElem?]
        exact hi
    | true =>
      have hd' : d < n := by simpa [Nat.blt_eq] using hd
      simp only
      by_cases e : d = i
      · subst e
        rw [if_pos rfl, if_pos (by rw [h.size]; exact hd')]
        unfold Tr.at_
        rw [hd]
        simp only
        rw [Tr.get_set]
        exact k
      · rw [if_neg e, ← Array.getD_eq_getD_getElem?]
        unfold Tr.at_ at hi ⊢
        cases hb : Nat.blt i n with
        | false => rw [hb] at hi; exact hi
        | true =>
          rw [hb] at hi
          have hi2 : i < n := by simpa [Nat.blt_eq] using hb
          simp only at hi ⊢
          rw [Tr.get_set_ne _ _ _ _ (by rw [bits_len, bits_len]) (fun h => e (bits_inj (dpt n) d i (Nat.lt_of_lt_of_le hd' hdp) (Nat.lt_of_lt_of_le hi2 hdp) h))]
          exact hi
/-- a term, or a slot that nobody asks for -/
def isOpen : Value → Bool
  | .iface _ _ => true
  | .map _ => true
  | _ => false
omit [Fx] in
theorem V3.bool {r : List Nat} {u v : Value} (h : V3 r u v) (hn : isOpen u = false) : (∃ c, u = .bool c ∧ v = .bool c) ∨ ((∀ c, u ≠ .bool c) ∧ ∀ c, v ≠ .bool c) := by
  cases u with
  | bool c => obtain ⟨-, rfl⟩ := h; exact .inl ⟨c, rfl, rfl⟩
  | tuple a => obtain ⟨b, rfl, -⟩ := h; exact .inr ⟨by simp, by simp⟩
  | agg a => obtain ⟨b, rfl, -⟩ := h; exact .inr ⟨by simp, by simp⟩
  | func f a b => obtain ⟨c, d, rfl, -⟩ := h; exact .inr ⟨by simp, by simp⟩
  | pointer a => cases a with
    | none => obtain ⟨-, rfl⟩ := h; exact .inr ⟨by simp, by simp⟩
    | some a => obtain ⟨b, rfl, hb⟩ := h; exact .inr ⟨by simp, by simp⟩
  | slice a n c => cases a with
    | none => obtain ⟨-, rfl⟩ := h; exact .inr ⟨by simp, by simp⟩
    | some a => obtain ⟨b, c', rfl, hb, hc⟩ := h; exact .inr ⟨by simp, by simp⟩
  | iface i u => cases hn
  | map a => cases hn
  | _ => obtain ⟨-, rfl⟩ := h; exact .inr ⟨by simp, by simp⟩
/-- whether an operation's guard lets it run -/
noncomputable def wantT (n : Nat) (ops : Array Oper) (t : Tr) (o : Oper) : Option Bool := match o.guard with
  | none => some true
  | some (j, want) => match (ops[j]?).bind (·.dst) with
    | some d => match ask Fx.F (t.at_ n d) with
      | .bool b => match b, want with
        | true, true => some true
        | false, false => some true
        | _, _ => some false
      | .iface _ _ => none
      | .map _ => none
      | _ => some false
    | none => some false
def asB : Value → Option Bool
  | .bool c => some c
  | _ => none
omit [Fx] in
theorem V3.asB {r : List Nat} {u v : Value} (h : V3 r u v) (hn : isOpen u = false) : Sx.asB v = Sx.asB u := by
  rcases h.bool hn with ⟨c, rfl, rfl⟩ | ⟨h1, h2⟩
  · rfl
  · have e : ∀ x : Value, (∀ c, x ≠ .bool c) → Sx.asB x = none := fun x hx => by
      cases x with
      | bool c => exact absurd rfl (hx c)
      | _ => rfl
    rw [e u h1, e v h2]
omit [Th] [Fx] in
theorem yielded_asB (ops : Array Oper) (tmps : Array Value) (j : Nat) : yielded ops tmps j = (((ops[j]?).bind (·.dst)).bind (tmps[·]?)).bind asB := by
  unfold yielded
  cases ((ops[j]?).bind (·.dst)).bind (tmps[·]?) with
  | none => rfl
  | some v => cases v <;> rfl
theorem AcT.want [Ts] [Sat] {n : Nat} {r : List Nat} {t : Tr} {b : Act} (h : AcT n r t b) (ops : Array Oper) (o : Oper) {q : Bool} (hq : wantT n ops t o = some q) : Region.wanted o (yielded ops b.tmps) = q := by
  unfold wantT at hq
  unfold Region.wanted
  cases hg : o.guard with
  | none =>
    rw [hg] at hq
    exact Option.some.inj hq
  | some g =>
    obtain ⟨j, want⟩ := g
    rw [hg] at hq
    simp only at hq ⊢
    rw [yielded_asB]
    cases hd0 : (ops[j]?).bind (·.dst) with
    | none =>
      rw [hd0] at hq
      exact Option.some.inj hq
    | some d =>
      rw [hd0] at hq
      simp only [Option.bind_some] at hq ⊢
      have hd := h.at_ d
      have key : ∀ (u : Value), ask Fx.F (t.at_ n d) = u → isOpen u = false → (b.tmps[d]?).bind asB = asB u := by
        intro u hu hn
        have hv : asB (b.tmps.getD d undef) = asB u := by
          cases hc : t.at_ n d with
          | iface c x =>
            rw [hc] at hd hu
            rcases ask_cases Fx.F c x with e | ⟨q, e⟩
            · rw [e] at hu
              subst hu
              cases hn
            · rw [e] at hu
              subst hu
              rw [ask_bool Sat.ok hd e]
          | map a =>
            rw [hc] at hu
            subst hu
            cases hn
          | _ =>
            rw [hc] at hd hu
            subst hu
            exact hd.asB rfl
        rw [Array.getD_eq_getD_getElem?] at hv
        rw [← hv]
        cases hb : b.tmps[d]? with
        | none => rfl
        | some v => rfl
      split at hq
      · rename_i c hc
        rw [key _ hc rfl]
        cases c <;> cases want <;> exact Option.some.inj hq
      · cases hq
      · cases hq
      · rename_i h1 h2 h3
        injection hq with hq
        subst hq
        have hn : isOpen (ask Fx.F (t.at_ n d)) = false := by
          generalize ask Fx.F (t.at_ n d) = u at h2 h3
          cases u with
          | iface c x => exact absurd rfl (h2 _ _)
          | map a => exact absurd rfl (h3 _)
          | _ => rfl
        rw [key _ rfl hn]
        generalize ask Fx.F (t.at_ n d) = u at h1
        cases u with
        | bool c => exact absurd rfl (h1 _)
        | _ => rfl

def runOp (P : Program) (G : Nat) (a : Operand → Value) (m : AM) (o : Oper) : Option (Next × AM) :=
  match o.op.operands.all (opd G) with
  | false => none
  | true => match okOp P a o.op with
    | true => arun P (execOp a o) m
    | false => match noSel o.op, o.op.operands.all fun x => still (a x) with
      | true, true => match ans P (execOp a o) with
        | some (.value v) => match still3 v with
          | true => some (.value v, m)
          | false => none
        | _ => none
      | _, _ => none
omit [Fx] in
theorem runOp_sound {r : List Nat} {a : Operand → Value} {b : Act} {m : AM} {o : Oper} {w : World} {x : Next} {m' : AM} (e : runOp P G a m o = some (x, m')) (h : EvR G r a b.eval) (hw : Wd P G W r m w) (hB : W.heap.size ≤ w.heap.size) :
    ∃ r' y w', (execOp b.eval o).run P w = .ok y w' ∧ NR r' x y ∧ Wd P G W r' m' w' ∧ Step r m w r' m' w' := by
  unfold runOp at e
  split at e
  · cases e
  · rename_i ho
    have hv : ∀ x ∈ o.op.operands, V3 r (a x) (b.eval x) := fun x hx => h x (by
      rw [Array.all_eq_true_iff_forall_mem] at ho
      exact ho x hx)
    split at e
    · rename_i hk
      exact arun_sound _ _ r m w x m' (sr_exec o a b.eval hv hk) e hw hB
    · split at e
      · rename_i hs hst
        split at e
        · rename_i v hans
          split at e
          · rename_i h3
            injection e with e
            injection e with e1 e2
            subst e1 e2
            have : execOp b.eval o = execOp a o := execOp_congr o (fun cs q heq => by rw [heq] at hs; cases hs) fun x hx => still3_eq (hv x hx) (by
              rw [Array.all_eq_true_iff_forall_mem] at hst
              have := hst x hx
              revert this
              cases a x <;> intro h <;> first | exact h | cases h)
            exact ⟨r, .value v, w, by rw [this]; exact ans_run w _ _ hans, ⟨v, rfl, still3_V3 h3⟩, hw, Step.refl r m w⟩
          · cases e
        · cases e
      · cases e

def hasBody (P : Program) (g : FuncId) : Bool := match P.funcs[g]? with
  | some fn => fn.body.isSome
  | none => false
/-- no function that the model answers for by itself -/
def NoGo (P : Program) : Prop := ∀ (f : FuncId) fn, P.funcs[f]? = some fn → (fn.name == "runtime.NumGoroutine") = false
def callOf (G : Nat) (a : Operand → Value) (c : Call) : Option (FuncId × Array Value) := match c.callee with
  | .value f => match opd G f, a f with
    | true, .func (.func g) first cap => match c.args.all fun x => opd G x && nt (a x) with
      | true => some (g, first ++ c.args.map a ++ cap)
      | false => none
    | _, _ => none
  | _ => none
/-- an append's arguments -/
def appOf (G : Nat) (a : Operand → Value) (c : Call) : Option (List TypeId × Value × Value) := match c.callee with
  | .builtin .append => match c.args.toList with
    | [s, x] => match opd G s && opd G x && nt (a s) && nt (a x) with
      | true => some (c.argTypes.toList, a s, a x)
      | false => none
    | _ => none
  | _ => none
abbrev CallF := FuncId → Array Value → AM → Option (Value × AM)
/-- a slice expression's parts -/
def slOf (G : Nat) (a : Operand → Value) : Op → Option (TypeId × Value × Option Value × Option Value)
  | .slice T x l h none => match (opd G x && nt (a x)) && (l.all (fun y => opd G y && nt (a y)) && h.all (fun y => opd G y && nt (a y))) with
    | true => some (T, a x, l.map a, h.map a)
    | false => none
  | _ => none
omit [Fx] in
theorem vo_map {G : Nat} {r : List Nat} {a b : Operand → Value} (h : EvR G r a b) {l : Option Operand} (k : l.all (fun y => opd G y && nt (a y)) = true) : VO r (l.map a) (l.map b) := by
  cases l with
  | none => rfl
  | some y =>
    simp only [Option.all_some, Bool.and_eq_true] at k
    exact ⟨_, rfl, (h y k.1).nt k.2⟩
def evOp (P : Program) (G : Nat) (call : CallF) (a : Operand → Value) (m : AM) (o : Oper) : Option (Value × AM) :=
  match fast P a m o.op with
  | some r => match o.op.operands.all (opd G) with
    | true => some r
    | false => none
  | none => match o.op with
    | .call c => match callOf G a c with
      | some (g, args) => match hasBody P g with
        | true => call g args m
        | false => none
      | none => match appOf G a c with
        | some (ts, s, x) => evApp P m ts s x
        | none => match runOp P G a m o with
          | some (.value v, m') => some (v, m')
          | _ => none
    | _ => match runOp P G a m o with
      | some (.value v, m') => some (v, m')
      | some (.skip, m') => some (undef, m')
      | _ => match slOf G a o.op with
        | some (T, u, l, h) => evSl P m T u l h none
        | none => none
omit [Th] [Fx] in
theorem fast_run {G : Nat} {a : Operand → Value} {m m' : AM} {o : Oper} {v : Value} (h : fast P a m o.op = some (v, m')) (ho : o.op.operands.all (opd G) = true) :
    runOp P G a m o = some (.value v, m') ∨ (runOp P G a m o = some (.skip, m') ∧ v = undef) ∨ (∃ b : Oper, b = o ∧ okOp P a o.op = false ∧ noSel o.op = true ∧ (∀ x ∈ o.op.operands, still (a x) = true) ∧ ans P (execOp a o) = some (.value v) ∧ m' = m ∧ still3 v = true) := by
  rcases fast_spec h with ⟨h1, h2⟩ | ⟨h1, h2, h3, h4, h5, h6⟩
  · unfold runOp
    rw [ho, h1]
    simp only
    rcases h2 with h2 | ⟨h2, h3⟩
    · exact .inl h2
    · exact .inr (.inl ⟨h2, h3⟩)
  · exact .inr (.inr ⟨o, rfl, h1, h2, h3, h4, h5, h6⟩)
/-- a call's reckoning holds -/
def CallOk (P : Program) (G : Nat) (W : World) (call : CallF) : Prop := ∀ g args m v m', call g args m = some (v, m') → ∀ r w args', All (V2 r) args args' → Wd P G W r m w → W.heap.size ≤ w.heap.size →
  Calls P g args' w fun e w' => ∃ v' r', e = .returned v' ∧ V3 r' v v' ∧ Wd P G W r' m' w' ∧ Step r m w r' m' w'
omit [Th] [Fx] in
theorem run_call {a : Act} {o : Oper} {c : Call} {f : Operand} {g : FuncId} {first cap : Array Value} {fn : Func} {w : World} (ho : o.op = .call c) (hc : c.callee = .value f) (hf : a.eval f = .func (.func g) first cap) (hg : P.funcs[g]? = some fn) (hn : (fn.name == "runtime.NumGoroutine") = false) (hb : fn.body.isSome = true) :
    (execOp a.eval o).run P w = .ok (.enter g (first ++ c.args.map a.eval ++ cap)) w := by
  have hb' : ¬ fn.body = none := by
    intro h
    rw [h] at hb
    cases hb
  have hn' : ¬ fn.name = "runtime.NumGoroutine" := by simpa using hn
  unfold execOp
  rw [ho]
  simp only [resolve, hc, hf, Deferred.ofValue, invoke, callFunc]
  simp [hg, hn', hb', Sem.run, program, Bind.bind, Sem.bind, pure]
omit [Th] [Fx] in
theorem run_append {a : Act} {o : Oper} {c : Call} {s x : Operand} {w w' : World} {v : Value} (ho : o.op = .call c) (hc : c.callee = .builtin .append) (ha : c.args.toList = [s, x]) (h : (Builtin.append_ c.argTypes.toList.toArray o.type #[a.eval s, a.eval x]).run P w = .ok v w') :
    (execOp a.eval o).run P w = .ok (.value v) w' := by
  have e : c.args = #[s, x] := by
    rw [← Array.toArray_toList (xs := c.args), ha]
  have h' : (Builtin.append_ c.argTypes o.type #[a.eval s, a.eval x]).run P w = .ok v w' := by simpa using h
  unfold execOp
  rw [ho]
  simp only [resolve, hc, e, invoke, builtin]
  simp [h']
omit [Fx] in
theorem V0.func {r : List Nat} {u v : Value} {g : Fn} {a b : Array Value} (h : V3 r u v) (hu : u = .func g a b) : ∃ a' b', v = .func g a' b' ∧ All (V0 r) a a' ∧ All (V0 r) b b' := by
  subst hu
  exact h
omit [Fx] in
theorem evOp_sound {call : CallF} (hN : NoGo P) (hC : CallOk P G W call) {r : List Nat} {a : Operand → Value} {b : Act} {m : AM} {o : Oper} {w : World} {v : Value} {m' : AM} (e : evOp P G call a m o = some (v, m')) (h : EvR G r a b.eval) (hw : Wd P G W r m w) (hB : W.heap.size ≤ w.heap.size)
    {K : Act → World → Prop} {Q : Exit → Act → World → Prop} (k : ∀ r' v' w', V3 r' v v' → Wd P G W r' m' w' → Step r m w r' m' w' → K (b.put o.dst v') w') : o.wp P b w K Q := by
  have key : ∀ x, runOp P G a m o = some (x, m') → ((∃ u, x = .value u ∧ u = v) ∨ (x = .skip ∧ v = undef)) → o.wp P b w K Q := by
    intro x hx hv
    obtain ⟨r', y, w', hr, hn, hw', hs⟩ := runOp_sound hx h hw hB
    unfold Oper.wp
    rw [hr]
    rcases hv with ⟨u, rfl, rfl⟩ | ⟨rfl, rfl⟩
    · obtain ⟨v', rfl, hv'⟩ := hn
      exact k r' v' w' hv' hw' hs
    · have hy : y = .skip := hn
      subst hy
      exact k r' undef w' undef_V3 hw' hs
  unfold evOp at e
  split at e
  · rename_i q hf
    split at e
    · rename_i ho
      injection e with e
      subst e
      rcases fast_run hf ho with h1 | ⟨h1, h2⟩ | ⟨_, _, h1, h2, h3, h4, h5, h6⟩
      · exact key _ h1 (.inl ⟨_, rfl, rfl⟩)
      · exact key _ h1 (.inr ⟨rfl, h2⟩)
      · have hv : ∀ x ∈ o.op.operands, V3 r (a x) (b.eval x) := fun x hx => h x (by
          rw [Array.all_eq_true_iff_forall_mem] at ho
          exact ho x hx)
        have he : execOp b.eval o = execOp a o := execOp_congr o (fun cs q heq => by rw [heq] at h2; cases h2) fun x hx => still3_eq (hv x hx) (by
          have := h3 x hx
          revert this
          cases a x <;> intro h <;> first | exact h | cases h)
        unfold Oper.wp
        rw [he, ans_run w _ _ h4]
        subst h5
        exact k r v w (still3_V3 h6) hw (Step.refl r m' w)
    · cases e
  · split at e
    · rename_i c hc
      split at e
      · rename_i g args hcall
        split at e
        · rename_i hbody
          unfold callOf at hcall
          split at hcall
          · rename_i f hcallee
            split at hcall
            · rename_i g' first cap ho hf
              split at hcall
              · rename_i hargs
                injection hcall with hcall
                injection hcall with e1 e2
                subst e1 e2
                obtain ⟨first', cap', hf', h1, h2⟩ := V0.func (h _ ho) hf
                unfold hasBody at hbody
                split at hbody
                · rename_i fn hfn
                  unfold Oper.wp
                  rw [run_call hc hcallee hf' hfn (hN _ _ hfn) hbody, Oper.upon_enter]
                  have hall : All (V2 r) (first ++ c.args.map a ++ cap) (first' ++ c.args.map b.eval ++ cap') := by
                    refine All.append (All.append (h1.mono fun _ _ h => h.up.up) ?_) (h2.mono fun _ _ h => h.up.up)
                    refine All.map fun x hx => ?_
                    rw [Array.all_eq_true_iff_forall_mem] at hargs
                    have := hargs x hx
                    rw [Bool.and_eq_true] at this
                    exact (h _ this.1).nt this.2
                  refine (hC _ _ _ _ _ e r w _ hall hw hB).mono ?_
                  rintro e w' ⟨v', r', rfl, hv, hw', hs⟩
                  exact k r' v' w' hv hw' hs
                · cases hbody
              · cases hcall
            · cases hcall
          · cases hcall
        · cases e
      · split at e
        · rename_i ts s x happ
          unfold appOf at happ
          split at happ
          · rename_i hcallee
            split at happ
            · rename_i s1 x1 hargs
              split at happ
              · rename_i hok
                injection happ with happ
                injection happ with e1 happ
                injection happ with e2 e3
                subst e1 e2 e3
                simp only [Bool.and_eq_true] at hok
                obtain ⟨⟨⟨k1, k2⟩, k3⟩, k4⟩ := hok
                obtain ⟨r', v', w', hrun, hv, hw', hs⟩ := evApp_sound (ty := o.type) e ((h _ k1).nt k3) ((h _ k2).nt k4) hw hB
                unfold Oper.wp
                rw [run_append hc hcallee hargs hrun]
                exact k r' v' w' hv.up hw' hs
              · cases happ
            · cases happ
          · cases happ
        · split at e
          · rename_i u m2 hx
            injection e with e
            injection e with e1 e2
            subst e1 e2
            exact key _ hx (.inl ⟨_, rfl, rfl⟩)
          · cases e
    · split at e
      · rename_i u m2 hx
        injection e with e
        injection e with e1 e2
        subst e1 e2
        exact key _ hx (.inl ⟨_, rfl, rfl⟩)
      · rename_i m2 hx
        injection e with e
        injection e with e1 e2
        subst e1 e2
        exact key _ hx (.inr ⟨rfl, rfl⟩)
      · split at e
        · rename_i T u l hi hsl
          unfold slOf at hsl
          split at hsl
          · rename_i T x l hi hop
            split at hsl
            · rename_i hok
              injection hsl with hsl
              injection hsl with e1 hsl
              injection hsl with e2 hsl
              injection hsl with e3 e4
              subst e1 e2 e3 e4
              rw [Bool.and_eq_true, Bool.and_eq_true, Bool.and_eq_true] at hok
              obtain ⟨⟨k1, k2⟩, k3, k4⟩ := hok
              obtain ⟨r', v', hrun, hv, hw', hs⟩ := evSl_sound e ((h x k1).nt k2) (vo_map h k3) (vo_map h k4) hw
              have hex : (execOp b.eval o).run P w = .ok (.value v') w := by
                unfold execOp
                rw [hop]
                show ((Instr.sliceAt T (b.eval x) (l.map b.eval) (hi.map b.eval) none) >>= fun q => (pure (Next.value q) : Sem Next)).run P w = _
                rw [Sem.run_bind, hrun]
                rfl
              unfold Oper.wp
              rw [hex]
              exact k r' v' w hv.up hw' hs
            · cases hsl
          · cases hsl
        · cases e

/-- an operand with the way to it -/
inductive DX where
  | t (p : List Bool)
  | c (v : Value)
noncomputable def DX.ev (t : Tr) (d : DX) : Value := DX.casesOn d (fun p => t.get p) (fun v => v)
def decX (n G : Nat) : Operand → Option DX
  | .tmp i => match Nat.blt i n with
    | true => some (.t (bits (dpt n) i))
    | false => none
  | .const v => match still v with
    | true => some (.c v)
    | false => none
  | .func f => some (.c (.func (.func f) #[] #[]))
  | .global g => match Nat.blt g G with
    | true => some (.c (.pointer (some ⟨g, 0, none⟩)))
    | false => none
omit [Th] [Fx] in
theorem decX_spec {n G : Nat} {x : Operand} {d : DX} (h : decX n G x = some d) (t : Tr) : opd G x = true ∧ d.ev t = t.ev n x := by
  cases x with
  | tmp i =>
    simp only [decX] at h
    split at h
    · rename_i hi
      injection h with h
      subst h
      refine ⟨rfl, ?_⟩
      show t.get (bits (dpt n) i) = t.at_ n i
      unfold Tr.at_
      rw [hi]
    · cases h
  | const v =>
    simp only [decX] at h
    split at h
    · rename_i hv
      injection h with h
      subst h
      exact ⟨hv, rfl⟩
    · cases h
  | global g =>
    simp only [decX] at h
    split at h
    · rename_i hg
      injection h with h
      subst h
      exact ⟨hg, rfl⟩
    · cases h
  | func f =>
    simp only [decX] at h
    injection h with h
    subst h
    exact ⟨rfl, rfl⟩
def decO (n G : Nat) : Option Operand → Option (Option DX)
  | none => some none
  | some x => match decX n G x with
    | some d => some (some d)
    | none => none
noncomputable def evO_ (t : Tr) : Option DX → Option Value
  | none => none
  | some d => some (d.ev t)
omit [Th] [Fx] in
theorem decO_spec {n G : Nat} {x : Option Operand} {d : Option DX} (h : decO n G x = some d) (t : Tr) : x.toArray.all (opd G) = true ∧ evO_ t d = x.map (t.ev n) := by
  cases x with
  | none =>
    injection h with h
    subst h
    exact ⟨by simp, rfl⟩
  | some x =>
    simp only [decO] at h
    split at h
    · rename_i e he
      injection h with h
      subst h
      obtain ⟨h1, h2⟩ := decX_spec he t
      exact ⟨by simp [h1], by simp [evO_, h2]⟩
    · cases h
inductive DOp where
  | mv (x : DX)
  | bin (op : BinOp) (x y : DX)
  | pk (c a b : DX)
  | ex (x : DX) (i : Nat)
  | ld (x : DX) (n : Option Nat)
  | st (x y : DX)
  | sa (x y : DX) (n : Nat)
  | al (c : Array Value) (T : TypeId)
  | fa (x : DX) (o : Nat)
  | ia (x i : DX) (z : Nat)
  | is (x i : DX)
  | sb (x : DX) (l h : Option DX)
  | ln (x : DX) (st sl : Bool)
  | slow
/-- an operation read once -/
def dec (P : Program) (n G : Nat) : Op → DOp
  | .move x | .assign x => match decX n G x with
    | some d => .mv d
    | none => .slow
  | .binOp op _ x y _ => match decX n G x, decX n G y with
    | some d, some e => .bin op d e
    | _, _ => .slow
  | .pick c a b => match decX n G c, decX n G a, decX n G b with
    | some d, some e, some f => .pk d e f
    | _, _, _ => .slow
  | .extract x i => match decX n G x with
    | some d => .ex d i
    | none => .slow
  | .load T x => match decX n G x, rowN P T with
    | some d, some n => .ld d n
    | _, _ => .slow
  | .store T x y => match decX n G x, decX n G y, oneN P T with
    | some d, some e, true => .st d e
    | some d, some e, false => match sizeN P T with
      | some n => .sa d e n
      | none => .slow
    | _, _, _ => .slow
  | .alloc T => match zeroC P T with
    | some c => .al c T
    | none => .slow
  | .fieldAddr T x f => match decX n G x, offF P T f with
    | some d, some o => .fa d o
    | _, _ => .slow
  | .indexAddr T x i => match decX n G x, decX n G i, sizeE P T with
    | some d, some e, some z => .ia d e z
    | _, _, _ => .slow
  | .index T x i => match decX n G x, decX n G i, isStr P T with
    | some d, some e, true => .is d e
    | _, _, _ => .slow
  | .slice T x l h mx => match mx, decX n G x, decO n G l, decO n G h, isStr P T with
    | none, some d, some e, some f, true => .sb d e f
    | _, _, _, _, _ => .slow
  | .call { callee := .builtin .len, args := ⟨[x]⟩, argTypes := ⟨[T]⟩ } => match decX n G x with
    | some d => .ln d (isStr P T) (isSl P T)
    | none => .slow
  | _ => .slow
/-- the answer by the decoded operation, if there is one -/
noncomputable def fPk (a b : Value) (m : AM) : Value → Option (Value × AM)
  | .bool true => some (a, m)
  | .bool false => some (b, m)
  | _ => none
def fEx (i : Nat) (m : AM) : Value → Option (Value × AM)
  | .tuple vs => match nthV vs.toList i with
    | some v => some (v, m)
    | none => none
  | _ => none
def fLd (n : Option Nat) (m : AM) : Value → Option (Value × AM)
  | .pointer (some a) => match a.spot, find m.bs a.block with
    | none, some b => match n with
      | none => match nthV b.c.toList a.off with
        | some v => some (v, m)
        | none => none
      | some n => match Nat.beq ((b.c.toList.drop a.off).take n).length n with
        | true => some (.agg ((b.c.toList.drop a.off).take n).toArray, m)
        | false => none
    | _, _ => none
  | _ => none
def fSt (v : Value) (m : AM) : Value → Option (Value × AM)
  | .pointer (some a) => match a.spot, find m.bs a.block with
    | none, some b => match isWide v, b.ro, Nat.ble (a.off + 1) b.c.size with
      | false, false, true => some (undef, ⟨m.n, setB m.bs a.block a.off v⟩)
      | _, _, _ => none
    | _, _ => none
  | _ => none
def fFa (o : Nat) (m : AM) : Value → Option (Value × AM)
  | .pointer (some a) => some (.pointer (some (a.add o)), m)
  | _ => none
def fIa (z : Nat) (m : AM) : Value → Value → Option (Value × AM)
  | .slice (some a) n _, .int _ (.ofNat k) => match Nat.blt k n with
    | true => some (.pointer (some (a.add (k * z))), m)
    | false => none
  | _, _ => none
def fBn (m : AM) : Option Value → Option (Value × AM)
  | some v => some (v, m)
  | none => none
def fIs (m : AM) : Value → Value → Option (Value × AM)
  | .string s, .int _ (.ofNat k) => idxS k m s
  | _, _ => none
def fSb (l h : Option Value) (m : AM) : Value → Option (Value × AM)
  | .string s => subS (bnd 0 l) (bnd s.data.toList.length h) m s
  | _ => none
noncomputable def evD (t : Tr) (m : AM) (d : DOp) : Option (Value × AM) := match d with
  | .mv x => some (x.ev t, m)
  | .bin op x y => fBn m (fBin op (x.ev t) (y.ev t))
  | .pk c a b => fPk (a.ev t) (b.ev t) m (c.ev t)
  | .ex x i => fEx i m (x.ev t)
  | .ld x n => fLd n m (x.ev t)
  | .st x y => fSt (y.ev t) m (x.ev t)
  | .sa x y n => fSa n (y.ev t) m (x.ev t)
  | .al c T => some (.pointer (some ⟨m.n, 0, none⟩), ⟨m.n + 1, ⟨m.n, c, T, true, false⟩ :: m.bs⟩)
  | .fa x o => fFa o m (x.ev t)
  | .ia x i z => fIa z m (x.ev t) (i.ev t)
  | .is x i => fIs m (x.ev t) (i.ev t)
  | .sb x l h => fSb (evO_ t l) (evO_ t h) m (x.ev t)
  | .ln x st sl => lenV st sl m (x.ev t)
  | .slow => none
omit [Th] [Fx] in
theorem evD_spec {n G : Nat} {t : Tr} {m : AM} {op : Op} {r : Value × AM} (h : evD t m (dec P n G op) = some r) : fast P (t.ev n) m op = some r ∧ op.operands.all (opd G) = true := by
  unfold dec at h
  split at h
  · rename_i x
    split at h
    · rename_i d hd
      obtain ⟨h1, h2⟩ := decX_spec hd t
      simp only [evD, h2] at h
      exact ⟨h, by simp [Op.operands, h1]⟩
    · cases h
  · rename_i x
    split at h
    · rename_i d hd
      obtain ⟨h1, h2⟩ := decX_spec hd t
      simp only [evD, h2] at h
      exact ⟨h, by simp [Op.operands, h1]⟩
    · cases h
  · rename_i bop T x y yt
    split at h
    · rename_i d e hd he
      obtain ⟨h1, h2⟩ := decX_spec hd t
      obtain ⟨h3, h4⟩ := decX_spec he t
      simp only [evD, h2, h4] at h
      refine ⟨?_, by simp [Op.operands, h1, h3]⟩
      unfold fast
      simp only
      generalize fBin bop (t.ev n x) (t.ev n y) = q at h ⊢
      cases q <;> exact h
    · cases h
  · rename_i c a b
    split at h
    · rename_i d e f hd he hf
      obtain ⟨h1, h2⟩ := decX_spec hd t
      obtain ⟨h3, h4⟩ := decX_spec he t
      obtain ⟨h5, h6⟩ := decX_spec hf t
      simp only [evD, h2, h4, h6] at h
      refine ⟨?_, by simp [Op.operands, h1, h3, h5]⟩
      unfold fast
      simp only
      generalize t.ev n c = q at h ⊢
      unfold fPk at h
      exact h
    · cases h
  · rename_i x i
    split at h
    · rename_i d hd
      obtain ⟨h1, h2⟩ := decX_spec hd t
      simp only [evD, h2] at h
      exact ⟨h, by simp [Op.operands, h1]⟩
    · cases h
  · rename_i T x
    split at h
    · rename_i d nn hd hn
      obtain ⟨h1, h2⟩ := decX_spec hd t
      simp only [evD, h2] at h
      refine ⟨?_, by simp [Op.operands, h1]⟩
      unfold fast
      simp only
      unfold fLd at h
      generalize t.ev n x = q at h ⊢
      split at h
      · simp only
        split at h
        · rename_i b hs hb
          rw [hs, hb]
          simp only [hn]
          cases nn <;> exact h
        · cases h
      · cases h
    · cases h
  · rename_i T x y
    split at h
    · rename_i d e hd he ho
      obtain ⟨h1, h2⟩ := decX_spec hd t
      obtain ⟨h3, h4⟩ := decX_spec he t
      simp only [evD, h2, h4] at h
      refine ⟨?_, by simp [Op.operands, h1, h3]⟩
      unfold fast
      simp only [ho]
      unfold fSt at h
      generalize t.ev n x = q at h ⊢
      split at h
      · simp only
        split at h
        · rename_i b hs hb
          rw [hs, hb]
          simp only
          split at h
          · rename_i k1 k2 k3
            simp only [k1, k2, k3]
            exact h
          · cases h
        · cases h
      · cases h
    · rename_i d e hd he ho
      split at h
      · rename_i n hn
        obtain ⟨h1, h2⟩ := decX_spec hd t
        obtain ⟨h3, h4⟩ := decX_spec he t
        simp only [evD, h2, h4] at h
        refine ⟨?_, by simp [Op.operands, h1, h3]⟩
        unfold fast
        simp only [ho, hn]
        exact h
      · cases h
    · cases h
  · rename_i T
    split at h
    · rename_i c hc
      refine ⟨?_, by simp [Op.operands]⟩
      unfold fast
      simp only [hc]
      exact h
    · cases h
  · rename_i T x f
    split at h
    · rename_i d o hd ho
      obtain ⟨h1, h2⟩ := decX_spec hd t
      simp only [evD, h2] at h
      refine ⟨?_, by simp [Op.operands, h1]⟩
      unfold fast
      simp only
      unfold fFa at h
      generalize t.ev n x = q at h ⊢
      split at h
      · simp only [ho]
        exact h
      · cases h
    · cases h
  · rename_i T x i
    split at h
    · rename_i d e z hd he hz
      obtain ⟨h1, h2⟩ := decX_spec hd t
      obtain ⟨h3, h4⟩ := decX_spec he t
      simp only [evD, h2, h4] at h
      refine ⟨?_, by simp [Op.operands, h1, h3]⟩
      unfold fast
      simp only
      unfold fIa at h
      generalize t.ev n x = q at h ⊢
      generalize t.ev n i = s at h ⊢
      split at h
      · simp only [hz]
        exact h
      · cases h
    · cases h
  · rename_i T x i
    split at h
    · rename_i d e hd he ht
      obtain ⟨h1, h2⟩ := decX_spec hd t
      obtain ⟨h3, h4⟩ := decX_spec he t
      simp only [evD, h2, h4] at h
      refine ⟨?_, by simp [Op.operands, h1, h3]⟩
      unfold fast
      simp only
      unfold fIs at h
      generalize t.ev n x = q at h ⊢
      generalize t.ev n i = s at h ⊢
      split at h
      · simp only [ht]
        exact h
      · cases h
    · cases h
  · rename_i T x l hh mx
    split at h
    · rename_i d e f hd he hf ht
      obtain ⟨h1, h2⟩ := decX_spec hd t
      obtain ⟨h3, h4⟩ := decO_spec he t
      obtain ⟨h5, h6⟩ := decO_spec hf t
      simp only [evD, h2, h4, h6] at h
      refine ⟨?_, ?_⟩
      · unfold fast
        simp only
        unfold fSb at h
        generalize t.ev n x = q at h ⊢
        split at h
        · simp only [ht]
          exact h
        · cases h
      · simp only [Op.operands, Array.all_append, h3, h5]
        simp [h1]
    · cases h
  · rename_i x T
    split at h
    · rename_i d hd
      obtain ⟨h1, h2⟩ := decX_spec hd t
      simp only [evD, h2] at h
      exact ⟨h, by simp [Op.operands, Call.operands, h1]⟩
    · cases h
  · cases h
/-- an operation over letters -/
noncomputable def tokG (P : Program) (G : Nat) (a : Operand → Value) (o : Op) : Option Value := match tokOp P Fx.F a o with
  | some v => match o.operands.all (opd G) with
    | true => some v
    | false => none
  | none => none
theorem tokG_sound [Ts] [Sat] {G : Nat} {r : List Nat} {a b : Operand → Value} {o : Oper} {v : Value} (e : tokG P G a o.op = some v) (h : EvR G r a b) : ∃ v', V3 r v v' ∧ ∀ w, (execOp b o).run P w = .ok (.value v') w := by
  unfold tokG at e
  split at e
  · rename_i u hu
    split at e
    · rename_i ho
      injection e with e
      subst e
      obtain ⟨v', h1, h2⟩ := tokOp_sound Sat.ok hu fun x hx => h x (by
        rw [Array.all_eq_true_iff_forall_mem] at ho
        exact ho x hx)
      exact ⟨v', h1, fun w => ans_run w _ _ h2⟩
    · cases e
  · cases e
/-- the place that a place lies behind, and how far -/
def strip : Nat → Value → Value × Nat
  | n + 1, .iface c u => match Nat.ble 4096 (Nat.div c 16), u with
    | true, .iface d v => match Nat.beq (Nat.mod c 16) 11, Nat.beq (Nat.mod d 16) 11, strip n (.iface d v) with
      | true, true, (p, o) => (p, o + (Nat.div c 16 - 4096))
      | _, _, _ => (.iface c u, 0)
    | _, u => (.iface c u, 0)
  | _, t => (t, 0)
def lookM : List (Value × List Value) → Value → Option (List Value)
  | [], _ => none
  | (u, c) :: l, t => match teq 40 u t with
    | true => some c
    | false => lookM l t
omit [Th] [Fx] in
theorem lookM_mem : ∀ {l : List (Value × List Value)} {t : Value} {c : List Value}, lookM l t = some c → (t, c) ∈ l
  | [], _, _, h => by cases h
  | (u, d) :: l, t, c, h => by
    unfold lookM at h
    split at h
    · rename_i he
      injection h with h
      rw [teq_eq _ _ _ he, h]
      exact List.mem_cons_self
    · exact List.mem_cons_of_mem _ (lookM_mem h)
omit [Fx] in
theorem strip_spec [Ts] : ∀ (n : Nat) (t p : Value) (o : Nat) (A : Addr), strip n t = (p, o) → De t (.pointer (some A)) → (t = p ∧ o = 0) ∨ ∃ B, De p (.pointer (some B)) ∧ A.block = B.block ∧ A.off = B.off + o ∧ B.spot = none ∧ A.spot = none
  | 0, t, p, o, A, h, _ => by
    injection h with h1 h2
    exact .inl ⟨h1, h2.symm⟩
  | n + 1, t, p, o, A, h, hd => by
    cases t with
    | iface c u =>
      unfold strip at h
      split at h
      · rename_i d v hc
        split at h
        · rename_i p' o' htc hd2 hs
          injection h with h1 h2
          subst h1 h2
          have hc : 4096 ≤ c / 16 := Nat.le_of_ble_eq_true hc
          have htc : c % 16 = 11 := Nat.eq_of_beq_eq_true htc
          have hd2 : d % 16 = 11 := Nat.eq_of_beq_eq_true hd2
          have ht := Ts.tag d v (Nat.le_trans (Nat.le_of_eq hd2) (by decide))
          rw [hd2] at ht
          obtain ⟨B, hB, hsp⟩ := hasTag_ptr ht
          have hA : Value.pointer (some A) = Th.val c (.iface d v) := hd
          have := Ts.un c d v (.pointer (some (B.add (c / 16 - 4096)))) (by
            rw [hB]
            unfold sem1
            rw [if_neg (Nat.not_lt.2 hc)]) (by rw [htc]; exact ⟨rfl, spot_add B _ hsp⟩)
          rw [← hA] at this
          injection this with this
          injection this with this
          obtain ⟨e1, e2, e3⟩ := add_eq B hsp (c / 16 - 4096)
          rcases strip_spec n _ _ _ B hs (show De (.iface d v) _ from hB.symm) with ⟨h1, h2⟩ | ⟨B', g1, g2, g3, g4, g5⟩
          · subst h1 h2
            exact .inr ⟨B, hB.symm, by rw [this, e1], by rw [this, e2]; show _ = B.off + (0 + (c / 16 - 4096)); omega, hsp, by rw [this]; exact e3⟩
          · exact .inr ⟨B', g1, by rw [this, e1, g2], by rw [this, e2, g3]; show _ = B'.off + (o' + (c / 16 - 4096)); omega, g4, by rw [this]; exact e3⟩
        · injection h with h1 h2
          exact .inl ⟨h1, h2.symm⟩
      · injection h with h1 h2
        exact .inl ⟨h1, h2.symm⟩
    | _ =>
      unfold strip at h
      injection h with h1 h2
      exact .inl ⟨h1, h2.symm⟩
/-- a load from a place that is a letter -/
def tokLd (P : Program) (a : Operand → Value) : Op → Option Value
  | .load T x => match a x with
    | .iface c u => match Nat.beq (Nat.mod c 16) 11, strip 12 (.iface c u) with
      | true, (p, d) => match lookM Fx.M p, rowN P T with
        | some cs, some none => nthV cs d
        | some cs, some (some n) => match Nat.beq ((cs.drop d).take n).length n with
          | true => some (.agg ⟨(cs.drop d).take n⟩)
          | false => none
        | _, _ => none
      | false, _ => none
    | _ => none
  | _ => none
omit [Fx] in
theorem Low.cell {w : World} (h : Low w) {A : Addr} (hA : A.block < Th.W.heap.size ∧ ¬ Th.S A.block) : w.cell? A = Th.W.cell? A := World.cell?_of_block (h.block A.block hA.1 hA.2)
omit [Th] [Fx] in
theorem run_load {w : World} {A : Addr} {v : Value} (h : w.cell? A = some v) : (load A).run P w = .ok v w := by
  show (Sem.load .plain A Sem.pure).run P w = _
  simp only [Sem.run, h]
omit [Th] [Fx] in
theorem run_loadCellsFrom {w : World} {A : Addr} : ∀ (n i : Nat) (acc : Array Value) (vs : List Value), vs.length = n → (∀ (j : Nat) v, vs[j]? = some v → w.cell? (A.add (i + j)) = some v) → (loadCellsFrom A i n acc).run P w = .ok (acc ++ vs.toArray) w
  | 0, i, acc, vs, hl, _ => by
    have : vs = [] := List.eq_nil_of_length_eq_zero hl
    subst this
    simp [loadCellsFrom, pure]
  | n + 1, i, acc, [], hl, _ => by simp at hl
  | n + 1, i, acc, v :: vs, hl, h => by
    have h0 := h 0 v rfl
    unfold loadCellsFrom
    rw [Sem.run_bind, run_load (by simpa using h0)]
    show (loadCellsFrom A (i + 1) n (acc.push v)).run P w = _
    rw [run_loadCellsFrom n (i + 1) _ vs (by simpa using hl) (fun j u hu => by
      have := h (j + 1) u hu
      rw [show i + (j + 1) = i + 1 + j by omega] at this
      exact this)]
    simp
omit [Th] [Fx] in
theorem ans_isAgg {T : TypeId} {q : Option Nat} (h : rowN P T = some q) : ans P (isAgg T) = some q.isSome ∧ ∀ n, q = some n → ans P (sizeOf T) = some n := by
  unfold rowN at h
  split at h
  · rename_i d i hd hi
    have hs := ans_sizeOf (P := P) hi
    unfold isAgg
    rw [ans_bindE, ans_underlying hd]
    cases d <;> simp only at h <;> injection h with h <;> subst h <;> refine ⟨rfl, fun n hn => ?_⟩ <;> first
      | (injection hn with hn; subst hn; exact hs)
      | cases hn
  · cases h
omit [Th] [Fx] in
theorem run_loadVar_cell {T : TypeId} (h : rowN P T = some none) {w : World} {A : Addr} {v : Value} (hv : w.cell? A = some v) : (loadVar T A).run P w = .ok v w := by
  unfold loadVar
  rw [Sem.run_bind, ans_run w _ _ (ans_isAgg h).1]
  exact run_load hv
omit [Th] [Fx] in
theorem run_loadVar_row {T : TypeId} {n : Nat} (h : rowN P T = some (some n)) {w : World} {A : Addr} {vs : List Value} (hl : vs.length = n) (hv : ∀ (j : Nat) v, vs[j]? = some v → w.cell? (A.add j) = some v) : (loadVar T A).run P w = .ok (.agg vs.toArray) w := by
  unfold loadVar
  rw [Sem.run_bind, ans_run w _ _ (ans_isAgg h).1]
  show (sizeOf T >>= fun n => loadCells A n >>= fun c => pure (Value.agg c)).run P w = _
  rw [Sem.run_bind, ans_run w _ _ ((ans_isAgg h).2 n rfl)]
  show (loadCells A n >>= fun c => pure (Value.agg c)).run P w = _
  unfold loadCells
  rw [Sem.run_bind, run_loadCellsFrom n 0 #[] vs hl (fun j u hu => by simpa using hv j u hu)]
  simp
omit [Th] [Fx] in
theorem add_add (B A : Addr) (d j : Nat) (h1 : A.block = B.block) (h2 : A.off = B.off + d) (h3 : B.spot = none) (h4 : A.spot = none) : A.add j = B.add (d + j) := by
  obtain ⟨e1, e2, e3⟩ := add_eq A h4 j
  obtain ⟨f1, f2, f3⟩ := add_eq B h3 (d + j)
  cases hA : A.add j with
  | mk b o s =>
    cases hB : B.add (d + j) with
    | mk b' o' s' =>
      rw [hA] at e1 e2 e3
      rw [hB] at f1 f2 f3
      simp only at e1 e2 e3 f1 f2 f3
      congr 1
      · rw [e1, f1, h1]
      · rw [e2, f2, h2]
        exact Nat.add_assoc _ _ _
      · rw [e3, f3]
theorem tokLd_sound [Ts] [Sat] {r : List Nat} {a b : Operand → Value} {o : Oper} {v : Value} (e : tokLd P a o.op = some v) (h : ∀ x ∈ o.op.operands, V3 r (a x) (b x)) :
    ∃ v', V3 r v v' ∧ ∀ w, Low w → (execOp b o).run P w = .ok (.value v') w := by
  obtain ⟨dst, op, type, pos, after, guard⟩ := o
  simp only at e h ⊢
  unfold tokLd at e
  split at e
  · rename_i T x
    have hx := h x (by simp [Op.operands])
    split at e
    · rename_i c u hax
      rw [hax] at hx
      have hd : De (.iface c u) (b x) := hx
      split at e
      · rename_i p d hk hs
        have hk : c % 16 = 11 := Nat.eq_of_beq_eq_true hk
        have ht := tag_of hd (Nat.le_trans (Nat.le_of_eq hk) (by decide))
        rw [hk] at ht
        obtain ⟨A, hA, hsp⟩ := hasTag_ptr ht
        rw [hA] at hd
        have key : ∀ cs, lookM Fx.M p = some cs → ∃ B, CellsAt B cs ∧ A.block = B.block ∧ A.off = B.off + d ∧ B.spot = none := by
          intro cs hcs
          obtain ⟨B, hB, hc⟩ := Sat.mem _ (lookM_mem hcs)
          have hB : De p (.pointer (some B)) := hB
          rcases strip_spec 12 _ _ _ A hs hd with ⟨h1, h2⟩ | ⟨B', g1, g2, g3, g4, g5⟩
          · subst h1 h2
            have e := hd.one hB
            injection e with e
            injection e with e
            subst e
            exact ⟨B, hc, rfl, rfl, hsp⟩
          · have e := g1.one hB
            injection e with e
            injection e with e
            subst e
            exact ⟨B, hc, g2, g3, g4⟩
        have run : ∀ w (X : Value), (loadVar T A).run P w = .ok X w → (execOp b ⟨dst, .load T x, type, pos, after, guard⟩).run P w = .ok (.value X) w := by
          intro w X hX
          simp only [execOp, hA]
          show (Instr.loadAt T (.pointer (some A)) >>= fun q => (pure (Next.value q) : Sem Next)).run P w = _
          have e1 : (Instr.loadAt T (.pointer (some A))).run P w = (loadVar T A).run P w := rfl
          rw [Sem.run_bind, e1, hX]
          rfl
        split at e
        · rename_i cs hcs hrow
          obtain ⟨B, ⟨c1, c2, c3⟩, b1, b2, b3⟩ := key cs hcs
          rw [nthV_eq] at e
          obtain ⟨X, hX, hV⟩ := c3 d v e
          refine ⟨X, (hV.ext ⟨r, rfl⟩).up.up, fun w hw => run w X (run_loadVar_cell hrow ?_)⟩
          have := add_add B A d 0 b1 b2 b3 hsp
          rw [Nat.add_zero, show A.add 0 = A from rfl] at this
          rw [this, hw.cell (by rw [(add_eq B b3 d).1]; exact c2)]
          exact hX
        · rename_i cs n hcs hrow
          obtain ⟨B, ⟨c1, c2, c3⟩, b1, b2, b3⟩ := key cs hcs
          split at e
          · rename_i hl
            injection e with e
            subst e
            have hl := Nat.eq_of_beq_eq_true hl
            have hget : ∀ (j : Nat) u, ((cs.drop d).take n)[j]? = some u → cs[d + j]? = some u := by
              intro j u hu
              rw [List.getElem?_take] at hu
              split at hu
              · rw [List.getElem?_drop] at hu
                exact hu
              · cases hu
            obtain ⟨vs, hvl, hvs⟩ : ∃ vs : List Value, vs.length = n ∧ ∀ (j : Nat) u, ((cs.drop d).take n)[j]? = some u → ∃ X, vs[j]? = some X ∧ Th.W.cell? (B.add (d + j)) = some X ∧ V1 [] u X := by
              refine ⟨(List.range n).map fun j => (Th.W.cell? (B.add (d + j))).getD undef, by simp, fun j u hu => ?_⟩
              have hj : j < n := by
                have := (List.getElem?_eq_some_iff.1 hu).1
                omega
              obtain ⟨X, hX, hV⟩ := c3 (d + j) u (hget j u hu)
              exact ⟨X, by simp [hj, hX], hX, hV⟩
            have hall : ∀ (j : Nat) X, vs[j]? = some X → ∃ u, ((cs.drop d).take n)[j]? = some u ∧ Th.W.cell? (B.add (d + j)) = some X ∧ V1 [] u X := by
              intro j X hX
              have hj : j < ((cs.drop d).take n).length := by
                have := (List.getElem?_eq_some_iff.1 hX).1
                omega
              obtain ⟨X', h1, h2, h3⟩ := hvs j _ (List.getElem?_eq_getElem hj)
              rw [hX] at h1
              injection h1 with h1
              subst h1
              exact ⟨_, List.getElem?_eq_getElem hj, h2, h3⟩
            refine ⟨.agg vs.toArray, ⟨vs.toArray, rfl, (by show ((cs.drop d).take n).length = vs.length; rw [hl, hvl]), fun j u X hu hX => ?_⟩, fun w hw => run w _ (run_loadVar_row hrow hvl fun j X hX => ?_)⟩
            · obtain ⟨X', h1, h2, h3⟩ := hvs j u (by simpa using hu)
              have hX : vs[j]? = some X := by simpa using hX
              rw [hX] at h1
              injection h1 with h1
              subst h1
              exact h3.ext ⟨r, rfl⟩
            · obtain ⟨u, h1, h2, h3⟩ := hall j X hX
              rw [add_add B A d j b1 b2 b3 hsp, hw.cell (by rw [(add_eq B b3 _).1]; exact c2)]
              exact h2
          · cases e
        · cases e
      · cases e
    · cases e
  · cases e
def tokLE (P : Program) (a : Operand → Value) (o : Op) : Option Value := match tokLd P a o with
  | some v => some v
  | none => tokEq P Fx.F a o
noncomputable def tokM (P : Program) (G : Nat) (a : Operand → Value) (o : Op) : Option Value := match tokLE P a o with
  | some v => match o.operands.all (opd G) with
    | true => some v
    | false => none
  | none => none
theorem tokM_sound [Ts] [Sat] {G : Nat} {r : List Nat} {a b : Operand → Value} {o : Oper} {v : Value} (e : tokM P G a o.op = some v) (h : EvR G r a b) : ∃ v', V3 r v v' ∧ ∀ w, Low w → (execOp b o).run P w = .ok (.value v') w := by
  unfold tokM at e
  split at e
  · rename_i u hu
    split at e
    · rename_i ho
      injection e with e
      subst e
      have hops : ∀ x ∈ o.op.operands, V3 r (a x) (b x) := fun x hx => h x (by
        rw [Array.all_eq_true_iff_forall_mem] at ho
        exact ho x hx)
      unfold tokLE at hu
      split at hu
      · rename_i q hq
        injection hu with hu
        subst hu
        exact tokLd_sound hq hops
      · obtain ⟨v', h1, h2⟩ := tokEq_sound Sat.ok hu hops
        exact ⟨v', h1, fun w _ => h2 w⟩
    · cases e
  · cases e
/-- a term whose value is known -/
def litV (F : Fs) : Value → Value
  | .iface c u => match Nat.ble (Nat.mod c 16) 7 with
    | true => match tight 30 (ivOf (.iface c u) F ⟨none, none, []⟩), kOf (Nat.mod c 16) with
      | ⟨some l, some h, _⟩, some k => match iEq l h with
        | true => .int k l
        | false => .iface c u
      | _, _ => .iface c u
    | false => ask F (.iface c u)
  | v => v
omit [Th] [Fx] in
theorem kN_kOf {g : Nat} {k : IntKind} (h : kOf g = some k) : kN k = g := by
  unfold kOf at h
  split at h <;> first | (injection h with h; subst h; rfl) | cases h
omit [Fx] in
theorem litV_v3 [Ts] {F : Fs} (hF : SatL F) {r : List Nat} {u v : Value} (h : V3 r u v) : V3 r (litV F u) v := by
  unfold litV
  split
  · rename_i c u
    have hd : De (.iface c u) v := h
    split
    · rename_i hle
      have hle : c % 16 ≤ 7 := Nat.le_of_ble_eq_true hle
      split
      · rename_i l hh ex k hiv hk
        split
        · rename_i he
          rw [iEq_eq] at he
          have he := eq_of_beq he
          subst he
          have ht := tag_of hd (Nat.le_trans hle (by decide))
          obtain ⟨k', a, rfl, hk'⟩ := hasTag_int ht hle
          have hk : kOf (c % 16) = some k := hk
          have := kN_inj (hk'.trans (kN_kOf hk).symm)
          subst this
          have h4 : Iv.Of ⟨none, none, []⟩ a := ⟨fun _ e => (by cases e), fun _ e => (by cases e), fun _ e => (by cases e)⟩
          have h5 := tight_spec 30 _ (ivOf_spec hd hF h4)
          rw [hiv] at h5
          have h6 := h5.1 l rfl
          have h7 := h5.2.1 l rfl
          have : a = l := by omega
          subst this
          exact ⟨rfl, rfl⟩
        · exact h
      · exact h
    · exact ask_v3 hF hd
  · exact h
/-- one operation, by the short way if it may be -/
noncomputable def evO (P : Program) (n G : Nat) (call : CallF) (t : Tr) (m : AM) (o : Oper) : Option (Value × AM) := match evD t m (dec P n G o.op) with
  | some r => some r
  | none => match tokG P G (t.ev n) o.op with
    | some v => some (v, m)
    | none => match tokM P G (t.ev n) o.op with
      | some v => some (v, m)
      | none => evOp P G call (fun x => litV Fx.F (t.ev n x)) m o
theorem evO_sound [Ts] [Sat] {call : CallF} (hN : NoGo P) (hC : CallOk P G W call) {n : Nat} {r : List Nat} {t : Tr} {b : Act} {m : AM} {o : Oper} {w : World} {v : Value} {m' : AM} (e : evO P n G call t m o = some (v, m')) (h : EvR G r (t.ev n) b.eval) (hw : Wd P G W r m w) (hB : W.heap.size ≤ w.heap.size)
    {K : Act → World → Prop} {Q : Exit → Act → World → Prop} (k : ∀ r' v' w', V3 r' v v' → Wd P G W r' m' w' → Step r m w r' m' w' → K (b.put o.dst v') w') : o.wp P b w K Q := by
  unfold evO at e
  split at e
  · rename_i q hq
    injection e with e
    subst e
    obtain ⟨h1, h2⟩ := evD_spec hq
    refine evOp_sound hN hC (a := t.ev n) ?_ h hw hB k
    unfold evOp
    rw [h1]
    simp only [h2]
  · split at e
    · rename_i u hu
      injection e with e
      injection e with e1 e2
      subst e1 e2
      obtain ⟨v', h1, h2⟩ := tokG_sound hu h
      unfold Oper.wp
      rw [h2 w]
      exact k r v' w h1 hw (Step.refl r m w)
    · split at e
      · rename_i u hu
        injection e with e
        injection e with e1 e2
        subst e1 e2
        obtain ⟨v', h1, h2⟩ := tokM_sound hu h
        unfold Oper.wp
        rw [h2 w hw.lowT]
        exact k r v' w h1 hw (Step.refl r m w)
      · exact evOp_sound hN hC e (fun x hx => litV_v3 Sat.ok (h x hx)) hw hB k
/-- a value made out first -/
def force {α : Type} (v : Value) (k : Value → α) : α := fV v k
omit [Th] [Fx] in
theorem force_eq {α : Type} (v : Value) (k : Value → α) : force v k = k v := fV_eq v k
noncomputable def oneO (n : Nat) (o : Oper) (a : Tr) (k : Tr → AM → Option (Tr × AM)) (r : Option (Value × AM)) : Option (Tr × AM) := match r with
  | some (v, m') => force v fun v => k (a.put n o.dst v) m'
  | none => none
noncomputable def gdO (P : Program) (G : Nat) (call : CallF) (n : Nat) (o : Oper) (a : Tr) (m : AM) (k : Tr → AM → Option (Tr × AM)) (w : Option Bool) : Option (Tr × AM) := match w with
  | none => none
  | some false => k (a.put n o.dst undef) m
  | some true => oneO n o a k (evO P n G call a m o)
noncomputable def evOps (P : Program) (G : Nat) (call : CallF) (n : Nat) (ops : Array Oper) (l : List Oper) : Tr → AM → Option (Tr × AM) :=
  List.rec (motive := fun _ => Tr → AM → Option (Tr × AM)) (fun a m => some (a, m)) (fun o _ ih a m => gdO P G call n o a m ih (wantT n ops a o)) l
theorem evOps_sound [Ts] [Sat] {call : CallF} (hN : NoGo P) (hC : CallOk P G W call) {n : Nat} {ops : Array Oper} {Q : Exit → Act → World → Prop} : ∀ (l : List Oper) {r : List Nat} {a : Tr} {b : Act} {m : AM} {w : World} {a' : Tr} {m' : AM}, evOps P G call n ops l a m = some (a', m') → AcT n r a b → Wd P G W r m w → W.heap.size ≤ w.heap.size →
    (∀ r' b' w', AcT n r' a' b' → Wd P G W r' m' w' → Step r m w r' m' w' → Q .normal b' w') → wpList P ops Q l b w := by
  intro l
  induction l with
  | nil =>
    intro r a b m w a' m' e h hw hB k
    injection e with e
    injection e with e1 e2
    subst e1 e2
    exact k r b w h hw (Step.refl r m w)
  | cons o l ih =>
    intro r a b m w a' m' e h hw hB k
    change gdO P G call n o a m (evOps P G call n ops l) (wantT n ops a o) = some (a', m') at e
    unfold gdO oneO at e
    unfold wpList
    split at e
    · cases e
    · rename_i hwant
      rw [h.want ops o hwant]
      simp only [Bool.false_eq_true, if_false]
      exact ih e (h.put _ undef_V3) hw hB k
    · rename_i hwant
      rw [h.want ops o hwant]
      simp only [if_true]
      split at e
      · rename_i v m1 hev
        rw [force_eq] at e
        refine .inl (evO_sound hN hC hev (h.eval hw.g) hw hB fun r' v' w' hv hw' hs => ?_)
        exact ih e ((h.ext hs.ext).put _ hv) hw' (Nat.le_trans hB hs.size) fun r2 b2 w2 h2 hw2 hs2 => k r2 b2 w2 h2 hw2 (hs.trans hs2)
      · cases e
end
end Go.Sx
