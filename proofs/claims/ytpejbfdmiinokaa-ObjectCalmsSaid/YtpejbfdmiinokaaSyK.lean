/-
  RUNS RECKONED AHEAD: '==' of structs, arrays and bools over letters. By an AI agent.
-/
import Derived.Test.YtpejbfdmiinokaaSyU
import Derived.DeepKeys
import Derived.Laws.StructEq
namespace Go.Sx
variable [Th]
section
variable {P : Program}
/-- the pieces of a row -/
def klI (f : List Value → Option (List Value)) (z : Nat) (cs : List Value) : List Nat → Option (List Value)
  | [] => some []
  | i :: l => match f ((cs.drop (i * z)).take z) with
    | some a => match klI f z cs l with
      | some b => some (a ++ b)
      | none => none
    | none => none
def klF (P : Program) (f : TypeId → List Value → Option (List Value)) (cs : List Value) : List Field → Option (List Value)
  | [] => some []
  | x :: l => match f x.type ((cs.drop x.offset).take (P.cellsOf x.type)) with
    | some a => match klF P f cs l with
      | some b => some (a ++ b)
      | none => none
    | none => none
def klO (g : Nat) : List Value → Option (List Value)
  | [u] => match okTag g u with
    | true => some [u]
    | false => none
  | _ => none
/-- a value's scalars in the order in which they are compared -/
def kl (P : Program) : Nat → TypeId → List Value → Option (List Value)
  | 0, _, _ => none
  | d + 1, t, cs => match P.underlying t with
    | some .bool => klO 8 cs
    | some (.int q) => klO (kN q) cs
    | some .string => klO 9 cs
    | some (.array n e) => match Nat.beq cs.length (P.cellsOf t) with
      | true => klI (kl P d e) (P.cellsOf e) cs (List.range n)
      | false => none
    | some (.struct fs) => match Nat.beq cs.length (P.cellsOf t), fs.all (fun f => f.name != "_") with
      | true, true => klF P (kl P d) cs fs.toList
      | _, _ => none
    | _ => none
def valOf : Lit → Value
  | .bool b => .bool b
  | .int k n => .int k n
  | .string l => .string ⟨⟨l⟩⟩
  | _ => .nilFunc
def isSc : Lit → Bool
  | .bool _ | .int _ _ | .string _ => true
  | _ => false
/-- scalars, and the literals that they stand for -/
def RL : List Value → List Lit → Prop
  | [], [] => True
  | u :: l, k :: q => (De u (valOf k) ∧ isSc k = true) ∧ RL l q
  | _, _ => False
theorem RL.append : ∀ {a b : List Value} {p q : List Lit}, RL a p → RL b q → RL (a ++ b) (p ++ q)
  | [], _, [], _, _, h => h
  | [], _, _ :: _, _, h, _ => h.elim
  | _ :: _, _, [], _, h, _ => h.elim
  | _ :: _, _, _ :: _, _, h, k => ⟨h.1, RL.append h.2 k⟩
omit [Th] in
theorem All.drop {R : Value → Value → Prop} {us vs : List Value} (h : All R us.toArray vs.toArray) (o n : Nat) : All R ((us.drop o).take n).toArray ((vs.drop o).take n).toArray := by
  have hs : us.length = vs.length := by simpa using h.1
  refine ⟨by simp [hs], fun i x y hx hy => ?_⟩
  have hx : ((us.drop o).take n)[i]? = some x := by simpa using hx
  have hy : ((vs.drop o).take n)[i]? = some y := by simpa using hy
  rw [List.getElem?_take] at hx hy
  split at hx
  · rename_i hi
    rw [if_pos hi] at hy
    rw [List.getElem?_drop] at hx hy
    exact h.2 (o + i) x y (by simpa using hx) (by simpa using hy)
  · cases hx
theorem okTag_de {r : List Nat} {g : Nat} {u v : Value} (h : okTag g u = true) (k : V1 r u v) : De u v := by
  unfold okTag at h
  cases u <;> first
    | exact k
    | (rename_i a n c; cases a <;> first | exact k | cases h)
    | cases h
theorem kl_spec [Ts] {r : List Nat} : ∀ (d : Nat) (t : TypeId) (us vs ls : List Value), kl P d t us = some ls → All (V1 r) us.toArray vs.toArray → ∃ ks, P.keyLits d t vs = some ks ∧ RL ls ks
  | 0, _, _, _, _, h, _ => by cases h
  | d + 1, t, us, vs, ls, h, hA => by
    have one : ∀ g, klO g us = some ls → ∃ u v, us = [u] ∧ vs = [v] ∧ ls = [u] ∧ De u v ∧ hasTag g v := by
      intro g hg
      unfold klO at hg
      split at hg
      · rename_i u
        split at hg
        · rename_i hok
          injection hg with hg
          have hl : vs.length = 1 := by simpa using hA.1.symm
          obtain ⟨v, rfl⟩ := List.length_eq_one_iff.1 hl
          have hd := okTag_de hok (hA.2 0 u v (by simp) (by simp))
          exact ⟨u, v, rfl, rfl, hg.symm, hd, okTag_spec hok hd⟩
        · cases hg
      · cases hg
    have hlen : us.length = vs.length := by simpa using hA.1
    unfold kl at h
    unfold Program.keyLits
    split at h
    · rename_i hu
      obtain ⟨u, v, rfl, rfl, rfl, hd, ht⟩ := one _ h
      obtain ⟨b, rfl⟩ := hasTag_bool ht
      exact ⟨[.bool b], by simp [hu], ⟨hd, rfl⟩, trivial⟩
    · rename_i q hu
      obtain ⟨u, v, rfl, rfl, rfl, hd, ht⟩ := one _ h
      obtain ⟨k, n, rfl, hk⟩ := hasTag_int ht (kN_le q)
      have := kN_inj hk
      subst this
      have hw : (Lit.int k n).wf = true := by
        simp only [Lit.wf, Bool.and_eq_true, decide_eq_true_eq]
        exact ht.2
      exact ⟨[.int k n], by simp [hu, hw], ⟨hd, rfl⟩, trivial⟩
    · rename_i hu
      obtain ⟨u, v, rfl, rfl, rfl, hd, ht⟩ := one _ h
      obtain ⟨s, rfl, hs⟩ := hasTag_str ht
      have hm : s.size ≤ maxLen := by
        have : maxLen = 9223372036854775807 := rfl
        omega
      exact ⟨[.string s.data.toList], by simp [hu, hm], ⟨hd, rfl⟩, trivial⟩
    · rename_i n e hu
      split at h
      · rename_i hl
        have hl := Nat.eq_of_beq_eq_true hl
        have key : ∀ (is : List Nat) (ls : List Value), klI (kl P d e) (P.cellsOf e) us is = some ls → ∃ kss, is.mapM (fun i => P.keyLits d e ((vs.drop (i * P.cellsOf e)).take (P.cellsOf e))) = some kss ∧ RL ls kss.flatten := by
          intro is
          induction is with
          | nil =>
            intro ls h
            injection h with h
            subst h
            exact ⟨[], rfl, trivial⟩
          | cons i is ih =>
            intro ls h
            unfold klI at h
            split at h
            · rename_i a ha
              split at h
              · rename_i b hb
                injection h with h
                subst h
                obtain ⟨ks, h1, h2⟩ := kl_spec d e _ _ _ ha (All.drop hA (i * P.cellsOf e) (P.cellsOf e))
                obtain ⟨kss, h3, h4⟩ := ih b hb
                exact ⟨ks :: kss, by rw [List.mapM_cons, h1, h3]; rfl, h2.append h4⟩
              · cases h
            · cases h
        obtain ⟨kss, h1, h2⟩ := key _ _ h
        exact ⟨kss.flatten, by simp only [hu]; rw [if_pos (by rw [← hlen]; exact hl), h1]; rfl, h2⟩
      · cases h
    · rename_i fs hu
      split at h
      · rename_i hl hnm
        have hl := Nat.eq_of_beq_eq_true hl
        have key : ∀ (is : List Field) (ls : List Value), klF P (kl P d) us is = some ls → ∃ kss, is.mapM (fun f => P.keyLits d f.type ((vs.drop f.offset).take (P.cellsOf f.type))) = some kss ∧ RL ls kss.flatten := by
          intro is
          induction is with
          | nil =>
            intro ls h
            injection h with h
            subst h
            exact ⟨[], rfl, trivial⟩
          | cons i is ih =>
            intro ls h
            unfold klF at h
            split at h
            · rename_i a ha
              split at h
              · rename_i b hb
                injection h with h
                subst h
                obtain ⟨ks, h1, h2⟩ := kl_spec d _ _ _ _ ha (All.drop hA i.offset (P.cellsOf i.type))
                obtain ⟨kss, h3, h4⟩ := ih b hb
                exact ⟨ks :: kss, by rw [List.mapM_cons, h1, h3]; rfl, h2.append h4⟩
              · cases h
            · cases h
        obtain ⟨kss, h1, h2⟩ := key _ _ h
        exact ⟨kss.flatten, by simp only [hu]; rw [if_pos ⟨by rw [← hlen]; exact hl, hnm⟩, h1]; rfl, h2⟩
      · cases h
    · cases h
/-- two bools compared -/
def tokBB (u v : Value) : Option Value := match tagN u, tagN v with
  | some 8, some 8 => some (.iface 968 (.agg ⟨[u, v]⟩))
  | _, _ => none
theorem tokBB_sound [Ts] {u v t X Y : Value} (h : tokBB u v = some t) (hu : De u X) (hv : De v Y) : ∃ a b, X = .bool a ∧ Y = .bool b ∧ De t (.bool (a == b)) := by
  unfold tokBB at h
  split at h
  · rename_i h1 h2
    injection h with h
    subst h
    obtain ⟨a, rfl⟩ := tagN_bool h1 hu
    obtain ⟨b, rfl⟩ := tagN_bool h2 hv
    exact ⟨a, b, rfl, rfl, (Ts.bin 968 u v (.bool a) (.bool b) (.bool (a == b)) hu hv (by simp [sem2, bOf]) rfl).symm⟩
  · cases h
/-- whether two scalars are equal, as far as it is known -/
def askE (F : Fs) (u v : Value) : Option Bool := match teq 40 u v with
  | true => some true
  | false => match ask F u, ask F v with
    | .bool true, .bool true => some true
    | .bool false, .bool false => some true
    | .bool _, .bool _ => some false
    | u, v => match tokBB u v with
      | some t => match ask F t with
        | .bool true => some true
        | .bool false => some false
        | _ => none
      | none => match isTok u || isTok v with
      | true => match tokB .eql u v with
        | some t => match ask F t with
          | .bool true => some true
          | .bool false => some false
          | _ => none
        | none => none
      | false => match u, v with
        | .int j a, .int k b => match kEq j k with
          | true => some (iEq a b)
          | false => none
        | .string a, .string b => some (bEq a.data.toList b.data.toList)
        | _, _ => none
def eqAll (F : Fs) : List Value → List Value → Option Bool
  | [], [] => some true
  | u :: l, v :: q => match askE F u v with
    | some true => eqAll F l q
    | some false => some false
    | none => none
  | _, _ => none
omit [Th] in
theorem valOf_inj {j k : Lit} (hj : isSc j = true) (hk : isSc k = true) (h : valOf j = valOf k) : j = k := by
  cases j <;> cases k <;> simp_all [valOf, isSc]
theorem ask_De [Ts] {F : Fs} (hF : SatL F) {u X : Value} (h : De u X) : De (ask F u) X := ask_sound hF h
theorem askE_spec [Ts] {F : Fs} (hF : SatL F) {u v : Value} {j k : Lit} {b : Bool} (hu : De u (valOf j)) (hv : De v (valOf k)) (hj : isSc j = true) (hk : isSc k = true) (h : askE F u v = some b) : b = true ↔ j = k := by
  unfold askE at h
  split at h
  · rename_i he
    injection h with h
    subst h
    have := teq_eq _ _ _ he
    subst this
    exact ⟨fun _ => valOf_inj hj hk (hv.one hu), fun _ => rfl⟩
  · have hu2 := ask_De hF hu
    have hv2 := ask_De hF hv
    have inj : j = k ↔ valOf j = valOf k := ⟨fun h => by rw [h], valOf_inj hj hk⟩
    split at h
    · rename_i e1 e2
      injection h with h
      subst h
      rw [e1] at hu2
      rw [e2] at hv2
      rw [inj, hu2.2, hv2.2]
      simp
    · rename_i e1 e2
      injection h with h
      subst h
      rw [e1] at hu2
      rw [e2] at hv2
      rw [inj, hu2.2, hv2.2]
      simp
    · rename_i b1 b2 n1 n2 e1 e2
      injection h with h
      subst h
      rw [e1] at hu2
      rw [e2] at hv2
      rw [inj, hu2.2, hv2.2]
      cases b1 <;> cases b2 <;> simp_all
    · generalize ask F u = u' at h hu2
      generalize ask F v = v' at h hv2
      split at h
      · rename_i t ht
        obtain ⟨a, b, ea, eb, hd⟩ := tokBB_sound ht hu2 hv2
        have h3 := ask_sound hF hd
        rw [inj, ea, eb]
        split at h
        · rename_i e
          rw [e] at h3
          injection h with h
          have h4 : (Value.bool true) = .bool (a == b) := h3.2.symm
          injection h4 with h4
          subst h
          have := eq_of_beq h4.symm
          rw [this]
          simp
        · rename_i e
          rw [e] at h3
          injection h with h
          have h4 : (Value.bool false) = .bool (a == b) := h3.2.symm
          injection h4 with h4
          subst h
          constructor
          · intro h; cases h
          · intro h
            injection h with h
            rw [h] at h4
            simp at h4
        · cases h
      split at h
      · split at h
        · rename_i t ht
          obtain ⟨R, h1, h2⟩ := tokB_sound ht hu2 hv2
          have h3 := ask_sound hF h2
          have key : ∀ c, R = .bool c → (c = true ↔ j = k) := by
            intro c hc
            subst hc
            rw [inj]
            unfold sBin at h1
            split at h1
            · rename_i ek1 ek2
              split at h1
              · rename_i hkk
                have := kEq_eq hkk
                subst this
                injection h1 with h1
                injection h1 with h1
                rw [ek1, ek2, ← h1]
                simp
              · cases h1
            · rename_i a1 a2 ek1 ek2
              injection h1 with h1
              injection h1 with h1
              rw [ek1, ek2, ← h1]
              constructor
              · intro h
                have : a1.data.toList = a2.data.toList := by
                  have := eq_of_beq h
                  rw [← Go.Lib.toList_data, ← Go.Lib.toList_data]
                  exact this
                exact congrArg Value.string (ByteArray.ext (Array.ext' this))
              · intro h
                injection h with h
                rw [h]
                simp
            · cases h1
          split at h
          · rename_i e
            rw [e] at h3
            injection h with h
            subst h
            exact key _ h3.2
          · rename_i e
            rw [e] at h3
            injection h with h
            subst h
            exact key _ h3.2
          · cases h
        · cases h
      · split at h
        · rename_i a1 k1 a2 _ _ _ _
          split at h
          · rename_i hkk
            have := kEq_eq hkk
            subst this
            injection h with h
            subst h
            rw [inj, hu2.2, hv2.2, iEq_eq]
            simp
          · cases h
        · rename_i a1 a2 _ _ _ _
          injection h with h
          subst h
          rw [inj, hu2.2, hv2.2, bEq_eq]
          constructor
          · intro h
            exact congrArg Value.string (ByteArray.ext (Array.ext' (eq_of_beq h)))
          · intro h
            injection h with h
            rw [h]
            simp
        · cases h
theorem eqAll_spec [Ts] {F : Fs} (hF : SatL F) : ∀ {us vs : List Value} {ks qs : List Lit} {b : Bool}, RL us ks → RL vs qs → eqAll F us vs = some b → (b = true ↔ ks = qs)
  | [], [], [], [], b, _, _, h => by
    injection h with h
    subst h
    simp
  | [], [], _ :: _, _, _, h, _, _ => h.elim
  | [], [], [], _ :: _, _, _, h, _ => h.elim
  | [], _ :: _, _, _, _, _, _, h => by cases h
  | _ :: _, [], _, _, _, _, _, h => by cases h
  | _ :: _, _ :: _, [], _, _, h, _, _ => h.elim
  | _ :: _, _ :: _, _ :: _, [], _, _, h, _ => h.elim
  | u :: us, v :: vs, k :: ks, q :: qs, b, hu, hv, h => by
    unfold eqAll at h
    split at h
    · rename_i he
      have h1 := (askE_spec hF hu.1.1 hv.1.1 hu.1.2 hv.1.2 he).1 rfl
      subst h1
      rw [eqAll_spec hF hu.2 hv.2 h]
      simp
    · rename_i he
      injection h with h
      subst h
      have h1 := askE_spec hF hu.1.1 hv.1.1 hu.1.2 hv.1.2 he
      simp at h1
      simp [h1]
    · cases h
def cellsL : Value → List Value
  | .agg c => c.toList
  | v => [v]
def isAggV : Value → Bool
  | .agg _ => true
  | _ => false
def isRowT (P : Program) (T : TypeId) : Option Bool := match P.underlying T with
  | some (.struct _) => some true
  | some (.array _ _) => some true
  | some .bool => some false
  | _ => none
/-- '==' and '!=' -/
def tokEq (P : Program) (F : Fs) (a : Operand → Value) : Op → Option Value
  | .binOp op T x y _ => match isRowT P T, isAggV (a x), isAggV (a y), P.keyTypeAt 16 T, P.eqGuardType P.depth T with
    | some true, true, true, true, false => match Nat.beq (cellsL (a x)).length (P.cellsOf T), Nat.beq (cellsL (a y)).length (P.cellsOf T), kl P 16 T (cellsL (a x)), kl P 16 T (cellsL (a y)) with
      | true, true, some us, some vs => match op, eqAll F us vs with
        | .eql, some b => some (.bool b)
        | .neq, some true => some (.bool false)
        | .neq, some false => some (.bool true)
        | _, _ => none
      | _, _, _, _ => none
    | some false, false, false, true, _ => match kl P 16 T [a x], kl P 16 T [a y] with
      | some us, some vs => match op, eqAll F us vs with
        | .eql, some b => some (.bool b)
        | .neq, some true => some (.bool false)
        | .neq, some false => some (.bool true)
        | _, _ => none
      | _, _ => none
    | _, _, _, _, _ => none
  | _ => none
theorem V3.agg {r : List Nat} {u X : Value} (h : V3 r u X) (k : isAggV u = true) : ∃ us vs : Array Value, u = .agg us ∧ X = .agg vs ∧ All (V1 r) us vs := by
  cases u with
  | agg us =>
    obtain ⟨vs, rfl, hv⟩ := h
    exact ⟨us, vs, rfl, rfl, hv⟩
  | _ => cases k
omit [Th] in
theorem run_next {s : Sem Value} {v : Value} {w : World} (h : s.run P w = .ok v w) : (do pure (Next.value (← s)) : Sem Next).run P w = .ok (.value v) w := by
  show (s >>= fun q => (pure (Next.value q) : Sem Next)).run P w = _
  rw [Sem.run_bind, h]
  rfl
theorem tokEq_sound [Ts] {F : Fs} (hF : SatL F) {r : List Nat} {a b : Operand → Value} {o : Oper} {v : Value} (e : tokEq P F a o.op = some v) (h : ∀ x ∈ o.op.operands, V3 r (a x) (b x)) :
    ∃ v', V3 r v v' ∧ ∀ w, (execOp b o).run P w = .ok (.value v') w := by
  obtain ⟨dst, op, type, pos, after, guard⟩ := o
  simp only at e h ⊢
  unfold tokEq at e
  split at e
  · rename_i bop T x y yt
    have hx := h x (by simp [Op.operands])
    have hy := h y (by simp [Op.operands])
    split at e
    · rename_i hrow hax hay hkt hg
      obtain ⟨us, us', e1, e2, hA⟩ := hx.agg hax
      obtain ⟨vs, vs', f1, f2, hB⟩ := hy.agg hay
      rw [e1, f1] at e
      split at e
      · rename_i ls qs n1 n2 k1 k2
        have n1 := Nat.eq_of_beq_eq_true n1
        have n2 := Nat.eq_of_beq_eq_true n2
        have hA' : All (V1 r) (cellsL (.agg us)).toArray us'.toList.toArray := by simpa [cellsL] using hA
        have hB' : All (V1 r) (cellsL (.agg vs)).toArray vs'.toList.toArray := by simpa [cellsL] using hB
        obtain ⟨la, g1, g2⟩ := kl_spec _ _ _ _ _ k1 hA'
        obtain ⟨lb, g3, g4⟩ := kl_spec _ _ _ _ _ k2 hB'
        have fm : ∀ cs : Array Value, cs.size = P.cellsOf T → (Value.agg cs).formed P T = true := by
          intro cs hcs
          unfold isRowT at hrow
          unfold Value.formed
          split at hrow <;> first
            | (rename_i hu; simp [hu, hcs]; done)
            | cases hrow
        have s1 : us'.size = P.cellsOf T := by
          have := hA.1
          simp [cellsL] at n1
          omega
        have s2 : vs'.size = P.cellsOf T := by
          have := hB.1
          simp [cellsL] at n2
          omega
        have main : ∀ w, ∃ q : Bool, (Op.equalIn 10000 T (.agg us') (.agg vs')).run P w = .ok q w ∧ (q = true ↔ la = lb) := fun w =>
          run_equalIn_deep 9984 16 T hkt w 16 16 (.agg us') (.agg vs') la lb (fm _ s1) (fm _ s2) g1 g3
        have eqs : ∀ c, eqAll F ls qs = some c → ∀ w, (Op.equalIn 10000 T (.agg us') (.agg vs')).run P w = .ok c w := by
          intro c hc w
          obtain ⟨q, h1, h2⟩ := main w
          have h3 := eqAll_spec hF g2 g4 hc
          have : q = c := by
            cases q <;> cases c <;> simp_all
          rw [h1, this]
        have gd : ∀ w, (eqGuard bop T x y (.agg us') (.agg vs')).run P w = .ok () w := fun w => run_eqGuard_agg w bop T x y us' vs' hg
        have eql : ∀ c, bop = .eql → eqAll F ls qs = some c → ∀ w, (execOp b ⟨dst, .binOp bop T x y yt, type, pos, after, guard⟩).run P w = .ok (.value (.bool c)) w := by
          intro c hb hc w
          subst hb
          simp only [execOp, e2, f2]
          refine run_next ?_
          rw [Sem.run_bind, gd]
          show (binOp .eql T (.agg us') (.agg vs')).run P w = _
          rw [run_eql_struct, eqs c hc w]
          rfl
        have neq : ∀ c, bop = .neq → eqAll F ls qs = some c → ∀ w, (execOp b ⟨dst, .binOp bop T x y yt, type, pos, after, guard⟩).run P w = .ok (.value (.bool (!c))) w := by
          intro c hb hc w
          subst hb
          simp only [execOp, e2, f2]
          refine run_next ?_
          rw [Sem.run_bind, gd]
          show (binOp .neq T (.agg us') (.agg vs')).run P w = _
          rw [run_neq_struct, eqs c hc w]
          rfl
        split at e
        · rename_i c hc
          injection e with e
          subst e
          exact ⟨_, ⟨rfl, rfl⟩, eql c rfl hc⟩
        · rename_i hc
          injection e with e
          subst e
          exact ⟨_, ⟨rfl, rfl⟩, neq true rfl hc⟩
        · rename_i hc
          injection e with e
          subst e
          exact ⟨_, ⟨rfl, rfl⟩, neq false rfl hc⟩
        · cases e
      · cases e
    · rename_i hrow hax hay hkt
      have hu : P.underlying T = some .bool := by
        unfold isRowT at hrow
        split at hrow <;> first
          | assumption
          | (injection hrow with hrow; cases hrow)
          | cases hrow
      split at e
      · rename_i ls qs k1 k2
        have one : ∀ z ls, kl P 16 T [a z] = some ls → V3 r (a z) (b z) → ∃ c, b z = .bool c ∧ ls = [a z] ∧ De (a z) (.bool c) := by
          intro z ls hz hV
          unfold kl at hz
          simp only [hu, klO] at hz
          split at hz
          · rename_i hok
            injection hz with hz
            have hd : De (a z) (b z) := by
              unfold okTag at hok
              generalize a z = u at hok hV
              cases u <;> first
                | exact hV
                | (rename_i p n c; cases p <;> first | exact hV | cases hok)
                | cases hok
            obtain ⟨c, hc⟩ := hasTag_bool (okTag_spec hok hd)
            exact ⟨c, hc, hz.symm, by rw [← hc]; exact hd⟩
          · cases hz
        obtain ⟨p, hp, rfl, hdp⟩ := one x _ k1 hx
        obtain ⟨q, hq, rfl, hdq⟩ := one y _ k2 hy
        have main : ∀ c, eqAll F [a x] [a y] = some c → c = (p == q) := by
          intro c hc
          have h3 := eqAll_spec hF (us := [a x]) (vs := [a y]) (ks := [.bool p]) (qs := [.bool q]) ⟨⟨hdp, rfl⟩, trivial⟩ ⟨⟨hdq, rfl⟩, trivial⟩ hc
          cases c <;> cases p <;> cases q <;> first | rfl | (exfalso; simp at h3)
        have gd : ∀ w, (eqGuard bop T x y (.bool p) (.bool q)).run P w = .ok () w := fun w => by cases bop <;> simp [eqGuard]
        have run : ∀ w, (Op.equal T (.bool p) (.bool q)).run P w = .ok (p == q) w := fun w => run_equalIn_bool' w 9999 T p q hu
        split at e
        · rename_i c hc
          injection e with e
          subst e
          refine ⟨_, ⟨rfl, rfl⟩, fun w => ?_⟩
          simp only [execOp, hp, hq]
          refine run_next ?_
          rw [Sem.run_bind, gd]
          show (do pure (.bool (← Op.equal T (.bool p) (.bool q))) : Sem Value).run P w = _
          show ((Op.equal T (.bool p) (.bool q)) >>= fun z => (pure (.bool z) : Sem Value)).run P w = _
          rw [Sem.run_bind, run w, main c hc]
          rfl
        · rename_i hc
          injection e with e
          subst e
          refine ⟨_, ⟨rfl, rfl⟩, fun w => ?_⟩
          simp only [execOp, hp, hq]
          refine run_next ?_
          rw [Sem.run_bind, gd]
          show ((Op.equal T (.bool p) (.bool q)) >>= fun z => (pure (.bool (!z)) : Sem Value)).run P w = _
          rw [Sem.run_bind, run w, ← main true hc]
          rfl
        · rename_i hc
          injection e with e
          subst e
          refine ⟨_, ⟨rfl, rfl⟩, fun w => ?_⟩
          simp only [execOp, hp, hq]
          refine run_next ?_
          rw [Sem.run_bind, gd]
          show ((Op.equal T (.bool p) (.bool q)) >>= fun z => (pure (.bool (!z)) : Sem Value)).run P w = _
          rw [Sem.run_bind, run w, ← main false hc]
          rfl
        · cases e
      · cases e
    · cases e
  · cases e
end
end Go.Sx
