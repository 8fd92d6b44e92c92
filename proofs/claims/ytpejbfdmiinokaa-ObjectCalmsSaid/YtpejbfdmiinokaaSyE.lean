/-
  RUNS RECKONED AHEAD, part five: one operation. By an AI agent.
-/
import Derived.Test.YtpejbfdmiinokaaSyD2
import GoSem.Builtin.Copy
namespace Go.Sx
variable [Th]
section
variable {P : Program}
def nt : Value → Bool
  | .tuple _ => false
  | .map _ => false
  | _ => true
theorem V3.nt {r : List Nat} {u v : Value} (h : V3 r u v) (k : nt u = true) : V2 r u v := by
  cases u with
  | tuple a => cases k
  | map a => cases k
  | _ => exact h
/-- no address, in an aggregate neither -/
def still : Value → Bool
  | .agg a => a.all dry
  | v => dry v
def still3 : Value → Bool
  | .tuple a => a.all still
  | v => still v
theorem dry_eq {r : List Nat} {u v : Value} (h : V1 r u v) (k : dry u = true) : v = u := by
  cases u with
  | func f a b =>
    simp [dry] at k
    obtain ⟨rfl, rfl⟩ := k
    obtain ⟨a', b', rfl, ha, hb⟩ := h
    have e1 : a' = #[] := by simpa using ha.1.symm
    have e2 : b' = #[] := by simpa using hb.1.symm
    rw [e1, e2]
  | pointer a => cases a with
    | none => exact h.2
    | some a => simp [dry] at k
  | slice a n c => cases a with
    | none => exact h.2
    | some a => simp [dry] at k
  | iface i u => simp [dry] at k
  | _ => exact h.2
omit [Th] in
theorem All.eq {R : Value → Value → Prop} {xs ys : Array Value} (h : All R xs ys) (k : ∀ u v, u ∈ xs → R u v → v = u) : ys = xs := by
  apply Array.ext h.1.symm
  intro i hi hj
  exact k _ _ (Array.getElem_mem hj) (h.2 i _ _ (Array.getElem?_eq_getElem hj) (Array.getElem?_eq_getElem hi))
theorem still_eq {r : List Nat} {u v : Value} (h : V2 r u v) (k : still u = true) : v = u := by
  cases u with
  | agg a =>
    obtain ⟨b, rfl, hb⟩ := h
    have : b = a := hb.eq fun x y hx hxy => dry_eq hxy (by
      simp only [still, Array.all_eq_true_iff_forall_mem] at k
      exact k x hx)
    rw [this]
  | _ => exact dry_eq (r := r) h k
theorem still3_eq {r : List Nat} {u v : Value} (h : V3 r u v) (k : still3 u = true) : v = u := by
  cases u with
  | tuple a =>
    obtain ⟨b, rfl, hb⟩ := h
    have : b = a := hb.eq fun x y hx hxy => still_eq hxy (by
      simp only [still3, Array.all_eq_true_iff_forall_mem] at k
      exact k x hx)
    rw [this]
  | map a => cases k
  | _ => exact still_eq (r := r) h k
theorem still_V2 {r : List Nat} {u : Value} (k : still u = true) : V2 r u u := by
  cases u with
  | agg a => exact ⟨a, rfl, dry_all k⟩
  | _ => exact V1.up (dry_V1 (r := r) (show dry _ = true from k))
theorem still3_V3 {r : List Nat} {u : Value} (k : still3 u = true) : V3 r u u := by
  cases u with
  | tuple a => exact ⟨a, rfl, All.same fun x hx => still_V2 (by
      simp only [still3, Array.all_eq_true_iff_forall_mem] at k
      exact k x hx)⟩
  | _ => exact V2.up (still_V2 (r := r) (show still _ = true from k))
def lvl0 : Value → Bool
  | .agg _ | .tuple _ | .map _ => false
  | .func _ a b => a.isEmpty && b.isEmpty
  | _ => true
theorem V3.lvl0 {r : List Nat} {u v : Value} (h : V3 r u v) (k : lvl0 u = true) : V0 r u v := by
  cases u with
  | agg a => cases k
  | tuple a => cases k
  | map a => cases k
  | func f a b =>
    simp [Sx.lvl0] at k
    obtain ⟨rfl, rfl⟩ := k
    have := dry_eq (u := .func _ #[] #[]) (show V1 r (.func _ #[] #[]) v from h) rfl
    subst this
    exact ⟨by simp [dry], rfl⟩
  | _ => exact h

/-- an operation's answer that no world bears on -/
def ans (P : Program) {α : Type} : Sem α → Option α
  | .pure a => some a
  | .program k => ans P (k P)
  | .mark _ k => ans P k
  | _ => none
omit [Th] in
theorem ans_run {α : Type} (w : World) : ∀ (s : Sem α) (a : α), ans P s = some a → s.run P w = .ok a w := by
  intro s
  induction s with
  | pure a => intro b h; injection h with h; subst h; rfl
  | program k ih => intro b h; exact ih P b h
  | mark m k ih => intro b h; exact ih b h
  | _ => intro b h; cases h

/-- clear of a row -/
def okClear (P : Program) (ts : Array TypeId) (u : Value) : Bool := match ts[0]?, u with
  | some t, .slice (some _) (_ + 1) _ => match P.underlying t with
    | some (.slice e) => dryZero P e
    | _ => false
  | _, _ => false
theorem sr_clear {r : List Nat} {u v : Value} (ts : Array TypeId) (ty : TypeId) (hk : okClear P ts u = true) (h : V2 r u v) : SR P V3 r (Builtin.clear_ ts ty #[u]) (Builtin.clear_ ts ty #[v]) := by
  unfold okClear at hk
  split at hk
  case h_2 => cases hk
  rename_i t a n c ht
  split at hk
  case h_2 => cases hk
  rename_i e hd
  obtain ⟨b, c', rfl, hb, -⟩ := h
  unfold Builtin.clear_
  simp only [ht, List.getElem?_toArray, List.getElem?_cons_zero]
  refine SR.self (self_underlying t) fun r1 d he hd1 => ?_
  rw [hd] at hd1
  injection hd1 with hd1
  subst hd1
  refine SR.self (self_zeroValue e) fun r2 z he2 ⟨i, hi, hz⟩ => ?_
  have hdz : z.cells.all dry = true := by
    unfold dryZero at hk
    rw [hi] at hk
    simp only [Option.bind_some, hz] at hk
    exact hk
  have hc : All (V1 r2) (Builtin.zeroCells z.cells (n + 1)) (Builtin.zeroCells z.cells (n + 1)) := dry_all (dry_range hdz _)
  exact SR.then (sr_storeCells _ 0 (((hb.ar (.inl (Nat.succ_pos _))).ext he).ext he2) (by simpa using hc)) fun _ _ _ _ _ => SR.ret ⟨#[], rfl, All.nil⟩
def opd (G : Nat) : Operand → Bool
  | .global g => Nat.blt g G
  | .const v => still v
  | _ => true
/-- operations of part three and four -/
def okOp (P : Program) (e : Operand → Value) : Op → Bool
  | .move _ | .assign _ | .extract _ _ | .pick _ _ _ => true
  | .alloc T => dryZero P T
  | .box _ x => nt (e x)
  | .load _ x => nt (e x)
  | .store _ a x => nt (e a) && nt (e x)
  | .fieldAddr s x f => wideField P s f && nt (e x)
  | .indexAddr _ x i => nt (e x) && nt (e i)
  | .slice T x l h m => capOk P T (e x) && nt (e x) && l.all (fun y => nt (e y)) && h.all (fun y => nt (e y)) && m.all (fun y => nt (e y))
  | .field _ x _ => nt (e x)
  | .build T ps => dryZ P T && ps.all (fun p => nt (e p.2))
  | .buildSlice T n ps => okSliceLit P T n && ps.all (fun p => nt (e p.2))
  | .index _ x i => nt (e x) && nt (e i)
  | .makeSlice T l c => okMake P T (e l) (e c)
  | .makeFunc _ a b => a.all (fun y => lvl0 (e y)) && b.all (fun y => lvl0 (e y))
  | .call { callee := .builtin .len, args := ⟨[x]⟩, .. } => nt (e x)
  | .call { callee := .builtin .clear, args := ⟨[x]⟩, argTypes := ts } => okClear P ts (e x)
  | .call { callee := .builtin .copy, args := ⟨[x, y]⟩, .. } => (nt (e x) && nt (e y)) && (fixB (e x) && fixB (e y))
  | .nilCheck x => match e x with
    | .pointer _ => true
    | .func (.func _) _ _ => true
    | _ => false
  | _ => false
theorem VO.map {r : List Nat} {e f : Operand → Value} {x : Option Operand} (h : ∀ y, x = some y → V3 r (e y) (f y)) (k : x.all (fun y => nt (e y)) = true) : VO r (x.map e) (x.map f) := by
  cases x with
  | none => rfl
  | some y => exact ⟨_, rfl, (h y rfl).nt (by simpa using k)⟩
theorem sr_exec {r : List Nat} (o : Oper) (e f : Operand → Value) (h : ∀ x ∈ o.op.operands, V3 r (e x) (f x)) (k : okOp P e o.op = true) : SR P NR r (execOp e o) (execOp f o) := by
  obtain ⟨dst, op, type, pos, after, guard⟩ := o
  cases op <;> simp only [okOp, Bool.and_eq_true, Bool.false_eq_true] at k <;> simp only [Op.operands] at h <;> simp only [execOp]
  case move x => exact SR.ret ⟨_, rfl, h x (by simp)⟩
  case assign x => exact SR.ret ⟨_, rfl, h x (by simp)⟩
  case pick c a b =>
    have hc := h c (by simp)
    have ha := h a (by simp)
    have hb := h b (by simp)
    generalize e c = u at hc
    generalize f c = v at hc
    cases u with
    | bool b' =>
      obtain ⟨-, rfl⟩ := hc
      cases b' <;> exact SR.ret ⟨_, rfl, by assumption⟩
    | _ => trivial
  case alloc T => exact sr_v (sr_alloc T k)
  case box T x => exact sr_v (sr_box T ((h x (by simp)).nt k))
  case load T x => exact sr_v (sr_loadAt T ((h x (by simp)).nt k))
  case store T a x => exact sr_u (sr_storeAt T ((h a (by simp)).nt k.1) ((h x (by simp)).nt k.2))
  case nilCheck x =>
    have hx := h x (by simp)
    generalize e x = u at hx k
    generalize f x = v at hx
    cases u with
    | pointer a => cases a with
      | none =>
        obtain ⟨-, rfl⟩ := hx
        exact ⟨_, rfl, trivial⟩
      | some a =>
        obtain ⟨b, rfl, hb⟩ := hx
        exact SR.ret ⟨_, rfl, b, rfl, hb⟩
    | func g a b => cases g with
      | func g =>
        obtain ⟨a', b', rfl, hab⟩ := hx
        exact SR.ret ⟨_, rfl, a', b', rfl, hab⟩
      | _ => cases k
    | _ => cases k
  case makeFunc g a b =>
    refine sr_v3 (SR.ret ⟨_, _, rfl, ?_, ?_⟩)
    · refine All.map fun x hx => (h x (by simp [hx])).lvl0 ?_
      rw [Array.all_eq_true_iff_forall_mem] at k
      exact k.1 x hx
    · refine All.map fun x hx => (h x (by simp [hx])).lvl0 ?_
      have k2 := k.2
      rw [Array.all_eq_true_iff_forall_mem] at k2
      exact k2 x hx
  case slice T x l hh m =>
    obtain ⟨⟨⟨⟨k0, k1⟩, k2⟩, k3⟩, k4⟩ := k
    exact sr_v (sr_sliceAt T ((h x (by simp)).nt k1) (VO.map (fun y hy => h y (by simp [hy])) k2) (VO.map (fun y hy => h y (by simp [hy])) k3) (VO.map (fun y hy => h y (by simp [hy])) k4) k0)
  case fieldAddr T x g => exact sr_v (sr_fieldAt T g k.1 ((h x (by simp)).nt k.2))
  case build T ps =>
    refine sr_v (sr_build T ?_ k.1)
    have k2 := k.2
    rw [Array.all_eq_true_iff_forall_mem] at k2
    simpa using pr_map (r := r) (e := e) (f := f) ps.toList fun p hp => (h p.2 (by simpa using ⟨p.1, by simpa using hp⟩)).nt (k2 p (by simpa using hp))
  case buildSlice T n ps =>
    refine sr_v (sr_buildSlice T n ?_ k.1)
    have k2 := k.2
    rw [Array.all_eq_true_iff_forall_mem] at k2
    simpa using pr_map (r := r) (e := e) (f := f) ps.toList fun p hp => (h p.2 (by simpa using ⟨p.1, by simpa using hp⟩)).nt (k2 p (by simpa using hp))
  case makeSlice T l c =>
    have hl := h l (by simp)
    have hc := h c (by simp)
    have key : f l = e l ∧ f c = e c := by
      revert k hl hc
      generalize e l = u
      generalize e c = v
      intro k hl hc
      cases u with
      | int k1 n1 => cases v with
        | int k2 n2 =>
          obtain ⟨-, e1⟩ := hl
          obtain ⟨-, e2⟩ := hc
          exact ⟨e1, e2⟩
        | _ => simp [okMake] at k
      | _ => simp [okMake] at k
    rw [key.1, key.2]
    exact sr_v (sr_makeSlice T _ _ k)
  case field T x g => exact sr_v (sr_field T g ((h x (by simp)).nt k))
  case indexAddr T x i => exact sr_v (sr_indexAt T ((h x (by simp)).nt k.1) ((h i (by simp)).nt k.2))
  case index T x i => exact sr_v (sr_index T ((h x (by simp)).nt k.1) ((h i (by simp)).nt k.2))
  case extract x i => exact sr_v (sr_extract i (h x (by simp)))
  case call c =>
    obtain ⟨callee, args, ts⟩ := c
    cases callee with
    | builtin b => cases b with
      | len =>
        obtain ⟨args⟩ := args
        match args, k with
        | [x], k =>
          have hx := (h x (by simp [Call.operands])).nt (by simpa using k)
          obtain ⟨d, hd⟩ : ∃ d, ∀ g : Operand → Value, resolve g ⟨.builtin .len, ⟨[x]⟩, ts⟩ type = pure ⟨.builtin .len ts type d, #[g x]⟩ := ⟨_, fun g => by simp only [resolve, List.map_toArray, List.map_cons, List.map_nil]; rfl⟩
          rw [hd, hd]
          exact sr_v (sr_len ts type hx)
      | copy =>
        obtain ⟨args⟩ := args
        match args, k with
        | [x, y], k =>
          simp only [Bool.and_eq_true] at k
          have hx := (h x (by simp [Call.operands])).nt k.1.1
          have hy := (h y (by simp [Call.operands])).nt k.1.2
          obtain ⟨d, hd⟩ : ∃ d, ∀ g : Operand → Value, resolve g ⟨.builtin .copy, ⟨[x, y]⟩, ts⟩ type = pure ⟨.builtin .copy ts type d, #[g x, g y]⟩ := ⟨_, fun g => by simp only [resolve, List.map_toArray, List.map_cons, List.map_nil]; rfl⟩
          rw [hd, hd]
          exact sr_v (sr_copy ts type k.2.1 k.2.2 hx hy)
      | clear =>
        obtain ⟨args⟩ := args
        match args, k with
        | [x], k =>
          have hx := (h x (by simp [Call.operands])).nt (by
            have k : okClear P ts (e x) = true := k
            unfold okClear at k
            split at k
            · rename_i hex
              rw [hex]
              rfl
            · cases k)
          obtain ⟨d, hd⟩ : ∃ d, ∀ g : Operand → Value, resolve g ⟨.builtin .clear, ⟨[x]⟩, ts⟩ type = pure ⟨.builtin .clear ts type d, #[g x]⟩ := ⟨_, fun g => by simp only [resolve, List.map_toArray, List.map_cons, List.map_nil]; rfl⟩
          rw [hd, hd]
          exact sr_v3 (sr_clear ts type k hx)
      | _ => cases k
    | _ => cases k
end
end Go.Sx
