/-
  RUNS RECKONED AHEAD, part three: the operations that go the same way whatever numbers the blocks have. By an AI agent.
-/
import Derived.Test.YtpejbfdmiinokaaSyB
import GoSem.Dispatch
namespace Go.Sx
variable [Th]
section
variable {P : Program}
/-- a program of actions that asks the types alone -/
def Self (P : Program) {α : Type} (Φ : α → Prop) (s : Sem α) : Prop := ∀ r, SR P (fun _ a b => a = b ∧ Φ a) r s s
theorem Self.of {α : Type} {Φ : α → Prop} {a : α} (h : Φ a) : Self P Φ (Sem.pure a) := fun _ => ⟨a, rfl, rfl, h⟩
theorem SR.self {α γ δ : Type} {Φ : α → Prop} {RB : List Nat → γ → δ → Prop} {s : Sem α} {f : α → Sem γ} {g : α → Sem δ} {r : List Nat} (h : Self P Φ s)
    (k : ∀ r' a, Ext r r' → Φ a → SR P RB r' (f a) (g a)) : SR P RB r (s >>= f) (s >>= g) :=
  SR.bind s s r (h r) fun r' a b he hab => by
    obtain ⟨rfl, ha⟩ := hab
    exact k r' a he ha
theorem SR.then {α β γ δ : Type} {RA : List Nat → α → β → Prop} {RB : List Nat → γ → δ → Prop} {f : α → Sem γ} {g : β → Sem δ} {s : Sem α} {t : Sem β} {r : List Nat} (h : SR P RA r s t)
    (k : ∀ r' a b, Ext r r' → RA r' a b → SR P RB r' (f a) (g b)) : SR P RB r (s >>= f) (t >>= g) := SR.bind s t r h k
theorem SR.ret {α β : Type} {RA : List Nat → α → β → Prop} {a : α} {b : β} {r : List Nat} (h : RA r a b) : SR P RA r (pure a) (pure b) := ⟨b, rfl, h⟩
theorem SR.weaken {α β : Type} {RA RB : List Nat → α → β → Prop} {s : Sem α} {t : Sem β} {r : List Nat} (h : SR P RA r s t) (k : ∀ r' a b, Ext r r' → RA r' a b → RB r' a b) : SR P RB r s t := by
  have := SR.bind (f := Sem.pure) (g := Sem.pure) s t r h (fun r' a b he ha => SR.ret (k r' a b he ha))
  have e : ∀ {α : Type} (s : Sem α), s.bind Sem.pure = s := by
    intro α s
    induction s <;> simp only [Sem.bind] <;> first | rfl | (congr 1; first | assumption | (funext x; rename_i ih; exact ih x) | skip)
  rwa [e, e] at this
theorem self_typeInfo (t : TypeId) : Self P (fun i => P.info? t = some i) (typeInfo t) := fun r => by
  show SR P _ r (Sem.program fun p => (match p.info? t with | some i => pure i | none => stuck "no such type")) (Sem.program fun p => (match p.info? t with | some i => pure i | none => stuck "no such type"))
  refine ⟨_, rfl, ?_⟩
  dsimp only
  split
  · rename_i i hi
    exact ⟨i, rfl, rfl, hi⟩
  · trivial
theorem self_underlying (t : TypeId) : Self P (fun d => P.underlying t = some d) (underlying t) := fun r => by
  show SR P _ r (Sem.program fun p => (match p.underlying t with | some d => pure d | none => stuck "no such type")) (Sem.program fun p => (match p.underlying t with | some d => pure d | none => stuck "no such type"))
  refine ⟨_, rfl, ?_⟩
  dsimp only
  split
  · rename_i i hi
    exact ⟨i, rfl, rfl, hi⟩
  · trivial
theorem self_sizeOf (t : TypeId) : Self P (fun n => ∃ i, P.info? t = some i ∧ i.size = n) (sizeOf t) := fun _ =>
  SR.self (self_typeInfo t) fun _ a _ ha => SR.ret ⟨rfl, a, ha, rfl⟩
theorem self_zeroValue (t : TypeId) : Self P (fun z => ∃ i, P.info? t = some i ∧ i.zero = some z) (zeroValue t) := fun _ =>
  SR.self (self_typeInfo t) fun r i _ hi => by
    cases hz : i.zero with
    | none => trivial
    | some z => exact ⟨z, rfl, rfl, i, hi, hz⟩
theorem self_isAgg (t : TypeId) : Self P (fun _ => True) (isAgg t) := fun _ =>
  SR.self (self_underlying t) fun r d _ _ => by cases d <;> exact ⟨_, rfl, rfl, trivial⟩

omit [Th] in
theorem AR.add {r : List Nat} {a b : Addr} (h : AR r a b) (n : Nat) : AR r (a.add n) (b.add n) := by
  unfold Addr.add
  split
  · exact h
  · exact ⟨h.1, by simp [h.2.1], rfl⟩
theorem dry_V1 {r : List Nat} {u : Value} (h : dry u = true) : V1 r u u := by
  cases u with
  | func f a b =>
    simp [dry] at h
    obtain ⟨rfl, rfl⟩ := h
    exact ⟨_, _, rfl, All.nil, All.nil⟩
  | pointer a => cases a with
    | none => exact ⟨h, rfl⟩
    | some a => simp [dry] at h
  | slice a n c => cases a with
    | none => exact ⟨h, rfl⟩
    | some a => simp [dry] at h
  | iface i u => simp [dry] at h
  | _ => exact ⟨h, rfl⟩
theorem dry_all {r : List Nat} {c : Array Value} (h : c.all dry = true) : All (V1 r) c c := All.same fun x hx => dry_V1 (by
  rw [Array.all_eq_true_iff_forall_mem] at h
  exact h x hx)
theorem V2.cells {r : List Nat} {u v : Value} (h : V2 r u v) : All (V1 r) u.cells v.cells := by
  unfold V2 at h
  split at h
  · obtain ⟨a, rfl, ha⟩ := h
    exact ha
  · rename_i hn
    have hh := h.notAgg
    have e1 : u.cells = #[u] := by cases u <;> first | rfl | exact absurd rfl (hn _)
    have e2 : v.cells = #[v] := by cases v <;> first | rfl | exact absurd rfl (hh.2.2.1 _)
    rw [e1, e2]
    exact All.nil.push h
omit [Th] in
theorem AR.same {r s : List Nat} (h : Ext r s) {a b : Addr} (k : AR r a b) : AR s a b := k.ext h

theorem sr_newRow {r : List Nat} {c c' : Array Value} (T : TypeId) (h : All (V1 r) c c') : SR P (fun r' a b => AR r' a b) r (newRow T c) (newRow T c') :=
  ⟨c, c', T, _, rfl, rfl, h, fun b => ⟨⟨b, 0, none⟩, rfl, by simp [AR]⟩⟩
theorem sr_newVar {r : List Nat} {u v : Value} (T : TypeId) (h : V2 r u v) : SR P (fun r' a b => AR r' a b) r (newVar T u) (newVar T v) := sr_newRow T h.cells
theorem sr_load {r : List Nat} {a b : Addr} (h : AR r a b) : SR P V1 r (load a) (load b) := ⟨b, _, rfl, h, fun _ v' hv => ⟨v', rfl, hv⟩⟩
theorem sr_loadCellsFrom (n : Nat) : ∀ {r : List Nat} {a b : Addr} (i : Nat) {x y : Array Value}, AR r a b → All (V1 r) x y → SR P (fun r' x y => All (V1 r') x y) r (loadCellsFrom a i n x) (loadCellsFrom b i n y) := by
  induction n with
  | zero => intro r a b i x y _ h; exact SR.ret h
  | succ n ih =>
    intro r a b i x y ha h
    exact SR.then (sr_load (ha.add i)) fun r' u v he huv => ih (i + 1) (ha.ext he) ((h.mono fun _ _ => V1.ext he).push huv)
theorem sr_loadCells {r : List Nat} {a b : Addr} (n : Nat) (h : AR r a b) : SR P (fun r' x y => All (V1 r') x y) r (loadCells a n) (loadCells b n) := sr_loadCellsFrom n 0 h All.nil
theorem sr_loadVar {r : List Nat} {a b : Addr} (T : TypeId) (h : AR r a b) : SR P V2 r (loadVar T a) (loadVar T b) :=
  SR.self (self_isAgg T) fun r' g he _ => by
    cases g with
    | true => exact SR.self (self_sizeOf T) fun r2 n he2 _ => SR.then (sr_loadCells n ((h.ext he).ext he2)) fun _ x y _ hxy => SR.ret ⟨y, rfl, hxy⟩
    | false => exact SR.weaken (sr_load (h.ext he)) fun _ _ _ _ h => h.up
omit [Th] in
theorem All.cons {R : Value → Value → Prop} {x : Value} {l : List Value} {ys : Array Value} (h : All R (x :: l).toArray ys) : ∃ y l', ys = (y :: l').toArray ∧ R x y ∧ All R l.toArray l'.toArray := by
  obtain ⟨ys⟩ := ys
  cases ys with
  | nil => simp [All] at h
  | cons y l' =>
    refine ⟨y, l', rfl, h.2 0 x y (by simp) (by simp), by simpa using h.1, fun i u v hu hv => h.2 (i + 1) u v (by simpa using hu) (by simpa using hv)⟩
theorem sr_storeCells (l : List Value) : ∀ {r : List Nat} {a b : Addr} (i : Nat) {l' : List Value}, AR r a b → All (V1 r) l.toArray l'.toArray → SR P (fun _ _ _ => True) r (storeCells a l i) (storeCells b l' i) := by
  induction l with
  | nil =>
    intro r a b i l' _ h
    cases l' with
    | nil => exact SR.ret trivial
    | cons y l' => simp [All] at h
  | cons x l ih =>
    intro r a b i l' ha h
    obtain ⟨y, l2, e, hxy, hl⟩ := h.cons
    injection e with e
    subst e
    exact ⟨_, _, _, rfl, ha.add i, hxy, ih (i + 1) ha hl⟩
theorem sr_storeVar {r : List Nat} {a b : Addr} {u v : Value} (T : TypeId) (h : AR r a b) (hv : V2 r u v) : SR P (fun _ _ _ => True) r (storeVar T a u) (storeVar T b v) :=
  SR.self (self_sizeOf T) fun r' n he _ => by
    rw [hv.cells.1]
    split
    · trivial
    · exact sr_storeCells _ 0 (h.ext he) (by simpa using hv.cells.mono fun _ _ => V1.ext he)
theorem sr_sureAddr {r : List Nat} {u v : Value} (h : V2 r u v) : SR P AR r (Instr.sureAddr u) (Instr.sureAddr v) := by
  cases u with
  | pointer a => cases a with
    | none => trivial
    | some a =>
      obtain ⟨b, rfl, hb⟩ := h
      exact SR.ret hb
  | _ => trivial
theorem sr_asIntOf {r : List Nat} {u v : Value} (h : V2 r u v) : SR P (fun _ a b => a = b) r (asIntOf u) (asIntOf v) := by
  cases u with
  | int k n =>
    obtain ⟨-, rfl⟩ := h
    exact SR.ret rfl
  | pointer a => cases a <;> trivial
  | _ => trivial
theorem sr_asInt {r : List Nat} {u v : Value} (h : V2 r u v) : SR P (fun _ a b => a = b) r (asInt u) (asInt v) :=
  SR.then (sr_asIntOf h) fun _ a b _ hab => by subst hab; exact SR.ret rfl
theorem sr_asBool {r : List Nat} {u v : Value} (h : V2 r u v) : SR P (fun _ a b => a = b) r (asBool u) (asBool v) := by
  cases u with
  | bool k =>
    obtain ⟨-, rfl⟩ := h
    exact SR.ret rfl
  | _ => trivial
theorem sr_asAgg {r : List Nat} {u v : Value} (h : V2 r u v) : SR P (fun r' a b => All (V1 r') a b) r (asAgg u) (asAgg v) := by
  cases u with
  | agg k =>
    obtain ⟨a, rfl, ha⟩ := h
    exact SR.ret ha
  | _ => trivial

/-- what an operation comes to -/
def NR (r : List Nat) : Next → Next → Prop
  | .value u, n => ∃ v, n = .value v ∧ V3 r u v
  | .skip, n => n = .skip
  | .enter f a, n => ∃ b, n = .enter f b ∧ All (V2 r) a b
  | _, _ => False
theorem sr_v {r : List Nat} {s t : Sem Value} (h : SR P V2 r s t) : SR P NR r (do pure (.value (← s))) (do pure (.value (← t))) :=
  SR.then h fun _ _ b _ hab => SR.ret ⟨b, rfl, hab.up⟩
theorem sr_v3 {r : List Nat} {s t : Sem Value} (h : SR P V3 r s t) : SR P NR r (do pure (.value (← s))) (do pure (.value (← t))) :=
  SR.then h fun _ _ b _ hab => SR.ret ⟨b, rfl, hab⟩
theorem sr_u {r : List Nat} {s t : Sem Unit} (h : SR P (fun _ _ _ => True) r s t) : SR P NR r (do s; pure .skip) (do t; pure .skip) :=
  SR.then h fun _ _ _ _ _ => SR.ret rfl

/-- the zero value of a type holds no address -/
def dryZero (P : Program) (t : TypeId) : Bool := match (P.info? t).bind (·.zero) with
  | some z => z.cells.all dry
  | none => false
theorem sr_alloc {r : List Nat} (T : TypeId) (h : dryZero P T = true) : SR P V2 r (Instr.alloc T true (.tuple #[])) (Instr.alloc T true (.tuple #[])) :=
  SR.self (self_zeroValue T) fun r' z he ⟨i, hi, hz⟩ => by
    have hd : z.cells.all dry = true := by
      unfold dryZero at h
      rw [hi] at h
      simp only [Option.bind_some, hz] at h
      exact h
    exact SR.then (sr_newRow T (dry_all hd)) fun _ _ b _ hab => SR.ret ⟨b, rfl, hab⟩
theorem sr_box {r : List Nat} {u v : Value} (T : TypeId) (h : V2 r u v) : SR P V2 r (Instr.box T u) (Instr.box T v) :=
  SR.then (sr_newVar T h) fun _ _ b _ hab => SR.ret ⟨b, rfl, hab⟩
theorem sr_loadAt {r : List Nat} {u v : Value} (T : TypeId) (h : V2 r u v) : SR P V2 r (Instr.loadAt T u) (Instr.loadAt T v) :=
  SR.then (sr_sureAddr h) fun _ _ _ _ hab => sr_loadVar T hab
theorem sr_storeAt {r : List Nat} {u v x y : Value} (T : TypeId) (h : V2 r u v) (hx : V2 r x y) : SR P (fun _ _ _ => True) r (Instr.storeAt T u x) (Instr.storeAt T v y) :=
  SR.then (sr_sureAddr h) fun _ _ _ he hab => sr_storeVar T hab (hx.ext he)
/-- the field has cells -/
def wideField (P : Program) (s : TypeId) (f : Nat) : Bool := match P.underlying s with
  | some (.struct fs) => match fs[f]? with
    | some x => match P.info? x.type with
      | some i => !Nat.beq i.size 0
      | none => false
    | none => false
  | _ => false
theorem sr_fieldAt {r : List Nat} {u v : Value} (T : TypeId) (f : Nat) (hw : wideField P T f = true) (h : V2 r u v) : SR P V2 r (Instr.fieldAt T u f) (Instr.fieldAt T v f) :=
  SR.self (self_underlying T) fun r' d he hd => by
    unfold wideField at hw
    rw [hd] at hw
    cases d with
    | struct fs =>
      simp only at hw
      dsimp only
      cases hf : fs[f]? with
      | none => trivial
      | some x =>
        rw [hf] at hw
        simp only at hw
        dsimp only
        refine SR.then (sr_sureAddr (h.ext he)) fun r2 a b he2 hab => SR.then (RA := AR) (SR.self (self_sizeOf x.type) fun r3 n he3 ⟨i, hi, hn⟩ => ?_) fun r3 a b _ hab => SR.ret ⟨b, rfl, hab⟩
        rw [hi] at hw
        have hne : n ≠ 0 := by
          intro e
          simp [hn, e] at hw
        rw [if_neg hne, if_neg hne]
        exact SR.ret ((hab.ext he3).add _)
    | _ => trivial
end
end Go.Sx
