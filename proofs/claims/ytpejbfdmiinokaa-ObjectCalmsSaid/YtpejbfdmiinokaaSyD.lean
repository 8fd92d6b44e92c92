/-
  RUNS RECKONED AHEAD, part four: more operations. By an AI agent.
-/
import Derived.Test.YtpejbfdmiinokaaSyC
namespace Go.Sx
variable [Th]
section
variable {P : Program}
theorem SR.never {α : Type} {RA : List Nat → α → α → Prop} {s : Sem α} {r : List Nat} (h : Self P (fun _ => False) s) : SR P RA r s s := SR.weaken (h r) fun _ _ _ _ h => h.2.elim
theorem self_boundsPanic {α : Type} (k : IntKind) (x y : Int) (c : BoundsCode) : Self P (fun _ => False) (boundsPanic k x y c : Sem α) := fun r => by
  unfold boundsPanic
  split
  · trivial
  · exact ⟨_, rfl, trivial⟩
theorem self_dies {α : Type} (c : Prop) [Decidable c] (g : Unsupported) (k : IntKind) (x y : Int) (q : BoundsCode) : Self P (fun _ => False) (if c then unsupported g else boundsPanic k x y q : Sem α) := fun r => by
  split
  · trivial
  · exact self_boundsPanic _ _ _ _ r
theorem sr_indexAt {r : List Nat} {u v x y : Value} (T : TypeId) (h : V2 r u v) (hx : V2 r x y) : SR P V2 r (Instr.indexAt T u x) (Instr.indexAt T v y) := by
  refine SR.then (sr_asIntOf hx) fun r1 a b he hab => ?_
  subst hab
  obtain ⟨k, i⟩ := a
  have h := h.ext he
  clear hx he
  refine SR.self (self_underlying T) fun r2 d he hd => ?_
  have h := h.ext he
  clear he
  cases d with
  | array n e =>
    refine SR.then (sr_sureAddr h) fun r3 p q he3 hq => SR.self (self_underlying T) fun r4 d he4 hd => ?_
    by_cases hc : 0 ≤ i ∧ i < n
    · simp only [if_pos hc]
      exact SR.self (self_sizeOf e) fun r5 n he5 _ => SR.ret ⟨_, rfl, ((hq.ext he4).ext he5).add _⟩
    · simp only [if_neg hc]
      exact SR.never (self_dies _ _ _ _ _ _)
  | slice e =>
    cases u with
    | slice a n c => cases a with
      | none =>
        obtain ⟨-, rfl⟩ := h
        refine SR.self (Φ := fun z => z = (none, n, e)) (Self.of rfl) fun r3 z he3 hz => ?_
        subst hz
        refine SR.self (self_underlying T) fun r4 d he4 hd => ?_
        show SR P V2 r4 (boundsPanic k i 0 .index) (boundsPanic k i 0 .index)
        exact SR.never (self_boundsPanic _ _ _ _)
      | some a =>
        obtain ⟨b, c', rfl, hb, -⟩ := h
        rcases Nat.eq_zero_or_pos n with rfl | hn
        · refine SR.then (RA := fun _ (x y : Option Addr × Nat × TypeId) => ∃ p q, x = (some p, 0, e) ∧ y = (some q, 0, e)) (SR.ret ⟨_, _, rfl, rfl⟩) fun r3 z z' he3 hz => ?_
          obtain ⟨a, b, rfl, rfl⟩ := hz
          refine SR.self (self_underlying T) fun r4 d he4 hd => ?_
          have hc : ¬ (0 ≤ i ∧ i < ((0 : Nat) : Int)) := by omega
          simp only [if_neg hc]
          exact SR.never (self_dies _ _ _ _ _ _)
        have hb := hb.ar (.inl hn)
        refine SR.then (RA := fun r (x y : Option Addr × Nat × TypeId) => ∃ p q, x = (some p, n, e) ∧ y = (some q, n, e) ∧ AR r p q) (SR.ret ⟨_, _, rfl, rfl, hb⟩) fun r3 z z' he3 hz => ?_
        obtain ⟨a, b, rfl, rfl, hb⟩ := hz
        refine SR.self (self_underlying T) fun r4 d he4 hd => ?_
        by_cases hc : 0 ≤ i ∧ i < n
        · simp only [if_pos hc]
          exact SR.self (self_sizeOf e) fun r5 n he5 _ => SR.ret ⟨_, rfl, ((hb.ext he4).ext he5).add _⟩
        · simp only [if_neg hc]
          exact SR.never (self_dies _ _ _ _ _ _)
    | _ => trivial
  | _ => trivial
theorem sr_sliceBound {r : List Nat} {x y : Value} (n : Nat) (c : BoundsCode) (hx : V2 r x y) : SR P (fun _ a b => a = b ∧ a ≤ n) r (Instr.sliceBound x n c) (Instr.sliceBound y n c) := by
  refine SR.then (sr_asIntOf hx) fun r1 a b he hab => ?_
  subst hab
  obtain ⟨k, i⟩ := a
  dsimp only
  split
  · exact SR.ret ⟨rfl, by omega⟩
  · exact SR.never (self_boundsPanic _ _ _ _)
/-- two bounds, perhaps left out -/
def VO (r : List Nat) : Option Value → Option Value → Prop
  | none, y => y = none
  | some x, y => ∃ z, y = some z ∧ V2 r x z
theorem VO.ext {r s : List Nat} (h : Ext r s) {x y : Option Value} (k : VO r x y) : VO s x y := by
  cases x with
  | none => exact k
  | some x =>
    obtain ⟨z, rfl, hz⟩ := k
    exact ⟨z, rfl, hz.ext h⟩
theorem sr_sliceBounds {r : List Nat} (s : Bool) (n c : Nat) {l l' h h' m m' : Option Value} (hl : VO r l l') (hh : VO r h h') (hm : VO r m m') :
    SR P (fun _ a b => a = b ∧ a.2.2 ≤ c) r (Instr.sliceBounds s n c l h m) (Instr.sliceBounds s n c l' h' m') := by
  unfold Instr.sliceBounds
  cases m with
  | none =>
    subst hm
    cases h with
    | none =>
      subst hh
      cases l with
      | none =>
        subst hl
        refine SR.then (RA := fun _ a b => a = b ∧ a ≤ c) (SR.ret ⟨rfl, Nat.le_refl _⟩) fun r1 a1 b he1 ⟨hab, l1⟩ => ?_
        subst hab
        refine SR.then (RA := fun _ a b => a = b ∧ a ≤ n) (SR.ret ⟨rfl, Nat.le_refl _⟩) fun r2 a2 b he2 ⟨hab, l2⟩ => ?_
        subst hab
        refine SR.then (RA := fun _ a b => a = b ∧ a ≤ 0) (SR.ret ⟨rfl, Nat.le_refl _⟩) fun r3 a3 b he3 ⟨hab, l3⟩ => ?_
        subst hab
        exact SR.ret ⟨rfl, by first | assumption | omega⟩
      | some l =>
        obtain ⟨l', rfl, hl⟩ := hl
        refine SR.then (RA := fun _ a b => a = b ∧ a ≤ c) (SR.ret ⟨rfl, Nat.le_refl _⟩) fun r1 a1 b he1 ⟨hab, l1⟩ => ?_
        subst hab
        refine SR.then (RA := fun _ a b => a = b ∧ a ≤ n) (SR.ret ⟨rfl, Nat.le_refl _⟩) fun r2 a2 b he2 ⟨hab, l2⟩ => ?_
        subst hab
        refine SR.then (sr_sliceBound _ _ ((hl.ext he1).ext he2)) fun r3 a3 b he3 ⟨hab, l3⟩ => ?_
        subst hab
        exact SR.ret ⟨rfl, by first | assumption | omega⟩
    | some h =>
      obtain ⟨h', rfl, hh⟩ := hh
      cases l with
      | none =>
        subst hl
        refine SR.then (RA := fun _ a b => a = b ∧ a ≤ c) (SR.ret ⟨rfl, Nat.le_refl _⟩) fun r1 a1 b he1 ⟨hab, l1⟩ => ?_
        subst hab
        refine SR.then (sr_sliceBound _ _ (hh.ext he1)) fun r2 a2 b he2 ⟨hab, l2⟩ => ?_
        subst hab
        refine SR.then (RA := fun _ a b => a = b ∧ a ≤ 0) (SR.ret ⟨rfl, Nat.le_refl _⟩) fun r3 a3 b he3 ⟨hab, l3⟩ => ?_
        subst hab
        exact SR.ret ⟨rfl, by first | assumption | omega⟩
      | some l =>
        obtain ⟨l', rfl, hl⟩ := hl
        refine SR.then (RA := fun _ a b => a = b ∧ a ≤ c) (SR.ret ⟨rfl, Nat.le_refl _⟩) fun r1 a1 b he1 ⟨hab, l1⟩ => ?_
        subst hab
        refine SR.then (sr_sliceBound _ _ (hh.ext he1)) fun r2 a2 b he2 ⟨hab, l2⟩ => ?_
        subst hab
        refine SR.then (sr_sliceBound _ _ ((hl.ext he1).ext he2)) fun r3 a3 b he3 ⟨hab, l3⟩ => ?_
        subst hab
        exact SR.ret ⟨rfl, by first | assumption | omega⟩
  | some m =>
    obtain ⟨m', rfl, hm⟩ := hm
    cases h with
    | none =>
      subst hh
      cases l with
      | none =>
        subst hl
        refine SR.then (sr_sliceBound _ _ hm) fun r1 a1 b he1 ⟨hab, l1⟩ => ?_
        subst hab
        trivial
      | some l =>
        obtain ⟨l', rfl, hl⟩ := hl
        refine SR.then (sr_sliceBound _ _ hm) fun r1 a1 b he1 ⟨hab, l1⟩ => ?_
        subst hab
        trivial
    | some h =>
      obtain ⟨h', rfl, hh⟩ := hh
      cases l with
      | none =>
        subst hl
        refine SR.then (sr_sliceBound _ _ hm) fun r1 a1 b he1 ⟨hab, l1⟩ => ?_
        subst hab
        refine SR.then (sr_sliceBound _ _ (hh.ext he1)) fun r2 a2 b he2 ⟨hab, l2⟩ => ?_
        subst hab
        refine SR.then (RA := fun _ a b => a = b ∧ a ≤ 0) (SR.ret ⟨rfl, Nat.le_refl _⟩) fun r3 a3 b he3 ⟨hab, l3⟩ => ?_
        subst hab
        exact SR.ret ⟨rfl, by first | assumption | omega⟩
      | some l =>
        obtain ⟨l', rfl, hl⟩ := hl
        refine SR.then (sr_sliceBound _ _ hm) fun r1 a1 b he1 ⟨hab, l1⟩ => ?_
        subst hab
        refine SR.then (sr_sliceBound _ _ (hh.ext he1)) fun r2 a2 b he2 ⟨hab, l2⟩ => ?_
        subst hab
        refine SR.then (sr_sliceBound _ _ ((hl.ext he1).ext he2)) fun r3 a3 b he3 ⟨hab, l3⟩ => ?_
        subst hab
        exact SR.ret ⟨rfl, by first | assumption | omega⟩
/-- a slice's capacity that is known; an array's length -/
def capOk (P : Program) (T : TypeId) (u : Value) : Bool := (match u with | .slice (some _) _ c => Nat.blt c K | _ => true) && match P.underlying T with
  | some (.array n _) => Nat.blt n K
  | some (.pointer e) => match P.underlying e with
    | some (.array n _) => Nat.blt n K
    | _ => true
  | _ => true
omit [Th] in
theorem cap_small {r : List Nat} {n c c' k : Nat} (h : c ≤ k) (hk : k < K) (e : c' = c) : CapR r n c c' := .inl ⟨Nat.lt_of_le_of_lt h hk, e⟩
theorem sr_slice {r : List Nat} {u v : Value} (T : TypeId) (hu : V2 r u v) {l l' h h' m m' : Option Value} (hl : VO r l l') (hh : VO r h h') (hm : VO r m m') (hc : capOk P T u = true) :
    SR P V2 r (Instr.slice T u l h m) (Instr.slice T v l' h' m') := by
  unfold Instr.slice
  refine SR.self (self_underlying T) fun r1 d he hd => ?_
  have hu := hu.ext he
  have hl := hl.ext he
  have hh := hh.ext he
  have hm := hm.ext he
  clear he
  unfold capOk at hc
  rw [hd, Bool.and_eq_true] at hc
  cases d with
  | string => cases u with
    | string s =>
      obtain ⟨-, rfl⟩ := hu
      have e : m.isSome = m'.isSome := by
        cases m with
        | none => rw [show m' = none from hm]
        | some m => obtain ⟨m', rfl, -⟩ := hm; rfl
      dsimp only
      rw [← e]
      split
      · trivial
      · exact SR.then (sr_sliceBounds _ _ _ hl hh (m := none) (m' := none) rfl) fun _ a b _ hab => by
          obtain ⟨rfl, -⟩ := hab
          exact SR.ret ⟨rfl, rfl⟩
    | _ => trivial
  | slice e => cases u with
    | slice a n c => cases a with
      | none =>
        obtain ⟨-, rfl⟩ := hu
        exact SR.then (sr_sliceBounds _ _ _ hl hh hm) fun _ a b _ hab => by
          obtain ⟨rfl, -⟩ := hab
          exact SR.self (self_sizeOf e) fun _ k _ _ => by
            split <;> exact SR.ret ⟨rfl, rfl⟩
      | some a =>
        obtain ⟨b, c', rfl, hb, hcap⟩ := hu
        have hcK : c < K := by simpa [Nat.blt_eq] using hc.1
        have ec : c' = c := by
          rcases hcap with ⟨_, h⟩ | ⟨h, _⟩
          · exact h
          · omega
        subst ec
        have hb := hb.ar (.inr hcK)
        exact SR.then (sr_sliceBounds _ _ _ hl hh hm) fun r2 x y he hab => by
          obtain ⟨rfl, hle⟩ := hab
          exact SR.self (self_sizeOf e) fun r3 k he3 _ => by
            split
            · exact SR.ret ⟨_, _, rfl, ((hb.ext he).ext he3).of, cap_small (Nat.le_trans (Nat.sub_le _ _) hle) hcK rfl⟩
            · exact SR.ret ⟨_, _, rfl, (((hb.ext he).ext he3).add _).of, cap_small (Nat.le_trans (Nat.sub_le _ _) hle) hcK rfl⟩
    | _ => trivial
  | pointer e => cases u with
    | pointer a => cases a with
      | none =>
        obtain ⟨-, rfl⟩ := hu
        exact ⟨_, rfl, trivial⟩
      | some a =>
        obtain ⟨b, rfl, hb⟩ := hu
        refine SR.then (RA := fun r x y => AR r x y) (SR.ret hb) fun r2 x y he hxy => SR.self (self_underlying e) fun r3 d he3 hd3 => ?_
        cases d with
        | array n e2 =>
          have hcK : n < K := by
            have := hc.2
            simp only [hd3] at this
            simpa [Nat.blt_eq] using this
          refine SR.then (sr_sliceBounds _ _ _ ((hl.ext he).ext he3) ((hh.ext he).ext he3) ((hm.ext he).ext he3)) fun r4 a b he4 hab => ?_
          obtain ⟨rfl, hle⟩ := hab
          exact SR.self (self_sizeOf e2) fun r5 k he5 _ => by
            split
            · exact SR.ret ⟨_, _, rfl, (((hxy.ext he3).ext he4).ext he5).of, cap_small (Nat.le_trans (Nat.sub_le _ _) hle) hcK rfl⟩
            · exact SR.ret ⟨_, _, rfl, ((((hxy.ext he3).ext he4).ext he5).add _).of, cap_small (Nat.le_trans (Nat.sub_le _ _) hle) hcK rfl⟩
        | _ => trivial
    | _ => trivial
  | _ => trivial
theorem sr_sliceAt {r : List Nat} {u v : Value} (T : TypeId) (hu : V2 r u v) {l l' h h' m m' : Option Value} (hl : VO r l l') (hh : VO r h h') (hm : VO r m m') (hc : capOk P T u = true) :
    SR P V2 r (Instr.sliceAt T u l h m) (Instr.sliceAt T v l' h' m') := by
  unfold Instr.sliceAt
  refine SR.self (self_underlying T) fun r1 d he hd => ?_
  have hu := hu.ext he
  have hl := hl.ext he
  have hh := hh.ext he
  have hm := hm.ext he
  clear he
  cases d with
  | array n e =>
    have hcK : n < K := by
      unfold capOk at hc
      rw [hd, Bool.and_eq_true] at hc
      simpa [Nat.blt_eq] using hc.2
    refine SR.then (sr_sureAddr hu) fun r2 x y he2 hxy => SR.then (sr_sliceBounds _ _ _ (hl.ext he2) (hh.ext he2) (hm.ext he2)) fun r4 a b he4 hab => ?_
    obtain ⟨rfl, hle⟩ := hab
    exact SR.self (self_sizeOf e) fun r5 k he5 _ => by
      split
      · exact SR.ret ⟨_, _, rfl, ((hxy.ext he4).ext he5).of, cap_small (Nat.le_trans (Nat.sub_le _ _) hle) hcK rfl⟩
      · exact SR.ret ⟨_, _, rfl, (((hxy.ext he4).ext he5).add _).of, cap_small (Nat.le_trans (Nat.sub_le _ _) hle) hcK rfl⟩
  | _ => exact sr_slice T hu hl hh hm hc
theorem sr_extract {r : List Nat} {u v : Value} (i : Nat) (h : V3 r u v) : SR P V2 r (Instr.extract u i) (Instr.extract v i) := by
  cases u with
  | tuple a =>
    obtain ⟨b, rfl, hb⟩ := h
    unfold Instr.extract
    dsimp only
    cases hx : a[i]? with
    | none => trivial
    | some x =>
      obtain ⟨y, hy, hxy⟩ := hb.get hx
      rw [hy]
      exact SR.ret hxy
  | _ => trivial
theorem sr_part {r : List Nat} {a b : Array Value} (T : TypeId) (o : Nat) (h : All (V1 r) a b) : SR P V2 r (part T a o) (part T b o) := by
  refine SR.self (self_isAgg T) fun r1 g he _ => ?_
  have h := h.mono fun _ _ => V1.ext he
  clear he
  cases g with
  | true => exact SR.self (self_sizeOf T) fun r2 n he _ => SR.ret ⟨_, rfl, (h.mono fun _ _ => V1.ext he).extract _ _⟩
  | false =>
    try dsimp only
    cases hx : a[o]? with
    | none => trivial
    | some x =>
      obtain ⟨y, hy, hxy⟩ := h.get hx
      rw [hy]
      exact SR.ret hxy.up
theorem sr_field {r : List Nat} {u v : Value} (T : TypeId) (f : Nat) (h : V2 r u v) : SR P V2 r (Instr.field T u f) (Instr.field T v f) := by
  refine SR.self (self_underlying T) fun r1 d he hd => ?_
  have h := h.ext he
  clear he
  cases d with
  | struct fs =>
    dsimp only
    cases fs[f]? with
    | none => trivial
    | some x => exact SR.then (sr_asAgg h) fun r2 a b _ hab => sr_part _ _ hab
  | _ => trivial
theorem sr_index {r : List Nat} {u v x y : Value} (T : TypeId) (h : V2 r u v) (hx : V2 r x y) : SR P V2 r (Instr.index T u x) (Instr.index T v y) := by
  refine SR.then (sr_asIntOf hx) fun r1 a b he hab => ?_
  subst hab
  obtain ⟨k, i⟩ := a
  have h := h.ext he
  clear hx he
  refine SR.self (self_underlying T) fun r2 d he hd => ?_
  have h := h.ext he
  clear he
  cases d with
  | array n e => cases u with
    | agg a =>
      obtain ⟨b, rfl, hb⟩ := h
      dsimp only
      split
      · exact SR.self (self_sizeOf e) fun r3 n he _ => sr_part _ _ (hb.mono fun _ _ => V1.ext he)
      · exact SR.never (self_boundsPanic _ _ _ _)
    | _ => trivial
  | string => cases u with
    | string s =>
      obtain ⟨-, rfl⟩ := h
      dsimp only
      split
      · exact SR.ret ⟨rfl, rfl⟩
      · exact SR.never (self_boundsPanic _ _ _ _)
    | _ => trivial
  | _ => trivial
theorem sr_len {r : List Nat} {u v : Value} (ts : Array TypeId) (T : TypeId) (h : V2 r u v) : SR P V2 r (Builtin.len_ ts T #[u]) (Builtin.len_ ts T #[v]) := by
  unfold Builtin.len_
  cases ts[0]? with
  | none => trivial
  | some t =>
    try dsimp only [List.getElem?_toArray, List.getElem?_cons_zero]
    refine SR.self (self_underlying t) fun r1 d he hd => ?_
    have h := h.ext he
    clear he
    have R : ∀ n : Nat, SR P V2 r1 (pure (goInt n)) (pure (goInt n)) := fun n => SR.ret ⟨rfl, rfl⟩
    cases d with
    | string => cases u with
      | string s =>
        obtain ⟨-, rfl⟩ := h
        exact R _
      | _ => trivial
    | array n e => exact R _
    | pointer e => exact SR.self (self_underlying e) fun r2 d _ _ => by cases d <;> first | trivial | exact SR.ret ⟨rfl, rfl⟩
    | slice e => cases u with
      | slice a n c => cases a with
        | none =>
          obtain ⟨-, rfl⟩ := h
          exact R _
        | some a =>
          obtain ⟨b, c', rfl, hb, -⟩ := h
          exact R _
      | _ => trivial
    | map k e => cases u with
      | map a => cases a with
        | none =>
          obtain ⟨h, -⟩ := h
          simp [dry] at h
        | some a =>
          obtain ⟨h, -⟩ := h
          simp [dry] at h
      | _ => trivial
    | chan k e => cases u with
      | chan a => 
        obtain ⟨h, -⟩ := h
        simp [dry] at h
      | _ => trivial
    | _ => trivial
end
end Go.Sx
