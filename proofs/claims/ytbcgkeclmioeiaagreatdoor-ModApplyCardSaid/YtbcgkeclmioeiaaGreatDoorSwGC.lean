/-
  MERGED: Mm, Ms, Md, EqW, Clone, TrCell, Each, CloneEf, CloneA, CloneAb. By an AI agent.
-/
import Derived.Test.YtbcgkeclmioeiaaGreatDoorSwGA
import Derived.StillTail
import Derived.Test.YtbcgkeclmioeiaaGreatDoorSwGB
import Derived.Deep.Cut
import Derived.Laws.AppendOwn
import Derived.Lib.SliceRun
import Derived.Lib.Walk
namespace Go.Proofs.YtbcgkeclmioeiaaGreatDoor
open Go.RowKit

/-- a block: its place, its cells, its element type -/
abbrev Bk := Nat × Array Value × TypeId
def Kp (l : List Bk) (w : World) : Prop := ∀ (i : Nat) (x : Bk), l[i]? = some x → Blk w x.1 x.2.1 x.2.2
theorem Kp.at {l : List Bk} {w : World} (h : Kp l w) (i : Nat) {p : Nat} {cs : Array Value} {T : TypeId} (hi : l[i]? = some (p, cs, T)) : Blk w p cs T := h i (p, cs, T) hi
theorem Kp.below {l : List Bk} {w w' : World} (h : Kp l w) (hb : Below w.heap.size w w') : Kp l w' := fun i x hi => (h i x hi).below hb (h i x hi).lt
structure Mm (w0 w : World) (l : List Bk) : Prop where
  b : Below w0.heap.size w0 w
  k : Kp l w
  g : ∀ (i : Nat) (x : Bk), l[i]? = some x → w0.heap.size ≤ x.1
  n : ∀ (i j : Nat) (x y : Bk), l[i]? = some x → l[j]? = some y → i ≠ j → x.1 ≠ y.1
theorem Mm.nil (w : World) : Mm w w [] := ⟨Below.refl _ _, fun i x h => by simp at h, fun i x h => by simp at h, fun i j x y h => by simp at h⟩
section
variable {w0 w w' : World} {l : List Bk}
theorem Mm.at (M : Mm w0 w l) (i : Nat) {p : Nat} {cs : Array Value} {T : TypeId} (hi : l[i]? = some (p, cs, T)) : Blk w p cs T := M.k i (p, cs, T) hi
theorem Mm.call (M : Mm w0 w l) (hb : Below w.heap.size w w') : Mm w0 w' l := ⟨M.b.trans (hb.mono M.b.size), M.k.below hb, M.g, M.n⟩
theorem Mm.drew (M : Mm w0 w l) : Mm w0 w.drew l := ⟨M.b.drew, fun i x h => (M.k i x h).drew, M.g, M.n⟩
theorem Mm.alloc (M : Mm w0 w l) (cs : Array Value) (T : TypeId) : Mm w0 (w.alloc (.cells cs T)) (l ++ [(w.heap.size, cs, T)]) := by
  have key : ∀ (i : Nat) (x : Bk), (l ++ [(w.heap.size, cs, T)])[i]? = some x → l[i]? = some x ∨ (i = l.length ∧ x = (w.heap.size, cs, T)) := by
    intro i x h
    rw [List.getElem?_append] at h
    split at h
    · exact .inl h
    · rename_i hi
      by_cases he : i = l.length
      · subst he; simp at h; exact .inr ⟨rfl, h.symm⟩
      · rw [List.getElem?_eq_none (by simp; omega)] at h; cases h
  refine ⟨M.b.alloc M.b.size _, ?_, ?_, ?_⟩
  · intro i x h
    rcases key i x h with h | ⟨_, rfl⟩
    · exact (M.k i x h).alloc _
    · exact Blk.new _ _ _
  · intro i x h
    rcases key i x h with h | ⟨_, rfl⟩
    · exact M.g i x h
    · exact M.b.size
  · intro i j x y h h' hij
    rcases key i x h with h | ⟨e, rfl⟩
    · rcases key j y h' with h' | ⟨_, rfl⟩
      · exact M.n i j x y h h' hij
      · exact Nat.ne_of_lt (M.k i x h).lt
    · rcases key j y h' with h' | ⟨e', _⟩
      · exact Nat.ne_of_gt (M.k j y h').lt
      · exact absurd (e.trans e'.symm) hij
theorem Mm.store (M : Mm w0 w l) (i : Nat) {p : Nat} {cs : Array Value} {T : TypeId} (hi : l[i]? = some (p, cs, T)) (o : Nat) (vs : List Value) {cs' : Array Value} (e : laidAt cs o vs = cs') : Mm w0 (w.setCells p o vs) (l.set i (p, cs', T)) := by
  have hil : i < l.length := (List.getElem?_eq_some_iff.1 hi).1
  have key : ∀ (j : Nat) (x : Bk), (l.set i (p, cs', T))[j]? = some x → (j = i ∧ x = (p, cs', T)) ∨ (j ≠ i ∧ l[j]? = some x) := by
    intro j x h
    by_cases hj : j = i
    · subst hj; rw [List.getElem?_set_self hil] at h; exact .inl ⟨rfl, (Option.some.inj h).symm⟩
    · rw [List.getElem?_set_ne (Ne.symm hj)] at h; exact .inr ⟨hj, h⟩
  refine ⟨below_whole vs M.b (M.g i (p, cs, T) hi), ?_, ?_, ?_⟩
  · intro j x h
    rcases key j x h with ⟨_, rfl⟩ | ⟨hj, h⟩
    · exact (M.k i (p, cs, T) hi).stored e
    · exact (M.k j x h).wholeElse vs (M.n j i x (p, cs, T) h hi hj)
  · intro j x h
    rcases key j x h with ⟨_, rfl⟩ | ⟨hj, h⟩
    · exact M.g i (p, cs, T) hi
    · exact M.g j x h
  · intro a b x y h h' hab
    rcases key a x h with ⟨ea, rfl⟩ | ⟨ha, h⟩
    · rcases key b y h' with ⟨eb, _⟩ | ⟨hb, h'⟩
      · exact absurd (ea.trans eb.symm) hab
      · exact fun e => M.n b i y (p, cs, T) h' hi hb e.symm
    · rcases key b y h' with ⟨eb, rfl⟩ | ⟨hb, h'⟩
      · exact M.n a i x (p, cs, T) h hi ha
      · exact M.n a b x y h h' hab
theorem Mm.take (M : Mm w0 w l) (n : Nat) : Mm w0 w (l.take n) := by
  have key : ∀ (i : Nat) (x : Bk), (l.take n)[i]? = some x → l[i]? = some x := fun i x h => by
    rw [List.getElem?_take] at h
    split at h
    · exact h
    · cases h
  exact ⟨M.b, fun i x h => M.k i x (key i x h), fun i x h => M.g i x (key i x h), fun i j x y h h' => M.n i j x y (key i x h) (key j y h')⟩
/-- a further block, told -/
theorem Mm.add (M : Mm w0 w l) {p : Nat} {cs : Array Value} {T : TypeId} (hk : Blk w p cs T) (hg : w0.heap.size ≤ p) (hn : ∀ (i : Nat) (x : Bk), l[i]? = some x → x.1 ≠ p) : Mm w0 w (l ++ [(p, cs, T)]) := by
  have key : ∀ (i : Nat) (x : Bk), (l ++ [(p, cs, T)])[i]? = some x → l[i]? = some x ∨ (i = l.length ∧ x = (p, cs, T)) := by
    intro i x h
    rw [List.getElem?_append] at h
    split at h
    · exact .inl h
    · rename_i hi
      by_cases he : i = l.length
      · subst he; simp at h; exact .inr ⟨rfl, h.symm⟩
      · rw [List.getElem?_eq_none (by simp; omega)] at h; cases h
  refine ⟨M.b, ?_, ?_, ?_⟩
  · intro i x h
    rcases key i x h with h | ⟨_, rfl⟩
    · exact M.k i x h
    · exact hk
  · intro i x h
    rcases key i x h with h | ⟨_, rfl⟩
    · exact M.g i x h
    · exact hg
  · intro i j x y h h' hij
    rcases key i x h with h | ⟨e, rfl⟩
    · rcases key j y h' with h' | ⟨_, rfl⟩
      · exact M.n i j x y h h' hij
      · exact hn i x h
    · rcases key j y h' with h' | ⟨e', _⟩
      · exact fun e => hn j y h' e.symm
      · exact absurd (e.trans e'.symm) hij
/-- a block that a call has made -/
theorem Mm.fresh (M : Mm w0 w l) (hb : Below w.heap.size w w') {p : Nat} {cs : Array Value} {T : TypeId} (hk : Blk w' p cs T) (hp : w.heap.size ≤ p) : Mm w0 w' (l ++ [(p, cs, T)]) :=
  (M.call hb).add hk (Nat.le_trans M.b.size hp) fun i x h => Nat.ne_of_lt (Nat.lt_of_lt_of_le (M.k i x h).lt hp)
theorem whole_part {xs : Array Value} : ∀ (j : Nat) v, xs[j]? = some v → xs[0 + j]? = some v := fun j v h => by rw [Nat.zero_add]; exact h
variable {P : Program} {ops : Array Oper} {rest : List Oper} {o : Oper} {a a' : Act} {Q : Exit → Act → World → Prop}
/-- an operation run -/
theorem rA {v : Value}
    (h : wpList P ops Q rest a' w) (hw : Region.wanted o (yielded ops a.tmps) = true := by with_unfolding_all rfl) (hy : (execOp a.eval o).run P w = .ok (.value v) w := by (go_simp; try with_reducible rfl)) (ha : a.put o.dst v = a' := by (simp only [pu, sB, s0, sS]; try rfl)) : wpList P ops Q (o :: rest) a w := by
  subst ha
  exact rN hw hy h
/-- an operation run, its value and the proof told -/
theorem rB (v : Value) (hy : (execOp a.eval o).run P w = .ok (.value v) w)
    (h : wpList P ops Q rest a' w) (hw : Region.wanted o (yielded ops a.tmps) = true := by with_unfolding_all rfl) (ha : a.put o.dst v = a' := by (simp only [pu, sB, s0, sS]; try rfl)) : wpList P ops Q (o :: rest) a w := by
  subst ha
  exact rN hw hy h
/-- an operation left out -/
theorem kA
    (h : wpList P ops Q rest a' w) (hw : Region.wanted o (yielded ops a.tmps) = false := by with_unfolding_all rfl) (ha : a.put o.dst undef = a' := by (simp only [pu, sB, s0, sS]; try rfl)) : wpList P ops Q (o :: rest) a w := by
  subst ha
  exact kN hw h
/-- a call, its answer told -/
theorem wC {f : FuncId} {args : Array Value} {v : Value} (M : Mm w0 w l) (hc : Calls P f args w fun e w' => e = .returned v ∧ Below w.heap.size w w')
    (h : ∀ w', Mm w0 w' l → wpList P ops Q rest a' w') (hw : Region.wanted o (yielded ops a.tmps) = true := by with_unfolding_all rfl) (hr : (execOp a.eval o).run P w = .ok (.enter f args) w := by go_simp) (ha : a.put o.dst v = a' := by (simp only [pu, sB, s0, sS]; try rfl)) : wpList P ops Q (o :: rest) a w := by
  subst ha
  unfold wpList
  rw [if_pos hw]
  refine .inl ?_
  unfold Oper.wp
  rw [hr, Oper.upon_enter]
  refine hc.mono fun e w' hh => ?_
  obtain ⟨rfl, hb⟩ := hh
  exact h w' (M.call hb)
/-- a call, of whose answer something is told -/
theorem wCx {f : FuncId} {args : Array Value} {R : Ending → World → Prop} (M : Mm w0 w l) (hc : Calls P f args w fun e w' => R e w' ∧ Below w.heap.size w w')
    (h : ∀ e w', R e w' → Below w.heap.size w w' → Mm w0 w' l → ∃ v a', e = .returned v ∧ a.put o.dst v = a' ∧ wpList P ops Q rest a' w') (hw : Region.wanted o (yielded ops a.tmps) = true := by with_unfolding_all rfl) (hr : (execOp a.eval o).run P w = .ok (.enter f args) w := by go_simp) : wpList P ops Q (o :: rest) a w := by
  unfold wpList
  rw [if_pos hw]
  refine .inl ?_
  unfold Oper.wp
  rw [hr, Oper.upon_enter]
  refine hc.mono fun e w' hh => ?_
  obtain ⟨v, a', rfl, rfl, hq⟩ := h e w' hh.1 hh.2 (M.call hh.2)
  exact hq
/-- a call that answers with a block of its own -/
theorem wCn {f : FuncId} {args : Array Value} {v : Nat → Value} {cs : Array Value} {T : TypeId} (M : Mm w0 w l) (hc : Calls P f args w fun e w' => (∃ b, e = .returned (v b) ∧ Blk w' b cs T ∧ w.heap.size ≤ b) ∧ Below w.heap.size w w')
    (h : ∀ p w', Mm w0 w' (l ++ [(p, cs, T)]) → ∃ a', a.put o.dst (v p) = a' ∧ wpList P ops Q rest a' w') (hw : Region.wanted o (yielded ops a.tmps) = true := by with_unfolding_all rfl) (hr : (execOp a.eval o).run P w = .ok (.enter f args) w := by go_simp) : wpList P ops Q (o :: rest) a w := by
  unfold wpList
  rw [if_pos hw]
  refine .inl ?_
  unfold Oper.wp
  rw [hr, Oper.upon_enter]
  refine hc.mono fun e w' hh => ?_
  obtain ⟨⟨b, rfl, hk, hp⟩, hb⟩ := hh
  obtain ⟨a', rfl, hq⟩ := h b w' (M.fresh hb hk hp)
  exact hq
/-- a new block -/
theorem wA (cs : Array Value) {T : TypeId} (M : Mm w0 w l)
    (h : ∀ p w', Mm w0 w' (l ++ [(p, cs, T)]) → ∃ a', a.put o.dst (.pointer (some ⟨p, 0, none⟩)) = a' ∧ wpList P ops Q rest a' w') (hw : Region.wanted o (yielded ops a.tmps) = true := by with_unfolding_all rfl) (hr : (execOp a.eval o).run P w = .ok (.value (.pointer (some ⟨w.heap.size, 0, none⟩))) (w.alloc (.cells cs T)) := by (go_simp; try with_unfolding_all rfl)) : wpList P ops Q (o :: rest) a w := by
  obtain ⟨a', rfl, hq⟩ := h _ _ (M.alloc cs T)
  exact wpList_runWV _ rfl hw hr hq
/-- a part of a struct stored whole -/
theorem wS {d : Option Tmp} {ty T T' : TypeId} {ps : String} {af : Array Edge} {x y : Operand} (i : Nat) {p q : Nat} {cs vs cs' : Array Value} (M : Mm w0 w l) (e : laidAt cs q vs.toList = cs') (hi : (P.info? T).map (·.size) = some vs.size) (h1 : vs.all (·.oneCell') = true) (ho : q + vs.size ≤ cs.size)
    (h : ∀ w', Mm w0 w' (l.set i (p, cs', T')) → wpList P ops Q rest a' w') (hl : l[i]? = some (p, cs, T') := by with_unfolding_all rfl) (hx : a.eval x = .pointer (some ⟨p, q, none⟩) := by with_unfolding_all rfl) (hy : a.eval y = .agg vs := by with_unfolding_all rfl) (ha : a.put d undef = a' := by (simp only [Act.put]; try rfl)) : wpList P ops Q ({ dst := d, op := .store T x y, type := ty, pos := ps, after := af, guard := none } :: rest) a w := by
  subst ha
  exact wpList_storeM x y hx hy (M.at i hl) ho hi h1 (h _ (M.store i hl q vs.toList e))
/-- a scalar stored into a cell of a block -/
theorem wV {d : Option Tmp} {ty T T' : TypeId} {ps : String} {af : Array Edge} {x y : Operand} (i : Nat) {p j : Nat} {cs cs' : Array Value} {v : Value} (M : Mm w0 w l) (e : laidAt cs j [v] = cs') (hj : j < cs.size)
    (h : ∀ w', Mm w0 w' (l.set i (p, cs', T')) → wpList P ops Q rest a' w') (hl : l[i]? = some (p, cs, T') := by with_unfolding_all rfl) (hx : a.eval x = .pointer (some ⟨p, j, none⟩) := by with_unfolding_all rfl) (hy : a.eval y = v := by with_unfolding_all rfl) (hi : (P.info? T).map (·.size) = some 1 := by kernel_rfl) (h1 : v.oneCell' = true := by simp [Value.oneCell']) (ha : a.put d undef = a' := by (simp only [Act.put]; try rfl)) : wpList P ops Q ({ dst := d, op := .store T x y, type := ty, pos := ps, after := af, guard := none } :: rest) a w := by
  subst ha
  exact wpList_storeV x y hx hy (M.at i hl) hj hi h1 (h _ (M.store i hl j [v] e))
/-- a part of a struct loaded whole -/
theorem wL {d : Option Tmp} {ty T : TypeId} {ps : String} {af : Array Edge} {gd : Option (Nat × Bool)} {x : Operand} (i : Nat) {p q : Nat} {cs xs : Array Value} {T' : TypeId} {D : TypeDesc} (M : Mm w0 w l) (hm : ∀ (j : Nat) v, xs[j]? = some v → cs[q + j]? = some v) (hu : P.underlying T = some D) (hn : (P.info? T).map (·.size) = some xs.size)
    (h : wpList P ops Q rest a' w) (hl : l[i]? = some (p, cs, T') := by with_unfolding_all rfl) (hw : Region.wanted { dst := d, op := .load T x, type := ty, pos := ps, after := af, guard := gd } (yielded ops a.tmps) = true := by with_unfolding_all rfl) (hx : a.eval x = .pointer (some ⟨p, q, none⟩) := by with_unfolding_all rfl) (hd : D.isRow = true := by rfl) (ha : a.put d (.agg xs) = a' := by (simp only [pu, sB, s0, sS]; try rfl)) : wpList P ops Q ({ dst := d, op := .load T x, type := ty, pos := ps, after := af, guard := gd } :: rest) a w := by
  subst ha
  exact wpList_loadM x hw hx (M.at i hl) hm hu hd hn h
/-- a scalar loaded from a cell of a block -/
theorem wLv {d : Option Tmp} {ty T : TypeId} {ps : String} {af : Array Edge} {gd : Option (Nat × Bool)} {x : Operand} (i : Nat) {p j : Nat} {cs : Array Value} {T' : TypeId} {v : Value} {D : TypeDesc} (M : Mm w0 w l) (hv : cs[j]? = some v) (hu : P.underlying T = some D)
    (h : wpList P ops Q rest a' w) (hl : l[i]? = some (p, cs, T') := by with_unfolding_all rfl) (hw : Region.wanted { dst := d, op := .load T x, type := ty, pos := ps, after := af, guard := gd } (yielded ops a.tmps) = true := by with_unfolding_all rfl) (hx : a.eval x = .pointer (some ⟨p, j, none⟩) := by with_unfolding_all rfl) (hd : D.isRow = false := by rfl) (ha : a.put d v = a' := by (simp only [pu, sB, s0, sS]; try rfl)) : wpList P ops Q ({ dst := d, op := .load T x, type := ty, pos := ps, after := af, guard := gd } :: rest) a w := by
  subst ha
  exact wpList_loadV x hw hx (M.at i hl) hv hu hd h
/-- the same with the frame handed on: a call, a new block, a struct stored whole -/
theorem wCb {f : FuncId} {args : Array Value} {v : Value} (M : Mm w0 w l) (hc : Calls P f args w fun e w' => e = .returned v ∧ Below w.heap.size w w')
    (h : ∀ w', Below w.heap.size w w' → Mm w0 w' l → wpList P ops Q rest a' w') (hw : Region.wanted o (yielded ops a.tmps) = true := by with_unfolding_all rfl) (hr : (execOp a.eval o).run P w = .ok (.enter f args) w := by go_simp) (ha : a.put o.dst v = a' := by (simp only [pu, sB, s0, sS]; try rfl)) : wpList P ops Q (o :: rest) a w := by
  subst ha
  refine wCx M (R := fun e _ => e = .returned v) hc (fun e w' he hb M' => ⟨_, _, he, rfl, h w' hb M'⟩) hw hr
theorem wAb (cs : Array Value) {T : TypeId} (M : Mm w0 w l)
    (h : ∀ p w', Below w.heap.size w w' → w.heap.size ≤ p → Mm w0 w' (l ++ [(p, cs, T)]) → ∃ a', a.put o.dst (.pointer (some ⟨p, 0, none⟩)) = a' ∧ wpList P ops Q rest a' w') (hw : Region.wanted o (yielded ops a.tmps) = true := by with_unfolding_all rfl) (hr : (execOp a.eval o).run P w = .ok (.value (.pointer (some ⟨w.heap.size, 0, none⟩))) (w.alloc (.cells cs T)) := by (go_simp; try with_unfolding_all rfl)) : wpList P ops Q (o :: rest) a w := by
  obtain ⟨a', rfl, hq⟩ := h _ _ ((Below.refl _ _).alloc (Nat.le_refl _) _) (Nat.le_refl _) (M.alloc cs T)
  exact wpList_runWV _ rfl hw hr hq
theorem wSb {d : Option Tmp} {ty T T' : TypeId} {ps : String} {af : Array Edge} {x y : Operand} (i : Nat) {p q : Nat} {cs vs cs' : Array Value} (M : Mm w0 w l) (e : laidAt cs q vs.toList = cs') (hi : (P.info? T).map (·.size) = some vs.size) (h1 : vs.all (·.oneCell') = true) (ho : q + vs.size ≤ cs.size)
    (h : ∀ w', (∀ (C : Nat) (w1 : World), Below C w1 w → C ≤ p → Below C w1 w') → Mm w0 w' (l.set i (p, cs', T')) → wpList P ops Q rest a' w') (hl : l[i]? = some (p, cs, T') := by with_unfolding_all rfl) (hx : a.eval x = .pointer (some ⟨p, q, none⟩) := by with_unfolding_all rfl) (hy : a.eval y = .agg vs := by with_unfolding_all rfl) (ha : a.put d undef = a' := by (simp only [Act.put]; try rfl)) : wpList P ops Q ({ dst := d, op := .store T x y, type := ty, pos := ps, after := af, guard := none } :: rest) a w := by
  subst ha
  exact wpList_storeM x y hx hy (M.at i hl) ho hi h1 (h _ (fun C w1 hb hC => below_whole vs.toList hb hC) (M.store i hl q vs.toList e))
/-- a struct's result read -/
theorem Mm.read (M : Mm w0 w l) (i : Nat) {p : Nat} {cs : Array Value} {T : TypeId} {D : TypeDesc} (hu : P.underlying T = some D) (hn : (P.info? T).map (·.size) = some cs.size) (hl : l[i]? = some (p, cs, T)) (hd : D.isRow = true) : (loadVar T ⟨p, 0, none⟩).run P w = .ok (.agg cs) w := (M.at i hl).readS hu hd hn
end
end Go.Proofs.YtbcgkeclmioeiaaGreatDoor
namespace Go.Proofs.YtbcgkeclmioeiaaGreatDoor
open Go.RowKit

section
variable {w0 w w' : World} {l : List Bk} {P : Program} {ops : Array Oper} {rest : List Oper} {o : Oper} {a a' : Act} {Q : Act → Prop} {Q' : Exit → Act → World → Prop}
/-- an operation run -/
theorem sA {v : Value} (h : wpStill P ops w Q rest a') (hw : Region.wanted o (yielded ops a.tmps) = true := by with_unfolding_all rfl) (hy : (execOp a.eval o).run P w = .ok (.value v) w := by (go_simp; try with_reducible rfl)) (ha : a.put o.dst v = a' := by (simp only [pu, sB, s0, sS]; try rfl)) : wpStill P ops w Q (o :: rest) a := by
  subst ha
  unfold wpStill
  rw [if_pos hw]
  unfold Oper.still
  rw [hy, Oper.stillUpon_value]
  exact h
theorem sBt (v : Value) (hy : (execOp a.eval o).run P w = .ok (.value v) w) (h : wpStill P ops w Q rest a') (hw : Region.wanted o (yielded ops a.tmps) = true := by with_unfolding_all rfl) (ha : a.put o.dst v = a' := by (simp only [pu, sB, s0, sS]; try rfl)) : wpStill P ops w Q (o :: rest) a := sA h hw hy ha
theorem sK (h : wpStill P ops w Q rest a') (hw : Region.wanted o (yielded ops a.tmps) = false := by with_unfolding_all rfl) (ha : a.put o.dst undef = a' := by (simp only [pu, sB, s0, sS]; try rfl)) : wpStill P ops w Q (o :: rest) a := by
  subst ha
  unfold wpStill
  rw [if_neg (by rw [hw]; decide)]
  exact h
theorem sR {d : Option Tmp} {ty T : TypeId} {ps : String} {af : Array Edge} {gd : Option (Nat × Bool)} {x : Operand} {b q : Nat} {xs : Array Value} {D : TypeDesc} (hr : w.rangeAt b q xs.toList) (hu : P.underlying T = some D) (hn : (P.info? T).map (·.size) = some xs.size)
    (h : wpStill P ops w Q rest a') (hw : Region.wanted { dst := d, op := .load T x, type := ty, pos := ps, after := af, guard := gd } (yielded ops a.tmps) = true := by with_unfolding_all rfl) (hx : a.eval x = .pointer (some ⟨b, q, none⟩) := by with_unfolding_all rfl) (hd : D.isRow = true := by rfl) (ha : a.put d (.agg xs) = a' := by (simp only [pu, sB, s0, sS]; try rfl)) :
    wpStill P ops w Q ({ dst := d, op := .load T x, type := ty, pos := ps, after := af, guard := gd } :: rest) a := by
  refine sA h hw ?_ ha
  have hL := run_loadVar_mid (P := P) w b q T xs.toList D hr hu hd (by simpa using hn)
  unfold execOp
  simp only [hx, Instr.loadAt, Instr.sureAddr, Sem.run_bind, Sem.run_pure, Result.andThen_ok, hL]
/-- a part of a struct in a block loaded whole -/
theorem sL {d : Option Tmp} {ty T : TypeId} {ps : String} {af : Array Edge} {gd : Option (Nat × Bool)} {x : Operand} (i : Nat) {p q : Nat} {cs xs : Array Value} {T' : TypeId} {D : TypeDesc} (M : Mm w0 w l) (hm : ∀ (j : Nat) v, xs[j]? = some v → cs[q + j]? = some v) (hu : P.underlying T = some D) (hn : (P.info? T).map (·.size) = some xs.size)
    (h : wpStill P ops w Q rest a') (hl : l[i]? = some (p, cs, T') := by with_unfolding_all rfl) (hw : Region.wanted { dst := d, op := .load T x, type := ty, pos := ps, after := af, guard := gd } (yielded ops a.tmps) = true := by with_unfolding_all rfl) (hx : a.eval x = .pointer (some ⟨p, q, none⟩) := by with_unfolding_all rfl) (hd : D.isRow = true := by rfl) (ha : a.put d (.agg xs) = a' := by (simp only [pu, sB, s0, sS]; try rfl)) :
    wpStill P ops w Q ({ dst := d, op := .load T x, type := ty, pos := ps, after := af, guard := gd } :: rest) a :=
  sR ((M.at i hl).rangeM hm) hu hn h hw hx hd ha
theorem sLv {d : Option Tmp} {ty T : TypeId} {ps : String} {af : Array Edge} {gd : Option (Nat × Bool)} {x : Operand} (i : Nat) {p j : Nat} {cs : Array Value} {T' : TypeId} {v : Value} {D : TypeDesc} (M : Mm w0 w l) (hv : cs[j]? = some v) (hu : P.underlying T = some D)
    (h : wpStill P ops w Q rest a') (hl : l[i]? = some (p, cs, T') := by with_unfolding_all rfl) (hw : Region.wanted { dst := d, op := .load T x, type := ty, pos := ps, after := af, guard := gd } (yielded ops a.tmps) = true := by with_unfolding_all rfl) (hx : a.eval x = .pointer (some ⟨p, j, none⟩) := by with_unfolding_all rfl) (hd : D.isRow = false := by rfl) (ha : a.put d v = a' := by (simp only [pu, sB, s0, sS]; try rfl)) :
    wpStill P ops w Q ({ dst := d, op := .load T x, type := ty, pos := ps, after := af, guard := gd } :: rest) a := by
  refine sA h hw ?_ ha
  unfold execOp
  simp only [hx, Instr.loadAt, Instr.sureAddr, Sem.run_bind, Sem.run_pure, Result.andThen_ok, run_loadV (M.at i hl) hv hu hd]
theorem sEnd {a'' : Act} (h : Q a'') (e : a = a'' := by rfl) : wpStill P ops w Q [] a := e ▸ h
/-- a struct of a row loaded, at a region's list -/
theorem wR {d : Option Tmp} {ty T : TypeId} {ps : String} {af : Array Edge} {gd : Option (Nat × Bool)} {x : Operand} {b q : Nat} {xs : Array Value} {D : TypeDesc} (hr : w.rangeAt b q xs.toList) (hu : P.underlying T = some D) (hn : (P.info? T).map (·.size) = some xs.size)
    (h : wpList P ops Q' rest a' w) (hw : Region.wanted { dst := d, op := .load T x, type := ty, pos := ps, after := af, guard := gd } (yielded ops a.tmps) = true := by with_unfolding_all rfl) (hx : a.eval x = .pointer (some ⟨b, q, none⟩) := by with_unfolding_all rfl) (hd : D.isRow = true := by rfl) (ha : a.put d (.agg xs) = a' := by (simp only [pu, sB, s0, sS]; try rfl)) :
    wpList P ops Q' ({ dst := d, op := .load T x, type := ty, pos := ps, after := af, guard := gd } :: rest) a w := by
  subst ha
  unfold wpList
  rw [if_pos hw]
  refine .inl (wp_load_mid T x rfl b q hx xs.toList _ hr hu hd (by simpa using hn) ?_)
  simpa using h
/-- one cell of a row's struct loaded -/
theorem wRv {d : Option Tmp} {ty T : TypeId} {ps : String} {af : Array Edge} {gd : Option (Nat × Bool)} {x : Operand} {b q j : Nat} {xs : Array Value} {v : Value} {D : TypeDesc} (hr : w.rangeAt b q xs.toList) (hv : xs[j]? = some v) (hu : P.underlying T = some D)
    (h : wpList P ops Q' rest a' w) (hw : Region.wanted { dst := d, op := .load T x, type := ty, pos := ps, after := af, guard := gd } (yielded ops a.tmps) = true := by with_unfolding_all rfl) (hx : a.eval x = .pointer (some ⟨b, q + j, none⟩) := by with_unfolding_all rfl) (hd : D.isRow = false := by rfl) (ha : a.put d v = a' := by (simp only [pu, sB, s0, sS]; try rfl)) :
    wpList P ops Q' ({ dst := d, op := .load T x, type := ty, pos := ps, after := af, guard := gd } :: rest) a w := by
  subst ha
  have hc : w.cell? ⟨b, q + j, none⟩ = some v := hr j v (by simpa using hv)
  have hagg : (isAgg T).run P w = .ok false w := by
    unfold isAgg
    rw [Sem.run_bind, run_underlying hu w]
    cases D <;> simp_all
  have hL : (loadVar T ⟨b, q + j, none⟩).run P w = .ok v w := by simp [loadVar, Sem.run_bind, hagg, hc]
  refine rN hw ?_ h
  unfold execOp
  simp only [hx, Instr.loadAt, Instr.sureAddr, Sem.run_bind, Sem.run_pure, Result.andThen_ok, hL]
end
section
variable {w0 w : World} {l : List Bk} {P : Program} {ops : Array Oper} {o oi : Oper} {a a' : Act} {Q : Exit → Act → World → Prop} {md : Region.Mode} {S : World → Prop} {fuel : Nat} {listed : Array Bool}
/-- an operation taken in a region that draws and makes memory -/
theorem tA (i : Nat) (d : Option Tmp) (hi : ops[i]? = some oi) (hd : oi.dst = d) {v : Value} (hS : S w) (h : wpAnyH P md ops Q S fuel (listed.setIfInBounds i true) a' w)
    (hy : ∀ w, S w → (execOp a.eval oi).run P w = .ok (.value v) w := by (intro w hS; go_simp; try with_reducible rfl)) (hQ : ∀ c a w, Q (.panic c) (a.put d v) w → Q (.panic c) a w := by exact fun _ _ _ h => h)
    (hs : Region.noSelect ops = true := by kernel_rfl) (hf : Region.free md ops listed i = true := by kernel_rfl) (hr : (Region.ready md ops listed).contains i = true := by kernel_rfl) (hw : Region.wanted oi (yielded ops a.tmps) = true := by with_unfolding_all rfl) (ha : a.put d v = a' := by (simp only [pu, sB, s0, sS]; try rfl)) : wpAnyH P md ops Q S (fuel + 1) listed a w := by
  subst ha
  exact take_run i d hi hd hs hf hr hQ hw hy hS h
theorem tB (i : Nat) (d : Option Tmp) (hi : ops[i]? = some oi) (hd : oi.dst = d) (v : Value) (hy : ∀ w, S w → (execOp a.eval oi).run P w = .ok (.value v) w) (hS : S w) (h : wpAnyH P md ops Q S fuel (listed.setIfInBounds i true) a' w)
    (hQ : ∀ c a w, Q (.panic c) (a.put d v) w → Q (.panic c) a w := by exact fun _ _ _ h => h)
    (hs : Region.noSelect ops = true := by kernel_rfl) (hf : Region.free md ops listed i = true := by kernel_rfl) (hr : (Region.ready md ops listed).contains i = true := by kernel_rfl) (hw : Region.wanted oi (yielded ops a.tmps) = true := by with_unfolding_all rfl) (ha : a.put d v = a' := by (simp only [pu, sB, s0, sS]; try rfl)) : wpAnyH P md ops Q S (fuel + 1) listed a w := by
  subst ha
  exact take_run i d hi hd hs hf hr hQ hw hy hS h
/-- a struct of a row, read -/
theorem runR {T : TypeId} {x : Operand} {b q : Nat} {xs : Array Value} {D : TypeDesc} (ho : o.op = .load T x) (hx : a.eval x = .pointer (some ⟨b, q, none⟩)) (hr : w.rangeAt b q xs.toList) (hu : P.underlying T = some D) (hn : (P.info? T).map (·.size) = some xs.size) (hd : D.isRow = true) : (execOp a.eval o).run P w = .ok (.value (.agg xs)) w := by
  have hL := run_loadVar_mid (P := P) w b q T xs.toList D hr hu hd (by simpa using hn)
  unfold execOp
  simp only [ho, hx, Instr.loadAt, Instr.sureAddr, Sem.run_bind, Sem.run_pure, Result.andThen_ok, hL]
/-- a scalar of a block, read -/
theorem runLv {T T' : TypeId} {x : Operand} {b j : Nat} {cs : Array Value} {v : Value} {D : TypeDesc} (ho : o.op = .load T x) (hx : a.eval x = .pointer (some ⟨b, j, none⟩)) (hk : Blk w b cs T') (hv : cs[j]? = some v) (hu : P.underlying T = some D) (hd : D.isRow = false) : (execOp a.eval o).run P w = .ok (.value v) w := by
  unfold execOp
  simp only [ho, hx, Instr.loadAt, Instr.sureAddr, Sem.run_bind, Sem.run_pure, Result.andThen_ok, run_loadV hk hv hu hd]
/-- a new block, one of the operations that may come next -/
theorem rdA {i : Nat} {cs : Array Value} {T : TypeId} {rs : List Nat} (d : Option Tmp) (ho : ops[i]? = some o) (hd : o.dst = d) (hgd : o.guard = none) (M : Mm w0 w l) (hr : (execOp a.eval o).run P w = .ok (.value (.pointer (some ⟨w.heap.size, 0, none⟩))) (w.alloc (.cells cs T)))
    (h : ∀ p w', Mm w0 w' (l ++ [(p, cs, T)]) → ∃ a', a.put d (.pointer (some ⟨p, 0, none⟩)) = a' ∧ S w' ∧ wpAnyH P md ops Q S fuel (listed.setIfInBounds i true) a' w') (hs : AllReadyH P md ops Q S fuel listed a w rs) : AllReadyH P md ops Q S fuel listed a w (i :: rs) := by
  refine AllReadyH.cons ho (fun K' hK => ?_) hs
  rw [if_pos (by simp [Region.wanted, hgd])]
  unfold Oper.wp
  rw [hr]
  subst hd
  obtain ⟨a', rfl, h1, h2⟩ := h _ _ (M.alloc cs T)
  exact hK.out _ _ h1 fun _ => h2
/-- a struct stored whole, the operation that comes next -/
theorem rdS {i k : Nat} {x y : Operand} {T : TypeId} {p : Nat} {cs vs : Array Value} (ho : ops[i]? = some o) (hd : o.dst = none) (hgd : o.guard = none) (hop : o.op = .store T x y) (M : Mm w0 w l) (hl : l[k]? = some (p, cs, T)) (hx : a.eval x = .pointer (some ⟨p, 0, none⟩)) (hy : a.eval y = .agg vs) (hn : vs.size = cs.size) (hi : (P.info? T).map (·.size) = some vs.size) (h1 : vs.all (·.oneCell') = true)
    (h : ∀ w', Mm w0 w' (l.set k (p, vs, T)) → S w' ∧ wpAnyH P md ops Q S fuel (listed.setIfInBounds i true) a w') : AllReadyH P md ops Q S fuel listed a w [i] := by
  refine AllReadyH.cons ho (fun K' hK => ?_) AllReadyH.nil
  rw [if_pos (by simp [Region.wanted, hgd])]
  have hh := h _ (M.store k hl 0 vs.toList (laidAt_whole hn))
  refine wp_storeS x y hop hx hy (M.at k hl) hn hi h1 ?_
  rw [hd]
  exact hK.out _ _ hh.1 fun _ => hh.2
end
end Go.Proofs.YtbcgkeclmioeiaaGreatDoor
namespace Go.Proofs.YtbcgkeclmioeiaaGreatDoor
open Go.RowKit

section
variable {P : Program} {md : Region.Mode} {ops : Array Oper} {Q : Exit → Act → World → Prop} {S : World → Prop} {fuel : Nat} {listed : Array Bool} {a : Act} {w0 w : World} {o : Oper} {l : List Bk}
/-- a scalar stored, the operation that comes next -/
theorem rdV {i k : Nat} {x y : Operand} {T T' : TypeId} {p j : Nat} {cs cs' : Array Value} {v : Value} (ho : ops[i]? = some o) (hd : o.dst = none) (hgd : o.guard = none) (hop : o.op = .store T x y) (M : Mm w0 w l) (hl : l[k]? = some (p, cs, T')) (hx : a.eval x = .pointer (some ⟨p, j, none⟩)) (hy : a.eval y = v) (e : laidAt cs j [v] = cs') (hj : j < cs.size) (hi : (P.info? T).map (·.size) = some 1) (h1 : v.oneCell' = true)
    (h : ∀ w', Mm w0 w' (l.set k (p, cs', T')) → S w' ∧ wpAnyH P md ops Q S fuel (listed.setIfInBounds i true) a w') : AllReadyH P md ops Q S fuel listed a w [i] := by
  refine AllReadyH.cons ho (fun K' hK => ?_) AllReadyH.nil
  have hh := h _ (M.store k hl j [v] e)
  exact step_storeV hgd hd x y hop hx hy (M.at k hl) hj hi h1 (hK.out _ _ hh.1 fun _ => hh.2)
end
end Go.Proofs.YtbcgkeclmioeiaaGreatDoor
namespace Go.Proofs.YtbcgkeclmioeiaaGreatDoor
open Go.RowKit
open Wd (Bs)

theorem rowAt {n : Nat} {w : World} {b o len cap : Nat} {l : List (Array Value)} (h : RowS n w (.slice (some ⟨b, o, none⟩) len cap) l) {i : Nat} {x : Array Value} (hx : l[i]? = some x) : w.rangeAt b (o + i * n) x.toList := by
  obtain ⟨b', o', e, hr⟩ := h.get hx
  injection e with e
  injection e with e1 e2
  subst e1 e2
  exact hr
set_option maxHeartbeats 8000000 in
set_option maxRecDepth 100000 in
theorem lawMods (va vb : Value) (l : List (Array Value)) (w : World) (ha : RowS 20 w va l) (hb : RowS 20 w vb l) (hp : ∀ x ∈ l, Part 39 20 x) :
    Calls Tryz.prog 104 #[va, vb] w fun e w' => e = .returned (.bool true) ∧ Below w.heap.size w w' := by
  obtain ⟨a1, c1, rfl⟩ := ha.slice
  obtain ⟨a2, c2, rfl⟩ := hb.slice
  have hlen := ha.len
  unfold maxLen at hlen
  have HA := Lib.hid ha
  have HB := Lib.hid hb
  have HP := Lib.hid hp
  clear ha hb hp

  have M := Mm.nil w
  go_enter Tryz.func104, Tryz.ntmps104
  go_upto_region 0 with fail
  refine wp_region_lit ?_
  with_reducible refine rA ?_
  go_upto_region 1 with fail
  refine wp_region_lit ?_
  iterate 5 (with_reducible refine rA ?_)
  go_upto_region 3 with fail
  refine wp_region_lit ?_
  with_reducible refine rA ?_
  go_wp2_with fail
  go_loopw [5] (fun iv wr => ∃ i : Nat, i ≤ l.length ∧ iv = .int .i64 (i : Int) ∧ Mm w wr []) (fun iv _ => l.length - (intOf iv).toNat)
  case atStart => exact ⟨0, Nat.zero_le _, rfl, M⟩
  case round =>
    clear M
    obtain ⟨i, hi, rfl, M⟩ := hrel
    by_cases hlt : i < l.length
    · have h1 : (i : Int) < (l.length : Int) := by omega
      have h0 : (0 : Int) ≤ (i : Int) := by omega
      obtain ⟨x, hx⟩ : ∃ x, l[i]? = some x := ⟨_, List.getElem?_eq_getElem hlt⟩
      have HX := Lib.hid (HP.out x (List.mem_of_getElem? hx))
      have hq := HX.out.eq
      obtain ⟨b1, o1, rfl, _⟩ := HA.out.get hx
      obtain ⟨b2, o2, rfl, _⟩ := HB.out.get hx
      have HXI := Lib.hid hx
      clear hx
      go_upto_region 4 with fail
      refine wp_region_lit ?_
      iterate 4 (with_reducible refine rA ?_)
      go_upto_region 6 with fail
      refine wp_region_still_tail 8 (by kernel_rfl) (by kernel_rfl) ?_
      simp only [List.take_succ_cons, List.take_zero, List.drop_succ_cons, List.drop_zero]
      replace M := M.drew
      change wpStill _ _ (World.drew _) (fun a' => wpList _ _ _ _ a' (World.drew _)) _ _
      generalize World.drew _ = u at M ⊢
      with_reducible refine sA ?_
      with_reducible refine sA ?_
      (with_reducible refine sBt (.pointer (some ⟨b1, o1 + i * 20, none⟩)) ?_ ?_); (· go_simp; (try rfl))
      with_reducible refine sR (rowAt (HA.out.below M.b (Nat.le_refl _)) HXI.out) Tryz.underlying39 (infoTMo20 HX.out.size) ?_
      with_reducible refine sA ?_
      with_reducible refine sA ?_
      (with_reducible refine sBt (.pointer (some ⟨b2, o2 + i * 20, none⟩)) ?_ ?_); (· go_simp; (try rfl))
      with_reducible refine sR (rowAt (HB.out.below M.b (Nat.le_refl _)) HXI.out) Tryz.underlying39 (infoTMo20 HX.out.size) ?_
      refine sEnd ?_
      show wpList _ _ _ _ _ u
      with_reducible refine rA ?_
      go_upto_region 5 with fail
      refine wp_region_lit ?_
      with_reducible refine rA ?_
      (with_reducible refine rB (.int .i64 ((i + 1 : Nat) : Int)) ?_ ?_); (· go_simp; (try exact IntWalk.i64_in _ (by omega)))
      with_reducible refine rA ?_
      go_wp2_with fail
      go_roundw
      case rel => exact ⟨i + 1, by omega, rfl, M⟩
      case measure => simp [intOf]; omega
    · have h1 : ¬ (i : Int) < (l.length : Int) := by omega
      go_upto_region 4 with fail
      refine wp_region_lit ?_
      iterate 4 (with_reducible refine rA ?_)
      go_upto_region 8 with fail
      refine wp_region_lit ?_
      with_reducible refine rA ?_
      go_wp2_with fail
      go_ret
      exact ⟨rfl, M.b⟩
end Go.Proofs.YtbcgkeclmioeiaaGreatDoor
namespace Go.Proofs.YtbcgkeclmioeiaaGreatDoor
open Go.RowKit

theorem row_cells {n : Nat} (hn : 0 < n) {w : World} {a : Addr} {len cap : Nat} {l : List (Array Value)} (h : RowS n w (.slice (some a) len cap) l) : ∀ j u, (flat l)[j]? = some u → w.cell? (a.add j) = some u := fun j u hu => by
  obtain ⟨a', c', e, _, _, hs, h4⟩ := h
  injection e with e1
  rw [flat_nth hn hs] at hu
  obtain ⟨x, hx, hxu⟩ := Option.bind_eq_some_iff.1 hu
  obtain ⟨b, o, ea, _, hr⟩ := h4 _ x hx
  rw [← e1] at ea
  injection ea with ea
  subst ea
  have := hr (j % n) u (by simpa using hxu)
  have hadd : (⟨b, o, none⟩ : Addr).add j = ⟨b, o + j, none⟩ := by unfold Addr.add; split <;> simp_all
  rw [hadd, show o + j = o + j / n * n + j % n by have := Nat.div_add_mod j n; rw [Nat.mul_comm] at this; omega]
  exact this
theorem flat_one {l : List (Array Value)} (h : ∀ x ∈ l, x.all (·.oneCell') = true) : ∀ u ∈ flat l, u.oneCell' = true := fun u hu => by
  unfold flat at hu
  obtain ⟨x, hx, hux⟩ := List.mem_flatMap.1 hu
  exact (Array.all_eq_true_iff_forall_mem.1 (h x hx)) u (by simpa using hux)
theorem row_none {n : Nat} {w : World} {len cap : Nat} {l : List (Array Value)} (h : RowS n w (.slice none len cap) l) : l = [] := by
  cases l with
  | nil => rfl
  | cons x r =>
    obtain ⟨b, o, e, _⟩ := h.get (i := 0) (x := x) rfl
    cases e
set_option maxHeartbeats 2000000 in
set_option maxRecDepth 100000 in
theorem cloneMo (v : Value) (l : List (Array Value)) (w : World) (hv : RowS 20 w v l) (hl : l.length ≤ 1000) (h1 : ∀ x ∈ l, x.all (·.oneCell') = true) :
    Calls Tryz.prog 154 #[v] w fun e w' => (∃ v', e = .returned v' ∧ OwnRowS 39 20 w.heap.size w' v' l) ∧ Below w.heap.size w w' := by
  obtain ⟨ad, cap, ev⟩ := hv.slice
  subst ev
  have q : ∀ (w : World) (a : Option Addr) (n c n' c' : Nat), (binOp .eql 42 (.slice a n c) (.slice none n' c')).run Tryz.prog w = .ok (.bool a.isNone) w := fun w a n c n' c' => Lib.run_eql_slice_nil w _ _ a n c n' c' Tryz.underlying42
  have hsz : ∀ x ∈ l, x.size = 20 := by obtain ⟨_, _, _, _, _, h, _⟩ := hv; exact h
  cases ad with
  | none =>
    obtain rfl := row_none hv
    clear hv h1 hl hsz
    go_enter Tryz.func154, Tryz.ntmps154
    go_wp2
    go_ret
    exact ⟨⟨_, rfl, OwnRowS.nil _ _ _ _⟩, Below.refl _ _⟩
  | some a =>
    have hc := row_cells (by decide) hv
    have hb0 := bytesMo
    have HB : Hid ((0 + l.length) * iMo.bytes ≤ 140737488355328) := Lib.hid (by rw [Nat.zero_add]; exact Nat.le_trans (Nat.mul_le_mul hl hb0) (by decide))
    have HC := Lib.hid hc
    have HO := Lib.hid (flat_one h1)
    have HF := Lib.hid (flat_len hsz)
    have HS := Lib.hid hsz
    have HM : Hid (0 + l.length ≤ maxLen) := Lib.hid (by unfold maxLen; omega)
    clear hv hc h1 hl hsz hb0
    go_enter Tryz.func154, Tryz.ntmps154
    go_wp2_with (at_builtin; refine wpList_append_own _ rfl _ _ 42 rfl w.heap.size 39 iMo zMo 20 iMo.bytes Tryz.underlying42 infoMo zeroMo sizeMo rfl zMo_cells (by decide) _ _ _ rfl (World.ownsRow_made w #[] 0 (Nat.le_refl _) (Nat.zero_le _) (by simp)) a l.length cap (flat l) rfl ?qc1 ?qc2 ?qc3 ?qc4 ?qc5 ?qc6 ?_)
    case qc1 => exact HF.out
    case qc2 => intro j u hj; exact Lib.cell?_alloc_some _ (HC.out j u hj)
    case qc3 => exact HO.out
    case qc4 => exact HM.out
    case qc5 => exact HB.out
    case qc6 => simp
    intro v' w1 hown hgrow hnil
    go_wp2
    go_ret
    refine ⟨⟨v', rfl, HS.out, by simpa using hown⟩, ?_⟩
    exact ((Below.refl _ w).alloc (Nat.le_refl _) _).grown hgrow (by simp) (by intro k hk; simp [Value.ownBlock] at hk; omega)
noncomputable def iSp : TypeInfo := (Tryz.prog.info? 119).get (by kernel_rfl)
noncomputable def zSp : Value := iSp.zero.get (by kernel_rfl)
theorem infoSp : Tryz.prog.info? 119 = some iSp := by kernel_rfl
theorem zeroSp : iSp.zero = some zSp := by kernel_rfl
theorem sizeSp : iSp.size = 18 := by kernel_rfl
theorem bytesSp : iSp.bytes ≤ 1000 := of_decide_eq_true (by kernel_rfl)
theorem zSp_cells : zSp.cells.size = 18 := by kernel_rfl
set_option maxHeartbeats 2000000 in
set_option maxRecDepth 100000 in
theorem cloneSp (v : Value) (l : List (Array Value)) (w : World) (hv : RowS 18 w v l) (hl : l.length ≤ 1000) (h1 : ∀ x ∈ l, x.all (·.oneCell') = true) :
    Calls Tryz.prog 155 #[v] w fun e w' => (∃ v', e = .returned v' ∧ OwnRowS 119 18 w.heap.size w' v' l) ∧ Below w.heap.size w w' := by
  obtain ⟨ad, cap, ev⟩ := hv.slice
  subst ev
  have q : ∀ (w : World) (a : Option Addr) (n c n' c' : Nat), (binOp .eql 66 (.slice a n c) (.slice none n' c')).run Tryz.prog w = .ok (.bool a.isNone) w := fun w a n c n' c' => Lib.run_eql_slice_nil w _ _ a n c n' c' Tryz.underlying66
  have hsz : ∀ x ∈ l, x.size = 18 := by obtain ⟨_, _, _, _, _, h, _⟩ := hv; exact h
  cases ad with
  | none =>
    obtain rfl := row_none hv
    clear hv h1 hl hsz
    go_enter Tryz.func155, Tryz.ntmps155
    go_wp2
    go_ret
    exact ⟨⟨_, rfl, OwnRowS.nil _ _ _ _⟩, Below.refl _ _⟩
  | some a =>
    have hc := row_cells (by decide) hv
    have hb0 := bytesSp
    have HB : Hid ((0 + l.length) * iSp.bytes ≤ 140737488355328) := Lib.hid (by rw [Nat.zero_add]; exact Nat.le_trans (Nat.mul_le_mul hl hb0) (by decide))
    have HC := Lib.hid hc
    have HO := Lib.hid (flat_one h1)
    have HF := Lib.hid (flat_len hsz)
    have HS := Lib.hid hsz
    have HM : Hid (0 + l.length ≤ maxLen) := Lib.hid (by unfold maxLen; omega)
    clear hv hc h1 hl hsz hb0
    go_enter Tryz.func155, Tryz.ntmps155
    go_wp2_with (at_builtin; refine wpList_append_own _ rfl _ _ 66 rfl w.heap.size 119 iSp zSp 18 iSp.bytes Tryz.underlying66 infoSp zeroSp sizeSp rfl zSp_cells (by decide) _ _ _ rfl (World.ownsRow_made w #[] 0 (Nat.le_refl _) (Nat.zero_le _) (by simp)) a l.length cap (flat l) rfl ?qc1 ?qc2 ?qc3 ?qc4 ?qc5 ?qc6 ?_)
    case qc1 => exact HF.out
    case qc2 => intro j u hj; exact Lib.cell?_alloc_some _ (HC.out j u hj)
    case qc3 => exact HO.out
    case qc4 => exact HM.out
    case qc5 => exact HB.out
    case qc6 => simp
    intro v' w1 hown hgrow hnil
    go_wp2
    go_ret
    refine ⟨⟨v', rfl, HS.out, by simpa using hown⟩, ?_⟩
    exact ((Below.refl _ w).alloc (Nat.le_refl _) _).grown hgrow (by simp) (by intro k hk; simp [Value.ownBlock] at hk; omega)
noncomputable def iEf : TypeInfo := (Tryz.prog.info? 77).get (by kernel_rfl)
noncomputable def zEf : Value := iEf.zero.get (by kernel_rfl)
theorem infoEf : Tryz.prog.info? 77 = some iEf := by kernel_rfl
theorem zeroEf : iEf.zero = some zEf := by kernel_rfl
theorem sizeEf : iEf.size = 64 := by kernel_rfl
theorem bytesEf : iEf.bytes ≤ 1000 := of_decide_eq_true (by kernel_rfl)
theorem zEf_cells : zEf.cells.size = 64 := by kernel_rfl
set_option maxHeartbeats 2000000 in
set_option maxRecDepth 100000 in
theorem cloneEf (v : Value) (l : List (Array Value)) (w : World) (hv : RowS 64 w v l) (hl : l.length ≤ 1000) (h1 : ∀ x ∈ l, x.all (·.oneCell') = true) :
    Calls Tryz.prog 180 #[v] w fun e w' => (∃ v', e = .returned v' ∧ OwnRowS 77 64 w.heap.size w' v' l) ∧ Below w.heap.size w w' := by
  obtain ⟨ad, cap, ev⟩ := hv.slice
  subst ev
  have q : ∀ (w : World) (a : Option Addr) (n c n' c' : Nat), (binOp .eql 67 (.slice a n c) (.slice none n' c')).run Tryz.prog w = .ok (.bool a.isNone) w := fun w a n c n' c' => Lib.run_eql_slice_nil w _ _ a n c n' c' Tryz.underlying67
  have hsz : ∀ x ∈ l, x.size = 64 := by obtain ⟨_, _, _, _, _, h, _⟩ := hv; exact h
  cases ad with
  | none =>
    obtain rfl := row_none hv
    clear hv h1 hl hsz
    go_enter Tryz.func180, Tryz.ntmps180
    go_wp2
    go_ret
    exact ⟨⟨_, rfl, OwnRowS.nil _ _ _ _⟩, Below.refl _ _⟩
  | some a =>
    have hc := row_cells (by decide) hv
    have hb0 := bytesEf
    have HB : Hid ((0 + l.length) * iEf.bytes ≤ 140737488355328) := Lib.hid (by rw [Nat.zero_add]; exact Nat.le_trans (Nat.mul_le_mul hl hb0) (by decide))
    have HC := Lib.hid hc
    have HO := Lib.hid (flat_one h1)
    have HF := Lib.hid (flat_len hsz)
    have HS := Lib.hid hsz
    have HM : Hid (0 + l.length ≤ maxLen) := Lib.hid (by unfold maxLen; omega)
    clear hv hc h1 hl hsz hb0
    go_enter Tryz.func180, Tryz.ntmps180
    go_wp2_with (at_builtin; refine wpList_append_own _ rfl _ _ 67 rfl w.heap.size 77 iEf zEf 64 iEf.bytes Tryz.underlying67 infoEf zeroEf sizeEf rfl zEf_cells (by decide) _ _ _ rfl (World.ownsRow_made w #[] 0 (Nat.le_refl _) (Nat.zero_le _) (by simp)) a l.length cap (flat l) rfl ?qc1 ?qc2 ?qc3 ?qc4 ?qc5 ?qc6 ?_)
    case qc1 => exact HF.out
    case qc2 => intro j u hj; exact Lib.cell?_alloc_some _ (HC.out j u hj)
    case qc3 => exact HO.out
    case qc4 => exact HM.out
    case qc5 => exact HB.out
    case qc6 => simp
    intro v' w1 hown hgrow hnil
    go_wp2
    go_ret
    refine ⟨⟨v', rfl, HS.out, by simpa using hown⟩, ?_⟩
    exact ((Below.refl _ w).alloc (Nat.le_refl _) _).grown hgrow (by simp) (by intro k hk; simp [Value.ownBlock] at hk; omega)
noncomputable def iAb : TypeInfo := (Tryz.prog.info? 71).get (by kernel_rfl)
noncomputable def zAb : Value := iAb.zero.get (by kernel_rfl)
theorem infoAb : Tryz.prog.info? 71 = some iAb := by kernel_rfl
theorem zeroAb : iAb.zero = some zAb := by kernel_rfl
theorem sizeAb : iAb.size = 72 := by kernel_rfl
theorem bytesAb : iAb.bytes ≤ 1000 := of_decide_eq_true (by kernel_rfl)
theorem zAb_cells : zAb.cells.size = 72 := by kernel_rfl
set_option maxHeartbeats 2000000 in
set_option maxRecDepth 100000 in
theorem cloneAb (v : Value) (l : List (Array Value)) (w : World) (hv : RowS 72 w v l) (hl : l.length ≤ 1000) (h1 : ∀ x ∈ l, x.all (·.oneCell') = true) :
    Calls Tryz.prog 153 #[v] w fun e w' => (∃ v', e = .returned v' ∧ OwnRowS 71 72 w.heap.size w' v' l) ∧ Below w.heap.size w w' := by
  obtain ⟨ad, cap, ev⟩ := hv.slice
  subst ev
  have q : ∀ (w : World) (a : Option Addr) (n c n' c' : Nat), (binOp .eql 54 (.slice a n c) (.slice none n' c')).run Tryz.prog w = .ok (.bool a.isNone) w := fun w a n c n' c' => Lib.run_eql_slice_nil w _ _ a n c n' c' Tryz.underlying54
  have hsz : ∀ x ∈ l, x.size = 72 := by obtain ⟨_, _, _, _, _, h, _⟩ := hv; exact h
  cases ad with
  | none =>
    obtain rfl := row_none hv
    clear hv h1 hl hsz
    go_enter Tryz.func153, Tryz.ntmps153
    go_wp2
    go_ret
    exact ⟨⟨_, rfl, OwnRowS.nil _ _ _ _⟩, Below.refl _ _⟩
  | some a =>
    have hc := row_cells (by decide) hv
    have hb0 := bytesAb
    have HB : Hid ((0 + l.length) * iAb.bytes ≤ 140737488355328) := Lib.hid (by rw [Nat.zero_add]; exact Nat.le_trans (Nat.mul_le_mul hl hb0) (by decide))
    have HC := Lib.hid hc
    have HO := Lib.hid (flat_one h1)
    have HF := Lib.hid (flat_len hsz)
    have HS := Lib.hid hsz
    have HM : Hid (0 + l.length ≤ maxLen) := Lib.hid (by unfold maxLen; omega)
    clear hv hc h1 hl hsz hb0
    go_enter Tryz.func153, Tryz.ntmps153
    go_wp2_with (at_builtin; refine wpList_append_own _ rfl _ _ 54 rfl w.heap.size 71 iAb zAb 72 iAb.bytes Tryz.underlying54 infoAb zeroAb sizeAb rfl zAb_cells (by decide) _ _ _ rfl (World.ownsRow_made w #[] 0 (Nat.le_refl _) (Nat.zero_le _) (by simp)) a l.length cap (flat l) rfl ?qc1 ?qc2 ?qc3 ?qc4 ?qc5 ?qc6 ?_)
    case qc1 => exact HF.out
    case qc2 => intro j u hj; exact Lib.cell?_alloc_some _ (HC.out j u hj)
    case qc3 => exact HO.out
    case qc4 => exact HM.out
    case qc5 => exact HB.out
    case qc6 => simp
    intro v' w1 hown hgrow hnil
    go_wp2
    go_ret
    refine ⟨⟨v', rfl, HS.out, by simpa using hown⟩, ?_⟩
    exact ((Below.refl _ w).alloc (Nat.le_refl _) _).grown hgrow (by simp) (by intro k hk; simp [Value.ownBlock] at hk; omega)
end Go.Proofs.YtbcgkeclmioeiaaGreatDoor
namespace Go.Proofs.YtbcgkeclmioeiaaGreatDoor
open Go.RowKit
open Wd (Bs)

/-- a variable of a type made, its zero value not opened -/
theorem run_allocOp {P : Program} {o : Oper} {ev : Operand → Value} {w : World} {T : TypeId} {i : TypeInfo} {z : Value} (ho : o.op = .alloc T) (hi : P.info? T = some i) (hz : i.zero = some z) :
    (execOp ev o).run P w = .ok (.value (.pointer (some ⟨w.heap.size, 0, none⟩))) (w.alloc (.cells z.cells T)) := by
  unfold execOp
  simp only [ho, Sem.run_bind]
  have hr : (Instr.alloc T true (.tuple #[])).run P w = .ok (.pointer (some ⟨w.heap.size, 0, none⟩)) (w.alloc (.cells z.cells T)) := by
    unfold Instr.alloc
    simp [typeInfo, zeroValue, hi, hz, Sem.run_bind, newVar, newRow, newObj]
    rfl
  simp [hr]
theorem RowS.oneCell {n : Nat} {w : World} {v : Value} {l : List (Array Value)} (h : RowS n w v l) : v.oneCell' = true := by
  obtain ⟨ad, cap, e⟩ := h.slice
  rw [e]
  rfl
noncomputable def iTr : TypeInfo := (Tryz.prog.info? 56).get (by kernel_rfl)
noncomputable def zTr : Value := iTr.zero.get (by kernel_rfl)
theorem infoTr : Tryz.prog.info? 56 = some iTr := by kernel_rfl
theorem zeroTr : iTr.zero = some zTr := by kernel_rfl
theorem zTr_cells : zTr.cells.size = 17 := by kernel_rfl
theorem szTr {xs : Array Value} (h : xs.size = 17) : (Tryz.prog.info? 56).map (·.size) = some xs.size := by rw [h]; kernel_rfl
theorem szEf {xs : Array Value} (h : xs.size = 64) : (Tryz.prog.info? 77).map (·.size) = some xs.size := by rw [h]; kernel_rfl
theorem szAb {xs : Array Value} (h : xs.size = 72) : (Tryz.prog.info? 71).map (·.size) = some xs.size := by rw [h]; kernel_rfl
theorem szL {xs : Array Value} (h : xs.size = 3) : (Tryz.prog.info? 53).map (·.size) = some xs.size := by rw [h]; kernel_rfl
theorem efC_sz {d : EfD} {v : Value} (h : EfOk d) : (efC d v).size = 64 := by
  unfold efC
  rw [cat_size]
  simp [sizes, h.ref.size, h.am.size, h.fl.size, h.pool.size]
theorem efC_one {d : EfD} {v : Value} (h : EfOk d) (o8 : v.oneCell' = true) : (efC d v).all (·.oneCell') = true := (one_cons (one_int _ _) (one_cons (h.ref.one) (one_cons (h.am.one) (one_cons (one_int _ _) (one_cons (one_int _ _) (one_cons (one_str _) (one_cons (h.fl.one) (one_cons (h.pool.one) (one_cons (by simp [o8]) one_nil)))))))))
theorem efC_0 {d : EfD} {v : Value} (_h : EfOk d) : (efC d v)[0]? = some (.int .i64 d.op) := cat_cell [] (.int .i64 d.op) [d.ref, d.am, #[.int .i64 d.ctr], #[.int .i64 d.zone], #[.string d.card], d.fl, d.pool, #[v]] (o := 0) rfl
theorem efC_p0 {d : EfD} {v : Value} (_h : EfOk d) {x : Int} : laidAt (efC d v) 0 [.int .i64 x] = efC { d with op := x } v := cat_put [] (.int .i64 d.op) (.int .i64 x) [d.ref, d.am, #[.int .i64 d.ctr], #[.int .i64 d.zone], #[.string d.card], d.fl, d.pool, #[v]] (o := 0) rfl
theorem efC_f1 {d : EfD} {v : Value} (_h : EfOk d) : ∀ (j : Nat) y, (d.ref)[j]? = some y → (efC d v)[1 + j]? = some y := cat_part [#[.int .i64 d.op]] (d.ref) [d.am, #[.int .i64 d.ctr], #[.int .i64 d.zone], #[.string d.card], d.fl, d.pool, #[v]] (o := 1) (by simp [sizes])
theorem efC_f19 {d : EfD} {v : Value} (h : EfOk d) : ∀ (j : Nat) y, (d.am)[j]? = some y → (efC d v)[19 + j]? = some y := cat_part [#[.int .i64 d.op], d.ref] (d.am) [#[.int .i64 d.ctr], #[.int .i64 d.zone], #[.string d.card], d.fl, d.pool, #[v]] (o := 19) (by simp [sizes, h.ref.size])
theorem efC_38 {d : EfD} {v : Value} (h : EfOk d) : (efC d v)[38]? = some (.int .i64 d.ctr) := cat_cell [#[.int .i64 d.op], d.ref, d.am] (.int .i64 d.ctr) [#[.int .i64 d.zone], #[.string d.card], d.fl, d.pool, #[v]] (o := 38) (by simp [sizes, h.ref.size, h.am.size])
theorem efC_39 {d : EfD} {v : Value} (h : EfOk d) : (efC d v)[39]? = some (.int .i64 d.zone) := cat_cell [#[.int .i64 d.op], d.ref, d.am, #[.int .i64 d.ctr]] (.int .i64 d.zone) [#[.string d.card], d.fl, d.pool, #[v]] (o := 39) (by simp [sizes, h.ref.size, h.am.size])
theorem efC_40 {d : EfD} {v : Value} (h : EfOk d) : (efC d v)[40]? = some (.string d.card) := cat_cell [#[.int .i64 d.op], d.ref, d.am, #[.int .i64 d.ctr], #[.int .i64 d.zone]] (.string d.card) [d.fl, d.pool, #[v]] (o := 40) (by simp [sizes, h.ref.size, h.am.size])
theorem efC_f41 {d : EfD} {v : Value} (h : EfOk d) : ∀ (j : Nat) y, (d.fl)[j]? = some y → (efC d v)[41 + j]? = some y := cat_part [#[.int .i64 d.op], d.ref, d.am, #[.int .i64 d.ctr], #[.int .i64 d.zone], #[.string d.card]] (d.fl) [d.pool, #[v]] (o := 41) (by simp [sizes, h.ref.size, h.am.size])
theorem efC_f57 {d : EfD} {v : Value} (h : EfOk d) : ∀ (j : Nat) y, (d.pool)[j]? = some y → (efC d v)[57 + j]? = some y := cat_part [#[.int .i64 d.op], d.ref, d.am, #[.int .i64 d.ctr], #[.int .i64 d.zone], #[.string d.card], d.fl] (d.pool) [#[v]] (o := 57) (by simp [sizes, h.ref.size, h.am.size, h.fl.size])
theorem efC_63 {d : EfD} {v : Value} (h : EfOk d) : (efC d v)[63]? = some (v) := cat_cell [#[.int .i64 d.op], d.ref, d.am, #[.int .i64 d.ctr], #[.int .i64 d.zone], #[.string d.card], d.fl, d.pool] (v) [] (o := 63) (by simp [sizes, h.ref.size, h.am.size, h.fl.size, h.pool.size])
theorem efC_p63 {d : EfD} {v : Value} (h : EfOk d) {x : Value} : laidAt (efC d v) 63 [x] = efC d x := cat_put [#[.int .i64 d.op], d.ref, d.am, #[.int .i64 d.ctr], #[.int .i64 d.zone], #[.string d.card], d.fl, d.pool] (v) (x) [] (o := 63) (by simp [sizes, h.ref.size, h.am.size, h.fl.size, h.pool.size])
theorem abC_sz {d : AbD} {v1 v2 v3 : Value} (h : AbOk d) : (abC d v1 v2 v3).size = 72 := by
  unfold abC
  rw [cat_size]
  simp [sizes, h.fl.size, h.price.size, h.trig.size, h.repl.size]
theorem abC_one {d : AbD} {v1 v2 v3 : Value} (h : AbOk d) (o2 : v1.oneCell' = true) (o7 : v2.oneCell' = true) (o8 : v3.oneCell' = true) : (abC d v1 v2 v3).all (·.oneCell') = true := (one_cons (one_int _ _) (one_cons (h.fl.one) (one_cons (by simp [o2]) (one_cons (h.price.one) (one_cons (one_bool _) (one_cons (h.trig.one) (one_cons (one_bool _) (one_cons (by simp [o7]) (one_cons (by simp [o8]) (one_cons (h.repl.one) one_nil))))))))))
theorem abC_0 {d : AbD} {v1 v2 v3 : Value} (_h : AbOk d) : (abC d v1 v2 v3)[0]? = some (.int .i64 d.kind) := cat_cell [] (.int .i64 d.kind) [d.fl, #[v1], d.price, #[.bool d.slow], d.trig, #[.bool d.may], #[v2], #[v3], d.repl] (o := 0) rfl
theorem abC_p0 {d : AbD} {v1 v2 v3 : Value} (_h : AbOk d) {x : Int} : laidAt (abC d v1 v2 v3) 0 [.int .i64 x] = abC { d with kind := x } v1 v2 v3 := cat_put [] (.int .i64 d.kind) (.int .i64 x) [d.fl, #[v1], d.price, #[.bool d.slow], d.trig, #[.bool d.may], #[v2], #[v3], d.repl] (o := 0) rfl
theorem abC_f1 {d : AbD} {v1 v2 v3 : Value} (_h : AbOk d) : ∀ (j : Nat) y, (d.fl)[j]? = some y → (abC d v1 v2 v3)[1 + j]? = some y := cat_part [#[.int .i64 d.kind]] (d.fl) [#[v1], d.price, #[.bool d.slow], d.trig, #[.bool d.may], #[v2], #[v3], d.repl] (o := 1) (by simp [sizes])
theorem abC_17 {d : AbD} {v1 v2 v3 : Value} (h : AbOk d) : (abC d v1 v2 v3)[17]? = some (v1) := cat_cell [#[.int .i64 d.kind], d.fl] (v1) [d.price, #[.bool d.slow], d.trig, #[.bool d.may], #[v2], #[v3], d.repl] (o := 17) (by simp [sizes, h.fl.size])
theorem abC_p17 {d : AbD} {v1 v2 v3 : Value} (h : AbOk d) {x : Value} : laidAt (abC d v1 v2 v3) 17 [x] = abC d x v2 v3 := cat_put [#[.int .i64 d.kind], d.fl] (v1) (x) [d.price, #[.bool d.slow], d.trig, #[.bool d.may], #[v2], #[v3], d.repl] (o := 17) (by simp [sizes, h.fl.size])
theorem abC_f18 {d : AbD} {v1 v2 v3 : Value} (h : AbOk d) : ∀ (j : Nat) y, (d.price)[j]? = some y → (abC d v1 v2 v3)[18 + j]? = some y := cat_part [#[.int .i64 d.kind], d.fl, #[v1]] (d.price) [#[.bool d.slow], d.trig, #[.bool d.may], #[v2], #[v3], d.repl] (o := 18) (by simp [sizes, h.fl.size])
theorem abC_28 {d : AbD} {v1 v2 v3 : Value} (h : AbOk d) : (abC d v1 v2 v3)[28]? = some (.bool d.slow) := cat_cell [#[.int .i64 d.kind], d.fl, #[v1], d.price] (.bool d.slow) [d.trig, #[.bool d.may], #[v2], #[v3], d.repl] (o := 28) (by simp [sizes, h.fl.size, h.price.size])
theorem abC_f29 {d : AbD} {v1 v2 v3 : Value} (h : AbOk d) : ∀ (j : Nat) y, (d.trig)[j]? = some y → (abC d v1 v2 v3)[29 + j]? = some y := cat_part [#[.int .i64 d.kind], d.fl, #[v1], d.price, #[.bool d.slow]] (d.trig) [#[.bool d.may], #[v2], #[v3], d.repl] (o := 29) (by simp [sizes, h.fl.size, h.price.size])
theorem abC_47 {d : AbD} {v1 v2 v3 : Value} (h : AbOk d) : (abC d v1 v2 v3)[47]? = some (.bool d.may) := cat_cell [#[.int .i64 d.kind], d.fl, #[v1], d.price, #[.bool d.slow], d.trig] (.bool d.may) [#[v2], #[v3], d.repl] (o := 47) (by simp [sizes, h.fl.size, h.price.size, h.trig.size])
theorem abC_48 {d : AbD} {v1 v2 v3 : Value} (h : AbOk d) : (abC d v1 v2 v3)[48]? = some (v2) := cat_cell [#[.int .i64 d.kind], d.fl, #[v1], d.price, #[.bool d.slow], d.trig, #[.bool d.may]] (v2) [#[v3], d.repl] (o := 48) (by simp [sizes, h.fl.size, h.price.size, h.trig.size])
theorem abC_p48 {d : AbD} {v1 v2 v3 : Value} (h : AbOk d) {x : Value} : laidAt (abC d v1 v2 v3) 48 [x] = abC d v1 x v3 := cat_put [#[.int .i64 d.kind], d.fl, #[v1], d.price, #[.bool d.slow], d.trig, #[.bool d.may]] (v2) (x) [#[v3], d.repl] (o := 48) (by simp [sizes, h.fl.size, h.price.size, h.trig.size])
theorem abC_49 {d : AbD} {v1 v2 v3 : Value} (h : AbOk d) : (abC d v1 v2 v3)[49]? = some (v3) := cat_cell [#[.int .i64 d.kind], d.fl, #[v1], d.price, #[.bool d.slow], d.trig, #[.bool d.may], #[v2]] (v3) [d.repl] (o := 49) (by simp [sizes, h.fl.size, h.price.size, h.trig.size])
theorem abC_p49 {d : AbD} {v1 v2 v3 : Value} (h : AbOk d) {x : Value} : laidAt (abC d v1 v2 v3) 49 [x] = abC d v1 v2 x := cat_put [#[.int .i64 d.kind], d.fl, #[v1], d.price, #[.bool d.slow], d.trig, #[.bool d.may], #[v2]] (v3) (x) [d.repl] (o := 49) (by simp [sizes, h.fl.size, h.price.size, h.trig.size])
theorem abC_f50 {d : AbD} {v1 v2 v3 : Value} (h : AbOk d) : ∀ (j : Nat) y, (d.repl)[j]? = some y → (abC d v1 v2 v3)[50 + j]? = some y := cat_part [#[.int .i64 d.kind], d.fl, #[v1], d.price, #[.bool d.slow], d.trig, #[.bool d.may], #[v2], #[v3]] (d.repl) [] (o := 50) (by simp [sizes, h.fl.size, h.price.size, h.trig.size])
/-- a type line's cells -/
def liC (a b : Int) (v : Value) : Array Value := #[.int .i64 a, .int .i64 b, v]
/-- characteristics' cells -/
def trC (nm : ByteArray) (co : Array Value) (c a b : Int) (sv : Value) (p t k : Int) (av : Value) (u : Int) : Array Value := cat [#[.string nm], co, #[.int .i64 c], #[.int .i64 a], #[.int .i64 b], #[sv], #[.int .i64 p], #[.int .i64 t], #[.int .i64 k], #[av], #[.int .i64 u]]
theorem trC_sz {nm : ByteArray} {co : Array Value} {c a b : Int} {sv : Value} {p t k : Int} {av : Value} {u : Int} (h : Part 50 7 co) : (trC nm co c a b sv p t k av u).size = 17 := by
  unfold trC
  rw [cat_size]
  simp [sizes, h.size]
theorem trC_one {nm : ByteArray} {co : Array Value} {c a b : Int} {sv : Value} {p t k : Int} {av : Value} {u : Int} (h : Part 50 7 co) (o5 : sv.oneCell' = true) (o9 : av.oneCell' = true) : (trC nm co c a b sv p t k av u).all (·.oneCell') = true := (one_cons (one_str _) (one_cons (h.one) (one_cons (one_int _ _) (one_cons (one_int _ _) (one_cons (one_int _ _) (one_cons (by simp [o5]) (one_cons (one_int _ _) (one_cons (one_int _ _) (one_cons (one_int _ _) (one_cons (by simp [o9]) (one_cons (one_int _ _) one_nil)))))))))))
theorem trC_0 {nm : ByteArray} {co : Array Value} {c a b : Int} {sv : Value} {p t k : Int} {av : Value} {u : Int} (_h : Part 50 7 co) : (trC nm co c a b sv p t k av u)[0]? = some (.string nm) := cat_cell [] (.string nm) [co, #[.int .i64 c], #[.int .i64 a], #[.int .i64 b], #[sv], #[.int .i64 p], #[.int .i64 t], #[.int .i64 k], #[av], #[.int .i64 u]] (o := 0) rfl
theorem trC_p0 {nm : ByteArray} {co : Array Value} {c a b : Int} {sv : Value} {p t k : Int} {av : Value} {u : Int} (_h : Part 50 7 co) {x : ByteArray} : laidAt (trC nm co c a b sv p t k av u) 0 [.string x] = trC x co c a b sv p t k av u := cat_put [] (.string nm) (.string x) [co, #[.int .i64 c], #[.int .i64 a], #[.int .i64 b], #[sv], #[.int .i64 p], #[.int .i64 t], #[.int .i64 k], #[av], #[.int .i64 u]] (o := 0) rfl
theorem trC_f1 {nm : ByteArray} {co : Array Value} {c a b : Int} {sv : Value} {p t k : Int} {av : Value} {u : Int} (_h : Part 50 7 co) : ∀ (j : Nat) y, (co)[j]? = some y → (trC nm co c a b sv p t k av u)[1 + j]? = some y := cat_part [#[.string nm]] (co) [#[.int .i64 c], #[.int .i64 a], #[.int .i64 b], #[sv], #[.int .i64 p], #[.int .i64 t], #[.int .i64 k], #[av], #[.int .i64 u]] (o := 1) (by simp [sizes])
theorem trC_8 {nm : ByteArray} {co : Array Value} {c a b : Int} {sv : Value} {p t k : Int} {av : Value} {u : Int} (h : Part 50 7 co) : (trC nm co c a b sv p t k av u)[8]? = some (.int .i64 c) := cat_cell [#[.string nm], co] (.int .i64 c) [#[.int .i64 a], #[.int .i64 b], #[sv], #[.int .i64 p], #[.int .i64 t], #[.int .i64 k], #[av], #[.int .i64 u]] (o := 8) (by simp [sizes, h.size])
theorem trC_p8 {nm : ByteArray} {co : Array Value} {c a b : Int} {sv : Value} {p t k : Int} {av : Value} {u : Int} (h : Part 50 7 co) {x : Int} : laidAt (trC nm co c a b sv p t k av u) 8 [.int .i64 x] = trC nm co x a b sv p t k av u := cat_put [#[.string nm], co] (.int .i64 c) (.int .i64 x) [#[.int .i64 a], #[.int .i64 b], #[sv], #[.int .i64 p], #[.int .i64 t], #[.int .i64 k], #[av], #[.int .i64 u]] (o := 8) (by simp [sizes, h.size])
theorem trC_9 {nm : ByteArray} {co : Array Value} {c a b : Int} {sv : Value} {p t k : Int} {av : Value} {u : Int} (h : Part 50 7 co) : (trC nm co c a b sv p t k av u)[9]? = some (.int .i64 a) := cat_cell [#[.string nm], co, #[.int .i64 c]] (.int .i64 a) [#[.int .i64 b], #[sv], #[.int .i64 p], #[.int .i64 t], #[.int .i64 k], #[av], #[.int .i64 u]] (o := 9) (by simp [sizes, h.size])
theorem trC_p9 {nm : ByteArray} {co : Array Value} {c a b : Int} {sv : Value} {p t k : Int} {av : Value} {u : Int} (h : Part 50 7 co) {x : Int} : laidAt (trC nm co c a b sv p t k av u) 9 [.int .i64 x] = trC nm co c x b sv p t k av u := cat_put [#[.string nm], co, #[.int .i64 c]] (.int .i64 a) (.int .i64 x) [#[.int .i64 b], #[sv], #[.int .i64 p], #[.int .i64 t], #[.int .i64 k], #[av], #[.int .i64 u]] (o := 9) (by simp [sizes, h.size])
theorem trC_10 {nm : ByteArray} {co : Array Value} {c a b : Int} {sv : Value} {p t k : Int} {av : Value} {u : Int} (h : Part 50 7 co) : (trC nm co c a b sv p t k av u)[10]? = some (.int .i64 b) := cat_cell [#[.string nm], co, #[.int .i64 c], #[.int .i64 a]] (.int .i64 b) [#[sv], #[.int .i64 p], #[.int .i64 t], #[.int .i64 k], #[av], #[.int .i64 u]] (o := 10) (by simp [sizes, h.size])
theorem trC_p10 {nm : ByteArray} {co : Array Value} {c a b : Int} {sv : Value} {p t k : Int} {av : Value} {u : Int} (h : Part 50 7 co) {x : Int} : laidAt (trC nm co c a b sv p t k av u) 10 [.int .i64 x] = trC nm co c a x sv p t k av u := cat_put [#[.string nm], co, #[.int .i64 c], #[.int .i64 a]] (.int .i64 b) (.int .i64 x) [#[sv], #[.int .i64 p], #[.int .i64 t], #[.int .i64 k], #[av], #[.int .i64 u]] (o := 10) (by simp [sizes, h.size])
theorem trC_11 {nm : ByteArray} {co : Array Value} {c a b : Int} {sv : Value} {p t k : Int} {av : Value} {u : Int} (h : Part 50 7 co) : (trC nm co c a b sv p t k av u)[11]? = some (sv) := cat_cell [#[.string nm], co, #[.int .i64 c], #[.int .i64 a], #[.int .i64 b]] (sv) [#[.int .i64 p], #[.int .i64 t], #[.int .i64 k], #[av], #[.int .i64 u]] (o := 11) (by simp [sizes, h.size])
theorem trC_p11 {nm : ByteArray} {co : Array Value} {c a b : Int} {sv : Value} {p t k : Int} {av : Value} {u : Int} (h : Part 50 7 co) {x : Value} : laidAt (trC nm co c a b sv p t k av u) 11 [x] = trC nm co c a b x p t k av u := cat_put [#[.string nm], co, #[.int .i64 c], #[.int .i64 a], #[.int .i64 b]] (sv) (x) [#[.int .i64 p], #[.int .i64 t], #[.int .i64 k], #[av], #[.int .i64 u]] (o := 11) (by simp [sizes, h.size])
theorem trC_12 {nm : ByteArray} {co : Array Value} {c a b : Int} {sv : Value} {p t k : Int} {av : Value} {u : Int} (h : Part 50 7 co) : (trC nm co c a b sv p t k av u)[12]? = some (.int .i64 p) := cat_cell [#[.string nm], co, #[.int .i64 c], #[.int .i64 a], #[.int .i64 b], #[sv]] (.int .i64 p) [#[.int .i64 t], #[.int .i64 k], #[av], #[.int .i64 u]] (o := 12) (by simp [sizes, h.size])
theorem trC_p12 {nm : ByteArray} {co : Array Value} {c a b : Int} {sv : Value} {p t k : Int} {av : Value} {u : Int} (h : Part 50 7 co) {x : Int} : laidAt (trC nm co c a b sv p t k av u) 12 [.int .i64 x] = trC nm co c a b sv x t k av u := cat_put [#[.string nm], co, #[.int .i64 c], #[.int .i64 a], #[.int .i64 b], #[sv]] (.int .i64 p) (.int .i64 x) [#[.int .i64 t], #[.int .i64 k], #[av], #[.int .i64 u]] (o := 12) (by simp [sizes, h.size])
theorem trC_13 {nm : ByteArray} {co : Array Value} {c a b : Int} {sv : Value} {p t k : Int} {av : Value} {u : Int} (h : Part 50 7 co) : (trC nm co c a b sv p t k av u)[13]? = some (.int .i64 t) := cat_cell [#[.string nm], co, #[.int .i64 c], #[.int .i64 a], #[.int .i64 b], #[sv], #[.int .i64 p]] (.int .i64 t) [#[.int .i64 k], #[av], #[.int .i64 u]] (o := 13) (by simp [sizes, h.size])
theorem trC_p13 {nm : ByteArray} {co : Array Value} {c a b : Int} {sv : Value} {p t k : Int} {av : Value} {u : Int} (h : Part 50 7 co) {x : Int} : laidAt (trC nm co c a b sv p t k av u) 13 [.int .i64 x] = trC nm co c a b sv p x k av u := cat_put [#[.string nm], co, #[.int .i64 c], #[.int .i64 a], #[.int .i64 b], #[sv], #[.int .i64 p]] (.int .i64 t) (.int .i64 x) [#[.int .i64 k], #[av], #[.int .i64 u]] (o := 13) (by simp [sizes, h.size])
theorem trC_14 {nm : ByteArray} {co : Array Value} {c a b : Int} {sv : Value} {p t k : Int} {av : Value} {u : Int} (h : Part 50 7 co) : (trC nm co c a b sv p t k av u)[14]? = some (.int .i64 k) := cat_cell [#[.string nm], co, #[.int .i64 c], #[.int .i64 a], #[.int .i64 b], #[sv], #[.int .i64 p], #[.int .i64 t]] (.int .i64 k) [#[av], #[.int .i64 u]] (o := 14) (by simp [sizes, h.size])
theorem trC_p14 {nm : ByteArray} {co : Array Value} {c a b : Int} {sv : Value} {p t k : Int} {av : Value} {u : Int} (h : Part 50 7 co) {x : Int} : laidAt (trC nm co c a b sv p t k av u) 14 [.int .i64 x] = trC nm co c a b sv p t x av u := cat_put [#[.string nm], co, #[.int .i64 c], #[.int .i64 a], #[.int .i64 b], #[sv], #[.int .i64 p], #[.int .i64 t]] (.int .i64 k) (.int .i64 x) [#[av], #[.int .i64 u]] (o := 14) (by simp [sizes, h.size])
theorem trC_15 {nm : ByteArray} {co : Array Value} {c a b : Int} {sv : Value} {p t k : Int} {av : Value} {u : Int} (h : Part 50 7 co) : (trC nm co c a b sv p t k av u)[15]? = some (av) := cat_cell [#[.string nm], co, #[.int .i64 c], #[.int .i64 a], #[.int .i64 b], #[sv], #[.int .i64 p], #[.int .i64 t], #[.int .i64 k]] (av) [#[.int .i64 u]] (o := 15) (by simp [sizes, h.size])
theorem trC_p15 {nm : ByteArray} {co : Array Value} {c a b : Int} {sv : Value} {p t k : Int} {av : Value} {u : Int} (h : Part 50 7 co) {x : Value} : laidAt (trC nm co c a b sv p t k av u) 15 [x] = trC nm co c a b sv p t k x u := cat_put [#[.string nm], co, #[.int .i64 c], #[.int .i64 a], #[.int .i64 b], #[sv], #[.int .i64 p], #[.int .i64 t], #[.int .i64 k]] (av) (x) [#[.int .i64 u]] (o := 15) (by simp [sizes, h.size])
theorem trC_16 {nm : ByteArray} {co : Array Value} {c a b : Int} {sv : Value} {p t k : Int} {av : Value} {u : Int} (h : Part 50 7 co) : (trC nm co c a b sv p t k av u)[16]? = some (.int .i64 u) := cat_cell [#[.string nm], co, #[.int .i64 c], #[.int .i64 a], #[.int .i64 b], #[sv], #[.int .i64 p], #[.int .i64 t], #[.int .i64 k], #[av]] (.int .i64 u) [] (o := 16) (by simp [sizes, h.size])
theorem trC_p16 {nm : ByteArray} {co : Array Value} {c a b : Int} {sv : Value} {p t k : Int} {av : Value} {u : Int} (h : Part 50 7 co) {x : Int} : laidAt (trC nm co c a b sv p t k av u) 16 [.int .i64 x] = trC nm co c a b sv p t k av x := cat_put [#[.string nm], co, #[.int .i64 c], #[.int .i64 a], #[.int .i64 b], #[sv], #[.int .i64 p], #[.int .i64 t], #[.int .i64 k], #[av]] (.int .i64 u) (.int .i64 x) [] (o := 16) (by simp [sizes, h.size])
theorem trC_li {nm : ByteArray} {co : Array Value} {c a b : Int} {sv : Value} {p t k : Int} {av : Value} {u : Int} (h : Part 50 7 co) : ∀ (j : Nat) x, (liC a b sv)[j]? = some x → (trC nm co c a b sv p t k av u)[9 + j]? = some x := fun j x hx => by
  match j, hx with
  | 0, hx => cases hx; exact trC_9 h
  | 1, hx => cases hx; exact trC_10 h
  | 2, hx => cases hx; exact trC_11 h
  | j + 3, hx => simp [liC] at hx
theorem trC_pli {nm : ByteArray} {co : Array Value} {c a b a' b' : Int} {sv sv' : Value} {p t k : Int} {av : Value} {u : Int} (h : Part 50 7 co) : laidAt (trC nm co c a b sv p t k av u) 9 (liC a' b' sv').toList = trC nm co c a' b' sv' p t k av u := by
  show laidAt (trC nm co c a b sv p t k av u) 9 [.int .i64 a', .int .i64 b', sv'] = _
  have e1 := trC_p9 (nm := nm) (c := c) (a := a) (b := b) (sv := sv) (p := p) (t := t) (k := k) (av := av) (u := u) h (x := a')
  have e2 := trC_p10 (nm := nm) (c := c) (a := a') (b := b) (sv := sv) (p := p) (t := t) (k := k) (av := av) (u := u) h (x := b')
  have e3 := trC_p11 (nm := nm) (c := c) (a := a') (b := b') (sv := sv) (p := p) (t := t) (k := k) (av := av) (u := u) h (x := sv')
  simp only [laidAt] at e1 e2 e3 ⊢
  rw [e1, e2, e3]
end Go.Proofs.YtbcgkeclmioeiaaGreatDoor
namespace Go.Proofs.YtbcgkeclmioeiaaGreatDoor
open Go.RowKit

/-- the first i structs of the own row are copied, the others are as they were -/
structure EachAt {π α : Type} (e : TypeId) (n B : Nat) (C : π → Array Value) (key : π → α) (Own : World → π → Prop) (w : World) (ps qs : List π) (i : Nat) (ad : Option Addr) (cap : Nat) : Prop where
  keys : qs.map key = ps.map key
  row : OwnRowS e n B w (.slice ad ps.length cap) (qs.map C)
  done : ∀ (j : Nat) q, j < i → qs[j]? = some q → Own w q
  rest : ∀ j, i ≤ j → qs[j]? = ps[j]?
section
variable {π α : Type} {e : TypeId} {n B : Nat} {C : π → Array Value} {key : π → α} {Own : World → π → Prop} {w : World} {ps qs : List π} {i : Nat} {ad : Option Addr} {cap : Nat}
theorem EachAt.start (h : OwnRowS e n B w (.slice ad ps.length cap) (ps.map C)) : EachAt e n B C key Own w ps ps 0 ad cap := ⟨rfl, h, fun _ _ hj _ => absurd hj (Nat.not_lt_zero _), fun _ _ => rfl⟩
theorem EachAt.len (h : EachAt e n B C key Own w ps qs i ad cap) : qs.length = ps.length := by
  have := congrArg List.length h.keys
  simpa using this
theorem EachAt.below {w' : World} (h : EachAt e n B C key Own w ps qs i ad cap) (hb : Below w.heap.size w w') (ho : ∀ q, Own w q → Own w' q) : EachAt e n B C key Own w' ps qs i ad cap :=
  ⟨h.keys, h.row.below hb (Nat.le_refl _), fun j q hj hq => ho q (h.done j q hj hq), h.rest⟩
theorem EachAt.at (h : EachAt e n B C key Own w ps qs i ad cap) (hi : i < ps.length) : ∃ p g, ps[i]? = some p ∧ ad = some ⟨g, 0, none⟩ ∧ B ≤ g ∧ w.rangeAt g (i * n) (C p).toList := by
  have hx : ps[i]? = some ps[i] := List.getElem?_eq_getElem hi
  have hq : qs[i]? = some ps[i] := (h.rest i (Nat.le_refl _)).trans hx
  obtain ⟨b, o, e1, hr⟩ := h.row.row.get (i := i) (x := C ps[i]) (by rw [List.getElem?_map, hq]; rfl)
  rcases h.row.blk with ⟨hv, _⟩ | ⟨g, cap', cur, hv, hB, _⟩
  · injection hv with h1
    rw [h1] at e1
    cases e1
  · injection hv with h1
    rw [h1] at e1
    injection e1 with e1
    injection e1 with e2 e3
    subst e2 e3
    rw [Nat.zero_add] at hr
    exact ⟨_, g, hx, h1, hB, hr⟩
theorem EachAt.next {g : Nat} (h : EachAt e n B C key Own w ps qs i (some ⟨g, 0, none⟩) cap) (hn : 0 < n) (hi : i < ps.length) {p q : π} (hp : ps[i]? = some p) (hk : key q = key p) (hc : (C q).size = n) (hq : Own w q) (ho : ∀ w' q, KeepT e w w' → Own w q → Own w' q) :
    w.there g (i * n) n ∧ EachAt e n B C key Own (w.setCells g (i * n) (C q).toList) ps (qs.set i q) (i + 1) (some ⟨g, 0, none⟩) cap := by
  have hl := h.len
  obtain ⟨g', cs, e1, hB, hg, hfit, hrow⟩ := h.row.set hn (i := i) (by rw [List.length_map]; omega) hc
  injection e1 with e1
  injection e1 with e1
  subst e1
  have hK := KeepT.stored hg (i * n) (C q).toList
  refine ⟨hg.thereM hfit, ?_, ?_, fun j r hj hr => ?_, fun j hj => ?_⟩
  · rw [List.map_set, h.keys, hk]
    apply List.ext_getElem?
    intro j
    rw [List.getElem?_set]
    split
    · rename_i hij
      subst hij
      rw [List.getElem?_map, hp]
      simp [hi]
    · rfl
  · rw [List.map_set]; exact hrow
  · rw [List.getElem?_set] at hr
    split at hr
    · rename_i hij
      split at hr
      · injection hr with hr; subst hr; exact ho _ _ hK hq
      · cases hr
    · exact ho _ _ hK (h.done j r (by omega) hr)
  · rw [List.getElem?_set_ne (by omega)]
    exact h.rest j (by omega)
theorem EachAt.fin (h : EachAt e n B C key Own w ps qs i ad cap) (hi : ps.length ≤ i) : ∃ rs : List π, rs.map key = ps.map key ∧ OwnRowS e n B w (.slice ad ps.length cap) (rs.map C) ∧ ∀ q ∈ rs, Own w q := by
  refine ⟨qs, h.keys, h.row, fun q hq => ?_⟩
  obtain ⟨j, hj⟩ := List.mem_iff_getElem?.1 hq
  have hlt : j < qs.length := (List.getElem?_eq_some_iff.1 hj).1
  exact h.done j q (by have := h.len; omega) hj
end
theorem infoSp18 {xs : Array Value} (h : xs.size = 18) : (Tryz.prog.info? 119).map (·.size) = some xs.size := by rw [h]; kernel_rfl
end Go.Proofs.YtbcgkeclmioeiaaGreatDoor
namespace Go.Proofs.YtbcgkeclmioeiaaGreatDoor
open Go.RowKit
open Wd (Bs)

set_option maxHeartbeats 4000000 in
set_option maxRecDepth 100000 in
theorem cloneEffect (d : EfD) (v : Value) (ok : EfOk d) (w : World) (hv : RowS 20 w v d.mods) :
    Calls Tryz.prog 157 #[.agg (efC d v)] w fun e w' => (∃ v', e = .returned (.agg (efC d v')) ∧ OwnRowS 39 20 w.heap.size w' v' d.mods) ∧ Below w.heap.size w w' := by
  obtain ⟨ad, cap, ev⟩ := hv.slice
  subst ev

  have B0 := Lib.hid (Below.refl w.heap.size w)
  go_enter Tryz.func157, Tryz.ntmps157
  go_upto_region 0 with fail
  refine wp_region_lit ?_
  obtain ⟨w1, hw⟩ : ∃ v, v = w.alloc (.cells (efC d (.slice ad d.mods.length cap)) 77) := ⟨_, rfl⟩
  obtain ⟨pE, hp⟩ : ∃ v, v = w.heap.size := ⟨_, rfl⟩
  have B1 : Hid (Below w.heap.size w w1) := Lib.hid (by rw [hw]; exact B0.out.alloc B0.out.size _)
  have LEE : Hid (w.heap.size ≤ pE) := Lib.hid (by rw [hp]; exact B0.out.size)
  have KE1 : Hid (Blk w1 pE (efC d (.slice ad d.mods.length cap)) 77) := Lib.hid (by rw [hw, hp]; exact Blk.new _ _ _)
  with_reducible refine wpList_runWV (some 1) (v := .pointer (some ⟨pE, 0, none⟩)) (w' := w1) ?_ ?_ ?_ ?_
  · rfl
  · rfl
  · rw [hw, hp]; (go_simp; (try rfl))
  simp only [pu, sB, s0, sS]
  clear hw hp
  clear B0
  obtain ⟨w2, hw⟩ : ∃ v, v = w1.alloc (.cells zEf.cells 77) := ⟨_, rfl⟩
  obtain ⟨pR, hp⟩ : ∃ v, v = w1.heap.size := ⟨_, rfl⟩
  have B2 : Hid (Below w.heap.size w w2) := Lib.hid (by rw [hw]; exact B1.out.alloc B1.out.size _)
  have LER : Hid (w.heap.size ≤ pR) := Lib.hid (by rw [hp]; exact B1.out.size)
  have KE2 := Lib.hid (show Blk w2 pE (efC d (.slice ad d.mods.length cap)) 77 by rw [hw]; exact KE1.out.alloc _)
  have NEER : Hid (pE ≠ pR) := Lib.hid (by rw [hp]; exact Nat.ne_of_lt KE1.out.lt)
  have NERE : Hid (pR ≠ pE) := Lib.hid (Ne.symm NEER.out)
  have KR2 : Hid (Blk w2 pR zEf.cells 77) := Lib.hid (by rw [hw, hp]; exact Blk.new _ _ _)
  with_reducible refine wpList_runWV (some 2) (v := .pointer (some ⟨pR, 0, none⟩)) (w' := w2) ?_ ?_ ?_ ?_
  · rfl
  · rfl
  · rw [hw, hp]; exact run_allocOp rfl infoEf zeroEf
  simp only [pu, sB, s0, sS]
  clear hw hp
  clear B1 KE1
  go_upto_region 1 with fail
  refine wp_region_lit ?_
  (with_reducible refine rN (v := .pointer (some ⟨pE, 63, none⟩)) ?_ ?_ ?_); (· rfl); (· go_simp; (try rfl)); simp only [pu, sB, s0, sS]
  with_reducible refine wpList_loadV (.tmp 3) (j := 63) (v := .slice ad d.mods.length cap) ?_ ?_ KE2.out ?_ Tryz.underlying42 ?_ ?_
  · rfl
  · rfl
  · exact efC_63 ok
  · rfl
  simp only [pu, sB, s0, sS]
  go_wp2_with fail
  refine (cloneMo _ d.mods _ (hv.below B2.out (Nat.le_refl _)) ok.few (fun x hx => (ok.mods x hx).one)).mono ?_
  rintro e w3 ⟨⟨v2, rfl, hO⟩, hb⟩
  obtain ⟨ad2, cap2, ev2⟩ := hO.row.slice
  subst ev2
  have B3 := Lib.hid (B2.out.trans (hb.mono B2.out.size))
  have KE3 := Lib.hid (KE2.out.below hb KE2.out.lt)
  have KR3 := Lib.hid (KR2.out.below hb KR2.out.lt)
  have HM3 : Hid (OwnRowS 39 20 w.heap.size w3 (.slice ad2 d.mods.length cap2) d.mods) := Lib.hid (hO.mono B2.out.size)
  clear hb
  clear B2 KE2 KR2
  go_simp
  rename_i hKK
  refine hKK _ _ ?_
  clear hKK
  try simp only [pu, sB, s0, sS]
  (with_reducible refine rN (v := .pointer (some ⟨pE, 63, none⟩)) ?_ ?_ ?_); (· rfl); (· go_simp; (try rfl)); simp only [pu, sB, s0, sS]
  have KE4 := Lib.hid (KE3.out.stored (o := 63) (vs := [.slice ad2 d.mods.length cap2]) (cs' := (efC d (.slice ad2 d.mods.length cap2))) (efC_p63 ok))
  have KR4 := Lib.hid (KR3.out.wholeElse ([.slice ad2 d.mods.length cap2]) (o := 63) NERE.out)
  have B4 := Lib.hid (below_whole ([.slice ad2 d.mods.length cap2]) (o := 63) B3.out LEE.out)
  have HM4 := Lib.hid (HM3.out.keep (KeepT.stored KE3.out 63 ([.slice ad2 d.mods.length cap2])) (by decide))
  with_reducible refine wpList_storeV (.tmp 6) (.tmp 5) (j := 63) (v := .slice ad2 d.mods.length cap2) ?_ ?_ KE3.out ?_ (by kernel_rfl) (by simp [Value.oneCell']) ?_
  · rfl
  · rfl
  · exact (fit_1 (efC_sz ok) (by decide))
  (try simp only [Act.put])
  generalize World.setCells _ _ _ _ = w4 at KE4 KR4 B4 HM4 ⊢
  clear B3 KE3 KR3 HM3
  go_upto_region 2 with fail
  refine wp_region_lit ?_
  with_reducible refine wpList_loadS (.tmp 1) ?_ ?_ KE4.out Tryz.underlying77 ?_ (szEf (efC_sz ok)) ?_
  · rfl
  · rfl
  · rfl
  simp only [pu, sB, s0, sS]
  have KR5 := Lib.hid (KR4.out.stored (o := 0) (vs := (efC d (.slice ad2 d.mods.length cap2)).toList) (cs' := (efC d (.slice ad2 d.mods.length cap2))) (laid_all (efC_sz ok) zEf_cells))
  have KE5 := Lib.hid (KE4.out.wholeElse ((efC d (.slice ad2 d.mods.length cap2)).toList) (o := 0) NEER.out)
  have B5 := Lib.hid (below_whole ((efC d (.slice ad2 d.mods.length cap2)).toList) (o := 0) B4.out LER.out)
  have HM5 := Lib.hid (HM4.out.keep (KeepT.stored KR4.out 0 ((efC d (.slice ad2 d.mods.length cap2)).toList)) (by decide))
  with_reducible refine wpList_storeM (.tmp 2) (.tmp 7) (o := 0) (vs := (efC d (.slice ad2 d.mods.length cap2))) ?_ ?_ KR4.out ?_ (szEf (efC_sz ok)) (efC_one ok rfl) ?_
  · rfl
  · rfl
  · exact (fit_2 zEf_cells (efC_sz ok) (by decide))
  (try simp only [Act.put])
  generalize World.setCells _ _ _ _ = w5 at KE5 KR5 B5 HM5 ⊢
  clear B4 KE4 KR4 HM4
  have hL := KR5.out.readS Tryz.underlying77 rfl (szEf (efC_sz ok))
  go_wp2_with fail
  exact bodyPost_ret (v := .agg (efC d (.slice ad2 d.mods.length cap2))) (results_cell Tryz.results157 (by rfl) hL) rfl ⟨⟨_, rfl, HM5.out⟩, B5.out⟩

set_option maxHeartbeats 4000000 in
set_option maxRecDepth 100000 in
theorem eachEf (v : Value) (l : List EfD) (w : World) (hv : EfRow none w v l) (hok : ∀ d ∈ l, EfOk d) (hl : l.length ≤ 1000) :
    Calls Tryz.prog 156 #[v, .func (.func 157) #[] #[]] w fun e w' => (∃ v', e = .returned v' ∧ EfRow (some w.heap.size) w' v' l) ∧ Below w.heap.size w w' := by
  obtain ⟨ps, hps, hr, hm⟩ := hv
  have hr0 : RowS 64 w v (ps.map efP) := hr
  have hln : ps.length ≤ 1000 := by have := congrArg List.length hps; rw [List.length_map] at this; omega
  have HOK : Hid (∀ p ∈ ps, EfOk p.1) := Lib.hid fun p hp => hok p.1 (by rw [← hps]; exact List.mem_map.2 ⟨p, hp, rfl⟩)
  have hone : ∀ x ∈ ps.map efP, x.all (·.oneCell') = true := fun x hx => by
    obtain ⟨p, hp, rfl⟩ := List.mem_map.1 hx
    exact efC_one (HOK.out p hp) (hm p hp).row.oneCell
  have HM := Lib.hid hm
  have eg : ∀ args w, (callFunc 157 args).run Tryz.prog w = .ok (.enter 157 args) w := enters_of Tryz.func157 (by kernel_rfl) rfl
  have HPS := Lib.hid hps
  have hlm : (ps.map efP).length ≤ 1000 := by rw [List.length_map]; exact hln
  have hc := Lib.hid (cloneEf v _ w hr0 hlm hone)
  clear hlm
  clear hr hr0 hone hm hok hps

  have B0 := Lib.hid (Below.refl w.heap.size w)
  go_enter Tryz.func156, Tryz.ntmps156
  go_upto_region 0 with fail
  refine wp_region_lit ?_
  (with_reducible refine rN (v := ?_) ?_ ?_ ?_); rotate_left; (· rfl); (· go_simp; (try with_reducible rfl)); simp only [pu, sB, s0, sS]
  go_upto_region 1 with fail
  refine wp_region_lit ?_
  (with_reducible refine rN (v := ?_) ?_ ?_ ?_); rotate_left; (· rfl); (· go_simp; (try with_reducible rfl)); simp only [pu, sB, s0, sS]
  go_wp2_with fail
  refine (hc.out).mono ?_
  rintro e w1 ⟨⟨v0, rfl, hO⟩, hb⟩
  obtain ⟨ad0, cap0, ev0⟩ := hO.row.slice
  rw [List.length_map] at ev0
  subst ev0
  have B1 := Lib.hid (B0.out.trans (hb.mono B0.out.size))
  have HO1 : Hid (OwnRowS 77 64 w.heap.size w1 (.slice ad0 ps.length cap0) (ps.map efP)) := Lib.hid (hO)
  clear hb
  clear B0
  go_simp
  rename_i hKK
  refine hKK _ _ ?_
  clear hKK
  try simp only [pu, sB, s0, sS]
  (with_reducible refine rN (v := ?_) ?_ ?_ ?_); rotate_left; (· rfl); (· go_simp; (try with_reducible rfl)); simp only [pu, sB, s0]
  go_upto_region 2 with fail
  refine wp_region_lit ?_
  iterate 3 ((with_reducible refine rN (v := ?_) ?_ ?_ ?_); rotate_left; (· rfl); (· go_simp; (try with_reducible rfl)); simp only [pu, sB, s0, sS])
  go_wp2_with fail
  go_loopw [5, 6, 11] (fun v5 v6 iv wr => ∃ (i : Nat) (qs : List EfP), i ≤ ps.length ∧ iv = .int .i64 (i : Int) ∧ Hid (EachAt 77 64 w.heap.size efP (fun p => p.1) (fun w' q => OwnRowS 39 20 w.heap.size w' q.2 q.1.mods) wr ps qs i ad0 cap0) ∧ Hid (Below w.heap.size w wr)) (fun v5 v6 iv _ => ps.length - (intOf iv).toNat)
  case atStart => exact ⟨0, ps, by omega, rfl, Lib.hid (EachAt.start HO1.out), B1⟩
  case round =>
    obtain ⟨i, qs, hi, rfl, HE, HB⟩ := hrel
    clear B1 HO1
    have B0 := Lib.hid (Below.refl wr.heap.size wr)
    by_cases hlt : i < ps.length
    · obtain ⟨p, g, hp, rfl, hBg, hr⟩ := HE.out.at hlt
      have HR := Lib.hid hr
      have HP := Lib.hid hp
      have HBG := Lib.hid hBg
      have HMP := Lib.hid (HM.out p (List.mem_of_getElem? hp))
      have ok := HOK.out p (List.mem_of_getElem? hp)
      clear hp hr hBg
      have hi0 : (0 : Int) ≤ (i : Int) := by omega
      have hil : (i : Int) < (ps.length : Int) := by omega
      go_upto_region 3 with fail
      refine wp_region_lit ?_
      (with_reducible refine rN (v := .bool true) ?_ ?_ ?_); (· rfl); (· go_simp; (try with_reducible rfl)); simp only [pu, sB, s0, sS]
      go_upto_region 4 with fail
      refine wp_region_lit ?_
      (with_reducible refine rN (v := ?_) ?_ ?_ ?_); rotate_left; (· rfl); (· go_simp; (try with_reducible rfl)); simp only [pu, sB, s0, sS]
      (with_reducible refine rN (v := .pointer (some ⟨g, i * 64, none⟩)) ?_ ?_ ?_); (· rfl); (· go_simp; (try rfl)); simp only [pu, sB, s0, sS]
      with_reducible refine wpList_loadR (.tmp 14) (o := i * 64) (xs := (efC p.1 (p.2))) ?_ ?_ HR.out Tryz.underlying77 ?_ (szEf (efC_sz ok)) ?_
      · rfl
      · rfl
      · rfl
      simp only [pu, sB, s0, sS]
      obtain ⟨w1, hw⟩ : ∃ v, v = wr.alloc (.cells zEf.cells 77) := ⟨_, rfl⟩
      obtain ⟨pX, hp⟩ : ∃ v, v = wr.heap.size := ⟨_, rfl⟩
      have B1 : Hid (Below wr.heap.size wr w1) := Lib.hid (by rw [hw]; exact B0.out.alloc B0.out.size _)
      have LEX : Hid (wr.heap.size ≤ pX) := Lib.hid (by rw [hp]; exact B0.out.size)
      have KX1 : Hid (Blk w1 pX zEf.cells 77) := Lib.hid (by rw [hw, hp]; exact Blk.new _ _ _)
      with_reducible refine wpList_runWV (some 6) (v := .pointer (some ⟨pX, 0, none⟩)) (w' := w1) ?_ ?_ ?_ ?_
      · rfl
      · rfl
      · rw [hw, hp]; exact run_allocOp rfl infoEf zeroEf
      simp only [pu, sB, s0, sS]
      clear hw hp
      clear B0
      (with_reducible refine rN (v := ?_) ?_ ?_ ?_); rotate_left; (· rfl); (· go_simp; (try with_reducible rfl)); simp only [pu, sB, s0, sS]
      have KX2 := Lib.hid (KX1.out.stored (o := 0) (vs := (efC p.1 (p.2)).toList) (cs' := (efC p.1 (p.2))) (laid_all (efC_sz ok) zEf_cells))
      have B2 := Lib.hid (below_whole ((efC p.1 (p.2)).toList) (o := 0) B1.out LEX.out)
      with_reducible refine wpList_storeM (.tmp 6) (.tmp 15) (o := 0) (vs := (efC p.1 (p.2))) ?_ ?_ KX1.out ?_ (szEf (efC_sz ok)) (efC_one ok HMP.out.row.oneCell) ?_
      · rfl
      · rfl
      · exact (fit_2 zEf_cells (efC_sz ok) (by decide))
      (try simp only [Act.put])
      generalize World.setCells _ _ _ _ = w2 at KX2 B2 ⊢
      clear B1 KX1
      go_upto_region 5 with fail
      refine wp_region_lit ?_
      iterate 3 ((with_reducible refine rN (v := ?_) ?_ ?_ ?_); rotate_left; (· rfl); (· go_simp; (try with_reducible rfl)); simp only [pu, sB, s0, sS])
      with_reducible refine wpList_loadS (.tmp 6) ?_ ?_ KX2.out Tryz.underlying77 ?_ (szEf (efC_sz ok)) ?_
      · rfl
      · rfl
      · rfl
      simp only [pu, sB, s0, sS]
      go_wp2_with fail
      refine (cloneEffect p.1 p.2 ok _ (HMP.out.row.below (HB.out.trans (B2.out.mono HB.out.size)) (Nat.le_refl _))).mono ?_
      rintro e wz ⟨⟨v2, rfl, hO⟩, hb⟩
      have BZ := Lib.hid (B2.out.trans (hb.mono B2.out.size))
      have HB2 := Lib.hid (HB.out.trans (BZ.out.mono HB.out.size))
      have HEZ := Lib.hid (HE.out.below BZ.out (fun q hq => hq.below BZ.out (Nat.le_refl _)))
      have HN := Lib.hid (HEZ.out.next (by decide) hlt HP.out (q := (p.1, v2)) rfl (efC_sz ok) (hO.mono (Nat.le_trans HB.out.size B2.out.size)) (fun w' q hk hq => hq.keep hk (by decide)))
      clear hb
      go_simp
      rename_i hKK
      refine hKK _ _ ?_
      clear hKK
      try simp only [pu, sB, s0, sS]
      (with_reducible refine rN (v := .pointer (some ⟨g, i * 64, none⟩)) ?_ ?_ ?_); (· rfl); (· go_simp; (try rfl)); simp only [pu, sB, s0, sS]
      refine wpList_store_mid rfl 77 (.tmp 21) (.tmp 20) rfl g (i * 64) (efC p.1 (v2)) rfl rfl (by rw [(efC_sz ok)]; exact HN.out.1) (szEf (efC_sz ok)) (efC_one ok hO.row.oneCell) ?_
      have HB3 := Lib.hid (below_whole ((efC p.1 (v2)).toList) (o := i * 64) HB2.out HBG.out)
      go_wp2_with fail
      go_roundw
      case rel => exact ⟨i + 1, _, by omega, by go_num, Lib.hid HN.out.2, HB3⟩
      case measure => simp [intOf]; omega
    obtain rfl : i = ps.length := by omega
    have hil : ¬ (ps.length : Int) < (ps.length : Int) := by omega
    go_upto_region 3 with fail
    refine wp_region_lit ?_
    (with_reducible refine rN (v := .bool false) ?_ ?_ ?_); (· rfl); (· go_simp; (try with_reducible rfl)); simp only [pu, sB, s0, sS]
    go_upto_region 7 with fail
    refine wp_region_lit ?_
    iterate 2 ((with_reducible refine rN (v := ?_) ?_ ?_ ?_); rotate_left; (· rfl); (· go_simp; (try with_reducible rfl)); simp only [pu, sB, s0, sS])
    go_wp2_with fail
    go_ret
    obtain ⟨rs, h1, h2, h3⟩ := HE.out.fin (Nat.le_refl _)
    exact ⟨⟨_, rfl, rs, by rw [h1, HPS.out], h2, h3⟩, HB.out⟩
end Go.Proofs.YtbcgkeclmioeiaaGreatDoor
namespace Go.Proofs.YtbcgkeclmioeiaaGreatDoor
open Go.RowKit
open Wd (Bs)

set_option maxHeartbeats 4000000 in
set_option maxRecDepth 100000 in
theorem cloneAbility (d : AbD) (v1 v2 v3 : Value) (ok : AbOk d) (w : World) (hv : AbIn none w (d, v1, v2, v3)) :
    Calls Tryz.prog 107 #[.agg (abC d v1 v2 v3)] w fun e w' => (∃ a2 b2 c2, e = .returned (.agg (abC d a2 b2 c2)) ∧ AbIn (some w.heap.size) w' (d, a2, b2, c2)) ∧ Below w.heap.size w w' := by
  have hv1 : RowS 20 w v1 d.mods := hv.mods
  have hv2 : RowS 18 w v2 d.specs := hv.specs
  have hv3 : EfRow none w v3 d.effs := hv.effs
  obtain ⟨ad, cap, ev⟩ := hv1.slice
  subst ev
  obtain ⟨bd, bcap, ev⟩ := hv2.slice
  subst ev
  obtain ⟨cd, ccap, ev⟩ := hv3.slice
  subst ev
  have HV1 := Lib.hid hv1
  have HV2 := Lib.hid hv2
  have HV3 := Lib.hid hv3
  clear hv hv1 hv2 hv3

  have B0 := Lib.hid (Below.refl w.heap.size w)
  go_enter Tryz.func107, Tryz.ntmps107
  go_upto_region 0 with fail
  refine wp_region_lit ?_
  obtain ⟨w1, hw⟩ : ∃ v, v = w.alloc (.cells (abC d (.slice ad d.mods.length cap) (.slice bd d.specs.length bcap) (.slice cd d.effs.length ccap)) 71) := ⟨_, rfl⟩
  obtain ⟨pE, hp⟩ : ∃ v, v = w.heap.size := ⟨_, rfl⟩
  have B1 : Hid (Below w.heap.size w w1) := Lib.hid (by rw [hw]; exact B0.out.alloc B0.out.size _)
  have LEE : Hid (w.heap.size ≤ pE) := Lib.hid (by rw [hp]; exact B0.out.size)
  have KE1 : Hid (Blk w1 pE (abC d (.slice ad d.mods.length cap) (.slice bd d.specs.length bcap) (.slice cd d.effs.length ccap)) 71) := Lib.hid (by rw [hw, hp]; exact Blk.new _ _ _)
  with_reducible refine wpList_runWV (some 1) (v := .pointer (some ⟨pE, 0, none⟩)) (w' := w1) ?_ ?_ ?_ ?_
  · rfl
  · rfl
  · rw [hw, hp]; (go_simp; (try rfl))
  simp only [pu, sB, s0, sS]
  clear hw hp
  clear B0
  obtain ⟨w2, hw⟩ : ∃ v, v = w1.alloc (.cells zAb.cells 71) := ⟨_, rfl⟩
  obtain ⟨pR, hp⟩ : ∃ v, v = w1.heap.size := ⟨_, rfl⟩
  have B2 : Hid (Below w.heap.size w w2) := Lib.hid (by rw [hw]; exact B1.out.alloc B1.out.size _)
  have LER : Hid (w.heap.size ≤ pR) := Lib.hid (by rw [hp]; exact B1.out.size)
  have KE2 := Lib.hid (show Blk w2 pE (abC d (.slice ad d.mods.length cap) (.slice bd d.specs.length bcap) (.slice cd d.effs.length ccap)) 71 by rw [hw]; exact KE1.out.alloc _)
  have NEER : Hid (pE ≠ pR) := Lib.hid (by rw [hp]; exact Nat.ne_of_lt KE1.out.lt)
  have NERE : Hid (pR ≠ pE) := Lib.hid (Ne.symm NEER.out)
  have KR2 : Hid (Blk w2 pR zAb.cells 71) := Lib.hid (by rw [hw, hp]; exact Blk.new _ _ _)
  with_reducible refine wpList_runWV (some 2) (v := .pointer (some ⟨pR, 0, none⟩)) (w' := w2) ?_ ?_ ?_ ?_
  · rfl
  · rfl
  · rw [hw, hp]; exact run_allocOp rfl infoAb zeroAb
  simp only [pu, sB, s0, sS]
  clear hw hp
  clear B1 KE1
  go_upto_region 1 with fail
  refine wp_region_lit ?_
  (with_reducible refine rN (v := .pointer (some ⟨pE, 17, none⟩)) ?_ ?_ ?_); (· rfl); (· go_simp; (try rfl)); simp only [pu, sB, s0, sS]
  with_reducible refine wpList_loadV (.tmp 3) (j := 17) (v := .slice ad d.mods.length cap) ?_ ?_ KE2.out ?_ Tryz.underlying42 ?_ ?_
  · rfl
  · rfl
  · exact abC_17 ok
  · rfl
  simp only [pu, sB, s0, sS]
  go_wp2_with fail
  refine (cloneMo _ d.mods _ (HV1.out.below B2.out (Nat.le_refl _)) ok.few.1 (fun x hx => (ok.mods x hx).one)).mono ?_
  rintro e w3 ⟨⟨v2, rfl, hO⟩, hb⟩
  obtain ⟨ad2, cap2, ev2⟩ := hO.row.slice
  subst ev2
  have B3 := Lib.hid (B2.out.trans (hb.mono B2.out.size))
  have KE3 := Lib.hid (KE2.out.below hb KE2.out.lt)
  have KR3 := Lib.hid (KR2.out.below hb KR2.out.lt)
  have HM3 : Hid (OwnRowS 39 20 w.heap.size w3 (.slice ad2 d.mods.length cap2) d.mods) := Lib.hid (hO.mono B2.out.size)
  clear hb
  clear B2 KE2 KR2
  go_simp
  rename_i hKK
  refine hKK _ _ ?_
  clear hKK
  try simp only [pu, sB, s0, sS]
  (with_reducible refine rN (v := .pointer (some ⟨pE, 17, none⟩)) ?_ ?_ ?_); (· rfl); (· go_simp; (try rfl)); simp only [pu, sB, s0, sS]
  have KE4 := Lib.hid (KE3.out.stored (o := 17) (vs := [.slice ad2 d.mods.length cap2]) (cs' := (abC d (.slice ad2 d.mods.length cap2) (.slice bd d.specs.length bcap) (.slice cd d.effs.length ccap))) (abC_p17 ok))
  have KR4 := Lib.hid (KR3.out.wholeElse ([.slice ad2 d.mods.length cap2]) (o := 17) NERE.out)
  have B4 := Lib.hid (below_whole ([.slice ad2 d.mods.length cap2]) (o := 17) B3.out LEE.out)
  have HM4 := Lib.hid (HM3.out.keep (KeepT.stored KE3.out 17 ([.slice ad2 d.mods.length cap2])) (by decide))
  with_reducible refine wpList_storeV (.tmp 6) (.tmp 5) (j := 17) (v := .slice ad2 d.mods.length cap2) ?_ ?_ KE3.out ?_ (by kernel_rfl) (by simp [Value.oneCell']) ?_
  · rfl
  · rfl
  · exact (fit_1 (abC_sz ok) (by decide))
  (try simp only [Act.put])
  generalize World.setCells _ _ _ _ = w4 at KE4 KR4 B4 HM4 ⊢
  clear B3 KE3 KR3 HM3
  go_upto_region 2 with fail
  refine wp_region_lit ?_
  (with_reducible refine rN (v := .pointer (some ⟨pE, 48, none⟩)) ?_ ?_ ?_); (· rfl); (· go_simp; (try rfl)); simp only [pu, sB, s0, sS]
  with_reducible refine wpList_loadV (.tmp 7) (j := 48) (v := .slice bd d.specs.length bcap) ?_ ?_ KE4.out ?_ Tryz.underlying66 ?_ ?_
  · rfl
  · rfl
  · exact abC_48 ok
  · rfl
  simp only [pu, sB, s0, sS]
  go_wp2_with fail
  refine (cloneSp _ d.specs _ (HV2.out.below B4.out (Nat.le_refl _)) ok.few.2.1 (fun x hx => (ok.specs x hx).one)).mono ?_
  rintro e w5 ⟨⟨v2, rfl, hO⟩, hb⟩
  obtain ⟨bd2, bcap2, ev2⟩ := hO.row.slice
  subst ev2
  have B5 := Lib.hid (B4.out.trans (hb.mono B4.out.size))
  have KE5 := Lib.hid (KE4.out.below hb KE4.out.lt)
  have KR5 := Lib.hid (KR4.out.below hb KR4.out.lt)
  have HM5 := Lib.hid (HM4.out.below hb (Nat.le_refl _))
  have HS5 : Hid (OwnRowS 119 18 w.heap.size w5 (.slice bd2 d.specs.length bcap2) d.specs) := Lib.hid (hO.mono B4.out.size)
  clear hb
  clear B4 KE4 KR4 HM4
  go_simp
  rename_i hKK
  refine hKK _ _ ?_
  clear hKK
  try simp only [pu, sB, s0, sS]
  (with_reducible refine rN (v := .pointer (some ⟨pE, 48, none⟩)) ?_ ?_ ?_); (· rfl); (· go_simp; (try rfl)); simp only [pu, sB, s0, sS]
  have KE6 := Lib.hid (KE5.out.stored (o := 48) (vs := [.slice bd2 d.specs.length bcap2]) (cs' := (abC d (.slice ad2 d.mods.length cap2) (.slice bd2 d.specs.length bcap2) (.slice cd d.effs.length ccap))) (abC_p48 ok))
  have KR6 := Lib.hid (KR5.out.wholeElse ([.slice bd2 d.specs.length bcap2]) (o := 48) NERE.out)
  have B6 := Lib.hid (below_whole ([.slice bd2 d.specs.length bcap2]) (o := 48) B5.out LEE.out)
  have HM6 := Lib.hid (HM5.out.keep (KeepT.stored KE5.out 48 ([.slice bd2 d.specs.length bcap2])) (by decide))
  have HS6 := Lib.hid (HS5.out.keep (KeepT.stored KE5.out 48 ([.slice bd2 d.specs.length bcap2])) (by decide))
  with_reducible refine wpList_storeV (.tmp 10) (.tmp 9) (j := 48) (v := .slice bd2 d.specs.length bcap2) ?_ ?_ KE5.out ?_ (by kernel_rfl) (by simp [Value.oneCell']) ?_
  · rfl
  · rfl
  · exact (fit_1 (abC_sz ok) (by decide))
  (try simp only [Act.put])
  generalize World.setCells _ _ _ _ = w6 at KE6 KR6 B6 HM6 HS6 ⊢
  clear B5 KE5 KR5 HM5 HS5
  go_upto_region 3 with fail
  refine wp_region_lit ?_
  (with_reducible refine rN (v := .pointer (some ⟨pE, 49, none⟩)) ?_ ?_ ?_); (· rfl); (· go_simp; (try rfl)); simp only [pu, sB, s0, sS]
  with_reducible refine wpList_loadV (.tmp 11) (j := 49) (v := .slice cd d.effs.length ccap) ?_ ?_ KE6.out ?_ Tryz.underlying67 ?_ ?_
  · rfl
  · rfl
  · exact abC_49 ok
  · rfl
  simp only [pu, sB, s0, sS]
  go_wp2_with fail
  refine (eachEf _ d.effs _ (HV3.out.below B6.out (Nat.le_refl _)) ok.effs ok.few.2.2).mono ?_
  rintro e w7 ⟨⟨v2, rfl, hO⟩, hb⟩
  obtain ⟨cd2, ccap2, ev2⟩ := hO.slice
  subst ev2
  have B7 := Lib.hid (B6.out.trans (hb.mono B6.out.size))
  have KE7 := Lib.hid (KE6.out.below hb KE6.out.lt)
  have KR7 := Lib.hid (KR6.out.below hb KR6.out.lt)
  have HM7 := Lib.hid (HM6.out.below hb (Nat.le_refl _))
  have HS7 := Lib.hid (HS6.out.below hb (Nat.le_refl _))
  have HF7 : Hid (EfRow (some w.heap.size) w7 (.slice cd2 d.effs.length ccap2) d.effs) := Lib.hid (hO.mono B6.out.size)
  clear hb
  clear B6 KE6 KR6 HM6 HS6
  go_simp
  rename_i hKK
  refine hKK _ _ ?_
  clear hKK
  try simp only [pu, sB, s0, sS]
  (with_reducible refine rN (v := .pointer (some ⟨pE, 49, none⟩)) ?_ ?_ ?_); (· rfl); (· go_simp; (try rfl)); simp only [pu, sB, s0, sS]
  have KE8 := Lib.hid (KE7.out.stored (o := 49) (vs := [.slice cd2 d.effs.length ccap2]) (cs' := (abC d (.slice ad2 d.mods.length cap2) (.slice bd2 d.specs.length bcap2) (.slice cd2 d.effs.length ccap2))) (abC_p49 ok))
  have KR8 := Lib.hid (KR7.out.wholeElse ([.slice cd2 d.effs.length ccap2]) (o := 49) NERE.out)
  have B8 := Lib.hid (below_whole ([.slice cd2 d.effs.length ccap2]) (o := 49) B7.out LEE.out)
  have HM8 := Lib.hid (HM7.out.keep (KeepT.stored KE7.out 49 ([.slice cd2 d.effs.length ccap2])) (by decide))
  have HS8 := Lib.hid (HS7.out.keep (KeepT.stored KE7.out 49 ([.slice cd2 d.effs.length ccap2])) (by decide))
  have HF8 := Lib.hid (HF7.out.keep (KeepT.stored KE7.out 49 ([.slice cd2 d.effs.length ccap2])) (by decide))
  with_reducible refine wpList_storeV (.tmp 14) (.tmp 13) (j := 49) (v := .slice cd2 d.effs.length ccap2) ?_ ?_ KE7.out ?_ (by kernel_rfl) (by simp [Value.oneCell']) ?_
  · rfl
  · rfl
  · exact (fit_1 (abC_sz ok) (by decide))
  (try simp only [Act.put])
  generalize World.setCells _ _ _ _ = w8 at KE8 KR8 B8 HM8 HS8 HF8 ⊢
  clear B7 KE7 KR7 HM7 HS7 HF7
  go_upto_region 4 with fail
  refine wp_region_lit ?_
  with_reducible refine wpList_loadS (.tmp 1) ?_ ?_ KE8.out Tryz.underlying71 ?_ (szAb (abC_sz ok)) ?_
  · rfl
  · rfl
  · rfl
  simp only [pu, sB, s0, sS]
  have KR9 := Lib.hid (KR8.out.stored (o := 0) (vs := (abC d (.slice ad2 d.mods.length cap2) (.slice bd2 d.specs.length bcap2) (.slice cd2 d.effs.length ccap2)).toList) (cs' := (abC d (.slice ad2 d.mods.length cap2) (.slice bd2 d.specs.length bcap2) (.slice cd2 d.effs.length ccap2))) (laid_all (abC_sz ok) zAb_cells))
  have KE9 := Lib.hid (KE8.out.wholeElse ((abC d (.slice ad2 d.mods.length cap2) (.slice bd2 d.specs.length bcap2) (.slice cd2 d.effs.length ccap2)).toList) (o := 0) NEER.out)
  have B9 := Lib.hid (below_whole ((abC d (.slice ad2 d.mods.length cap2) (.slice bd2 d.specs.length bcap2) (.slice cd2 d.effs.length ccap2)).toList) (o := 0) B8.out LER.out)
  have HM9 := Lib.hid (HM8.out.keep (KeepT.stored KR8.out 0 ((abC d (.slice ad2 d.mods.length cap2) (.slice bd2 d.specs.length bcap2) (.slice cd2 d.effs.length ccap2)).toList)) (by decide))
  have HS9 := Lib.hid (HS8.out.keep (KeepT.stored KR8.out 0 ((abC d (.slice ad2 d.mods.length cap2) (.slice bd2 d.specs.length bcap2) (.slice cd2 d.effs.length ccap2)).toList)) (by decide))
  have HF9 := Lib.hid (HF8.out.keep (KeepT.stored KR8.out 0 ((abC d (.slice ad2 d.mods.length cap2) (.slice bd2 d.specs.length bcap2) (.slice cd2 d.effs.length ccap2)).toList)) (by decide))
  with_reducible refine wpList_storeM (.tmp 2) (.tmp 15) (o := 0) (vs := (abC d (.slice ad2 d.mods.length cap2) (.slice bd2 d.specs.length bcap2) (.slice cd2 d.effs.length ccap2))) ?_ ?_ KR8.out ?_ (szAb (abC_sz ok)) (abC_one ok rfl rfl rfl) ?_
  · rfl
  · rfl
  · exact (fit_2 zAb_cells (abC_sz ok) (by decide))
  (try simp only [Act.put])
  generalize World.setCells _ _ _ _ = w9 at KE9 KR9 B9 HM9 HS9 HF9 ⊢
  clear B8 KE8 KR8 HM8 HS8 HF8
  have hL := KR9.out.readS Tryz.underlying71 rfl (szAb (abC_sz ok))
  go_wp2_with fail
  exact bodyPost_ret (v := .agg (abC d (.slice ad2 d.mods.length cap2) (.slice bd2 d.specs.length bcap2) (.slice cd2 d.effs.length ccap2))) (results_cell Tryz.results107 (by rfl) hL) rfl ⟨⟨_, _, _, rfl, HM9.out, HS9.out, HF9.out⟩, B9.out⟩
end Go.Proofs.YtbcgkeclmioeiaaGreatDoor
namespace Go.Proofs.YtbcgkeclmioeiaaGreatDoor
open Go.RowKit
open Wd (Bs)

set_option maxHeartbeats 4000000 in
set_option maxRecDepth 100000 in
theorem eachAb (v : Value) (l : List AbD) (w : World) (hv : AbRow none w v l) (hok : ∀ d ∈ l, AbOk d) (hl : l.length ≤ 1000) :
    Calls Tryz.prog 106 #[v, .func (.func 107) #[] #[]] w fun e w' => (∃ v', e = .returned v' ∧ AbRow (some w.heap.size) w' v' l) ∧ Below w.heap.size w w' := by
  obtain ⟨ps, hps, hr, hm⟩ := hv
  have hr0 : RowS 72 w v (ps.map abP) := hr
  have hln : ps.length ≤ 1000 := by have := congrArg List.length hps; rw [List.length_map] at this; omega
  have HOK : Hid (∀ p ∈ ps, AbOk p.1) := Lib.hid fun p hp => hok p.1 (by rw [← hps]; exact List.mem_map.2 ⟨p, hp, rfl⟩)
  have hone : ∀ x ∈ ps.map abP, x.all (·.oneCell') = true := fun x hx => by
    obtain ⟨p, hp, rfl⟩ := List.mem_map.1 hx
    exact abC_one (HOK.out p hp) (hm p hp).mods.row.oneCell (hm p hp).specs.row.oneCell (hm p hp).effs.oneCell
  have HM := Lib.hid hm
  have eg : ∀ args w, (callFunc 107 args).run Tryz.prog w = .ok (.enter 107 args) w := enters_of Tryz.func107 (by kernel_rfl) rfl
  have HPS := Lib.hid hps
  have hlm : (ps.map abP).length ≤ 1000 := by rw [List.length_map]; exact hln
  have hc := Lib.hid (cloneAb v _ w hr0 hlm hone)
  clear hlm
  clear hr hr0 hone hm hok hps

  have B0 := Lib.hid (Below.refl w.heap.size w)
  go_enter Tryz.func106, Tryz.ntmps106
  go_upto_region 0 with fail
  refine wp_region_lit ?_
  (with_reducible refine rN (v := ?_) ?_ ?_ ?_); rotate_left; (· rfl); (· go_simp; (try with_reducible rfl)); simp only [pu, sB, s0, sS]
  go_upto_region 1 with fail
  refine wp_region_lit ?_
  (with_reducible refine rN (v := ?_) ?_ ?_ ?_); rotate_left; (· rfl); (· go_simp; (try with_reducible rfl)); simp only [pu, sB, s0, sS]
  go_wp2_with fail
  refine (hc.out).mono ?_
  rintro e w1 ⟨⟨v0, rfl, hO⟩, hb⟩
  obtain ⟨ad0, cap0, ev0⟩ := hO.row.slice
  rw [List.length_map] at ev0
  subst ev0
  have B1 := Lib.hid (B0.out.trans (hb.mono B0.out.size))
  have HO1 : Hid (OwnRowS 71 72 w.heap.size w1 (.slice ad0 ps.length cap0) (ps.map abP)) := Lib.hid (hO)
  clear hb
  clear B0
  go_simp
  rename_i hKK
  refine hKK _ _ ?_
  clear hKK
  try simp only [pu, sB, s0, sS]
  (with_reducible refine rN (v := ?_) ?_ ?_ ?_); rotate_left; (· rfl); (· go_simp; (try with_reducible rfl)); simp only [pu, sB, s0]
  go_upto_region 2 with fail
  refine wp_region_lit ?_
  iterate 3 ((with_reducible refine rN (v := ?_) ?_ ?_ ?_); rotate_left; (· rfl); (· go_simp; (try with_reducible rfl)); simp only [pu, sB, s0, sS])
  go_wp2_with fail
  go_loopw [5, 6, 11] (fun v5 v6 iv wr => ∃ (i : Nat) (qs : List AbP), i ≤ ps.length ∧ iv = .int .i64 (i : Int) ∧ Hid (EachAt 71 72 w.heap.size abP (fun p => p.1) (fun w' q => AbIn (some w.heap.size) w' q) wr ps qs i ad0 cap0) ∧ Hid (Below w.heap.size w wr)) (fun v5 v6 iv _ => ps.length - (intOf iv).toNat)
  case atStart => exact ⟨0, ps, by omega, rfl, Lib.hid (EachAt.start HO1.out), B1⟩
  case round =>
    obtain ⟨i, qs, hi, rfl, HE, HB⟩ := hrel
    clear B1 HO1
    have B0 := Lib.hid (Below.refl wr.heap.size wr)
    by_cases hlt : i < ps.length
    · obtain ⟨p, g, hp, rfl, hBg, hr⟩ := HE.out.at hlt
      have HR := Lib.hid hr
      have HP := Lib.hid hp
      have HBG := Lib.hid hBg
      have HMP := Lib.hid (HM.out p (List.mem_of_getElem? hp))
      have ok := HOK.out p (List.mem_of_getElem? hp)
      clear hp hr hBg
      have hi0 : (0 : Int) ≤ (i : Int) := by omega
      have hil : (i : Int) < (ps.length : Int) := by omega
      go_upto_region 3 with fail
      refine wp_region_lit ?_
      (with_reducible refine rN (v := .bool true) ?_ ?_ ?_); (· rfl); (· go_simp; (try with_reducible rfl)); simp only [pu, sB, s0, sS]
      go_upto_region 4 with fail
      refine wp_region_lit ?_
      (with_reducible refine rN (v := ?_) ?_ ?_ ?_); rotate_left; (· rfl); (· go_simp; (try with_reducible rfl)); simp only [pu, sB, s0, sS]
      (with_reducible refine rN (v := .pointer (some ⟨g, i * 72, none⟩)) ?_ ?_ ?_); (· rfl); (· go_simp; (try rfl)); simp only [pu, sB, s0, sS]
      with_reducible refine wpList_loadR (.tmp 14) (o := i * 72) (xs := (abC p.1 (p.2.1) (p.2.2.1) (p.2.2.2))) ?_ ?_ HR.out Tryz.underlying71 ?_ (szAb (abC_sz ok)) ?_
      · rfl
      · rfl
      · rfl
      simp only [pu, sB, s0, sS]
      obtain ⟨w1, hw⟩ : ∃ v, v = wr.alloc (.cells zAb.cells 71) := ⟨_, rfl⟩
      obtain ⟨pX, hp⟩ : ∃ v, v = wr.heap.size := ⟨_, rfl⟩
      have B1 : Hid (Below wr.heap.size wr w1) := Lib.hid (by rw [hw]; exact B0.out.alloc B0.out.size _)
      have LEX : Hid (wr.heap.size ≤ pX) := Lib.hid (by rw [hp]; exact B0.out.size)
      have KX1 : Hid (Blk w1 pX zAb.cells 71) := Lib.hid (by rw [hw, hp]; exact Blk.new _ _ _)
      with_reducible refine wpList_runWV (some 6) (v := .pointer (some ⟨pX, 0, none⟩)) (w' := w1) ?_ ?_ ?_ ?_
      · rfl
      · rfl
      · rw [hw, hp]; exact run_allocOp rfl infoAb zeroAb
      simp only [pu, sB, s0, sS]
      clear hw hp
      clear B0
      (with_reducible refine rN (v := ?_) ?_ ?_ ?_); rotate_left; (· rfl); (· go_simp; (try with_reducible rfl)); simp only [pu, sB, s0, sS]
      have KX2 := Lib.hid (KX1.out.stored (o := 0) (vs := (abC p.1 (p.2.1) (p.2.2.1) (p.2.2.2)).toList) (cs' := (abC p.1 (p.2.1) (p.2.2.1) (p.2.2.2))) (laid_all (abC_sz ok) zAb_cells))
      have B2 := Lib.hid (below_whole ((abC p.1 (p.2.1) (p.2.2.1) (p.2.2.2)).toList) (o := 0) B1.out LEX.out)
      with_reducible refine wpList_storeM (.tmp 6) (.tmp 15) (o := 0) (vs := (abC p.1 (p.2.1) (p.2.2.1) (p.2.2.2))) ?_ ?_ KX1.out ?_ (szAb (abC_sz ok)) (abC_one ok HMP.out.mods.row.oneCell HMP.out.specs.row.oneCell HMP.out.effs.oneCell) ?_
      · rfl
      · rfl
      · exact (fit_2 zAb_cells (abC_sz ok) (by decide))
      (try simp only [Act.put])
      generalize World.setCells _ _ _ _ = w2 at KX2 B2 ⊢
      clear B1 KX1
      go_upto_region 5 with fail
      refine wp_region_lit ?_
      iterate 3 ((with_reducible refine rN (v := ?_) ?_ ?_ ?_); rotate_left; (· rfl); (· go_simp; (try with_reducible rfl)); simp only [pu, sB, s0, sS])
      with_reducible refine wpList_loadS (.tmp 6) ?_ ?_ KX2.out Tryz.underlying71 ?_ (szAb (abC_sz ok)) ?_
      · rfl
      · rfl
      · rfl
      simp only [pu, sB, s0, sS]
      go_wp2_with fail
      refine (cloneAbility p.1 p.2.1 p.2.2.1 p.2.2.2 ok _ (HMP.out.below (HB.out.trans (B2.out.mono HB.out.size)) (Nat.le_refl _))).mono ?_
      rintro e wz ⟨⟨a2, b2, c2, rfl, hO⟩, hb⟩
      have BZ := Lib.hid (B2.out.trans (hb.mono B2.out.size))
      have HB2 := Lib.hid (HB.out.trans (BZ.out.mono HB.out.size))
      have HEZ := Lib.hid (HE.out.below BZ.out (fun q hq => hq.below BZ.out (Nat.le_refl _)))
      have HN := Lib.hid (HEZ.out.next (by decide) hlt HP.out (q := (p.1, a2, b2, c2)) rfl (abC_sz ok) (hO.mono (Nat.le_trans HB.out.size B2.out.size)) (fun w' q hk hq => hq.keep hk))
      clear hb
      go_simp
      rename_i hKK
      refine hKK _ _ ?_
      clear hKK
      try simp only [pu, sB, s0, sS]
      (with_reducible refine rN (v := .pointer (some ⟨g, i * 72, none⟩)) ?_ ?_ ?_); (· rfl); (· go_simp; (try rfl)); simp only [pu, sB, s0, sS]
      refine wpList_store_mid rfl 71 (.tmp 21) (.tmp 20) rfl g (i * 72) (abC p.1 (a2) (b2) (c2)) rfl rfl (by rw [(abC_sz ok)]; exact HN.out.1) (szAb (abC_sz ok)) (abC_one ok hO.mods.row.oneCell hO.specs.row.oneCell hO.effs.oneCell) ?_
      have HB3 := Lib.hid (below_whole ((abC p.1 (a2) (b2) (c2)).toList) (o := i * 72) HB2.out HBG.out)
      go_wp2_with fail
      go_roundw
      case rel => exact ⟨i + 1, _, by omega, by go_num, Lib.hid HN.out.2, HB3⟩
      case measure => simp [intOf]; omega
    obtain rfl : i = ps.length := by omega
    have hil : ¬ (ps.length : Int) < (ps.length : Int) := by omega
    go_upto_region 3 with fail
    refine wp_region_lit ?_
    (with_reducible refine rN (v := .bool false) ?_ ?_ ?_); (· rfl); (· go_simp; (try with_reducible rfl)); simp only [pu, sB, s0, sS]
    go_upto_region 7 with fail
    refine wp_region_lit ?_
    iterate 2 ((with_reducible refine rN (v := ?_) ?_ ?_ ?_); rotate_left; (· rfl); (· go_simp; (try with_reducible rfl)); simp only [pu, sB, s0, sS])
    go_wp2_with fail
    go_ret
    obtain ⟨rs, h1, h2, h3⟩ := HE.out.fin (Nat.le_refl _)
    exact ⟨⟨_, rfl, rs, by rw [h1, HPS.out], h2, h3⟩, HB.out⟩
end Go.Proofs.YtbcgkeclmioeiaaGreatDoor
