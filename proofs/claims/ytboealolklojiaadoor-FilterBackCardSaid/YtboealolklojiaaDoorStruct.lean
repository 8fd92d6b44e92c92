/-
  A STRUCT OF ANY SIZE IN A BLOCK OF ITS OWN, loaded and stored whole, its cells a letter. By an AI agent.
-/
import Derived.Test.YtboealolklojiaaDoorBlk
import Derived.Deep.MidRow
import Derived.Deep.RegionHeld3
import Derived.WalkKit
namespace Go.Proofs.YtboealolklojiaaDoor
open Go.RowKit

theorem Blk.rangeS {w : World} {b : Nat} {cs : Array Value} {t : TypeId} (h : Blk w b cs t) : w.rangeAt b 0 cs.toList := fun j v hv => by
  rw [Nat.zero_add, h.cell j]
  simpa using hv
theorem Blk.thereS {w : World} {b : Nat} {cs : Array Value} {t : TypeId} (h : Blk w b cs t) : w.there b 0 cs.size := fun j hj => by
  rw [Nat.zero_add]
  exact ⟨by rw [h.cell j, Array.getElem?_eq_getElem hj]; rfl, h.free j⟩
def laidAt (cs : Array Value) (o : Nat) : List Value → Array Value
  | [] => cs
  | v :: vs => laidAt (cs.setIfInBounds o v) (o + 1) vs
theorem laidAt_size : ∀ (vs : List Value) (cs : Array Value) (o : Nat), (laidAt cs o vs).size = cs.size
  | [], _, _ => rfl
  | v :: vs, cs, o => by rw [laidAt, laidAt_size vs]; simp
theorem laidAt_get : ∀ (vs : List Value) (cs : Array Value) (o j : Nat), o + vs.length ≤ cs.size → (laidAt cs o vs)[j]? = if o ≤ j ∧ j < o + vs.length then vs[j - o]? else cs[j]?
  | [], cs, o, j, _ => by rw [laidAt, if_neg (by simp)]
  | v :: vs, cs, o, j, h => by
    simp only [List.length_cons] at h ⊢
    rw [laidAt, laidAt_get vs _ _ j (by simp; omega)]
    by_cases h1 : o + 1 ≤ j ∧ j < o + 1 + vs.length
    · rw [if_pos h1, if_pos ⟨by omega, by omega⟩]
      obtain ⟨d, hd⟩ : ∃ d, j = o + 1 + d := ⟨j - (o + 1), by omega⟩
      subst hd
      rw [show o + 1 + d - (o + 1) = d by omega, show o + 1 + d - o = d + 1 by omega, List.getElem?_cons_succ]
    · rw [if_neg h1]
      by_cases h2 : j = o
      · subst h2
        rw [if_pos ⟨by omega, by omega⟩, Nat.sub_self, List.getElem?_cons_zero, Array.getElem?_setIfInBounds_self_of_lt (by omega)]
      · rw [if_neg (by omega), Array.getElem?_setIfInBounds_ne (by omega)]
theorem laidAt_whole {cs vs : Array Value} (h : vs.size = cs.size) : laidAt cs 0 vs.toList = vs := by
  apply Array.ext_getElem?
  intro j
  rw [laidAt_get _ _ _ _ (by simp [h])]
  simp only [Nat.zero_le, Nat.zero_add, true_and, Nat.sub_zero, Array.length_toList, Array.getElem?_toList]
  by_cases hj : j < vs.size
  · rw [if_pos hj]
  · rw [if_neg hj, Array.getElem?_eq_none (by omega), Array.getElem?_eq_none (by omega)]
theorem Blk.laid : ∀ {vs : List Value} {w : World} {b o : Nat} {cs : Array Value} {t : TypeId}, Blk w b cs t → Blk (w.setCells b o vs) b (laidAt cs o vs) t
  | [], _, _, _, _, _, h => h
  | v :: vs, w, b, o, cs, t, h => by
    show Blk ((w.setCell ⟨b, o, none⟩ v).setCells b (o + 1) vs) b (laidAt (cs.setIfInBounds o v) (o + 1) vs) t
    exact Blk.laid (h.set o v)
/-- a block stored whole -/
theorem Blk.whole {w : World} {b : Nat} {cs : Array Value} {t : TypeId} (h : Blk w b cs t) (vs : Array Value) (hn : vs.size = cs.size) : Blk (w.setCells b 0 vs.toList) b vs t := by
  have := h.laid (o := 0) (vs := vs.toList)
  rw [laidAt_whole hn] at this
  exact this
theorem Blk.wholeElse : ∀ (vs : List Value) {w : World} {b g o : Nat} {cs : Array Value} {t : TypeId}, Blk w b cs t → b ≠ g → Blk (w.setCells g o vs) b cs t
  | [], _, _, _, _, _, _, h, _ => h
  | v :: vs, w, b, g, o, cs, t, h, hg => by
    show Blk ((w.setCell ⟨g, o, none⟩ v).setCells g (o + 1) vs) b cs t
    exact Blk.wholeElse vs (h.other hg o v) hg
theorem below_whole : ∀ (vs : List Value) {C : Nat} {w0 w : World} {b o : Nat}, Below C w0 w → C ≤ b → Below C w0 (w.setCells b o vs)
  | [], _, _, _, _, _, h, _ => h
  | v :: vs, C, w0, w, b, o, h, hC => by
    show Below C w0 ((w.setCell ⟨b, o, none⟩ v).setCells b (o + 1) vs)
    exact below_whole vs (h.setCell (by exact hC) v) hC
theorem cell_wholeElse (vs : List Value) {w : World} {b g o : Nat} (p : Nat) (hg : b ≠ g) : (w.setCells g o vs).cell? ⟨b, p, none⟩ = w.cell? ⟨b, p, none⟩ :=
  World.cell?_setCells_out g vs o w ⟨b, p, none⟩ fun e => absurd e hg
theorem size_whole : ∀ (vs : List Value) (w : World) (b o : Nat), (w.setCells b o vs).heap.size = w.heap.size
  | [], _, _, _ => rfl
  | v :: vs, w, b, o => by
    show ((w.setCell ⟨b, o, none⟩ v).setCells b (o + 1) vs).heap.size = _
    rw [size_whole vs]; simp
section
variable {P : Program}
/-- a struct loaded whole, at a region's list -/
theorem wpList_loadS {ops : Array Oper} {rest : List Oper} {a : Act} {w : World} {Q : Exit → Act → World → Prop} {d : Option Tmp} {ty T : TypeId} {ps : String} {af : Array Edge} {gd : Option (Nat × Bool)} (x : Operand)
    (hw : Region.wanted { dst := d, op := .load T x, type := ty, pos := ps, after := af, guard := gd } (yielded ops a.tmps) = true)
    {b : Nat} {cs : Array Value} {D : TypeDesc} (hx : a.eval x = .pointer (some ⟨b, 0, none⟩)) (hk : Blk w b cs T) (hu : P.underlying T = some D) (hd : D.isRow = true) (hn : (P.info? T).map (·.size) = some cs.size)
    (h : wpList P ops Q rest (a.put d (.agg cs)) w) : wpList P ops Q ({ dst := d, op := .load T x, type := ty, pos := ps, after := af, guard := gd } :: rest) a w := by
  unfold wpList
  rw [if_pos hw]
  refine .inl (wp_load_mid T x rfl b 0 hx cs.toList _ hk.rangeS hu hd (by simpa using hn) ?_)
  simpa using h
theorem wp_loadS {o : Oper} {a : Act} {w : World} {K : Act → World → Prop} {Q : Exit → Act → World → Prop} {T : TypeId} (x : Operand) (ho : o.op = .load T x)
    {b : Nat} {cs : Array Value} {D : TypeDesc} (hx : a.eval x = .pointer (some ⟨b, 0, none⟩)) (hk : Blk w b cs T) (hu : P.underlying T = some D) (hd : D.isRow = true) (hn : (P.info? T).map (·.size) = some cs.size)
    (h : K (a.put o.dst (.agg cs)) w) : Oper.wp P o a w K Q := by
  refine wp_load_mid T x ho b 0 hx cs.toList _ hk.rangeS hu hd (by simpa using hn) ?_
  simpa using h
theorem wp_storeS {o : Oper} {a : Act} {w : World} {K : Act → World → Prop} {Q : Exit → Act → World → Prop} {T : TypeId} (x y : Operand) (ho : o.op = .store T x y)
    {b : Nat} {cs vs : Array Value} (hx : a.eval x = .pointer (some ⟨b, 0, none⟩)) (hy : a.eval y = .agg vs) (hk : Blk w b cs T) (hn : vs.size = cs.size) (hi : (P.info? T).map (·.size) = some vs.size) (h1 : vs.all (·.oneCell') = true)
    (h : K (a.put o.dst undef) (w.setCells b 0 vs.toList)) : Oper.wp P o a w K Q :=
  wp_store_mid T x y ho b 0 vs hx hy (by have := hk.thereS; rw [← hn] at this; exact this) hi h1 h
theorem wpList_storeS {ops : Array Oper} {rest : List Oper} {a : Act} {w : World} {Q : Exit → Act → World → Prop} {d : Option Tmp} {ty T : TypeId} {ps : String} {af : Array Edge} (x y : Operand)
    {b : Nat} {cs vs : Array Value} (hx : a.eval x = .pointer (some ⟨b, 0, none⟩)) (hy : a.eval y = .agg vs) (hk : Blk w b cs T) (hn : vs.size = cs.size) (hi : (P.info? T).map (·.size) = some vs.size) (h1 : vs.all (·.oneCell') = true)
    (h : wpList P ops Q rest (a.put d undef) (w.setCells b 0 vs.toList)) : wpList P ops Q ({ dst := d, op := .store T x y, type := ty, pos := ps, after := af, guard := none } :: rest) a w :=
  wpList_store_mid rfl T x y rfl b 0 vs hx hy (by have := hk.thereS; rw [← hn] at this; exact this) hi h1 h
theorem wpList_runV {ops : Array Oper} {rest : List Oper} {o : Oper} {a : Act} {w : World} {Q : Exit → Act → World → Prop} (d : Option Tmp) {v : Value} (hd : o.dst = d)
    (hw : Region.wanted o (yielded ops a.tmps) = true) (hy : (execOp a.eval o).run P w = .ok (.value v) w)
    (h : wpList P ops Q rest (a.put d v) w) : wpList P ops Q (o :: rest) a w := by
  subst hd
  unfold wpList
  rw [if_pos hw]
  refine .inl ?_
  unfold Oper.wp
  rw [hy]
  exact h
theorem wpList_skipV {ops : Array Oper} {rest : List Oper} {o : Oper} {a : Act} {w : World} {Q : Exit → Act → World → Prop} (d : Option Tmp) (hd : o.dst = d)
    (hw : Region.wanted o (yielded ops a.tmps) = false) (h : wpList P ops Q rest (a.put d undef) w) : wpList P ops Q (o :: rest) a w := by
  subst hd
  exact wpList_skip hw h
/-- an operation that leaves another world (an alloc) -/
theorem wpList_runWV {ops : Array Oper} {rest : List Oper} {o : Oper} {a : Act} {w : World} {Q : Exit → Act → World → Prop} (d : Option Tmp) {v : Value} {w' : World} (hd : o.dst = d)
    (hw : Region.wanted o (yielded ops a.tmps) = true) (hy : (execOp a.eval o).run P w = .ok (.value v) w')
    (h : wpList P ops Q rest (a.put d v) w') : wpList P ops Q (o :: rest) a w := by
  subst hd
  unfold wpList
  rw [if_pos hw]
  refine .inl ?_
  unfold Oper.wp
  rw [hy]
  exact h
theorem Blk.readS {w : World} {b : Nat} {cs : Array Value} {T : TypeId} {D : TypeDesc} (hk : Blk w b cs T) (hu : P.underlying T = some D) (hd : D.isRow = true) (hn : (P.info? T).map (·.size) = some cs.size) :
    (loadVar T ⟨b, 0, none⟩).run P w = .ok (.agg cs) w := by
  have := run_loadVar_mid (P := P) w b 0 T cs.toList D hk.rangeS hu hd (by simpa using hn)
  simpa using this
theorem results_cell {fn : Func} {tmps : Array Value} {w : World} {x : Tmp} {T : TypeId} {A : Addr} {v : Value} (h : fn.results = #[.cell x T]) (ha : tmps.getD x undef = .pointer (some A)) (hL : (loadVar T A).run P w = .ok v w) :
    (results fn tmps).run P w = .ok v w := by
  have ha' : tmps[x]?.getD undef = .pointer (some A) := by simpa using ha
  simp [results, h, ha', asAddr, hL]
theorem results_cell_tmp {fn : Func} {tmps : Array Value} {w : World} {x y : Tmp} {T : TypeId} {A : Addr} {v u : Value} (h : fn.results = #[.cell x T, .tmp y]) (ha : tmps.getD x undef = .pointer (some A)) (hu : tmps.getD y undef = u) (hL : (loadVar T A).run P w = .ok v w) :
    (results fn tmps).run P w = .ok (.tuple #[v, u]) w := by
  have ha' : tmps[x]?.getD undef = .pointer (some A) := by simpa using ha
  have hu' : tmps[y]?.getD undef = u := by simpa using hu
  simp [results, h, ha', hu', asAddr, hL]
end
end Go.Proofs.YtboealolklojiaaDoor
