/-
  ROWS OF INTEGERS, READ AND OWNED: what a contract says of a slice of ints that is read; the steps 's = append(s, t...)', 'append(nil, make([]int, n)...)' and 's[i] = x' on a row of the call's own; the way through the library's sort. By an AI agent.
-/
import Derived.Test.YtflbphmpohkkbaaOwn
import Derived.Lib.OwnBridge
import Derived.Laws.OwnMore
import Derived.Laws.AppendOwnNone
import Derived.Sort.Grow
import Derived.Sort.EncStr
namespace Go.Proofs.Ytflbphmpohkkbaa
open Go.RowKit

/-- the value v is a slice of ints that reads as l -/
def Ints (w : World) (v : Value) (l : List Int) : Prop :=
  ∃ a cap, v = .slice a l.length cap ∧ l.length ≤ cap ∧ cap ≤ maxLen ∧ (a = none → cap = 0) ∧ ∀ (i : Nat) x, l[i]? = some x → ∃ b o, a = some ⟨b, o, none⟩ ∧ b < w.heap.size ∧ w.cell? ⟨b, o + i, none⟩ = some (.int .i64 x)
theorem Ints.nil (w : World) : Ints w (.slice none 0 0) [] := ⟨none, 0, rfl, Nat.le_refl _, by decide, fun _ => rfl, fun i x h => by simp at h⟩
theorem Ints.shape {w : World} {v : Value} {l : List Int} (h : Ints w v l) : (∃ a cap, v = .slice a 0 cap ∧ l = [] ∧ cap ≤ maxLen ∧ (a = none → cap = 0)) ∨
    ∃ b o cap, v = .slice (some ⟨b, o, none⟩) l.length cap ∧ 0 < l.length ∧ b < w.heap.size ∧ l.length ≤ cap ∧ cap ≤ maxLen ∧ ∀ (i : Nat) x, l[i]? = some x → w.cell? ⟨b, o + i, none⟩ = some (.int .i64 x) := by
  obtain ⟨a, cap, rfl, h1, h2, hn, h3⟩ := h
  cases l with
  | nil => exact .inl ⟨a, cap, rfl, rfl, h2, hn⟩
  | cons y r =>
    obtain ⟨b, o, rfl, h4, _⟩ := h3 0 y rfl
    refine .inr ⟨b, o, cap, rfl, by simp, h4, h1, h2, fun i x hx => ?_⟩
    obtain ⟨b', o', e, _, h6⟩ := h3 i x hx
    injection e with e
    injection e with e1 e2
    subst e1 e2
    exact h6
theorem Ints.of_cells {w : World} {b o cap : Nat} {l : List Int} (h1 : l.length ≤ cap) (h2 : cap ≤ maxLen) (hb : b < w.heap.size) (h : ∀ (i : Nat) x, l[i]? = some x → w.cell? ⟨b, o + i, none⟩ = some (.int .i64 x)) :
    Ints w (.slice (some ⟨b, o, none⟩) l.length cap) l := ⟨_, cap, rfl, h1, h2, fun e => by simp at e, fun i x hx => ⟨b, o, rfl, hb, h i x hx⟩⟩
theorem Ints.below {C : Nat} {w w' : World} {v : Value} {l : List Int} (h : Ints w v l) (hb : Below C w w') (hC : w.heap.size ≤ C) : Ints w' v l := by
  obtain ⟨a, cap, rfl, h1, h2, hn, h3⟩ := h
  refine ⟨a, cap, rfl, h1, h2, hn, fun i x hx => ?_⟩
  obtain ⟨b, o, e, h4, h5⟩ := h3 i x hx
  exact ⟨b, o, e, Nat.lt_of_lt_of_le h4 hb.size, by rw [hb.cell (p := ⟨b, o + i, none⟩) (by show b < C; omega)]; exact h5⟩
theorem Ints.getD {w : World} {b o : Nat} {l : List Int} (h : ∀ (i : Nat) x, l[i]? = some x → w.cell? ⟨b, o + i, none⟩ = some (.int .i64 x)) : ∀ i, i < l.length → w.cell? ⟨b, o + i, none⟩ = some (.int .i64 (l.getD i 0)) := by
  intro i hi
  rw [h i l[i] (List.getElem?_eq_getElem hi)]
  simp [List.getD, hi]
theorem OwnInts.drewN {B : Nat} {w : World} {v : Value} {l : List Int} (h : OwnInts B w v l) (n : Nat) : OwnInts B (w.drewN n) v l := h.below (below_drewN (Below.refl w.heap.size w) n) (Nat.le_refl _)
theorem OwnInts.mono {B B' : Nat} {w : World} {v : Value} {l : List Int} (h : OwnInts B w v l) (hB : B' ≤ B) : OwnInts B' w v l := by
  refine ⟨h.1, ?_⟩
  rcases h.2 with hn | ⟨g, cap, cur, rfl, hg, rest⟩
  · exact .inl hn
  · exact .inr ⟨g, cap, cur, rfl, by omega, rest⟩
theorem OwnInts.lit (w : World) (l : List Int) (hl : l.length ≤ 1000000) : OwnInts w.heap.size (w.alloc (.cells (l.map (Value.int .i64)).toArray 3)) (.slice (some ⟨w.heap.size, 0, none⟩) l.length l.length) l := by
  have := World.ownsRow_lit (base := w.heap.size) (size := 1) (e := 3) w (l.map (Value.int .i64)).toArray l.length (Nat.le_refl _) (by unfold maxLen; omega) (by simp)
  simpa [OwnInts] using this
theorem OwnInts.ints {B : Nat} {w : World} {v : Value} {l : List Int} (h : OwnInts B w v l) : Ints w v l := by
  rcases h.shape with ⟨rfl, rfl⟩ | ⟨g, cap, rfl, _, h2, h3, h4, h5⟩
  · exact Ints.nil w
  · exact Ints.of_cells h3 h4 h2 fun i x hx => by rw [Nat.zero_add]; exact h5 i x hx
theorem OwnInts.holds {B : Nat} {w : World} {v : Value} {l : List Int} (h : OwnInts B w v l) (hl : 0 < l.length) :
    ∃ g cap, v = .slice (some ⟨g, 0, none⟩) l.length cap ∧ B ≤ g ∧ g < w.heap.size ∧ l.length ≤ cap ∧ cap ≤ maxLen ∧ Go.Sort.Holds (Value.int .i64) w g 0 l.toArray := by
  obtain ⟨g, cap, e, h1, h2, h3, h4, _, h5⟩ := Lib.holds_of_ownsRow (enc := Value.int .i64) (zs := l) h (by
    intro e; rcases h.shape with ⟨_, e1⟩ | ⟨g, cap, e2, _⟩
    · subst e1; simp at hl
    · rw [e] at e2; cases e2)
  exact ⟨g, cap, e, h1, h2, h3, h4, h5⟩
theorem below_grow (w : World) (os : Array Obj) : Below w.heap.size w (Go.Sort.grow w os) := ⟨rfl, rfl, rfl, by simp [Go.Sort.grow], fun _ hk => Go.Sort.heap_grow_old w os hk⟩
/-- behind a library's function that has written the row: the first k elements of what it laid -/
theorem OwnInts.laid {B : Nat} {w0 w w' : World} {g cap q k : Nat} {l d : List Int} {os : Array Obj} (h : OwnInts B w (.slice (some ⟨g, 0, none⟩) l.length cap) l) (hb : Below B w0 w) (hg : B ≤ g) (hd : d.length = l.length) (hk : k ≤ l.length)
    (hw : w' = Go.Sort.grow (Go.Sort.putRow (Value.int .i64) (Go.Sort.ahead w q) g 0 d.toArray) os) : OwnInts B w' (.slice (some ⟨g, 0, none⟩) k cap) (d.take k) ∧ Below B w0 w' := by
  subst hw
  have h1 := Lib.ownsRow_putRow (q := q) (k := k) (ys := d) (enc := Value.int .i64) (zs := l) h hd hk
  have h2 := Lib.below_putRow (enc := Value.int .i64) (q := q) (d := d.toArray) hb hg
  have hlt : B ≤ (Go.Sort.putRow (Value.int .i64) (Go.Sort.ahead w q) g 0 d.toArray).heap.size := by
    have := (World.ownsRow.lt h1 g rfl).2; omega
  have e : (d.take k).length = k := by simp; omega
  have h3 : OwnInts B (Go.Sort.putRow (Value.int .i64) (Go.Sort.ahead w q) g 0 d.toArray) (.slice (some ⟨g, 0, none⟩) k cap) (d.take k) := by
    unfold OwnInts; rw [e]; exact h1
  exact ⟨h3.below (below_grow _ os) (Nat.le_refl _), h2.trans ((below_grow _ os).mono hlt)⟩
theorem OwnInts.stored {B : Nat} {w : World} {g cap n : Nat} {l : List Int} (h : OwnInts B w (.slice (some ⟨g, 0, none⟩) n cap) l) (hn : n = l.length) (i : Nat) (u : Int) :
    OwnInts B (w.setCell ⟨g, i, none⟩ (.int .i64 u)) (.slice (some ⟨g, 0, none⟩) n cap) (l.set i u) ∧ w.grownBy (w.setCell ⟨g, i, none⟩ (.int .i64 u)) (some g) := by
  subst hn
  obtain ⟨h1, h2⟩ := World.ownsRow.stored h i (.int .i64 u)
  refine ⟨?_, h2⟩
  unfold OwnInts
  simpa using h1
/-- 's = append(s, t...)', s a row of the call's own, t a slice that is read. -/
theorem wpList_append_ints {ops : Array Oper} {rest : List Oper} {o : Oper} {a : Act} {Q : Exit → Act → World → Prop} (hgd : o.guard = none) (s x : Operand)
    (ho : o.op = .call { callee := .builtin .append, args := #[s, x], argTypes := #[22, 22] })
    {B : Nat} {w0 w : World} {v u : Value} {l m : List Int} (hs : a.eval s = v) (hown : OwnInts B w v l) (hx : a.eval x = u) (hu : Ints w u m)
    (hlen : l.length + m.length ≤ 1000000000000) (hB : B ≤ w.heap.size) (hb : Below B w0 w)
    (h : ∀ v' w', OwnInts B w' v' (l ++ m) → Below B w0 w' → wpList Try.prog ops Q rest (a.put o.dst v') w') :
    wpList Try.prog ops Q (o :: rest) a w := by
  obtain ⟨i0, hi, hz0, hz1, hz2⟩ := info_parts infoInt
  have hrow : w.ownsRow B 3 1 v l.length (l.map (Value.int .i64)) := hown
  obtain ⟨ao, cap, rfl, h1, h2, h3, h4⟩ := hu
  cases ao with
  | none =>
    obtain rfl := h3 rfl
    have hm : m = [] := List.eq_nil_of_length_eq_zero (by omega)
    subst hm
    refine wpList_append_own_none hgd s x 22 ho B 3 i0 1 Try.underlying22 hi v l.length (l.map (Value.int .i64)) hs hrow hx ?_
    exact h v w (by simpa using hown) hb
  | some ad =>
    refine wpList_append_own _ hgd s x 22 ho B 3 i0 (.int .i64 0) 1 8 Try.underlying22 hi hz0 hz1 hz2 rfl (by decide) v l.length (l.map (Value.int .i64)) hs hrow ad m.length cap (m.map (Value.int .i64)) hx (by simp) ?_ ?_ ?_ ?_ ?_ ?_
    · intro j u hj
      rw [List.getElem?_map] at hj
      obtain ⟨y, hy, rfl⟩ := Option.map_eq_some_iff.1 hj
      obtain ⟨b, o, e, _, h6⟩ := h4 j y hy
      obtain rfl := Option.some.inj e
      have hadd : (⟨b, o, none⟩ : Addr).add j = ⟨b, o + j, none⟩ := by unfold Addr.add; split <;> simp_all
      rw [hadd]
      exact h6
    · intro u hu
      obtain ⟨y, _, rfl⟩ := List.mem_map.1 hu
      rfl
    · unfold maxLen; omega
    · omega
    · exact hB
    · intro v' w1 hown' hgrow _
      refine h v' w1 ?_ (hb.grown hgrow hB fun k hk => (World.ownsRow.lt hrow k hk).1)
      unfold OwnInts
      simpa using hown'
theorem size_zeroCells (z : Array Value) (n : Nat) : (Builtin.zeroCells z n).size = n * z.size := by simp [Builtin.zeroCells]
/-- 'append(nil, make([]int, n)...)' -/
theorem run_append_zeros (w : World) (ty n : Nat) (h0 : 0 < n) (hn : n ≤ 1000000) :
    ∃ cs : Array Value, cs.size = grownCap w n 0 3 ∧ (Builtin.append_ #[22, 3] ty #[.slice none 0 0, .int .i64 (n : Int)]).run Try.prog w =
      .ok (.slice (some ⟨w.heap.size, 0, none⟩) n (grownCap w n 0 3)) (w.drew.alloc (.cells cs 3)) := by
  obtain ⟨i0, hi, hz0, hz1, hz2⟩ := info_parts infoInt
  have hge := grownCap_ge w n 0 3
  refine ⟨Builtin.zeroCells (Value.int .i64 0).cells n ++ Builtin.zeroCells (Value.int .i64 0).cells (grownCap w n 0 3 - n), ?_, ?_⟩
  · rw [Array.size_append, size_zeroCells, size_zeroCells]
    have : (Value.int IntKind.i64 0).cells.size = 1 := rfl
    rw [this]; omega
  · have hn0 : n ≠ 0 := by omega
    have hw : IntKind.wrap .i64 (n : Int) = (n : Int) := by
      have e : (n : Int) % 2 ^ 64 = n := Int.emod_eq_of_lt (by omega) (by omega)
      simp only [IntKind.wrap, IntKind.bits, IntKind.signed, e]
      rw [if_neg]
      simp
      omega
    have h48' : ¬ (281474976710656 < Builtin.nextslicecap n 0 * i0.bytes) := by rw [nextslicecap_zero h0, hz2]; omega
    have h1 : ¬ ((n : Int) < 0) := by omega
    have h2 : ¬ (281474976710656 < (n : Int) * (i0.bytes : Int)) := by rw [hz2]; omega
    have h3 : ¬ (9223372036854775807 < (n : Int)) := by omega
    simp [Builtin.append_, run_underlying Try.underlying22, run_underlying Try.underlying3, sizeOf, typeInfo, zeroValue, hi, hz0, hz1, Builtin.lenOf, hn0, hw, h1, h2, h3, h48', Question.forced, run_firstCells_none, newRow, grownCap, asInt, asIntOf]
theorem wpList_append_zeros {ops : Array Oper} {rest : List Oper} {o : Oper} {a : Act} {Q : Exit → Act → World → Prop} (hgd : o.guard = none) (s x : Operand)
    (ho : o.op = .call { callee := .builtin .append, args := #[s, x], argTypes := #[22, 3] })
    {B : Nat} {w0 w : World} (n : Nat) (h0 : 0 < n) (hn : n ≤ 1000000) (hs : a.eval s = .slice none 0 0) (hx : a.eval x = .int .i64 n) (hB : B ≤ w.heap.size) (hb : Below B w0 w)
    (h : ∀ g cap w', OwnInts B w' (.slice (some ⟨g, 0, none⟩) 0 cap) [] → n ≤ cap → cap ≤ maxLen → Below B w0 w' → wpList Try.prog ops Q rest (a.put o.dst (.slice (some ⟨g, 0, none⟩) n cap)) w') :
    wpList Try.prog ops Q (o :: rest) a w := by
  refine wpList_plain hgd fun K hK => ?_
  obtain ⟨cs, hcs, hrun⟩ := run_append_zeros w o.type n h0 hn
  unfold Oper.wp
  simp [execOp, ho, resolve, invoke, builtin, hs, hx, hrun, Result.andThen]
  have hm := grownCap_le_maxLen w n 0 3 (by unfold maxLen; omega)
  refine hK _ _ (h _ _ _ ?_ (grownCap_ge w n 0 _) hm (hb.drew.alloc hB _))
  exact World.ownsRow_made (base := B) (size := 1) (e := 3) w.drew cs _ hB hm (by omega)
end Go.Proofs.Ytflbphmpohkkbaa
