/-
  THE MEMORY OF THE VISITS: the loops, the ranks, the path, the count; what each store does to it. By an AI agent.
-/
import Derived.Test.YtkocfhacfmlmaaaDepRow
import Derived.Test.YtkocfhacfmlmaaaDepPlain
namespace Go.Proofs.Ytkocfhacfmlmaaa
open Go.RowKit

/-- the visits' variables, which are not written: block N and those behind it -/
structure Ctx (N n : Nat) (W0 : World) (wv : Value) (Wn : List (List Nat)) : Prop where
  size : W0.heap.size = N + 8
  wants : W0.cell? ⟨N, 1, none⟩ = some wv
  grid : Grid encN 0 N W0 wv Wn
  len : Wn.length = n
  inn : ∀ p q, q ∈ Wn.getD p [] → q < n
  loops : W0.cell? ⟨N + 2, 0, none⟩ = some (.slice (some ⟨N + 1, 0, none⟩) n n)
  ranks : W0.cell? ⟨N + 4, 0, none⟩ = some (.slice (some ⟨N + 3, 0, none⟩) n n)
  self : W0.cell? ⟨N + 7, 0, none⟩ = some (.func (Fn.func 36) #[] #[.pointer (some ⟨N + 5, 0, none⟩), .pointer (some ⟨N + 6, 0, none⟩), .pointer (some ⟨N + 4, 0, none⟩), .pointer (some ⟨N, 0, none⟩), .pointer (some ⟨N + 2, 0, none⟩), .pointer (some ⟨N + 7, 0, none⟩)])
  small : n ≤ 1000000
/-- w is W0 but for the loops L, the ranks R, the path S, the count c -/
structure Mem (N n : Nat) (W0 : World) (L : List Int) (R S : List Nat) (c : Nat) (w : World) : Prop where
  os : w.os = W0.os
  tape : w.tape = W0.tape
  output : w.output = W0.output
  size : N + 8 ≤ w.heap.size
  rest : ∀ k, k < N + 8 → k ≠ N + 1 → k ≠ N + 3 → k ≠ N + 5 → k ≠ N + 6 → w.heap[k]? = W0.heap[k]?
  lrow : OwnRow encI 3 (N + 1) w (.slice (some ⟨N + 1, 0, none⟩) n n) L
  rrow : OwnRow encN 3 (N + 3) w (.slice (some ⟨N + 3, 0, none⟩) n n) R
  path : ∃ v, w.heap[N + 5]? = some (.cells #[v] 22 (0, 0)) ∧ OwnRow encN 3 (N + 8) w v S
  cnt : w.heap[N + 6]? = some (.cells #[.int .i64 (c : Int)] 3 (0, 0))

section
variable {N n c : Nat} {W0 w w' : World} {L : List Int} {R S : List Nat} {wv : Value} {Wn : List (List Nat)}
theorem Mem.static (h : Mem N n W0 L R S c w) {k i : Nat} (h0 : k < N + 8) (h1 : k ≠ N + 1) (h2 : k ≠ N + 3) (h3 : k ≠ N + 5) (h4 : k ≠ N + 6) : w.cell? ⟨k, i, none⟩ = W0.cell? ⟨k, i, none⟩ :=
  World.cell?_of_block (a := ⟨k, i, none⟩) (h.rest k h0 h1 h2 h3 h4)
theorem Mem.same (h : Mem N n W0 L R S c w) (ho : w'.os = w.os) (ht : w'.tape = w.tape) (hp : w'.output = w.output) (hs : w.heap.size ≤ w'.heap.size) (hk : ∀ k, k < w.heap.size → w'.heap[k]? = w.heap[k]?) : Mem N n W0 L R S c w' := by
  obtain ⟨v, hv, hr⟩ := h.path
  have hsz := h.size
  refine ⟨ho.trans h.os, ht.trans h.tape, hp.trans h.output, by omega, fun k h0 h1 h2 h3 h4 => (hk k (by omega)).trans (h.rest k h0 h1 h2 h3 h4), ?_, ?_, ⟨v, (hk _ (by omega)).trans hv, ?_⟩, (hk _ (by omega)).trans h.cnt⟩
  · exact h.lrow.stay fun k hk2 => hk k (h.lrow.blk k hk2).2
  · exact h.rrow.stay fun k hk2 => hk k (h.rrow.blk k hk2).2
  · exact hr.stay fun k hk2 => hk k (hr.blk k hk2).2
theorem Mem.setL (h : Mem N n W0 L R S c w) {i : Nat} (hi : i < n) (x : Int) : Mem N n W0 (L.set i x) R S c (w.setCell ⟨N + 1, i, none⟩ (.int .i64 x)) := by
  obtain ⟨v, hv, hr⟩ := h.path
  have hb := fun k (hk : k ≠ N + 1) => Below.heap_setCell w ⟨N + 1, i, none⟩ (.int .i64 x) k hk
  refine ⟨h.os, h.tape, h.output, by have := h.size; simpa [World.setCell] using this, fun k h0 h1 h2 h3 h4 => (hb k h1).trans (h.rest k h0 h1 h2 h3 h4), ?_, ?_, ⟨v, (hb _ (by omega)).trans hv, ?_⟩, (hb _ (by omega)).trans h.cnt⟩
  · obtain ⟨g, e, _, _, _, _, h1⟩ := h.lrow.place 0 hi
    obtain rfl : N + 1 = g := by injection e with e; injection e
    exact (h1 x).1
  · exact h.rrow.stay fun k hk => hb k (by have := Option.some.inj hk; simp only at this; omega)
  · exact hr.stay fun k hk => hb k (by have := hr.blk k hk; omega)
theorem Mem.setR (h : Mem N n W0 L R S c w) {i : Nat} (hi : i < n) (x : Nat) : Mem N n W0 L (R.set i x) S c (w.setCell ⟨N + 3, i, none⟩ (.int .i64 (x : Int))) := by
  obtain ⟨v, hv, hr⟩ := h.path
  have hb := fun k (hk : k ≠ N + 3) => Below.heap_setCell w ⟨N + 3, i, none⟩ (.int .i64 (x : Int)) k hk
  refine ⟨h.os, h.tape, h.output, by have := h.size; simpa [World.setCell] using this, fun k h0 h1 h2 h3 h4 => (hb k h2).trans (h.rest k h0 h1 h2 h3 h4), ?_, ?_, ⟨v, (hb _ (by omega)).trans hv, ?_⟩, (hb _ (by omega)).trans h.cnt⟩
  · exact h.lrow.stay fun k hk => hb k (by have := Option.some.inj hk; simp only at this; omega)
  · obtain ⟨g, e, _, _, _, _, h1⟩ := h.rrow.place 0 hi
    obtain rfl : N + 3 = g := by injection e with e; injection e
    exact (h1 x).1
  · exact hr.stay fun k hk => hb k (by have := hr.blk k hk; omega)
theorem Mem.setC (h : Mem N n W0 L R S c w) (c' : Nat) : Mem N n W0 L R S c' (w.setCell ⟨N + 6, 0, none⟩ (.int .i64 (c' : Int))) := by
  obtain ⟨v, hv, hr⟩ := h.path
  have hb := fun k (hk : k ≠ N + 6) => Below.heap_setCell w ⟨N + 6, 0, none⟩ (.int .i64 (c' : Int)) k hk
  refine ⟨h.os, h.tape, h.output, by have := h.size; simpa [World.setCell] using this, fun k h0 h1 h2 h3 h4 => (hb k h4).trans (h.rest k h0 h1 h2 h3 h4), ?_, ?_, ⟨v, (hb _ (by omega)).trans hv, ?_⟩, one_setCell h.cnt⟩
  · exact h.lrow.stay fun k hk => hb k (by have := Option.some.inj hk; simp only at this; omega)
  · exact h.rrow.stay fun k hk => hb k (by have := Option.some.inj hk; simp only at this; omega)
  · exact hr.stay fun k hk => hb k (by have := hr.blk k hk; omega)
/-- another path, whose row may have been written -/
theorem Mem.setP {v v' : Value} {S' : List Nat} {r : Option Nat} (h : Mem N n W0 L R S c w) (hv : w.heap[N + 5]? = some (.cells #[v] 22 (0, 0))) (hg : w.grownBy w' r) (hr : ∀ k, r = some k → N + 8 ≤ k)
    (ho : OwnRow encN 3 (N + 8) w' v' S') : Mem N n W0 L R S' c (w'.setCell ⟨N + 5, 0, none⟩ v') := by
  have hsz := h.size
  have hb : ∀ k, k < N + 8 → k ≠ N + 5 → (w'.setCell ⟨N + 5, 0, none⟩ v').heap[k]? = w.heap[k]? := fun k h0 h1 =>
    (Below.heap_setCell w' ⟨N + 5, 0, none⟩ v' k h1).trans (hg.block k (by omega) (fun e => by have := hr k e.symm; omega))
  have hv' : w'.heap[N + 5]? = some (.cells #[v] 22 (0, 0)) := (hg.block _ (by omega) (fun e => by have := hr _ e.symm; omega)).trans hv
  refine ⟨hg.os.trans h.os, hg.tape.trans h.tape, hg.output.trans h.output, by have := hg.size; simp [World.setCell]; omega, fun k h0 h1 h2 h3 h4 => (hb k h0 h3).trans (h.rest k h0 h1 h2 h3 h4), ?_, ?_, ⟨v', one_setCell hv', ?_⟩, (hb _ (by omega) (by omega)).trans h.cnt⟩
  · exact h.lrow.stay fun k hk => hb k (by have := Option.some.inj hk; simp only at this; omega) (by have := Option.some.inj hk; simp only at this; omega)
  · exact h.rrow.stay fun k hk => hb k (by have := Option.some.inj hk; simp only at this; omega) (by have := Option.some.inj hk; simp only at this; omega)
  · exact ho.stay fun k hk => Below.heap_setCell _ _ _ _ (by have := ho.blk k hk; show k ≠ N + 5; omega)
theorem Mem.lcell (h : Mem N n W0 L R S c w) {i : Nat} (hi : i < n) : w.cell? ⟨N + 1, i, none⟩ = some (.int .i64 (L.getD i 0)) ∧ w.frozen? ⟨N + 1, i, none⟩ = false := by
  obtain ⟨g, e, _, _, h1, h2, _⟩ := h.lrow.place 0 hi
  injection e with e
  injection e with e
  subst e
  exact ⟨h1, h2⟩
theorem Mem.rcell (h : Mem N n W0 L R S c w) {i : Nat} (hi : i < n) : w.cell? ⟨N + 3, i, none⟩ = some (.int .i64 (R.getD i 0 : Nat)) ∧ w.frozen? ⟨N + 3, i, none⟩ = false := by
  obtain ⟨g, e, _, _, h1, h2, _⟩ := h.rrow.place 0 hi
  injection e with e
  injection e with e
  subst e
  exact ⟨h1, h2⟩
theorem Mem.both {L' : List Int} {R' S' : List Nat} {c' : Nat} (h : Mem N n W0 L R S c w) (h' : Mem N n W0 L' R' S' c' w') {k : Nat} (hk : k < N) : w'.heap[k]? = w.heap[k]? :=
  (h'.rest k (by omega) (by omega) (by omega) (by omega) (by omega)).trans (h.rest k (by omega) (by omega) (by omega) (by omega) (by omega)).symm
theorem Mem.varL (h : Mem N n W0 L R S c w) (C : Ctx N n W0 wv Wn) : w.cell? ⟨N + 2, 0, none⟩ = some (.slice (some ⟨N + 1, 0, none⟩) n n) := (h.static (by omega) (by omega) (by omega) (by omega) (by omega)).trans C.loops
theorem Mem.varR (h : Mem N n W0 L R S c w) (C : Ctx N n W0 wv Wn) : w.cell? ⟨N + 4, 0, none⟩ = some (.slice (some ⟨N + 3, 0, none⟩) n n) := (h.static (by omega) (by omega) (by omega) (by omega) (by omega)).trans C.ranks
theorem Mem.llen (h : Mem N n W0 L R S c w) : L.length = n := h.lrow.len.symm
theorem Mem.rlen (h : Mem N n W0 L R S c w) : R.length = n := h.rrow.len.symm
theorem Mem.wantRow (h : Mem N n W0 L R S c w) (C : Ctx N n W0 wv Wn) : w.cell? ⟨N, 1, none⟩ = some wv ∧ Grid encN 0 N w wv Wn :=
  ⟨(h.static (by omega) (by omega) (by omega) (by omega) (by omega)).trans C.wants, C.grid.keep (by rw [C.size]; exact h.size) fun k _ hk _ => h.rest k (by omega) (by omega) (by omega) (by omega) (by omega)⟩
end
end Go.Proofs.Ytkocfhacfmlmaaa
