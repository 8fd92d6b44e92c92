/-
  WHAT THE ROWS OF LAYER 7 NEED: the knob, the lay-out; a slice of ints, a slice of slices of bools among the arguments. By an AI agent.
-/
import Derived.Test.YtkocfhacfmlmaaaRows
import Derived.Test.YtkocfhacfmlmaaaDepGraph
import Derived.ChangeSlices
import Derived.SizedLaws
import Derived.OpenShut
import Derived.Deep.Slices
namespace Go.Proofs.Ytkocfhacfmlmaaa
open Go.RowKit Go.ChangeShapes Go.WideShapes

theorem own : ownKnob Try.prog.godebug = none := by kernel_rfl
theorem laidOut : laidOutB Try.prog = true := by kernel_rfl
theorem cellsI : Try.prog.cellsOf 3 = 1 := by kernel_rfl
theorem cellsBool : Try.prog.cellsOf 4 = 1 := by kernel_rfl
theorem cellsRow : Try.prog.cellsOf 31 = 1 := by kernel_rfl

section
variable {H : Type} {enc : TypeId × Value → H} {W : World}
/-- a row out of its cells -/
theorem row_cells {α : Type} {e : α → Value} {a : Addr} {len cap : Nat} {f : Nat → α} (hl : len ≤ cap) (hm : cap ≤ maxLen) (h : ∀ i, i < len → W.cell? (a.add i) = some (e (f i))) : RowIn e 0 W.heap.size W (.slice (some a) len cap) ((List.range len).map f) := by
  have hlen : ((List.range len).map f).length = len := by simp
  refine ⟨some a, cap, by rw [hlen], by rw [hlen]; exact hl, hm, fun h => by simp at h, fun i x hx => ?_⟩
  rw [List.getElem?_map] at hx
  obtain ⟨j, hj, rfl⟩ := Option.map_eq_some_iff.1 hx
  obtain ⟨hi, e1⟩ := List.getElem?_eq_some_iff.1 hj
  rw [List.length_range] at hi
  rw [List.getElem_range] at e1
  subst e1
  have h0 := h 0 (by omega)
  have hspot : a.spot = none := by
    have := World.cell?_spot h0
    simpa [Addr.add] using this
  obtain ⟨b, o, sp⟩ := a
  simp only at hspot
  subst hspot
  have hlt : b < W.heap.size := by
    have := World.block_lt_of_cell? W _ h0
    simpa [Addr.add] using this
  refine ⟨b, o, rfl, Nat.zero_le _, hlt, hlt, ?_⟩
  have hci := h i hi
  have hadd : (⟨b, o, none⟩ : Addr).add i = ⟨b, o + i, none⟩ := by unfold Addr.add; split <;> simp_all
  rw [hadd] at hci
  exact hci
theorem one_value {t e : TypeId} {b0 : Nat} {v : Value} (ht : Try.prog.underlying t = some (.slice e)) (hok : Value.okWide Try.prog W .any b0 t v) : v.cells.toList = [v] := by
  obtain ⟨a0, len, cap, rfl⟩ := okWide_slice ht hok
  rfl
theorem row_nil {α : Type} (e : α → Value) : RowIn e 0 W.heap.size W (.slice none 0 0) [] := RowIn.nil _ _ _ _
/-- a slice of ints among the arguments -/
theorem open_arg_ints {b0 : Nat} {v : Value} {d : DataW H} {ps : List MemPlace} (hok : Value.okWide Try.prog W .any b0 22 v) (hd : DataW.Trod enc Try.prog W 0 (fun _ => true) true 22 v d ps) :
    ∃ l : List Int, Ints W v l ∧ ∀ x, x ∈ l → wfI x := by
  obtain ⟨fuel, hf⟩ := hd
  rw [one_value Try.underlying22 hok] at hf
  rcases Go.Deep.open_slice1 Try.underlying22 cellsI hf with ⟨hcs, -⟩ | ⟨a, len, cap, m, n, V, D, Pl, hcs, -, hl, hm, hmm, -, hi⟩
  · have e : v = .slice none 0 0 := by simpa using hcs
    subst e
    exact ⟨[], row_nil _, fun x hx => by simp at hx⟩
  · have e : v = .slice (some a) len cap := by simpa using hcs
    subst e
    simp only [if_true] at hmm
    obtain ⟨f, hf2⟩ := Go.Deep.choose_lt (α := Int) (n := len) (p := fun i z => V i = .int .i64 z ∧ wfI z) (fun i hil => by
      obtain ⟨z, e0, -, hw⟩ := DataW.trod_int Try.underlying3 (hi i (by omega)).2
      exact ⟨z, by simpa using e0, hw⟩)
    refine ⟨_, row_cells hl hm (fun i hil => by rw [(hi i (by omega)).1, (hf2 i hil).1]; rfl), fun x hx => ?_⟩
    obtain ⟨i, hi2, rfl⟩ := List.mem_map.1 hx
    exact (hf2 i (List.mem_range.1 hi2)).2
/-- a row of bools -/
theorem open_bools {fuel : Nat} {v : Value} {x : DataW H × List MemPlace} (h : DataW.trod enc Try.prog W 0 (fun _ => true) true fuel 31 [v] = some x) : ∃ l : List Bool, RowIn encB 0 W.heap.size W v l := by
  rcases Go.Deep.open_slice1 Try.underlying31 cellsBool h with ⟨hcs, -⟩ | ⟨a, len, cap, m, n, V, D, Pl, hcs, -, hl, hm, hmm, -, hi⟩
  · have e : v = .slice none 0 0 := by simpa using hcs
    subst e
    exact ⟨[], row_nil _⟩
  · have e : v = .slice (some a) len cap := by simpa using hcs
    subst e
    simp only [if_true] at hmm
    obtain ⟨f, hf2⟩ := Go.Deep.choose_lt (α := Bool) (n := len) (p := fun i z => V i = .bool z) (fun i hil => by
      obtain ⟨z, e0, -⟩ := DataW.trod_bool Try.underlying4 (hi i (by omega)).2
      exact ⟨z, by simpa using e0⟩)
    exact ⟨_, row_cells hl hm (fun i hil => by rw [(hi i (by omega)).1, hf2 i hil]; rfl)⟩
/-- a slice of slices of bools among the arguments -/
theorem open_arg_grid {b0 : Nat} {v : Value} {d : DataW H} {ps : List MemPlace} (hok : Value.okWide Try.prog W .any b0 23 v) (hd : DataW.Trod enc Try.prog W 0 (fun _ => true) true 23 v d ps) :
    ∃ M : List (List Bool), Grid encB 0 W.heap.size W v M := by
  obtain ⟨fuel, hf⟩ := hd
  rw [one_value Try.underlying23 hok] at hf
  rcases Go.Deep.open_slice1 Try.underlying23 cellsRow hf with ⟨hcs, -⟩ | ⟨a, len, cap, m, n, V, D, Pl, hcs, -, hl, hm, hmm, -, hi⟩
  · have e : v = .slice none 0 0 := by simpa using hcs
    subst e
    exact ⟨[], Grid.nil _ _ _ _⟩
  · have e : v = .slice (some a) len cap := by simpa using hcs
    subst e
    simp only [if_true] at hmm
    obtain ⟨f, hf2⟩ := Go.Deep.choose_lt (α := Hd × List Bool) (n := len) (p := fun i z => V i = encH z.1 ∧ RowIn encB 0 W.heap.size W (encH z.1) z.2) (fun i hil => by
      obtain ⟨l, hl2⟩ := open_bools (hi i (by omega)).2
      have hl3 := hl2
      obtain ⟨a3, c3, e3, -⟩ := hl2
      refine ⟨((a3, l.length, c3), l), e3, ?_⟩
      rw [e3] at hl3
      exact hl3)
    refine ⟨(List.range len).map fun i => (f i).2, (List.range len).map fun i => (f i).1, row_cells hl hm (fun i hil => by rw [(hi i (by omega)).1, (hf2 i hil).1]), by simp, fun i h l e1 e2 => ?_⟩
    rw [List.getElem?_map] at e1 e2
    obtain ⟨j, hj, rfl⟩ := Option.map_eq_some_iff.1 e1
    obtain ⟨j', hj', rfl⟩ := Option.map_eq_some_iff.1 e2
    rw [hj] at hj'
    obtain rfl := Option.some.inj hj'
    obtain ⟨hi3, e5⟩ := List.getElem?_eq_some_iff.1 hj
    rw [List.length_range] at hi3
    rw [List.getElem_range] at e5
    subst e5
    exact (hf2 _ hi3).2
end
end Go.Proofs.Ytkocfhacfmlmaaa
