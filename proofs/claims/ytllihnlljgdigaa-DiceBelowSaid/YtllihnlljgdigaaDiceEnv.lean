/-
  WHAT THE ROWS OF LAYER 6 NEED: the knob, the lay-out; a slice of ints among the arguments. By an AI agent.
-/
import Derived.Test.YtllihnlljgdigaaRows
import Derived.Test.YtllihnlljgdigaaRowI
import Derived.ChangeSlices
import Derived.SizedLaws
import Derived.OpenShut
namespace Go.Proofs.Ytllihnlljgdigaa
open Go.RowKit Go.ChangeShapes Go.WideShapes

theorem own : ownKnob Try.prog.godebug = none := by kernel_rfl
theorem laidOut : laidOutB Try.prog = true := by kernel_rfl
theorem cellsI : Try.prog.cellsOf 3 = 1 := by kernel_rfl

section
variable {H : Type} {enc : TypeId × Value → H} {W : World}
theorem RowIn.recode {α β : Type} {e1 : α → Value} {e2 : β → Value} {lo hi : Nat} {w : World} {v : Value} {l : List α} (f : α → β) (h : RowIn e1 lo hi w v l) (hf : ∀ x ∈ l, e1 x = e2 (f x)) : RowIn e2 lo hi w v (l.map f) := by
  obtain ⟨a, cap, rfl, h1, h2, h3, h4⟩ := h
  refine ⟨a, cap, by rw [List.length_map], by rw [List.length_map]; exact h1, h2, h3, fun i y hy => ?_⟩
  rw [List.getElem?_map] at hy
  obtain ⟨x, hx, rfl⟩ := Option.map_eq_some_iff.1 hy
  obtain ⟨b, o, e, h5, h6, h7, h8⟩ := h4 i x hx
  exact ⟨b, o, e, h5, h6, h7, by rw [h8, hf x (List.mem_of_getElem? hx)]⟩
/-- a slice of integers of any kind, opened -/
theorem open_row {k : IntKind} {e t : TypeId} {fuel : Nat} {v : Value} {x : DataW H × List MemPlace} (ht : Try.prog.underlying t = some (.slice e)) (he : Try.prog.underlying e = some (.int k)) (hc : Try.prog.cellsOf e = 1)
    (h : DataW.trod enc Try.prog W 0 (fun _ => true) true fuel t [v] = some x) :
    ∃ zs : List Int, RowIn (Value.int k) 0 W.heap.size W v zs ∧ (∀ z ∈ zs, (Lit.int k z).wf = true) ∧ ((x.1 = .nil ∧ zs = []) ∨ ∃ elems spare, x.1 = .slice elems spare ∧ elems.length = zs.length) := by
  rcases open_ints ht he hc h with ⟨hcs, hx⟩ | ⟨a, len, cap, zs, hcs, _, hl, hm, hz, hx, hcell, hwf⟩
  · have e : v = .slice none 0 0 := by simpa using hcs
    subst e
    exact ⟨[], RowIn.nil _ _ _ _, (fun z hz => by cases hz), .inl ⟨by rw [hx], rfl⟩⟩
  · have e : v = .slice (some a) len cap := by simpa using hcs
    subst e
    have hz' : zs.length = cap := by simpa using hz
    have hlen : (zs.take len).length = len := by simp; omega
    refine ⟨zs.take len, ⟨some a, cap, by rw [hlen], by rw [hlen]; exact hl, hm, fun h => by simp at h, fun i x hxi => ?_⟩, fun z hz => hwf z (List.mem_of_mem_take hz), .inr ⟨_, _, by rw [hx], by simp [lits]⟩⟩
    have hi : i < len := by have := (List.getElem?_eq_some_iff.1 hxi).1; rw [hlen] at this; exact this
    have h0 := hcell 0 (by omega)
    have hspot : a.spot = none := by
      have := World.cell?_spot h0
      simpa [Addr.add] using this
    obtain ⟨b, o, sp⟩ := a
    simp only at hspot
    subst hspot
    have hlt : b < W.heap.size := by
      have := World.block_lt_of_cell? W _ h0
      simpa [Addr.add] using this
    refine ⟨b, o, rfl, Nat.zero_le _, hlt, hlt, ?_⟩
    have hci := hcell i (by omega)
    have hadd : (⟨b, o, none⟩ : Addr).add i = ⟨b, o + i, none⟩ := by unfold Addr.add; split <;> simp_all
    rw [hadd] at hci
    have hz0 : zs[i]? = some x := by rw [List.getElem?_take, if_pos hi] at hxi; exact hxi
    rw [hci, List.getD_eq_getElem?_getD, hz0]
    rfl
theorem one_value {t e : TypeId} {b0 : Nat} {v : Value} (ht : Try.prog.underlying t = some (.slice e)) (hok : Value.okWide Try.prog W .any b0 t v) : v.cells.toList = [v] := by
  obtain ⟨a0, len, cap, rfl⟩ := okWide_slice ht hok
  rfl
/-- a slice of ints among the arguments -/
theorem open_arg_ints {b0 : Nat} {v : Value} {d : DataW H} {ps : List MemPlace} (hok : Value.okWide Try.prog W .any b0 30 v) (hd : DataW.Trod enc Try.prog W 0 (fun _ => true) true 30 v d ps) :
    ∃ l : List Int, Ints W v l := by
  obtain ⟨fuel, hf⟩ := hd
  rw [one_value Try.underlying30 hok] at hf
  obtain ⟨zs, hr, -, -⟩ := open_row Try.underlying30 Try.underlying3 cellsI hf
  exact ⟨zs, hr⟩
end
end Go.Proofs.Ytllihnlljgdigaa
