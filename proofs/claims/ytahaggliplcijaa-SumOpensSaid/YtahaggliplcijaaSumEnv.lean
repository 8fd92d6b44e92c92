/-
  WHAT THE ROWS OF LAYER 5 NEED: the knob, the lay-out; a slice of bytes among the arguments. By an AI agent.
-/
import Derived.Test.YtahaggliplcijaaRows
import Derived.Test.YtahaggliplcijaaSumLaws
import Derived.ChangeSlices
import Derived.SizedLaws
import Derived.OpenShut
namespace Go.Proofs.Ytahaggliplcijaa
open Go.RowKit Go.ChangeShapes Go.WideShapes

theorem own : ownKnob Try.prog.godebug = none := by kernel_rfl
theorem laidOut : laidOutB Try.prog = true := by kernel_rfl
theorem cells8 : Try.prog.cellsOf 5 = 1 := by kernel_rfl
theorem bytes8 : Try.prog.bytesOf 5 = 1 := by kernel_rfl

section
variable {H : Type} {enc : TypeId × Value → H} {W : World}
theorem RowIn.recode {α β : Type} {e1 : α → Value} {e2 : β → Value} {lo hi : Nat} {w : World} {v : Value} {l : List α} (f : α → β) (h : RowIn e1 lo hi w v l) (hf : ∀ x ∈ l, e1 x = e2 (f x)) : RowIn e2 lo hi w v (l.map f) := by
  obtain ⟨a, cap, rfl, h1, h2, h3, h4⟩ := h
  refine ⟨a, cap, by rw [List.length_map], by rw [List.length_map]; exact h1, h2, h3, fun i y hy => ?_⟩
  rw [List.getElem?_map] at hy
  obtain ⟨x, hx, rfl⟩ := Option.map_eq_some_iff.1 hy
  obtain ⟨b, o, e, h5, h6, h7, h8⟩ := h4 i x hx
  exact ⟨b, o, e, h5, h6, h7, by rw [h8, hf x (List.mem_of_getElem? hx)]⟩
/-- a slice of integers of any kind, opened -/
theorem open_row {k : IntKind} {e t : TypeId} {fuel : Nat} {v : Value} {x : DataW H × List MemPlace} (ht : Try.prog.underlying t = some (.slice e)) (he : Try.prog.underlying e = some (.int k)) (hc : Try.prog.cellsOf e = 1)
    (h : DataW.trod enc Try.prog W 0 (fun _ => true) true fuel t [v] = some x) :
    ∃ zs : List Int, RowIn (Value.int k) 0 W.heap.size W v zs ∧ (∀ z ∈ zs, (Lit.int k z).wf = true) ∧ ((x.1 = .nil ∧ zs = []) ∨ ∃ elems spare, x.1 = .slice elems spare ∧ elems.length = zs.length) := by
  rcases open_ints ht he hc h with ⟨hcs, hx⟩ | ⟨a, len, cap, zs, hcs, _, hl, hm, hz, hx, hcell, hwf⟩
  · have e : v = .slice none 0 0 := by simpa using hcs
    subst e
    exact ⟨[], RowIn.nil _ _ _ _, (fun z hz => by cases hz), .inl ⟨by rw [hx], rfl⟩⟩
  · have e : v = .slice (some a) len cap := by simpa using hcs
    subst e
    have hz' : zs.length = cap := by simpa using hz
    have hlen : (zs.take len).length = len := by simp; omega
    refine ⟨zs.take len, ⟨some a, cap, by rw [hlen], by rw [hlen]; exact hl, hm, fun h => by simp at h, fun i x hxi => ?_⟩, fun z hz => hwf z (List.mem_of_mem_take hz), .inr ⟨_, _, by rw [hx], by simp [lits]⟩⟩
    have hi : i < len := by have := (List.getElem?_eq_some_iff.1 hxi).1; rw [hlen] at this; exact this
    have h0 := hcell 0 (by omega)
    have hspot : a.spot = none := by
      have := World.cell?_spot h0
      simpa [Addr.add] using this
    obtain ⟨b, o, sp⟩ := a
    simp only at hspot
    subst hspot
    have hlt : b < W.heap.size := by
      have := World.block_lt_of_cell? W _ h0
      simpa [Addr.add] using this
    refine ⟨b, o, rfl, Nat.zero_le _, hlt, hlt, ?_⟩
    have hci := hcell i (by omega)
    have hadd : (⟨b, o, none⟩ : Addr).add i = ⟨b, o + i, none⟩ := by unfold Addr.add; split <;> simp_all
    rw [hadd] at hci
    have hz0 : zs[i]? = some x := by rw [List.getElem?_take, if_pos hi] at hxi; exact hxi
    rw [hci, List.getD_eq_getElem?_getD, hz0]
    rfl
theorem one_value {t e : TypeId} {b0 : Nat} {v : Value} (ht : Try.prog.underlying t = some (.slice e)) (hok : Value.okWide Try.prog W .any b0 t v) : v.cells.toList = [v] := by
  obtain ⟨a0, len, cap, rfl⟩ := okWide_slice ht hok
  rfl
/-- a slice of bytes among the arguments -/
theorem open_arg_bytes {b0 : Nat} {v : Value} {d : DataW H} {ps : List MemPlace} (hok : Value.okWide Try.prog W .any b0 22 v) (hd : DataW.Trod enc Try.prog W 0 (fun _ => true) true 22 v d ps) :
    ∃ l : List UInt8, Bytes W v l ∧ ((d = .nil ∧ l = []) ∨ ∃ elems spare, d = .slice elems spare ∧ elems.length = l.length) := by
  obtain ⟨fuel, hf⟩ := hd
  rw [one_value Try.underlying22 hok] at hf
  obtain ⟨zs, hr, hwf, hx⟩ := open_row Try.underlying22 Try.underlying5 cells8 hf
  refine ⟨zs.map fun z => UInt8.ofNat z.toNat, hr.recode _ fun z hz => ?_, ?_⟩
  · have := bounds_u8 (hwf z hz)
    unfold encB
    rw [UInt8.toNat_ofNat_of_lt' (by simp; omega)]
    congr 1
    omega
  · rcases hx with ⟨h1, rfl⟩ | ⟨elems, spare, h1, h2⟩
    · exact .inl ⟨h1, rfl⟩
    · exact .inr ⟨elems, spare, h1, by rw [List.length_map]; exact h2⟩
theorem bytes_reach {d : DataW H} {l : List UInt8} {ts : List TypeId} {ds : List (DataW H)} {j : Nat} (h : (d = .nil ∧ l = []) ∨ ∃ elems spare, d = .slice elems spare ∧ elems.length = l.length)
    (hsz : (DataW.weightsEach Try.prog ts ds).all (· ≤ reachBytes) = true) (ht : ts[j]? = some 22) (hdj : ds[j]? = some d) : l.length ≤ 140737488355328 := by
  rcases h with ⟨_, rfl⟩ | ⟨elems, spare, rfl, h2⟩
  · simp
  · have h3 := sized_slice hsz ht hdj Try.underlying22
    rw [bytes8] at h3
    have h4 := reachBytes_lt
    omega
end
end Go.Proofs.Ytahaggliplcijaa
