/-
  WHAT THE PLAIN ROWS OF LAYER 3 NEED: the knob, the lay-out; a slice of ints among the arguments. By an AI agent.
-/
import Derived.Test.YtflbphmpohkkbaaRows
import Derived.Test.YtflbphmpohkkbaaInts
import Derived.ChangeSlices
import Derived.SizedLaws
namespace Go.Proofs.Ytflbphmpohkkbaa
open Go.RowKit Go.ChangeShapes Go.WideShapes

theorem own : ownKnob Try.prog.godebug = none := by kernel_rfl
theorem laidOut : laidOutB Try.prog = true := by kernel_rfl
theorem cellsInt : Try.prog.cellsOf 3 = 1 := by kernel_rfl
theorem open_arg_ints {H : Type} {enc : TypeId × Value → H} {W : World} {b0 : Nat} {v : Value} {d : DataW H} {ps : List MemPlace}
    (hok : Value.okWide Try.prog W .any b0 22 v) (hd : DataW.Trod enc Try.prog W 0 (fun _ => true) true 22 v d ps) :
    ∃ l : List Int, Ints W v l := by
  obtain ⟨a0, len, cap, rfl⟩ := okWide_slice Try.underlying22 hok
  obtain ⟨fuel, hf⟩ := hd
  rcases open_ints Try.underlying22 Try.underlying3 cellsInt hf with ⟨hcs, _⟩ | ⟨a, len', cap', zs, hcs, _, hl, hm, hz, _, hcell, _⟩
  · have e : Value.slice a0 len cap = .slice none 0 0 := by have h : [Value.slice a0 len cap] = [.slice none 0 0] := hcs; simpa using h
    rw [e]
    exact ⟨[], Ints.nil W⟩
  · have e : Value.slice a0 len cap = .slice (some a) len' cap' := by have h : [Value.slice a0 len cap] = [.slice (some a) len' cap'] := hcs; simpa using h
    rw [e]
    have hz' : zs.length = cap' := by simpa using hz
    have hlen : (zs.take len').length = len' := by simp; omega
    refine ⟨zs.take len', some a, cap', by rw [hlen], by rw [hlen]; exact hl, hm, fun h => by simp at h, fun i x hx => ?_⟩
    have hi : i < len' := by have := (List.getElem?_eq_some_iff.1 hx).1; rw [hlen] at this; exact this
    have h0 := hcell 0 (by omega)
    have hspot : a.spot = none := by
      have := World.cell?_spot h0
      simpa [Addr.add] using this
    obtain ⟨b, o, sp⟩ := a
    simp only at hspot
    subst hspot
    have hlt : b < W.heap.size := by
      have := World.block_lt_of_cell? W _ h0
      simpa [Addr.add] using this
    refine ⟨b, o, rfl, hlt, ?_⟩
    have hci := hcell i (by omega)
    have hadd : (⟨b, o, none⟩ : Addr).add i = ⟨b, o + i, none⟩ := by unfold Addr.add; split <;> simp_all
    rw [hadd] at hci
    rw [hci]
    simp only [List.getElem?_take, if_pos hi] at hx
    rw [List.getElem?_eq_getElem (by omega)] at hx
    simp only [Option.some.injEq] at hx
    subst hx
    simp only [List.getD, List.getElem?_eq_getElem (show i < zs.length by omega), Option.getD_some]
end Go.Proofs.Ytflbphmpohkkbaa
