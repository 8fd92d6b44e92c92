/-
  A CARD AMONG THE ARGUMENTS: data of its type. By an AI agent.
-/
import Derived.Test.YtlgdmncioakkjaaGreatDoorSmA
import Derived.WideShapes
namespace Go.Proofs.YtlgdmncioakkjaaGreatDoor
open Go.RowKit Go.Sx Go.ChangeShapes Go.WideShapes
set_option maxRecDepth 100000 in
theorem open_card {H : Type} {enc : TypeId × Value → H} {W : World} {b0 : Nat} {v : Value} {d : DataW H} {ps : List MemPlace} (hok : Value.okWide Tryz.prog W .any b0 30 v) (hd : DataW.Trod enc Tryz.prog W 0 (fun _ => true) true 30 v d ps) :
    ∃ (xa : List Value) (da : List Da), v = .agg ⟨xa⟩ ∧ Dat W shC xa da := by
  obtain ⟨cs, rfl, hsz⟩ := okWide_struct Tryz.underlying30 hok
  rw [show Tryz.prog.cellsOf 30 = 17 by kernel_rfl] at hsz
  obtain ⟨l⟩ := cs
  obtain ⟨fuel, hf⟩ := hd
  have hsz : l.length = 17 := by simpa using hsz
  obtain ⟨da, h⟩ := opens 12 30 shC shC_of fuel l _ hf (hsz.trans (by decide))
  exact ⟨l, da, rfl, h⟩
end Go.Proofs.YtlgdmncioakkjaaGreatDoor
