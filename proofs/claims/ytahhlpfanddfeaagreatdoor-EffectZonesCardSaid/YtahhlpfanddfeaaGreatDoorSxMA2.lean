/-
  RUNS RECKONED AHEAD: a call reckoned once. By an AI agent.
-/
import Derived.Test.YtahhlpfanddfeaaGreatDoorSxM1
namespace Go.Proofs.YtahhlpfanddfeaaGreatDoor
open Go.RowKit Go.Sx
theorem memo2 : fromG 17 #[.string ⟨ms2.toArray⟩] = some (mv2, GN + mk2, mb2) := by kernel_rfl
end Go.Proofs.YtahhlpfanddfeaaGreatDoor
