/-
  RUNS RECKONED AHEAD: the law's alive(). By an AI agent.
-/
import Derived.Test.YtlgdmncioakkjaaGreatDoorCdM1
namespace Go.Proofs.YtlgdmncioakkjaaGreatDoor
open Go.RowKit Go.Sx
theorem memo1 : fromG 6 #[.string ⟨ms1.toArray⟩] = some (mv1, GN + mk1, mb1) := by kernel_rfl
end Go.Proofs.YtlgdmncioakkjaaGreatDoor
namespace Go.Proofs.YtlgdmncioakkjaaGreatDoor
open Go.RowKit Go.Sx
theorem aliveR_eq : aliveR = some (.bool true) := by kernel_rfl
end Go.Proofs.YtlgdmncioakkjaaGreatDoor
