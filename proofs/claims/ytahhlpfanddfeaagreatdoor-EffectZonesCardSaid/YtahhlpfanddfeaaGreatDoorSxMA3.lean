/-
  RUNS RECKONED AHEAD: the law's alive(). By an AI agent.
-/
import Derived.Test.YtahhlpfanddfeaaGreatDoorSxM1
namespace Go.Proofs.YtahhlpfanddfeaaGreatDoor
open Go.RowKit Go.Sx
theorem aliveR_eq : aliveR = some (.bool true) := by kernel_rfl
end Go.Proofs.YtahhlpfanddfeaaGreatDoor
