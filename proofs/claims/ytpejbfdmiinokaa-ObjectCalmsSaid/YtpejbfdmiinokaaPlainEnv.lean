/-
  WHAT A PLAIN ROW OF NUMBERS AND STRINGS NEEDS: the knob, the lay-out. By an AI agent.
-/
import Derived.Test.YtpejbfdmiinokaaRows
import Derived.ChangeSlices
import Derived.SizedLaws
import Derived.OpenShut
namespace Go.Proofs.Ytpejbfdmiinokaa
open Go.RowKit Go.ChangeShapes Go.WideShapes

theorem own : ownKnob Try.prog.godebug = none := by kernel_rfl
theorem laidOut : laidOutB Try.prog = true := by kernel_rfl
end Go.Proofs.Ytpejbfdmiinokaa
