/-
  A REGION IN ONE FORCED ORDER WALKED BY HAND: an operation that runs. By an AI agent.
-/
import Derived.Test.YtboealolklojiaaDoorFilAlive
import Derived.Test.YtboealolklojiaaDoorFilHand
import Derived.Test.YtboealolklojiaaDoorStruct
import Derived.Deep.Cut
namespace Go.Proofs.YtboealolklojiaaDoor
open Go.RowKit

/-- the text of a valid filter is short -/
theorem textF_len {f : Fil.Flt} (h : Fil.validB f = true) : (Fil.textF f).length ≤ 4000 := by
  rw [Fil.textF_valid h]
  unfold Fil.textP
  split
  · decide
  · exact text_len (Fil.valid_of h)
end Go.Proofs.YtboealolklojiaaDoor
