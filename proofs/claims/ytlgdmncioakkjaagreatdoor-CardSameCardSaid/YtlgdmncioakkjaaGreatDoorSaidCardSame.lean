/-
  THE CARD OF CardSame, second part: the statement without its tie. By an AI agent.
-/
import Derived.Test.YtlgdmncioakkjaaGreatDoorLiftCardSame
import Derived.Test.YtlgdmncioakkjaaGreatDoorRows
import Derived.Test.YtlgdmncioakkjaaGreatDoorCards
import Derived.Test.YtlgdmncioakkjaaGreatDoorTie
import Derived.Test.YtlgdmncioakkjaaGreatDoorCdIn
import Derived.Test.YtlgdmncioakkjaaGreatDoorCdLaw
import Derived.Test.YtlgdmncioakkjaaGreatDoorFrame
import Derived.Test.YtlgdmncioakkjaaGreatDoorCdOpen
import Derived.ProofKit
import Derived.OpenShut
import Derived.LaidMore
import Derived.Stop.Joined
import Derived.SizedLaws
import Derived.SevenTiedAt
import Derived.Lib.SmallJoins
import Derived.Lay
namespace Go.Proofs.YtlgdmncioakkjaaGreatDoor.cardCardSame
open Go.ChangeShapes Go.WideShapes Go.ChangeAt Go.RowKit
open Go.ChangeMaps (open_string)

theorem and_mk {a b : Bool} (h : a = true) (k : b = true) : (a && b) = true := by rw [h, k]; rfl
set_option maxHeartbeats 4000000 in
/-- the facts on the program: each looked at by itself -/
theorem closed : joinedFacts Tryz.checked.prog 4 Tryz.f4 Rows.cardSameSpec Rows.cardSameRow = true := by
  unfold joinedFacts
  repeat' with_reducible refine and_mk ?_ ?_
  all_goals decide +kernel
theorem said : Rows.CardSameSaid :=
  OpenClaim.holds_of_wide 4 Tryz.f4 rfl rfl rfl rfl rfl rfl rfl ⟨rfl, rfl, rfl, rfl, rfl⟩ rfl rfl rfl rfl rfl (by kernel_rfl) Tryz.func4 closed
    (of_decide_eq_true (by kernel_rfl)) (by unfold Func.isWrapper; first | (rw [if_pos (by decide +kernel)]; kernel_rfl) | (rw [if_neg (by decide +kernel)]; exact ⟨rfl, rfl⟩))
    (fun os started H enc _ => lifted os started H enc)
end Go.Proofs.YtlgdmncioakkjaaGreatDoor.cardCardSame
