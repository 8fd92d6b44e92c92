/-
  THE CARD OF DeckLists, second part: the statement without its tie. By an AI agent.
-/
import Derived.Test.YtokenooggmnbaaaDoorLiftDeckLists
import Derived.Test.YtokenooggmnbaaaDoorRows
import Derived.Test.YtokenooggmnbaaaDoorCards
import Derived.Test.YtokenooggmnbaaaDoorTie
import Derived.Test.YtokenooggmnbaaaDoorDlIn
import Derived.Test.YtokenooggmnbaaaDoorDlLaw
import Derived.Test.YtokenooggmnbaaaDoorFrame
import Derived.ProofKit
import Derived.OpenShut
import Derived.LaidMore
import Derived.Stop.Joined
import Derived.SizedLaws
import Derived.SevenTiedAt
import Derived.Lib.SmallJoins
import Derived.Lay
namespace Go.Proofs.YtokenooggmnbaaaDoor.cardDeckLists
open Go.ChangeShapes Go.WideShapes Go.ChangeAt Go.RowKit Go.Sx
open Go.ChangeMaps (open_string)

theorem and_mk {a b : Bool} (h : a = true) (k : b = true) : (a && b) = true := by rw [h, k]; rfl
set_option maxHeartbeats 4000000 in
/-- the facts on the program: each looked at by itself -/
theorem closed : joinedFacts Tryd.checked.prog 3 Tryd.f3 Rows.deckListsSpec Rows.deckListsRow = true := by
  unfold joinedFacts
  repeat' with_reducible refine and_mk ?_ ?_
  all_goals decide +kernel
theorem said : Rows.DeckListsSaid :=
  OpenClaim.holds_of_wide 3 Tryd.f3 rfl rfl rfl rfl rfl rfl rfl ⟨rfl, rfl, rfl, rfl, rfl⟩ rfl rfl rfl rfl rfl (by kernel_rfl) Tryd.func3 closed
    (of_decide_eq_true (by kernel_rfl)) (by unfold Func.isWrapper; first | (rw [if_pos (by decide +kernel)]; kernel_rfl) | (rw [if_neg (by decide +kernel)]; exact ⟨rfl, rfl⟩))
    (fun os started H enc _ => lifted os started H enc)
end Go.Proofs.YtokenooggmnbaaaDoor.cardDeckLists
