/-
  THE CARD OF DeckLists: for every input the law answers true, and each argument reads behind the call as it read before. Its conditions: the package-level variables that the row lists start as the program's text lays them (tied); each string takes at most the form's own reach. By an AI agent.
-/
import Derived.Test.YtokenooggmnbaaaDoorSaidDeckLists
import Derived.Test.YtokenooggmnbaaaDoorRows
import Derived.Test.YtokenooggmnbaaaDoorCards
import Derived.Test.YtokenooggmnbaaaDoorTie
import Derived.Test.YtokenooggmnbaaaDoorDlIn
import Derived.Test.YtokenooggmnbaaaDoorDlLaw
import Derived.Test.YtokenooggmnbaaaDoorFrame
import Derived.ProofKit
import Derived.OpenShut
import Derived.LaidMore
import Derived.Stop.Joined
import Derived.SizedLaws
import Derived.SevenTiedAt
import Derived.Lib.SmallJoins
import Derived.Lay
namespace Go.Proofs.YtokenooggmnbaaaDoor.cardDeckLists
open Go.ChangeShapes Go.WideShapes Go.ChangeAt Go.RowKit Go.Sx
open Go.ChangeMaps (open_string)

theorem plain (f : FuncId) (fn : Func) (hf : Tryd.pinned.checked.prog.funcNamed "cardgame/cardgamelaw23.DeckLists" = some f) (hfn : Tryd.pinned.checked.prog.funcs[f]? = some fn) :
    Rows.deckListsCard.stood.looks = Tryd.pinned.checked.prog.looks [] ∧ ∀ (j : Nat) t, fn.params[j]? = some t → Tryd.pinned.checked.prog.wantsStandIn t = false := by
  obtain rfl : f = 3 := Option.some.inj ((show Tryd.prog.funcNamed "cardgame/cardgamelaw23.DeckLists" = some 3 by kernel_rfl).symm.trans hf) |>.symm
  obtain rfl : fn = Tryd.f3 := (Option.some.inj (Tryd.func3.symm.trans hfn)).symm
  refine ⟨by kernel_rfl, fun j t ht => ?_⟩
  rw [Tryd.params3] at ht
  have hm : t ∈ [24] := by simpa using Array.mem_of_getElem? ht
  have hall : ([24].all fun u => !Tryd.prog.wantsStandIn u) = true := by kernel_rfl
  exact (show Tryd.prog.wantsStandIn t = false by simpa using List.all_eq_true.1 hall t hm)
/-- THE CARD. -/
theorem proved : Rows.DeckListsCardSaid :=
  Claim7.holds_tied_plain_at .later [] _ _ _ _ said (fun _ h => by cases h) (by kernel_rfl) (fun _ h => by cases h) deckLists_row_tie rfl ⟨rfl, rfl⟩ (by kernel_rfl) rfl plain (by kernel_rfl)
end Go.Proofs.YtokenooggmnbaaaDoor.cardDeckLists
