/-
  THE CARD OF CardSame: for every input the law answers true, and each argument reads behind the call as it read before. Its conditions: the package-level variables that the row lists start as the program's text lays them (tied); each string takes at most the form's own reach. By an AI agent.
-/
import Derived.Test.YtlgdmncioakkjaaGreatDoorSaidCardSame
import Derived.Test.YtlgdmncioakkjaaGreatDoorRows
import Derived.Test.YtlgdmncioakkjaaGreatDoorCards
import Derived.Test.YtlgdmncioakkjaaGreatDoorTie
import Derived.Test.YtlgdmncioakkjaaGreatDoorCdIn
import Derived.Test.YtlgdmncioakkjaaGreatDoorCdLaw
import Derived.Test.YtlgdmncioakkjaaGreatDoorFrame
import Derived.Test.YtlgdmncioakkjaaGreatDoorCdOpen
import Derived.ProofKit
import Derived.OpenShut
import Derived.LaidMore
import Derived.Stop.Joined
import Derived.SizedLaws
import Derived.SevenTiedAt
import Derived.Lib.SmallJoins
import Derived.Lay
namespace Go.Proofs.YtlgdmncioakkjaaGreatDoor.cardCardSame
open Go.ChangeShapes Go.WideShapes Go.ChangeAt Go.RowKit
open Go.ChangeMaps (open_string)

theorem plain (f : FuncId) (fn : Func) (hf : Tryz.pinned.checked.prog.funcNamed "cardgame/cardgamelaw21.CardSame" = some f) (hfn : Tryz.pinned.checked.prog.funcs[f]? = some fn) :
    Rows.cardSameCard.stood.looks = Tryz.pinned.checked.prog.looks [] ∧ ∀ (j : Nat) t, fn.params[j]? = some t → Tryz.pinned.checked.prog.wantsStandIn t = false := by
  obtain rfl : f = 4 := Option.some.inj ((show Tryz.prog.funcNamed "cardgame/cardgamelaw21.CardSame" = some 4 by kernel_rfl).symm.trans hf) |>.symm
  obtain rfl : fn = Tryz.f4 := (Option.some.inj (Tryz.func4.symm.trans hfn)).symm
  refine ⟨by kernel_rfl, fun j t ht => ?_⟩
  rw [Tryz.params4] at ht
  have hm : t ∈ [30, 30] := by simpa using Array.mem_of_getElem? ht
  have hall : ([30, 30].all fun u => !Tryz.prog.wantsStandIn u) = true := by kernel_rfl
  exact (show Tryz.prog.wantsStandIn t = false by simpa using List.all_eq_true.1 hall t hm)
/-- THE CARD. -/
theorem proved : Rows.CardSameCardSaid :=
  Claim7.holds_tied_plain_at .later [] _ _ _ _ said (fun _ h => by cases h) (by kernel_rfl) (fun _ h => by cases h) cardSame_row_tie rfl ⟨rfl, rfl⟩ (by kernel_rfl) rfl plain (by kernel_rfl)
end Go.Proofs.YtlgdmncioakkjaaGreatDoor.cardCardSame
