/-
  DERIVED. GIVEN WITH THE SEED: THE CARDS: each row of YtokenooggmnbaaaDoorRows.lean that lists a variable, with what it lists TIED to the program's text (the seventh form; the later family's looks); each row that meets fmt, with fmt's text TOLD by the authors' own Lean function (tested against real Go, not proved from fmt's source: count such statements apart). THE CARD IS WHAT COUNTS. Prove the row's statement (the work); the ties are given (YtokenooggmnbaaaDoorTie.lean); close each card by the builder's one call (the guide's Derived/Test/ToyasCard.lean, 'card_holds'). Laid BY PROGRAM, IN A SANDBOX (cutbox-door.mjs). By AI agents, Wed Nov 11 2026. No macro, syntax, notation, axiom, sorry.
-/
import Derived.Test.YtokenooggmnbaaaDoorRows
import GoSem.ClaimSeven
namespace Go.Proofs.YtokenooggmnbaaaDoor
namespace Rows

/-- THE TIED CARD OF 'cardgamelaw23.DeckLists'. -/
def deckListsCard : Claim7 := { stood := { row := deckListsRow, standIns := [], harness := (true, "9f274fbffb3355c97fdfa9e3e54ca8a626069b9039ff219963a4b807ed29c3e2"), looks := true }, kinds := [], alts := [], laidByText := true, laidKinds := [.data, .data, .data, .sentinel, .sentinel], laidTests := true, laidLooks := .later }
def DeckListsCardSaid : Prop := Claim7.holds Tryd.pinned (.plain (OpenSpec.ofChange deckListsSpec)) deckListsCard

/-- THE SECOND FORM's CARD OF 'cardgamelaw23.DeckLists'. -/
def deckListsUptoCard : Claim7 := { stood := { row := deckListsUptoRow, standIns := [], harness := (true, "9f274fbffb3355c97fdfa9e3e54ca8a626069b9039ff219963a4b807ed29c3e2"), looks := true }, kinds := [], alts := [], laidByText := true, laidKinds := [.data, .data, .data, .sentinel, .sentinel], laidTests := true, laidLooks := .later }
def DeckListsUptoCardSaid : Prop := Claim7.holds Tryd.pinned (.plain (OpenSpec.upto deckListsSpec)) deckListsUptoCard
end Rows
end Go.Proofs.YtokenooggmnbaaaDoor
