/-
  DERIVED. GIVEN WITH THE SEED: THE CARDS: each row of YtboealolklojiaaGreatDoorRows.lean that lists a variable, with what it lists TIED to the program's text (the seventh form; the later family's looks); each row that meets fmt, with fmt's text TOLD by the authors' own Lean function (tested against real Go, not proved from fmt's source: count such statements apart). THE CARD IS WHAT COUNTS. Prove the row's statement (the work); the ties are given (YtboealolklojiaaGreatDoorTie.lean); close each card by the builder's one call (the guide's Derived/Test/ToyasCard.lean, 'card_holds'). Laid BY PROGRAM, IN A SANDBOX (cutbox-door.mjs). By AI agents, Wed Nov 11 2026. No macro, syntax, notation, axiom, sorry.
-/
import Derived.Test.YtboealolklojiaaGreatDoorRows
import GoSem.ClaimSeven
namespace Go.Proofs.YtboealolklojiaaGreatDoor
namespace Rows

/-- THE TIED CARD OF 'cardgamelaw13.FilterIs'. -/
def filterIsCard : Claim7 := { stood := { row := filterIsRow, standIns := [], harness := (true, "72e931893a76dec71455ef3b9550d8886578d64c08c4592eeae390f4cf4a46e4"), looks := true }, kinds := [], alts := [], laidByText := true, laidKinds := [.data, .data, .data, .sentinel, .sentinel, .data, .data], laidTests := true, laidLooks := .later }
def FilterIsCardSaid : Prop := Claim7.holds Tryz.pinned (.plain (OpenSpec.ofChange filterIsSpec)) filterIsCard

/-- THE TIED CARD OF 'cardgamelaw13.FilterTexts'. -/
def filterTextsCard : Claim7 := { stood := { row := filterTextsRow, standIns := [], harness := (true, "72e931893a76dec71455ef3b9550d8886578d64c08c4592eeae390f4cf4a46e4"), looks := true }, kinds := [], alts := [], laidByText := true, laidKinds := [.data, .data, .data, .sentinel, .sentinel, .data, .data], laidTests := true, laidLooks := .later }
def FilterTextsCardSaid : Prop := Claim7.holds Tryz.pinned (.plain (OpenSpec.ofChange filterTextsSpec)) filterTextsCard

/-- THE TIED CARD OF 'cardgamelaw13.FilterParses'. -/
def filterParsesCard : Claim7 := { stood := { row := filterParsesRow, standIns := [], harness := (true, "72e931893a76dec71455ef3b9550d8886578d64c08c4592eeae390f4cf4a46e4"), looks := true }, kinds := [], alts := [], laidByText := true, laidKinds := [.data, .data, .data, .sentinel, .sentinel, .data, .data], laidTests := true, laidLooks := .later }
def FilterParsesCardSaid : Prop := Claim7.holds Tryz.pinned (.plain (OpenSpec.ofChange filterParsesSpec)) filterParsesCard

/-- THE SECOND FORM's CARD OF 'cardgamelaw13.FilterIs'. -/
def filterIsUptoCard : Claim7 := { stood := { row := filterIsUptoRow, standIns := [], harness := (true, "72e931893a76dec71455ef3b9550d8886578d64c08c4592eeae390f4cf4a46e4"), looks := true }, kinds := [], alts := [], laidByText := true, laidKinds := [.data, .data, .data, .sentinel, .sentinel, .data, .data], laidTests := true, laidLooks := .later }
def FilterIsUptoCardSaid : Prop := Claim7.holds Tryz.pinned (.plain (OpenSpec.upto filterIsSpec)) filterIsUptoCard

/-- THE SECOND FORM's CARD OF 'cardgamelaw13.FilterTexts'. -/
def filterTextsUptoCard : Claim7 := { stood := { row := filterTextsUptoRow, standIns := [], harness := (true, "72e931893a76dec71455ef3b9550d8886578d64c08c4592eeae390f4cf4a46e4"), looks := true }, kinds := [], alts := [], laidByText := true, laidKinds := [.data, .data, .data, .sentinel, .sentinel, .data, .data], laidTests := true, laidLooks := .later }
def FilterTextsUptoCardSaid : Prop := Claim7.holds Tryz.pinned (.plain (OpenSpec.upto filterTextsSpec)) filterTextsUptoCard

/-- THE SECOND FORM's CARD OF 'cardgamelaw13.FilterParses'. -/
def filterParsesUptoCard : Claim7 := { stood := { row := filterParsesUptoRow, standIns := [], harness := (true, "72e931893a76dec71455ef3b9550d8886578d64c08c4592eeae390f4cf4a46e4"), looks := true }, kinds := [], alts := [], laidByText := true, laidKinds := [.data, .data, .data, .sentinel, .sentinel, .data, .data], laidTests := true, laidLooks := .later }
def FilterParsesUptoCardSaid : Prop := Claim7.holds Tryz.pinned (.plain (OpenSpec.upto filterParsesSpec)) filterParsesUptoCard
end Rows
end Go.Proofs.YtboealolklojiaaGreatDoor
