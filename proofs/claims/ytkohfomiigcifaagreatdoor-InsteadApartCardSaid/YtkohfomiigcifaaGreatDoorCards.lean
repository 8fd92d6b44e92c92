/-
  DERIVED. GIVEN WITH THE SEED: THE CARDS: each row of YtkohfomiigcifaaGreatDoorRows.lean that lists a variable, with what it lists TIED to the program's text (the seventh form; the later family's looks); each row that meets fmt, with fmt's text TOLD by the authors' own Lean function (tested against real Go, not proved from fmt's source: count such statements apart). THE CARD IS WHAT COUNTS. Prove the row's statement (the work); the ties are given (YtkohfomiigcifaaGreatDoorTie.lean); close each card by the builder's one call (the guide's Derived/Test/ToyasCard.lean, 'card_holds'). Laid BY PROGRAM, IN A SANDBOX (cutbox-door.mjs). By AI agents, Wed Nov 11 2026. No macro, syntax, notation, axiom, sorry.
-/
import Derived.Test.YtkohfomiigcifaaGreatDoorRows
import GoSem.ClaimSeven
namespace Go.Proofs.YtkohfomiigcifaaGreatDoor
namespace Rows

/-- THE TIED CARD OF 'cardgamelaw19.InsteadIs'. -/
def insteadIsCard : Claim7 := { stood := { row := insteadIsRow, standIns := [], harness := (true, "aa5be85bbdead965441d1099a524f4882b64b60beaac7ba097c2e80353ba696f"), looks := true }, kinds := [], alts := [], laidByText := true, laidKinds := [.data, .data, .data, .sentinel, .sentinel, .data, .data, .data], laidTests := true, laidLooks := .later }
def InsteadIsCardSaid : Prop := Claim7.holds Tryz.pinned (.plain (OpenSpec.ofChange insteadIsSpec)) insteadIsCard

/-- THE TIED CARD OF 'cardgamelaw19.InsteadTexts'. -/
def insteadTextsCard : Claim7 := { stood := { row := insteadTextsRow, standIns := [], harness := (true, "aa5be85bbdead965441d1099a524f4882b64b60beaac7ba097c2e80353ba696f"), looks := true }, kinds := [], alts := [], laidByText := true, laidKinds := [.data, .data, .data, .sentinel, .sentinel, .data, .data, .data], laidTests := true, laidLooks := .later }
def InsteadTextsCardSaid : Prop := Claim7.holds Tryz.pinned (.plain (OpenSpec.ofChange insteadTextsSpec)) insteadTextsCard

/-- THE TIED CARD OF 'cardgamelaw19.InsteadParses'. -/
def insteadParsesCard : Claim7 := { stood := { row := insteadParsesRow, standIns := [], harness := (true, "aa5be85bbdead965441d1099a524f4882b64b60beaac7ba097c2e80353ba696f"), looks := true }, kinds := [], alts := [], laidByText := true, laidKinds := [.data, .data, .data, .sentinel, .sentinel, .data, .data, .data], laidTests := true, laidLooks := .later }
def InsteadParsesCardSaid : Prop := Claim7.holds Tryz.pinned (.plain (OpenSpec.ofChange insteadParsesSpec)) insteadParsesCard

/-- THE TIED CARD OF 'cardgamelaw19.InsteadBack'. -/
def insteadBackCard : Claim7 := { stood := { row := insteadBackRow, standIns := [], harness := (true, "aa5be85bbdead965441d1099a524f4882b64b60beaac7ba097c2e80353ba696f"), looks := true }, kinds := [], alts := [], laidByText := true, laidKinds := [.data, .data, .data, .sentinel, .sentinel, .data, .data, .data], laidTests := true, laidLooks := .later }
def InsteadBackCardSaid : Prop := Claim7.holds Tryz.pinned (.plain (OpenSpec.ofChange insteadBackSpec)) insteadBackCard

/-- THE TIED CARD OF 'cardgamelaw19.InsteadNumbers'. -/
def insteadNumbersCard : Claim7 := { stood := { row := insteadNumbersRow, standIns := [], harness := (true, "aa5be85bbdead965441d1099a524f4882b64b60beaac7ba097c2e80353ba696f"), looks := true }, kinds := [], alts := [], laidByText := true, laidKinds := [.data, .data, .data, .sentinel, .sentinel, .data, .data, .data], laidTests := true, laidLooks := .later }
def InsteadNumbersCardSaid : Prop := Claim7.holds Tryz.pinned (.plain (OpenSpec.ofChange insteadNumbersSpec)) insteadNumbersCard

/-- THE TIED CARD OF 'cardgamelaw19.InsteadApart'. -/
def insteadApartCard : Claim7 := { stood := { row := insteadApartRow, standIns := [], harness := (true, "aa5be85bbdead965441d1099a524f4882b64b60beaac7ba097c2e80353ba696f"), looks := true }, kinds := [], alts := [], laidByText := true, laidKinds := [.data, .data, .data, .sentinel, .sentinel, .data, .data, .data], laidTests := true, laidLooks := .later }
def InsteadApartCardSaid : Prop := Claim7.holds Tryz.pinned (.plain (OpenSpec.ofChange insteadApartSpec)) insteadApartCard

/-- THE SECOND FORM's CARD OF 'cardgamelaw19.InsteadIs'. -/
def insteadIsUptoCard : Claim7 := { stood := { row := insteadIsUptoRow, standIns := [], harness := (true, "aa5be85bbdead965441d1099a524f4882b64b60beaac7ba097c2e80353ba696f"), looks := true }, kinds := [], alts := [], laidByText := true, laidKinds := [.data, .data, .data, .sentinel, .sentinel, .data, .data, .data], laidTests := true, laidLooks := .later }
def InsteadIsUptoCardSaid : Prop := Claim7.holds Tryz.pinned (.plain (OpenSpec.upto insteadIsSpec)) insteadIsUptoCard

/-- THE SECOND FORM's CARD OF 'cardgamelaw19.InsteadTexts'. -/
def insteadTextsUptoCard : Claim7 := { stood := { row := insteadTextsUptoRow, standIns := [], harness := (true, "aa5be85bbdead965441d1099a524f4882b64b60beaac7ba097c2e80353ba696f"), looks := true }, kinds := [], alts := [], laidByText := true, laidKinds := [.data, .data, .data, .sentinel, .sentinel, .data, .data, .data], laidTests := true, laidLooks := .later }
def InsteadTextsUptoCardSaid : Prop := Claim7.holds Tryz.pinned (.plain (OpenSpec.upto insteadTextsSpec)) insteadTextsUptoCard

/-- THE SECOND FORM's CARD OF 'cardgamelaw19.InsteadParses'. -/
def insteadParsesUptoCard : Claim7 := { stood := { row := insteadParsesUptoRow, standIns := [], harness := (true, "aa5be85bbdead965441d1099a524f4882b64b60beaac7ba097c2e80353ba696f"), looks := true }, kinds := [], alts := [], laidByText := true, laidKinds := [.data, .data, .data, .sentinel, .sentinel, .data, .data, .data], laidTests := true, laidLooks := .later }
def InsteadParsesUptoCardSaid : Prop := Claim7.holds Tryz.pinned (.plain (OpenSpec.upto insteadParsesSpec)) insteadParsesUptoCard

/-- THE SECOND FORM's CARD OF 'cardgamelaw19.InsteadBack'. -/
def insteadBackUptoCard : Claim7 := { stood := { row := insteadBackUptoRow, standIns := [], harness := (true, "aa5be85bbdead965441d1099a524f4882b64b60beaac7ba097c2e80353ba696f"), looks := true }, kinds := [], alts := [], laidByText := true, laidKinds := [.data, .data, .data, .sentinel, .sentinel, .data, .data, .data], laidTests := true, laidLooks := .later }
def InsteadBackUptoCardSaid : Prop := Claim7.holds Tryz.pinned (.plain (OpenSpec.upto insteadBackSpec)) insteadBackUptoCard

/-- THE SECOND FORM's CARD OF 'cardgamelaw19.InsteadNumbers'. -/
def insteadNumbersUptoCard : Claim7 := { stood := { row := insteadNumbersUptoRow, standIns := [], harness := (true, "aa5be85bbdead965441d1099a524f4882b64b60beaac7ba097c2e80353ba696f"), looks := true }, kinds := [], alts := [], laidByText := true, laidKinds := [.data, .data, .data, .sentinel, .sentinel, .data, .data, .data], laidTests := true, laidLooks := .later }
def InsteadNumbersUptoCardSaid : Prop := Claim7.holds Tryz.pinned (.plain (OpenSpec.upto insteadNumbersSpec)) insteadNumbersUptoCard

/-- THE SECOND FORM's CARD OF 'cardgamelaw19.InsteadApart'. -/
def insteadApartUptoCard : Claim7 := { stood := { row := insteadApartUptoRow, standIns := [], harness := (true, "aa5be85bbdead965441d1099a524f4882b64b60beaac7ba097c2e80353ba696f"), looks := true }, kinds := [], alts := [], laidByText := true, laidKinds := [.data, .data, .data, .sentinel, .sentinel, .data, .data, .data], laidTests := true, laidLooks := .later }
def InsteadApartUptoCardSaid : Prop := Claim7.holds Tryz.pinned (.plain (OpenSpec.upto insteadApartSpec)) insteadApartUptoCard
end Rows
end Go.Proofs.YtkohfomiigcifaaGreatDoor
