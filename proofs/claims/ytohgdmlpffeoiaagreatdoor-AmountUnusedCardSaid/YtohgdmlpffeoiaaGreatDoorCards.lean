/-
  DERIVED. GIVEN WITH THE SEED: THE CARDS: each row of YtohgdmlpffeoiaaGreatDoorRows.lean that lists a variable, with what it lists TIED to the program's text (the seventh form; the later family's looks); each row that meets fmt, with fmt's text TOLD by the authors' own Lean function (tested against real Go, not proved from fmt's source: count such statements apart). THE CARD IS WHAT COUNTS. Prove the row's statement (the work); the ties are given (YtohgdmlpffeoiaaGreatDoorTie.lean); close each card by the builder's one call (the guide's Derived/Test/ToyasCard.lean, 'card_holds'). Laid BY PROGRAM, IN A SANDBOX (cutbox-door.mjs). By AI agents, Wed Nov 11 2026. No macro, syntax, notation, axiom, sorry.
-/
import Derived.Test.YtohgdmlpffeoiaaGreatDoorRows
import GoSem.ClaimSeven
namespace Go.Proofs.YtohgdmlpffeoiaaGreatDoor
namespace Rows

/-- THE TIED CARD OF 'cardgamelaw14.AmountIs'. -/
def amountIsCard : Claim7 := { stood := { row := amountIsRow, standIns := [], harness := (true, "bf98105546f02b14761849c899f1ad3e1ce078ed62d7b0e0a3925e00bcd78655"), looks := true }, kinds := [], alts := [], laidByText := true, laidKinds := [.data, .data, .data, .sentinel, .sentinel, .data, .data, .data], laidTests := true, laidLooks := .later }
def AmountIsCardSaid : Prop := Claim7.holds Tryz.pinned (.plain (OpenSpec.ofChange amountIsSpec)) amountIsCard

/-- THE TIED CARD OF 'cardgamelaw14.AmountParses'. -/
def amountParsesCard : Claim7 := { stood := { row := amountParsesRow, standIns := [], harness := (true, "bf98105546f02b14761849c899f1ad3e1ce078ed62d7b0e0a3925e00bcd78655"), looks := true }, kinds := [], alts := [], laidByText := true, laidKinds := [.data, .data, .data, .sentinel, .sentinel, .data, .data, .data], laidTests := true, laidLooks := .later }
def AmountParsesCardSaid : Prop := Claim7.holds Tryz.pinned (.plain (OpenSpec.ofChange amountParsesSpec)) amountParsesCard

/-- THE TIED CARD OF 'cardgamelaw14.AmountBack'. -/
def amountBackCard : Claim7 := { stood := { row := amountBackRow, standIns := [], harness := (true, "bf98105546f02b14761849c899f1ad3e1ce078ed62d7b0e0a3925e00bcd78655"), looks := true }, kinds := [], alts := [], laidByText := true, laidKinds := [.data, .data, .data, .sentinel, .sentinel, .data, .data, .data], laidTests := true, laidLooks := .later }
def AmountBackCardSaid : Prop := Claim7.holds Tryz.pinned (.plain (OpenSpec.ofChange amountBackSpec)) amountBackCard

/-- THE TIED CARD OF 'cardgamelaw14.AmountTexts'. -/
def amountTextsCard : Claim7 := { stood := { row := amountTextsRow, standIns := [], harness := (true, "bf98105546f02b14761849c899f1ad3e1ce078ed62d7b0e0a3925e00bcd78655"), looks := true }, kinds := [], alts := [], laidByText := true, laidKinds := [.data, .data, .data, .sentinel, .sentinel, .data, .data, .data], laidTests := true, laidLooks := .later }
def AmountTextsCardSaid : Prop := Claim7.holds Tryz.pinned (.plain (OpenSpec.ofChange amountTextsSpec)) amountTextsCard

/-- THE TIED CARD OF 'cardgamelaw14.AmountUnused'. -/
def amountUnusedCard : Claim7 := { stood := { row := amountUnusedRow, standIns := [], harness := (true, "bf98105546f02b14761849c899f1ad3e1ce078ed62d7b0e0a3925e00bcd78655"), looks := true }, kinds := [], alts := [], laidByText := true, laidKinds := [.data, .data, .data, .sentinel, .sentinel, .data, .data, .data], laidTests := true, laidLooks := .later }
def AmountUnusedCardSaid : Prop := Claim7.holds Tryz.pinned (.plain (OpenSpec.ofChange amountUnusedSpec)) amountUnusedCard

/-- THE SECOND FORM's CARD OF 'cardgamelaw14.AmountIs'. -/
def amountIsUptoCard : Claim7 := { stood := { row := amountIsUptoRow, standIns := [], harness := (true, "bf98105546f02b14761849c899f1ad3e1ce078ed62d7b0e0a3925e00bcd78655"), looks := true }, kinds := [], alts := [], laidByText := true, laidKinds := [.data, .data, .data, .sentinel, .sentinel, .data, .data, .data], laidTests := true, laidLooks := .later }
def AmountIsUptoCardSaid : Prop := Claim7.holds Tryz.pinned (.plain (OpenSpec.upto amountIsSpec)) amountIsUptoCard

/-- THE SECOND FORM's CARD OF 'cardgamelaw14.AmountParses'. -/
def amountParsesUptoCard : Claim7 := { stood := { row := amountParsesUptoRow, standIns := [], harness := (true, "bf98105546f02b14761849c899f1ad3e1ce078ed62d7b0e0a3925e00bcd78655"), looks := true }, kinds := [], alts := [], laidByText := true, laidKinds := [.data, .data, .data, .sentinel, .sentinel, .data, .data, .data], laidTests := true, laidLooks := .later }
def AmountParsesUptoCardSaid : Prop := Claim7.holds Tryz.pinned (.plain (OpenSpec.upto amountParsesSpec)) amountParsesUptoCard

/-- THE SECOND FORM's CARD OF 'cardgamelaw14.AmountBack'. -/
def amountBackUptoCard : Claim7 := { stood := { row := amountBackUptoRow, standIns := [], harness := (true, "bf98105546f02b14761849c899f1ad3e1ce078ed62d7b0e0a3925e00bcd78655"), looks := true }, kinds := [], alts := [], laidByText := true, laidKinds := [.data, .data, .data, .sentinel, .sentinel, .data, .data, .data], laidTests := true, laidLooks := .later }
def AmountBackUptoCardSaid : Prop := Claim7.holds Tryz.pinned (.plain (OpenSpec.upto amountBackSpec)) amountBackUptoCard

/-- THE SECOND FORM's CARD OF 'cardgamelaw14.AmountTexts'. -/
def amountTextsUptoCard : Claim7 := { stood := { row := amountTextsUptoRow, standIns := [], harness := (true, "bf98105546f02b14761849c899f1ad3e1ce078ed62d7b0e0a3925e00bcd78655"), looks := true }, kinds := [], alts := [], laidByText := true, laidKinds := [.data, .data, .data, .sentinel, .sentinel, .data, .data, .data], laidTests := true, laidLooks := .later }
def AmountTextsUptoCardSaid : Prop := Claim7.holds Tryz.pinned (.plain (OpenSpec.upto amountTextsSpec)) amountTextsUptoCard

/-- THE SECOND FORM's CARD OF 'cardgamelaw14.AmountUnused'. -/
def amountUnusedUptoCard : Claim7 := { stood := { row := amountUnusedUptoRow, standIns := [], harness := (true, "bf98105546f02b14761849c899f1ad3e1ce078ed62d7b0e0a3925e00bcd78655"), looks := true }, kinds := [], alts := [], laidByText := true, laidKinds := [.data, .data, .data, .sentinel, .sentinel, .data, .data, .data], laidTests := true, laidLooks := .later }
def AmountUnusedUptoCardSaid : Prop := Claim7.holds Tryz.pinned (.plain (OpenSpec.upto amountUnusedSpec)) amountUnusedUptoCard
end Rows
end Go.Proofs.YtohgdmlpffeoiaaGreatDoor
