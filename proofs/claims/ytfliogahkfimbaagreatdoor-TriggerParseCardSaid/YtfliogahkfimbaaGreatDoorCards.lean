/-
  DERIVED. GIVEN WITH THE SEED: THE CARDS: each row of YtfliogahkfimbaaGreatDoorRows.lean that lists a variable, with what it lists TIED to the program's text (the seventh form; the later family's looks); each row that meets fmt, with fmt's text TOLD by the authors' own Lean function (tested against real Go, not proved from fmt's source: count such statements apart). THE CARD IS WHAT COUNTS. Prove the row's statement (the work); the ties are given (YtfliogahkfimbaaGreatDoorTie.lean); close each card by the builder's one call (the guide's Derived/Test/ToyasCard.lean, 'card_holds'). Laid BY PROGRAM, IN A SANDBOX (cutbox-door.mjs). By AI agents, Wed Nov 11 2026. No macro, syntax, notation, axiom, sorry.
-/
import Derived.Test.YtfliogahkfimbaaGreatDoorRows
import GoSem.ClaimSeven
namespace Go.Proofs.YtfliogahkfimbaaGreatDoor
namespace Rows

/-- THE TIED CARD OF 'cardgamelaw18.TriggerText'. -/
def triggerTextCard : Claim7 := { stood := { row := triggerTextRow, standIns := [], harness := (true, "f554dee035854af789f01512d32d983a87982a53760a93adffda71203b994bda"), looks := true }, kinds := [], alts := [], laidByText := true, laidKinds := [.data, .data, .data, .sentinel, .sentinel, .data, .data], laidTests := true, laidLooks := .later }
def TriggerTextCardSaid : Prop := Claim7.holds Tryz.pinned (.plain (OpenSpec.ofChange triggerTextSpec)) triggerTextCard

/-- THE TIED CARD OF 'cardgamelaw18.TriggerParse'. -/
def triggerParseCard : Claim7 := { stood := { row := triggerParseRow, standIns := [], harness := (true, "f554dee035854af789f01512d32d983a87982a53760a93adffda71203b994bda"), looks := true }, kinds := [], alts := [], laidByText := true, laidKinds := [.data, .data, .data, .sentinel, .sentinel, .data, .data], laidTests := true, laidLooks := .later }
def TriggerParseCardSaid : Prop := Claim7.holds Tryz.pinned (.plain (OpenSpec.ofChange triggerParseSpec)) triggerParseCard

/-- THE TIED CARD OF 'cardgamelaw18.TriggerBack'. -/
def triggerBackCard : Claim7 := { stood := { row := triggerBackRow, standIns := [], harness := (true, "f554dee035854af789f01512d32d983a87982a53760a93adffda71203b994bda"), looks := true }, kinds := [], alts := [], laidByText := true, laidKinds := [.data, .data, .data, .sentinel, .sentinel, .data, .data], laidTests := true, laidLooks := .later }
def TriggerBackCardSaid : Prop := Claim7.holds Tryz.pinned (.plain (OpenSpec.ofChange triggerBackSpec)) triggerBackCard

/-- THE TIED CARD OF 'cardgamelaw18.TriggerUnused'. -/
def triggerUnusedCard : Claim7 := { stood := { row := triggerUnusedRow, standIns := [], harness := (true, "f554dee035854af789f01512d32d983a87982a53760a93adffda71203b994bda"), looks := true }, kinds := [], alts := [], laidByText := true, laidKinds := [.data, .data, .data, .sentinel, .sentinel, .data, .data], laidTests := true, laidLooks := .later }
def TriggerUnusedCardSaid : Prop := Claim7.holds Tryz.pinned (.plain (OpenSpec.ofChange triggerUnusedSpec)) triggerUnusedCard

/-- THE TIED CARD OF 'cardgamelaw18.TriggerWho'. -/
def triggerWhoCard : Claim7 := { stood := { row := triggerWhoRow, standIns := [], harness := (true, "f554dee035854af789f01512d32d983a87982a53760a93adffda71203b994bda"), looks := true }, kinds := [], alts := [], laidByText := true, laidKinds := [.data, .data, .data, .sentinel, .sentinel, .data, .data], laidTests := true, laidLooks := .later }
def TriggerWhoCardSaid : Prop := Claim7.holds Tryz.pinned (.plain (OpenSpec.ofChange triggerWhoSpec)) triggerWhoCard

/-- THE SECOND FORM's CARD OF 'cardgamelaw18.TriggerText'. -/
def triggerTextUptoCard : Claim7 := { stood := { row := triggerTextUptoRow, standIns := [], harness := (true, "f554dee035854af789f01512d32d983a87982a53760a93adffda71203b994bda"), looks := true }, kinds := [], alts := [], laidByText := true, laidKinds := [.data, .data, .data, .sentinel, .sentinel, .data, .data], laidTests := true, laidLooks := .later }
def TriggerTextUptoCardSaid : Prop := Claim7.holds Tryz.pinned (.plain (OpenSpec.upto triggerTextSpec)) triggerTextUptoCard

/-- THE SECOND FORM's CARD OF 'cardgamelaw18.TriggerParse'. -/
def triggerParseUptoCard : Claim7 := { stood := { row := triggerParseUptoRow, standIns := [], harness := (true, "f554dee035854af789f01512d32d983a87982a53760a93adffda71203b994bda"), looks := true }, kinds := [], alts := [], laidByText := true, laidKinds := [.data, .data, .data, .sentinel, .sentinel, .data, .data], laidTests := true, laidLooks := .later }
def TriggerParseUptoCardSaid : Prop := Claim7.holds Tryz.pinned (.plain (OpenSpec.upto triggerParseSpec)) triggerParseUptoCard

/-- THE SECOND FORM's CARD OF 'cardgamelaw18.TriggerBack'. -/
def triggerBackUptoCard : Claim7 := { stood := { row := triggerBackUptoRow, standIns := [], harness := (true, "f554dee035854af789f01512d32d983a87982a53760a93adffda71203b994bda"), looks := true }, kinds := [], alts := [], laidByText := true, laidKinds := [.data, .data, .data, .sentinel, .sentinel, .data, .data], laidTests := true, laidLooks := .later }
def TriggerBackUptoCardSaid : Prop := Claim7.holds Tryz.pinned (.plain (OpenSpec.upto triggerBackSpec)) triggerBackUptoCard

/-- THE SECOND FORM's CARD OF 'cardgamelaw18.TriggerUnused'. -/
def triggerUnusedUptoCard : Claim7 := { stood := { row := triggerUnusedUptoRow, standIns := [], harness := (true, "f554dee035854af789f01512d32d983a87982a53760a93adffda71203b994bda"), looks := true }, kinds := [], alts := [], laidByText := true, laidKinds := [.data, .data, .data, .sentinel, .sentinel, .data, .data], laidTests := true, laidLooks := .later }
def TriggerUnusedUptoCardSaid : Prop := Claim7.holds Tryz.pinned (.plain (OpenSpec.upto triggerUnusedSpec)) triggerUnusedUptoCard

/-- THE SECOND FORM's CARD OF 'cardgamelaw18.TriggerWho'. -/
def triggerWhoUptoCard : Claim7 := { stood := { row := triggerWhoUptoRow, standIns := [], harness := (true, "f554dee035854af789f01512d32d983a87982a53760a93adffda71203b994bda"), looks := true }, kinds := [], alts := [], laidByText := true, laidKinds := [.data, .data, .data, .sentinel, .sentinel, .data, .data], laidTests := true, laidLooks := .later }
def TriggerWhoUptoCardSaid : Prop := Claim7.holds Tryz.pinned (.plain (OpenSpec.upto triggerWhoSpec)) triggerWhoUptoCard
end Rows
end Go.Proofs.YtfliogahkfimbaaGreatDoor
