/-
  DERIVED. GIVEN WITH THE SEED: THE CARDS: each row of YtoedminkaimfcaaDoorRows.lean that lists a variable, with what it lists TIED to the program's text (the seventh form; the later family's looks); each row that meets fmt, with fmt's text TOLD by the authors' own Lean function (tested against real Go, not proved from fmt's source: count such statements apart). THE CARD IS WHAT COUNTS. Prove the row's statement (the work); the ties are given (YtoedminkaimfcaaDoorTie.lean); close each card by the builder's one call (the guide's Derived/Test/ToyasCard.lean, 'card_holds'). Laid BY PROGRAM, IN A SANDBOX (cutbox-door.mjs). By AI agents, Wed Nov 11 2026. No macro, syntax, notation, axiom, sorry.
-/
import Derived.Test.YtoedminkaimfcaaDoorRows
import GoSem.ClaimSeven
namespace Go.Proofs.YtoedminkaimfcaaDoor
namespace Rows

/-- THE TIED CARD OF 'cardgamelaw09.ColorMasks'. -/
def colorMasksCard : Claim7 := { stood := { row := colorMasksRow, standIns := [], harness := (true, "53ea058bed7455cce386e9dbbaad455aadc6930795619933e16f5394ec720d5c"), looks := false }, kinds := [], alts := [], laidByText := true, laidKinds := [.data], laidTests := true, laidLooks := .later }
def ColorMasksCardSaid : Prop := Claim7.holds Tryd.pinned (.plain (OpenSpec.ofChange colorMasksSpec)) colorMasksCard

/-- THE TIED CARD OF 'cardgamelaw09.ColorText'. -/
def colorTextCard : Claim7 := { stood := { row := colorTextRow, standIns := [], harness := (true, "53ea058bed7455cce386e9dbbaad455aadc6930795619933e16f5394ec720d5c"), looks := false }, kinds := [], alts := [], laidByText := true, laidKinds := [.data], laidTests := true, laidLooks := .later }
def ColorTextCardSaid : Prop := Claim7.holds Tryd.pinned (.plain (OpenSpec.ofChange colorTextSpec)) colorTextCard

/-- THE TIED CARD OF 'cardgamelaw09.ColorParse'. -/
def colorParseCard : Claim7 := { stood := { row := colorParseRow, standIns := [], harness := (true, "53ea058bed7455cce386e9dbbaad455aadc6930795619933e16f5394ec720d5c"), looks := false }, kinds := [], alts := [], laidByText := true, laidKinds := [.data], laidTests := true, laidLooks := .later }
def ColorParseCardSaid : Prop := Claim7.holds Tryd.pinned (.plain (OpenSpec.ofChange colorParseSpec)) colorParseCard

/-- THE TIED CARD OF 'cardgamelaw09.ColorBack'. -/
def colorBackCard : Claim7 := { stood := { row := colorBackRow, standIns := [], harness := (true, "53ea058bed7455cce386e9dbbaad455aadc6930795619933e16f5394ec720d5c"), looks := false }, kinds := [], alts := [], laidByText := true, laidKinds := [.data], laidTests := true, laidLooks := .later }
def ColorBackCardSaid : Prop := Claim7.holds Tryd.pinned (.plain (OpenSpec.ofChange colorBackSpec)) colorBackCard

/-- THE TIED CARD OF 'cardgamelaw09.ColorNames'. -/
def colorNamesCard : Claim7 := { stood := { row := colorNamesRow, standIns := [], harness := (true, "53ea058bed7455cce386e9dbbaad455aadc6930795619933e16f5394ec720d5c"), looks := false }, kinds := [], alts := [], laidByText := true, laidKinds := [.data], laidTests := true, laidLooks := .later }
def ColorNamesCardSaid : Prop := Claim7.holds Tryd.pinned (.plain (OpenSpec.ofChange colorNamesSpec)) colorNamesCard

/-- THE SECOND FORM's CARD OF 'cardgamelaw09.ColorMasks'. -/
def colorMasksUptoCard : Claim7 := { stood := { row := colorMasksUptoRow, standIns := [], harness := (true, "53ea058bed7455cce386e9dbbaad455aadc6930795619933e16f5394ec720d5c"), looks := false }, kinds := [], alts := [], laidByText := true, laidKinds := [.data], laidTests := true, laidLooks := .later }
def ColorMasksUptoCardSaid : Prop := Claim7.holds Tryd.pinned (.plain (OpenSpec.upto colorMasksSpec)) colorMasksUptoCard

/-- THE SECOND FORM's CARD OF 'cardgamelaw09.ColorText'. -/
def colorTextUptoCard : Claim7 := { stood := { row := colorTextUptoRow, standIns := [], harness := (true, "53ea058bed7455cce386e9dbbaad455aadc6930795619933e16f5394ec720d5c"), looks := false }, kinds := [], alts := [], laidByText := true, laidKinds := [.data], laidTests := true, laidLooks := .later }
def ColorTextUptoCardSaid : Prop := Claim7.holds Tryd.pinned (.plain (OpenSpec.upto colorTextSpec)) colorTextUptoCard

/-- THE SECOND FORM's CARD OF 'cardgamelaw09.ColorParse'. -/
def colorParseUptoCard : Claim7 := { stood := { row := colorParseUptoRow, standIns := [], harness := (true, "53ea058bed7455cce386e9dbbaad455aadc6930795619933e16f5394ec720d5c"), looks := false }, kinds := [], alts := [], laidByText := true, laidKinds := [.data], laidTests := true, laidLooks := .later }
def ColorParseUptoCardSaid : Prop := Claim7.holds Tryd.pinned (.plain (OpenSpec.upto colorParseSpec)) colorParseUptoCard

/-- THE SECOND FORM's CARD OF 'cardgamelaw09.ColorBack'. -/
def colorBackUptoCard : Claim7 := { stood := { row := colorBackUptoRow, standIns := [], harness := (true, "53ea058bed7455cce386e9dbbaad455aadc6930795619933e16f5394ec720d5c"), looks := false }, kinds := [], alts := [], laidByText := true, laidKinds := [.data], laidTests := true, laidLooks := .later }
def ColorBackUptoCardSaid : Prop := Claim7.holds Tryd.pinned (.plain (OpenSpec.upto colorBackSpec)) colorBackUptoCard

/-- THE SECOND FORM's CARD OF 'cardgamelaw09.ColorNames'. -/
def colorNamesUptoCard : Claim7 := { stood := { row := colorNamesUptoRow, standIns := [], harness := (true, "53ea058bed7455cce386e9dbbaad455aadc6930795619933e16f5394ec720d5c"), looks := false }, kinds := [], alts := [], laidByText := true, laidKinds := [.data], laidTests := true, laidLooks := .later }
def ColorNamesUptoCardSaid : Prop := Claim7.holds Tryd.pinned (.plain (OpenSpec.upto colorNamesSpec)) colorNamesUptoCard
end Rows
end Go.Proofs.YtoedminkaimfcaaDoor
