/-
  DERIVED. GIVEN WITH THE SEED: THE CARDS: each row of YtbichcmpggbfnaaDoorRows.lean that lists a variable, with what it lists TIED to the program's text (the seventh form; the later family's looks); each row that meets fmt, with fmt's text TOLD by the authors' own Lean function (tested against real Go, not proved from fmt's source: count such statements apart). THE CARD IS WHAT COUNTS. Prove the row's statement (the work); the ties are given (YtbichcmpggbfnaaDoorTie.lean); close each card by the builder's one call (the guide's Derived/Test/ToyasCard.lean, 'card_holds'). Laid BY PROGRAM, IN A SANDBOX (cutbox-door.mjs). By AI agents, Wed Nov 11 2026. No macro, syntax, notation, axiom, sorry.
-/
import Derived.Test.YtbichcmpggbfnaaDoorRows
import GoSem.ClaimSeven
namespace Go.Proofs.YtbichcmpggbfnaaDoor
namespace Rows

/-- THE TIED CARD OF 'cardgamelaw10.LineChecks'. -/
def lineChecksCard : Claim7 := { stood := { row := lineChecksRow, standIns := [], harness := (true, "6ebaa9e7fcafbcb8a35ff58a17089b5c0e9ff1e602eb0705f17a8c2503fa83fc"), looks := false }, kinds := [], alts := [], laidByText := true, laidKinds := [.data], laidTests := true, laidLooks := .later }
def LineChecksCardSaid : Prop := Claim7.holds Tryd.pinned (.plain (OpenSpec.ofChange lineChecksSpec)) lineChecksCard

/-- THE TIED CARD OF 'cardgamelaw10.LineTexts'. -/
def lineTextsCard : Claim7 := { stood := { row := lineTextsRow, standIns := [], harness := (true, "6ebaa9e7fcafbcb8a35ff58a17089b5c0e9ff1e602eb0705f17a8c2503fa83fc"), looks := false }, kinds := [], alts := [], laidByText := true, laidKinds := [.data], laidTests := true, laidLooks := .later }
def LineTextsCardSaid : Prop := Claim7.holds Tryd.pinned (.plain (OpenSpec.ofChange lineTextsSpec)) lineTextsCard

/-- THE TIED CARD OF 'cardgamelaw10.LineTypes'. -/
def lineTypesCard : Claim7 := { stood := { row := lineTypesRow, standIns := [], harness := (true, "6ebaa9e7fcafbcb8a35ff58a17089b5c0e9ff1e602eb0705f17a8c2503fa83fc"), looks := false }, kinds := [], alts := [], laidByText := true, laidKinds := [.data], laidTests := true, laidLooks := .later }
def LineTypesCardSaid : Prop := Claim7.holds Tryd.pinned (.plain (OpenSpec.ofChange lineTypesSpec)) lineTypesCard

/-- THE TIED CARD OF 'cardgamelaw10.LineAdds'. -/
def lineAddsCard : Claim7 := { stood := { row := lineAddsRow, standIns := [], harness := (true, "6ebaa9e7fcafbcb8a35ff58a17089b5c0e9ff1e602eb0705f17a8c2503fa83fc"), looks := false }, kinds := [], alts := [], laidByText := true, laidKinds := [.data], laidTests := true, laidLooks := .later }
def LineAddsCardSaid : Prop := Claim7.holds Tryd.pinned (.plain (OpenSpec.ofChange lineAddsSpec)) lineAddsCard

/-- THE TIED CARD OF 'cardgamelaw10.LineBack'. -/
def lineBackCard : Claim7 := { stood := { row := lineBackRow, standIns := [], harness := (true, "6ebaa9e7fcafbcb8a35ff58a17089b5c0e9ff1e602eb0705f17a8c2503fa83fc"), looks := false }, kinds := [], alts := [], laidByText := true, laidKinds := [.data], laidTests := true, laidLooks := .later }
def LineBackCardSaid : Prop := Claim7.holds Tryd.pinned (.plain (OpenSpec.ofChange lineBackSpec)) lineBackCard

/-- THE TIED CARD OF 'cardgamelaw10.LineStays'. -/
def lineStaysCard : Claim7 := { stood := { row := lineStaysRow, standIns := [], harness := (true, "6ebaa9e7fcafbcb8a35ff58a17089b5c0e9ff1e602eb0705f17a8c2503fa83fc"), looks := false }, kinds := [], alts := [], laidByText := true, laidKinds := [.data], laidTests := true, laidLooks := .later }
def LineStaysCardSaid : Prop := Claim7.holds Tryd.pinned (.plain (OpenSpec.ofChange lineStaysSpec)) lineStaysCard

/-- THE SECOND FORM's CARD OF 'cardgamelaw10.LineChecks'. -/
def lineChecksUptoCard : Claim7 := { stood := { row := lineChecksUptoRow, standIns := [], harness := (true, "6ebaa9e7fcafbcb8a35ff58a17089b5c0e9ff1e602eb0705f17a8c2503fa83fc"), looks := false }, kinds := [], alts := [], laidByText := true, laidKinds := [.data], laidTests := true, laidLooks := .later }
def LineChecksUptoCardSaid : Prop := Claim7.holds Tryd.pinned (.plain (OpenSpec.upto lineChecksSpec)) lineChecksUptoCard

/-- THE SECOND FORM's CARD OF 'cardgamelaw10.LineTexts'. -/
def lineTextsUptoCard : Claim7 := { stood := { row := lineTextsUptoRow, standIns := [], harness := (true, "6ebaa9e7fcafbcb8a35ff58a17089b5c0e9ff1e602eb0705f17a8c2503fa83fc"), looks := false }, kinds := [], alts := [], laidByText := true, laidKinds := [.data], laidTests := true, laidLooks := .later }
def LineTextsUptoCardSaid : Prop := Claim7.holds Tryd.pinned (.plain (OpenSpec.upto lineTextsSpec)) lineTextsUptoCard

/-- THE SECOND FORM's CARD OF 'cardgamelaw10.LineTypes'. -/
def lineTypesUptoCard : Claim7 := { stood := { row := lineTypesUptoRow, standIns := [], harness := (true, "6ebaa9e7fcafbcb8a35ff58a17089b5c0e9ff1e602eb0705f17a8c2503fa83fc"), looks := false }, kinds := [], alts := [], laidByText := true, laidKinds := [.data], laidTests := true, laidLooks := .later }
def LineTypesUptoCardSaid : Prop := Claim7.holds Tryd.pinned (.plain (OpenSpec.upto lineTypesSpec)) lineTypesUptoCard

/-- THE SECOND FORM's CARD OF 'cardgamelaw10.LineAdds'. -/
def lineAddsUptoCard : Claim7 := { stood := { row := lineAddsUptoRow, standIns := [], harness := (true, "6ebaa9e7fcafbcb8a35ff58a17089b5c0e9ff1e602eb0705f17a8c2503fa83fc"), looks := false }, kinds := [], alts := [], laidByText := true, laidKinds := [.data], laidTests := true, laidLooks := .later }
def LineAddsUptoCardSaid : Prop := Claim7.holds Tryd.pinned (.plain (OpenSpec.upto lineAddsSpec)) lineAddsUptoCard

/-- THE SECOND FORM's CARD OF 'cardgamelaw10.LineBack'. -/
def lineBackUptoCard : Claim7 := { stood := { row := lineBackUptoRow, standIns := [], harness := (true, "6ebaa9e7fcafbcb8a35ff58a17089b5c0e9ff1e602eb0705f17a8c2503fa83fc"), looks := false }, kinds := [], alts := [], laidByText := true, laidKinds := [.data], laidTests := true, laidLooks := .later }
def LineBackUptoCardSaid : Prop := Claim7.holds Tryd.pinned (.plain (OpenSpec.upto lineBackSpec)) lineBackUptoCard

/-- THE SECOND FORM's CARD OF 'cardgamelaw10.LineStays'. -/
def lineStaysUptoCard : Claim7 := { stood := { row := lineStaysUptoRow, standIns := [], harness := (true, "6ebaa9e7fcafbcb8a35ff58a17089b5c0e9ff1e602eb0705f17a8c2503fa83fc"), looks := false }, kinds := [], alts := [], laidByText := true, laidKinds := [.data], laidTests := true, laidLooks := .later }
def LineStaysUptoCardSaid : Prop := Claim7.holds Tryd.pinned (.plain (OpenSpec.upto lineStaysSpec)) lineStaysUptoCard
end Rows
end Go.Proofs.YtbichcmpggbfnaaDoor
