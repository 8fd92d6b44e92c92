/-
  DERIVED. GIVEN WITH THE SEED: THE CARDS: each row of YtlgdmncioakkjaaGreatDoorRows.lean that lists a variable, with what it lists TIED to the program's text (the seventh form; the later family's looks); each row that meets fmt, with fmt's text TOLD by the authors' own Lean function (tested against real Go, not proved from fmt's source: count such statements apart). THE CARD IS WHAT COUNTS. Prove the row's statement (the work); the ties are given (YtlgdmncioakkjaaGreatDoorTie.lean); close each card by the builder's one call (the guide's Derived/Test/ToyasCard.lean, 'card_holds'). Laid BY PROGRAM, IN A SANDBOX (cutbox-door.mjs). By AI agents, Wed Nov 11 2026. No macro, syntax, notation, axiom, sorry.
-/
import Derived.Test.YtlgdmncioakkjaaGreatDoorRows
import GoSem.ClaimSeven
namespace Go.Proofs.YtlgdmncioakkjaaGreatDoor
namespace Rows

/-- THE TIED CARD OF 'cardgamelaw21.CardLong'. -/
def cardLongCard : Claim7 := { stood := { row := cardLongRow, standIns := [], harness := (true, "dbcfd80dd4414426f2e126a0083a6fbc2e768a10950bdec4a09ff9bf4d44f5ab"), looks := true }, kinds := [], alts := [], laidByText := true, laidKinds := [.data, .data, .data, .data, .sentinel, .sentinel, .data, .data, .data, .pinned], laidTests := true, laidLooks := .later }
def CardLongCardSaid : Prop := Claim7.holds Tryz.pinned (.plain (OpenSpec.ofChange cardLongSpec)) cardLongCard

/-- THE TIED CARD OF 'cardgamelaw21.CardSame'. -/
def cardSameCard : Claim7 := { stood := { row := cardSameRow, standIns := [], harness := (true, "dbcfd80dd4414426f2e126a0083a6fbc2e768a10950bdec4a09ff9bf4d44f5ab"), looks := true }, kinds := [], alts := [], laidByText := true, laidKinds := [.data, .data, .data, .data, .sentinel, .sentinel, .data, .data, .data, .pinned], laidTests := true, laidLooks := .later }
def CardSameCardSaid : Prop := Claim7.holds Tryz.pinned (.plain (OpenSpec.ofChange cardSameSpec)) cardSameCard

/-- THE TIED CARD OF 'cardgamelaw21.CardKinds'. -/
def cardKindsCard : Claim7 := { stood := { row := cardKindsRow, standIns := [], harness := (true, "dbcfd80dd4414426f2e126a0083a6fbc2e768a10950bdec4a09ff9bf4d44f5ab"), looks := true }, kinds := [], alts := [], laidByText := true, laidKinds := [.data, .data, .data, .data, .sentinel, .sentinel, .data, .data, .data, .pinned], laidTests := true, laidLooks := .later }
def CardKindsCardSaid : Prop := Claim7.holds Tryz.pinned (.plain (OpenSpec.ofChange cardKindsSpec)) cardKindsCard

/-- THE SECOND FORM's CARD OF 'cardgamelaw21.CardLong'. -/
def cardLongUptoCard : Claim7 := { stood := { row := cardLongUptoRow, standIns := [], harness := (true, "dbcfd80dd4414426f2e126a0083a6fbc2e768a10950bdec4a09ff9bf4d44f5ab"), looks := true }, kinds := [], alts := [], laidByText := true, laidKinds := [.data, .data, .data, .data, .sentinel, .sentinel, .data, .data, .data, .pinned], laidTests := true, laidLooks := .later }
def CardLongUptoCardSaid : Prop := Claim7.holds Tryz.pinned (.plain (OpenSpec.upto cardLongSpec)) cardLongUptoCard

/-- THE SECOND FORM's CARD OF 'cardgamelaw21.CardSame'. -/
def cardSameUptoCard : Claim7 := { stood := { row := cardSameUptoRow, standIns := [], harness := (true, "dbcfd80dd4414426f2e126a0083a6fbc2e768a10950bdec4a09ff9bf4d44f5ab"), looks := true }, kinds := [], alts := [], laidByText := true, laidKinds := [.data, .data, .data, .data, .sentinel, .sentinel, .data, .data, .data, .pinned], laidTests := true, laidLooks := .later }
def CardSameUptoCardSaid : Prop := Claim7.holds Tryz.pinned (.plain (OpenSpec.upto cardSameSpec)) cardSameUptoCard

/-- THE SECOND FORM's CARD OF 'cardgamelaw21.CardKinds'. -/
def cardKindsUptoCard : Claim7 := { stood := { row := cardKindsUptoRow, standIns := [], harness := (true, "dbcfd80dd4414426f2e126a0083a6fbc2e768a10950bdec4a09ff9bf4d44f5ab"), looks := true }, kinds := [], alts := [], laidByText := true, laidKinds := [.data, .data, .data, .data, .sentinel, .sentinel, .data, .data, .data, .pinned], laidTests := true, laidLooks := .later }
def CardKindsUptoCardSaid : Prop := Claim7.holds Tryz.pinned (.plain (OpenSpec.upto cardKindsSpec)) cardKindsUptoCard
end Rows
end Go.Proofs.YtlgdmncioakkjaaGreatDoor
