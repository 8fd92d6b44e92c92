/-
  DERIVED. GIVEN WITH THE SEED: THE CARDS: each row of YtboealolklojiaaDoorRows.lean that lists a variable, with what it lists TIED to the program's text (the seventh form; the later family's looks); each row that meets fmt, with fmt's text TOLD by the authors' own Lean function (tested against real Go, not proved from fmt's source: count such statements apart). THE CARD IS WHAT COUNTS. Prove the row's statement (the work); the ties are given (YtboealolklojiaaDoorTie.lean); close each card by the builder's one call (the guide's Derived/Test/ToyasCard.lean, 'card_holds'). Laid BY PROGRAM, IN A SANDBOX (cutbox-door.mjs). By AI agents, Wed Nov 11 2026. No macro, syntax, notation, axiom, sorry.
-/
import Derived.Test.YtboealolklojiaaDoorRows
import GoSem.ClaimSeven
namespace Go.Proofs.YtboealolklojiaaDoor
namespace Rows

/-- THE TIED CARD OF 'cardgamelaw13.FilterBack'. -/
def filterBackCard : Claim7 := { stood := { row := filterBackRow, standIns := [], harness := (true, "625a2589fec15a1e4b4af224b1720aae1c2f8f64680e5e27079e4fe759f32893"), looks := true }, kinds := [], alts := [], laidByText := true, laidKinds := [.data, .data, .data, .sentinel, .sentinel, .data, .data], laidTests := true, laidLooks := .later }
def FilterBackCardSaid : Prop := Claim7.holds Tryd.pinned (.plain (OpenSpec.ofChange filterBackSpec)) filterBackCard

/-- THE TIED CARD OF 'cardgamelaw13.FilterApart'. -/
def filterApartCard : Claim7 := { stood := { row := filterApartRow, standIns := [], harness := (true, "625a2589fec15a1e4b4af224b1720aae1c2f8f64680e5e27079e4fe759f32893"), looks := true }, kinds := [], alts := [], laidByText := true, laidKinds := [.data, .data, .data, .sentinel, .sentinel, .data, .data], laidTests := true, laidLooks := .later }
def FilterApartCardSaid : Prop := Claim7.holds Tryd.pinned (.plain (OpenSpec.ofChange filterApartSpec)) filterApartCard

/-- THE TIED CARD OF 'cardgamelaw13.FilterBounds'. -/
def filterBoundsCard : Claim7 := { stood := { row := filterBoundsRow, standIns := [], harness := (true, "625a2589fec15a1e4b4af224b1720aae1c2f8f64680e5e27079e4fe759f32893"), looks := true }, kinds := [], alts := [], laidByText := true, laidKinds := [.data, .data, .data, .sentinel, .sentinel, .data, .data], laidTests := true, laidLooks := .later }
def FilterBoundsCardSaid : Prop := Claim7.holds Tryd.pinned (.plain (OpenSpec.ofChange filterBoundsSpec)) filterBoundsCard

/-- THE SECOND FORM's CARD OF 'cardgamelaw13.FilterBack'. -/
def filterBackUptoCard : Claim7 := { stood := { row := filterBackUptoRow, standIns := [], harness := (true, "625a2589fec15a1e4b4af224b1720aae1c2f8f64680e5e27079e4fe759f32893"), looks := true }, kinds := [], alts := [], laidByText := true, laidKinds := [.data, .data, .data, .sentinel, .sentinel, .data, .data], laidTests := true, laidLooks := .later }
def FilterBackUptoCardSaid : Prop := Claim7.holds Tryd.pinned (.plain (OpenSpec.upto filterBackSpec)) filterBackUptoCard

/-- THE SECOND FORM's CARD OF 'cardgamelaw13.FilterApart'. -/
def filterApartUptoCard : Claim7 := { stood := { row := filterApartUptoRow, standIns := [], harness := (true, "625a2589fec15a1e4b4af224b1720aae1c2f8f64680e5e27079e4fe759f32893"), looks := true }, kinds := [], alts := [], laidByText := true, laidKinds := [.data, .data, .data, .sentinel, .sentinel, .data, .data], laidTests := true, laidLooks := .later }
def FilterApartUptoCardSaid : Prop := Claim7.holds Tryd.pinned (.plain (OpenSpec.upto filterApartSpec)) filterApartUptoCard

/-- THE SECOND FORM's CARD OF 'cardgamelaw13.FilterBounds'. -/
def filterBoundsUptoCard : Claim7 := { stood := { row := filterBoundsUptoRow, standIns := [], harness := (true, "625a2589fec15a1e4b4af224b1720aae1c2f8f64680e5e27079e4fe759f32893"), looks := true }, kinds := [], alts := [], laidByText := true, laidKinds := [.data, .data, .data, .sentinel, .sentinel, .data, .data], laidTests := true, laidLooks := .later }
def FilterBoundsUptoCardSaid : Prop := Claim7.holds Tryd.pinned (.plain (OpenSpec.upto filterBoundsSpec)) filterBoundsUptoCard
end Rows
end Go.Proofs.YtboealolklojiaaDoor
