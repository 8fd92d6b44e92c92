/-
  DERIVED. GIVEN WITH THE SEED: THE CARDS: each row of YtbcgkeclmioeiaaGreatDoorRows.lean that lists a variable, with what it lists TIED to the program's text (the seventh form; the later family's looks); each row that meets fmt, with fmt's text TOLD by the authors' own Lean function (tested against real Go, not proved from fmt's source: count such statements apart). THE CARD IS WHAT COUNTS. Prove the row's statement (the work); the ties are given (YtbcgkeclmioeiaaGreatDoorTie.lean); close each card by the builder's one call (the guide's Derived/Test/ToyasCard.lean, 'card_holds'). Laid BY PROGRAM, IN A SANDBOX (cutbox-door.mjs). By AI agents, Wed Nov 11 2026. No macro, syntax, notation, axiom, sorry.
-/
import Derived.Test.YtbcgkeclmioeiaaGreatDoorRows
import GoSem.ClaimSeven
namespace Go.Proofs.YtbcgkeclmioeiaaGreatDoor
namespace Rows

/-- THE TIED CARD OF 'cardgamelaw16.RefIs'. -/
def refIsCard : Claim7 := { stood := { row := refIsRow, standIns := [], harness := (true, "a074b5a6062612d5f15e14008569c98f2d55bcb3c6d3293a6a7deadc4dde4341"), looks := true }, kinds := [], alts := [], laidByText := true, laidKinds := [.data, .data, .data, .sentinel, .sentinel, .data, .data], laidTests := true, laidLooks := .later }
def RefIsCardSaid : Prop := Claim7.holds Tryz.pinned (.plain (OpenSpec.ofChange refIsSpec)) refIsCard

/-- THE TIED CARD OF 'cardgamelaw16.RefTexts'. -/
def refTextsCard : Claim7 := { stood := { row := refTextsRow, standIns := [], harness := (true, "a074b5a6062612d5f15e14008569c98f2d55bcb3c6d3293a6a7deadc4dde4341"), looks := true }, kinds := [], alts := [], laidByText := true, laidKinds := [.data, .data, .data, .sentinel, .sentinel, .data, .data], laidTests := true, laidLooks := .later }
def RefTextsCardSaid : Prop := Claim7.holds Tryz.pinned (.plain (OpenSpec.ofChange refTextsSpec)) refTextsCard

/-- THE TIED CARD OF 'cardgamelaw16.RefParses'. -/
def refParsesCard : Claim7 := { stood := { row := refParsesRow, standIns := [], harness := (true, "a074b5a6062612d5f15e14008569c98f2d55bcb3c6d3293a6a7deadc4dde4341"), looks := true }, kinds := [], alts := [], laidByText := true, laidKinds := [.data, .data, .data, .sentinel, .sentinel, .data, .data], laidTests := true, laidLooks := .later }
def RefParsesCardSaid : Prop := Claim7.holds Tryz.pinned (.plain (OpenSpec.ofChange refParsesSpec)) refParsesCard

/-- THE TIED CARD OF 'cardgamelaw16.RefBack'. -/
def refBackCard : Claim7 := { stood := { row := refBackRow, standIns := [], harness := (true, "a074b5a6062612d5f15e14008569c98f2d55bcb3c6d3293a6a7deadc4dde4341"), looks := true }, kinds := [], alts := [], laidByText := true, laidKinds := [.data, .data, .data, .sentinel, .sentinel, .data, .data], laidTests := true, laidLooks := .later }
def RefBackCardSaid : Prop := Claim7.holds Tryz.pinned (.plain (OpenSpec.ofChange refBackSpec)) refBackCard

/-- THE TIED CARD OF 'cardgamelaw16.RefSpecs'. -/
def refSpecsCard : Claim7 := { stood := { row := refSpecsRow, standIns := [], harness := (true, "a074b5a6062612d5f15e14008569c98f2d55bcb3c6d3293a6a7deadc4dde4341"), looks := true }, kinds := [], alts := [], laidByText := true, laidKinds := [.data, .data, .data, .sentinel, .sentinel, .data, .data], laidTests := true, laidLooks := .later }
def RefSpecsCardSaid : Prop := Claim7.holds Tryz.pinned (.plain (OpenSpec.ofChange refSpecsSpec)) refSpecsCard

/-- THE TIED CARD OF 'cardgamelaw15.ModParse'. -/
def modParseCard : Claim7 := { stood := { row := modParseRow, standIns := [], harness := (true, "a074b5a6062612d5f15e14008569c98f2d55bcb3c6d3293a6a7deadc4dde4341"), looks := true }, kinds := [], alts := [], laidByText := true, laidKinds := [.data, .data, .data, .sentinel, .sentinel, .data, .data], laidTests := true, laidLooks := .later }
def ModParseCardSaid : Prop := Claim7.holds Tryz.pinned (.plain (OpenSpec.ofChange modParseSpec)) modParseCard

/-- THE TIED CARD OF 'cardgamelaw15.ModLists'. -/
def modListsCard : Claim7 := { stood := { row := modListsRow, standIns := [], harness := (true, "a074b5a6062612d5f15e14008569c98f2d55bcb3c6d3293a6a7deadc4dde4341"), looks := true }, kinds := [], alts := [], laidByText := true, laidKinds := [.data, .data, .data, .sentinel, .sentinel, .data, .data], laidTests := true, laidLooks := .later }
def ModListsCardSaid : Prop := Claim7.holds Tryz.pinned (.plain (OpenSpec.ofChange modListsSpec)) modListsCard

/-- THE TIED CARD OF 'cardgamelaw15.ModApply'. -/
def modApplyCard : Claim7 := { stood := { row := modApplyRow, standIns := [], harness := (true, "a074b5a6062612d5f15e14008569c98f2d55bcb3c6d3293a6a7deadc4dde4341"), looks := true }, kinds := [], alts := [], laidByText := true, laidKinds := [.data, .data, .data, .sentinel, .sentinel, .data, .data], laidTests := true, laidLooks := .later }
def ModApplyCardSaid : Prop := Claim7.holds Tryz.pinned (.plain (OpenSpec.ofChange modApplySpec)) modApplyCard

/-- THE TIED CARD OF 'cardgamelaw15.ModSwitches'. -/
def modSwitchesCard : Claim7 := { stood := { row := modSwitchesRow, standIns := [], harness := (true, "a074b5a6062612d5f15e14008569c98f2d55bcb3c6d3293a6a7deadc4dde4341"), looks := true }, kinds := [], alts := [], laidByText := true, laidKinds := [.data, .data, .data, .sentinel, .sentinel, .data, .data], laidTests := true, laidLooks := .later }
def ModSwitchesCardSaid : Prop := Claim7.holds Tryz.pinned (.plain (OpenSpec.ofChange modSwitchesSpec)) modSwitchesCard

/-- THE TIED CARD OF 'cardgamelaw15.ModOwn'. -/
def modOwnCard : Claim7 := { stood := { row := modOwnRow, standIns := [], harness := (true, "a074b5a6062612d5f15e14008569c98f2d55bcb3c6d3293a6a7deadc4dde4341"), looks := true }, kinds := [], alts := [], laidByText := true, laidKinds := [.data, .data, .data, .sentinel, .sentinel, .data, .data], laidTests := true, laidLooks := .later }
def ModOwnCardSaid : Prop := Claim7.holds Tryz.pinned (.plain (OpenSpec.ofChange modOwnSpec)) modOwnCard

/-- THE SECOND FORM's CARD OF 'cardgamelaw16.RefIs'. -/
def refIsUptoCard : Claim7 := { stood := { row := refIsUptoRow, standIns := [], harness := (true, "a074b5a6062612d5f15e14008569c98f2d55bcb3c6d3293a6a7deadc4dde4341"), looks := true }, kinds := [], alts := [], laidByText := true, laidKinds := [.data, .data, .data, .sentinel, .sentinel, .data, .data], laidTests := true, laidLooks := .later }
def RefIsUptoCardSaid : Prop := Claim7.holds Tryz.pinned (.plain (OpenSpec.upto refIsSpec)) refIsUptoCard

/-- THE SECOND FORM's CARD OF 'cardgamelaw16.RefTexts'. -/
def refTextsUptoCard : Claim7 := { stood := { row := refTextsUptoRow, standIns := [], harness := (true, "a074b5a6062612d5f15e14008569c98f2d55bcb3c6d3293a6a7deadc4dde4341"), looks := true }, kinds := [], alts := [], laidByText := true, laidKinds := [.data, .data, .data, .sentinel, .sentinel, .data, .data], laidTests := true, laidLooks := .later }
def RefTextsUptoCardSaid : Prop := Claim7.holds Tryz.pinned (.plain (OpenSpec.upto refTextsSpec)) refTextsUptoCard

/-- THE SECOND FORM's CARD OF 'cardgamelaw16.RefParses'. -/
def refParsesUptoCard : Claim7 := { stood := { row := refParsesUptoRow, standIns := [], harness := (true, "a074b5a6062612d5f15e14008569c98f2d55bcb3c6d3293a6a7deadc4dde4341"), looks := true }, kinds := [], alts := [], laidByText := true, laidKinds := [.data, .data, .data, .sentinel, .sentinel, .data, .data], laidTests := true, laidLooks := .later }
def RefParsesUptoCardSaid : Prop := Claim7.holds Tryz.pinned (.plain (OpenSpec.upto refParsesSpec)) refParsesUptoCard

/-- THE SECOND FORM's CARD OF 'cardgamelaw16.RefBack'. -/
def refBackUptoCard : Claim7 := { stood := { row := refBackUptoRow, standIns := [], harness := (true, "a074b5a6062612d5f15e14008569c98f2d55bcb3c6d3293a6a7deadc4dde4341"), looks := true }, kinds := [], alts := [], laidByText := true, laidKinds := [.data, .data, .data, .sentinel, .sentinel, .data, .data], laidTests := true, laidLooks := .later }
def RefBackUptoCardSaid : Prop := Claim7.holds Tryz.pinned (.plain (OpenSpec.upto refBackSpec)) refBackUptoCard

/-- THE SECOND FORM's CARD OF 'cardgamelaw16.RefSpecs'. -/
def refSpecsUptoCard : Claim7 := { stood := { row := refSpecsUptoRow, standIns := [], harness := (true, "a074b5a6062612d5f15e14008569c98f2d55bcb3c6d3293a6a7deadc4dde4341"), looks := true }, kinds := [], alts := [], laidByText := true, laidKinds := [.data, .data, .data, .sentinel, .sentinel, .data, .data], laidTests := true, laidLooks := .later }
def RefSpecsUptoCardSaid : Prop := Claim7.holds Tryz.pinned (.plain (OpenSpec.upto refSpecsSpec)) refSpecsUptoCard

/-- THE SECOND FORM's CARD OF 'cardgamelaw15.ModParse'. -/
def modParseUptoCard : Claim7 := { stood := { row := modParseUptoRow, standIns := [], harness := (true, "a074b5a6062612d5f15e14008569c98f2d55bcb3c6d3293a6a7deadc4dde4341"), looks := true }, kinds := [], alts := [], laidByText := true, laidKinds := [.data, .data, .data, .sentinel, .sentinel, .data, .data], laidTests := true, laidLooks := .later }
def ModParseUptoCardSaid : Prop := Claim7.holds Tryz.pinned (.plain (OpenSpec.upto modParseSpec)) modParseUptoCard

/-- THE SECOND FORM's CARD OF 'cardgamelaw15.ModLists'. -/
def modListsUptoCard : Claim7 := { stood := { row := modListsUptoRow, standIns := [], harness := (true, "a074b5a6062612d5f15e14008569c98f2d55bcb3c6d3293a6a7deadc4dde4341"), looks := true }, kinds := [], alts := [], laidByText := true, laidKinds := [.data, .data, .data, .sentinel, .sentinel, .data, .data], laidTests := true, laidLooks := .later }
def ModListsUptoCardSaid : Prop := Claim7.holds Tryz.pinned (.plain (OpenSpec.upto modListsSpec)) modListsUptoCard

/-- THE SECOND FORM's CARD OF 'cardgamelaw15.ModApply'. -/
def modApplyUptoCard : Claim7 := { stood := { row := modApplyUptoRow, standIns := [], harness := (true, "a074b5a6062612d5f15e14008569c98f2d55bcb3c6d3293a6a7deadc4dde4341"), looks := true }, kinds := [], alts := [], laidByText := true, laidKinds := [.data, .data, .data, .sentinel, .sentinel, .data, .data], laidTests := true, laidLooks := .later }
def ModApplyUptoCardSaid : Prop := Claim7.holds Tryz.pinned (.plain (OpenSpec.upto modApplySpec)) modApplyUptoCard

/-- THE SECOND FORM's CARD OF 'cardgamelaw15.ModSwitches'. -/
def modSwitchesUptoCard : Claim7 := { stood := { row := modSwitchesUptoRow, standIns := [], harness := (true, "a074b5a6062612d5f15e14008569c98f2d55bcb3c6d3293a6a7deadc4dde4341"), looks := true }, kinds := [], alts := [], laidByText := true, laidKinds := [.data, .data, .data, .sentinel, .sentinel, .data, .data], laidTests := true, laidLooks := .later }
def ModSwitchesUptoCardSaid : Prop := Claim7.holds Tryz.pinned (.plain (OpenSpec.upto modSwitchesSpec)) modSwitchesUptoCard

/-- THE SECOND FORM's CARD OF 'cardgamelaw15.ModOwn'. -/
def modOwnUptoCard : Claim7 := { stood := { row := modOwnUptoRow, standIns := [], harness := (true, "a074b5a6062612d5f15e14008569c98f2d55bcb3c6d3293a6a7deadc4dde4341"), looks := true }, kinds := [], alts := [], laidByText := true, laidKinds := [.data, .data, .data, .sentinel, .sentinel, .data, .data], laidTests := true, laidLooks := .later }
def ModOwnUptoCardSaid : Prop := Claim7.holds Tryz.pinned (.plain (OpenSpec.upto modOwnSpec)) modOwnUptoCard
end Rows
end Go.Proofs.YtbcgkeclmioeiaaGreatDoor
