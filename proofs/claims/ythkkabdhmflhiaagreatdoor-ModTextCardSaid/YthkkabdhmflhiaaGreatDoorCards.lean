/-
  DERIVED. GIVEN WITH THE SEED: THE CARDS: each row of YthkkabdhmflhiaaGreatDoorRows.lean that lists a variable, with what it lists TIED to the program's text (the seventh form; the later family's looks); each row that meets fmt, with fmt's text TOLD by the authors' own Lean function (tested against real Go, not proved from fmt's source: count such statements apart). THE CARD IS WHAT COUNTS. Prove the row's statement (the work); the ties are given (YthkkabdhmflhiaaGreatDoorTie.lean); close each card by the builder's one call (the guide's Derived/Test/ToyasCard.lean, 'card_holds'). Laid BY PROGRAM, IN A SANDBOX (cutbox-door.mjs). By AI agents, Wed Nov 11 2026. No macro, syntax, notation, axiom, sorry.
-/
import Derived.Test.YthkkabdhmflhiaaGreatDoorRows
import GoSem.ClaimSeven
namespace Go.Proofs.YthkkabdhmflhiaaGreatDoor
namespace Rows

/-- THE TIED CARD OF 'cardgamelaw15.ModText'. -/
def modTextCard : Claim7 := { stood := { row := modTextRow, standIns := [], harness := (true, "39c41204f2fd9fb1d6278320c187d729de6c0e0e43f490bdd6489a96204809ca"), looks := true }, kinds := [], alts := [], laidByText := true, laidKinds := [.data, .data, .data, .sentinel, .sentinel, .data, .data], laidTests := true, laidLooks := .later }
def ModTextCardSaid : Prop := Claim7.holds Tryz.pinned (.plain (OpenSpec.ofChange modTextSpec)) modTextCard

/-- THE TIED CARD OF 'cardgamelaw15.ModParse'. -/
def modParseCard : Claim7 := { stood := { row := modParseRow, standIns := [], harness := (true, "39c41204f2fd9fb1d6278320c187d729de6c0e0e43f490bdd6489a96204809ca"), looks := true }, kinds := [], alts := [], laidByText := true, laidKinds := [.data, .data, .data, .sentinel, .sentinel, .data, .data], laidTests := true, laidLooks := .later }
def ModParseCardSaid : Prop := Claim7.holds Tryz.pinned (.plain (OpenSpec.ofChange modParseSpec)) modParseCard

/-- THE TIED CARD OF 'cardgamelaw15.ModBack'. -/
def modBackCard : Claim7 := { stood := { row := modBackRow, standIns := [], harness := (true, "39c41204f2fd9fb1d6278320c187d729de6c0e0e43f490bdd6489a96204809ca"), looks := true }, kinds := [], alts := [], laidByText := true, laidKinds := [.data, .data, .data, .sentinel, .sentinel, .data, .data], laidTests := true, laidLooks := .later }
def ModBackCardSaid : Prop := Claim7.holds Tryz.pinned (.plain (OpenSpec.ofChange modBackSpec)) modBackCard

/-- THE TIED CARD OF 'cardgamelaw15.ModLists'. -/
def modListsCard : Claim7 := { stood := { row := modListsRow, standIns := [], harness := (true, "39c41204f2fd9fb1d6278320c187d729de6c0e0e43f490bdd6489a96204809ca"), looks := true }, kinds := [], alts := [], laidByText := true, laidKinds := [.data, .data, .data, .sentinel, .sentinel, .data, .data], laidTests := true, laidLooks := .later }
def ModListsCardSaid : Prop := Claim7.holds Tryz.pinned (.plain (OpenSpec.ofChange modListsSpec)) modListsCard

/-- THE TIED CARD OF 'cardgamelaw15.ModApply'. -/
def modApplyCard : Claim7 := { stood := { row := modApplyRow, standIns := [], harness := (true, "39c41204f2fd9fb1d6278320c187d729de6c0e0e43f490bdd6489a96204809ca"), looks := true }, kinds := [], alts := [], laidByText := true, laidKinds := [.data, .data, .data, .sentinel, .sentinel, .data, .data], laidTests := true, laidLooks := .later }
def ModApplyCardSaid : Prop := Claim7.holds Tryz.pinned (.plain (OpenSpec.ofChange modApplySpec)) modApplyCard

/-- THE TIED CARD OF 'cardgamelaw15.ModSwitches'. -/
def modSwitchesCard : Claim7 := { stood := { row := modSwitchesRow, standIns := [], harness := (true, "39c41204f2fd9fb1d6278320c187d729de6c0e0e43f490bdd6489a96204809ca"), looks := true }, kinds := [], alts := [], laidByText := true, laidKinds := [.data, .data, .data, .sentinel, .sentinel, .data, .data], laidTests := true, laidLooks := .later }
def ModSwitchesCardSaid : Prop := Claim7.holds Tryz.pinned (.plain (OpenSpec.ofChange modSwitchesSpec)) modSwitchesCard

/-- THE TIED CARD OF 'cardgamelaw15.ModOwn'. -/
def modOwnCard : Claim7 := { stood := { row := modOwnRow, standIns := [], harness := (true, "39c41204f2fd9fb1d6278320c187d729de6c0e0e43f490bdd6489a96204809ca"), looks := true }, kinds := [], alts := [], laidByText := true, laidKinds := [.data, .data, .data, .sentinel, .sentinel, .data, .data], laidTests := true, laidLooks := .later }
def ModOwnCardSaid : Prop := Claim7.holds Tryz.pinned (.plain (OpenSpec.ofChange modOwnSpec)) modOwnCard

/-- THE SECOND FORM's CARD OF 'cardgamelaw15.ModText'. -/
def modTextUptoCard : Claim7 := { stood := { row := modTextUptoRow, standIns := [], harness := (true, "39c41204f2fd9fb1d6278320c187d729de6c0e0e43f490bdd6489a96204809ca"), looks := true }, kinds := [], alts := [], laidByText := true, laidKinds := [.data, .data, .data, .sentinel, .sentinel, .data, .data], laidTests := true, laidLooks := .later }
def ModTextUptoCardSaid : Prop := Claim7.holds Tryz.pinned (.plain (OpenSpec.upto modTextSpec)) modTextUptoCard

/-- THE SECOND FORM's CARD OF 'cardgamelaw15.ModParse'. -/
def modParseUptoCard : Claim7 := { stood := { row := modParseUptoRow, standIns := [], harness := (true, "39c41204f2fd9fb1d6278320c187d729de6c0e0e43f490bdd6489a96204809ca"), looks := true }, kinds := [], alts := [], laidByText := true, laidKinds := [.data, .data, .data, .sentinel, .sentinel, .data, .data], laidTests := true, laidLooks := .later }
def ModParseUptoCardSaid : Prop := Claim7.holds Tryz.pinned (.plain (OpenSpec.upto modParseSpec)) modParseUptoCard

/-- THE SECOND FORM's CARD OF 'cardgamelaw15.ModBack'. -/
def modBackUptoCard : Claim7 := { stood := { row := modBackUptoRow, standIns := [], harness := (true, "39c41204f2fd9fb1d6278320c187d729de6c0e0e43f490bdd6489a96204809ca"), looks := true }, kinds := [], alts := [], laidByText := true, laidKinds := [.data, .data, .data, .sentinel, .sentinel, .data, .data], laidTests := true, laidLooks := .later }
def ModBackUptoCardSaid : Prop := Claim7.holds Tryz.pinned (.plain (OpenSpec.upto modBackSpec)) modBackUptoCard

/-- THE SECOND FORM's CARD OF 'cardgamelaw15.ModLists'. -/
def modListsUptoCard : Claim7 := { stood := { row := modListsUptoRow, standIns := [], harness := (true, "39c41204f2fd9fb1d6278320c187d729de6c0e0e43f490bdd6489a96204809ca"), looks := true }, kinds := [], alts := [], laidByText := true, laidKinds := [.data, .data, .data, .sentinel, .sentinel, .data, .data], laidTests := true, laidLooks := .later }
def ModListsUptoCardSaid : Prop := Claim7.holds Tryz.pinned (.plain (OpenSpec.upto modListsSpec)) modListsUptoCard

/-- THE SECOND FORM's CARD OF 'cardgamelaw15.ModApply'. -/
def modApplyUptoCard : Claim7 := { stood := { row := modApplyUptoRow, standIns := [], harness := (true, "39c41204f2fd9fb1d6278320c187d729de6c0e0e43f490bdd6489a96204809ca"), looks := true }, kinds := [], alts := [], laidByText := true, laidKinds := [.data, .data, .data, .sentinel, .sentinel, .data, .data], laidTests := true, laidLooks := .later }
def ModApplyUptoCardSaid : Prop := Claim7.holds Tryz.pinned (.plain (OpenSpec.upto modApplySpec)) modApplyUptoCard

/-- THE SECOND FORM's CARD OF 'cardgamelaw15.ModSwitches'. -/
def modSwitchesUptoCard : Claim7 := { stood := { row := modSwitchesUptoRow, standIns := [], harness := (true, "39c41204f2fd9fb1d6278320c187d729de6c0e0e43f490bdd6489a96204809ca"), looks := true }, kinds := [], alts := [], laidByText := true, laidKinds := [.data, .data, .data, .sentinel, .sentinel, .data, .data], laidTests := true, laidLooks := .later }
def ModSwitchesUptoCardSaid : Prop := Claim7.holds Tryz.pinned (.plain (OpenSpec.upto modSwitchesSpec)) modSwitchesUptoCard

/-- THE SECOND FORM's CARD OF 'cardgamelaw15.ModOwn'. -/
def modOwnUptoCard : Claim7 := { stood := { row := modOwnUptoRow, standIns := [], harness := (true, "39c41204f2fd9fb1d6278320c187d729de6c0e0e43f490bdd6489a96204809ca"), looks := true }, kinds := [], alts := [], laidByText := true, laidKinds := [.data, .data, .data, .sentinel, .sentinel, .data, .data], laidTests := true, laidLooks := .later }
def ModOwnUptoCardSaid : Prop := Claim7.holds Tryz.pinned (.plain (OpenSpec.upto modOwnSpec)) modOwnUptoCard
end Rows
end Go.Proofs.YthkkabdhmflhiaaGreatDoor
