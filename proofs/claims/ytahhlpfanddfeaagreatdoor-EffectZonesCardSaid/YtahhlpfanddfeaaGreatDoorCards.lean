/-
  DERIVED. GIVEN WITH THE SEED: THE CARDS: each row of YtahhlpfanddfeaaGreatDoorRows.lean that lists a variable, with what it lists TIED to the program's text (the seventh form; the later family's looks); each row that meets fmt, with fmt's text TOLD by the authors' own Lean function (tested against real Go, not proved from fmt's source: count such statements apart). THE CARD IS WHAT COUNTS. Prove the row's statement (the work); the ties are given (YtahhlpfanddfeaaGreatDoorTie.lean); close each card by the builder's one call (the guide's Derived/Test/ToyasCard.lean, 'card_holds'). Laid BY PROGRAM, IN A SANDBOX (cutbox-door.mjs). By AI agents, Wed Nov 11 2026. No macro, syntax, notation, axiom, sorry.
-/
import Derived.Test.YtahhlpfanddfeaaGreatDoorRows
import GoSem.ClaimSeven
namespace Go.Proofs.YtahhlpfanddfeaaGreatDoor
namespace Rows

/-- THE TIED CARD OF 'cardgamelaw17.EffectIs'. -/
def effectIsCard : Claim7 := { stood := { row := effectIsRow, standIns := [], harness := (true, "93e8d6088cf375824f9219744b4869019e42ee327e5e03c95d79a3d1cffb5627"), looks := true }, kinds := [], alts := [], laidByText := true, laidKinds := [.data, .data, .data, .data, .sentinel, .sentinel, .data, .data, .data, .pinned], laidTests := true, laidLooks := .later }
def EffectIsCardSaid : Prop := Claim7.holds Tryz.pinned (.plain (OpenSpec.ofChange effectIsSpec)) effectIsCard

/-- THE TIED CARD OF 'cardgamelaw17.EffectZones'. -/
def effectZonesCard : Claim7 := { stood := { row := effectZonesRow, standIns := [], harness := (true, "93e8d6088cf375824f9219744b4869019e42ee327e5e03c95d79a3d1cffb5627"), looks := true }, kinds := [], alts := [], laidByText := true, laidKinds := [.data, .data, .data, .data, .sentinel, .sentinel, .data, .data, .data, .pinned], laidTests := true, laidLooks := .later }
def EffectZonesCardSaid : Prop := Claim7.holds Tryz.pinned (.plain (OpenSpec.ofChange effectZonesSpec)) effectZonesCard

/-- THE TIED CARD OF 'cardgamelaw17.EffectParses'. -/
def effectParsesCard : Claim7 := { stood := { row := effectParsesRow, standIns := [], harness := (true, "93e8d6088cf375824f9219744b4869019e42ee327e5e03c95d79a3d1cffb5627"), looks := true }, kinds := [], alts := [], laidByText := true, laidKinds := [.data, .data, .data, .data, .sentinel, .sentinel, .data, .data, .data, .pinned], laidTests := true, laidLooks := .later }
def EffectParsesCardSaid : Prop := Claim7.holds Tryz.pinned (.plain (OpenSpec.ofChange effectParsesSpec)) effectParsesCard

/-- THE TIED CARD OF 'cardgamelaw17.EffectLists'. -/
def effectListsCard : Claim7 := { stood := { row := effectListsRow, standIns := [], harness := (true, "93e8d6088cf375824f9219744b4869019e42ee327e5e03c95d79a3d1cffb5627"), looks := true }, kinds := [], alts := [], laidByText := true, laidKinds := [.data, .data, .data, .data, .sentinel, .sentinel, .data, .data, .data, .pinned], laidTests := true, laidLooks := .later }
def EffectListsCardSaid : Prop := Claim7.holds Tryz.pinned (.plain (OpenSpec.ofChange effectListsSpec)) effectListsCard

/-- THE TIED CARD OF 'cardgamelaw17.EffectBack'. -/
def effectBackCard : Claim7 := { stood := { row := effectBackRow, standIns := [], harness := (true, "93e8d6088cf375824f9219744b4869019e42ee327e5e03c95d79a3d1cffb5627"), looks := true }, kinds := [], alts := [], laidByText := true, laidKinds := [.data, .data, .data, .data, .sentinel, .sentinel, .data, .data, .data, .pinned], laidTests := true, laidLooks := .later }
def EffectBackCardSaid : Prop := Claim7.holds Tryz.pinned (.plain (OpenSpec.ofChange effectBackSpec)) effectBackCard

/-- THE TIED CARD OF 'cardgamelaw17.EffectTargets'. -/
def effectTargetsCard : Claim7 := { stood := { row := effectTargetsRow, standIns := [], harness := (true, "93e8d6088cf375824f9219744b4869019e42ee327e5e03c95d79a3d1cffb5627"), looks := true }, kinds := [], alts := [], laidByText := true, laidKinds := [.data, .data, .data, .data, .sentinel, .sentinel, .data, .data, .data, .pinned], laidTests := true, laidLooks := .later }
def EffectTargetsCardSaid : Prop := Claim7.holds Tryz.pinned (.plain (OpenSpec.ofChange effectTargetsSpec)) effectTargetsCard

/-- THE SECOND FORM's CARD OF 'cardgamelaw17.EffectIs'. -/
def effectIsUptoCard : Claim7 := { stood := { row := effectIsUptoRow, standIns := [], harness := (true, "93e8d6088cf375824f9219744b4869019e42ee327e5e03c95d79a3d1cffb5627"), looks := true }, kinds := [], alts := [], laidByText := true, laidKinds := [.data, .data, .data, .data, .sentinel, .sentinel, .data, .data, .data, .pinned], laidTests := true, laidLooks := .later }
def EffectIsUptoCardSaid : Prop := Claim7.holds Tryz.pinned (.plain (OpenSpec.upto effectIsSpec)) effectIsUptoCard

/-- THE SECOND FORM's CARD OF 'cardgamelaw17.EffectZones'. -/
def effectZonesUptoCard : Claim7 := { stood := { row := effectZonesUptoRow, standIns := [], harness := (true, "93e8d6088cf375824f9219744b4869019e42ee327e5e03c95d79a3d1cffb5627"), looks := true }, kinds := [], alts := [], laidByText := true, laidKinds := [.data, .data, .data, .data, .sentinel, .sentinel, .data, .data, .data, .pinned], laidTests := true, laidLooks := .later }
def EffectZonesUptoCardSaid : Prop := Claim7.holds Tryz.pinned (.plain (OpenSpec.upto effectZonesSpec)) effectZonesUptoCard

/-- THE SECOND FORM's CARD OF 'cardgamelaw17.EffectParses'. -/
def effectParsesUptoCard : Claim7 := { stood := { row := effectParsesUptoRow, standIns := [], harness := (true, "93e8d6088cf375824f9219744b4869019e42ee327e5e03c95d79a3d1cffb5627"), looks := true }, kinds := [], alts := [], laidByText := true, laidKinds := [.data, .data, .data, .data, .sentinel, .sentinel, .data, .data, .data, .pinned], laidTests := true, laidLooks := .later }
def EffectParsesUptoCardSaid : Prop := Claim7.holds Tryz.pinned (.plain (OpenSpec.upto effectParsesSpec)) effectParsesUptoCard

/-- THE SECOND FORM's CARD OF 'cardgamelaw17.EffectLists'. -/
def effectListsUptoCard : Claim7 := { stood := { row := effectListsUptoRow, standIns := [], harness := (true, "93e8d6088cf375824f9219744b4869019e42ee327e5e03c95d79a3d1cffb5627"), looks := true }, kinds := [], alts := [], laidByText := true, laidKinds := [.data, .data, .data, .data, .sentinel, .sentinel, .data, .data, .data, .pinned], laidTests := true, laidLooks := .later }
def EffectListsUptoCardSaid : Prop := Claim7.holds Tryz.pinned (.plain (OpenSpec.upto effectListsSpec)) effectListsUptoCard

/-- THE SECOND FORM's CARD OF 'cardgamelaw17.EffectBack'. -/
def effectBackUptoCard : Claim7 := { stood := { row := effectBackUptoRow, standIns := [], harness := (true, "93e8d6088cf375824f9219744b4869019e42ee327e5e03c95d79a3d1cffb5627"), looks := true }, kinds := [], alts := [], laidByText := true, laidKinds := [.data, .data, .data, .data, .sentinel, .sentinel, .data, .data, .data, .pinned], laidTests := true, laidLooks := .later }
def EffectBackUptoCardSaid : Prop := Claim7.holds Tryz.pinned (.plain (OpenSpec.upto effectBackSpec)) effectBackUptoCard

/-- THE SECOND FORM's CARD OF 'cardgamelaw17.EffectTargets'. -/
def effectTargetsUptoCard : Claim7 := { stood := { row := effectTargetsUptoRow, standIns := [], harness := (true, "93e8d6088cf375824f9219744b4869019e42ee327e5e03c95d79a3d1cffb5627"), looks := true }, kinds := [], alts := [], laidByText := true, laidKinds := [.data, .data, .data, .data, .sentinel, .sentinel, .data, .data, .data, .pinned], laidTests := true, laidLooks := .later }
def EffectTargetsUptoCardSaid : Prop := Claim7.holds Tryz.pinned (.plain (OpenSpec.upto effectTargetsSpec)) effectTargetsUptoCard
end Rows
end Go.Proofs.YtahhlpfanddfeaaGreatDoor
