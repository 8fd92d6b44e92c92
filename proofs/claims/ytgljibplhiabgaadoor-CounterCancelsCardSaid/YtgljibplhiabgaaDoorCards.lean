/-
  DERIVED. GIVEN WITH THE SEED: THE CARDS: each row of YtgljibplhiabgaaDoorRows.lean that lists a variable, with what it lists TIED to the program's text (the seventh form; the later family's looks); each row that meets fmt, with fmt's text TOLD by the authors' own Lean function (tested against real Go, not proved from fmt's source: count such statements apart). THE CARD IS WHAT COUNTS. Prove the row's statement (the work); the ties are given (YtgljibplhiabgaaDoorTie.lean); close each card by the builder's one call (the guide's Derived/Test/ToyasCard.lean, 'card_holds'). Laid BY PROGRAM, IN A SANDBOX (cutbox-door.mjs). By AI agents, Wed Nov 11 2026. No macro, syntax, notation, axiom, sorry.
-/
import Derived.Test.YtgljibplhiabgaaDoorRows
import GoSem.ClaimSeven
namespace Go.Proofs.YtgljibplhiabgaaDoor
namespace Rows

/-- THE TIED CARD OF 'cardgamelaw12.CounterNames'. -/
def counterNamesCard : Claim7 := { stood := { row := counterNamesRow, standIns := [], harness := (true, "d2c19c4dd134508932ca071de1029c13fcbfb5b57c6d56545a5e70adca883160"), looks := false }, kinds := [], alts := [], laidByText := true, laidKinds := [.data], laidTests := true, laidLooks := .later }
def CounterNamesCardSaid : Prop := Claim7.holds Tryd.pinned (.plain (OpenSpec.ofChange counterNamesSpec)) counterNamesCard

/-- THE TIED CARD OF 'cardgamelaw12.CounterAdd'. -/
def counterAddCard : Claim7 := { stood := { row := counterAddRow, standIns := [], harness := (true, "d2c19c4dd134508932ca071de1029c13fcbfb5b57c6d56545a5e70adca883160"), looks := false }, kinds := [], alts := [], laidByText := true, laidKinds := [.data], laidTests := true, laidLooks := .later }
def CounterAddCardSaid : Prop := Claim7.holds Tryd.pinned (.plain (OpenSpec.ofChange counterAddSpec)) counterAddCard

/-- THE TIED CARD OF 'cardgamelaw12.CounterSum'. -/
def counterSumCard : Claim7 := { stood := { row := counterSumRow, standIns := [], harness := (true, "d2c19c4dd134508932ca071de1029c13fcbfb5b57c6d56545a5e70adca883160"), looks := false }, kinds := [], alts := [], laidByText := true, laidKinds := [.data], laidTests := true, laidLooks := .later }
def CounterSumCardSaid : Prop := Claim7.holds Tryd.pinned (.plain (OpenSpec.ofChange counterSumSpec)) counterSumCard

/-- THE TIED CARD OF 'cardgamelaw12.CounterCancel'. -/
def counterCancelCard : Claim7 := { stood := { row := counterCancelRow, standIns := [], harness := (true, "d2c19c4dd134508932ca071de1029c13fcbfb5b57c6d56545a5e70adca883160"), looks := false }, kinds := [], alts := [], laidByText := true, laidKinds := [.data], laidTests := true, laidLooks := .later }
def CounterCancelCardSaid : Prop := Claim7.holds Tryd.pinned (.plain (OpenSpec.ofChange counterCancelSpec)) counterCancelCard

/-- THE TIED CARD OF 'cardgamelaw12.CounterCancels'. -/
def counterCancelsCard : Claim7 := { stood := { row := counterCancelsRow, standIns := [], harness := (true, "d2c19c4dd134508932ca071de1029c13fcbfb5b57c6d56545a5e70adca883160"), looks := false }, kinds := [], alts := [], laidByText := true, laidKinds := [.data], laidTests := true, laidLooks := .later }
def CounterCancelsCardSaid : Prop := Claim7.holds Tryd.pinned (.plain (OpenSpec.ofChange counterCancelsSpec)) counterCancelsCard

/-- THE TIED CARD OF 'cardgamelaw12.CounterKinds'. -/
def counterKindsCard : Claim7 := { stood := { row := counterKindsRow, standIns := [], harness := (true, "d2c19c4dd134508932ca071de1029c13fcbfb5b57c6d56545a5e70adca883160"), looks := false }, kinds := [], alts := [], laidByText := true, laidKinds := [.data], laidTests := true, laidLooks := .later }
def CounterKindsCardSaid : Prop := Claim7.holds Tryd.pinned (.plain (OpenSpec.ofChange counterKindsSpec)) counterKindsCard

/-- THE SECOND FORM's CARD OF 'cardgamelaw12.CounterNames'. -/
def counterNamesUptoCard : Claim7 := { stood := { row := counterNamesUptoRow, standIns := [], harness := (true, "d2c19c4dd134508932ca071de1029c13fcbfb5b57c6d56545a5e70adca883160"), looks := false }, kinds := [], alts := [], laidByText := true, laidKinds := [.data], laidTests := true, laidLooks := .later }
def CounterNamesUptoCardSaid : Prop := Claim7.holds Tryd.pinned (.plain (OpenSpec.upto counterNamesSpec)) counterNamesUptoCard

/-- THE SECOND FORM's CARD OF 'cardgamelaw12.CounterAdd'. -/
def counterAddUptoCard : Claim7 := { stood := { row := counterAddUptoRow, standIns := [], harness := (true, "d2c19c4dd134508932ca071de1029c13fcbfb5b57c6d56545a5e70adca883160"), looks := false }, kinds := [], alts := [], laidByText := true, laidKinds := [.data], laidTests := true, laidLooks := .later }
def CounterAddUptoCardSaid : Prop := Claim7.holds Tryd.pinned (.plain (OpenSpec.upto counterAddSpec)) counterAddUptoCard

/-- THE SECOND FORM's CARD OF 'cardgamelaw12.CounterSum'. -/
def counterSumUptoCard : Claim7 := { stood := { row := counterSumUptoRow, standIns := [], harness := (true, "d2c19c4dd134508932ca071de1029c13fcbfb5b57c6d56545a5e70adca883160"), looks := false }, kinds := [], alts := [], laidByText := true, laidKinds := [.data], laidTests := true, laidLooks := .later }
def CounterSumUptoCardSaid : Prop := Claim7.holds Tryd.pinned (.plain (OpenSpec.upto counterSumSpec)) counterSumUptoCard

/-- THE SECOND FORM's CARD OF 'cardgamelaw12.CounterCancel'. -/
def counterCancelUptoCard : Claim7 := { stood := { row := counterCancelUptoRow, standIns := [], harness := (true, "d2c19c4dd134508932ca071de1029c13fcbfb5b57c6d56545a5e70adca883160"), looks := false }, kinds := [], alts := [], laidByText := true, laidKinds := [.data], laidTests := true, laidLooks := .later }
def CounterCancelUptoCardSaid : Prop := Claim7.holds Tryd.pinned (.plain (OpenSpec.upto counterCancelSpec)) counterCancelUptoCard

/-- THE SECOND FORM's CARD OF 'cardgamelaw12.CounterCancels'. -/
def counterCancelsUptoCard : Claim7 := { stood := { row := counterCancelsUptoRow, standIns := [], harness := (true, "d2c19c4dd134508932ca071de1029c13fcbfb5b57c6d56545a5e70adca883160"), looks := false }, kinds := [], alts := [], laidByText := true, laidKinds := [.data], laidTests := true, laidLooks := .later }
def CounterCancelsUptoCardSaid : Prop := Claim7.holds Tryd.pinned (.plain (OpenSpec.upto counterCancelsSpec)) counterCancelsUptoCard

/-- THE SECOND FORM's CARD OF 'cardgamelaw12.CounterKinds'. -/
def counterKindsUptoCard : Claim7 := { stood := { row := counterKindsUptoRow, standIns := [], harness := (true, "d2c19c4dd134508932ca071de1029c13fcbfb5b57c6d56545a5e70adca883160"), looks := false }, kinds := [], alts := [], laidByText := true, laidKinds := [.data], laidTests := true, laidLooks := .later }
def CounterKindsUptoCardSaid : Prop := Claim7.holds Tryd.pinned (.plain (OpenSpec.upto counterKindsSpec)) counterKindsUptoCard
end Rows
end Go.Proofs.YtgljibplhiabgaaDoor
