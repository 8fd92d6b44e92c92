/-
  NARROWER THAN 'FOR EVERY INPUT', by the rows' own cells (each row's printed sentence says how): CounterNames: laid · CounterAdd: laid · CounterSum: laid · CounterCancel: laid · CounterCancels: laid · CounterKinds: laid.
  DERIVED. THE GIVEN ROWS OF THIS SEAT. 6 by the template 'for every input the law returns true; each argument reads behind the call as it read before'; 0 by the template 'total and deterministic' (their statements: YtgljibplhiabgaaDoorTotals.lean).
  GIVEN WITH THE SEED: the statements are not yours to turn. If you find one false, say at which input.
  Laid BY PROGRAM, IN A SANDBOX (cutbox-rows.mjs): the forced cells as the released guide's own fill.sh prints them over the translation e305b68a65be5634… (all of the seat's roots in one cut). By AI agents, Wed Nov 11 2026. No macro, syntax, notation, axiom, sorry.
-/
import Derived.Test.YtgljibplhiabgaaDoorChecked
import GoSem.Claim
import GoSem.ClaimJoined
import GoSem.ClaimMapViews
import Derived.JoinedTies
import Derived.KernelRfl
namespace Go.Proofs.YtgljibplhiabgaaDoor
/- THE CELL 'sum', in the pinned program and in every row, IS THE sha256 OF THE DUMP (.gsa) THAT YtgljibplhiabgaaDoorProg.lean LOADS. Nothing in Lean hashes anything: it is a label: what it is worth is what the hold of that sum in a sandbox is worth. -/
noncomputable def Tryd.pinned : Pinned := { name := "ytgljibplhiabgaadoor", sum := "e305b68a65be5634882096553f18aaafb2fb0a99096201095a4a7dfe7be9d341", checked := Tryd.checked }
namespace Rows
def none {H : Type} : Left H := { results := [], args := [] }

/- WHAT THE LISTED PACKAGE-LEVEL VARIABLES READ AS WHEN THE CALL BEGINS. Each datum BY PROGRAM (the guide's laid-datum.mjs) off the statement by which the dump's own 'gosem.cut.vars' lays the variable. In a bare row this is a premise. The card (YtgljibplhiabgaaDoorCards.lean) ties it to the program's text. -/
def laid_cardgame_counter_names {H : Type} : DataW H := .agg [.lit (.string [112, 108, 117, 115]), .lit (.string [109, 105, 110, 117, 115]), .lit (.string [99, 104, 97, 114, 103, 101])]

/-- 'cardgamelaw12.CounterNames': WHATEVER THE INPUT: true; the input reads as it did. -/
def counterNamesSpec : ChangeSpec := { name := "counterNames", fn := fun _ => fun
  | [d1, d2, d3] => { results := [.lit (.bool true)], args := [d1, d2, d3] }
  | _ => none }
def counterNamesRow : OpenClaim := { program := "ytgljibplhiabgaadoor", sum := "e305b68a65be5634882096553f18aaafb2fb0a99096201095a4a7dfe7be9d341", func := "cardgame/cardgamelaw12.CounterNames", spec := "counterNames", named := ["cardgame/counter.names"], apart := false, laid := [("cardgame/counter.names", laid_cardgame_counter_names)] }
def CounterNamesSaid : Prop := counterNamesRow.holds Tryd.pinned (OpenSpec.ofChange counterNamesSpec)

/-- ITS FALSE NEIGHBOUR: 'it returns false'. Refute it at one input. -/
def counterNamesWrong : ChangeSpec := { name := "counterNames", fn := fun _ => fun
  | [d1, d2, d3] => { results := [.lit (.bool false)], args := [d1, d2, d3] }
  | _ => none }
def CounterNamesWrongFalsely : Prop := counterNamesRow.holds Tryd.pinned (OpenSpec.ofChange counterNamesWrong)

/-- 'cardgamelaw12.CounterAdd': WHATEVER THE INPUT: true; the input reads as it did. -/
def counterAddSpec : ChangeSpec := { name := "counterAdd", fn := fun _ => fun
  | [d1, d2, d3] => { results := [.lit (.bool true)], args := [d1, d2, d3] }
  | _ => none }
def counterAddRow : OpenClaim := { program := "ytgljibplhiabgaadoor", sum := "e305b68a65be5634882096553f18aaafb2fb0a99096201095a4a7dfe7be9d341", func := "cardgame/cardgamelaw12.CounterAdd", spec := "counterAdd", named := ["cardgame/counter.names"], apart := false, laid := [("cardgame/counter.names", laid_cardgame_counter_names)] }
def CounterAddSaid : Prop := counterAddRow.holds Tryd.pinned (OpenSpec.ofChange counterAddSpec)

/-- ITS FALSE NEIGHBOUR: 'it returns false'. Refute it at one input. -/
def counterAddWrong : ChangeSpec := { name := "counterAdd", fn := fun _ => fun
  | [d1, d2, d3] => { results := [.lit (.bool false)], args := [d1, d2, d3] }
  | _ => none }
def CounterAddWrongFalsely : Prop := counterAddRow.holds Tryd.pinned (OpenSpec.ofChange counterAddWrong)

/-- 'cardgamelaw12.CounterSum': WHATEVER THE INPUT: true; the input reads as it did. -/
def counterSumSpec : ChangeSpec := { name := "counterSum", fn := fun _ => fun
  | [d1, d2] => { results := [.lit (.bool true)], args := [d1, d2] }
  | _ => none }
def counterSumRow : OpenClaim := { program := "ytgljibplhiabgaadoor", sum := "e305b68a65be5634882096553f18aaafb2fb0a99096201095a4a7dfe7be9d341", func := "cardgame/cardgamelaw12.CounterSum", spec := "counterSum", named := ["cardgame/counter.names"], apart := false, laid := [("cardgame/counter.names", laid_cardgame_counter_names)] }
def CounterSumSaid : Prop := counterSumRow.holds Tryd.pinned (OpenSpec.ofChange counterSumSpec)

/-- ITS FALSE NEIGHBOUR: 'it returns false'. Refute it at one input. -/
def counterSumWrong : ChangeSpec := { name := "counterSum", fn := fun _ => fun
  | [d1, d2] => { results := [.lit (.bool false)], args := [d1, d2] }
  | _ => none }
def CounterSumWrongFalsely : Prop := counterSumRow.holds Tryd.pinned (OpenSpec.ofChange counterSumWrong)

/-- 'cardgamelaw12.CounterCancel': WHATEVER THE INPUT: true; the input reads as it did. -/
def counterCancelSpec : ChangeSpec := { name := "counterCancel", fn := fun _ => fun
  | [d] => { results := [.lit (.bool true)], args := [d] }
  | _ => none }
def counterCancelRow : OpenClaim := { program := "ytgljibplhiabgaadoor", sum := "e305b68a65be5634882096553f18aaafb2fb0a99096201095a4a7dfe7be9d341", func := "cardgame/cardgamelaw12.CounterCancel", spec := "counterCancel", named := ["cardgame/counter.names"], apart := false, laid := [("cardgame/counter.names", laid_cardgame_counter_names)] }
def CounterCancelSaid : Prop := counterCancelRow.holds Tryd.pinned (OpenSpec.ofChange counterCancelSpec)

/-- ITS FALSE NEIGHBOUR: 'it returns false'. Refute it at one input. -/
def counterCancelWrong : ChangeSpec := { name := "counterCancel", fn := fun _ => fun
  | [d] => { results := [.lit (.bool false)], args := [d] }
  | _ => none }
def CounterCancelWrongFalsely : Prop := counterCancelRow.holds Tryd.pinned (OpenSpec.ofChange counterCancelWrong)

/-- 'cardgamelaw12.CounterCancels': WHATEVER THE INPUT: true; the input reads as it did. -/
def counterCancelsSpec : ChangeSpec := { name := "counterCancels", fn := fun _ => fun
  | [d] => { results := [.lit (.bool true)], args := [d] }
  | _ => none }
def counterCancelsRow : OpenClaim := { program := "ytgljibplhiabgaadoor", sum := "e305b68a65be5634882096553f18aaafb2fb0a99096201095a4a7dfe7be9d341", func := "cardgame/cardgamelaw12.CounterCancels", spec := "counterCancels", named := ["cardgame/counter.names"], apart := false, laid := [("cardgame/counter.names", laid_cardgame_counter_names)] }
def CounterCancelsSaid : Prop := counterCancelsRow.holds Tryd.pinned (OpenSpec.ofChange counterCancelsSpec)

/-- ITS FALSE NEIGHBOUR: 'it returns false'. Refute it at one input. -/
def counterCancelsWrong : ChangeSpec := { name := "counterCancels", fn := fun _ => fun
  | [d] => { results := [.lit (.bool false)], args := [d] }
  | _ => none }
def CounterCancelsWrongFalsely : Prop := counterCancelsRow.holds Tryd.pinned (OpenSpec.ofChange counterCancelsWrong)

/-- 'cardgamelaw12.CounterKinds': WHATEVER THE INPUT: true; the input reads as it did. -/
def counterKindsSpec : ChangeSpec := { name := "counterKinds", fn := fun _ => fun
  | [d] => { results := [.lit (.bool true)], args := [d] }
  | _ => none }
def counterKindsRow : OpenClaim := { program := "ytgljibplhiabgaadoor", sum := "e305b68a65be5634882096553f18aaafb2fb0a99096201095a4a7dfe7be9d341", func := "cardgame/cardgamelaw12.CounterKinds", spec := "counterKinds", named := ["cardgame/counter.names"], apart := false, laid := [("cardgame/counter.names", laid_cardgame_counter_names)] }
def CounterKindsSaid : Prop := counterKindsRow.holds Tryd.pinned (OpenSpec.ofChange counterKindsSpec)

/-- ITS FALSE NEIGHBOUR: 'it returns false'. Refute it at one input. -/
def counterKindsWrong : ChangeSpec := { name := "counterKinds", fn := fun _ => fun
  | [d] => { results := [.lit (.bool false)], args := [d] }
  | _ => none }
def CounterKindsWrongFalsely : Prop := counterKindsRow.holds Tryd.pinned (OpenSpec.ofChange counterKindsWrong)

/- THE SECOND FORM. 'bulk': how many values and letters a reading holds, each counted each time it is reached (what is shared counts as often as it is met; a slice's spare places count too). A statement '..UptoSaid' is the law's where the arguments, and the package variables that the reading takes, are together of bulk at most 1048576: NARROWER than '..Said'. Prove '..Said' where nothing that the law and all that it calls make is longer than what came in: it says more and counts as full. Else prove '..UptoSaid'. A law counts once. -/
mutual
def uptoBulk {H : Type} : DataW H → Nat
  | .lit (.string bytes) => bytes.length + 1
  | .lit _ => 1
  | .nil => 1
  | .ptr d => uptoBulk d + 1
  | .slice elems spare => uptoBulkAll elems + uptoBulkAll spare + 1
  | .agg parts => uptoBulkAll parts + 1
  | .iface _ d => uptoBulk d + 1
  | .map entries => uptoBulkEntries entries + 1
  | .held _ => 1
def uptoBulkAll {H : Type} : List (DataW H) → Nat
  | [] => 0
  | d :: r => uptoBulk d + uptoBulkAll r
def uptoBulkEntries {H : Type} : List (Lit × DataW H) → Nat
  | [] => 0
  | x :: r => uptoBulkEntry x + uptoBulkEntries r
def uptoBulkEntry {H : Type} : Lit × DataW H → Nat
  | (.string bytes, d) => bytes.length + uptoBulk d + 1
  | (_, d) => uptoBulk d + 1
 end
def uptoSmall : (H : Type) → List (DataW H) → Bool := fun _ ds => decide (uptoBulkAll ds ≤ 1048576)
def OpenSpec.upto (s : _root_.Go.ChangeSpec) : _root_.Go.OpenSpec := { _root_.Go.OpenSpec.ofChange s with cond := some uptoSmall }

/-- 'cardgamelaw12.CounterNames', WHERE WHAT IT READS IS OF BULK AT MOST 1048576: true; the input reads as it did. -/
def counterNamesUptoRow : OpenClaim := { program := "ytgljibplhiabgaadoor", sum := "e305b68a65be5634882096553f18aaafb2fb0a99096201095a4a7dfe7be9d341", func := "cardgame/cardgamelaw12.CounterNames", spec := "counterNames", named := ["cardgame/counter.names"], apart := false, laid := [("cardgame/counter.names", laid_cardgame_counter_names)], narrowed := true }
def CounterNamesUptoSaid : Prop := counterNamesUptoRow.holds Tryd.pinned (OpenSpec.upto counterNamesSpec)

/-- 'cardgamelaw12.CounterAdd', WHERE WHAT IT READS IS OF BULK AT MOST 1048576: true; the input reads as it did. -/
def counterAddUptoRow : OpenClaim := { program := "ytgljibplhiabgaadoor", sum := "e305b68a65be5634882096553f18aaafb2fb0a99096201095a4a7dfe7be9d341", func := "cardgame/cardgamelaw12.CounterAdd", spec := "counterAdd", named := ["cardgame/counter.names"], apart := false, laid := [("cardgame/counter.names", laid_cardgame_counter_names)], narrowed := true }
def CounterAddUptoSaid : Prop := counterAddUptoRow.holds Tryd.pinned (OpenSpec.upto counterAddSpec)

/-- 'cardgamelaw12.CounterSum', WHERE WHAT IT READS IS OF BULK AT MOST 1048576: true; the input reads as it did. -/
def counterSumUptoRow : OpenClaim := { program := "ytgljibplhiabgaadoor", sum := "e305b68a65be5634882096553f18aaafb2fb0a99096201095a4a7dfe7be9d341", func := "cardgame/cardgamelaw12.CounterSum", spec := "counterSum", named := ["cardgame/counter.names"], apart := false, laid := [("cardgame/counter.names", laid_cardgame_counter_names)], narrowed := true }
def CounterSumUptoSaid : Prop := counterSumUptoRow.holds Tryd.pinned (OpenSpec.upto counterSumSpec)

/-- 'cardgamelaw12.CounterCancel', WHERE WHAT IT READS IS OF BULK AT MOST 1048576: true; the input reads as it did. -/
def counterCancelUptoRow : OpenClaim := { program := "ytgljibplhiabgaadoor", sum := "e305b68a65be5634882096553f18aaafb2fb0a99096201095a4a7dfe7be9d341", func := "cardgame/cardgamelaw12.CounterCancel", spec := "counterCancel", named := ["cardgame/counter.names"], apart := false, laid := [("cardgame/counter.names", laid_cardgame_counter_names)], narrowed := true }
def CounterCancelUptoSaid : Prop := counterCancelUptoRow.holds Tryd.pinned (OpenSpec.upto counterCancelSpec)

/-- 'cardgamelaw12.CounterCancels', WHERE WHAT IT READS IS OF BULK AT MOST 1048576: true; the input reads as it did. -/
def counterCancelsUptoRow : OpenClaim := { program := "ytgljibplhiabgaadoor", sum := "e305b68a65be5634882096553f18aaafb2fb0a99096201095a4a7dfe7be9d341", func := "cardgame/cardgamelaw12.CounterCancels", spec := "counterCancels", named := ["cardgame/counter.names"], apart := false, laid := [("cardgame/counter.names", laid_cardgame_counter_names)], narrowed := true }
def CounterCancelsUptoSaid : Prop := counterCancelsUptoRow.holds Tryd.pinned (OpenSpec.upto counterCancelsSpec)

/-- 'cardgamelaw12.CounterKinds', WHERE WHAT IT READS IS OF BULK AT MOST 1048576: true; the input reads as it did. -/
def counterKindsUptoRow : OpenClaim := { program := "ytgljibplhiabgaadoor", sum := "e305b68a65be5634882096553f18aaafb2fb0a99096201095a4a7dfe7be9d341", func := "cardgame/cardgamelaw12.CounterKinds", spec := "counterKinds", named := ["cardgame/counter.names"], apart := false, laid := [("cardgame/counter.names", laid_cardgame_counter_names)], narrowed := true }
def CounterKindsUptoSaid : Prop := counterKindsUptoRow.holds Tryd.pinned (OpenSpec.upto counterKindsSpec)

end Rows
end Go.Proofs.YtgljibplhiabgaaDoor
