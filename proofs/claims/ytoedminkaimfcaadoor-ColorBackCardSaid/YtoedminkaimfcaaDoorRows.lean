/-
  NARROWER THAN 'FOR EVERY INPUT', by the rows' own cells (each row's printed sentence says how): ColorMasks: laid · ColorText: laid · ColorParse: laid · ColorBack: laid · ColorNames: laid.
  DERIVED. THE GIVEN ROWS OF THIS SEAT. 5 by the template 'for every input the law returns true; each argument reads behind the call as it read before'; 0 by the template 'total and deterministic' (their statements: YtoedminkaimfcaaDoorTotals.lean).
  GIVEN WITH THE SEED: the statements are not yours to turn. If you find one false, say at which input.
  Laid BY PROGRAM, IN A SANDBOX (cutbox-rows.mjs): the forced cells as the released guide's own fill.sh prints them over the translation e4f3aa4a4dc5286b… (all of the seat's roots in one cut). By AI agents, Wed Nov 11 2026. No macro, syntax, notation, axiom, sorry.
-/
import Derived.Test.YtoedminkaimfcaaDoorChecked
import GoSem.Claim
import GoSem.ClaimJoined
import GoSem.ClaimMapViews
import Derived.JoinedTies
import Derived.KernelRfl
namespace Go.Proofs.YtoedminkaimfcaaDoor
/- THE CELL 'sum', in the pinned program and in every row, IS THE sha256 OF THE DUMP (.gsa) THAT YtoedminkaimfcaaDoorProg.lean LOADS. Nothing in Lean hashes anything: it is a label: what it is worth is what the hold of that sum in a sandbox is worth. -/
noncomputable def Tryd.pinned : Pinned := { name := "ytoedminkaimfcaadoor", sum := "e4f3aa4a4dc5286bb9ef80c171db44ca12881e8d6ab2f022795adc764e221e93", checked := Tryd.checked }
namespace Rows
def none {H : Type} : Left H := { results := [], args := [] }

/- WHAT THE LISTED PACKAGE-LEVEL VARIABLES READ AS WHEN THE CALL BEGINS. Each datum BY PROGRAM (the guide's laid-datum.mjs) off the statement by which the dump's own 'gosem.cut.vars' lays the variable. In a bare row this is a premise. The card (YtoedminkaimfcaaDoorCards.lean) ties it to the program's text. -/
def laid_cardgame_color_names {H : Type} : DataW H := .agg [.lit (.string [97, 109, 98, 101, 114]), .lit (.string [99, 111, 98, 97, 108, 116]), .lit (.string [106, 101, 116]), .lit (.string [114, 117, 98, 121]), .lit (.string [101, 109, 101, 114, 97, 108, 100])]

/-- 'cardgamelaw09.ColorMasks': WHATEVER THE INPUT: true; the input reads as it did. -/
def colorMasksSpec : ChangeSpec := { name := "colorMasks", fn := fun _ => fun
  | [d] => { results := [.lit (.bool true)], args := [d] }
  | _ => none }
def colorMasksRow : OpenClaim := { program := "ytoedminkaimfcaadoor", sum := "e4f3aa4a4dc5286bb9ef80c171db44ca12881e8d6ab2f022795adc764e221e93", func := "cardgame/cardgamelaw09.ColorMasks", spec := "colorMasks", inPlace := ["internal/abi.NoEscape", "internal/bytealg.MakeNoZero"], named := ["cardgame/color.names"], apart := false, laid := [("cardgame/color.names", laid_cardgame_color_names)] }
def ColorMasksSaid : Prop := colorMasksRow.holds Tryd.pinned (OpenSpec.ofChange colorMasksSpec)

/-- ITS FALSE NEIGHBOUR: 'it returns false'. Refute it at one input. -/
def colorMasksWrong : ChangeSpec := { name := "colorMasks", fn := fun _ => fun
  | [d] => { results := [.lit (.bool false)], args := [d] }
  | _ => none }
def ColorMasksWrongFalsely : Prop := colorMasksRow.holds Tryd.pinned (OpenSpec.ofChange colorMasksWrong)

/-- 'cardgamelaw09.ColorText': WHATEVER THE INPUT: true; the input reads as it did. -/
def colorTextSpec : ChangeSpec := { name := "colorText", fn := fun _ => fun
  | [d] => { results := [.lit (.bool true)], args := [d] }
  | _ => none }
def colorTextRow : OpenClaim := { program := "ytoedminkaimfcaadoor", sum := "e4f3aa4a4dc5286bb9ef80c171db44ca12881e8d6ab2f022795adc764e221e93", func := "cardgame/cardgamelaw09.ColorText", spec := "colorText", inPlace := ["internal/abi.NoEscape", "internal/bytealg.MakeNoZero"], named := ["cardgame/color.names"], apart := false, laid := [("cardgame/color.names", laid_cardgame_color_names)] }
def ColorTextSaid : Prop := colorTextRow.holds Tryd.pinned (OpenSpec.ofChange colorTextSpec)

/-- ITS FALSE NEIGHBOUR: 'it returns false'. Refute it at one input. -/
def colorTextWrong : ChangeSpec := { name := "colorText", fn := fun _ => fun
  | [d] => { results := [.lit (.bool false)], args := [d] }
  | _ => none }
def ColorTextWrongFalsely : Prop := colorTextRow.holds Tryd.pinned (OpenSpec.ofChange colorTextWrong)

/-- 'cardgamelaw09.ColorParse': WHATEVER THE INPUT: true; the input reads as it did. -/
def colorParseSpec : ChangeSpec := { name := "colorParse", fn := fun _ => fun
  | [d] => { results := [.lit (.bool true)], args := [d] }
  | _ => none }
def colorParseRow : OpenClaim := { program := "ytoedminkaimfcaadoor", sum := "e4f3aa4a4dc5286bb9ef80c171db44ca12881e8d6ab2f022795adc764e221e93", func := "cardgame/cardgamelaw09.ColorParse", spec := "colorParse", inPlace := ["internal/abi.NoEscape", "internal/bytealg.MakeNoZero"], named := ["cardgame/color.names"], apart := false, laid := [("cardgame/color.names", laid_cardgame_color_names)] }
def ColorParseSaid : Prop := colorParseRow.holds Tryd.pinned (OpenSpec.ofChange colorParseSpec)

/-- ITS FALSE NEIGHBOUR: 'it returns false'. Refute it at one input. -/
def colorParseWrong : ChangeSpec := { name := "colorParse", fn := fun _ => fun
  | [d] => { results := [.lit (.bool false)], args := [d] }
  | _ => none }
def ColorParseWrongFalsely : Prop := colorParseRow.holds Tryd.pinned (OpenSpec.ofChange colorParseWrong)

/-- 'cardgamelaw09.ColorBack': WHATEVER THE INPUT: true; the input reads as it did. -/
def colorBackSpec : ChangeSpec := { name := "colorBack", fn := fun _ => fun
  | [d1, d2] => { results := [.lit (.bool true)], args := [d1, d2] }
  | _ => none }
def colorBackRow : OpenClaim := { program := "ytoedminkaimfcaadoor", sum := "e4f3aa4a4dc5286bb9ef80c171db44ca12881e8d6ab2f022795adc764e221e93", func := "cardgame/cardgamelaw09.ColorBack", spec := "colorBack", inPlace := ["internal/abi.NoEscape", "internal/bytealg.MakeNoZero"], named := ["cardgame/color.names"], apart := false, laid := [("cardgame/color.names", laid_cardgame_color_names)] }
def ColorBackSaid : Prop := colorBackRow.holds Tryd.pinned (OpenSpec.ofChange colorBackSpec)

/-- ITS FALSE NEIGHBOUR: 'it returns false'. Refute it at one input. -/
def colorBackWrong : ChangeSpec := { name := "colorBack", fn := fun _ => fun
  | [d1, d2] => { results := [.lit (.bool false)], args := [d1, d2] }
  | _ => none }
def ColorBackWrongFalsely : Prop := colorBackRow.holds Tryd.pinned (OpenSpec.ofChange colorBackWrong)

/-- 'cardgamelaw09.ColorNames': WHATEVER THE INPUT: true; the input reads as it did. -/
def colorNamesSpec : ChangeSpec := { name := "colorNames", fn := fun _ => fun
  | [d1, d2] => { results := [.lit (.bool true)], args := [d1, d2] }
  | _ => none }
def colorNamesRow : OpenClaim := { program := "ytoedminkaimfcaadoor", sum := "e4f3aa4a4dc5286bb9ef80c171db44ca12881e8d6ab2f022795adc764e221e93", func := "cardgame/cardgamelaw09.ColorNames", spec := "colorNames", inPlace := ["internal/abi.NoEscape", "internal/bytealg.MakeNoZero"], named := ["cardgame/color.names"], apart := false, laid := [("cardgame/color.names", laid_cardgame_color_names)] }
def ColorNamesSaid : Prop := colorNamesRow.holds Tryd.pinned (OpenSpec.ofChange colorNamesSpec)

/-- ITS FALSE NEIGHBOUR: 'it returns false'. Refute it at one input. -/
def colorNamesWrong : ChangeSpec := { name := "colorNames", fn := fun _ => fun
  | [d1, d2] => { results := [.lit (.bool false)], args := [d1, d2] }
  | _ => none }
def ColorNamesWrongFalsely : Prop := colorNamesRow.holds Tryd.pinned (OpenSpec.ofChange colorNamesWrong)

/- THE SECOND FORM. 'bulk': how many values and letters a reading holds, each counted each time it is reached (what is shared counts as often as it is met; a slice's spare places count too). A statement '..UptoSaid' is the law's where the arguments, and the package variables that the reading takes, are together of bulk at most 1048576: NARROWER than '..Said'. Prove '..Said' where nothing that the law and all that it calls make is longer than what came in: it says more and counts as full. Else prove '..UptoSaid'. A law counts once. -/
mutual
def uptoBulk {H : Type} : DataW H → Nat
  | .lit (.string bytes) => bytes.length + 1
  | .lit _ => 1
  | .nil => 1
  | .ptr d => uptoBulk d + 1
  | .slice elems spare => uptoBulkAll elems + uptoBulkAll spare + 1
  | .agg parts => uptoBulkAll parts + 1
  | .iface _ d => uptoBulk d + 1
  | .map entries => uptoBulkEntries entries + 1
  | .held _ => 1
def uptoBulkAll {H : Type} : List (DataW H) → Nat
  | [] => 0
  | d :: r => uptoBulk d + uptoBulkAll r
def uptoBulkEntries {H : Type} : List (Lit × DataW H) → Nat
  | [] => 0
  | x :: r => uptoBulkEntry x + uptoBulkEntries r
def uptoBulkEntry {H : Type} : Lit × DataW H → Nat
  | (.string bytes, d) => bytes.length + uptoBulk d + 1
  | (_, d) => uptoBulk d + 1
 end
def uptoSmall : (H : Type) → List (DataW H) → Bool := fun _ ds => decide (uptoBulkAll ds ≤ 1048576)
def OpenSpec.upto (s : _root_.Go.ChangeSpec) : _root_.Go.OpenSpec := { _root_.Go.OpenSpec.ofChange s with cond := some uptoSmall }

/-- 'cardgamelaw09.ColorMasks', WHERE WHAT IT READS IS OF BULK AT MOST 1048576: true; the input reads as it did. -/
def colorMasksUptoRow : OpenClaim := { program := "ytoedminkaimfcaadoor", sum := "e4f3aa4a4dc5286bb9ef80c171db44ca12881e8d6ab2f022795adc764e221e93", func := "cardgame/cardgamelaw09.ColorMasks", spec := "colorMasks", inPlace := ["internal/abi.NoEscape", "internal/bytealg.MakeNoZero"], named := ["cardgame/color.names"], apart := false, laid := [("cardgame/color.names", laid_cardgame_color_names)], narrowed := true }
def ColorMasksUptoSaid : Prop := colorMasksUptoRow.holds Tryd.pinned (OpenSpec.upto colorMasksSpec)

/-- 'cardgamelaw09.ColorText', WHERE WHAT IT READS IS OF BULK AT MOST 1048576: true; the input reads as it did. -/
def colorTextUptoRow : OpenClaim := { program := "ytoedminkaimfcaadoor", sum := "e4f3aa4a4dc5286bb9ef80c171db44ca12881e8d6ab2f022795adc764e221e93", func := "cardgame/cardgamelaw09.ColorText", spec := "colorText", inPlace := ["internal/abi.NoEscape", "internal/bytealg.MakeNoZero"], named := ["cardgame/color.names"], apart := false, laid := [("cardgame/color.names", laid_cardgame_color_names)], narrowed := true }
def ColorTextUptoSaid : Prop := colorTextUptoRow.holds Tryd.pinned (OpenSpec.upto colorTextSpec)

/-- 'cardgamelaw09.ColorParse', WHERE WHAT IT READS IS OF BULK AT MOST 1048576: true; the input reads as it did. -/
def colorParseUptoRow : OpenClaim := { program := "ytoedminkaimfcaadoor", sum := "e4f3aa4a4dc5286bb9ef80c171db44ca12881e8d6ab2f022795adc764e221e93", func := "cardgame/cardgamelaw09.ColorParse", spec := "colorParse", inPlace := ["internal/abi.NoEscape", "internal/bytealg.MakeNoZero"], named := ["cardgame/color.names"], apart := false, laid := [("cardgame/color.names", laid_cardgame_color_names)], narrowed := true }
def ColorParseUptoSaid : Prop := colorParseUptoRow.holds Tryd.pinned (OpenSpec.upto colorParseSpec)

/-- 'cardgamelaw09.ColorBack', WHERE WHAT IT READS IS OF BULK AT MOST 1048576: true; the input reads as it did. -/
def colorBackUptoRow : OpenClaim := { program := "ytoedminkaimfcaadoor", sum := "e4f3aa4a4dc5286bb9ef80c171db44ca12881e8d6ab2f022795adc764e221e93", func := "cardgame/cardgamelaw09.ColorBack", spec := "colorBack", inPlace := ["internal/abi.NoEscape", "internal/bytealg.MakeNoZero"], named := ["cardgame/color.names"], apart := false, laid := [("cardgame/color.names", laid_cardgame_color_names)], narrowed := true }
def ColorBackUptoSaid : Prop := colorBackUptoRow.holds Tryd.pinned (OpenSpec.upto colorBackSpec)

/-- 'cardgamelaw09.ColorNames', WHERE WHAT IT READS IS OF BULK AT MOST 1048576: true; the input reads as it did. -/
def colorNamesUptoRow : OpenClaim := { program := "ytoedminkaimfcaadoor", sum := "e4f3aa4a4dc5286bb9ef80c171db44ca12881e8d6ab2f022795adc764e221e93", func := "cardgame/cardgamelaw09.ColorNames", spec := "colorNames", inPlace := ["internal/abi.NoEscape", "internal/bytealg.MakeNoZero"], named := ["cardgame/color.names"], apart := false, laid := [("cardgame/color.names", laid_cardgame_color_names)], narrowed := true }
def ColorNamesUptoSaid : Prop := colorNamesUptoRow.holds Tryd.pinned (OpenSpec.upto colorNamesSpec)

end Rows
end Go.Proofs.YtoedminkaimfcaaDoor
