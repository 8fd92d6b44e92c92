/-
  NARROWER THAN 'FOR EVERY INPUT', by the rows' own cells (each row's printed sentence says how): LineChecks: laid · LineTexts: laid · LineTypes: laid · LineAdds: laid · LineBack: laid · LineStays: laid.
  DERIVED. THE GIVEN ROWS OF THIS SEAT. 6 by the template 'for every input the law returns true; each argument reads behind the call as it read before'; 0 by the template 'total and deterministic' (their statements: YtbichcmpggbfnaaDoorTotals.lean).
  GIVEN WITH THE SEED: the statements are not yours to turn. If you find one false, say at which input.
  Laid BY PROGRAM, IN A SANDBOX (cutbox-rows.mjs): the forced cells as the released guide's own fill.sh prints them over the translation 163fd1c453f034aa… (all of the seat's roots in one cut). By AI agents, Wed Nov 11 2026. No macro, syntax, notation, axiom, sorry.
-/
import Derived.Test.YtbichcmpggbfnaaDoorChecked
import GoSem.Claim
import GoSem.ClaimJoined
import GoSem.ClaimMapViews
import Derived.JoinedTies
import Derived.KernelRfl
namespace Go.Proofs.YtbichcmpggbfnaaDoor
/- THE CELL 'sum', in the pinned program and in every row, IS THE sha256 OF THE DUMP (.gsa) THAT YtbichcmpggbfnaaDoorProg.lean LOADS. Nothing in Lean hashes anything: it is a label: what it is worth is what the hold of that sum in a sandbox is worth. -/
noncomputable def Tryd.pinned : Pinned := { name := "ytbichcmpggbfnaadoor", sum := "163fd1c453f034aa63c7bbe40c39dd98ee26ff7364d134a22db40b8b7182b8d9", checked := Tryd.checked }
namespace Rows
def none {H : Type} : Left H := { results := [], args := [] }

/- WHAT THE LISTED PACKAGE-LEVEL VARIABLES READ AS WHEN THE CALL BEGINS. Each datum BY PROGRAM (the guide's laid-datum.mjs) off the statement by which the dump's own 'gosem.cut.vars' lays the variable. In a bare row this is a premise. The card (YtbichcmpggbfnaaDoorCards.lean) ties it to the program's text. -/
def laid_cardgame_line_words {H : Type} : DataW H := .agg [.lit (.string [98, 97, 115, 105, 99]), .lit (.string [117, 110, 105, 113, 117, 101]), .lit (.string [99, 114, 101, 97, 116, 117, 114, 101]), .lit (.string [105, 110, 115, 116, 97, 110, 116]), .lit (.string [114, 105, 116, 117, 97, 108]), .lit (.string [114, 101, 108, 105, 99]), .lit (.string [99, 104, 97, 114, 109]), .lit (.string [108, 97, 110, 100])]

/-- 'cardgamelaw10.LineChecks': WHATEVER THE INPUT: true; the input reads as it did. -/
def lineChecksSpec : ChangeSpec := { name := "lineChecks", fn := fun _ => fun
  | [d1, d2, d3] => { results := [.lit (.bool true)], args := [d1, d2, d3] }
  | _ => none }
def lineChecksRow : OpenClaim := { program := "ytbichcmpggbfnaadoor", sum := "163fd1c453f034aa63c7bbe40c39dd98ee26ff7364d134a22db40b8b7182b8d9", func := "cardgame/cardgamelaw10.LineChecks", spec := "lineChecks", inPlace := ["internal/bytealg.IndexByteString", "internal/bytealg.IndexString", "internal/abi.NoEscape", "internal/bytealg.MakeNoZero"], named := ["cardgame/line.words", "internal/bytealg.MaxLen"], apart := false, laid := [("cardgame/line.words", laid_cardgame_line_words)] }
def LineChecksSaid : Prop := lineChecksRow.holds Tryd.pinned (OpenSpec.ofChange lineChecksSpec)

/-- ITS FALSE NEIGHBOUR: 'it returns false'. Refute it at one input. -/
def lineChecksWrong : ChangeSpec := { name := "lineChecks", fn := fun _ => fun
  | [d1, d2, d3] => { results := [.lit (.bool false)], args := [d1, d2, d3] }
  | _ => none }
def LineChecksWrongFalsely : Prop := lineChecksRow.holds Tryd.pinned (OpenSpec.ofChange lineChecksWrong)

/-- 'cardgamelaw10.LineTexts': WHATEVER THE INPUT: true; the input reads as it did. -/
def lineTextsSpec : ChangeSpec := { name := "lineTexts", fn := fun _ => fun
  | [d1, d2] => { results := [.lit (.bool true)], args := [d1, d2] }
  | _ => none }
def lineTextsRow : OpenClaim := { program := "ytbichcmpggbfnaadoor", sum := "163fd1c453f034aa63c7bbe40c39dd98ee26ff7364d134a22db40b8b7182b8d9", func := "cardgame/cardgamelaw10.LineTexts", spec := "lineTexts", inPlace := ["internal/bytealg.IndexByteString", "internal/bytealg.IndexString", "internal/abi.NoEscape", "internal/bytealg.MakeNoZero"], named := ["cardgame/line.words", "internal/bytealg.MaxLen"], apart := false, laid := [("cardgame/line.words", laid_cardgame_line_words)] }
def LineTextsSaid : Prop := lineTextsRow.holds Tryd.pinned (OpenSpec.ofChange lineTextsSpec)

/-- ITS FALSE NEIGHBOUR: 'it returns false'. Refute it at one input. -/
def lineTextsWrong : ChangeSpec := { name := "lineTexts", fn := fun _ => fun
  | [d1, d2] => { results := [.lit (.bool false)], args := [d1, d2] }
  | _ => none }
def LineTextsWrongFalsely : Prop := lineTextsRow.holds Tryd.pinned (OpenSpec.ofChange lineTextsWrong)

/-- 'cardgamelaw10.LineTypes': WHATEVER THE INPUT: true; the input reads as it did. -/
def lineTypesSpec : ChangeSpec := { name := "lineTypes", fn := fun _ => fun
  | [d1, d2] => { results := [.lit (.bool true)], args := [d1, d2] }
  | _ => none }
def lineTypesRow : OpenClaim := { program := "ytbichcmpggbfnaadoor", sum := "163fd1c453f034aa63c7bbe40c39dd98ee26ff7364d134a22db40b8b7182b8d9", func := "cardgame/cardgamelaw10.LineTypes", spec := "lineTypes", inPlace := ["internal/abi.NoEscape", "internal/bytealg.MakeNoZero", "internal/bytealg.IndexByteString", "internal/bytealg.IndexString"], named := ["cardgame/line.words", "internal/bytealg.MaxLen"], apart := false, laid := [("cardgame/line.words", laid_cardgame_line_words)] }
def LineTypesSaid : Prop := lineTypesRow.holds Tryd.pinned (OpenSpec.ofChange lineTypesSpec)

/-- ITS FALSE NEIGHBOUR: 'it returns false'. Refute it at one input. -/
def lineTypesWrong : ChangeSpec := { name := "lineTypes", fn := fun _ => fun
  | [d1, d2] => { results := [.lit (.bool false)], args := [d1, d2] }
  | _ => none }
def LineTypesWrongFalsely : Prop := lineTypesRow.holds Tryd.pinned (OpenSpec.ofChange lineTypesWrong)

/-- 'cardgamelaw10.LineAdds': WHATEVER THE INPUT: true; the input reads as it did. -/
def lineAddsSpec : ChangeSpec := { name := "lineAdds", fn := fun _ => fun
  | [d1, d2] => { results := [.lit (.bool true)], args := [d1, d2] }
  | _ => none }
def lineAddsRow : OpenClaim := { program := "ytbichcmpggbfnaadoor", sum := "163fd1c453f034aa63c7bbe40c39dd98ee26ff7364d134a22db40b8b7182b8d9", func := "cardgame/cardgamelaw10.LineAdds", spec := "lineAdds", inPlace := ["internal/bytealg.IndexByteString", "internal/bytealg.IndexString", "internal/abi.NoEscape", "internal/bytealg.MakeNoZero", "slices.overlaps[string]"], named := ["cardgame/line.words", "internal/bytealg.MaxLen"], apart := false, laid := [("cardgame/line.words", laid_cardgame_line_words)] }
def LineAddsSaid : Prop := lineAddsRow.holds Tryd.pinned (OpenSpec.ofChange lineAddsSpec)

/-- ITS FALSE NEIGHBOUR: 'it returns false'. Refute it at one input. -/
def lineAddsWrong : ChangeSpec := { name := "lineAdds", fn := fun _ => fun
  | [d1, d2] => { results := [.lit (.bool false)], args := [d1, d2] }
  | _ => none }
def LineAddsWrongFalsely : Prop := lineAddsRow.holds Tryd.pinned (OpenSpec.ofChange lineAddsWrong)

/-- 'cardgamelaw10.LineBack': WHATEVER THE INPUT: true; the input reads as it did. -/
def lineBackSpec : ChangeSpec := { name := "lineBack", fn := fun _ => fun
  | [d1, d2] => { results := [.lit (.bool true)], args := [d1, d2] }
  | _ => none }
def lineBackRow : OpenClaim := { program := "ytbichcmpggbfnaadoor", sum := "163fd1c453f034aa63c7bbe40c39dd98ee26ff7364d134a22db40b8b7182b8d9", func := "cardgame/cardgamelaw10.LineBack", spec := "lineBack", inPlace := ["internal/bytealg.IndexByteString", "internal/bytealg.IndexString", "internal/abi.NoEscape", "internal/bytealg.MakeNoZero"], named := ["cardgame/line.words", "internal/bytealg.MaxLen"], apart := false, laid := [("cardgame/line.words", laid_cardgame_line_words)] }
def LineBackSaid : Prop := lineBackRow.holds Tryd.pinned (OpenSpec.ofChange lineBackSpec)

/-- ITS FALSE NEIGHBOUR: 'it returns false'. Refute it at one input. -/
def lineBackWrong : ChangeSpec := { name := "lineBack", fn := fun _ => fun
  | [d1, d2] => { results := [.lit (.bool false)], args := [d1, d2] }
  | _ => none }
def LineBackWrongFalsely : Prop := lineBackRow.holds Tryd.pinned (OpenSpec.ofChange lineBackWrong)

/-- 'cardgamelaw10.LineStays': WHATEVER THE INPUT: true; the input reads as it did. -/
def lineStaysSpec : ChangeSpec := { name := "lineStays", fn := fun _ => fun
  | [d1, d2] => { results := [.lit (.bool true)], args := [d1, d2] }
  | _ => none }
def lineStaysRow : OpenClaim := { program := "ytbichcmpggbfnaadoor", sum := "163fd1c453f034aa63c7bbe40c39dd98ee26ff7364d134a22db40b8b7182b8d9", func := "cardgame/cardgamelaw10.LineStays", spec := "lineStays", inPlace := ["internal/bytealg.IndexByteString", "internal/bytealg.IndexString", "internal/abi.NoEscape", "internal/bytealg.MakeNoZero", "slices.overlaps[string]"], named := ["cardgame/line.words", "internal/bytealg.MaxLen"], apart := false, laid := [("cardgame/line.words", laid_cardgame_line_words)] }
def LineStaysSaid : Prop := lineStaysRow.holds Tryd.pinned (OpenSpec.ofChange lineStaysSpec)

/-- ITS FALSE NEIGHBOUR: 'it returns false'. Refute it at one input. -/
def lineStaysWrong : ChangeSpec := { name := "lineStays", fn := fun _ => fun
  | [d1, d2] => { results := [.lit (.bool false)], args := [d1, d2] }
  | _ => none }
def LineStaysWrongFalsely : Prop := lineStaysRow.holds Tryd.pinned (OpenSpec.ofChange lineStaysWrong)

/- THE SECOND FORM. 'bulk': how many values and letters a reading holds, each counted each time it is reached (what is shared counts as often as it is met; a slice's spare places count too). A statement '..UptoSaid' is the law's where the arguments, and the package variables that the reading takes, are together of bulk at most 1048576: NARROWER than '..Said'. Prove '..Said' where nothing that the law and all that it calls make is longer than what came in: it says more and counts as full. Else prove '..UptoSaid'. A law counts once. -/
mutual
def uptoBulk {H : Type} : DataW H → Nat
  | .lit (.string bytes) => bytes.length + 1
  | .lit _ => 1
  | .nil => 1
  | .ptr d => uptoBulk d + 1
  | .slice elems spare => uptoBulkAll elems + uptoBulkAll spare + 1
  | .agg parts => uptoBulkAll parts + 1
  | .iface _ d => uptoBulk d + 1
  | .map entries => uptoBulkEntries entries + 1
  | .held _ => 1
def uptoBulkAll {H : Type} : List (DataW H) → Nat
  | [] => 0
  | d :: r => uptoBulk d + uptoBulkAll r
def uptoBulkEntries {H : Type} : List (Lit × DataW H) → Nat
  | [] => 0
  | x :: r => uptoBulkEntry x + uptoBulkEntries r
def uptoBulkEntry {H : Type} : Lit × DataW H → Nat
  | (.string bytes, d) => bytes.length + uptoBulk d + 1
  | (_, d) => uptoBulk d + 1
 end
def uptoSmall : (H : Type) → List (DataW H) → Bool := fun _ ds => decide (uptoBulkAll ds ≤ 1048576)
def OpenSpec.upto (s : _root_.Go.ChangeSpec) : _root_.Go.OpenSpec := { _root_.Go.OpenSpec.ofChange s with cond := some uptoSmall }

/-- 'cardgamelaw10.LineChecks', WHERE WHAT IT READS IS OF BULK AT MOST 1048576: true; the input reads as it did. -/
def lineChecksUptoRow : OpenClaim := { program := "ytbichcmpggbfnaadoor", sum := "163fd1c453f034aa63c7bbe40c39dd98ee26ff7364d134a22db40b8b7182b8d9", func := "cardgame/cardgamelaw10.LineChecks", spec := "lineChecks", inPlace := ["internal/bytealg.IndexByteString", "internal/bytealg.IndexString", "internal/abi.NoEscape", "internal/bytealg.MakeNoZero"], named := ["cardgame/line.words", "internal/bytealg.MaxLen"], apart := false, laid := [("cardgame/line.words", laid_cardgame_line_words)], narrowed := true }
def LineChecksUptoSaid : Prop := lineChecksUptoRow.holds Tryd.pinned (OpenSpec.upto lineChecksSpec)

/-- 'cardgamelaw10.LineTexts', WHERE WHAT IT READS IS OF BULK AT MOST 1048576: true; the input reads as it did. -/
def lineTextsUptoRow : OpenClaim := { program := "ytbichcmpggbfnaadoor", sum := "163fd1c453f034aa63c7bbe40c39dd98ee26ff7364d134a22db40b8b7182b8d9", func := "cardgame/cardgamelaw10.LineTexts", spec := "lineTexts", inPlace := ["internal/bytealg.IndexByteString", "internal/bytealg.IndexString", "internal/abi.NoEscape", "internal/bytealg.MakeNoZero"], named := ["cardgame/line.words", "internal/bytealg.MaxLen"], apart := false, laid := [("cardgame/line.words", laid_cardgame_line_words)], narrowed := true }
def LineTextsUptoSaid : Prop := lineTextsUptoRow.holds Tryd.pinned (OpenSpec.upto lineTextsSpec)

/-- 'cardgamelaw10.LineTypes', WHERE WHAT IT READS IS OF BULK AT MOST 1048576: true; the input reads as it did. -/
def lineTypesUptoRow : OpenClaim := { program := "ytbichcmpggbfnaadoor", sum := "163fd1c453f034aa63c7bbe40c39dd98ee26ff7364d134a22db40b8b7182b8d9", func := "cardgame/cardgamelaw10.LineTypes", spec := "lineTypes", inPlace := ["internal/abi.NoEscape", "internal/bytealg.MakeNoZero", "internal/bytealg.IndexByteString", "internal/bytealg.IndexString"], named := ["cardgame/line.words", "internal/bytealg.MaxLen"], apart := false, laid := [("cardgame/line.words", laid_cardgame_line_words)], narrowed := true }
def LineTypesUptoSaid : Prop := lineTypesUptoRow.holds Tryd.pinned (OpenSpec.upto lineTypesSpec)

/-- 'cardgamelaw10.LineAdds', WHERE WHAT IT READS IS OF BULK AT MOST 1048576: true; the input reads as it did. -/
def lineAddsUptoRow : OpenClaim := { program := "ytbichcmpggbfnaadoor", sum := "163fd1c453f034aa63c7bbe40c39dd98ee26ff7364d134a22db40b8b7182b8d9", func := "cardgame/cardgamelaw10.LineAdds", spec := "lineAdds", inPlace := ["internal/bytealg.IndexByteString", "internal/bytealg.IndexString", "internal/abi.NoEscape", "internal/bytealg.MakeNoZero", "slices.overlaps[string]"], named := ["cardgame/line.words", "internal/bytealg.MaxLen"], apart := false, laid := [("cardgame/line.words", laid_cardgame_line_words)], narrowed := true }
def LineAddsUptoSaid : Prop := lineAddsUptoRow.holds Tryd.pinned (OpenSpec.upto lineAddsSpec)

/-- 'cardgamelaw10.LineBack', WHERE WHAT IT READS IS OF BULK AT MOST 1048576: true; the input reads as it did. -/
def lineBackUptoRow : OpenClaim := { program := "ytbichcmpggbfnaadoor", sum := "163fd1c453f034aa63c7bbe40c39dd98ee26ff7364d134a22db40b8b7182b8d9", func := "cardgame/cardgamelaw10.LineBack", spec := "lineBack", inPlace := ["internal/bytealg.IndexByteString", "internal/bytealg.IndexString", "internal/abi.NoEscape", "internal/bytealg.MakeNoZero"], named := ["cardgame/line.words", "internal/bytealg.MaxLen"], apart := false, laid := [("cardgame/line.words", laid_cardgame_line_words)], narrowed := true }
def LineBackUptoSaid : Prop := lineBackUptoRow.holds Tryd.pinned (OpenSpec.upto lineBackSpec)

/-- 'cardgamelaw10.LineStays', WHERE WHAT IT READS IS OF BULK AT MOST 1048576: true; the input reads as it did. -/
def lineStaysUptoRow : OpenClaim := { program := "ytbichcmpggbfnaadoor", sum := "163fd1c453f034aa63c7bbe40c39dd98ee26ff7364d134a22db40b8b7182b8d9", func := "cardgame/cardgamelaw10.LineStays", spec := "lineStays", inPlace := ["internal/bytealg.IndexByteString", "internal/bytealg.IndexString", "internal/abi.NoEscape", "internal/bytealg.MakeNoZero", "slices.overlaps[string]"], named := ["cardgame/line.words", "internal/bytealg.MaxLen"], apart := false, laid := [("cardgame/line.words", laid_cardgame_line_words)], narrowed := true }
def LineStaysUptoSaid : Prop := lineStaysUptoRow.holds Tryd.pinned (OpenSpec.upto lineStaysSpec)

end Rows
end Go.Proofs.YtbichcmpggbfnaaDoor
