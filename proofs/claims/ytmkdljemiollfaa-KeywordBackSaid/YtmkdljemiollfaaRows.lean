/-
  No cell of these rows narrows 'for every input' (looked for: loops, veiled, ifaces, maps, wideKeys, modest, calm, conditions, laid).
  DERIVED. THE GIVEN ROWS OF THIS SEAT. 5 by the template 'for every input the law returns true; each argument reads behind the call as it read before'; 0 by the template 'total and deterministic' (their statements: YtmkdljemiollfaaTotals.lean).
  GIVEN WITH THE SEED: the statements are not yours to turn. If you find one false, say at which input.
  Laid BY PROGRAM, IN A SANDBOX (cutbox-rows.mjs): the forced cells as the released guide's own fill.sh prints them over the translation 1a2ddbbef8268e19… (all of the seat's roots in one cut). By AI agents, Wed Nov 11 2026. No macro, syntax, notation, axiom, sorry.
-/
import Derived.Test.YtmkdljemiollfaaChecked
import GoSem.Claim
import GoSem.ClaimJoined
import GoSem.ClaimMapViews
import Derived.JoinedTies
import Derived.KernelRfl
namespace Go.Proofs.Ytmkdljemiollfaa
/- THE CELL 'sum', in the pinned program and in every row, IS THE sha256 OF THE DUMP (.gsa) THAT YtmkdljemiollfaaProg.lean LOADS. Nothing in Lean hashes anything: it is a label: what it is worth is what the hold of that sum in a sandbox is worth. -/
noncomputable def Try.pinned : Pinned := { name := "ytmkdljemiollfaa", sum := "1a2ddbbef8268e19a4f06b02b6901fc2327245bc0010435575a53faf534347ec", checked := Try.checked }
namespace Rows
def none {H : Type} : Left H := { results := [], args := [] }

/-- 'cardgamelaw11.KeywordTexts': WHATEVER THE INPUT: true; the input reads as it did. -/
def keywordTextsSpec : ChangeSpec := { name := "keywordTexts", fn := fun _ => fun
  | [d] => { results := [.lit (.bool true)], args := [d] }
  | _ => none }
def keywordTextsRow : OpenClaim := { program := "ytmkdljemiollfaa", sum := "1a2ddbbef8268e19a4f06b02b6901fc2327245bc0010435575a53faf534347ec", func := "cardgame/cardgamelaw11.KeywordTexts", spec := "keywordTexts", inPlace := ["internal/abi.NoEscape", "internal/bytealg.MakeNoZero"], apart := false }
def KeywordTextsSaid : Prop := keywordTextsRow.holds Try.pinned (OpenSpec.ofChange keywordTextsSpec)

/-- ITS FALSE NEIGHBOUR: 'it returns false'. Refute it at one input. -/
def keywordTextsWrong : ChangeSpec := { name := "keywordTexts", fn := fun _ => fun
  | [d] => { results := [.lit (.bool false)], args := [d] }
  | _ => none }
def KeywordTextsWrongFalsely : Prop := keywordTextsRow.holds Try.pinned (OpenSpec.ofChange keywordTextsWrong)

/-- 'cardgamelaw11.KeywordParses': WHATEVER THE INPUT: true; the input reads as it did. -/
def keywordParsesSpec : ChangeSpec := { name := "keywordParses", fn := fun _ => fun
  | [d] => { results := [.lit (.bool true)], args := [d] }
  | _ => none }
def keywordParsesRow : OpenClaim := { program := "ytmkdljemiollfaa", sum := "1a2ddbbef8268e19a4f06b02b6901fc2327245bc0010435575a53faf534347ec", func := "cardgame/cardgamelaw11.KeywordParses", spec := "keywordParses", inPlace := ["internal/abi.NoEscape", "internal/bytealg.MakeNoZero"], apart := false }
def KeywordParsesSaid : Prop := keywordParsesRow.holds Try.pinned (OpenSpec.ofChange keywordParsesSpec)

/-- ITS FALSE NEIGHBOUR: 'it returns false'. Refute it at one input. -/
def keywordParsesWrong : ChangeSpec := { name := "keywordParses", fn := fun _ => fun
  | [d] => { results := [.lit (.bool false)], args := [d] }
  | _ => none }
def KeywordParsesWrongFalsely : Prop := keywordParsesRow.holds Try.pinned (OpenSpec.ofChange keywordParsesWrong)

/-- 'cardgamelaw11.KeywordBack': WHATEVER THE INPUT: true; the input reads as it did. -/
def keywordBackSpec : ChangeSpec := { name := "keywordBack", fn := fun _ => fun
  | [d] => { results := [.lit (.bool true)], args := [d] }
  | _ => none }
def keywordBackRow : OpenClaim := { program := "ytmkdljemiollfaa", sum := "1a2ddbbef8268e19a4f06b02b6901fc2327245bc0010435575a53faf534347ec", func := "cardgame/cardgamelaw11.KeywordBack", spec := "keywordBack", inPlace := ["internal/abi.NoEscape", "internal/bytealg.MakeNoZero"], apart := false }
def KeywordBackSaid : Prop := keywordBackRow.holds Try.pinned (OpenSpec.ofChange keywordBackSpec)

/-- ITS FALSE NEIGHBOUR: 'it returns false'. Refute it at one input. -/
def keywordBackWrong : ChangeSpec := { name := "keywordBack", fn := fun _ => fun
  | [d] => { results := [.lit (.bool false)], args := [d] }
  | _ => none }
def KeywordBackWrongFalsely : Prop := keywordBackRow.holds Try.pinned (OpenSpec.ofChange keywordBackWrong)

/-- 'cardgamelaw11.KeywordHas': WHATEVER THE INPUT: true; the input reads as it did. -/
def keywordHasSpec : ChangeSpec := { name := "keywordHas", fn := fun _ => fun
  | [d1, d2] => { results := [.lit (.bool true)], args := [d1, d2] }
  | _ => none }
def keywordHasRow : OpenClaim := { program := "ytmkdljemiollfaa", sum := "1a2ddbbef8268e19a4f06b02b6901fc2327245bc0010435575a53faf534347ec", func := "cardgame/cardgamelaw11.KeywordHas", spec := "keywordHas", inPlace := ["internal/abi.NoEscape", "internal/bytealg.MakeNoZero"], apart := false }
def KeywordHasSaid : Prop := keywordHasRow.holds Try.pinned (OpenSpec.ofChange keywordHasSpec)

/-- ITS FALSE NEIGHBOUR: 'it returns false'. Refute it at one input. -/
def keywordHasWrong : ChangeSpec := { name := "keywordHas", fn := fun _ => fun
  | [d1, d2] => { results := [.lit (.bool false)], args := [d1, d2] }
  | _ => none }
def KeywordHasWrongFalsely : Prop := keywordHasRow.holds Try.pinned (OpenSpec.ofChange keywordHasWrong)

/-- 'cardgamelaw11.KeywordNames': WHATEVER THE INPUT: true; the input reads as it did. -/
def keywordNamesSpec : ChangeSpec := { name := "keywordNames", fn := fun _ => fun
  | [d] => { results := [.lit (.bool true)], args := [d] }
  | _ => none }
def keywordNamesRow : OpenClaim := { program := "ytmkdljemiollfaa", sum := "1a2ddbbef8268e19a4f06b02b6901fc2327245bc0010435575a53faf534347ec", func := "cardgame/cardgamelaw11.KeywordNames", spec := "keywordNames", inPlace := ["internal/abi.NoEscape", "internal/bytealg.MakeNoZero"], apart := false }
def KeywordNamesSaid : Prop := keywordNamesRow.holds Try.pinned (OpenSpec.ofChange keywordNamesSpec)

/-- ITS FALSE NEIGHBOUR: 'it returns false'. Refute it at one input. -/
def keywordNamesWrong : ChangeSpec := { name := "keywordNames", fn := fun _ => fun
  | [d] => { results := [.lit (.bool false)], args := [d] }
  | _ => none }
def KeywordNamesWrongFalsely : Prop := keywordNamesRow.holds Try.pinned (OpenSpec.ofChange keywordNamesWrong)

/- THE SECOND FORM. 'bulk': how many values and letters a reading holds, each counted each time it is reached (what is shared counts as often as it is met; a slice's spare places count too). A statement '..UptoSaid' is the law's where the arguments, and the package variables that the reading takes, are together of bulk at most 1048576: NARROWER than '..Said'. Prove '..Said' where nothing that the law and all that it calls make is longer than what came in: it says more and counts as full. Else prove '..UptoSaid'. A law counts once. -/
mutual
def uptoBulk {H : Type} : DataW H → Nat
  | .lit (.string bytes) => bytes.length + 1
  | .lit _ => 1
  | .nil => 1
  | .ptr d => uptoBulk d + 1
  | .slice elems spare => uptoBulkAll elems + uptoBulkAll spare + 1
  | .agg parts => uptoBulkAll parts + 1
  | .iface _ d => uptoBulk d + 1
  | .map entries => uptoBulkEntries entries + 1
  | .held _ => 1
def uptoBulkAll {H : Type} : List (DataW H) → Nat
  | [] => 0
  | d :: r => uptoBulk d + uptoBulkAll r
def uptoBulkEntries {H : Type} : List (Lit × DataW H) → Nat
  | [] => 0
  | x :: r => uptoBulkEntry x + uptoBulkEntries r
def uptoBulkEntry {H : Type} : Lit × DataW H → Nat
  | (.string bytes, d) => bytes.length + uptoBulk d + 1
  | (_, d) => uptoBulk d + 1
 end
def uptoSmall : (H : Type) → List (DataW H) → Bool := fun _ ds => decide (uptoBulkAll ds ≤ 1048576)
def OpenSpec.upto (s : _root_.Go.ChangeSpec) : _root_.Go.OpenSpec := { _root_.Go.OpenSpec.ofChange s with cond := some uptoSmall }

/-- 'cardgamelaw11.KeywordTexts', WHERE WHAT IT READS IS OF BULK AT MOST 1048576: true; the input reads as it did. -/
def keywordTextsUptoRow : OpenClaim := { program := "ytmkdljemiollfaa", sum := "1a2ddbbef8268e19a4f06b02b6901fc2327245bc0010435575a53faf534347ec", func := "cardgame/cardgamelaw11.KeywordTexts", spec := "keywordTexts", inPlace := ["internal/abi.NoEscape", "internal/bytealg.MakeNoZero"], apart := false, narrowed := true }
def KeywordTextsUptoSaid : Prop := keywordTextsUptoRow.holds Try.pinned (OpenSpec.upto keywordTextsSpec)

/-- 'cardgamelaw11.KeywordParses', WHERE WHAT IT READS IS OF BULK AT MOST 1048576: true; the input reads as it did. -/
def keywordParsesUptoRow : OpenClaim := { program := "ytmkdljemiollfaa", sum := "1a2ddbbef8268e19a4f06b02b6901fc2327245bc0010435575a53faf534347ec", func := "cardgame/cardgamelaw11.KeywordParses", spec := "keywordParses", inPlace := ["internal/abi.NoEscape", "internal/bytealg.MakeNoZero"], apart := false, narrowed := true }
def KeywordParsesUptoSaid : Prop := keywordParsesUptoRow.holds Try.pinned (OpenSpec.upto keywordParsesSpec)

/-- 'cardgamelaw11.KeywordBack', WHERE WHAT IT READS IS OF BULK AT MOST 1048576: true; the input reads as it did. -/
def keywordBackUptoRow : OpenClaim := { program := "ytmkdljemiollfaa", sum := "1a2ddbbef8268e19a4f06b02b6901fc2327245bc0010435575a53faf534347ec", func := "cardgame/cardgamelaw11.KeywordBack", spec := "keywordBack", inPlace := ["internal/abi.NoEscape", "internal/bytealg.MakeNoZero"], apart := false, narrowed := true }
def KeywordBackUptoSaid : Prop := keywordBackUptoRow.holds Try.pinned (OpenSpec.upto keywordBackSpec)

/-- 'cardgamelaw11.KeywordHas', WHERE WHAT IT READS IS OF BULK AT MOST 1048576: true; the input reads as it did. -/
def keywordHasUptoRow : OpenClaim := { program := "ytmkdljemiollfaa", sum := "1a2ddbbef8268e19a4f06b02b6901fc2327245bc0010435575a53faf534347ec", func := "cardgame/cardgamelaw11.KeywordHas", spec := "keywordHas", inPlace := ["internal/abi.NoEscape", "internal/bytealg.MakeNoZero"], apart := false, narrowed := true }
def KeywordHasUptoSaid : Prop := keywordHasUptoRow.holds Try.pinned (OpenSpec.upto keywordHasSpec)

/-- 'cardgamelaw11.KeywordNames', WHERE WHAT IT READS IS OF BULK AT MOST 1048576: true; the input reads as it did. -/
def keywordNamesUptoRow : OpenClaim := { program := "ytmkdljemiollfaa", sum := "1a2ddbbef8268e19a4f06b02b6901fc2327245bc0010435575a53faf534347ec", func := "cardgame/cardgamelaw11.KeywordNames", spec := "keywordNames", inPlace := ["internal/abi.NoEscape", "internal/bytealg.MakeNoZero"], apart := false, narrowed := true }
def KeywordNamesUptoSaid : Prop := keywordNamesUptoRow.holds Try.pinned (OpenSpec.upto keywordNamesSpec)

end Rows
end Go.Proofs.Ytmkdljemiollfaa
