/-
  NARROWER THAN 'FOR EVERY INPUT', by the rows' own cells (each row's printed sentence says how): InsteadIs: laid · InsteadTexts: laid · InsteadParses: laid · InsteadBack: laid · InsteadNumbers: laid · InsteadApart: laid.
  DERIVED. THE GIVEN ROWS OF THIS SEAT. 6 by the template 'for every input the law returns true; each argument reads behind the call as it read before'; 0 by the template 'total and deterministic' (their statements: YtkohfomiigcifaaGreatDoorTotals.lean).
  GIVEN WITH THE SEED: the statements are not yours to turn. If you find one false, say at which input.
  Laid BY PROGRAM, IN A SANDBOX (cutbox-rows.mjs): the forced cells as the released guide's own fill.sh prints them over the translation 60b0fd6e957b5cda… (all of the seat's roots in one cut). By AI agents, Wed Nov 11 2026. No macro, syntax, notation, axiom, sorry.
-/
import Derived.Test.YtkohfomiigcifaaGreatDoorChecked
import GoSem.Claim
import GoSem.ClaimJoined
import GoSem.ClaimMapViews
import Derived.JoinedTies
import Derived.KernelRfl
namespace Go.Proofs.YtkohfomiigcifaaGreatDoor
/- THE CELL 'sum', in the pinned program and in every row, IS THE sha256 OF THE DUMP (.gsa) THAT YtkohfomiigcifaaGreatDoorProg.lean LOADS. Nothing in Lean hashes anything: it is a label: what it is worth is what the hold of that sum in a sandbox is worth. -/
noncomputable def Tryz.pinned : Pinned := { name := "ytkohfomiigcifaagreatdoor", sum := "60b0fd6e957b5cdaf97f20c161f19c2922e58aecc3e1aae6e8210b1963cd7709", checked := Tryz.checked }
namespace Rows
def none {H : Type} : Left H := { results := [], args := [] }

/- WHAT THE LISTED PACKAGE-LEVEL VARIABLES READ AS WHEN THE CALL BEGINS. Each datum BY PROGRAM (the guide's laid-datum.mjs) off the statement by which the dump's own 'gosem.cut.vars' lays the variable. In a bare row this is a premise. The card (YtkohfomiigcifaaGreatDoorCards.lean) ties it to the program's text. -/
def laid_math_bits_deBruijn32tab {H : Type} : DataW H := .agg [.lit (.int .u8 0), .lit (.int .u8 1), .lit (.int .u8 28), .lit (.int .u8 2), .lit (.int .u8 29), .lit (.int .u8 14), .lit (.int .u8 24), .lit (.int .u8 3), .lit (.int .u8 30), .lit (.int .u8 22), .lit (.int .u8 20), .lit (.int .u8 15), .lit (.int .u8 25), .lit (.int .u8 17), .lit (.int .u8 4), .lit (.int .u8 8), .lit (.int .u8 31), .lit (.int .u8 27), .lit (.int .u8 13), .lit (.int .u8 23), .lit (.int .u8 21), .lit (.int .u8 19), .lit (.int .u8 16), .lit (.int .u8 7), .lit (.int .u8 26), .lit (.int .u8 12), .lit (.int .u8 18), .lit (.int .u8 6), .lit (.int .u8 11), .lit (.int .u8 5), .lit (.int .u8 10), .lit (.int .u8 9)]
def laid_math_bits_deBruijn64tab {H : Type} : DataW H := .agg [.lit (.int .u8 0), .lit (.int .u8 1), .lit (.int .u8 56), .lit (.int .u8 2), .lit (.int .u8 57), .lit (.int .u8 49), .lit (.int .u8 28), .lit (.int .u8 3), .lit (.int .u8 61), .lit (.int .u8 58), .lit (.int .u8 42), .lit (.int .u8 50), .lit (.int .u8 38), .lit (.int .u8 29), .lit (.int .u8 17), .lit (.int .u8 4), .lit (.int .u8 62), .lit (.int .u8 47), .lit (.int .u8 59), .lit (.int .u8 36), .lit (.int .u8 45), .lit (.int .u8 43), .lit (.int .u8 51), .lit (.int .u8 22), .lit (.int .u8 53), .lit (.int .u8 39), .lit (.int .u8 33), .lit (.int .u8 30), .lit (.int .u8 24), .lit (.int .u8 18), .lit (.int .u8 12), .lit (.int .u8 5), .lit (.int .u8 63), .lit (.int .u8 55), .lit (.int .u8 48), .lit (.int .u8 27), .lit (.int .u8 60), .lit (.int .u8 41), .lit (.int .u8 37), .lit (.int .u8 16), .lit (.int .u8 46), .lit (.int .u8 35), .lit (.int .u8 44), .lit (.int .u8 21), .lit (.int .u8 52), .lit (.int .u8 32), .lit (.int .u8 23), .lit (.int .u8 11), .lit (.int .u8 54), .lit (.int .u8 26), .lit (.int .u8 40), .lit (.int .u8 15), .lit (.int .u8 34), .lit (.int .u8 20), .lit (.int .u8 31), .lit (.int .u8 10), .lit (.int .u8 25), .lit (.int .u8 14), .lit (.int .u8 19), .lit (.int .u8 9), .lit (.int .u8 13), .lit (.int .u8 8), .lit (.int .u8 7), .lit (.int .u8 6)]
def laid_internal_strconv_uint64pow10 {H : Type} : DataW H := .agg [.lit (.int .u64 1), .lit (.int .u64 10), .lit (.int .u64 100), .lit (.int .u64 1000), .lit (.int .u64 10000), .lit (.int .u64 100000), .lit (.int .u64 1000000), .lit (.int .u64 10000000), .lit (.int .u64 100000000), .lit (.int .u64 1000000000), .lit (.int .u64 10000000000), .lit (.int .u64 100000000000), .lit (.int .u64 1000000000000), .lit (.int .u64 10000000000000), .lit (.int .u64 100000000000000), .lit (.int .u64 1000000000000000), .lit (.int .u64 10000000000000000), .lit (.int .u64 100000000000000000), .lit (.int .u64 1000000000000000000), .lit (.int .u64 10000000000000000000)]
def laid_strconv_ErrRange {H : Type} : DataW H := .iface "*errors.errorString" (.ptr (.agg [.lit (.string [118, 97, 108, 117, 101, 32, 111, 117, 116, 32, 111, 102, 32, 114, 97, 110, 103, 101])]))
def laid_strconv_ErrSyntax {H : Type} : DataW H := .iface "*errors.errorString" (.ptr (.agg [.lit (.string [105, 110, 118, 97, 108, 105, 100, 32, 115, 121, 110, 116, 97, 120])]))
def laid_cardgame_counter_names {H : Type} : DataW H := .agg [.lit (.string [112, 108, 117, 115]), .lit (.string [109, 105, 110, 117, 115]), .lit (.string [99, 104, 97, 114, 103, 101])]
def laid_cardgame_color_names {H : Type} : DataW H := .agg [.lit (.string [97, 109, 98, 101, 114]), .lit (.string [99, 111, 98, 97, 108, 116]), .lit (.string [106, 101, 116]), .lit (.string [114, 117, 98, 121]), .lit (.string [101, 109, 101, 114, 97, 108, 100])]
def laid_cardgame_line_words {H : Type} : DataW H := .agg [.lit (.string [98, 97, 115, 105, 99]), .lit (.string [117, 110, 105, 113, 117, 101]), .lit (.string [99, 114, 101, 97, 116, 117, 114, 101]), .lit (.string [105, 110, 115, 116, 97, 110, 116]), .lit (.string [114, 105, 116, 117, 97, 108]), .lit (.string [114, 101, 108, 105, 99]), .lit (.string [99, 104, 97, 114, 109]), .lit (.string [108, 97, 110, 100])]

/-- 'cardgamelaw19.InsteadIs': WHATEVER THE INPUT: true; the input reads as it did. -/
def insteadIsSpec : ChangeSpec := { name := "insteadIs", fn := fun _ => fun
  | [d] => { results := [.lit (.bool true)], args := [d] }
  | _ => none }
def insteadIsRow : OpenClaim := { program := "ytkohfomiigcifaagreatdoor", sum := "60b0fd6e957b5cdaf97f20c161f19c2922e58aecc3e1aae6e8210b1963cd7709", func := "cardgame/cardgamelaw19.InsteadIs", spec := "insteadIs", inPlace := ["internal/abi.NoEscape", "internal/bytealg.MakeNoZero", "internal/bytealg.IndexByteString", "internal/bytealg.IndexString"], unfollowed := true, recurses := true, named := ["strconv.ErrSyntax", "strconv.ErrRange", "internal/strconv.uint64pow10", "math/bits.deBruijn32tab", "math/bits.deBruijn64tab", "cardgame/counter.names", "cardgame/line.words", "cardgame/color.names", "internal/bytealg.MaxLen"], apart := false, laid := [("math/bits.deBruijn32tab", laid_math_bits_deBruijn32tab), ("math/bits.deBruijn64tab", laid_math_bits_deBruijn64tab), ("internal/strconv.uint64pow10", laid_internal_strconv_uint64pow10), ("strconv.ErrRange", laid_strconv_ErrRange), ("strconv.ErrSyntax", laid_strconv_ErrSyntax), ("cardgame/counter.names", laid_cardgame_counter_names), ("cardgame/color.names", laid_cardgame_color_names), ("cardgame/line.words", laid_cardgame_line_words)] }
def InsteadIsSaid : Prop := insteadIsRow.holds Tryz.pinned (OpenSpec.ofChange insteadIsSpec)

/-- ITS FALSE NEIGHBOUR: 'it returns false'. Refute it at one input. -/
def insteadIsWrong : ChangeSpec := { name := "insteadIs", fn := fun _ => fun
  | [d] => { results := [.lit (.bool false)], args := [d] }
  | _ => none }
def InsteadIsWrongFalsely : Prop := insteadIsRow.holds Tryz.pinned (OpenSpec.ofChange insteadIsWrong)

/-- 'cardgamelaw19.InsteadTexts': WHATEVER THE INPUT: true; the input reads as it did. -/
def insteadTextsSpec : ChangeSpec := { name := "insteadTexts", fn := fun _ => fun
  | [d] => { results := [.lit (.bool true)], args := [d] }
  | _ => none }
def insteadTextsRow : OpenClaim := { program := "ytkohfomiigcifaagreatdoor", sum := "60b0fd6e957b5cdaf97f20c161f19c2922e58aecc3e1aae6e8210b1963cd7709", func := "cardgame/cardgamelaw19.InsteadTexts", spec := "insteadTexts", inPlace := ["internal/abi.NoEscape", "internal/bytealg.MakeNoZero", "internal/bytealg.IndexByteString", "internal/bytealg.IndexString"], unfollowed := true, recurses := true, named := ["strconv.ErrSyntax", "strconv.ErrRange", "internal/strconv.uint64pow10", "math/bits.deBruijn32tab", "math/bits.deBruijn64tab", "cardgame/counter.names", "cardgame/line.words", "cardgame/color.names", "internal/bytealg.MaxLen"], apart := false, laid := [("math/bits.deBruijn32tab", laid_math_bits_deBruijn32tab), ("math/bits.deBruijn64tab", laid_math_bits_deBruijn64tab), ("internal/strconv.uint64pow10", laid_internal_strconv_uint64pow10), ("strconv.ErrRange", laid_strconv_ErrRange), ("strconv.ErrSyntax", laid_strconv_ErrSyntax), ("cardgame/counter.names", laid_cardgame_counter_names), ("cardgame/color.names", laid_cardgame_color_names), ("cardgame/line.words", laid_cardgame_line_words)] }
def InsteadTextsSaid : Prop := insteadTextsRow.holds Tryz.pinned (OpenSpec.ofChange insteadTextsSpec)

/-- ITS FALSE NEIGHBOUR: 'it returns false'. Refute it at one input. -/
def insteadTextsWrong : ChangeSpec := { name := "insteadTexts", fn := fun _ => fun
  | [d] => { results := [.lit (.bool false)], args := [d] }
  | _ => none }
def InsteadTextsWrongFalsely : Prop := insteadTextsRow.holds Tryz.pinned (OpenSpec.ofChange insteadTextsWrong)

/-- 'cardgamelaw19.InsteadParses': WHATEVER THE INPUT: true; the input reads as it did. -/
def insteadParsesSpec : ChangeSpec := { name := "insteadParses", fn := fun _ => fun
  | [d] => { results := [.lit (.bool true)], args := [d] }
  | _ => none }
def insteadParsesRow : OpenClaim := { program := "ytkohfomiigcifaagreatdoor", sum := "60b0fd6e957b5cdaf97f20c161f19c2922e58aecc3e1aae6e8210b1963cd7709", func := "cardgame/cardgamelaw19.InsteadParses", spec := "insteadParses", inPlace := ["internal/abi.NoEscape", "internal/bytealg.MakeNoZero", "internal/bytealg.IndexByteString", "internal/bytealg.IndexString"], unfollowed := true, recurses := true, named := ["strconv.ErrSyntax", "strconv.ErrRange", "internal/strconv.uint64pow10", "math/bits.deBruijn32tab", "math/bits.deBruijn64tab", "cardgame/counter.names", "cardgame/line.words", "cardgame/color.names", "internal/bytealg.MaxLen"], apart := false, laid := [("math/bits.deBruijn32tab", laid_math_bits_deBruijn32tab), ("math/bits.deBruijn64tab", laid_math_bits_deBruijn64tab), ("internal/strconv.uint64pow10", laid_internal_strconv_uint64pow10), ("strconv.ErrRange", laid_strconv_ErrRange), ("strconv.ErrSyntax", laid_strconv_ErrSyntax), ("cardgame/counter.names", laid_cardgame_counter_names), ("cardgame/color.names", laid_cardgame_color_names), ("cardgame/line.words", laid_cardgame_line_words)] }
def InsteadParsesSaid : Prop := insteadParsesRow.holds Tryz.pinned (OpenSpec.ofChange insteadParsesSpec)

/-- ITS FALSE NEIGHBOUR: 'it returns false'. Refute it at one input. -/
def insteadParsesWrong : ChangeSpec := { name := "insteadParses", fn := fun _ => fun
  | [d] => { results := [.lit (.bool false)], args := [d] }
  | _ => none }
def InsteadParsesWrongFalsely : Prop := insteadParsesRow.holds Tryz.pinned (OpenSpec.ofChange insteadParsesWrong)

/-- 'cardgamelaw19.InsteadBack': WHATEVER THE INPUT: true; the input reads as it did. -/
def insteadBackSpec : ChangeSpec := { name := "insteadBack", fn := fun _ => fun
  | [d1, d2] => { results := [.lit (.bool true)], args := [d1, d2] }
  | _ => none }
def insteadBackRow : OpenClaim := { program := "ytkohfomiigcifaagreatdoor", sum := "60b0fd6e957b5cdaf97f20c161f19c2922e58aecc3e1aae6e8210b1963cd7709", func := "cardgame/cardgamelaw19.InsteadBack", spec := "insteadBack", inPlace := ["internal/abi.NoEscape", "internal/bytealg.MakeNoZero", "internal/bytealg.IndexByteString", "internal/bytealg.IndexString"], unfollowed := true, recurses := true, named := ["strconv.ErrSyntax", "strconv.ErrRange", "internal/strconv.uint64pow10", "math/bits.deBruijn32tab", "math/bits.deBruijn64tab", "cardgame/counter.names", "cardgame/line.words", "cardgame/color.names", "internal/bytealg.MaxLen"], apart := false, laid := [("math/bits.deBruijn32tab", laid_math_bits_deBruijn32tab), ("math/bits.deBruijn64tab", laid_math_bits_deBruijn64tab), ("internal/strconv.uint64pow10", laid_internal_strconv_uint64pow10), ("strconv.ErrRange", laid_strconv_ErrRange), ("strconv.ErrSyntax", laid_strconv_ErrSyntax), ("cardgame/counter.names", laid_cardgame_counter_names), ("cardgame/color.names", laid_cardgame_color_names), ("cardgame/line.words", laid_cardgame_line_words)] }
def InsteadBackSaid : Prop := insteadBackRow.holds Tryz.pinned (OpenSpec.ofChange insteadBackSpec)

/-- ITS FALSE NEIGHBOUR: 'it returns false'. Refute it at one input. -/
def insteadBackWrong : ChangeSpec := { name := "insteadBack", fn := fun _ => fun
  | [d1, d2] => { results := [.lit (.bool false)], args := [d1, d2] }
  | _ => none }
def InsteadBackWrongFalsely : Prop := insteadBackRow.holds Tryz.pinned (OpenSpec.ofChange insteadBackWrong)

/-- 'cardgamelaw19.InsteadNumbers': WHATEVER THE INPUT: true; the input reads as it did. -/
def insteadNumbersSpec : ChangeSpec := { name := "insteadNumbers", fn := fun _ => fun
  | [d1, d2] => { results := [.lit (.bool true)], args := [d1, d2] }
  | _ => none }
def insteadNumbersRow : OpenClaim := { program := "ytkohfomiigcifaagreatdoor", sum := "60b0fd6e957b5cdaf97f20c161f19c2922e58aecc3e1aae6e8210b1963cd7709", func := "cardgame/cardgamelaw19.InsteadNumbers", spec := "insteadNumbers", inPlace := ["internal/bytealg.IndexByteString", "internal/bytealg.IndexString", "internal/abi.NoEscape", "internal/bytealg.MakeNoZero"], unfollowed := true, recurses := true, named := ["cardgame/line.words", "internal/bytealg.MaxLen", "cardgame/counter.names", "strconv.ErrSyntax", "strconv.ErrRange", "internal/strconv.uint64pow10", "math/bits.deBruijn32tab", "math/bits.deBruijn64tab", "cardgame/color.names"], apart := false, laid := [("math/bits.deBruijn32tab", laid_math_bits_deBruijn32tab), ("math/bits.deBruijn64tab", laid_math_bits_deBruijn64tab), ("internal/strconv.uint64pow10", laid_internal_strconv_uint64pow10), ("strconv.ErrRange", laid_strconv_ErrRange), ("strconv.ErrSyntax", laid_strconv_ErrSyntax), ("cardgame/counter.names", laid_cardgame_counter_names), ("cardgame/color.names", laid_cardgame_color_names), ("cardgame/line.words", laid_cardgame_line_words)] }
def InsteadNumbersSaid : Prop := insteadNumbersRow.holds Tryz.pinned (OpenSpec.ofChange insteadNumbersSpec)

/-- ITS FALSE NEIGHBOUR: 'it returns false'. Refute it at one input. -/
def insteadNumbersWrong : ChangeSpec := { name := "insteadNumbers", fn := fun _ => fun
  | [d1, d2] => { results := [.lit (.bool false)], args := [d1, d2] }
  | _ => none }
def InsteadNumbersWrongFalsely : Prop := insteadNumbersRow.holds Tryz.pinned (OpenSpec.ofChange insteadNumbersWrong)

/-- 'cardgamelaw19.InsteadApart': WHATEVER THE INPUT: true; the input reads as it did. -/
def insteadApartSpec : ChangeSpec := { name := "insteadApart", fn := fun _ => fun
  | [d1, d2] => { results := [.lit (.bool true)], args := [d1, d2] }
  | _ => none }
def insteadApartRow : OpenClaim := { program := "ytkohfomiigcifaagreatdoor", sum := "60b0fd6e957b5cdaf97f20c161f19c2922e58aecc3e1aae6e8210b1963cd7709", func := "cardgame/cardgamelaw19.InsteadApart", spec := "insteadApart", inPlace := ["internal/bytealg.IndexByteString", "internal/bytealg.IndexString", "internal/abi.NoEscape", "internal/bytealg.MakeNoZero"], unfollowed := true, recurses := true, named := ["cardgame/line.words", "internal/bytealg.MaxLen", "cardgame/counter.names", "strconv.ErrSyntax", "strconv.ErrRange", "internal/strconv.uint64pow10", "math/bits.deBruijn32tab", "math/bits.deBruijn64tab", "cardgame/color.names"], apart := false, laid := [("math/bits.deBruijn32tab", laid_math_bits_deBruijn32tab), ("math/bits.deBruijn64tab", laid_math_bits_deBruijn64tab), ("internal/strconv.uint64pow10", laid_internal_strconv_uint64pow10), ("strconv.ErrRange", laid_strconv_ErrRange), ("strconv.ErrSyntax", laid_strconv_ErrSyntax), ("cardgame/counter.names", laid_cardgame_counter_names), ("cardgame/color.names", laid_cardgame_color_names), ("cardgame/line.words", laid_cardgame_line_words)] }
def InsteadApartSaid : Prop := insteadApartRow.holds Tryz.pinned (OpenSpec.ofChange insteadApartSpec)

/-- ITS FALSE NEIGHBOUR: 'it returns false'. Refute it at one input. -/
def insteadApartWrong : ChangeSpec := { name := "insteadApart", fn := fun _ => fun
  | [d1, d2] => { results := [.lit (.bool false)], args := [d1, d2] }
  | _ => none }
def InsteadApartWrongFalsely : Prop := insteadApartRow.holds Tryz.pinned (OpenSpec.ofChange insteadApartWrong)

/- THE SECOND FORM. 'bulk': how many values and letters a reading holds, each counted each time it is reached (what is shared counts as often as it is met; a slice's spare places count too). A statement '..UptoSaid' is the law's where the arguments, and the package variables that the reading takes, are together of bulk at most 1048576: NARROWER than '..Said'. Prove '..Said' where nothing that the law and all that it calls make is longer than what came in: it says more and counts as full. Else prove '..UptoSaid'. A law counts once. -/
mutual
def uptoBulk {H : Type} : DataW H → Nat
  | .lit (.string bytes) => bytes.length + 1
  | .lit _ => 1
  | .nil => 1
  | .ptr d => uptoBulk d + 1
  | .slice elems spare => uptoBulkAll elems + uptoBulkAll spare + 1
  | .agg parts => uptoBulkAll parts + 1
  | .iface _ d => uptoBulk d + 1
  | .map entries => uptoBulkEntries entries + 1
  | .held _ => 1
def uptoBulkAll {H : Type} : List (DataW H) → Nat
  | [] => 0
  | d :: r => uptoBulk d + uptoBulkAll r
def uptoBulkEntries {H : Type} : List (Lit × DataW H) → Nat
  | [] => 0
  | x :: r => uptoBulkEntry x + uptoBulkEntries r
def uptoBulkEntry {H : Type} : Lit × DataW H → Nat
  | (.string bytes, d) => bytes.length + uptoBulk d + 1
  | (_, d) => uptoBulk d + 1
 end
def uptoSmall : (H : Type) → List (DataW H) → Bool := fun _ ds => decide (uptoBulkAll ds ≤ 1048576)
def OpenSpec.upto (s : _root_.Go.ChangeSpec) : _root_.Go.OpenSpec := { _root_.Go.OpenSpec.ofChange s with cond := some uptoSmall }

/-- 'cardgamelaw19.InsteadIs', WHERE WHAT IT READS IS OF BULK AT MOST 1048576: true; the input reads as it did. -/
def insteadIsUptoRow : OpenClaim := { program := "ytkohfomiigcifaagreatdoor", sum := "60b0fd6e957b5cdaf97f20c161f19c2922e58aecc3e1aae6e8210b1963cd7709", func := "cardgame/cardgamelaw19.InsteadIs", spec := "insteadIs", inPlace := ["internal/abi.NoEscape", "internal/bytealg.MakeNoZero", "internal/bytealg.IndexByteString", "internal/bytealg.IndexString"], unfollowed := true, recurses := true, named := ["strconv.ErrSyntax", "strconv.ErrRange", "internal/strconv.uint64pow10", "math/bits.deBruijn32tab", "math/bits.deBruijn64tab", "cardgame/counter.names", "cardgame/line.words", "cardgame/color.names", "internal/bytealg.MaxLen"], apart := false, laid := [("math/bits.deBruijn32tab", laid_math_bits_deBruijn32tab), ("math/bits.deBruijn64tab", laid_math_bits_deBruijn64tab), ("internal/strconv.uint64pow10", laid_internal_strconv_uint64pow10), ("strconv.ErrRange", laid_strconv_ErrRange), ("strconv.ErrSyntax", laid_strconv_ErrSyntax), ("cardgame/counter.names", laid_cardgame_counter_names), ("cardgame/color.names", laid_cardgame_color_names), ("cardgame/line.words", laid_cardgame_line_words)], narrowed := true }
def InsteadIsUptoSaid : Prop := insteadIsUptoRow.holds Tryz.pinned (OpenSpec.upto insteadIsSpec)

/-- 'cardgamelaw19.InsteadTexts', WHERE WHAT IT READS IS OF BULK AT MOST 1048576: true; the input reads as it did. -/
def insteadTextsUptoRow : OpenClaim := { program := "ytkohfomiigcifaagreatdoor", sum := "60b0fd6e957b5cdaf97f20c161f19c2922e58aecc3e1aae6e8210b1963cd7709", func := "cardgame/cardgamelaw19.InsteadTexts", spec := "insteadTexts", inPlace := ["internal/abi.NoEscape", "internal/bytealg.MakeNoZero", "internal/bytealg.IndexByteString", "internal/bytealg.IndexString"], unfollowed := true, recurses := true, named := ["strconv.ErrSyntax", "strconv.ErrRange", "internal/strconv.uint64pow10", "math/bits.deBruijn32tab", "math/bits.deBruijn64tab", "cardgame/counter.names", "cardgame/line.words", "cardgame/color.names", "internal/bytealg.MaxLen"], apart := false, laid := [("math/bits.deBruijn32tab", laid_math_bits_deBruijn32tab), ("math/bits.deBruijn64tab", laid_math_bits_deBruijn64tab), ("internal/strconv.uint64pow10", laid_internal_strconv_uint64pow10), ("strconv.ErrRange", laid_strconv_ErrRange), ("strconv.ErrSyntax", laid_strconv_ErrSyntax), ("cardgame/counter.names", laid_cardgame_counter_names), ("cardgame/color.names", laid_cardgame_color_names), ("cardgame/line.words", laid_cardgame_line_words)], narrowed := true }
def InsteadTextsUptoSaid : Prop := insteadTextsUptoRow.holds Tryz.pinned (OpenSpec.upto insteadTextsSpec)

/-- 'cardgamelaw19.InsteadParses', WHERE WHAT IT READS IS OF BULK AT MOST 1048576: true; the input reads as it did. -/
def insteadParsesUptoRow : OpenClaim := { program := "ytkohfomiigcifaagreatdoor", sum := "60b0fd6e957b5cdaf97f20c161f19c2922e58aecc3e1aae6e8210b1963cd7709", func := "cardgame/cardgamelaw19.InsteadParses", spec := "insteadParses", inPlace := ["internal/abi.NoEscape", "internal/bytealg.MakeNoZero", "internal/bytealg.IndexByteString", "internal/bytealg.IndexString"], unfollowed := true, recurses := true, named := ["strconv.ErrSyntax", "strconv.ErrRange", "internal/strconv.uint64pow10", "math/bits.deBruijn32tab", "math/bits.deBruijn64tab", "cardgame/counter.names", "cardgame/line.words", "cardgame/color.names", "internal/bytealg.MaxLen"], apart := false, laid := [("math/bits.deBruijn32tab", laid_math_bits_deBruijn32tab), ("math/bits.deBruijn64tab", laid_math_bits_deBruijn64tab), ("internal/strconv.uint64pow10", laid_internal_strconv_uint64pow10), ("strconv.ErrRange", laid_strconv_ErrRange), ("strconv.ErrSyntax", laid_strconv_ErrSyntax), ("cardgame/counter.names", laid_cardgame_counter_names), ("cardgame/color.names", laid_cardgame_color_names), ("cardgame/line.words", laid_cardgame_line_words)], narrowed := true }
def InsteadParsesUptoSaid : Prop := insteadParsesUptoRow.holds Tryz.pinned (OpenSpec.upto insteadParsesSpec)

/-- 'cardgamelaw19.InsteadBack', WHERE WHAT IT READS IS OF BULK AT MOST 1048576: true; the input reads as it did. -/
def insteadBackUptoRow : OpenClaim := { program := "ytkohfomiigcifaagreatdoor", sum := "60b0fd6e957b5cdaf97f20c161f19c2922e58aecc3e1aae6e8210b1963cd7709", func := "cardgame/cardgamelaw19.InsteadBack", spec := "insteadBack", inPlace := ["internal/abi.NoEscape", "internal/bytealg.MakeNoZero", "internal/bytealg.IndexByteString", "internal/bytealg.IndexString"], unfollowed := true, recurses := true, named := ["strconv.ErrSyntax", "strconv.ErrRange", "internal/strconv.uint64pow10", "math/bits.deBruijn32tab", "math/bits.deBruijn64tab", "cardgame/counter.names", "cardgame/line.words", "cardgame/color.names", "internal/bytealg.MaxLen"], apart := false, laid := [("math/bits.deBruijn32tab", laid_math_bits_deBruijn32tab), ("math/bits.deBruijn64tab", laid_math_bits_deBruijn64tab), ("internal/strconv.uint64pow10", laid_internal_strconv_uint64pow10), ("strconv.ErrRange", laid_strconv_ErrRange), ("strconv.ErrSyntax", laid_strconv_ErrSyntax), ("cardgame/counter.names", laid_cardgame_counter_names), ("cardgame/color.names", laid_cardgame_color_names), ("cardgame/line.words", laid_cardgame_line_words)], narrowed := true }
def InsteadBackUptoSaid : Prop := insteadBackUptoRow.holds Tryz.pinned (OpenSpec.upto insteadBackSpec)

/-- 'cardgamelaw19.InsteadNumbers', WHERE WHAT IT READS IS OF BULK AT MOST 1048576: true; the input reads as it did. -/
def insteadNumbersUptoRow : OpenClaim := { program := "ytkohfomiigcifaagreatdoor", sum := "60b0fd6e957b5cdaf97f20c161f19c2922e58aecc3e1aae6e8210b1963cd7709", func := "cardgame/cardgamelaw19.InsteadNumbers", spec := "insteadNumbers", inPlace := ["internal/bytealg.IndexByteString", "internal/bytealg.IndexString", "internal/abi.NoEscape", "internal/bytealg.MakeNoZero"], unfollowed := true, recurses := true, named := ["cardgame/line.words", "internal/bytealg.MaxLen", "cardgame/counter.names", "strconv.ErrSyntax", "strconv.ErrRange", "internal/strconv.uint64pow10", "math/bits.deBruijn32tab", "math/bits.deBruijn64tab", "cardgame/color.names"], apart := false, laid := [("math/bits.deBruijn32tab", laid_math_bits_deBruijn32tab), ("math/bits.deBruijn64tab", laid_math_bits_deBruijn64tab), ("internal/strconv.uint64pow10", laid_internal_strconv_uint64pow10), ("strconv.ErrRange", laid_strconv_ErrRange), ("strconv.ErrSyntax", laid_strconv_ErrSyntax), ("cardgame/counter.names", laid_cardgame_counter_names), ("cardgame/color.names", laid_cardgame_color_names), ("cardgame/line.words", laid_cardgame_line_words)], narrowed := true }
def InsteadNumbersUptoSaid : Prop := insteadNumbersUptoRow.holds Tryz.pinned (OpenSpec.upto insteadNumbersSpec)

/-- 'cardgamelaw19.InsteadApart', WHERE WHAT IT READS IS OF BULK AT MOST 1048576: true; the input reads as it did. -/
def insteadApartUptoRow : OpenClaim := { program := "ytkohfomiigcifaagreatdoor", sum := "60b0fd6e957b5cdaf97f20c161f19c2922e58aecc3e1aae6e8210b1963cd7709", func := "cardgame/cardgamelaw19.InsteadApart", spec := "insteadApart", inPlace := ["internal/bytealg.IndexByteString", "internal/bytealg.IndexString", "internal/abi.NoEscape", "internal/bytealg.MakeNoZero"], unfollowed := true, recurses := true, named := ["cardgame/line.words", "internal/bytealg.MaxLen", "cardgame/counter.names", "strconv.ErrSyntax", "strconv.ErrRange", "internal/strconv.uint64pow10", "math/bits.deBruijn32tab", "math/bits.deBruijn64tab", "cardgame/color.names"], apart := false, laid := [("math/bits.deBruijn32tab", laid_math_bits_deBruijn32tab), ("math/bits.deBruijn64tab", laid_math_bits_deBruijn64tab), ("internal/strconv.uint64pow10", laid_internal_strconv_uint64pow10), ("strconv.ErrRange", laid_strconv_ErrRange), ("strconv.ErrSyntax", laid_strconv_ErrSyntax), ("cardgame/counter.names", laid_cardgame_counter_names), ("cardgame/color.names", laid_cardgame_color_names), ("cardgame/line.words", laid_cardgame_line_words)], narrowed := true }
def InsteadApartUptoSaid : Prop := insteadApartUptoRow.holds Tryz.pinned (OpenSpec.upto insteadApartSpec)

end Rows
end Go.Proofs.YtkohfomiigcifaaGreatDoor
