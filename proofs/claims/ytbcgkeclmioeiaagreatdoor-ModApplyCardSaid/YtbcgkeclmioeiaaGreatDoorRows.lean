/-
  NARROWER THAN 'FOR EVERY INPUT', by the rows' own cells (each row's printed sentence says how): RefIs: laid · RefTexts: laid · RefParses: laid · RefBack: laid · RefSpecs: laid · ModParse: laid · ModLists: laid · ModApply: laid · ModSwitches: laid · ModOwn: laid.
  DERIVED. THE GIVEN ROWS OF THIS SEAT. 10 by the template 'for every input the law returns true; each argument reads behind the call as it read before'; 0 by the template 'total and deterministic' (their statements: YtbcgkeclmioeiaaGreatDoorTotals.lean).
  GIVEN WITH THE SEED: the statements are not yours to turn. If you find one false, say at which input.
  Laid BY PROGRAM, IN A SANDBOX (cutbox-rows.mjs): the forced cells as the released guide's own fill.sh prints them over the translation 44a09c49d58bcd39… (all of the seat's roots in one cut). By AI agents, Wed Nov 11 2026. No macro, syntax, notation, axiom, sorry.
-/
import Derived.Test.YtbcgkeclmioeiaaGreatDoorChecked
import GoSem.Claim
import GoSem.ClaimJoined
import GoSem.ClaimMapViews
import Derived.JoinedTies
import Derived.KernelRfl
namespace Go.Proofs.YtbcgkeclmioeiaaGreatDoor
/- THE CELL 'sum', in the pinned program and in every row, IS THE sha256 OF THE DUMP (.gsa) THAT YtbcgkeclmioeiaaGreatDoorProg.lean LOADS. Nothing in Lean hashes anything: it is a label: what it is worth is what the hold of that sum in a sandbox is worth. -/
noncomputable def Tryz.pinned : Pinned := { name := "ytbcgkeclmioeiaagreatdoor", sum := "44a09c49d58bcd3924097743682272e4e6c0960717a554267ac4e35d937abb97", checked := Tryz.checked }
namespace Rows
def none {H : Type} : Left H := { results := [], args := [] }

/- WHAT THE LISTED PACKAGE-LEVEL VARIABLES READ AS WHEN THE CALL BEGINS. Each datum BY PROGRAM (the guide's laid-datum.mjs) off the statement by which the dump's own 'gosem.cut.vars' lays the variable. In a bare row this is a premise. The card (YtbcgkeclmioeiaaGreatDoorCards.lean) ties it to the program's text. -/
def laid_math_bits_deBruijn32tab {H : Type} : DataW H := .agg [.lit (.int .u8 0), .lit (.int .u8 1), .lit (.int .u8 28), .lit (.int .u8 2), .lit (.int .u8 29), .lit (.int .u8 14), .lit (.int .u8 24), .lit (.int .u8 3), .lit (.int .u8 30), .lit (.int .u8 22), .lit (.int .u8 20), .lit (.int .u8 15), .lit (.int .u8 25), .lit (.int .u8 17), .lit (.int .u8 4), .lit (.int .u8 8), .lit (.int .u8 31), .lit (.int .u8 27), .lit (.int .u8 13), .lit (.int .u8 23), .lit (.int .u8 21), .lit (.int .u8 19), .lit (.int .u8 16), .lit (.int .u8 7), .lit (.int .u8 26), .lit (.int .u8 12), .lit (.int .u8 18), .lit (.int .u8 6), .lit (.int .u8 11), .lit (.int .u8 5), .lit (.int .u8 10), .lit (.int .u8 9)]
def laid_math_bits_deBruijn64tab {H : Type} : DataW H := .agg [.lit (.int .u8 0), .lit (.int .u8 1), .lit (.int .u8 56), .lit (.int .u8 2), .lit (.int .u8 57), .lit (.int .u8 49), .lit (.int .u8 28), .lit (.int .u8 3), .lit (.int .u8 61), .lit (.int .u8 58), .lit (.int .u8 42), .lit (.int .u8 50), .lit (.int .u8 38), .lit (.int .u8 29), .lit (.int .u8 17), .lit (.int .u8 4), .lit (.int .u8 62), .lit (.int .u8 47), .lit (.int .u8 59), .lit (.int .u8 36), .lit (.int .u8 45), .lit (.int .u8 43), .lit (.int .u8 51), .lit (.int .u8 22), .lit (.int .u8 53), .lit (.int .u8 39), .lit (.int .u8 33), .lit (.int .u8 30), .lit (.int .u8 24), .lit (.int .u8 18), .lit (.int .u8 12), .lit (.int .u8 5), .lit (.int .u8 63), .lit (.int .u8 55), .lit (.int .u8 48), .lit (.int .u8 27), .lit (.int .u8 60), .lit (.int .u8 41), .lit (.int .u8 37), .lit (.int .u8 16), .lit (.int .u8 46), .lit (.int .u8 35), .lit (.int .u8 44), .lit (.int .u8 21), .lit (.int .u8 52), .lit (.int .u8 32), .lit (.int .u8 23), .lit (.int .u8 11), .lit (.int .u8 54), .lit (.int .u8 26), .lit (.int .u8 40), .lit (.int .u8 15), .lit (.int .u8 34), .lit (.int .u8 20), .lit (.int .u8 31), .lit (.int .u8 10), .lit (.int .u8 25), .lit (.int .u8 14), .lit (.int .u8 19), .lit (.int .u8 9), .lit (.int .u8 13), .lit (.int .u8 8), .lit (.int .u8 7), .lit (.int .u8 6)]
def laid_internal_strconv_uint64pow10 {H : Type} : DataW H := .agg [.lit (.int .u64 1), .lit (.int .u64 10), .lit (.int .u64 100), .lit (.int .u64 1000), .lit (.int .u64 10000), .lit (.int .u64 100000), .lit (.int .u64 1000000), .lit (.int .u64 10000000), .lit (.int .u64 100000000), .lit (.int .u64 1000000000), .lit (.int .u64 10000000000), .lit (.int .u64 100000000000), .lit (.int .u64 1000000000000), .lit (.int .u64 10000000000000), .lit (.int .u64 100000000000000), .lit (.int .u64 1000000000000000), .lit (.int .u64 10000000000000000), .lit (.int .u64 100000000000000000), .lit (.int .u64 1000000000000000000), .lit (.int .u64 10000000000000000000)]
def laid_strconv_ErrRange {H : Type} : DataW H := .iface "*errors.errorString" (.ptr (.agg [.lit (.string [118, 97, 108, 117, 101, 32, 111, 117, 116, 32, 111, 102, 32, 114, 97, 110, 103, 101])]))
def laid_strconv_ErrSyntax {H : Type} : DataW H := .iface "*errors.errorString" (.ptr (.agg [.lit (.string [105, 110, 118, 97, 108, 105, 100, 32, 115, 121, 110, 116, 97, 120])]))
def laid_cardgame_color_names {H : Type} : DataW H := .agg [.lit (.string [97, 109, 98, 101, 114]), .lit (.string [99, 111, 98, 97, 108, 116]), .lit (.string [106, 101, 116]), .lit (.string [114, 117, 98, 121]), .lit (.string [101, 109, 101, 114, 97, 108, 100])]
def laid_cardgame_line_words {H : Type} : DataW H := .agg [.lit (.string [98, 97, 115, 105, 99]), .lit (.string [117, 110, 105, 113, 117, 101]), .lit (.string [99, 114, 101, 97, 116, 117, 114, 101]), .lit (.string [105, 110, 115, 116, 97, 110, 116]), .lit (.string [114, 105, 116, 117, 97, 108]), .lit (.string [114, 101, 108, 105, 99]), .lit (.string [99, 104, 97, 114, 109]), .lit (.string [108, 97, 110, 100])]

/-- 'cardgamelaw16.RefIs': WHATEVER THE INPUT: true; the input reads as it did. -/
def refIsSpec : ChangeSpec := { name := "refIs", fn := fun _ => fun
  | [d1, d2] => { results := [.lit (.bool true)], args := [d1, d2] }
  | _ => none }
def refIsRow : OpenClaim := { program := "ytbcgkeclmioeiaagreatdoor", sum := "44a09c49d58bcd3924097743682272e4e6c0960717a554267ac4e35d937abb97", func := "cardgame/cardgamelaw16.RefIs", spec := "refIs", inPlace := ["internal/abi.NoEscape", "internal/bytealg.MakeNoZero", "internal/bytealg.IndexByteString", "internal/bytealg.IndexString"], unfollowed := true, recurses := true, named := ["strconv.ErrSyntax", "strconv.ErrRange", "internal/strconv.uint64pow10", "math/bits.deBruijn32tab", "math/bits.deBruijn64tab", "cardgame/line.words", "cardgame/color.names", "internal/bytealg.MaxLen"], apart := false, laid := [("math/bits.deBruijn32tab", laid_math_bits_deBruijn32tab), ("math/bits.deBruijn64tab", laid_math_bits_deBruijn64tab), ("internal/strconv.uint64pow10", laid_internal_strconv_uint64pow10), ("strconv.ErrRange", laid_strconv_ErrRange), ("strconv.ErrSyntax", laid_strconv_ErrSyntax), ("cardgame/color.names", laid_cardgame_color_names), ("cardgame/line.words", laid_cardgame_line_words)] }
def RefIsSaid : Prop := refIsRow.holds Tryz.pinned (OpenSpec.ofChange refIsSpec)

/-- ITS FALSE NEIGHBOUR: 'it returns false'. Refute it at one input. -/
def refIsWrong : ChangeSpec := { name := "refIs", fn := fun _ => fun
  | [d1, d2] => { results := [.lit (.bool false)], args := [d1, d2] }
  | _ => none }
def RefIsWrongFalsely : Prop := refIsRow.holds Tryz.pinned (OpenSpec.ofChange refIsWrong)

/-- 'cardgamelaw16.RefTexts': WHATEVER THE INPUT: true; the input reads as it did. -/
def refTextsSpec : ChangeSpec := { name := "refTexts", fn := fun _ => fun
  | [d] => { results := [.lit (.bool true)], args := [d] }
  | _ => none }
def refTextsRow : OpenClaim := { program := "ytbcgkeclmioeiaagreatdoor", sum := "44a09c49d58bcd3924097743682272e4e6c0960717a554267ac4e35d937abb97", func := "cardgame/cardgamelaw16.RefTexts", spec := "refTexts", inPlace := ["internal/abi.NoEscape", "internal/bytealg.MakeNoZero", "internal/bytealg.IndexByteString", "internal/bytealg.IndexString"], unfollowed := true, recurses := true, named := ["strconv.ErrSyntax", "strconv.ErrRange", "internal/strconv.uint64pow10", "math/bits.deBruijn32tab", "math/bits.deBruijn64tab", "cardgame/line.words", "cardgame/color.names", "internal/bytealg.MaxLen"], apart := false, laid := [("math/bits.deBruijn32tab", laid_math_bits_deBruijn32tab), ("math/bits.deBruijn64tab", laid_math_bits_deBruijn64tab), ("internal/strconv.uint64pow10", laid_internal_strconv_uint64pow10), ("strconv.ErrRange", laid_strconv_ErrRange), ("strconv.ErrSyntax", laid_strconv_ErrSyntax), ("cardgame/color.names", laid_cardgame_color_names), ("cardgame/line.words", laid_cardgame_line_words)] }
def RefTextsSaid : Prop := refTextsRow.holds Tryz.pinned (OpenSpec.ofChange refTextsSpec)

/-- ITS FALSE NEIGHBOUR: 'it returns false'. Refute it at one input. -/
def refTextsWrong : ChangeSpec := { name := "refTexts", fn := fun _ => fun
  | [d] => { results := [.lit (.bool false)], args := [d] }
  | _ => none }
def RefTextsWrongFalsely : Prop := refTextsRow.holds Tryz.pinned (OpenSpec.ofChange refTextsWrong)

/-- 'cardgamelaw16.RefParses': WHATEVER THE INPUT: true; the input reads as it did. -/
def refParsesSpec : ChangeSpec := { name := "refParses", fn := fun _ => fun
  | [d] => { results := [.lit (.bool true)], args := [d] }
  | _ => none }
def refParsesRow : OpenClaim := { program := "ytbcgkeclmioeiaagreatdoor", sum := "44a09c49d58bcd3924097743682272e4e6c0960717a554267ac4e35d937abb97", func := "cardgame/cardgamelaw16.RefParses", spec := "refParses", inPlace := ["internal/abi.NoEscape", "internal/bytealg.MakeNoZero", "internal/bytealg.IndexByteString", "internal/bytealg.IndexString"], unfollowed := true, recurses := true, named := ["strconv.ErrSyntax", "strconv.ErrRange", "internal/strconv.uint64pow10", "math/bits.deBruijn32tab", "math/bits.deBruijn64tab", "cardgame/line.words", "cardgame/color.names", "internal/bytealg.MaxLen"], apart := false, laid := [("math/bits.deBruijn32tab", laid_math_bits_deBruijn32tab), ("math/bits.deBruijn64tab", laid_math_bits_deBruijn64tab), ("internal/strconv.uint64pow10", laid_internal_strconv_uint64pow10), ("strconv.ErrRange", laid_strconv_ErrRange), ("strconv.ErrSyntax", laid_strconv_ErrSyntax), ("cardgame/color.names", laid_cardgame_color_names), ("cardgame/line.words", laid_cardgame_line_words)] }
def RefParsesSaid : Prop := refParsesRow.holds Tryz.pinned (OpenSpec.ofChange refParsesSpec)

/-- ITS FALSE NEIGHBOUR: 'it returns false'. Refute it at one input. -/
def refParsesWrong : ChangeSpec := { name := "refParses", fn := fun _ => fun
  | [d] => { results := [.lit (.bool false)], args := [d] }
  | _ => none }
def RefParsesWrongFalsely : Prop := refParsesRow.holds Tryz.pinned (OpenSpec.ofChange refParsesWrong)

/-- 'cardgamelaw16.RefBack': WHATEVER THE INPUT: true; the input reads as it did. -/
def refBackSpec : ChangeSpec := { name := "refBack", fn := fun _ => fun
  | [d1, d2] => { results := [.lit (.bool true)], args := [d1, d2] }
  | _ => none }
def refBackRow : OpenClaim := { program := "ytbcgkeclmioeiaagreatdoor", sum := "44a09c49d58bcd3924097743682272e4e6c0960717a554267ac4e35d937abb97", func := "cardgame/cardgamelaw16.RefBack", spec := "refBack", inPlace := ["internal/abi.NoEscape", "internal/bytealg.MakeNoZero", "internal/bytealg.IndexByteString", "internal/bytealg.IndexString"], unfollowed := true, recurses := true, named := ["strconv.ErrSyntax", "strconv.ErrRange", "internal/strconv.uint64pow10", "math/bits.deBruijn32tab", "math/bits.deBruijn64tab", "cardgame/line.words", "cardgame/color.names", "internal/bytealg.MaxLen"], apart := false, laid := [("math/bits.deBruijn32tab", laid_math_bits_deBruijn32tab), ("math/bits.deBruijn64tab", laid_math_bits_deBruijn64tab), ("internal/strconv.uint64pow10", laid_internal_strconv_uint64pow10), ("strconv.ErrRange", laid_strconv_ErrRange), ("strconv.ErrSyntax", laid_strconv_ErrSyntax), ("cardgame/color.names", laid_cardgame_color_names), ("cardgame/line.words", laid_cardgame_line_words)] }
def RefBackSaid : Prop := refBackRow.holds Tryz.pinned (OpenSpec.ofChange refBackSpec)

/-- ITS FALSE NEIGHBOUR: 'it returns false'. Refute it at one input. -/
def refBackWrong : ChangeSpec := { name := "refBack", fn := fun _ => fun
  | [d1, d2] => { results := [.lit (.bool false)], args := [d1, d2] }
  | _ => none }
def RefBackWrongFalsely : Prop := refBackRow.holds Tryz.pinned (OpenSpec.ofChange refBackWrong)

/-- 'cardgamelaw16.RefSpecs': WHATEVER THE INPUT: true; the input reads as it did. -/
def refSpecsSpec : ChangeSpec := { name := "refSpecs", fn := fun _ => fun
  | [d1, d2, d3] => { results := [.lit (.bool true)], args := [d1, d2, d3] }
  | _ => none }
def refSpecsRow : OpenClaim := { program := "ytbcgkeclmioeiaagreatdoor", sum := "44a09c49d58bcd3924097743682272e4e6c0960717a554267ac4e35d937abb97", func := "cardgame/cardgamelaw16.RefSpecs", spec := "refSpecs", inPlace := ["internal/abi.NoEscape", "internal/bytealg.MakeNoZero", "internal/bytealg.IndexByteString", "internal/bytealg.IndexString"], unfollowed := true, recurses := true, named := ["strconv.ErrSyntax", "strconv.ErrRange", "internal/strconv.uint64pow10", "math/bits.deBruijn32tab", "math/bits.deBruijn64tab", "cardgame/line.words", "cardgame/color.names", "internal/bytealg.MaxLen"], apart := false, laid := [("math/bits.deBruijn32tab", laid_math_bits_deBruijn32tab), ("math/bits.deBruijn64tab", laid_math_bits_deBruijn64tab), ("internal/strconv.uint64pow10", laid_internal_strconv_uint64pow10), ("strconv.ErrRange", laid_strconv_ErrRange), ("strconv.ErrSyntax", laid_strconv_ErrSyntax), ("cardgame/color.names", laid_cardgame_color_names), ("cardgame/line.words", laid_cardgame_line_words)] }
def RefSpecsSaid : Prop := refSpecsRow.holds Tryz.pinned (OpenSpec.ofChange refSpecsSpec)

/-- ITS FALSE NEIGHBOUR: 'it returns false'. Refute it at one input. -/
def refSpecsWrong : ChangeSpec := { name := "refSpecs", fn := fun _ => fun
  | [d1, d2, d3] => { results := [.lit (.bool false)], args := [d1, d2, d3] }
  | _ => none }
def RefSpecsWrongFalsely : Prop := refSpecsRow.holds Tryz.pinned (OpenSpec.ofChange refSpecsWrong)

/-- 'cardgamelaw15.ModParse': WHATEVER THE INPUT: true; the input reads as it did. -/
def modParseSpec : ChangeSpec := { name := "modParse", fn := fun _ => fun
  | [d] => { results := [.lit (.bool true)], args := [d] }
  | _ => none }
def modParseRow : OpenClaim := { program := "ytbcgkeclmioeiaagreatdoor", sum := "44a09c49d58bcd3924097743682272e4e6c0960717a554267ac4e35d937abb97", func := "cardgame/cardgamelaw15.ModParse", spec := "modParse", inPlace := ["internal/abi.NoEscape", "internal/bytealg.MakeNoZero", "internal/bytealg.IndexByteString", "internal/bytealg.IndexString", "slices.overlaps[string]"], unfollowed := true, recurses := true, named := ["cardgame/line.words", "cardgame/color.names", "strconv.ErrSyntax", "strconv.ErrRange", "internal/strconv.uint64pow10", "math/bits.deBruijn32tab", "math/bits.deBruijn64tab", "internal/bytealg.MaxLen"], apart := false, laid := [("math/bits.deBruijn32tab", laid_math_bits_deBruijn32tab), ("math/bits.deBruijn64tab", laid_math_bits_deBruijn64tab), ("internal/strconv.uint64pow10", laid_internal_strconv_uint64pow10), ("strconv.ErrRange", laid_strconv_ErrRange), ("strconv.ErrSyntax", laid_strconv_ErrSyntax), ("cardgame/color.names", laid_cardgame_color_names), ("cardgame/line.words", laid_cardgame_line_words)] }
def ModParseSaid : Prop := modParseRow.holds Tryz.pinned (OpenSpec.ofChange modParseSpec)

/-- ITS FALSE NEIGHBOUR: 'it returns false'. Refute it at one input. -/
def modParseWrong : ChangeSpec := { name := "modParse", fn := fun _ => fun
  | [d] => { results := [.lit (.bool false)], args := [d] }
  | _ => none }
def ModParseWrongFalsely : Prop := modParseRow.holds Tryz.pinned (OpenSpec.ofChange modParseWrong)

/-- 'cardgamelaw15.ModLists': WHATEVER THE INPUT: true; the input reads as it did. -/
def modListsSpec : ChangeSpec := { name := "modLists", fn := fun _ => fun
  | [d1, d2] => { results := [.lit (.bool true)], args := [d1, d2] }
  | _ => none }
def modListsRow : OpenClaim := { program := "ytbcgkeclmioeiaagreatdoor", sum := "44a09c49d58bcd3924097743682272e4e6c0960717a554267ac4e35d937abb97", func := "cardgame/cardgamelaw15.ModLists", spec := "modLists", inPlace := ["internal/abi.NoEscape", "internal/bytealg.MakeNoZero", "internal/bytealg.IndexByteString", "internal/bytealg.IndexString", "slices.overlaps[string]"], unfollowed := true, recurses := true, named := ["cardgame/line.words", "cardgame/color.names", "strconv.ErrSyntax", "strconv.ErrRange", "internal/strconv.uint64pow10", "math/bits.deBruijn32tab", "math/bits.deBruijn64tab", "internal/bytealg.MaxLen"], apart := false, laid := [("math/bits.deBruijn32tab", laid_math_bits_deBruijn32tab), ("math/bits.deBruijn64tab", laid_math_bits_deBruijn64tab), ("internal/strconv.uint64pow10", laid_internal_strconv_uint64pow10), ("strconv.ErrRange", laid_strconv_ErrRange), ("strconv.ErrSyntax", laid_strconv_ErrSyntax), ("cardgame/color.names", laid_cardgame_color_names), ("cardgame/line.words", laid_cardgame_line_words)] }
def ModListsSaid : Prop := modListsRow.holds Tryz.pinned (OpenSpec.ofChange modListsSpec)

/-- ITS FALSE NEIGHBOUR: 'it returns false'. Refute it at one input. -/
def modListsWrong : ChangeSpec := { name := "modLists", fn := fun _ => fun
  | [d1, d2] => { results := [.lit (.bool false)], args := [d1, d2] }
  | _ => none }
def ModListsWrongFalsely : Prop := modListsRow.holds Tryz.pinned (OpenSpec.ofChange modListsWrong)

/-- 'cardgamelaw15.ModApply': WHATEVER THE INPUT: true; the input reads as it did. -/
def modApplySpec : ChangeSpec := { name := "modApply", fn := fun _ => fun
  | [d1, d2, d3] => { results := [.lit (.bool true)], args := [d1, d2, d3] }
  | _ => none }
def modApplyRow : OpenClaim := { program := "ytbcgkeclmioeiaagreatdoor", sum := "44a09c49d58bcd3924097743682272e4e6c0960717a554267ac4e35d937abb97", func := "cardgame/cardgamelaw15.ModApply", spec := "modApply", inPlace := ["internal/abi.NoEscape", "internal/bytealg.MakeNoZero", "internal/bytealg.IndexByteString", "internal/bytealg.IndexString", "slices.overlaps[string]"], unfollowed := true, recurses := true, named := ["cardgame/line.words", "cardgame/color.names", "strconv.ErrSyntax", "strconv.ErrRange", "internal/strconv.uint64pow10", "math/bits.deBruijn32tab", "math/bits.deBruijn64tab", "internal/bytealg.MaxLen"], apart := false, laid := [("math/bits.deBruijn32tab", laid_math_bits_deBruijn32tab), ("math/bits.deBruijn64tab", laid_math_bits_deBruijn64tab), ("internal/strconv.uint64pow10", laid_internal_strconv_uint64pow10), ("strconv.ErrRange", laid_strconv_ErrRange), ("strconv.ErrSyntax", laid_strconv_ErrSyntax), ("cardgame/color.names", laid_cardgame_color_names), ("cardgame/line.words", laid_cardgame_line_words)] }
def ModApplySaid : Prop := modApplyRow.holds Tryz.pinned (OpenSpec.ofChange modApplySpec)

/-- ITS FALSE NEIGHBOUR: 'it returns false'. Refute it at one input. -/
def modApplyWrong : ChangeSpec := { name := "modApply", fn := fun _ => fun
  | [d1, d2, d3] => { results := [.lit (.bool false)], args := [d1, d2, d3] }
  | _ => none }
def ModApplyWrongFalsely : Prop := modApplyRow.holds Tryz.pinned (OpenSpec.ofChange modApplyWrong)

/-- 'cardgamelaw15.ModSwitches': WHATEVER THE INPUT: true; the input reads as it did. -/
def modSwitchesSpec : ChangeSpec := { name := "modSwitches", fn := fun _ => fun
  | [d1, d2, d3] => { results := [.lit (.bool true)], args := [d1, d2, d3] }
  | _ => none }
def modSwitchesRow : OpenClaim := { program := "ytbcgkeclmioeiaagreatdoor", sum := "44a09c49d58bcd3924097743682272e4e6c0960717a554267ac4e35d937abb97", func := "cardgame/cardgamelaw15.ModSwitches", spec := "modSwitches", inPlace := ["internal/abi.NoEscape", "internal/bytealg.MakeNoZero", "internal/bytealg.IndexByteString", "internal/bytealg.IndexString", "slices.overlaps[string]"], unfollowed := true, recurses := true, named := ["cardgame/line.words", "cardgame/color.names", "strconv.ErrSyntax", "strconv.ErrRange", "internal/strconv.uint64pow10", "math/bits.deBruijn32tab", "math/bits.deBruijn64tab", "internal/bytealg.MaxLen"], apart := false, laid := [("math/bits.deBruijn32tab", laid_math_bits_deBruijn32tab), ("math/bits.deBruijn64tab", laid_math_bits_deBruijn64tab), ("internal/strconv.uint64pow10", laid_internal_strconv_uint64pow10), ("strconv.ErrRange", laid_strconv_ErrRange), ("strconv.ErrSyntax", laid_strconv_ErrSyntax), ("cardgame/color.names", laid_cardgame_color_names), ("cardgame/line.words", laid_cardgame_line_words)] }
def ModSwitchesSaid : Prop := modSwitchesRow.holds Tryz.pinned (OpenSpec.ofChange modSwitchesSpec)

/-- ITS FALSE NEIGHBOUR: 'it returns false'. Refute it at one input. -/
def modSwitchesWrong : ChangeSpec := { name := "modSwitches", fn := fun _ => fun
  | [d1, d2, d3] => { results := [.lit (.bool false)], args := [d1, d2, d3] }
  | _ => none }
def ModSwitchesWrongFalsely : Prop := modSwitchesRow.holds Tryz.pinned (OpenSpec.ofChange modSwitchesWrong)

/-- 'cardgamelaw15.ModOwn': WHATEVER THE INPUT: true; the input reads as it did. -/
def modOwnSpec : ChangeSpec := { name := "modOwn", fn := fun _ => fun
  | [d1, d2, d3] => { results := [.lit (.bool true)], args := [d1, d2, d3] }
  | _ => none }
def modOwnRow : OpenClaim := { program := "ytbcgkeclmioeiaagreatdoor", sum := "44a09c49d58bcd3924097743682272e4e6c0960717a554267ac4e35d937abb97", func := "cardgame/cardgamelaw15.ModOwn", spec := "modOwn", inPlace := ["internal/abi.NoEscape", "internal/bytealg.MakeNoZero", "internal/bytealg.IndexByteString", "internal/bytealg.IndexString", "slices.overlaps[string]"], unfollowed := true, recurses := true, named := ["cardgame/line.words", "cardgame/color.names", "strconv.ErrSyntax", "strconv.ErrRange", "internal/strconv.uint64pow10", "math/bits.deBruijn32tab", "math/bits.deBruijn64tab", "internal/bytealg.MaxLen"], apart := false, laid := [("math/bits.deBruijn32tab", laid_math_bits_deBruijn32tab), ("math/bits.deBruijn64tab", laid_math_bits_deBruijn64tab), ("internal/strconv.uint64pow10", laid_internal_strconv_uint64pow10), ("strconv.ErrRange", laid_strconv_ErrRange), ("strconv.ErrSyntax", laid_strconv_ErrSyntax), ("cardgame/color.names", laid_cardgame_color_names), ("cardgame/line.words", laid_cardgame_line_words)] }
def ModOwnSaid : Prop := modOwnRow.holds Tryz.pinned (OpenSpec.ofChange modOwnSpec)

/-- ITS FALSE NEIGHBOUR: 'it returns false'. Refute it at one input. -/
def modOwnWrong : ChangeSpec := { name := "modOwn", fn := fun _ => fun
  | [d1, d2, d3] => { results := [.lit (.bool false)], args := [d1, d2, d3] }
  | _ => none }
def ModOwnWrongFalsely : Prop := modOwnRow.holds Tryz.pinned (OpenSpec.ofChange modOwnWrong)

/- THE SECOND FORM. 'bulk': how many values and letters a reading holds, each counted each time it is reached (what is shared counts as often as it is met; a slice's spare places count too). A statement '..UptoSaid' is the law's where the arguments, and the package variables that the reading takes, are together of bulk at most 1048576: NARROWER than '..Said'. Prove '..Said' where nothing that the law and all that it calls make is longer than what came in: it says more and counts as full. Else prove '..UptoSaid'. A law counts once. -/
mutual
def uptoBulk {H : Type} : DataW H → Nat
  | .lit (.string bytes) => bytes.length + 1
  | .lit _ => 1
  | .nil => 1
  | .ptr d => uptoBulk d + 1
  | .slice elems spare => uptoBulkAll elems + uptoBulkAll spare + 1
  | .agg parts => uptoBulkAll parts + 1
  | .iface _ d => uptoBulk d + 1
  | .map entries => uptoBulkEntries entries + 1
  | .held _ => 1
def uptoBulkAll {H : Type} : List (DataW H) → Nat
  | [] => 0
  | d :: r => uptoBulk d + uptoBulkAll r
def uptoBulkEntries {H : Type} : List (Lit × DataW H) → Nat
  | [] => 0
  | x :: r => uptoBulkEntry x + uptoBulkEntries r
def uptoBulkEntry {H : Type} : Lit × DataW H → Nat
  | (.string bytes, d) => bytes.length + uptoBulk d + 1
  | (_, d) => uptoBulk d + 1
 end
def uptoSmall : (H : Type) → List (DataW H) → Bool := fun _ ds => decide (uptoBulkAll ds ≤ 1048576)
def OpenSpec.upto (s : _root_.Go.ChangeSpec) : _root_.Go.OpenSpec := { _root_.Go.OpenSpec.ofChange s with cond := some uptoSmall }

/-- 'cardgamelaw16.RefIs', WHERE WHAT IT READS IS OF BULK AT MOST 1048576: true; the input reads as it did. -/
def refIsUptoRow : OpenClaim := { program := "ytbcgkeclmioeiaagreatdoor", sum := "44a09c49d58bcd3924097743682272e4e6c0960717a554267ac4e35d937abb97", func := "cardgame/cardgamelaw16.RefIs", spec := "refIs", inPlace := ["internal/abi.NoEscape", "internal/bytealg.MakeNoZero", "internal/bytealg.IndexByteString", "internal/bytealg.IndexString"], unfollowed := true, recurses := true, named := ["strconv.ErrSyntax", "strconv.ErrRange", "internal/strconv.uint64pow10", "math/bits.deBruijn32tab", "math/bits.deBruijn64tab", "cardgame/line.words", "cardgame/color.names", "internal/bytealg.MaxLen"], apart := false, laid := [("math/bits.deBruijn32tab", laid_math_bits_deBruijn32tab), ("math/bits.deBruijn64tab", laid_math_bits_deBruijn64tab), ("internal/strconv.uint64pow10", laid_internal_strconv_uint64pow10), ("strconv.ErrRange", laid_strconv_ErrRange), ("strconv.ErrSyntax", laid_strconv_ErrSyntax), ("cardgame/color.names", laid_cardgame_color_names), ("cardgame/line.words", laid_cardgame_line_words)], narrowed := true }
def RefIsUptoSaid : Prop := refIsUptoRow.holds Tryz.pinned (OpenSpec.upto refIsSpec)

/-- 'cardgamelaw16.RefTexts', WHERE WHAT IT READS IS OF BULK AT MOST 1048576: true; the input reads as it did. -/
def refTextsUptoRow : OpenClaim := { program := "ytbcgkeclmioeiaagreatdoor", sum := "44a09c49d58bcd3924097743682272e4e6c0960717a554267ac4e35d937abb97", func := "cardgame/cardgamelaw16.RefTexts", spec := "refTexts", inPlace := ["internal/abi.NoEscape", "internal/bytealg.MakeNoZero", "internal/bytealg.IndexByteString", "internal/bytealg.IndexString"], unfollowed := true, recurses := true, named := ["strconv.ErrSyntax", "strconv.ErrRange", "internal/strconv.uint64pow10", "math/bits.deBruijn32tab", "math/bits.deBruijn64tab", "cardgame/line.words", "cardgame/color.names", "internal/bytealg.MaxLen"], apart := false, laid := [("math/bits.deBruijn32tab", laid_math_bits_deBruijn32tab), ("math/bits.deBruijn64tab", laid_math_bits_deBruijn64tab), ("internal/strconv.uint64pow10", laid_internal_strconv_uint64pow10), ("strconv.ErrRange", laid_strconv_ErrRange), ("strconv.ErrSyntax", laid_strconv_ErrSyntax), ("cardgame/color.names", laid_cardgame_color_names), ("cardgame/line.words", laid_cardgame_line_words)], narrowed := true }
def RefTextsUptoSaid : Prop := refTextsUptoRow.holds Tryz.pinned (OpenSpec.upto refTextsSpec)

/-- 'cardgamelaw16.RefParses', WHERE WHAT IT READS IS OF BULK AT MOST 1048576: true; the input reads as it did. -/
def refParsesUptoRow : OpenClaim := { program := "ytbcgkeclmioeiaagreatdoor", sum := "44a09c49d58bcd3924097743682272e4e6c0960717a554267ac4e35d937abb97", func := "cardgame/cardgamelaw16.RefParses", spec := "refParses", inPlace := ["internal/abi.NoEscape", "internal/bytealg.MakeNoZero", "internal/bytealg.IndexByteString", "internal/bytealg.IndexString"], unfollowed := true, recurses := true, named := ["strconv.ErrSyntax", "strconv.ErrRange", "internal/strconv.uint64pow10", "math/bits.deBruijn32tab", "math/bits.deBruijn64tab", "cardgame/line.words", "cardgame/color.names", "internal/bytealg.MaxLen"], apart := false, laid := [("math/bits.deBruijn32tab", laid_math_bits_deBruijn32tab), ("math/bits.deBruijn64tab", laid_math_bits_deBruijn64tab), ("internal/strconv.uint64pow10", laid_internal_strconv_uint64pow10), ("strconv.ErrRange", laid_strconv_ErrRange), ("strconv.ErrSyntax", laid_strconv_ErrSyntax), ("cardgame/color.names", laid_cardgame_color_names), ("cardgame/line.words", laid_cardgame_line_words)], narrowed := true }
def RefParsesUptoSaid : Prop := refParsesUptoRow.holds Tryz.pinned (OpenSpec.upto refParsesSpec)

/-- 'cardgamelaw16.RefBack', WHERE WHAT IT READS IS OF BULK AT MOST 1048576: true; the input reads as it did. -/
def refBackUptoRow : OpenClaim := { program := "ytbcgkeclmioeiaagreatdoor", sum := "44a09c49d58bcd3924097743682272e4e6c0960717a554267ac4e35d937abb97", func := "cardgame/cardgamelaw16.RefBack", spec := "refBack", inPlace := ["internal/abi.NoEscape", "internal/bytealg.MakeNoZero", "internal/bytealg.IndexByteString", "internal/bytealg.IndexString"], unfollowed := true, recurses := true, named := ["strconv.ErrSyntax", "strconv.ErrRange", "internal/strconv.uint64pow10", "math/bits.deBruijn32tab", "math/bits.deBruijn64tab", "cardgame/line.words", "cardgame/color.names", "internal/bytealg.MaxLen"], apart := false, laid := [("math/bits.deBruijn32tab", laid_math_bits_deBruijn32tab), ("math/bits.deBruijn64tab", laid_math_bits_deBruijn64tab), ("internal/strconv.uint64pow10", laid_internal_strconv_uint64pow10), ("strconv.ErrRange", laid_strconv_ErrRange), ("strconv.ErrSyntax", laid_strconv_ErrSyntax), ("cardgame/color.names", laid_cardgame_color_names), ("cardgame/line.words", laid_cardgame_line_words)], narrowed := true }
def RefBackUptoSaid : Prop := refBackUptoRow.holds Tryz.pinned (OpenSpec.upto refBackSpec)

/-- 'cardgamelaw16.RefSpecs', WHERE WHAT IT READS IS OF BULK AT MOST 1048576: true; the input reads as it did. -/
def refSpecsUptoRow : OpenClaim := { program := "ytbcgkeclmioeiaagreatdoor", sum := "44a09c49d58bcd3924097743682272e4e6c0960717a554267ac4e35d937abb97", func := "cardgame/cardgamelaw16.RefSpecs", spec := "refSpecs", inPlace := ["internal/abi.NoEscape", "internal/bytealg.MakeNoZero", "internal/bytealg.IndexByteString", "internal/bytealg.IndexString"], unfollowed := true, recurses := true, named := ["strconv.ErrSyntax", "strconv.ErrRange", "internal/strconv.uint64pow10", "math/bits.deBruijn32tab", "math/bits.deBruijn64tab", "cardgame/line.words", "cardgame/color.names", "internal/bytealg.MaxLen"], apart := false, laid := [("math/bits.deBruijn32tab", laid_math_bits_deBruijn32tab), ("math/bits.deBruijn64tab", laid_math_bits_deBruijn64tab), ("internal/strconv.uint64pow10", laid_internal_strconv_uint64pow10), ("strconv.ErrRange", laid_strconv_ErrRange), ("strconv.ErrSyntax", laid_strconv_ErrSyntax), ("cardgame/color.names", laid_cardgame_color_names), ("cardgame/line.words", laid_cardgame_line_words)], narrowed := true }
def RefSpecsUptoSaid : Prop := refSpecsUptoRow.holds Tryz.pinned (OpenSpec.upto refSpecsSpec)

/-- 'cardgamelaw15.ModParse', WHERE WHAT IT READS IS OF BULK AT MOST 1048576: true; the input reads as it did. -/
def modParseUptoRow : OpenClaim := { program := "ytbcgkeclmioeiaagreatdoor", sum := "44a09c49d58bcd3924097743682272e4e6c0960717a554267ac4e35d937abb97", func := "cardgame/cardgamelaw15.ModParse", spec := "modParse", inPlace := ["internal/abi.NoEscape", "internal/bytealg.MakeNoZero", "internal/bytealg.IndexByteString", "internal/bytealg.IndexString", "slices.overlaps[string]"], unfollowed := true, recurses := true, named := ["cardgame/line.words", "cardgame/color.names", "strconv.ErrSyntax", "strconv.ErrRange", "internal/strconv.uint64pow10", "math/bits.deBruijn32tab", "math/bits.deBruijn64tab", "internal/bytealg.MaxLen"], apart := false, laid := [("math/bits.deBruijn32tab", laid_math_bits_deBruijn32tab), ("math/bits.deBruijn64tab", laid_math_bits_deBruijn64tab), ("internal/strconv.uint64pow10", laid_internal_strconv_uint64pow10), ("strconv.ErrRange", laid_strconv_ErrRange), ("strconv.ErrSyntax", laid_strconv_ErrSyntax), ("cardgame/color.names", laid_cardgame_color_names), ("cardgame/line.words", laid_cardgame_line_words)], narrowed := true }
def ModParseUptoSaid : Prop := modParseUptoRow.holds Tryz.pinned (OpenSpec.upto modParseSpec)

/-- 'cardgamelaw15.ModLists', WHERE WHAT IT READS IS OF BULK AT MOST 1048576: true; the input reads as it did. -/
def modListsUptoRow : OpenClaim := { program := "ytbcgkeclmioeiaagreatdoor", sum := "44a09c49d58bcd3924097743682272e4e6c0960717a554267ac4e35d937abb97", func := "cardgame/cardgamelaw15.ModLists", spec := "modLists", inPlace := ["internal/abi.NoEscape", "internal/bytealg.MakeNoZero", "internal/bytealg.IndexByteString", "internal/bytealg.IndexString", "slices.overlaps[string]"], unfollowed := true, recurses := true, named := ["cardgame/line.words", "cardgame/color.names", "strconv.ErrSyntax", "strconv.ErrRange", "internal/strconv.uint64pow10", "math/bits.deBruijn32tab", "math/bits.deBruijn64tab", "internal/bytealg.MaxLen"], apart := false, laid := [("math/bits.deBruijn32tab", laid_math_bits_deBruijn32tab), ("math/bits.deBruijn64tab", laid_math_bits_deBruijn64tab), ("internal/strconv.uint64pow10", laid_internal_strconv_uint64pow10), ("strconv.ErrRange", laid_strconv_ErrRange), ("strconv.ErrSyntax", laid_strconv_ErrSyntax), ("cardgame/color.names", laid_cardgame_color_names), ("cardgame/line.words", laid_cardgame_line_words)], narrowed := true }
def ModListsUptoSaid : Prop := modListsUptoRow.holds Tryz.pinned (OpenSpec.upto modListsSpec)

/-- 'cardgamelaw15.ModApply', WHERE WHAT IT READS IS OF BULK AT MOST 1048576: true; the input reads as it did. -/
def modApplyUptoRow : OpenClaim := { program := "ytbcgkeclmioeiaagreatdoor", sum := "44a09c49d58bcd3924097743682272e4e6c0960717a554267ac4e35d937abb97", func := "cardgame/cardgamelaw15.ModApply", spec := "modApply", inPlace := ["internal/abi.NoEscape", "internal/bytealg.MakeNoZero", "internal/bytealg.IndexByteString", "internal/bytealg.IndexString", "slices.overlaps[string]"], unfollowed := true, recurses := true, named := ["cardgame/line.words", "cardgame/color.names", "strconv.ErrSyntax", "strconv.ErrRange", "internal/strconv.uint64pow10", "math/bits.deBruijn32tab", "math/bits.deBruijn64tab", "internal/bytealg.MaxLen"], apart := false, laid := [("math/bits.deBruijn32tab", laid_math_bits_deBruijn32tab), ("math/bits.deBruijn64tab", laid_math_bits_deBruijn64tab), ("internal/strconv.uint64pow10", laid_internal_strconv_uint64pow10), ("strconv.ErrRange", laid_strconv_ErrRange), ("strconv.ErrSyntax", laid_strconv_ErrSyntax), ("cardgame/color.names", laid_cardgame_color_names), ("cardgame/line.words", laid_cardgame_line_words)], narrowed := true }
def ModApplyUptoSaid : Prop := modApplyUptoRow.holds Tryz.pinned (OpenSpec.upto modApplySpec)

/-- 'cardgamelaw15.ModSwitches', WHERE WHAT IT READS IS OF BULK AT MOST 1048576: true; the input reads as it did. -/
def modSwitchesUptoRow : OpenClaim := { program := "ytbcgkeclmioeiaagreatdoor", sum := "44a09c49d58bcd3924097743682272e4e6c0960717a554267ac4e35d937abb97", func := "cardgame/cardgamelaw15.ModSwitches", spec := "modSwitches", inPlace := ["internal/abi.NoEscape", "internal/bytealg.MakeNoZero", "internal/bytealg.IndexByteString", "internal/bytealg.IndexString", "slices.overlaps[string]"], unfollowed := true, recurses := true, named := ["cardgame/line.words", "cardgame/color.names", "strconv.ErrSyntax", "strconv.ErrRange", "internal/strconv.uint64pow10", "math/bits.deBruijn32tab", "math/bits.deBruijn64tab", "internal/bytealg.MaxLen"], apart := false, laid := [("math/bits.deBruijn32tab", laid_math_bits_deBruijn32tab), ("math/bits.deBruijn64tab", laid_math_bits_deBruijn64tab), ("internal/strconv.uint64pow10", laid_internal_strconv_uint64pow10), ("strconv.ErrRange", laid_strconv_ErrRange), ("strconv.ErrSyntax", laid_strconv_ErrSyntax), ("cardgame/color.names", laid_cardgame_color_names), ("cardgame/line.words", laid_cardgame_line_words)], narrowed := true }
def ModSwitchesUptoSaid : Prop := modSwitchesUptoRow.holds Tryz.pinned (OpenSpec.upto modSwitchesSpec)

/-- 'cardgamelaw15.ModOwn', WHERE WHAT IT READS IS OF BULK AT MOST 1048576: true; the input reads as it did. -/
def modOwnUptoRow : OpenClaim := { program := "ytbcgkeclmioeiaagreatdoor", sum := "44a09c49d58bcd3924097743682272e4e6c0960717a554267ac4e35d937abb97", func := "cardgame/cardgamelaw15.ModOwn", spec := "modOwn", inPlace := ["internal/abi.NoEscape", "internal/bytealg.MakeNoZero", "internal/bytealg.IndexByteString", "internal/bytealg.IndexString", "slices.overlaps[string]"], unfollowed := true, recurses := true, named := ["cardgame/line.words", "cardgame/color.names", "strconv.ErrSyntax", "strconv.ErrRange", "internal/strconv.uint64pow10", "math/bits.deBruijn32tab", "math/bits.deBruijn64tab", "internal/bytealg.MaxLen"], apart := false, laid := [("math/bits.deBruijn32tab", laid_math_bits_deBruijn32tab), ("math/bits.deBruijn64tab", laid_math_bits_deBruijn64tab), ("internal/strconv.uint64pow10", laid_internal_strconv_uint64pow10), ("strconv.ErrRange", laid_strconv_ErrRange), ("strconv.ErrSyntax", laid_strconv_ErrSyntax), ("cardgame/color.names", laid_cardgame_color_names), ("cardgame/line.words", laid_cardgame_line_words)], narrowed := true }
def ModOwnUptoSaid : Prop := modOwnUptoRow.holds Tryz.pinned (OpenSpec.upto modOwnSpec)

end Rows
end Go.Proofs.YtbcgkeclmioeiaaGreatDoor
