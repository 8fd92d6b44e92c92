/-
  No cell of these rows narrows 'for every input' (looked for: loops, veiled, ifaces, maps, wideKeys, modest, calm, conditions, laid).
  DERIVED. THE GIVEN ROWS OF THIS SEAT. 6 by the template 'for every input the law returns true; each argument reads behind the call as it read before'; 0 by the template 'total and deterministic' (their statements: YtpejbfdmiinokaaTotals.lean).
  GIVEN WITH THE SEED: the statements are not yours to turn. If you find one false, say at which input.
  Laid BY PROGRAM, IN A SANDBOX (cutbox-rows.mjs): the forced cells as the released guide's own fill.sh prints them over the translation cc5a4bf0dfd76053… (all of the seat's roots in one cut). By AI agents, Wed Nov 11 2026. No macro, syntax, notation, axiom, sorry.
-/
import Derived.Test.YtpejbfdmiinokaaChecked
import GoSem.Claim
import GoSem.ClaimJoined
import GoSem.ClaimMapViews
import Derived.JoinedTies
import Derived.KernelRfl
namespace Go.Proofs.Ytpejbfdmiinokaa
/- THE CELL 'sum', in the pinned program and in every row, IS THE sha256 OF THE DUMP (.gsa) THAT YtpejbfdmiinokaaProg.lean LOADS. Nothing in Lean hashes anything: it is a label: what it is worth is what the hold of that sum in a sandbox is worth. -/
noncomputable def Try.pinned : Pinned := { name := "ytpejbfdmiinokaa", sum := "cc5a4bf0dfd76053c1b27fd34a041d363268654adb88bb8938ae6a47af093be4", checked := Try.checked }
namespace Rows
def none {H : Type} : Left H := { results := [], args := [] }

/-- 'cardgamelaw24.ObjectNew': WHATEVER THE INPUT: true; the input reads as it did. -/
def objectNewSpec : ChangeSpec := { name := "objectNew", fn := fun _ => fun
  | [d1, d2] => { results := [.lit (.bool true)], args := [d1, d2] }
  | _ => none }
def objectNewRow : OpenClaim := { program := "ytpejbfdmiinokaa", sum := "cc5a4bf0dfd76053c1b27fd34a041d363268654adb88bb8938ae6a47af093be4", func := "cardgame/cardgamelaw24.ObjectNew", spec := "objectNew", apart := false }
def ObjectNewSaid : Prop := objectNewRow.holds Try.pinned (OpenSpec.ofChange objectNewSpec)

/-- ITS FALSE NEIGHBOUR: 'it returns false'. Refute it at one input. -/
def objectNewWrong : ChangeSpec := { name := "objectNew", fn := fun _ => fun
  | [d1, d2] => { results := [.lit (.bool false)], args := [d1, d2] }
  | _ => none }
def ObjectNewWrongFalsely : Prop := objectNewRow.holds Try.pinned (OpenSpec.ofChange objectNewWrong)

/-- 'cardgamelaw24.ObjectEnds': WHATEVER THE INPUT: true; the input reads as it did. -/
def objectEndsSpec : ChangeSpec := { name := "objectEnds", fn := fun _ => fun
  | [d] => { results := [.lit (.bool true)], args := [d] }
  | _ => none }
def objectEndsRow : OpenClaim := { program := "ytpejbfdmiinokaa", sum := "cc5a4bf0dfd76053c1b27fd34a041d363268654adb88bb8938ae6a47af093be4", func := "cardgame/cardgamelaw24.ObjectEnds", spec := "objectEnds", apart := false }
def ObjectEndsSaid : Prop := objectEndsRow.holds Try.pinned (OpenSpec.ofChange objectEndsSpec)

/-- ITS FALSE NEIGHBOUR: 'it returns false'. Refute it at one input. -/
def objectEndsWrong : ChangeSpec := { name := "objectEnds", fn := fun _ => fun
  | [d] => { results := [.lit (.bool false)], args := [d] }
  | _ => none }
def ObjectEndsWrongFalsely : Prop := objectEndsRow.holds Try.pinned (OpenSpec.ofChange objectEndsWrong)

/-- 'cardgamelaw24.ObjectIs': WHATEVER THE INPUT: true; the input reads as it did. -/
def objectIsSpec : ChangeSpec := { name := "objectIs", fn := fun _ => fun
  | [d1, d2, d3] => { results := [.lit (.bool true)], args := [d1, d2, d3] }
  | _ => none }
def objectIsRow : OpenClaim := { program := "ytpejbfdmiinokaa", sum := "cc5a4bf0dfd76053c1b27fd34a041d363268654adb88bb8938ae6a47af093be4", func := "cardgame/cardgamelaw24.ObjectIs", spec := "objectIs", apart := false }
def ObjectIsSaid : Prop := objectIsRow.holds Try.pinned (OpenSpec.ofChange objectIsSpec)

/-- ITS FALSE NEIGHBOUR: 'it returns false'. Refute it at one input. -/
def objectIsWrong : ChangeSpec := { name := "objectIs", fn := fun _ => fun
  | [d1, d2, d3] => { results := [.lit (.bool false)], args := [d1, d2, d3] }
  | _ => none }
def ObjectIsWrongFalsely : Prop := objectIsRow.holds Try.pinned (OpenSpec.ofChange objectIsWrong)

/-- 'cardgamelaw24.ObjectCalms': WHATEVER THE INPUT: true; the input reads as it did. -/
def objectCalmsSpec : ChangeSpec := { name := "objectCalms", fn := fun _ => fun
  | [d] => { results := [.lit (.bool true)], args := [d] }
  | _ => none }
def objectCalmsRow : OpenClaim := { program := "ytpejbfdmiinokaa", sum := "cc5a4bf0dfd76053c1b27fd34a041d363268654adb88bb8938ae6a47af093be4", func := "cardgame/cardgamelaw24.ObjectCalms", spec := "objectCalms", apart := false }
def ObjectCalmsSaid : Prop := objectCalmsRow.holds Try.pinned (OpenSpec.ofChange objectCalmsSpec)

/-- ITS FALSE NEIGHBOUR: 'it returns false'. Refute it at one input. -/
def objectCalmsWrong : ChangeSpec := { name := "objectCalms", fn := fun _ => fun
  | [d] => { results := [.lit (.bool false)], args := [d] }
  | _ => none }
def ObjectCalmsWrongFalsely : Prop := objectCalmsRow.holds Try.pinned (OpenSpec.ofChange objectCalmsWrong)

/-- 'cardgamelaw24.ObjectMoves': WHATEVER THE INPUT: true; the input reads as it did. -/
def objectMovesSpec : ChangeSpec := { name := "objectMoves", fn := fun _ => fun
  | [d1, d2] => { results := [.lit (.bool true)], args := [d1, d2] }
  | _ => none }
def objectMovesRow : OpenClaim := { program := "ytpejbfdmiinokaa", sum := "cc5a4bf0dfd76053c1b27fd34a041d363268654adb88bb8938ae6a47af093be4", func := "cardgame/cardgamelaw24.ObjectMoves", spec := "objectMoves", apart := false }
def ObjectMovesSaid : Prop := objectMovesRow.holds Try.pinned (OpenSpec.ofChange objectMovesSpec)

/-- ITS FALSE NEIGHBOUR: 'it returns false'. Refute it at one input. -/
def objectMovesWrong : ChangeSpec := { name := "objectMoves", fn := fun _ => fun
  | [d1, d2] => { results := [.lit (.bool false)], args := [d1, d2] }
  | _ => none }
def ObjectMovesWrongFalsely : Prop := objectMovesRow.holds Try.pinned (OpenSpec.ofChange objectMovesWrong)

/-- 'cardgamelaw24.ObjectValid': WHATEVER THE INPUT: true; the input reads as it did. -/
def objectValidSpec : ChangeSpec := { name := "objectValid", fn := fun _ => fun
  | [d1, d2, d3] => { results := [.lit (.bool true)], args := [d1, d2, d3] }
  | _ => none }
def objectValidRow : OpenClaim := { program := "ytpejbfdmiinokaa", sum := "cc5a4bf0dfd76053c1b27fd34a041d363268654adb88bb8938ae6a47af093be4", func := "cardgame/cardgamelaw24.ObjectValid", spec := "objectValid", apart := false }
def ObjectValidSaid : Prop := objectValidRow.holds Try.pinned (OpenSpec.ofChange objectValidSpec)

/-- ITS FALSE NEIGHBOUR: 'it returns false'. Refute it at one input. -/
def objectValidWrong : ChangeSpec := { name := "objectValid", fn := fun _ => fun
  | [d1, d2, d3] => { results := [.lit (.bool false)], args := [d1, d2, d3] }
  | _ => none }
def ObjectValidWrongFalsely : Prop := objectValidRow.holds Try.pinned (OpenSpec.ofChange objectValidWrong)

/- THE SECOND FORM. 'bulk': how many values and letters a reading holds, each counted each time it is reached (what is shared counts as often as it is met; a slice's spare places count too). A statement '..UptoSaid' is the law's where the arguments, and the package variables that the reading takes, are together of bulk at most 1048576: NARROWER than '..Said'. Prove '..Said' where nothing that the law and all that it calls make is longer than what came in: it says more and counts as full. Else prove '..UptoSaid'. A law counts once. -/
mutual
def uptoBulk {H : Type} : DataW H → Nat
  | .lit (.string bytes) => bytes.length + 1
  | .lit _ => 1
  | .nil => 1
  | .ptr d => uptoBulk d + 1
  | .slice elems spare => uptoBulkAll elems + uptoBulkAll spare + 1
  | .agg parts => uptoBulkAll parts + 1
  | .iface _ d => uptoBulk d + 1
  | .map entries => uptoBulkEntries entries + 1
  | .held _ => 1
def uptoBulkAll {H : Type} : List (DataW H) → Nat
  | [] => 0
  | d :: r => uptoBulk d + uptoBulkAll r
def uptoBulkEntries {H : Type} : List (Lit × DataW H) → Nat
  | [] => 0
  | x :: r => uptoBulkEntry x + uptoBulkEntries r
def uptoBulkEntry {H : Type} : Lit × DataW H → Nat
  | (.string bytes, d) => bytes.length + uptoBulk d + 1
  | (_, d) => uptoBulk d + 1
 end
def uptoSmall : (H : Type) → List (DataW H) → Bool := fun _ ds => decide (uptoBulkAll ds ≤ 1048576)
def OpenSpec.upto (s : _root_.Go.ChangeSpec) : _root_.Go.OpenSpec := { _root_.Go.OpenSpec.ofChange s with cond := some uptoSmall }

/-- 'cardgamelaw24.ObjectNew', WHERE WHAT IT READS IS OF BULK AT MOST 1048576: true; the input reads as it did. -/
def objectNewUptoRow : OpenClaim := { program := "ytpejbfdmiinokaa", sum := "cc5a4bf0dfd76053c1b27fd34a041d363268654adb88bb8938ae6a47af093be4", func := "cardgame/cardgamelaw24.ObjectNew", spec := "objectNew", apart := false, narrowed := true }
def ObjectNewUptoSaid : Prop := objectNewUptoRow.holds Try.pinned (OpenSpec.upto objectNewSpec)

/-- 'cardgamelaw24.ObjectEnds', WHERE WHAT IT READS IS OF BULK AT MOST 1048576: true; the input reads as it did. -/
def objectEndsUptoRow : OpenClaim := { program := "ytpejbfdmiinokaa", sum := "cc5a4bf0dfd76053c1b27fd34a041d363268654adb88bb8938ae6a47af093be4", func := "cardgame/cardgamelaw24.ObjectEnds", spec := "objectEnds", apart := false, narrowed := true }
def ObjectEndsUptoSaid : Prop := objectEndsUptoRow.holds Try.pinned (OpenSpec.upto objectEndsSpec)

/-- 'cardgamelaw24.ObjectIs', WHERE WHAT IT READS IS OF BULK AT MOST 1048576: true; the input reads as it did. -/
def objectIsUptoRow : OpenClaim := { program := "ytpejbfdmiinokaa", sum := "cc5a4bf0dfd76053c1b27fd34a041d363268654adb88bb8938ae6a47af093be4", func := "cardgame/cardgamelaw24.ObjectIs", spec := "objectIs", apart := false, narrowed := true }
def ObjectIsUptoSaid : Prop := objectIsUptoRow.holds Try.pinned (OpenSpec.upto objectIsSpec)

/-- 'cardgamelaw24.ObjectCalms', WHERE WHAT IT READS IS OF BULK AT MOST 1048576: true; the input reads as it did. -/
def objectCalmsUptoRow : OpenClaim := { program := "ytpejbfdmiinokaa", sum := "cc5a4bf0dfd76053c1b27fd34a041d363268654adb88bb8938ae6a47af093be4", func := "cardgame/cardgamelaw24.ObjectCalms", spec := "objectCalms", apart := false, narrowed := true }
def ObjectCalmsUptoSaid : Prop := objectCalmsUptoRow.holds Try.pinned (OpenSpec.upto objectCalmsSpec)

/-- 'cardgamelaw24.ObjectMoves', WHERE WHAT IT READS IS OF BULK AT MOST 1048576: true; the input reads as it did. -/
def objectMovesUptoRow : OpenClaim := { program := "ytpejbfdmiinokaa", sum := "cc5a4bf0dfd76053c1b27fd34a041d363268654adb88bb8938ae6a47af093be4", func := "cardgame/cardgamelaw24.ObjectMoves", spec := "objectMoves", apart := false, narrowed := true }
def ObjectMovesUptoSaid : Prop := objectMovesUptoRow.holds Try.pinned (OpenSpec.upto objectMovesSpec)

/-- 'cardgamelaw24.ObjectValid', WHERE WHAT IT READS IS OF BULK AT MOST 1048576: true; the input reads as it did. -/
def objectValidUptoRow : OpenClaim := { program := "ytpejbfdmiinokaa", sum := "cc5a4bf0dfd76053c1b27fd34a041d363268654adb88bb8938ae6a47af093be4", func := "cardgame/cardgamelaw24.ObjectValid", spec := "objectValid", apart := false, narrowed := true }
def ObjectValidUptoSaid : Prop := objectValidUptoRow.holds Try.pinned (OpenSpec.upto objectValidSpec)

end Rows
end Go.Proofs.Ytpejbfdmiinokaa
