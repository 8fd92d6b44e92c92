/-
  THE LAW ObjectEnds: by the tree of its tests. By an AI agent.
-/
import Derived.Test.YtpejbfdmiinokaaObAlv24
namespace Go.Proofs.Ytpejbfdmiinokaa
open Go.RowKit Go.Sx
def shObjectEnds0 : Shp := (Shp.ts [3, 3, 3, 3, 3, 8, 8, 8, 8, 3, 3, 3, 3, 3, 3, 3, 8, 3, 3] .nil)
abbrev parObjectEnds : List Par := [(true, shObjectEnds0)]
def treeObjectEnds : T3 := (.l (.bool true))
theorem chkObjectEnds : chk (runF Try.prog GN (fun _ => envAlv) [] 400 gl 4 (letArgs parObjectEnds 0).toArray) treeObjectEnds [] = true := by kernel_rfl
theorem lawObjectEnds {W : World} {xss : List (List Value)} (hx : ArgsAt parObjectEnds xss) (hE : EnvS W) : Calls Try.prog 4 (valArgs parObjectEnds xss).toArray W fun e w' => e = .returned (.bool true) ∧ Below W.heap.size W w' :=
  lawBy noGo mixed chkObjectEnds (by kernel_rfl) (by kernel_rfl) hx (@envAlv_ok (thOf (rhoArgs xss) W) W hE) hE.2
end Go.Proofs.Ytpejbfdmiinokaa
