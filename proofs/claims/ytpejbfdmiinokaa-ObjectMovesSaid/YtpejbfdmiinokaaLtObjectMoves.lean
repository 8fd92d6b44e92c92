/-
  THE LAW ObjectMoves: by the tree of its tests. By an AI agent.
-/
import Derived.Test.YtpejbfdmiinokaaObAlv24
namespace Go.Proofs.Ytpejbfdmiinokaa
open Go.RowKit Go.Sx
def shObjectMoves0 : Shp := (Shp.ts [3, 3, 3, 3, 3, 8, 8, 8, 8, 3, 3, 3, 3, 3, 3, 3, 8, 3, 3] .nil)
def shObjectMoves1 : Shp := (Shp.ts [3, 3, 3, 3] .nil)
abbrev parObjectMoves : List Par := [(true, shObjectMoves0), (true, shObjectMoves1)]
def treeObjectMoves : T3 := (.n (B 200 (L 3 2001) (I 0)) (.l (.bool true)) (.n (B 200 (L 3 2001) (I 5)) (.l (.bool true)) (.l (.bool true))))
theorem chkObjectMoves : chk (runF Try.prog GN (fun _ => envAlv) [] 400 gl 7 (letArgs parObjectMoves 0).toArray) treeObjectMoves [] = true := by kernel_rfl
theorem lawObjectMoves {W : World} {xss : List (List Value)} (hx : ArgsAt parObjectMoves xss) (hE : EnvS W) : Calls Try.prog 7 (valArgs parObjectMoves xss).toArray W fun e w' => e = .returned (.bool true) ∧ Below W.heap.size W w' :=
  lawBy noGo mixed chkObjectMoves (by kernel_rfl) (by kernel_rfl) hx (@envAlv_ok (thOf (rhoArgs xss) W) W hE) hE.2
end Go.Proofs.Ytpejbfdmiinokaa
