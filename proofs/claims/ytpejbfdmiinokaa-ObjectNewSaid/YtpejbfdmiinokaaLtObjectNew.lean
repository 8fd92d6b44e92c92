/-
  THE LAW ObjectNew: by the tree of its tests. By an AI agent.
-/
import Derived.Test.YtpejbfdmiinokaaObAlv24
namespace Go.Proofs.Ytpejbfdmiinokaa
open Go.RowKit Go.Sx
def shObjectNew0 : Shp := (Shp.ts [3, 3, 3, 3, 3, 8, 8, 8, 8, 3, 3, 3, 3, 3, 3, 3, 8, 3, 3] .nil)
def shObjectNew1 : Shp := (Shp.ts [3, 3, 3, 3] .nil)
abbrev parObjectNew : List Par := [(true, shObjectNew0), (true, shObjectNew1)]
def treeObjectNew : T3 := (.n (B 200 (L 3 2001) (I 0)) (.l (.bool true)) (.n (B 200 (L 3 2001) (I 5)) (.l (.bool true)) (.l (.bool true))))
theorem chkObjectNew : chk (runF Try.prog GN (fun _ => envAlv) [] 400 gl 3 (letArgs parObjectNew 0).toArray) treeObjectNew [] = true := by kernel_rfl
theorem lawObjectNew {W : World} {xss : List (List Value)} (hx : ArgsAt parObjectNew xss) (hE : EnvS W) : Calls Try.prog 3 (valArgs parObjectNew xss).toArray W fun e w' => e = .returned (.bool true) ∧ Below W.heap.size W w' :=
  lawBy noGo mixed chkObjectNew (by kernel_rfl) (by kernel_rfl) hx (@envAlv_ok (thOf (rhoArgs xss) W) W hE) hE.2
end Go.Proofs.Ytpejbfdmiinokaa
