/-
  THE LAW ObjectCalms: by the tree of its tests. By an AI agent.
-/
import Derived.Test.YtpejbfdmiinokaaObAlv24
import Derived.Test.YtpejbfdmiinokaaSyTl
namespace Go.Proofs.Ytpejbfdmiinokaa
open Go.RowKit Go.Sx
def shObjectCalms0 : Shp := (Shp.ts [3, 3, 3, 3, 3, 8, 8, 8, 8, 3, 3, 3, 3, 3, 3, 3, 8, 3, 3] .nil)
abbrev parObjectCalms : List Par := [(true, shObjectCalms0)]
def treeObjectCalms : T3 := (.l (.bool true))
theorem chkObjectCalms : chkG (fun F => @goL ⟨F, []⟩ Try.prog GN envAlv 400 Try.f6 (flat ((Try.f6.body).getD .skip)) (argsT Try.f6.ntmps 0 (letArgs parObjectCalms 0).toArray.toList (.leaf undef)) ⟨GN, gl⟩) treeObjectCalms [] = true := by kernel_rfl
theorem lawObjectCalms {W : World} {xss : List (List Value)} (hx : ArgsAt parObjectCalms xss) (hE : EnvS W) : Calls Try.prog 6 (valArgs parObjectCalms xss).toArray W fun e w' => e = .returned (.bool true) ∧ Below W.heap.size W w' :=
  lawTree noGo mixed (fn := Try.f6) (c := (Try.f6.body).getD .skip) (by kernel_rfl) (by kernel_rfl) (by kernel_rfl) chkObjectCalms (by kernel_rfl) hx (@envAlv_ok (thOf (rhoArgs xss) W) W hE) hE.2
end Go.Proofs.Ytpejbfdmiinokaa
