/-
  WHAT THE LAWS OF LAYER 10 ASK OF A LINE AMONG THEIR ARGUMENTS. By an AI agent.
-/
import Derived.Test.YtbichcmpggbfnaaDoorLineAlive
namespace Go.Proofs.YtbichcmpggbfnaaDoor
open Go.RowKit
open Wd (Bs)

/-- a Go line's parts at a base world: what the laws ask of an argument -/
structure LineIn (w : World) (v : Value) (l : List Bs) : Prop where
  strs : Strs w v l
  fine : Fine l
theorem LineIn.below {C : Nat} {w w' : World} {v : Value} {l : List Bs} (h : LineIn w v l) (hb : Below C w w') (hC : w.heap.size ≤ C) : LineIn w' v l := ⟨h.strs.below hb hC, h.fine⟩
theorem few_cases (l : List Bs) : (fewB l = true ∧ l.length ≤ 12) ∨ fewB l = false := by
  by_cases h : l.length ≤ 12
  · exact .inl ⟨by unfold fewB; simp [h], h⟩
  · exact .inr (by unfold fewB; simp; omega)
end Go.Proofs.YtbichcmpggbfnaaDoor
