/-
  A FILTER LOADED WHOLE INSIDE A REGION THAT DRAWS ITS ORDER. By an AI agent.
-/
import Derived.Test.YtboealolklojiaaDoorFilKit
import Derived.Test.YtboealolklojiaaDoorHand
namespace Go.Proofs.YtboealolklojiaaDoor
open Go.RowKit

section
variable {ops : Array Oper} {Q : Exit → Act → World → Prop} {md : Region.Mode} {S : World → Prop}
theorem take_loadF (i : Nat) (d : Option Tmp) {oi : Oper} {fuel : Nat} {listed : Array Bool} {a : Act} {w : World} (hi : ops[i]? = some oi) (hd : oi.dst = d)
    (hs : Region.noSelect ops = true) (hf : Region.free md ops listed i = true) (hr : (Region.ready md ops listed).contains i = true)
    {b : Nat} {cs : Array Value} (hQ : ∀ c a w, Q (.panic c) (a.put d (.agg cs)) w → Q (.panic c) a w) (hw : Region.wanted oi (yielded ops a.tmps) = true) (x : Operand) (ho : oi.op = .load 25 x)
    (hx : a.eval x = .pointer (some ⟨b, 0, none⟩)) (hk : ∀ w, S w → Blk w b cs 25) (hn : cs.size = 16) (hS : S w)
    (h : wpAnyH Tryd.prog md ops Q S fuel (listed.setIfInBounds i true) (a.put d (.agg cs)) w) : wpAnyH Tryd.prog md ops Q S (fuel + 1) listed a w :=
  take_run i d hi hd hs hf hr hQ hw (fun w' h' => by
    unfold execOp
    have hl := run_loadVar_mid (P := Tryd.prog) w' b 0 25 cs.toList _ (hk w' h').range Tryd.underlying25 rfl (by rw [sizeTF]; simp [hn])
    simp only [ho, hx, Instr.loadAt, Instr.sureAddr, Sem.run_bind, Sem.run_pure, Result.andThen_ok, hl]) hS h
end
end Go.Proofs.YtboealolklojiaaDoor
