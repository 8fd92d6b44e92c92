/-
  THE LAW's alive(), reckoned: a region in which two allocations may come up at once. By an AI agent.
-/
import Derived.Test.YtokenooggmnbaaaDoorSxEnv
import Derived.Test.YtokenooggmnbaaaDoorSyTr
import Derived.Test.YtokenooggmnbaaaDoorSyRz
import Derived.Test.YtokenooggmnbaaaDoorSyYC
import Derived.Test.YtokenooggmnbaaaDoorSyTo
namespace Go.Proofs.YtokenooggmnbaaaDoor
open Go.RowKit Go.Sx
noncomputable abbrev PP : Program := Tryd.prog
abbrev GN : Nat := 6
def gl : List Bk := []
@[reducible] def fx0 : Fx := ⟨[], []⟩
def envT : EnvF := envOf envP (fun _ _ _ => none)
noncomputable def cA : Code := (Tryd.f4.body).getD .skip
noncomputable def rA : Code := ((flat cA).drop 3).headD .skip
noncomputable def tA : Tr := mkT 50 [(0, .bool true)]
noncomputable def aliveCk : Bool := match runL Tryd.prog GN (fun _ => envT) [] 400 50 [] ((flat cA).take 3) (argsT 50 0 [] (.leaf undef)) ⟨GN, gl⟩ with
  | some (.normal, t, m) => @evTree fx0 Tryd.prog GN (evCall Tryd.prog envT (@evCode fx0 Tryd.prog GN envT 400)) 50 (opsOf rA) (leafT 1 GN 50 [] tA ⟨GN, gl⟩) (opsOf rA).size 0 (omsL (opsOf rA) 0 (opsOf rA).toList) [] t m
  | _ => false
theorem aliveCk_eq : aliveCk = true := by kernel_rfl
theorem noGo : NoGo Tryd.prog := by
  intro f fn h
  have h1 : (Tryd.prog.funcs.all fun fn => !(fn.name == "runtime.NumGoroutine")) = true := by kernel_rfl
  have h2 := (Array.all_eq_true_iff_forall_mem.1 h1) fn (Array.mem_of_getElem? h)
  simpa using h2
theorem mixed : Tryd.prog.follows .mixedOrders = true := by kernel_rfl
theorem endA : chkP (fun F => runL PP GN noE [] 40 50 F ((flat cA).drop 4) tA ⟨GN, gl⟩) 1 GN 50 [⟨.ret, tA, ⟨GN, gl⟩⟩] (.o 0 []) [] = true := by kernel_rfl
theorem alive_ok {w : World} (hE : EnvN w) (hK : Knows GN gl w) : Calls PP 4 #[] w fun e w' => e = .returned (.bool true) ∧ Below w.heap.size w w' := by
  let ρ0 : Nat → Value := fun _ => .bool true
  let R : Ending → World → Prop := fun e w' => e = .returned (.bool true) ∧ Below w.heap.size w w'
  have h := aliveCk_eq
  unfold aliveCk at h
  split at h
  · rename_i t m hrun
    have kn : Kn PP GN w ρ0 (fun _ => envT) [] [] := ⟨fun p hp => by simp at hp, fun p hp => by simp at hp, fun _ _ => by letI := thOf ρ0 w; exact envOf_ok (envP_ok hE) envNone_ok⟩
    refine enterP (ρ := ρ0) (args := #[]) (l := gl) (fn := Tryd.f4) (c := cA) (by kernel_rfl) (by kernel_rfl) (by kernel_rfl) All.nil hK fun b hI => seqWp_code _ _ _ ?_
    rw [← List.take_append_drop 3 (flat cA)]
    obtain ⟨r, ha, hw, hB⟩ := hI
    refine seqWp_append _ _ _ _ (seqWp_mono ?_ _ _ _ (runL_wpS noGo mixed kn (Q := fun e b' w' => e = .normal ∧ InvR PP GN w ρ0 (fun _ => []) [] 50 t m b' w') (fun c a w h => by cases h.1) _ _ _ _ t m hrun r b w ha hw hB fun r' b' w' ha' hw' hB' _ => ⟨rfl, r', ha', hw', hB', fun _ h => by simp at h, fun _ h => by simp at h⟩))
    rintro e b1 w1 ⟨rfl, hI1⟩
    show seqWp PP _ ((flat cA).drop 3) b1 w1
    rw [show (flat cA).drop 3 = Code.region (idOf rA) (opsOf rA) true :: (flat cA).drop 4 from rfl]
    refine wp_mono (treeR noGo mixed (Q := fun _ _ _ => False) (N := fun b w' => InvR PP GN w (upd ρ0 []) (updG (fun _ => []) []) [] 50 tA ⟨GN, gl⟩ b w') (by kernel_rfl) kn rfl h (fun _ _ _ h => h) hI1 fun _ _ h => h) ?_
    intro e b2 w2 he
    cases e with
    | normal =>
      have hI2 : InvR PP GN w (upd ρ0 []) (updG (fun _ => []) []) [] 50 tA ⟨GN, gl⟩ b2 w2 := he
      show seqWp PP _ ((flat cA).drop 4) b2 w2
      refine seqWp_mono ?_ _ _ _ (pieceR noGo mixed endA (ls := [[]]) (X := fun _ _ _ => True) (by kernel_rfl) ⟨fun p hp => by simp at hp, fun p hp => by simp at hp, noE_ok _⟩ trivial hI2)
      rintro e b6 w6 ⟨e2, ρ6, γ6, x, L6, -, hxj, hlj, rfl, hI6⟩
      cases e2 with
      | succ e2 => simp at hxj
      | zero =>
      simp at hxj hlj
      subst hxj hlj
      refine answerP (vs := [.bool true]) (v := .bool true) (.inr rfl) hI6.inv (by kernel_rfl) rfl ?_
      rintro X w' ⟨r, hX⟩ hB
      obtain ⟨-, rfl⟩ := hX
      exact ⟨rfl, hB⟩
    | _ => exact he.elim
  · cases h
end Go.Proofs.YtokenooggmnbaaaDoor
