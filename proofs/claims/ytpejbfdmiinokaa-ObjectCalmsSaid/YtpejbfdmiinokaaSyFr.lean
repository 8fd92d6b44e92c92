/-
  RUNS RECKONED AHEAD: a plain region parted at a call whose answer depends on the run. By an AI agent.
-/
import Derived.Test.YtpejbfdmiinokaaSyTo
namespace Go.Sx
open Go.RowKit
section
variable {P : Program} {G : Nat} {W : World} {ρ : Nat → Value}
/-- the call itself: whatever it answers goes into its slot -/
theorem freshOp (hN : NoGo P) {r : List Nat} {n : Nat} {t : Tr} {b : Act} {w : World} {o : Oper} {c : Call} {g : FuncId} {args : Array Value} (hc : o.op = .call c) (hcall : callOf G (t.ev n) c = some (g, args)) (hbody : hasBody P g = true)
    (h : @EvR (thOf ρ W) G r (t.ev n) b.eval) {K : Act → World → Prop} {Q : Exit → Act → World → Prop}
    (hC : ∀ args', @All (@V2 (thOf ρ W) r) args args' → Calls P g args' w fun e w' => ∃ X, e = .returned X ∧ K (b.put o.dst X) w') : o.wp P b w K Q := by
  letI := thOf ρ W
  unfold callOf at hcall
  split at hcall
  · rename_i f hcallee
    split at hcall
    · rename_i g' first cap ho hf
      split at hcall
      · rename_i hargs
        injection hcall with hcall
        injection hcall with e1 e2
        subst e1 e2
        obtain ⟨first', cap', hf', h1, h2⟩ := V0.func (h _ ho) hf
        unfold hasBody at hbody
        split at hbody
        · rename_i fn hfn
          unfold Oper.wp
          rw [run_call hc hcallee hf' hfn (hN _ _ hfn) hbody, Oper.upon_enter]
          have hall : All (V2 r) (first ++ c.args.map (t.ev n) ++ cap) (first' ++ c.args.map b.eval ++ cap') := by
            refine All.append (All.append (h1.mono fun _ _ h => h.up.up) ?_) (h2.mono fun _ _ h => h.up.up)
            refine All.map fun x hx => ?_
            rw [Array.all_eq_true_iff_forall_mem] at hargs
            have := hargs x hx
            rw [Bool.and_eq_true] at this
            exact (h _ this.1).nt this.2
          refine (hC _ hall).mono ?_
          rintro e w' ⟨X, rfl, hk⟩
          exact hk
        · cases hbody
      · cases hcall
    · cases hcall
  · cases hcall
theorem wp_then {o : Oper} {a : Act} {w : World} {K N : Act → World → Prop} {Q : Exit → Act → World → Prop} (h : o.wp P a w K (Exit.then N Q)) : o.wp P a w K Q := by
  unfold Oper.wp at *
  generalize (execOp a.eval o).run P w = r at *
  cases r with
  | ok n w' => cases n <;> exact h
  | halt x w' => cases x <;> exact h
/-- the list of operations, parted -/
theorem wpList_parted {ops : Array Oper} {Q : Exit → Act → World → Prop} : ∀ (A B : List Oper) (b : Act) (w : World), wpList P ops (Exit.then (wpList P ops Q B) Q) A b w → wpList P ops Q (A ++ B) b w
  | [], _, _, _, h => h
  | o :: A, B, b, w, h => by
    rw [List.cons_append]
    unfold wpList at h ⊢
    split
    · rename_i hw
      rw [if_pos hw] at h
      rcases h with h | ⟨h1, h2⟩
      · exact .inl (Oper.wp_mono (fun a w' h' => wpList_parted A B a w' h') (wp_then h))
      · exact .inr ⟨h1, h2⟩
    · rename_i hw
      rw [if_neg hw] at h
      exact wpList_parted A B _ w h
/-- a run of operations over letters -/
theorem opsL (hN : NoGo P) (hM : P.follows .mixedOrders = true) {env : EnvF} {M : List (Value × List Value)} {F : Fs} {nf nt : Nat} {ops : Array Oper} {l : List Oper} {t t' : Tr} {m m' : AM} (hK : Kn P G W ρ (fun _ => env) M F)
    (he : @evOps ⟨F, M⟩ P G (evCall P env (@evCode ⟨F, M⟩ P G env nf)) nt ops l t m = some (t', m')) {Q : Exit → Act → World → Prop} {b : Act} {w : World} (hI : Inv P G W ρ nt t m b w)
    (hQ : ∀ b' w', Inv P G W ρ nt t' m' b' w' → Q .normal b' w') : wpList P ops Q l b w := by
  letI := thOf ρ W
  haveI := ts_of ρ W
  haveI := at_of ρ W
  letI : Fx := ⟨F, M⟩
  haveI : Sat := ⟨hK.sat, hK.mem⟩
  obtain ⟨r, ha, hw, hB⟩ := hI
  have hE : EnvOk P G W env := hK.env F hK.sat
  exact evOps_sound hN (evCall_ok hE (evCode_good hN hM hE nf).1) l he ha hw hB fun r' b' w' ha' hw' hs => hQ b' w' ⟨r', ha', hw', Nat.le_trans hB hs.size⟩
end
end Go.Sx
