/-
  RUNS RECKONED AHEAD: a law without loops of which some regions draw their order among operations that make memory: all orders, to the end, answer true. By an AI agent.
-/
import Derived.Test.YtpejbfdmiinokaaSyTr
import Derived.Test.YtpejbfdmiinokaaSyLw
namespace Go.Sx
open Go.RowKit
/-- the law's answer is true -/
noncomputable def endT (P : Program) (fn : Func) (t : Tr) (m : AM) : Bool := match resL P fn.ntmps t m fn.results.toList with
  | some vs => match resV vs with
    | some v => veq v (.bool true)
    | none => false
  | none => false
/-- the items from a state on, in all orders -/
noncomputable def goL [Fx] (P : Program) (G : Nat) (env : EnvF) (n : Nat) (fn : Func) : List Code → Tr → AM → Bool
  | [], t, m => endT P fn t m
  | c :: l, t, m => match evCode P G env n fn.ntmps c t m with
    | some (.normal, t', m') => goL P G env n fn l t' m'
    | some (.ret, t', m') => endT P fn t' m'
    | some (.exit _, _, _) => false
    | none => match c with
      | .region _ ops true => match Region.noSelect ops with
        | true => evTree P G (evCall P env (evCode P G env n)) fn.ntmps ops (goL P G env n fn l) ops.size 0 (omsL ops 0 ops.toList) [] t m
        | false => false
      | _ => false
/-- all ways of the tests -/
noncomputable def chkG (run : Fs → Bool) : T3 → Fs → Bool
  | .l _, F => run F
  | .n t a b, F => match isBt t with
    | true => match chkG run a ((t, true) :: F) with
      | true => chkG run b ((t, false) :: F)
      | false => false
    | false => false
theorem chkG_sound [Th] [Ts] {run : Fs → Bool} : ∀ (T : T3) {F : Fs}, chkG run T F = true → SatL F → ∃ F', SatL F' ∧ run F' = true
  | .l _, F, h, hF => ⟨F, hF, h⟩
  | .n t a b, F, h, hF => by
    unfold chkG at h
    split at h
    · rename_i hb
      split at h
      · rename_i ha
        rcases bt_bool hb with hc | hc
        · exact chkG_sound a ha (fun p hp => by
            rcases List.mem_cons.1 hp with rfl | hp
            · exact hc
            · exact hF p hp)
        · exact chkG_sound b h (fun p hp => by
            rcases List.mem_cons.1 hp with rfl | hp
            · exact hc
            · exact hF p hp)
      · cases h
    · cases h
section
variable {P : Program} {G : Nat} {W : World} {ρ : Nat → Value} {env : EnvF} {F : Fs}
abbrev TrueR (W : World) (e : Ending) (w' : World) : Prop := e = .returned (.bool true) ∧ Below W.heap.size W w'
theorem end_post {fn : Func} {t : Tr} {m : AM} {r : List Nat} {b : Act} {w : World} {e : Exit} (he : e = .normal ∨ e = .ret) (h : endT P fn t m = true) (ha : @AcT (thOf ρ W) fn.ntmps r t b) (hw : @Wd (thOf ρ W) P G W r m w) (hB : W.heap.size ≤ w.heap.size) : bodyPost P fn (TrueR W) e b w := by
  unfold endT at h
  split at h
  · rename_i vs h1
    split at h
    · rename_i v h2
      refine answerP (ρ := ρ) (G := G) he ⟨r, ha, hw, hB⟩ h1 h2 fun X w' ⟨r', hX⟩ hbl => ?_
      have := veq_eq h
      subst this
      exact ⟨congrArg _ (@still3_eq (thOf ρ W) _ _ _ hX rfl), hbl⟩
    · cases h
  · cases h
theorem goL_wp (hN : NoGo P) (hM : P.follows .mixedOrders = true) {n : Nat} {fn : Func} (hS : @SatL (thOf ρ W) F) (hE : @EnvOk (thOf ρ W) P G W env) : ∀ (l : List Code) (t : Tr) (m : AM), @goL ⟨F, []⟩ P G env n fn l t m = true →
    ∀ r b w, @AcT (thOf ρ W) fn.ntmps r t b → @Wd (thOf ρ W) P G W r m w → W.heap.size ≤ w.heap.size → seqWp P (bodyPost P fn (TrueR W)) l b w
  | [], t, m, h, r, b, w, ha, hw, hB => end_post (.inl rfl) h ha hw hB
  | c :: l, t, m, h, r, b, w, ha, hw, hB => by
    letI := thOf ρ W
    letI : Fx := ⟨F, []⟩
    haveI := ts_of ρ W
    haveI := at_of ρ W
    haveI : Sat := ⟨hS, fun p hp => by cases hp⟩
    unfold goL at h
    have good := (evCode_good hN hM hE n).1
    have hQ : ∀ c a w, ¬ bodyPost P fn (TrueR W) (.panic c) a w := fun c a w h => by
      cases h.2.1
    have hnp : ∀ c a w, ¬ Exit.then (seqWp P (bodyPost P fn (TrueR W)) l) (bodyPost P fn (TrueR W)) (.panic c) a w := fun c a w h => hQ c a w h
    split at h
    · rename_i t1 m1 h1
      exact good fn.ntmps c t m .normal t1 m1 h1 r b w ha hw hB _ hnp fun r1 b1 w1 ha1 hw1 hs1 => goL_wp hN hM hS hE l t1 m1 h r1 b1 w1 ha1 hw1 (Nat.le_trans hB hs1.size)
    · rename_i t1 m1 h1
      exact good fn.ntmps c t m .ret t1 m1 h1 r b w ha hw hB _ hnp fun r1 b1 w1 ha1 hw1 hs1 => end_post (.inr rfl) h ha1 hw1 (Nat.le_trans hB hs1.size)
    · cases h
    · split at h
      · rename_i id ops _
        split at h
        · rename_i hsel
          have hwd : Wd P G W r m { w with drawn := w.drawn + 1 } := ⟨⟨hw.low.os, hw.low.tape, hw.low.output, hw.low.size, hw.low.block⟩, hw.n, hw.g, hw.at_, hw.inj, ⟨hw.low2.os, hw.low2.tape, hw.low2.output, hw.low2.size, hw.low2.block⟩, hw.opn⟩
          refine wp_region_any hM (wpAny_of_O _ [] _ _ _ (evTree_sound hN (evCall_ok hE good) hsel (Q := Exit.then (seqWp P (bodyPost P fn (TrueR W)) l) (bodyPost P fn (TrueR W))) hnp ops.size (left_start ops) h ha hwd hB closed_none (F := []) (fun y hy => by simp at hy) (fun y hy => by simp at hy) fun r' b' w' a' m' hl ha' hw' hs => ?_))
          exact goL_wp hN hM hS hE l a' m' hl r' b' w' ha' hw' (Nat.le_trans hB hs.size)
        · cases h
      · cases h
/-- A LAW WITHOUT LOOPS, IN ALL ORDERS -/
theorem lawTree {l : List Bk} {f : FuncId} {fn : Func} {c : Code} {as : List Par} {T : T3} {n : Nat} (hN : NoGo P) (hM : P.follows .mixedOrders = true) (hfn : P.funcs[f]? = some fn) (hcd : fn.body = some c) (hk : (Nat.ble fn.ntmps 512 && Nat.ble (letArgs as 0).toArray.toList.length fn.ntmps) = true)
    (hc : chkG (fun F => @goL ⟨F, []⟩ P G env n fn (flat c) (argsT fn.ntmps 0 (letArgs as 0).toArray.toList (.leaf undef)) ⟨G, l⟩) T [] = true) (has : as.all parOk = true)
    {xss : List (List Value)} (hx : ArgsAt as xss) (henv : @EnvOk (thOf (rhoArgs xss) W) P G W env) (hK : Knows G l W) : Calls P f (valArgs as xss).toArray W fun e w' => e = .returned (.bool true) ∧ Below W.heap.size W w' := by
  letI := thOf (rhoArgs xss) W
  haveI := ts_of (rhoArgs xss) W
  obtain ⟨F', h1, h2⟩ := chkG_sound T hc (fun p hp => by cases hp)
  refine enterP (ρ := rhoArgs xss) (l := l) hfn hcd hk (letArgs_all (k := 0) has hx (fun i y h => by simpa using h)) hK fun b ⟨r, ha, hw, hB⟩ => seqWp_code _ _ _ ?_
  exact goL_wp hN hM h1 henv (flat c) _ _ h2 r b W ha hw hB
end
end Go.Sx
