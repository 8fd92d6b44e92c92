/-
  CONTRACTS OF LAYER 13 (filter): boundText; slices.DeleteFunc of the empty strings. By an AI agent.
-/
import Derived.Test.YtkohfomiigcifaaGreatDoorFilTab
import Derived.Test.YtkohfomiigcifaaGreatDoorHand
namespace Go.Proofs.YtkohfomiigcifaaGreatDoor
open Go.RowKit
open Wd (Bs)

theorem fromBase {f : FuncId} {args : Array Value} {v : Value} {C : Nat} {w0 W : World} (hb : Below C w0 W) (hC : C ≤ w0.heap.size)
    (h : Calls Tryz.prog f args W fun e w' => e = .returned v ∧ Below W.heap.size W w') : Calls Tryz.prog f args W fun e w' => e = .returned v ∧ Below C w0 w' :=
  h.mono fun _ _ ⟨he, hb'⟩ => ⟨he, hb.trans (hb'.mono (Nat.le_trans hC hb.size))⟩
/-- a table made within a region: where it lies, the word at the place looked at -/
theorem tabAt {f : FuncId} {l : List Bs} {n : Nat} (hf : ∀ w : World, Calls Tryz.prog f #[] w fun e w' => e = .returned (.slice (some ⟨w.heap.size, 0, none⟩) n n) ∧ w' = w.alloc (.cells (l.map str).toArray 9))
    {C : Nat} {w0 W : World} (hb : Below C w0 W) (hC : C ≤ w0.heap.size) {k : Nat} {sx : ByteArray} (hx : l[k]? = some sx.data.toList) :
    Calls Tryz.prog f #[] W fun e w' => e = .returned (.slice (some ⟨W.heap.size, 0, none⟩) n n) ∧ w'.cell? ⟨W.heap.size, k, none⟩ = some (.string sx) ∧ W.heap.size < w'.heap.size ∧ Below C w0 w' :=
  (hf W).mono fun e w' ⟨he, hw⟩ => ⟨he, by
    rw [hw]
    simp [hx]
    rfl, by rw [hw]; simp, hb.trans (by rw [hw]; exact (Below.refl _ _).alloc (Nat.le_trans hC hb.size) _)⟩
theorem sign_at {k : Nat} (h : k ≤ 3) : Fil.signsL[k]? = some (Fil.signW k) := by
  match k, h with
  | 0, _ => rfl
  | 1, _ => rfl
  | 2, _ => rfl
  | 3, _ => rfl
theorem sign_len (k : Nat) : (Fil.signW k).length ≤ 2 := by
  by_cases h : k < 4
  · have : ∀ k, k < 4 → (Fil.signW k).length ≤ 2 := by decide
    exact this k h
  · unfold Fil.signW List.getD
    rw [List.getElem?_eq_none (by show 4 ≤ k; omega)]
    decide
set_option maxHeartbeats 2000000 in
set_option maxRecDepth 100000 in
theorem filBoundText (nm : ByteArray) (b : Fil.Bd) (w : World) (hE : Env w) (hn : nm.size ≤ 1000) (hv : Fil.bdB b = true) :
    Calls Tryz.prog 89 #[.string nm, .agg #[.int .i64 b.kind, .int .i64 b.n]] w fun e w' => e = .returned (str (Fil.bdW nm.data.toList b)) ∧ Below w.heap.size w w' := by
  have hb0 : Below w.heap.size w (w.alloc (.cells #[.int .i64 b.kind, .int .i64 b.n] 23)) := (Below.refl _ _).alloc (Nat.le_refl _) _
  have HB0 := Lib.hid hb0
  have HE := Lib.hid (fun (W : World) (hb : Below (w.alloc (.cells #[.int .i64 b.kind, .int .i64 b.n] 23)).heap.size (w.alloc (.cells #[.int .i64 b.kind, .int .i64 b.n] 23)) W) => (hE.below hb0).below hb)
  by_cases hk : b.kind = 0
  · have hk' : (b.kind == 0) = true := by simp [hk]
    have HR : Hid (Fil.bdW nm.data.toList b = []) := Lib.hid (by unfold Fil.bdW; rw [if_pos hk])
    clear hk hb0 hE
    go_enter Tryz.func89, Tryz.ntmps89
    go_wp2_with fail
    go_ret
    exact ⟨by rw [HR.out]; rfl, HB0.out⟩
  · obtain ⟨h0, h1, h2, h3, -⟩ := Fil.bd_valid hv
    obtain ⟨k, hkk⟩ : ∃ k : Nat, b.kind = (k : Int) := ⟨b.kind.toNat, by omega⟩
    obtain ⟨n, hnn⟩ : ∃ n, b.n = n := ⟨_, rfl⟩
    obtain ⟨sx, hsx, -⟩ := exists_bytes (Fil.signW k)
    have hx : Fil.signsL[k]? = some sx.data.toList := by rw [hsx]; exact sign_at (by omega)
    have HXX := Lib.hid hx
    obtain ⟨sn, hsn, en⟩ := exists_bytes (Lib.itoa n)
    have HN : Hid (∀ W, EnvN W → Calls Tryz.prog 54 #[.int .i64 n] W fun e w' => e = .returned (.string sn) ∧ Below W.heap.size W w') :=
      Lib.hid fun W hW => (numText n (by omega) (by omega) W hW).mono fun e w' ⟨he, hb⟩ => ⟨he.trans (congrArg _ en), hb⟩
    have HR : Hid (Fil.bdW nm.data.toList b = (nm ++ sx ++ sn).data.toList) := Lib.hid (by
      unfold Fil.bdW; rw [if_neg hk, cat_bytes, cat_bytes, hsx, hsn, hkk, hnn]; rfl)
    have l1 : sx.size ≤ 2 := by have := sign_len k; rw [← hsx] at this; simpa using this
    have l2 : sn.size ≤ 21 := by have := Num.itoa_len (n := n) (by omega) (by omega); rw [← hsn] at this; simpa using this
    have a1 : ∀ W : World, (Op.stringOp .add nm sx).run Tryz.prog W = .ok (.string (nm ++ sx)) W := fun W => run_string_add_sum W _ _ (by omega)
    have a2 : ∀ W : World, (Op.stringOp .add (nm ++ sx) sn).run Tryz.prog W = .ok (.string (nm ++ sx ++ sn)) W := fun W => run_string_add_sum W _ _ (by rw [ByteArray.size_append]; omega)
    have hk' : ((k : Int) == 0) = false := by simp; omega
    have k0 : (0 : Int) ≤ (k : Int) := by omega
    have k4 : (k : Int) < 4 := by omega
    have k4' : k < 4 := by omega
    have hbb : b = ⟨(k : Int), n⟩ := by cases b; simp_all
    subst hbb
    clear hk hkk hnn h0 h1 h2 h3 hv hx hsx hsn en hb0 hE l1 l2 hn
    go_enter Tryz.func89, Tryz.ntmps89
    go_wp2_with fail
    generalize hw0 : w.alloc (.cells #[.int .i64 (k : Int), .int .i64 n] 23) = w0 at *
    have hsz0 : w0.heap.size = w.heap.size + 1 := by rw [← hw0]; simp
    have c0 : w0.cell? ⟨w.heap.size, 0, none⟩ = some (.int .i64 (k : Int)) ∧ w0.cell? ⟨w.heap.size, 1, none⟩ = some (.int .i64 n) := by rw [← hw0]; simp
    have C0 := Lib.hid c0
    have HS : Hid (w.heap.size < w0.heap.size) := Lib.hid (by omega)
    clear hsz0 hw0
    refine wp_region_held_drew (S := (fun W : World => W.cell? ⟨w.heap.size, 0, none⟩ = some (.int .i64 (k : Int)) ∧ W.cell? ⟨w.heap.size, 1, none⟩ = some (.int .i64 n))) (by kernel_rfl) ?_ (fun hHeld => ?_)
    · exact c0
    refine take_run 0 (some 8) (v := ?_) rfl rfl (by kernel_rfl) (by kernel_rfl) (by kernel_rfl) (fun _ _ _ h => h) (by rfl) ?_ (by assumption) ?_
    rotate_left
    · (intro W hSw; (try dsimp only at hSw); go_simp; (try with_reducible rfl))
    simp only [Act.put, List.setIfInBounds_toArray, List.set_cons_zero, List.set_cons_succ]
    refine take_run 2 (some 10) (v := ?_) rfl rfl (by kernel_rfl) (by kernel_rfl) (by kernel_rfl) (fun _ _ _ h => h) (by rfl) ?_ (by assumption) ?_
    rotate_left
    · (intro W hSw; (try dsimp only at hSw); go_simp; (try with_reducible rfl))
    simp only [Act.put, List.setIfInBounds_toArray, List.set_cons_zero, List.set_cons_succ]
    refine take_run 3 (some 11) (v := ?_) rfl rfl (by kernel_rfl) (by kernel_rfl) (by kernel_rfl) (fun _ _ _ h => h) (by rfl) ?_ (by assumption) ?_
    rotate_left
    · (intro W hSw; (try dsimp only at hSw); go_simp; (try with_reducible rfl))
    simp only [Act.put, List.setIfInBounds_toArray, List.set_cons_zero, List.set_cons_succ]
    refine take_run 7 (some 15) (v := ?_) rfl rfl (by kernel_rfl) (by kernel_rfl) (by kernel_rfl) (fun _ _ _ h => h) (by rfl) ?_ (by assumption) ?_
    rotate_left
    · (intro W hSw; (try dsimp only at hSw); go_simp; (try with_reducible rfl))
    simp only [Act.put, List.setIfInBounds_toArray, List.set_cons_zero, List.set_cons_succ]
    refine take_run 8 (some 16) (v := ?_) rfl rfl (by kernel_rfl) (by kernel_rfl) (by kernel_rfl) (fun _ _ _ h => h) (by rfl) ?_ (by assumption) ?_
    rotate_left
    · (intro W hSw; (try dsimp only at hSw); go_simp; (try with_reducible rfl))
    simp only [Act.put, List.setIfInBounds_toArray, List.set_cons_zero, List.set_cons_succ]
    refine wpAnyH_ready (rs := [1]) (by kernel_rfl) (by simp) ?_
    refine AllReadyH.cons rfl (fun K1 hK1 => ?_) AllReadyH.nil
    go_simp
    go_at_call 123
    refine (tabAt tab_signsL (C := w0.heap.size) (w0 := w0) (by go_grown) (Nat.le_refl _) HXX.out).mono ?_
    rintro e w2 ⟨rfl, hc2, hg2, hb2⟩
    change w2.cell? ⟨w0.heap.size, k, none⟩ = some (.string sx) at hc2
    change w0.heap.size < w2.heap.size at hg2
    go_simp
    refine hK1.out _ _ ?_ (fun hHeld1 => ?_)
    · exact ⟨(hb2.cell (p := ⟨w.heap.size, 0, none⟩) HS.out).trans C0.out.1, (hb2.cell (p := ⟨w.heap.size, 1, none⟩) HS.out).trans C0.out.2⟩
    clear hK1 K1 hHeld
    have hHeld1x : (fun W : World => W.cell? ⟨w.heap.size, 0, none⟩ = some (.int .i64 (k : Int)) ∧ W.cell? ⟨w.heap.size, 1, none⟩ = some (.int .i64 n) ∧ W.cell? ⟨w0.heap.size, k, none⟩ = some (.string sx)) _ := ⟨hHeld1.1, hHeld1.2, hc2⟩
    refine wpAnyH_more (S' := (fun W : World => W.cell? ⟨w.heap.size, 0, none⟩ = some (.int .i64 (k : Int)) ∧ W.cell? ⟨w.heap.size, 1, none⟩ = some (.int .i64 n) ∧ W.cell? ⟨w0.heap.size, k, none⟩ = some (.string sx))) (fun W h => ⟨h.1, h.2.1⟩) _ _ _ _ ?_
    clear hHeld1
    try simp only [Act.put, List.setIfInBounds_toArray, List.set_cons_zero, List.set_cons_succ]
    refine take_run 4 (some 12) (v := ?_) rfl rfl (by kernel_rfl) (by kernel_rfl) (by kernel_rfl) (fun _ _ _ h => h) (by rfl) ?_ (by assumption) ?_
    rotate_left
    · (intro W hSw; (try dsimp only at hSw); go_simp; (try with_reducible rfl))
    simp only [Act.put, List.setIfInBounds_toArray, List.set_cons_zero, List.set_cons_succ]
    refine take_run 5 (some 13) (v := ?_) rfl rfl (by kernel_rfl) (by kernel_rfl) (by kernel_rfl) (fun _ _ _ h => h) (by rfl) ?_ (by assumption) ?_
    rotate_left
    · (intro W hSw; (try dsimp only at hSw); go_simp; (try with_reducible rfl))
    simp only [Act.put, List.setIfInBounds_toArray, List.set_cons_zero, List.set_cons_succ]
    refine take_run 6 (some 14) (v := ?_) rfl rfl (by kernel_rfl) (by kernel_rfl) (by kernel_rfl) (fun _ _ _ h => h) (by rfl) ?_ (by assumption) ?_
    rotate_left
    · (intro W hSw; (try dsimp only at hSw); go_simp; (try with_reducible rfl))
    simp only [Act.put, List.setIfInBounds_toArray, List.set_cons_zero, List.set_cons_succ]
    refine wpAnyH_ready (rs := [9]) (by kernel_rfl) (by simp) ?_
    refine AllReadyH.cons rfl (fun K2 hK2 => ?_) AllReadyH.nil
    go_simp
    go_at_call 54
    refine (HN.out _ (HE.out _ hb2).num).mono ?_
    rintro e w3 ⟨rfl, hb3⟩
    have hb4 := hb2.trans (hb3.mono hb2.size)
    go_simp
    refine hK2.out _ _ ?_ (fun hHeld2 => ?_)
    · exact ⟨(hb4.cell (p := ⟨w.heap.size, 0, none⟩) HS.out).trans C0.out.1, (hb4.cell (p := ⟨w.heap.size, 1, none⟩) HS.out).trans C0.out.2, (hb3.cell (p := ⟨w0.heap.size, k, none⟩) hg2).trans hc2⟩
    clear hK2 K2 hHeld1x
    try simp only [Act.put, List.setIfInBounds_toArray, List.set_cons_zero, List.set_cons_succ]
    refine take_run 10 (some 18) (v := ?_) rfl rfl (by kernel_rfl) (by kernel_rfl) (by kernel_rfl) (fun _ _ _ h => h) (by rfl) ?_ (by assumption) ?_
    rotate_left
    · (intro W hSw; (try dsimp only at hSw); go_simp; (try with_reducible rfl))
    simp only [Act.put, List.setIfInBounds_toArray, List.set_cons_zero, List.set_cons_succ]
    refine take_run 11 (some 4) (v := ?_) rfl rfl (by kernel_rfl) (by kernel_rfl) (by kernel_rfl) (fun _ _ _ h => h) (by rfl) ?_ (by assumption) ?_
    rotate_left
    · (intro W hSw; (try dsimp only at hSw); go_simp; (try with_reducible rfl))
    simp only [Act.put, List.setIfInBounds_toArray, List.set_cons_zero, List.set_cons_succ]
    refine wpAnyH_done (by kernel_rfl) ?_ _
    have HBF := Lib.hid (HB0.out.trans (hb4.mono HB0.out.size))
    clear hb2 hb3 hb4 hc2 hg2
    go_wp2_with fail
    go_ret
    exact ⟨by rw [HR.out]; rfl, HBF.out⟩
end Go.Proofs.YtkohfomiigcifaaGreatDoor
