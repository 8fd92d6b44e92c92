/-
  MERGED: ModTxA, ModRead, ModHeads, ModTxB, ModPrW, ModRdW, ModProgA. By an AI agent.
-/
import Derived.Test.YtbcgkeclmioeiaaGreatDoorSwGA
import Derived.Test.YtbcgkeclmioeiaaGreatDoorSwGC
import Derived.Deep.Cut
import Derived.Test.YtbcgkeclmioeiaaGreatDoorModIsW
import Derived.Test.YtbcgkeclmioeiaaGreatDoorSwGD
namespace Go.Proofs.YtbcgkeclmioeiaaGreatDoor
open Go.RowKit
open Wd (Bs)

set_option maxHeartbeats 8000000 in
set_option maxRecDepth 100000 in
theorem tailIn (k n m : Int) (s : ByteArray) (f : Fil.Flt) (fs : ByteArray) (T t2 t6 t8 t11 tn tm : ByteArray) (w : World)
    (H2 : Hid (∀ W, Below w.heap.size w W → Calls Tryz.prog 139 #[.int .i64 n] W fun e w' => e = .returned (.string t2) ∧ Below W.heap.size W w')) (h2 : Hid (k = 2 ∨ k = 3 → T = t2)) (h4 : Hid (k = 4 ∨ k = 5 → T = s)) (H6 : Hid (∀ W, Below w.heap.size w W → Calls Tryz.prog 140 #[.int .i64 n] W fun e w' => e = .returned (.string t6) ∧ Below W.heap.size W w')) (h6 : Hid (k = 6 ∨ k = 7 → T = t6)) (H8 : Hid (∀ W, Below w.heap.size w W → Calls Tryz.prog 141 #[.int .i64 n] W fun e w' => e = .returned (.string t8) ∧ Below W.heap.size W w')) (h8 : Hid (k = 8 ∨ k = 9 → T = t8)) (H11 : Hid (k = 11 → ∀ W, Below w.heap.size w W → Calls Tryz.prog 71 #[.agg (cellsF f fs)] W fun e w' => e = .returned (.string t11) ∧ Below W.heap.size W w')) (z11 : t11.size ≤ 1000000) (h11 : Hid (k = 11 → T = t11 ++ ⟨#[41]⟩)) (HN : Hid (∀ W, Below w.heap.size w W → Calls Tryz.prog 70 #[.int .i64 n] W fun e w' => e = .returned (.string tn) ∧ Below W.heap.size W w')) (HM : Hid (∀ W, Below w.heap.size w W → Calls Tryz.prog 70 #[.int .i64 m] W fun e w' => e = .returned (.string tm) ∧ Below W.heap.size W w')) (zn : tn.size ≤ 1000000) (zm : tm.size ≤ 1000000) (h12 : Hid (k = 12 ∨ k = 13 → T = tn ++ ⟨#[47]⟩ ++ tm)) (h0 : Hid (¬ (k = 2 ∨ k = 3) → ¬ (k = 4 ∨ k = 5) → ¬ (k = 6 ∨ k = 7) → ¬ (k = 8 ∨ k = 9) → ¬ k = 11 → ¬ (k = 12 ∨ k = 13) → T = ⟨#[]⟩)) :
    Calls Tryz.prog 89 #[.agg (mO k n m s (cellsF f fs))] w fun e w' => e = .returned (.string T) ∧ Below w.heap.size w w' := by

  have M := Mm.nil w
  go_enter Tryz.func89, Tryz.ntmps89
  go_upto_region 0 with fail
  refine wp_region_lit ?_
  with_reducible refine wA (mO k n m s (cellsF f fs)) M ?_; clear M; intro pA u M; refine ⟨_, by (simp only [pu, sB, s0, sS]; rfl), ?_⟩
  with_reducible refine rA ?_
  go_upto_region 1 with fail
  refine wp_region_lit ?_
  with_reducible refine rA ?_
  with_reducible refine wLv 0 M mO_0 Tryz.underlying3 ?_
  by_cases e2 : k = 2
  · have ek : (k == 2) = true := by simpa using e2
    have hE := Lib.hid e2
    clear e2
    go_upto_region 2 with fail
    refine wp_region_lit ?_
    iterate 2 (with_reducible refine rA ?_)
    go_upto_region 4 with fail
    refine wp_region_lit ?_
    with_reducible refine rA ?_
    with_reducible refine wLv 0 M mO_1 Tryz.underlying3 ?_
    with_reducible refine wC M (H2.out _ M.b) ?_; clear M; intro u M
    with_reducible refine rA ?_
    go_wp2_with fail
    go_ret
    exact ⟨by rw [h2.out (by have h := hE.out; omega)]; rfl, M.b⟩
  have n2 : (k == 2) = false := by simpa using e2
  go_upto_region 2 with fail
  refine wp_region_lit ?_
  iterate 2 (with_reducible refine rA ?_)
  by_cases e3 : k = 3
  · have ek : (k == 3) = true := by simpa using e3
    have hE := Lib.hid e3
    clear e3
    go_upto_region 3 with fail
    refine wp_region_lit ?_
    iterate 2 (with_reducible refine rA ?_)
    go_upto_region 4 with fail
    refine wp_region_lit ?_
    with_reducible refine rA ?_
    with_reducible refine wLv 0 M mO_1 Tryz.underlying3 ?_
    with_reducible refine wC M (H2.out _ M.b) ?_; clear M; intro u M
    with_reducible refine rA ?_
    go_wp2_with fail
    go_ret
    exact ⟨by rw [h2.out (by have h := hE.out; omega)]; rfl, M.b⟩
  have n3 : (k == 3) = false := by simpa using e3
  go_upto_region 3 with fail
  refine wp_region_lit ?_
  iterate 2 (with_reducible refine rA ?_)
  by_cases e4 : k = 4
  · have ek : (k == 4) = true := by simpa using e4
    have hE := Lib.hid e4
    clear e4
    go_upto_region 5 with fail
    refine wp_region_lit ?_
    iterate 2 (with_reducible refine rA ?_)
    go_upto_region 7 with fail
    refine wp_region_lit ?_
    with_reducible refine rA ?_
    with_reducible refine wLv 0 M mO_3 Tryz.underlying9 ?_
    with_reducible refine rA ?_
    go_wp2_with fail
    go_ret
    exact ⟨by rw [h4.out (by have h := hE.out; omega)]; rfl, M.b⟩
  have n4 : (k == 4) = false := by simpa using e4
  go_upto_region 5 with fail
  refine wp_region_lit ?_
  iterate 2 (with_reducible refine rA ?_)
  by_cases e5 : k = 5
  · have ek : (k == 5) = true := by simpa using e5
    have hE := Lib.hid e5
    clear e5
    go_upto_region 6 with fail
    refine wp_region_lit ?_
    iterate 2 (with_reducible refine rA ?_)
    go_upto_region 7 with fail
    refine wp_region_lit ?_
    with_reducible refine rA ?_
    with_reducible refine wLv 0 M mO_3 Tryz.underlying9 ?_
    with_reducible refine rA ?_
    go_wp2_with fail
    go_ret
    exact ⟨by rw [h4.out (by have h := hE.out; omega)]; rfl, M.b⟩
  have n5 : (k == 5) = false := by simpa using e5
  go_upto_region 6 with fail
  refine wp_region_lit ?_
  iterate 2 (with_reducible refine rA ?_)
  by_cases e6 : k = 6
  · have ek : (k == 6) = true := by simpa using e6
    have hE := Lib.hid e6
    clear e6
    go_upto_region 8 with fail
    refine wp_region_lit ?_
    iterate 2 (with_reducible refine rA ?_)
    go_upto_region 10 with fail
    refine wp_region_lit ?_
    with_reducible refine rA ?_
    with_reducible refine wLv 0 M mO_1 Tryz.underlying3 ?_
    with_reducible refine wC M (H6.out _ M.b) ?_; clear M; intro u M
    with_reducible refine rA ?_
    go_wp2_with fail
    go_ret
    exact ⟨by rw [h6.out (by have h := hE.out; omega)]; rfl, M.b⟩
  have n6 : (k == 6) = false := by simpa using e6
  go_upto_region 8 with fail
  refine wp_region_lit ?_
  iterate 2 (with_reducible refine rA ?_)
  by_cases e7 : k = 7
  · have ek : (k == 7) = true := by simpa using e7
    have hE := Lib.hid e7
    clear e7
    go_upto_region 9 with fail
    refine wp_region_lit ?_
    iterate 2 (with_reducible refine rA ?_)
    go_upto_region 10 with fail
    refine wp_region_lit ?_
    with_reducible refine rA ?_
    with_reducible refine wLv 0 M mO_1 Tryz.underlying3 ?_
    with_reducible refine wC M (H6.out _ M.b) ?_; clear M; intro u M
    with_reducible refine rA ?_
    go_wp2_with fail
    go_ret
    exact ⟨by rw [h6.out (by have h := hE.out; omega)]; rfl, M.b⟩
  have n7 : (k == 7) = false := by simpa using e7
  go_upto_region 9 with fail
  refine wp_region_lit ?_
  iterate 2 (with_reducible refine rA ?_)
  by_cases e8 : k = 8
  · have ek : (k == 8) = true := by simpa using e8
    have hE := Lib.hid e8
    clear e8
    go_upto_region 11 with fail
    refine wp_region_lit ?_
    iterate 2 (with_reducible refine rA ?_)
    go_upto_region 13 with fail
    refine wp_region_lit ?_
    with_reducible refine rA ?_
    with_reducible refine wLv 0 M mO_1 Tryz.underlying3 ?_
    with_reducible refine wC M (H8.out _ M.b) ?_; clear M; intro u M
    with_reducible refine rA ?_
    go_wp2_with fail
    go_ret
    exact ⟨by rw [h8.out (by have h := hE.out; omega)]; rfl, M.b⟩
  have n8 : (k == 8) = false := by simpa using e8
  go_upto_region 11 with fail
  refine wp_region_lit ?_
  iterate 2 (with_reducible refine rA ?_)
  by_cases e9 : k = 9
  · have ek : (k == 9) = true := by simpa using e9
    have hE := Lib.hid e9
    clear e9
    go_upto_region 12 with fail
    refine wp_region_lit ?_
    iterate 2 (with_reducible refine rA ?_)
    go_upto_region 13 with fail
    refine wp_region_lit ?_
    with_reducible refine rA ?_
    with_reducible refine wLv 0 M mO_1 Tryz.underlying3 ?_
    with_reducible refine wC M (H8.out _ M.b) ?_; clear M; intro u M
    with_reducible refine rA ?_
    go_wp2_with fail
    go_ret
    exact ⟨by rw [h8.out (by have h := hE.out; omega)]; rfl, M.b⟩
  have n9 : (k == 9) = false := by simpa using e9
  go_upto_region 12 with fail
  refine wp_region_lit ?_
  iterate 2 (with_reducible refine rA ?_)
  by_cases e11 : k = 11
  · have ek : (k == 11) = true := by simpa using e11
    have hE := Lib.hid e11
    clear e11
    go_upto_region 14 with fail
    refine wp_region_lit ?_
    iterate 2 (with_reducible refine rA ?_)
    go_upto_region 15 with fail
    refine wp_region_lit ?_
    with_reducible refine rA ?_
    with_reducible refine wL 0 M mO_f Tryz.underlying25 (infoTF16 (cellsF_size f fs)) ?_
    with_reducible refine wC M (H11.out hE.out _ M.b) ?_; clear M; intro u M
    (with_reducible refine rB (.string (t11 ++ ⟨#[41]⟩)) ?_ ?_); (· go_simp; omega)
    with_reducible refine rA ?_
    go_wp2_with fail
    go_ret
    exact ⟨by rw [h11.out (by have h := hE.out; omega)]; rfl, M.b⟩
  have n11 : (k == 11) = false := by simpa using e11
  go_upto_region 14 with fail
  refine wp_region_lit ?_
  iterate 2 (with_reducible refine rA ?_)
  by_cases e12 : k = 12
  · have ek : (k == 12) = true := by simpa using e12
    have hE := Lib.hid e12
    clear e12
    go_upto_region 16 with fail
    refine wp_region_lit ?_
    iterate 2 (with_reducible refine rA ?_)
    go_upto_region 18 with fail
    refine wp_region_held_drew (S := (fun W : World => Kp [(pA, (mO k n m s (cellsF f fs)), 39)] W)) (by kernel_rfl) ?_ (fun hHeld => ?_)
    · exact M.drew.k
    refine take_run 0 (some 37) (v := .pointer (some ⟨pA, 1, none⟩)) rfl rfl (by kernel_rfl) (by kernel_rfl) (by kernel_rfl) (fun _ _ _ h => h) (by rfl) ?_ (by assumption) ?_
    · (intro W hSw; go_simp; (try rfl))
    simp only [pu, sB, s0, sS]
    refine take_loadV 1 (some 38) rfl rfl (by kernel_rfl) (by kernel_rfl) (by kernel_rfl) (fun _ _ _ h => h) (by rfl) (.tmp 37) rfl (b := pA) (j := 1) (cs := (mO k n m s (cellsF f fs))) (v := .int .i64 n) (by rfl) (fun W h => h.at 0 rfl) mO_1 Tryz.underlying3 rfl (by assumption) ?_
    simp only [pu, sB, s0, sS]
    refine take_run 4 (some 41) (v := .pointer (some ⟨pA, 2, none⟩)) rfl rfl (by kernel_rfl) (by kernel_rfl) (by kernel_rfl) (fun _ _ _ h => h) (by rfl) ?_ (by assumption) ?_
    · (intro W hSw; go_simp; (try rfl))
    simp only [pu, sB, s0, sS]
    refine take_loadV 5 (some 42) rfl rfl (by kernel_rfl) (by kernel_rfl) (by kernel_rfl) (fun _ _ _ h => h) (by rfl) (.tmp 41) rfl (b := pA) (j := 2) (cs := (mO k n m s (cellsF f fs))) (v := .int .i64 m) (by rfl) (fun W h => h.at 0 rfl) mO_2 Tryz.underlying3 rfl (by assumption) ?_
    simp only [pu, sB, s0, sS]
    refine wpAnyH_ready (rs := [2]) (by kernel_rfl) (by simp) ?_
    refine AllReadyH.cons rfl (fun K1 hK1 => ?_) AllReadyH.nil
    go_simp
    go_at_call 70
    refine (callBase (C := u.heap.size) (w0 := u) (by go_grown) (Nat.le_refl _) (HN.out _ (M.b.trans (Below.mono ((by go_grown) : Below u.heap.size u _) M.b.size)))).mono ?_
    rintro e wd1 ⟨rfl, hbd1⟩
    go_simp
    refine hK1.out _ _ ?_ (fun hHd1 => ?_)
    · exact (M.k.below hbd1)
    clear hK1 K1 hHeld
    try simp only [pu, sB, s0, sS]
    refine take_run 3 (some 40) (v := .string (tn ++ ⟨#[47]⟩)) rfl rfl (by kernel_rfl) (by kernel_rfl) (by kernel_rfl) (fun _ _ _ h => h) (by rfl) ?_ (by assumption) ?_
    · (intro W hSw; (try dsimp only at hSw); go_simp; omega)
    simp only [pu, sB, s0, sS]
    refine wpAnyH_ready (rs := [6]) (by kernel_rfl) (by simp) ?_
    refine AllReadyH.cons rfl (fun K2 hK2 => ?_) AllReadyH.nil
    go_simp
    go_at_call 70
    refine (callBase (C := wd1.heap.size) (w0 := wd1) (Below.refl _ _) (Nat.le_refl _) (HM.out _ (M.b.trans (Below.mono (hbd1 : Below u.heap.size u _) M.b.size)))).mono ?_
    rintro e wd2 ⟨rfl, hbs2⟩
    have hbd2 := hbd1.trans (hbs2.mono hbd1.size)
    go_simp
    refine hK2.out _ _ ?_ (fun hHd2 => ?_)
    · exact (M.k.below hbd2)
    clear hK2 K2 hHd1
    try simp only [pu, sB, s0, sS]
    refine take_run 7 (some 44) (v := .string (tn ++ ⟨#[47]⟩ ++ tm)) rfl rfl (by kernel_rfl) (by kernel_rfl) (by kernel_rfl) (fun _ _ _ h => h) (by rfl) ?_ (by assumption) ?_
    · (intro W hSw; (try dsimp only at hSw); go_simp; omega)
    simp only [pu, sB, s0, sS]
    refine take_run 8 (some 2) (v := ?_) rfl rfl (by kernel_rfl) (by kernel_rfl) (by kernel_rfl) (fun _ _ _ h => h) (by rfl) ?_ (by assumption) ?_
    rotate_left
    · (intro W hSw; (try dsimp only at hSw); go_simp; (try with_reducible rfl))
    simp only [pu, sB, s0, sS]
    refine wpAnyH_done (by kernel_rfl) ?_ _
    replace M := M.call hbd2
    go_wp2_with fail
    go_ret
    exact ⟨by rw [h12.out (by have h := hE.out; omega)]; rfl, M.b⟩
  have n12 : (k == 12) = false := by simpa using e12
  go_upto_region 16 with fail
  refine wp_region_lit ?_
  iterate 2 (with_reducible refine rA ?_)
  by_cases e13 : k = 13
  · have ek : (k == 13) = true := by simpa using e13
    have hE := Lib.hid e13
    clear e13
    go_upto_region 17 with fail
    refine wp_region_lit ?_
    iterate 2 (with_reducible refine rA ?_)
    go_upto_region 18 with fail
    refine wp_region_held_drew (S := (fun W : World => Kp [(pA, (mO k n m s (cellsF f fs)), 39)] W)) (by kernel_rfl) ?_ (fun hHeld => ?_)
    · exact M.drew.k
    refine take_run 0 (some 37) (v := .pointer (some ⟨pA, 1, none⟩)) rfl rfl (by kernel_rfl) (by kernel_rfl) (by kernel_rfl) (fun _ _ _ h => h) (by rfl) ?_ (by assumption) ?_
    · (intro W hSw; go_simp; (try rfl))
    simp only [pu, sB, s0, sS]
    refine take_loadV 1 (some 38) rfl rfl (by kernel_rfl) (by kernel_rfl) (by kernel_rfl) (fun _ _ _ h => h) (by rfl) (.tmp 37) rfl (b := pA) (j := 1) (cs := (mO k n m s (cellsF f fs))) (v := .int .i64 n) (by rfl) (fun W h => h.at 0 rfl) mO_1 Tryz.underlying3 rfl (by assumption) ?_
    simp only [pu, sB, s0, sS]
    refine take_run 4 (some 41) (v := .pointer (some ⟨pA, 2, none⟩)) rfl rfl (by kernel_rfl) (by kernel_rfl) (by kernel_rfl) (fun _ _ _ h => h) (by rfl) ?_ (by assumption) ?_
    · (intro W hSw; go_simp; (try rfl))
    simp only [pu, sB, s0, sS]
    refine take_loadV 5 (some 42) rfl rfl (by kernel_rfl) (by kernel_rfl) (by kernel_rfl) (fun _ _ _ h => h) (by rfl) (.tmp 41) rfl (b := pA) (j := 2) (cs := (mO k n m s (cellsF f fs))) (v := .int .i64 m) (by rfl) (fun W h => h.at 0 rfl) mO_2 Tryz.underlying3 rfl (by assumption) ?_
    simp only [pu, sB, s0, sS]
    refine wpAnyH_ready (rs := [2]) (by kernel_rfl) (by simp) ?_
    refine AllReadyH.cons rfl (fun K1 hK1 => ?_) AllReadyH.nil
    go_simp
    go_at_call 70
    refine (callBase (C := u.heap.size) (w0 := u) (by go_grown) (Nat.le_refl _) (HN.out _ (M.b.trans (Below.mono ((by go_grown) : Below u.heap.size u _) M.b.size)))).mono ?_
    rintro e wd1 ⟨rfl, hbd1⟩
    go_simp
    refine hK1.out _ _ ?_ (fun hHd1 => ?_)
    · exact (M.k.below hbd1)
    clear hK1 K1 hHeld
    try simp only [pu, sB, s0, sS]
    refine take_run 3 (some 40) (v := .string (tn ++ ⟨#[47]⟩)) rfl rfl (by kernel_rfl) (by kernel_rfl) (by kernel_rfl) (fun _ _ _ h => h) (by rfl) ?_ (by assumption) ?_
    · (intro W hSw; (try dsimp only at hSw); go_simp; omega)
    simp only [pu, sB, s0, sS]
    refine wpAnyH_ready (rs := [6]) (by kernel_rfl) (by simp) ?_
    refine AllReadyH.cons rfl (fun K2 hK2 => ?_) AllReadyH.nil
    go_simp
    go_at_call 70
    refine (callBase (C := wd1.heap.size) (w0 := wd1) (Below.refl _ _) (Nat.le_refl _) (HM.out _ (M.b.trans (Below.mono (hbd1 : Below u.heap.size u _) M.b.size)))).mono ?_
    rintro e wd2 ⟨rfl, hbs2⟩
    have hbd2 := hbd1.trans (hbs2.mono hbd1.size)
    go_simp
    refine hK2.out _ _ ?_ (fun hHd2 => ?_)
    · exact (M.k.below hbd2)
    clear hK2 K2 hHd1
    try simp only [pu, sB, s0, sS]
    refine take_run 7 (some 44) (v := .string (tn ++ ⟨#[47]⟩ ++ tm)) rfl rfl (by kernel_rfl) (by kernel_rfl) (by kernel_rfl) (fun _ _ _ h => h) (by rfl) ?_ (by assumption) ?_
    · (intro W hSw; (try dsimp only at hSw); go_simp; omega)
    simp only [pu, sB, s0, sS]
    refine take_run 8 (some 2) (v := ?_) rfl rfl (by kernel_rfl) (by kernel_rfl) (by kernel_rfl) (fun _ _ _ h => h) (by rfl) ?_ (by assumption) ?_
    rotate_left
    · (intro W hSw; (try dsimp only at hSw); go_simp; (try with_reducible rfl))
    simp only [pu, sB, s0, sS]
    refine wpAnyH_done (by kernel_rfl) ?_ _
    replace M := M.call hbd2
    go_wp2_with fail
    go_ret
    exact ⟨by rw [h12.out (by have h := hE.out; omega)]; rfl, M.b⟩
  have n13 : (k == 13) = false := by simpa using e13
  go_upto_region 17 with fail
  refine wp_region_lit ?_
  iterate 2 (with_reducible refine rA ?_)
  go_upto_region 19 with fail
  refine wp_region_lit ?_
  with_reducible refine rA ?_
  go_wp2_with fail
  go_ret
  exact ⟨by rw [h0.out (by omega) (by omega) (by omega) (by omega) (by omega) (by omega)]; rfl, M.b⟩
end Go.Proofs.YtbcgkeclmioeiaaGreatDoor
namespace Go.Proofs.YtbcgkeclmioeiaaGreatDoor.Mo

/-- the stage of a kind -/
def stageI (k : Int) : Int :=
  if k = 1 then 1 else if k = 2 ∨ k = 3 ∨ k = 4 ∨ k = 5 then 2 else if k = 6 ∨ k = 7 then 3 else if k = 8 ∨ k = 9 ∨ k = 10 then 4
  else if k = 11 then 5 else if k = 12 then 6 else if k = 13 then 7 else if k = 14 then 8 else 0
def headsL : List Bs := [[], sControl, sTypes, sTypesA, sSub, sSubA, sColors, sColorsA, sKeysA, sKeysD, sBlank, sPtC, sPt, sPtA, sSwitch]
def headL (k : Nat) : Bs := headsL.getD k []
/-- what follows the head -/
noncomputable def rawT (x : Md) : Bs :=
  if x.k = 2 ∨ x.k = 3 then tyN x.n.toNat
  else if x.k = 4 ∨ x.k = 5 then x.sub
  else if x.k = 6 ∨ x.k = 7 then Col.textN x.n.toNat
  else if x.k = 8 ∨ x.k = 9 then Kw.textN x.n.toNat
  else if x.k = 11 then Fil.textF x.f ++ [41]
  else if x.k = 12 ∨ x.k = 13 then pairS x.n x.m
  else []
theorem ok_range {x : Md} (h : okB x = true) : 1 ≤ x.k ∧ x.k ≤ 14 := by
  rcases ok_cases h with ⟨hk, e⟩ | ⟨t, hk, h1, h2, _, e⟩ | ⟨hk, _, e⟩ | ⟨c, hk, h2, e⟩ | ⟨c, hk, h1, h2, e⟩ | ⟨hk, hv, e⟩ | ⟨hk, h1, h2, h3, h4, e⟩ | ⟨hk, h1, h2, h3, h4, e⟩ <;> omega
theorem raw_head {x : Md} (h : okB x = true) : raw x = headL x.k.toNat ++ rawT x := by
  rcases ok_cases h with ⟨hk, e⟩ | ⟨t, hk, h1, h2, _, e⟩ | ⟨hk, _, e⟩ | ⟨c, hk, h2, e⟩ | ⟨c, hk, h1, h2, e⟩ | ⟨hk, hv, e⟩ | ⟨hk, h1, h2, h3, h4, e⟩ | ⟨hk, h1, h2, h3, h4, e⟩
  · rcases hk with hk | hk | hk <;> simp [raw, rawT, hk, headL, headsL]
  · rcases hk with hk | hk <;> simp [raw, rawT, hk, headL, headsL]
  · rcases hk with hk | hk <;> simp [raw, rawT, hk, headL, headsL]
  · rcases hk with hk | ⟨hk, _⟩ <;> simp [raw, rawT, hk, headL, headsL]
  · rcases hk with hk | hk <;> simp [raw, rawT, hk, headL, headsL]
  · simp [raw, rawT, hk, headL, headsL]
  · simp [raw, rawT, hk, headL, headsL]
  · simp [raw, rawT, hk, headL, headsL]
/-- the modification of a kind behind whose head r stands -/
noncomputable def tailM (k : Nat) (r : Bs) : Md :=
  if k = 2 ∨ k = 3 then ⟨k, ptI r, 0, [], Fil.zero⟩
  else if k = 4 ∨ k = 5 then ⟨k, 0, 0, r, Fil.zero⟩
  else if k = 6 ∨ k = 7 then ⟨k, Col.parseI r, 0, [], Fil.zero⟩
  else if k = 8 ∨ k = 9 then ⟨k, Kw.parseI r, 0, [], Fil.zero⟩
  else if k = 11 then ⟨k, 0, 0, [], Fil.parseV (Lib.trimSuffix r [41])⟩
  else if k = 12 ∨ k = 13 then ⟨k, Fil.num (Wd.cut r [47]).1, Fil.num (Wd.cut r [47]).2.1, [], Fil.zero⟩
  else ⟨k, 0, 0, [], Fil.zero⟩
theorem tail_2 {j : Nat} {r : Bs} (h : j = 2 ∨ j = 3) : tailM j r = ⟨j, ptI r, 0, [], Fil.zero⟩ := by unfold tailM; rw [if_pos h]
theorem tail_4 {j : Nat} {r : Bs} (h : j = 4 ∨ j = 5) : tailM j r = ⟨j, 0, 0, r, Fil.zero⟩ := by unfold tailM; rw [if_neg (by omega), if_pos h]
theorem tail_6 {j : Nat} {r : Bs} (h : j = 6 ∨ j = 7) : tailM j r = ⟨j, Col.parseI r, 0, [], Fil.zero⟩ := by unfold tailM; rw [if_neg (by omega), if_neg (by omega), if_pos h]
theorem tail_8 {j : Nat} {r : Bs} (h : j = 8 ∨ j = 9) : tailM j r = ⟨j, Kw.parseI r, 0, [], Fil.zero⟩ := by unfold tailM; rw [if_neg (by omega), if_neg (by omega), if_neg (by omega), if_pos h]
theorem tail_11 {j : Nat} {r : Bs} (h : j = 11) : tailM j r = ⟨j, 0, 0, [], Fil.parseV (Lib.trimSuffix r [41])⟩ := by unfold tailM; rw [if_neg (by omega), if_neg (by omega), if_neg (by omega), if_neg (by omega), if_pos h]
theorem tail_12 {j : Nat} {r : Bs} (h : j = 12 ∨ j = 13) : tailM j r = ⟨j, Fil.num (Wd.cut r [47]).1, Fil.num (Wd.cut r [47]).2.1, [], Fil.zero⟩ := by unfold tailM; rw [if_neg (by omega), if_neg (by omega), if_neg (by omega), if_neg (by omega), if_neg (by omega), if_pos h]
theorem tail_else {j : Nat} {r : Bs} (h2 : ¬ (j = 2 ∨ j = 3)) (h4 : ¬ (j = 4 ∨ j = 5)) (h6 : ¬ (j = 6 ∨ j = 7)) (h8 : ¬ (j = 8 ∨ j = 9)) (h11 : ¬ j = 11) (h12 : ¬ (j = 12 ∨ j = 13)) : tailM j r = ⟨j, 0, 0, [], Fil.zero⟩ := by unfold tailM; rw [if_neg h2, if_neg h4, if_neg h6, if_neg h8, if_neg h11, if_neg h12]
theorem trim_end (l : Bs) : Lib.trimSuffix (l ++ [41]) [41] = l := by
  unfold Lib.trimSuffix Lib.hasSuffix
  rw [if_pos (by simp)]
  simp
theorem plain_num {n : Int} : Ct.PlainP 47 (Lib.itoa n) := by
  have key : ∀ u : Nat, Ct.PlainP 47 (Lib.decDigits u) := fun u b hb => by
    have := Num.decDigits_digit u b hb
    refine ⟨fun e => by rw [e] at this; simp at this, ?_⟩
    unfold Wd.brk
    have k : ∀ k : UInt8, k.toNat < 48 ∨ 57 < k.toNat → (b == k) = false := by
      intro k hk
      cases hbk : b == k with
      | false => rfl
      | true => rw [beq_iff_eq] at hbk; subst hbk; omega
    rw [k 40 (by decide), k 41 (by decide), k 91 (by decide), k 93 (by decide)]
    rfl
  rcases Int.lt_or_le n 0 with h | h
  · rw [Num.itoa_neg h]
    intro b hb
    rcases List.mem_append.1 hb with h1 | h1
    · rw [List.mem_singleton] at h1; subst h1; exact ⟨by decide, by decide⟩
    · exact key _ b h1
  · rw [Num.itoa_nonneg h]; exact key _
theorem cut_pair (n m : Int) : Wd.cut (pairS n m) [47] = (Lib.itoa n, Lib.itoa m, true) := Ct.cut_at plain_num
theorem num_text {n : Int} (h0 : -1000000 ≤ n) (h1 : n ≤ 1000000) : Fil.num (Lib.itoa n) = n := by
  unfold Fil.num
  rw [Num.numberL_itoa_in h0 h1]
  rfl
theorem tail_text {x : Md} (h : okB x = true) : tailM x.k.toNat (rawT x) = x := by
  rcases ok_cases h with ⟨hk, e⟩ | ⟨t, hk, h1, h2, _, e⟩ | ⟨hk, _, e⟩ | ⟨c, hk, h2, e⟩ | ⟨c, hk, h1, h2, e⟩ | ⟨_, hv, e⟩ | ⟨_, h1, h2, h3, h4, e⟩ | ⟨_, h1, h2, h3, h4, e⟩
  · rcases hk with hk | hk | hk <;> rw [hk] at e <;> rw [e] <;> simp [tailM]
  · rcases hk with hk | hk <;> rw [hk] at e <;> rw [e] <;> simp [tailM, rawT, pt_text h1 h2]
  · rcases hk with hk | hk <;> rw [hk] at e <;> rw [e] <;> simp [tailM, rawT]
  · rcases hk with hk | ⟨hk, _⟩ <;> rw [hk] at e <;> rw [e] <;> simp [tailM, rawT, (Col.parse_text h2).1]
  · rcases hk with hk | hk <;> rw [hk] at e <;> rw [e] <;> simp [tailM, rawT, (Kw.parse_text h2).1]
  · rw [e]
    simp [tailM, rawT, trim_end, (Fil.parse_text hv).1]
  · rw [e]
    simp [tailM, rawT, cut_pair, num_text (show -1000000 ≤ x.n by omega) (by omega), num_text (show -1000000 ≤ x.m by omega) (by omega)]
  · rw [e]
    simp [tailM, rawT, cut_pair, num_text (show -1000000 ≤ x.n by omega) (by omega), num_text (show -1000000 ≤ x.m by omega) (by omega)]
/-- s begins with the head of kind k -/
def hitH (s : Bs) (k : Nat) : Bool := (headL k).isPrefixOf s && !(headL k).isEmpty
noncomputable def readM (s : Bs) : Md := match (List.range 15).find? (hitH s) with | some k => tailM k (s.drop (headL k).length) | none => zero
theorem heads_apart : ∀ k, k < 15 → ∀ j, j < k → (k = 12 ∧ j = 11) ∨ j = 0 ∨ ((headL k).take (headL j).length == (headL j).take (headL k).length) = false := by decide
theorem heads_some : ∀ k, k < 15 → 1 ≤ k → (headL k).isEmpty = false := by decide
theorem hit_text {x : Md} (h : okB x = true) {j : Nat} (hj : j < x.k.toNat) : hitH (raw x) j = false := by
  have hr := ok_range h
  have hp : (headL x.k.toNat).isPrefixOf (raw x) = true := by rw [raw_head h]; exact Fil.pre_self _ _
  rcases heads_apart x.k.toNat (by omega) j hj with ⟨e, e'⟩ | e | e
  · subst e'
    obtain ⟨b, t, ht, hb⟩ := pairS_first x.n x.m
    have hk : x.k = 12 := by omega
    have hraw : raw x = sPt ++ (b :: t) := by rw [← ht]; simp [raw, hk]
    have h1 : ¬ b = 99 := by rintro rfl; simp at hb
    rw [hraw]
    have h2 : ((99 : UInt8) == b) = false := by simpa using Ne.symm h1
    simp [hitH, headL, headsL, sPtC, sPt, List.isPrefixOf, h2]
  · subst e; simp [hitH, headL, headsL]
  · unfold hitH
    rw [Fil.pre_apart hp e]
    rfl
theorem read_text {x : Md} (h : okB x = true) : readM (textM x) = x := by
  have hr := ok_range h
  have e : (List.range 15).find? (hitH (raw x)) = some x.k.toNat := by
    rw [List.find?_range_eq_some]
    refine ⟨?_, by simp; omega, fun j hj => by rw [hit_text h hj]; rfl⟩
    unfold hitH
    rw [heads_some _ (by omega) (by omega), raw_head h, Fil.pre_self]
    rfl
  rw [textM_ok h]
  unfold readM
  rw [e]
  simp only
  rw [raw_head h, List.drop_left, tail_text h]
/-- what Parse finds is what the reference's reader finds -/
theorem parse_read (s : Bs) : (okB (readM s) && (textM (readM s) == s)) = pB s ∧ (pB s = true → readM s = guess s) := p_any (readM s) fun x hx => by rw [← hx.2]; exact read_text hx.1
/-- no head up to k -/
def NoH (s : Bs) (k : Nat) : Prop := ∀ j, j < k → hitH s j = false
theorem NoH.next {s : Bs} {k : Nat} (h : NoH s k) (hk : hitH s k = false) : NoH s (k + 1) := fun j hj => by
  by_cases e : j = k
  · subst e; exact hk
  · exact h j (by omega)
theorem read_hit {s : Bs} {k : Nat} (hk : k < 15) (h : NoH s k) (hh : hitH s k = true) : readM s = tailM k (s.drop (headL k).length) := by
  have e : (List.range 15).find? (hitH s) = some k := by
    rw [List.find?_range_eq_some]
    exact ⟨hh, by simpa using hk, fun j hj => by rw [h j hj]; rfl⟩
  unfold readM
  rw [e]
theorem read_none {s : Bs} (h : NoH s 15) : readM s = zero := by
  have e : (List.range 15).find? (hitH s) = none := by
    rw [List.find?_eq_none]
    intro j hj
    rw [h j (by simpa using hj)]
    simp
  unfold readM
  rw [e]
end Go.Proofs.YtbcgkeclmioeiaaGreatDoor.Mo
namespace Go.Proofs.YtbcgkeclmioeiaaGreatDoor
open Go.RowKit
open Wd (Bs)

def headsC : Array Value := #[str [], str Mo.sControl, str Mo.sTypes, str Mo.sTypesA, str Mo.sSub, str Mo.sSubA, str Mo.sColors, str Mo.sColorsA, str Mo.sKeysA, str Mo.sKeysD, str Mo.sBlank, str Mo.sPtC, str Mo.sPt, str Mo.sPtA, str Mo.sSwitch]
theorem headsC_at {k : Nat} (hk : k < 15) : headsC[k]? = some (.string ⟨(Mo.headL k).toArray⟩) := by
  have h : headsC = (Mo.headsL.map str).toArray := rfl
  have hl : k < Mo.headsL.length := hk
  rw [h, List.getElem?_toArray, List.getElem?_map, List.getElem?_eq_getElem hl]
  unfold Mo.headL
  rw [List.getD, List.getElem?_eq_getElem hl]
  rfl
set_option maxRecDepth 100000 in
theorem modHeads (w : World) : Calls Tryz.prog 88 #[] w fun e w' => e = .returned (.slice (some ⟨w.heap.size, 0, none⟩) 15 15) ∧ Blk w' w.heap.size headsC 9 ∧ Below w.heap.size w w' := by
  go_enter Tryz.func88, Tryz.ntmps88
  go_wp2_with fail
  go_ret
  exact ⟨rfl, Blk.new _ _ _, (Below.refl _ _).alloc (Nat.le_refl _) _⟩
theorem modHeadsE (w : World) : Calls Tryz.prog 88 #[] w fun e w' => (∃ b, e = .returned (.slice (some ⟨b, 0, none⟩) 15 15) ∧ Blk w' b headsC 9) ∧ Below w.heap.size w w' :=
  (modHeads w).mono fun _ _ ⟨h1, h2, h3⟩ => ⟨⟨_, h1, h2⟩, h3⟩
theorem head_empty {j : Nat} {hd : ByteArray} (h : hd = ⟨(Mo.headL j).toArray⟩) {b : Bool} (hb : (!hd.toList.isEmpty) = b) : (!(Mo.headL j).isEmpty) = b := by
  rw [← hb, Lib.toList_data, h]
theorem rest_size {j : Nat} {t rt : ByteArray} (h : rt = ⟨(if (Mo.headL j).isPrefixOf t.data.toList then t.data.toList.drop (Mo.headL j).length else t.data.toList).toArray⟩) (hs : t.size ≤ 1000000) : rt.size ≤ 1000000 := by
  have hsl : t.data.toList.length = t.size := Array.length_toList
  rw [h, size_of]
  split
  · rw [List.length_drop]; omega
  · omega
theorem head_tail {j : Nat} {t rt : ByteArray} {b : Bool} (h : rt = ⟨(if (Mo.headL j).isPrefixOf t.data.toList then t.data.toList.drop (Mo.headL j).length else t.data.toList).toArray⟩) (hb : b = (Mo.headL j).isPrefixOf t.data.toList) (e : b = true := by rfl) : rt.data.toList = t.data.toList.drop (Mo.headL j).length := by
  rw [h, if_pos (by rw [← hb]; exact e)]
theorem modWithin (n lo hi : Int) (w : World) :
    Calls Tryz.prog 60 #[.int .i64 n, .int .i64 lo, .int .i64 hi] w fun e w' => e = .returned (.bool (Mo.inB lo hi n)) ∧ w = w' := by
  unfold Mo.inB
  obtain ⟨v1, h1⟩ : ∃ v, decide (lo ≤ n) = v := ⟨_, rfl⟩
  obtain ⟨v2, h2⟩ : ∃ v, decide (n ≤ hi) = v := ⟨_, rfl⟩
  rw [h1, h2]
  cases v1 <;> cases v2
  all_goals (
    go_enter Tryz.func60, Tryz.ntmps60
    go_wp2_with fail
    go_ret
    exact ⟨rfl, rfl⟩)
theorem modStage (k : Int) (w : World) :
    Calls Tryz.prog 44 #[.int .i64 k] w fun e w' => e = .returned (.int .i64 (Mo.stageI k)) ∧ w = w' := by
  unfold Mo.stageI
  go_enter Tryz.func44, Tryz.ntmps44
  go_wp2
  all_goals (
    go_ret
    refine ⟨ret_int ?_, rfl⟩
    simp_all)
end Go.Proofs.YtbcgkeclmioeiaaGreatDoor
namespace Go.Proofs.YtbcgkeclmioeiaaGreatDoor
open Go.RowKit
open Wd (Bs)

set_option maxHeartbeats 8000000 in
set_option maxRecDepth 100000 in
theorem mTextBad (k n m : Int) (s : ByteArray) (f : Fil.Flt) (fs : ByteArray) (w : World)
    (HI : Hid (∀ W, Below w.heap.size w W → Calls Tryz.prog 32 #[.agg (mO k n m s (cellsF f fs))] W fun e w' => e = .returned (.bool false) ∧ Below W.heap.size W w')) :
    Calls Tryz.prog 43 #[.agg (mO k n m s (cellsF f fs))] w fun e w' => e = .returned (.string ⟨#[]⟩) ∧ Below w.heap.size w w' := by

  have M := Mm.nil w
  go_enter Tryz.func43, Tryz.ntmps43
  go_upto_region 0 with fail
  refine wp_region_lit ?_
  with_reducible refine wA (mO k n m s (cellsF f fs)) M ?_; clear M; intro pA u M; refine ⟨_, by (simp only [pu, sB, s0, sS]; rfl), ?_⟩
  with_reducible refine rA ?_
  go_upto_region 1 with fail
  refine wp_region_lit ?_
  with_reducible refine wL 0 M whole_part Tryz.underlying39 (infoTMo20 (mO_sz (cellsF_size f fs))) ?_
  with_reducible refine wC M (HI.out _ M.b) ?_; clear M; intro u M
  with_reducible refine rA ?_
  go_upto_region 2 with fail
  refine wp_region_lit ?_
  with_reducible refine rA ?_
  go_wp2_with fail
  go_ret
  exact ⟨rfl, M.b⟩

set_option maxHeartbeats 8000000 in
set_option maxRecDepth 100000 in
theorem mTextOk (j : Nat) (n m : Int) (s : ByteArray) (f : Fil.Flt) (fs : ByteArray) (hd t : ByteArray) (w : World)
    (HI : Hid (∀ W, Below w.heap.size w W → Calls Tryz.prog 32 #[.agg (mO (j : Int) n m s (cellsF f fs))] W fun e w' => e = .returned (.bool true) ∧ Below W.heap.size W w')) (hj : j < 15) (hh : headsC[j]? = some (.string hd)) (HT : Hid (∀ W, Below w.heap.size w W → Calls Tryz.prog 89 #[.agg (mO (j : Int) n m s (cellsF f fs))] W fun e w' => e = .returned (.string t) ∧ Below W.heap.size W w')) (hs : hd.size ≤ 1000) (ht : t.size ≤ 1000000) :
    Calls Tryz.prog 43 #[.agg (mO (j : Int) n m s (cellsF f fs))] w fun e w' => e = .returned (.string (hd ++ t)) ∧ Below w.heap.size w w' := by

  have M := Mm.nil w
  go_enter Tryz.func43, Tryz.ntmps43
  go_upto_region 0 with fail
  refine wp_region_lit ?_
  with_reducible refine wA (mO (j : Int) n m s (cellsF f fs)) M ?_; clear M; intro pA u M; refine ⟨_, by (simp only [pu, sB, s0, sS]; rfl), ?_⟩
  with_reducible refine rA ?_
  go_upto_region 1 with fail
  refine wp_region_lit ?_
  with_reducible refine wL 0 M whole_part Tryz.underlying39 (infoTMo20 (mO_sz (cellsF_size f fs))) ?_
  with_reducible refine wC M (HI.out _ M.b) ?_; clear M; intro u M
  with_reducible refine rA ?_
  have h0 : (0 : Int) ≤ (j : Int) := by omega
  have h15 : (j : Int) < 15 := by omega
  go_upto_region 3 with fail
  refine wp_region_held_drew (S := (fun W : World => Kp [(pA, (mO (j : Int) n m s (cellsF f fs)), 39)] W)) (by kernel_rfl) ?_ (fun hHeld => ?_)
  · exact M.drew.k
  refine take_run 1 (some 7) (v := .pointer (some ⟨pA, 0, none⟩)) rfl rfl (by kernel_rfl) (by kernel_rfl) (by kernel_rfl) (fun _ _ _ h => h) (by rfl) ?_ (by assumption) ?_
  · (intro W hSw; go_simp; (try rfl))
  simp only [pu, sB, s0, sS]
  refine take_loadV 2 (some 8) rfl rfl (by kernel_rfl) (by kernel_rfl) (by kernel_rfl) (fun _ _ _ h => h) (by rfl) (.tmp 7) rfl (b := pA) (j := 0) (cs := (mO (j : Int) n m s (cellsF f fs))) (v := .int .i64 (j : Int)) (by rfl) (fun W h => h.at 0 rfl) mO_0 Tryz.underlying3 rfl (by assumption) ?_
  simp only [pu, sB, s0, sS]
  refine take_loadS 5 (some 11) rfl rfl (by kernel_rfl) (by kernel_rfl) (by kernel_rfl) (fun _ _ _ h => h) (by rfl) (.tmp 1) rfl (b := pA) (cs := (mO (j : Int) n m s (cellsF f fs))) (by rfl) (fun W h => h.at 0 rfl) Tryz.underlying39 rfl (infoTMo20 (mO_sz (cellsF_size f fs))) (by assumption) ?_
  simp only [pu, sB, s0, sS]
  refine wpAnyH_ready (rs := [0]) (by kernel_rfl) (by simp) ?_
  refine AllReadyH.cons rfl (fun K1 hK1 => ?_) AllReadyH.nil
  go_simp
  go_at_call 88
  refine (callBase (C := u.heap.size) (w0 := u) (by go_grown) (Nat.le_refl _) (modHeadsE _)).mono ?_
  rintro e wd1 ⟨⟨b, rfl, hbk⟩, hbd1⟩
  go_simp
  refine hK1.out _ _ ?_ (fun hHd1 => ?_)
  · exact (M.k.below hbd1)
  clear hK1 K1 hHeld
  have hHd1x : (fun W : World => Kp [(pA, (mO (j : Int) n m s (cellsF f fs)), 39)] W ∧ W.cell? ⟨b, j, none⟩ = some (.string hd)) _ := ⟨(M.k.below hbd1), ((hbk.cell j).trans hh)⟩
  refine wpAnyH_more (S' := (fun W : World => Kp [(pA, (mO (j : Int) n m s (cellsF f fs)), 39)] W ∧ W.cell? ⟨b, j, none⟩ = some (.string hd))) (fun W h => h.1) _ _ _ _ ?_
  clear hHd1
  try simp only [pu, sB, s0, sS]
  refine take_run 3 (some 9) (v := .pointer (some ⟨b, j, none⟩)) rfl rfl (by kernel_rfl) (by kernel_rfl) (by kernel_rfl) (fun _ _ _ h => h) (by rfl) ?_ (by assumption) ?_
  · (intro W hSw; go_simp; (try rfl))
  simp only [pu, sB, s0, sS]
  refine take_run 4 (some 10) (v := .string hd) rfl rfl (by kernel_rfl) (by kernel_rfl) (by kernel_rfl) (fun _ _ _ h => h) (by rfl) ?_ (by assumption) ?_
  · (intro W hSw; have hc := hSw.2; go_simp; (try with_reducible rfl))
  simp only [pu, sB, s0, sS]
  refine wpAnyH_ready (rs := [6]) (by kernel_rfl) (by simp) ?_
  refine AllReadyH.cons rfl (fun K2 hK2 => ?_) AllReadyH.nil
  go_simp
  go_at_call 89
  refine (callBase (C := wd1.heap.size) (w0 := wd1) (Below.refl _ _) (Nat.le_refl _) (HT.out _ (M.b.trans (Below.mono (hbd1 : Below u.heap.size u _) M.b.size)))).mono ?_
  rintro e wd2 ⟨rfl, hbs2⟩
  have hbd2 := hbd1.trans (hbs2.mono hbd1.size)
  go_simp
  refine hK2.out _ _ ?_ (fun hHd2 => ?_)
  · exact ⟨(M.k.below hbd2), (Eq.trans (hbs2.cell (p := ⟨b, j, none⟩) hbk.lt) ((hbk.cell j).trans hh))⟩
  clear hK2 K2 hHd1x
  try simp only [pu, sB, s0, sS]
  refine take_run 7 (some 13) (v := .string (hd ++ t)) rfl rfl (by kernel_rfl) (by kernel_rfl) (by kernel_rfl) (fun _ _ _ h => h) (by rfl) ?_ (by assumption) ?_
  · (intro W hSw; go_simp; omega)
  simp only [pu, sB, s0, sS]
  refine take_run 8 (some 2) (v := ?_) rfl rfl (by kernel_rfl) (by kernel_rfl) (by kernel_rfl) (fun _ _ _ h => h) (by rfl) ?_ (by assumption) ?_
  rotate_left
  · (intro W hSw; (try dsimp only at hSw); go_simp; (try with_reducible rfl))
  simp only [pu, sB, s0, sS]
  refine wpAnyH_done (by kernel_rfl) ?_ _
  replace M := M.call hbd2
  go_wp2_with fail
  go_ret
  exact ⟨rfl, M.b⟩
end Go.Proofs.YtbcgkeclmioeiaaGreatDoor
namespace Go.Proofs.YtbcgkeclmioeiaaGreatDoor
open Go.RowKit
open Wd (Bs)

set_option maxHeartbeats 8000000 in
set_option maxRecDepth 100000 in
theorem mParseW (t u : ByteArray) (k n m : Int) (s : ByteArray) (f : Fil.Flt) (fs : ByteArray) (v q : Bool) (w : World)
    (HR : Hid (∀ W, Below w.heap.size w W → Calls Tryz.prog 45 #[.string t] W fun e w' => e = .returned (.agg (mO k n m s (cellsF f fs))) ∧ Below W.heap.size W w')) (HI : Hid (∀ W, Below w.heap.size w W → Calls Tryz.prog 32 #[.agg (mO k n m s (cellsF f fs))] W fun e w' => e = .returned (.bool v) ∧ Below W.heap.size W w')) (HT : Hid (∀ W, Below w.heap.size w W → Calls Tryz.prog 43 #[.agg (mO k n m s (cellsF f fs))] W fun e w' => e = .returned (.string u) ∧ Below W.heap.size W w')) (hq : (u.toList == t.toList) = q) :
    Calls Tryz.prog 21 #[.string t] w fun e w' => e = .returned (if (v && q) = true then .tuple #[.agg (mO k n m s (cellsF f fs)), .int .i64 0] else .tuple #[.agg (mO 0 0 0 ⟨#[]⟩ cellsZ), .int .i64 3]) ∧ Below w.heap.size w w' := by

  have B0 := Lib.hid (Below.refl w.heap.size w)
  go_enter Tryz.func21, Tryz.ntmps21
  go_upto_region 0 with fail
  refine wp_region_lit ?_
  obtain ⟨w1, hw⟩ : ∃ v, v = w.alloc (.cells (mO 0 0 0 ⟨#[]⟩ cellsZ) 39) := ⟨_, rfl⟩
  obtain ⟨pR, hp⟩ : ∃ v, v = w.heap.size := ⟨_, rfl⟩
  have B1 : Hid (Below w.heap.size w w1) := Lib.hid (by rw [hw]; exact B0.out.alloc B0.out.size _)
  have LER : Hid (w.heap.size ≤ pR) := Lib.hid (by rw [hp]; exact B0.out.size)
  have KR1 : Hid (Blk w1 pR (mO 0 0 0 ⟨#[]⟩ cellsZ) 39) := Lib.hid (by rw [hw, hp]; exact Blk.new _ _ _)
  with_reducible refine wpList_runWV (some 2) (v := .pointer (some ⟨pR, 0, none⟩)) (w' := w1) ?_ ?_ ?_ ?_
  · rfl
  · rfl
  · rw [hw, hp]; (go_simp; (try rfl))
  simp only [pu, sB, s0, sS]
  clear hw hp
  clear B0
  (with_reducible refine rN (v := ?_) ?_ ?_ ?_); rotate_left; (· rfl); (· go_simp; (try with_reducible rfl)); simp only [pu, sB, s0, sS]
  go_upto_region 1 with fail
  refine wp_region_lit ?_
  (with_reducible refine rN (v := ?_) ?_ ?_ ?_); rotate_left; (· rfl); (· go_simp; (try with_reducible rfl)); simp only [pu, sB, s0, sS]
  go_wp2_with fail
  refine (HR.out _ B1.out).mono ?_
  rintro e w2 ⟨rfl, hb⟩
  have B2 := Lib.hid (B1.out.trans (hb.mono B1.out.size))
  have KR2 := Lib.hid (KR1.out.below hb KR1.out.lt)
  clear hb
  clear B1 KR1
  go_simp
  rename_i hKK
  refine hKK _ _ ?_
  clear hKK
  try simp only [pu, sB, s0, sS]
  obtain ⟨w3, hw⟩ : ∃ v, v = w2.alloc (.cells (mO 0 0 0 ⟨#[]⟩ cellsZ) 39) := ⟨_, rfl⟩
  obtain ⟨pA, hp⟩ : ∃ v, v = w2.heap.size := ⟨_, rfl⟩
  have B3 : Hid (Below w.heap.size w w3) := Lib.hid (by rw [hw]; exact B2.out.alloc B2.out.size _)
  have LEA : Hid (w.heap.size ≤ pA) := Lib.hid (by rw [hp]; exact B2.out.size)
  have KR3 := Lib.hid (show Blk w3 pR (mO 0 0 0 ⟨#[]⟩ cellsZ) 39 by rw [hw]; exact KR2.out.alloc _)
  have NERA : Hid (pR ≠ pA) := Lib.hid (by rw [hp]; exact Nat.ne_of_lt KR2.out.lt)
  have NEAR : Hid (pA ≠ pR) := Lib.hid (Ne.symm NERA.out)
  have KA3 : Hid (Blk w3 pA (mO 0 0 0 ⟨#[]⟩ cellsZ) 39) := Lib.hid (by rw [hw, hp]; exact Blk.new _ _ _)
  with_reducible refine wpList_runWV (some 4) (v := .pointer (some ⟨pA, 0, none⟩)) (w' := w3) ?_ ?_ ?_ ?_
  · rfl
  · rfl
  · rw [hw, hp]; (go_simp; (try rfl))
  simp only [pu, sB, s0, sS]
  clear hw hp
  clear B2 KR2
  have KA4 := Lib.hid (KA3.out.stored (o := 0) (vs := (mO k n m s (cellsF f fs)).toList) (cs' := (mO k n m s (cellsF f fs))) (laid_all (mO_sz (cellsF_size f fs)) (mO_sz cellsZ_size)))
  have KR4 := Lib.hid (KR3.out.wholeElse ((mO k n m s (cellsF f fs)).toList) (o := 0) NERA.out)
  have B4 := Lib.hid (below_whole ((mO k n m s (cellsF f fs)).toList) (o := 0) B3.out LEA.out)
  with_reducible refine wpList_storeM (.tmp 4) (.tmp 6) (o := 0) (vs := (mO k n m s (cellsF f fs))) ?_ ?_ KA3.out ?_ (infoTMo20 (mO_sz (cellsF_size f fs))) (mO_one (cellsF_one f fs)) ?_
  · rfl
  · rfl
  · exact (fit_2 (mO_sz cellsZ_size) (mO_sz (cellsF_size f fs)) (by decide))
  (try simp only [Act.put])
  generalize World.setCells _ _ _ _ = w4 at KR4 KA4 B4 ⊢
  clear B3 KR3 KA3
  cases v with
  | false =>
    go_upto_region 2 with fail
    refine wp_region_lit ?_
    with_reducible refine wpList_loadS (.tmp 4) ?_ ?_ KA4.out Tryz.underlying39 ?_ (infoTMo20 (mO_sz (cellsF_size f fs))) ?_
    · rfl
    · rfl
    · rfl
    simp only [pu, sB, s0, sS]
    go_wp2_with fail
    refine (HI.out _ B4.out).mono ?_
    rintro e w5 ⟨rfl, hb⟩
    have B5 := Lib.hid (B4.out.trans (hb.mono B4.out.size))
    have KR5 := Lib.hid (KR4.out.below hb KR4.out.lt)
    have KA5 := Lib.hid (KA4.out.below hb KA4.out.lt)
    clear hb
    clear B4 KR4 KA4
    go_simp
    rename_i hKK
    refine hKK _ _ ?_
    clear hKK
    try simp only [pu, sB, s0, sS]
    iterate 2 ((with_reducible refine rN (v := .bool true) ?_ ?_ ?_); (· rfl); (· go_simp; (try with_reducible rfl)); simp only [pu, sB, s0, sS])
    iterate 4 ((with_reducible refine kN ?_ ?_); (· rfl); simp only [pu, sB, s0, sS])
    (with_reducible refine rN (v := .bool true) ?_ ?_ ?_); (· rfl); (· go_simp; (try with_reducible rfl)); simp only [pu, sB, s0, sS]
    go_upto_region 3 with fail
    refine wp_region_lit ?_
    (with_reducible refine rN (v := .agg (mO 0 0 0 ⟨#[]⟩ cellsZ)) ?_ ?_ ?_); (· rfl); (· go_simp; rfl); simp only [pu, sB, s0, sS]
    have KR6 := Lib.hid (KR5.out.stored (o := 0) (vs := (mO 0 0 0 ⟨#[]⟩ cellsZ).toList) (cs' := (mO 0 0 0 ⟨#[]⟩ cellsZ)) (laid_all (mO_sz cellsZ_size) (mO_sz cellsZ_size)))
    have KA6 := Lib.hid (KA5.out.wholeElse ((mO 0 0 0 ⟨#[]⟩ cellsZ).toList) (o := 0) NEAR.out)
    have B6 := Lib.hid (below_whole ((mO 0 0 0 ⟨#[]⟩ cellsZ).toList) (o := 0) B5.out LER.out)
    with_reducible refine wpList_storeM (.tmp 2) (.tmp 16) (o := 0) (vs := (mO 0 0 0 ⟨#[]⟩ cellsZ)) ?_ ?_ KR5.out ?_ (infoTMo20 (mO_sz cellsZ_size)) (mO_one cellsZ_one) ?_
    · rfl
    · rfl
    · exact (fit_2 (mO_sz cellsZ_size) (mO_sz cellsZ_size) (by decide))
    (try simp only [Act.put])
    generalize World.setCells _ _ _ _ = w6 at KR6 KA6 B6 ⊢
    clear B5 KR5 KA5
    (with_reducible refine rN (v := ?_) ?_ ?_ ?_); rotate_left; (· rfl); (· go_simp; (try with_reducible rfl)); simp only [pu, sB, s0, sS]
    have hL := KR6.out.readS Tryz.underlying39 rfl (infoTMo20 (mO_sz cellsZ_size))
    go_wp2_with fail
    exact bodyPost_ret (v := .tuple #[.agg (mO 0 0 0 ⟨#[]⟩ cellsZ), .int .i64 3]) (results_cell_tmp Tryz.results21 (by rfl) (by rfl) hL) rfl ⟨rfl, B6.out⟩
  | true =>
    cases q with
    | false =>
      go_upto_region 2 with fail
      refine wp_region_lit ?_
      with_reducible refine wpList_loadS (.tmp 4) ?_ ?_ KA4.out Tryz.underlying39 ?_ (infoTMo20 (mO_sz (cellsF_size f fs))) ?_
      · rfl
      · rfl
      · rfl
      simp only [pu, sB, s0, sS]
      go_wp2_with fail
      refine (HI.out _ B4.out).mono ?_
      rintro e w5 ⟨rfl, hb⟩
      have B5 := Lib.hid (B4.out.trans (hb.mono B4.out.size))
      have KR5 := Lib.hid (KR4.out.below hb KR4.out.lt)
      have KA5 := Lib.hid (KA4.out.below hb KA4.out.lt)
      clear hb
      clear B4 KR4 KA4
      go_simp
      rename_i hKK
      refine hKK _ _ ?_
      clear hKK
      try simp only [pu, sB, s0, sS]
      iterate 2 ((with_reducible refine rN (v := .bool false) ?_ ?_ ?_); (· rfl); (· go_simp; (try with_reducible rfl)); simp only [pu, sB, s0, sS])
      with_reducible refine wpList_loadS (.tmp 4) ?_ ?_ KA5.out Tryz.underlying39 ?_ (infoTMo20 (mO_sz (cellsF_size f fs))) ?_
      · rfl
      · rfl
      · rfl
      simp only [pu, sB, s0, sS]
      go_wp2_with fail
      refine (HT.out _ B5.out).mono ?_
      rintro e w6 ⟨rfl, hb⟩
      have B6 := Lib.hid (B5.out.trans (hb.mono B5.out.size))
      have KR6 := Lib.hid (KR5.out.below hb KR5.out.lt)
      have KA6 := Lib.hid (KA5.out.below hb KA5.out.lt)
      clear hb
      clear B5 KR5 KA5
      go_simp
      rename_i hKK
      refine hKK _ _ ?_
      clear hKK
      try simp only [pu, sB, s0, sS]
      (with_reducible refine rN (v := ?_) ?_ ?_ ?_); rotate_left; (· rfl); (· go_simp; (try with_reducible rfl)); simp only [pu, sB, s0, sS]
      iterate 2 ((with_reducible refine rN (v := .bool true) ?_ ?_ ?_); (· rfl); (· go_simp; (try with_reducible rfl)); simp only [pu, sB, s0, sS])
      go_upto_region 3 with fail
      refine wp_region_lit ?_
      (with_reducible refine rN (v := .agg (mO 0 0 0 ⟨#[]⟩ cellsZ)) ?_ ?_ ?_); (· rfl); (· go_simp; rfl); simp only [pu, sB, s0, sS]
      have KR7 := Lib.hid (KR6.out.stored (o := 0) (vs := (mO 0 0 0 ⟨#[]⟩ cellsZ).toList) (cs' := (mO 0 0 0 ⟨#[]⟩ cellsZ)) (laid_all (mO_sz cellsZ_size) (mO_sz cellsZ_size)))
      have KA7 := Lib.hid (KA6.out.wholeElse ((mO 0 0 0 ⟨#[]⟩ cellsZ).toList) (o := 0) NEAR.out)
      have B7 := Lib.hid (below_whole ((mO 0 0 0 ⟨#[]⟩ cellsZ).toList) (o := 0) B6.out LER.out)
      with_reducible refine wpList_storeM (.tmp 2) (.tmp 16) (o := 0) (vs := (mO 0 0 0 ⟨#[]⟩ cellsZ)) ?_ ?_ KR6.out ?_ (infoTMo20 (mO_sz cellsZ_size)) (mO_one cellsZ_one) ?_
      · rfl
      · rfl
      · exact (fit_2 (mO_sz cellsZ_size) (mO_sz cellsZ_size) (by decide))
      (try simp only [Act.put])
      generalize World.setCells _ _ _ _ = w7 at KR7 KA7 B7 ⊢
      clear B6 KR6 KA6
      (with_reducible refine rN (v := ?_) ?_ ?_ ?_); rotate_left; (· rfl); (· go_simp; (try with_reducible rfl)); simp only [pu, sB, s0, sS]
      have hL := KR7.out.readS Tryz.underlying39 rfl (infoTMo20 (mO_sz cellsZ_size))
      go_wp2_with fail
      exact bodyPost_ret (v := .tuple #[.agg (mO 0 0 0 ⟨#[]⟩ cellsZ), .int .i64 3]) (results_cell_tmp Tryz.results21 (by rfl) (by rfl) hL) rfl ⟨rfl, B7.out⟩
    | true =>
      go_upto_region 2 with fail
      refine wp_region_lit ?_
      with_reducible refine wpList_loadS (.tmp 4) ?_ ?_ KA4.out Tryz.underlying39 ?_ (infoTMo20 (mO_sz (cellsF_size f fs))) ?_
      · rfl
      · rfl
      · rfl
      simp only [pu, sB, s0, sS]
      go_wp2_with fail
      refine (HI.out _ B4.out).mono ?_
      rintro e w5 ⟨rfl, hb⟩
      have B5 := Lib.hid (B4.out.trans (hb.mono B4.out.size))
      have KR5 := Lib.hid (KR4.out.below hb KR4.out.lt)
      have KA5 := Lib.hid (KA4.out.below hb KA4.out.lt)
      clear hb
      clear B4 KR4 KA4
      go_simp
      rename_i hKK
      refine hKK _ _ ?_
      clear hKK
      try simp only [pu, sB, s0, sS]
      iterate 2 ((with_reducible refine rN (v := .bool false) ?_ ?_ ?_); (· rfl); (· go_simp; (try with_reducible rfl)); simp only [pu, sB, s0, sS])
      with_reducible refine wpList_loadS (.tmp 4) ?_ ?_ KA5.out Tryz.underlying39 ?_ (infoTMo20 (mO_sz (cellsF_size f fs))) ?_
      · rfl
      · rfl
      · rfl
      simp only [pu, sB, s0, sS]
      go_wp2_with fail
      refine (HT.out _ B5.out).mono ?_
      rintro e w6 ⟨rfl, hb⟩
      have B6 := Lib.hid (B5.out.trans (hb.mono B5.out.size))
      have KR6 := Lib.hid (KR5.out.below hb KR5.out.lt)
      have KA6 := Lib.hid (KA5.out.below hb KA5.out.lt)
      clear hb
      clear B5 KR5 KA5
      go_simp
      rename_i hKK
      refine hKK _ _ ?_
      clear hKK
      try simp only [pu, sB, s0, sS]
      (with_reducible refine rN (v := ?_) ?_ ?_ ?_); rotate_left; (· rfl); (· go_simp; (try with_reducible rfl)); simp only [pu, sB, s0, sS]
      iterate 2 ((with_reducible refine rN (v := .bool false) ?_ ?_ ?_); (· rfl); (· go_simp; (try with_reducible rfl)); simp only [pu, sB, s0, sS])
      go_upto_region 4 with fail
      refine wp_region_lit ?_
      with_reducible refine wpList_loadS (.tmp 4) ?_ ?_ KA6.out Tryz.underlying39 ?_ (infoTMo20 (mO_sz (cellsF_size f fs))) ?_
      · rfl
      · rfl
      · rfl
      simp only [pu, sB, s0, sS]
      have KR7 := Lib.hid (KR6.out.stored (o := 0) (vs := (mO k n m s (cellsF f fs)).toList) (cs' := (mO k n m s (cellsF f fs))) (laid_all (mO_sz (cellsF_size f fs)) (mO_sz cellsZ_size)))
      have KA7 := Lib.hid (KA6.out.wholeElse ((mO k n m s (cellsF f fs)).toList) (o := 0) NEAR.out)
      have B7 := Lib.hid (below_whole ((mO k n m s (cellsF f fs)).toList) (o := 0) B6.out LER.out)
      with_reducible refine wpList_storeM (.tmp 2) (.tmp 17) (o := 0) (vs := (mO k n m s (cellsF f fs))) ?_ ?_ KR6.out ?_ (infoTMo20 (mO_sz (cellsF_size f fs))) (mO_one (cellsF_one f fs)) ?_
      · rfl
      · rfl
      · exact (fit_2 (mO_sz cellsZ_size) (mO_sz (cellsF_size f fs)) (by decide))
      (try simp only [Act.put])
      generalize World.setCells _ _ _ _ = w7 at KR7 KA7 B7 ⊢
      clear B6 KR6 KA6
      (with_reducible refine rN (v := ?_) ?_ ?_ ?_); rotate_left; (· rfl); (· go_simp; (try with_reducible rfl)); simp only [pu, sB, s0, sS]
      have hL := KR7.out.readS Tryz.underlying39 rfl (infoTMo20 (mO_sz (cellsF_size f fs)))
      go_wp2_with fail
      exact bodyPost_ret (v := .tuple #[.agg (mO k n m s (cellsF f fs)), .int .i64 0]) (results_cell_tmp Tryz.results21 (by rfl) (by rfl) hL) rfl ⟨rfl, B7.out⟩
end Go.Proofs.YtbcgkeclmioeiaaGreatDoor
namespace Go.Proofs.YtbcgkeclmioeiaaGreatDoor
open Go.RowKit
open Wd (Bs)

set_option maxHeartbeats 8000000 in
set_option maxRecDepth 100000 in
theorem readW (t : ByteArray) (w : World)
    (hs : t.size ≤ 1000000) (HCP : Hid (∀ (j : Nat) W, Below w.heap.size w W → Calls Tryz.prog 84 #[.string t, .string ⟨(Mo.headL j).toArray⟩] W fun e w' => e = .returned (.tuple #[.string ⟨(if (Mo.headL j).isPrefixOf t.data.toList then t.data.toList.drop (Mo.headL j).length else t.data.toList).toArray⟩, .bool ((Mo.headL j).isPrefixOf t.data.toList)]) ∧ Below W.heap.size W w')) (HRT : Hid (∀ (j : Nat) (r : ByteArray) W, j < 15 → r.size ≤ 1000000 → Mo.NoH t.data.toList j → Mo.hitH t.data.toList j = true → r.data.toList = t.data.toList.drop (Mo.headL j).length → Below w.heap.size w W → Calls Tryz.prog 90 #[.int .i64 (j : Int), .string r] W fun e w' => e = .returned (.agg (cellsX (Mo.tailM j r.data.toList))) ∧ Below W.heap.size W w')) :
    Calls Tryz.prog 45 #[.string t] w fun e w' => e = .returned (.agg (cellsX (Mo.readM t.data.toList))) ∧ Below w.heap.size w w' := by

  have B0 := Lib.hid (Below.refl w.heap.size w)
  go_enter Tryz.func45, Tryz.ntmps45
  go_upto_region 0 with fail
  refine wp_region_lit ?_
  obtain ⟨w1, hw⟩ : ∃ v, v = w.alloc (.cells (mO 0 0 0 ⟨#[]⟩ cellsZ) 39) := ⟨_, rfl⟩
  obtain ⟨pR, hp⟩ : ∃ v, v = w.heap.size := ⟨_, rfl⟩
  have B1 : Hid (Below w.heap.size w w1) := Lib.hid (by rw [hw]; exact B0.out.alloc B0.out.size _)
  have LER : Hid (w.heap.size ≤ pR) := Lib.hid (by rw [hp]; exact B0.out.size)
  have KR1 : Hid (Blk w1 pR (mO 0 0 0 ⟨#[]⟩ cellsZ) 39) := Lib.hid (by rw [hw, hp]; exact Blk.new _ _ _)
  with_reducible refine wpList_runWV (some 2) (v := .pointer (some ⟨pR, 0, none⟩)) (w' := w1) ?_ ?_ ?_ ?_
  · rfl
  · rfl
  · rw [hw, hp]; (go_simp; (try rfl))
  simp only [pu, sB, s0, sS]
  clear hw hp
  clear B0
  go_upto_region 1 with fail
  go_wp2_with fail
  refine (modHeadsE _).mono ?_
  rintro e w2 ⟨⟨hb, rfl, hKH⟩, hbb⟩
  have B2 := Lib.hid (B1.out.trans (hbb.mono B1.out.size))
  have KR2 := Lib.hid (KR1.out.below hbb KR1.out.lt)
  have KH := Lib.hid hKH
  have hLH := Nat.le_refl 0
  clear hLH hKH hbb B1 KR1
  go_wp2_with fail
  go_loopw [3, 4, 5, 6, 9] (fun v3 v4 v5 v6 iv wr => ∃ j : Nat, j ≤ 15 ∧ iv = .int .i64 (j : Int) ∧ Hid (Mo.NoH t.data.toList j) ∧ Hid (Blk wr hb headsC 9) ∧ Hid (Blk wr pR (mO 0 0 0 ⟨#[]⟩ cellsZ) 39) ∧ Hid (Below w.heap.size w wr)) (fun v3 v4 v5 v6 iv _ => 15 - (intOf iv).toNat)
  case atStart => exact ⟨0, by omega, rfl, Lib.hid (fun _ h => absurd h (Nat.not_lt_zero _)), KH, KR2, B2⟩
  case round =>
    obtain ⟨j, hj, rfl, HN, KH0, KR0, B0⟩ := hrel
    by_cases hlt : j < 15
    · have h15 : (j : Int) < 15 := by omega
      have h0 : (0 : Int) ≤ (j : Int) := by omega
      have hc := (KH0.out.cell j).trans (headsC_at hlt)
      have HC := Lib.hid (HCP.out j)
      obtain ⟨hd, ehd⟩ : ∃ x : ByteArray, x = ⟨(Mo.headL j).toArray⟩ := ⟨_, rfl⟩
      rw [← ehd] at hc HC
      obtain ⟨rt, ert⟩ : ∃ x : ByteArray, x = ⟨(if (Mo.headL j).isPrefixOf t.data.toList then t.data.toList.drop (Mo.headL j).length else t.data.toList).toArray⟩ := ⟨_, rfl⟩
      rw [← ert] at HC
      obtain ⟨ok, eok⟩ : ∃ x, x = (Mo.headL j).isPrefixOf t.data.toList := ⟨_, rfl⟩
      rw [← eok] at HC
      have HOK := Lib.hid eok
      have HRT1 := Lib.hid ert
      have HHD := Lib.hid ehd
      clear eok ert ehd
      go_wp2_with fail
      refine (HC.out _ B0.out).mono ?_
      rintro e w1 ⟨rfl, hbb⟩
      have B1 := Lib.hid (B0.out.trans (hbb.mono B0.out.size))
      have KR1 := Lib.hid (KR0.out.below hbb KR0.out.lt)
      have KH1 := Lib.hid (KH0.out.below hbb KH0.out.lt)
      clear hbb B0 KR0 KH0
      obtain ⟨ne, ene⟩ : ∃ b, (!hd.toList.isEmpty) = b := ⟨_, rfl⟩
      cases ok with
      | false =>
        go_wp2_with fail
        go_roundw
        case rel => exact ⟨j + 1, by omega, by go_num, Lib.hid (HN.out.next (by unfold Mo.hitH; rw [← HOK.out]; rfl)), KH1, KR1, B1⟩
        case measure => simp [intOf]; omega
      | true =>
        cases ne with
        | false =>
          go_wp2_with fail
          go_roundw
          case rel => exact ⟨j + 1, by omega, by go_num, Lib.hid (HN.out.next (by unfold Mo.hitH; rw [head_empty HHD.out ene]; simp)), KH1, KR1, B1⟩
          case measure => simp [intOf]; omega
        | true =>
          have HIT : Hid (Mo.hitH t.data.toList j = true) := Lib.hid (by unfold Mo.hitH; rw [head_empty HHD.out ene, ← HOK.out]; rfl)
          have HSZ : Hid (rt.size ≤ 1000000) := Lib.hid (rest_size HRT1.out hs)
          go_wp2_with fail
          refine (HRT.out j rt _ hlt HSZ.out HN.out HIT.out (head_tail HRT1.out HOK.out) B1.out).mono ?_
          rintro e w2 ⟨rfl, hbb⟩
          have B2 := Lib.hid (B1.out.trans (hbb.mono B1.out.size))
          have KR2 := Lib.hid (KR1.out.below hbb KR1.out.lt)
          clear hbb B1 KR1
          go_simp
          rename_i hKK
          refine hKK _ _ ?_
          clear hKK
          try simp only [pu, sB, s0, sS]
          have KR3 := Lib.hid (KR2.out.stored (o := 0) (vs := (cellsX (Mo.tailM j rt.data.toList)).toList) (cs' := (cellsX (Mo.tailM j rt.data.toList))) (laid_all (cellsX_sz _) (mO_sz cellsZ_size)))
          have B3 := Lib.hid (below_whole ((cellsX (Mo.tailM j rt.data.toList)).toList) (o := 0) B2.out LER.out)
          with_reducible refine wpList_storeM (.tmp 2) (.tmp 27) (o := 0) (vs := (cellsX (Mo.tailM j rt.data.toList))) ?_ ?_ KR2.out ?_ (infoTMo20 (cellsX_sz _)) (cellsX_one _) ?_
          · rfl
          · rfl
          · exact (fit_2 (mO_sz cellsZ_size) (cellsX_sz _) (by decide))
          (try simp only [Act.put])
          generalize World.setCells _ _ _ _ = w3 at KR3 B3 ⊢
          clear B2 KR2
          rw [head_tail HRT1.out HOK.out, ← Mo.read_hit hlt HN.out HIT.out] at KR3
          have hL := KR3.out.readS Tryz.underlying39 rfl (infoTMo20 (cellsX_sz _))
          go_wp2_with fail
          exact bodyPost_ret (v := .agg (cellsX (Mo.readM t.data.toList))) (results_cell Tryz.results45 (by rfl) hL) rfl ⟨rfl, B3.out⟩
    · obtain rfl : j = 15 := by omega
      have HE := Lib.hid (Mo.read_none HN.out)
      go_upto_region 8 with fail
      refine wp_region_lit ?_
      (with_reducible refine rN (v := .agg (mO 0 0 0 ⟨#[]⟩ cellsZ)) ?_ ?_ ?_); (· rfl); (· go_simp; rfl); simp only [pu, sB, s0, sS]
      have KR1 := Lib.hid (KR0.out.stored (o := 0) (vs := (mO 0 0 0 ⟨#[]⟩ cellsZ).toList) (cs' := (mO 0 0 0 ⟨#[]⟩ cellsZ)) (laid_all (mO_sz cellsZ_size) (mO_sz cellsZ_size)))
      have B1 := Lib.hid (below_whole ((mO 0 0 0 ⟨#[]⟩ cellsZ).toList) (o := 0) B0.out LER.out)
      with_reducible refine wpList_storeM (.tmp 2) (.tmp 29) (o := 0) (vs := (mO 0 0 0 ⟨#[]⟩ cellsZ)) ?_ ?_ KR0.out ?_ (infoTMo20 (mO_sz cellsZ_size)) (mO_one cellsZ_one) ?_
      · rfl
      · rfl
      · exact (fit_2 (mO_sz cellsZ_size) (mO_sz cellsZ_size) (by decide))
      (try simp only [Act.put])
      generalize World.setCells _ _ _ _ = w1 at KR1 B1 ⊢
      clear B0 KR0
      rw [show (mO 0 0 0 ⟨#[]⟩ cellsZ) = cellsX (Mo.readM t.data.toList) by rw [HE.out]; rfl] at KR1
      have hL := KR1.out.readS Tryz.underlying39 rfl (infoTMo20 (cellsX_sz _))
      go_wp2_with fail
      exact bodyPost_ret (v := .agg (cellsX (Mo.readM t.data.toList))) (results_cell Tryz.results45 (by rfl) hL) rfl ⟨rfl, B1.out⟩
end Go.Proofs.YtbcgkeclmioeiaaGreatDoor
namespace Go.Proofs.YtbcgkeclmioeiaaGreatDoor
open Go.RowKit
open Wd (Bs)

theorem same_below {f : FuncId} {args : Array Value} {v : Value} {w : World} (h : Calls Tryz.prog f args w fun e w' => e = .returned v ∧ w = w') : Calls Tryz.prog f args w fun e w' => e = .returned v ∧ Below w.heap.size w w' :=
  h.mono fun _ _ ⟨he, hw⟩ => ⟨he, hw ▸ Below.refl _ _⟩
theorem same_below' {f : FuncId} {args : Array Value} {v : Value} {w : World} (h : Calls Tryz.prog f args w fun e w' => e = .returned v ∧ w' = w) : Calls Tryz.prog f args w fun e w' => e = .returned v ∧ Below w.heap.size w w' :=
  h.mono fun _ _ ⟨he, hw⟩ => ⟨he, hw ▸ Below.refl _ _⟩
theorem and_types : ∀ t : Nat, t < 64 → (bits .and .i64 (t : Int) 6 == 0) = (t &&& 6 == 0) := by decide +kernel
theorem types_via (n : Int) : Mo.typesB n = (Mo.inB 1 63 n && (bits .and .i64 n 6 == 0)) := by
  unfold Mo.typesB Mo.inB
  by_cases h : 1 ≤ n ∧ n ≤ 63
  · obtain ⟨t, rfl⟩ : ∃ t : Nat, n = (t : Int) := ⟨n.toNat, by omega⟩
    rw [and_types t (by omega)]
    simp [Bool.and_assoc]
  · have : (decide (1 ≤ n) && decide (n ≤ 63)) = false := by
      cases hd : (decide (1 ≤ n) && decide (n ≤ 63)) with
      | false => rfl
      | true => simp only [Bool.and_eq_true, decide_eq_true_eq] at hd; omega
    rw [← Bool.and_assoc, this]
    rfl
theorem in_pos (hi n : Int) : Mo.inB 1 hi n = (Mo.inB 0 hi n && decide (0 < n)) := by
  unfold Mo.inB
  rw [Bool.eq_iff_iff]
  simp only [Bool.and_eq_true, decide_eq_true_eq]
  omega
set_option maxHeartbeats 1000000 in
theorem modIs (k n m : Int) (s : ByteArray) (f : Fil.Flt) (fs : ByteArray) (hf : f.sub = fs.data.toList) (hss : s.size ≤ maxLen) (hs : fs.size ≤ maxLen) (w : World) (hE : Env w) :
    Calls Tryz.prog 32 #[.agg (mO k n m s (cellsF f fs))] w fun e w' => e = .returned (.bool (Mo.okB ⟨k, n, m, s.data.toList, f⟩)) ∧ Below w.heap.size w w' := by
  cases hk : Mo.isKind k with
  | false =>
    rw [Mo.ok_not (x := ⟨k, n, m, s.data.toList, f⟩) hk]
    simp only [Mo.isKind, Bool.or_eq_false_iff] at hk
    obtain ⟨⟨⟨⟨⟨⟨⟨⟨⟨⟨⟨⟨⟨h1, h10⟩, h14⟩, h2⟩, h3⟩, h4⟩, h5⟩, h6⟩, h7⟩, h8⟩, h9⟩, h11⟩, h12⟩, h13⟩ := hk
    exact mIsOther k n m s f fs w h1 h10 h14 h2 h3 h4 h5 h6 h7 h8 h9 h11 h12 h13
  | true =>
    refine modIsIn k n m s f fs (bits .and .i64 n 6) (Mo.inB 1 63 n) (bits .and .i64 n 6 == 0) (Ln.isSub s.data.toList) (Col.validB n) (decide (0 < n)) (Kw.validB n) (Fil.validB f) (Mo.inB 0 99 n) (Mo.inB 0 99 m) (Mo.inB (-99) 99 n) (Mo.inB (-99) 99 m) w hf (Lib.hid fun W _ => same_below (modWithin n 1 63 W)) rfl rfl (types_via n) (Lib.hid fun W hb => same_below (lineIsSub s W (hE.below hb).line hss)) rfl (Lib.hid fun W _ => same_below (colorIs n W)) rfl rfl (in_pos 31 n) (Lib.hid fun W _ => same_below (keyIs n W)) (in_pos 131071 n)
      (Lib.hid fun W hb => filIs f fs hf hs W (hE.below hb)) rfl (Lib.hid fun W _ => same_below (modWithin n 0 99 W)) rfl (Lib.hid fun W _ => same_below (modWithin m 0 99 W)) rfl (Lib.hid fun W _ => same_below (modWithin n (-99) 99 W)) rfl (Lib.hid fun W _ => same_below (modWithin m (-99) 99 W)) rfl hk
/-- what validity says of the fields -/
theorem ok_rng {k n m : Int} {s : Bs} {f : Fil.Flt} (h : Mo.okB ⟨k, n, m, s, f⟩ = true) : (-99 ≤ n ∧ n ≤ 131071 ∧ -99 ≤ m ∧ m ≤ 99) ∧ (k = 2 ∨ k = 3 → 1 ≤ n ∧ n ≤ 63) ∧ (k = 4 ∨ k = 5 → Ln.isSub s = true) ∧ (k = 6 ∨ k = 7 → 0 ≤ n ∧ n ≤ 31) ∧ (k = 8 ∨ k = 9 → 1 ≤ n ∧ n ≤ 131071) ∧ (k = 11 → Fil.validB f = true) ∧ (k = 12 ∨ k = 13 → n ≤ 99) := by
  rcases Mo.ok_cases h with ⟨hk, e⟩ | ⟨t, hk, h1, h2, _, e⟩ | ⟨hk, hs, e⟩ | ⟨c, hk, h2, e⟩ | ⟨c, hk, h1, h2, e⟩ | ⟨hk, hv, e⟩ | ⟨hk, h1, h2, h3, h4, e⟩ | ⟨hk, h1, h2, h3, h4, e⟩
  all_goals
    simp only [Mo.Md.mk.injEq] at e hk
    try simp only at h1 h2 h3 h4
    try simp only at hs
    try simp only at hv
    refine ⟨by omega, by omega, ?_, by omega, by omega, ?_, by omega⟩
    · first | exact fun _ => hs | exact fun h => by omega
    · first | exact fun _ => hv | exact fun h => by omega
theorem itoa_99 : ∀ k : Nat, k < 199 → (Lib.itoa ((k : Int) - 99)).length ≤ 3 := by decide +kernel
theorem itoa_short {n : Int} (h0 : -99 ≤ n) (h1 : n ≤ 99) : (Lib.itoa n).length ≤ 3 := by
  have := itoa_99 (n + 99).toNat (by omega)
  rwa [show (((n + 99).toNat : Nat) : Int) - 99 = n by omega] at this
theorem name_short {s : Bs} (h : Ln.isSub s = true) : s.length ≤ 32 := sub_len (by unfold Fil.subB; rw [h]; simp)
theorem rawT_len {k n m : Int} {s : Bs} {f : Fil.Flt} (h : Mo.okB ⟨k, n, m, s, f⟩ = true) : (Mo.rawT ⟨k, n, m, s, f⟩).length ≤ 5000 := by
  obtain ⟨h0, h2, h4, h6, h8, h11, h12⟩ := ok_rng h
  unfold Mo.rawT
  simp only
  split
  · exact Nat.le_trans (typesN_len _) (by decide)
  · split
    · rename_i hk; exact Nat.le_trans (name_short (h4 hk)) (by decide)
    · split
      · rename_i hk; exact Nat.le_trans (Col.textN_len (by have := h6 hk; omega)) (by decide)
      · split
        · rename_i hk; exact Nat.le_trans (Kw.textN_len (by have := h8 hk; omega)) (by decide)
        · split
          · rename_i hk
            have := textF_len (h11 hk)
            rw [List.length_append]
            simp
            omega
          · split
            · rename_i hk
              have hn := h12 hk
              have e1 := itoa_short (n := n) (by omega) (by omega)
              have e2 := itoa_short (n := m) (by omega) (by omega)
              unfold Mo.pairS
              rw [List.length_append, List.length_cons]
              omega
            · simp
set_option maxHeartbeats 1000000 in
/-- the contract of filter.Text at a filter -/
def TextF (f : Fil.Flt) (fs : ByteArray) : Prop := ∀ W : World, Env W → Calls Tryz.prog 71 #[.agg (cellsF f fs)] W fun e w' => e = .returned (str (Fil.textF f)) ∧ Below W.heap.size W w'
theorem modTail (k n m : Int) (s : ByteArray) (f : Fil.Flt) (fs : ByteArray) (hok : Mo.okB ⟨k, n, m, s.data.toList, f⟩ = true) (HF : k = 11 → TextF f fs) (w : World) (hE : Env w) :
    Calls Tryz.prog 89 #[.agg (mO k n m s (cellsF f fs))] w fun e w' => e = .returned (str (Mo.rawT ⟨k, n, m, s.data.toList, f⟩)) ∧ Below w.heap.size w w' := by
  obtain ⟨h0, h2, h4, h6, h8, h11, h12⟩ := ok_rng hok
  have hfl : (Fil.textF f).length ≤ 4000 := by
    cases hv : Fil.validB f with
    | true => exact textF_len hv
    | false => unfold Fil.textF; rw [hv]; simp
  have hil : ∀ z : Int, -99 ≤ z → z ≤ 131071 → (Lib.itoa z).length ≤ 1000 := fun z h1 h2 => by
    rcases Int.lt_or_le z 0 with h | h
    · exact Nat.le_trans (itoa_short (by omega) (by omega)) (by decide)
    · rw [Num.itoa_nonneg h]; exact Nat.le_trans (Num.decDigits_len 6 _ (by simp; omega)) (by decide)
  have hn := hil n h0.1 h0.2.1
  have hm := hil m h0.2.2.1 (by omega)
  refine tailIn k n m s f fs ⟨(Mo.rawT ⟨k, n, m, s.data.toList, f⟩).toArray⟩ ⟨(typesI n).toArray⟩ ⟨(Col.textI n).toArray⟩ ⟨(Kw.textI n).toArray⟩ ⟨(Fil.textF f).toArray⟩ ⟨(Lib.itoa n).toArray⟩ ⟨(Lib.itoa m).toArray⟩ w
    (Lib.hid fun W hb => lineTypesText n W (hE.below hb).line) (Lib.hid fun hk => ?_) (Lib.hid fun hk => ?_) (Lib.hid fun W hb => colorText n W (hE.below hb).col) (Lib.hid fun hk => ?_) (Lib.hid fun W _ => keyText n W) (Lib.hid fun hk => ?_)
    (Lib.hid fun hk W hb => HF hk W (hE.below hb)) (by rw [size_of]; omega) (Lib.hid fun hk => ?_) (Lib.hid fun W hb => numText n (by omega) (by omega) W (hE.below hb).num) (Lib.hid fun W hb => numText m (by omega) (by omega) W (hE.below hb).num) (by rw [size_of]; omega) (by rw [size_of]; omega) (Lib.hid fun hk => ?_) (Lib.hid fun a2 a4 a6 a8 a11 a12 => ?_)
  · have := h2 hk
    obtain ⟨t, rfl⟩ : ∃ t : Nat, n = (t : Int) := ⟨n.toNat, by omega⟩
    unfold Mo.rawT
    rw [if_pos hk, typesI_nat (by omega) (by omega)]
    rfl
  · unfold Mo.rawT
    rw [if_neg (by simp only; omega), if_pos hk]
  · have := h6 hk
    obtain ⟨t, rfl⟩ : ∃ t : Nat, n = (t : Int) := ⟨n.toNat, by omega⟩
    unfold Mo.rawT
    rw [if_neg (by simp only; omega), if_neg (by simp only; omega), if_pos hk, Col.textI_nat (by omega)]
    rfl
  · have := h8 hk
    obtain ⟨t, rfl⟩ : ∃ t : Nat, n = (t : Int) := ⟨n.toNat, by omega⟩
    unfold Mo.rawT
    rw [if_neg (by simp only; omega), if_neg (by simp only; omega), if_neg (by simp only; omega), if_pos hk, Kw.textI_nat (by omega)]
    rfl
  · unfold Mo.rawT
    rw [if_neg (by simp only; omega), if_neg (by simp only; omega), if_neg (by simp only; omega), if_neg (by simp only; omega), if_pos hk]
    exact bytes_one (by simp)
  · unfold Mo.rawT
    rw [if_neg (by simp only; omega), if_neg (by simp only; omega), if_neg (by simp only; omega), if_neg (by simp only; omega), if_neg (by simp only; omega), if_pos hk]
    exact bytes_one (by simp [Mo.pairS])
  · unfold Mo.rawT
    rw [if_neg a2, if_neg a4, if_neg a6, if_neg a8, if_neg a11, if_neg a12]
theorem heads_len : ∀ j, j < 15 → (Mo.headL j).length ≤ 9 := by decide
theorem modTextH (k n m : Int) (s : ByteArray) (f : Fil.Flt) (fs : ByteArray) (hf : f.sub = fs.data.toList) (hss : s.size ≤ maxLen) (hs : fs.size ≤ maxLen) (HF : k = 11 → TextF f fs) (w : World) (hE : Env w) :
    Calls Tryz.prog 43 #[.agg (mO k n m s (cellsF f fs))] w fun e w' => e = .returned (str (Mo.textM ⟨k, n, m, s.data.toList, f⟩)) ∧ Below w.heap.size w w' := by
  have HI : Hid (∀ W, Below w.heap.size w W → _) := Lib.hid fun W hb => modIs k n m s f fs hf hss hs W (hE.below hb)
  cases hv : Mo.okB ⟨k, n, m, s.data.toList, f⟩ with
  | false =>
    rw [hv] at HI
    refine (mTextBad k n m s f fs w HI).mono ?_
    rintro e w1 ⟨rfl, hb⟩
    exact ⟨by rw [Mo.textM_bad hv]; rfl, hb⟩
  | true =>
    rw [hv] at HI
    have hr := Mo.ok_range hv
    simp only at hr
    obtain ⟨j, rfl⟩ : ∃ j : Nat, k = (j : Int) := ⟨k.toNat, by omega⟩
    have hj : j < 15 := by omega
    refine (mTextOk j n m s f fs ⟨(Mo.headL j).toArray⟩ ⟨(Mo.rawT ⟨j, n, m, s.data.toList, f⟩).toArray⟩ w HI hj (headsC_at hj) (Lib.hid fun W hb => modTail j n m s f fs hv HF W (hE.below hb)) (by rw [size_of]; have := heads_len j hj; omega) (by rw [size_of]; have := rawT_len hv; omega)).mono ?_
    rintro e w1 ⟨rfl, hb⟩
    refine ⟨?_, hb⟩
    rw [Mo.textM_ok hv, Mo.raw_head hv, str_of (l := Mo.headL (Mo.Md.k ⟨j, n, m, s.data.toList, f⟩).toNat ++ Mo.rawT ⟨j, n, m, s.data.toList, f⟩) (by simp)]
theorem parseV_sub (s : Bs) : (Fil.parseV s).sub.length ≤ 32 := by
  rcases Fil.parse_cases s with ⟨h, _⟩ | ⟨g, h1, _, h3, _⟩
  · rw [h]; decide
  · rw [h3]; exact sub_len (Fil.valid_of h1).sub
theorem tailM_short (j : Nat) (r : Bs) : (Mo.tailM j r).sub.length ≤ r.length ∧ (Mo.tailM j r).f.sub.length ≤ 32 := by
  have hz : Fil.zero.sub.length ≤ 32 := by decide
  unfold Mo.tailM
  split
  · exact ⟨Nat.zero_le _, hz⟩
  · split
    · exact ⟨Nat.le_refl _, hz⟩
    · split
      · exact ⟨Nat.zero_le _, hz⟩
      · split
        · exact ⟨Nat.zero_le _, hz⟩
        · split
          · exact ⟨Nat.zero_le _, parseV_sub _⟩
          · split
            · exact ⟨Nat.zero_le _, hz⟩
            · exact ⟨Nat.zero_le _, hz⟩
theorem readM_short (s : Bs) : (Mo.readM s).sub.length ≤ s.length ∧ (Mo.readM s).f.sub.length ≤ 32 := by
  unfold Mo.readM
  split
  · rename_i k _
    have := tailM_short k (s.drop (Mo.headL k).length)
    rw [List.length_drop] at this
    exact ⟨by omega, this.2⟩
  · exact ⟨Nat.zero_le _, by decide⟩
theorem pV_yes {s : Bs} (h : Mo.pB s = true) : Mo.pV s = Mo.readM s ∧ Mo.pE s = 0 := by
  refine ⟨?_, (Mo.p_yes h).2.2⟩
  rw [(Mo.parse_read s).2 h]
  unfold Mo.pV
  rw [if_pos h]
theorem modParseOf (t : ByteArray) (hs : t.size ≤ 1000000) (HF : (Mo.readM t.data.toList).k = 11 → TextF (Mo.readM t.data.toList).f (fsOf (Mo.readM t.data.toList).f)) (w : World) (hE : Env w)
    (HR : Hid (∀ W, Below w.heap.size w W → Calls Tryz.prog 45 #[.string t] W fun e w' => e = .returned (.agg (cellsX (Mo.readM t.data.toList))) ∧ Below W.heap.size W w')) :
    Calls Tryz.prog 21 #[.string t] w fun e w' => e = .returned (.tuple #[.agg (cellsX (Mo.pV t.data.toList)), .int .i64 (Mo.pE t.data.toList)]) ∧ Below w.heap.size w w' := by
  have hsl : t.data.toList.length = t.size := Array.length_toList
  obtain ⟨x, hx⟩ : ∃ x, Mo.readM t.data.toList = x := ⟨_, rfl⟩
  have hl := readM_short t.data.toList
  rw [hx] at hl HF
  have h1 : (ByteArray.mk x.sub.toArray).size ≤ maxLen := by rw [size_of]; unfold maxLen; omega
  have h2 : (fsOf x.f).size ≤ maxLen := by unfold fsOf; rw [size_of]; unfold maxLen; omega
  obtain ⟨u, hu, eu⟩ := exists_bytes (Mo.textM x)
  rw [hx] at HR
  have HT : Hid (∀ W, Below w.heap.size w W → _) := Lib.hid fun W hb => modTextH x.k x.n x.m ⟨x.sub.toArray⟩ x.f (fsOf x.f) (fsOf_sub x.f) h1 h2 HF W (hE.below hb)
  have ex : Mo.Md.mk x.k x.n x.m (ByteArray.mk x.sub.toArray).data.toList x.f = x := rfl
  rw [ex, eu] at HT
  have HI : Hid (∀ W, Below w.heap.size w W → _) := Lib.hid fun W hb => modIs x.k x.n x.m ⟨x.sub.toArray⟩ x.f (fsOf x.f) (fsOf_sub x.f) h1 h2 W (hE.below hb)
  rw [ex] at HI
  refine (mParseW t u x.k x.n x.m ⟨x.sub.toArray⟩ x.f (fsOf x.f) (Mo.okB x) (Mo.textM x == t.data.toList) w HR HI HT (by rw [Lib.toList_data, Lib.toList_data, hu])).mono ?_
  rintro e w1 ⟨rfl, hb⟩
  refine ⟨?_, hb⟩
  have hp := (Mo.parse_read t.data.toList).1
  rw [hx] at hp
  rw [hp]
  cases hB : Mo.pB t.data.toList with
  | true =>
    rw [if_pos rfl, (pV_yes hB).1, (pV_yes hB).2, hx]
    rfl
  | false =>
    rw [if_neg (by decide), (Mo.p_no hB).1, (Mo.p_no hB).2]
    rfl
end Go.Proofs.YtbcgkeclmioeiaaGreatDoor
