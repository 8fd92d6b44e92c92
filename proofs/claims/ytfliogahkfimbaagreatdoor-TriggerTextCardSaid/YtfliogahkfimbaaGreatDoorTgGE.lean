/-
  MERGED: TgLawA, TgLawW, TgLaws. By an AI agent.
-/
import Derived.Test.YtfliogahkfimbaaGreatDoorTgGA
import Derived.Deep.Cut
import Derived.Test.YtfliogahkfimbaaGreatDoorTgGC
import Derived.Test.YtfliogahkfimbaaGreatDoorTgGD
namespace Go.Proofs.YtfliogahkfimbaaGreatDoor
open Go.RowKit
open Wd (Bs)

set_option maxHeartbeats 8000000 in
set_option maxRecDepth 100000 in
theorem txBigT (k n : Int) (f : Fil.Flt) (fs : ByteArray) (w : World)
    (HL : Hid (∀ W, Below w.heap.size w W → Calls Tryz.prog 8 #[] W fun e w' => e = .returned (.bool true) ∧ Below W.heap.size W w')) (hl : decide (100 < (fs.size : Int)) = true) :
    Calls Tryz.prog 3 #[.agg (tG k n (cellsF f fs))] w fun e w' => e = .returned (.bool true) ∧ Below w.heap.size w w' := by

  have M := Mm.nil w
  go_enter Tryz.func3, Tryz.ntmps3
  go_upto_region 0 with fail
  refine wp_region_lit ?_
  with_reducible refine wA (tG k n (cellsF f fs)) M ?_; clear M; intro pB1 u M; refine ⟨_, by (simp only [pu, sB, s0, sS]; rfl), ?_⟩
  with_reducible refine rA ?_
  go_upto_region 1 with fail
  refine wp_region_lit ?_
  iterate 2 (with_reducible refine rA ?_)
  with_reducible refine wLv 0 M (show ((tG k n (cellsF f fs)))[9]? = some (.string fs) from (tG_f 7 _ rfl)) Tryz.underlying9 ?_
  iterate 2 (with_reducible refine rA ?_)
  go_upto_region 2 with fail
  refine wp_region_lit ?_
  with_reducible refine wC M (HL.out _ M.b) ?_; clear M; intro u M
  with_reducible refine rA ?_
  go_wp2_with fail
  go_ret
  exact ⟨rfl, M.b⟩

set_option maxHeartbeats 8000000 in
set_option maxRecDepth 100000 in
theorem txSmallT (k n : Int) (f : Fil.Flt) (fs : ByteArray) (v : Bool) (tw t : ByteArray) (w : World)
    (HL : Hid (∀ W, Below w.heap.size w W → Calls Tryz.prog 8 #[] W fun e w' => e = .returned (.bool true) ∧ Below W.heap.size W w')) (hl : decide (100 < (fs.size : Int)) = false) (HI : Hid (∀ W, Below w.heap.size w W → Calls Tryz.prog 9 #[.agg (tG k n (cellsF f fs))] W fun e w' => e = .returned (.bool v) ∧ Below W.heap.size W w')) (HJ : Hid (∀ W, Below w.heap.size w W → Calls Tryz.prog 10 #[.agg (tG k n (cellsF f fs))] W fun e w' => e = .returned (.bool v) ∧ Below W.heap.size W w')) (HW : Hid (∀ W, Below w.heap.size w W → Calls Tryz.prog 11 #[.int .i64 n] W fun e w' => e = .returned (.string tw) ∧ Below W.heap.size W w')) (HV : Hid (∀ W, Below w.heap.size w W → Calls Tryz.prog 12 #[.int .i64 n] W fun e w' => e = .returned (.string tw) ∧ Below W.heap.size W w')) (HT : Hid (∀ W, Below w.heap.size w W → Calls Tryz.prog 13 #[.agg (tG k n (cellsF f fs))] W fun e w' => e = .returned (.string t) ∧ Below W.heap.size W w')) (HU : Hid (∀ W, Below w.heap.size w W → Calls Tryz.prog 14 #[.agg (tG k n (cellsF f fs))] W fun e w' => e = .returned (.string t) ∧ Below W.heap.size W w')) :
    Calls Tryz.prog 3 #[.agg (tG k n (cellsF f fs))] w fun e w' => e = .returned (.bool true) ∧ Below w.heap.size w w' := by

  have M := Mm.nil w
  go_enter Tryz.func3, Tryz.ntmps3
  go_upto_region 0 with fail
  refine wp_region_lit ?_
  with_reducible refine wA (tG k n (cellsF f fs)) M ?_; clear M; intro pB1 u M; refine ⟨_, by (simp only [pu, sB, s0, sS]; rfl), ?_⟩
  with_reducible refine rA ?_
  go_upto_region 1 with fail
  refine wp_region_lit ?_
  iterate 2 (with_reducible refine rA ?_)
  with_reducible refine wLv 0 M (show ((tG k n (cellsF f fs)))[9]? = some (.string fs) from (tG_f 7 _ rfl)) Tryz.underlying9 ?_
  iterate 2 (with_reducible refine rA ?_)
  cases v with
  | false =>
    go_upto_region 3 with fail
    refine wp_region_held_drew (S := (fun W : World => Kp [(pB1, (tG k n (cellsF f fs)), 27)] W)) (by kernel_rfl) ?_ (fun hHeld => ?_)
    · exact M.drew.k
    refine take_loadS 0 (some 9) rfl rfl (by kernel_rfl) (by kernel_rfl) (by kernel_rfl) (fun _ _ _ h => h) (by rfl) (.tmp 1) rfl (b := pB1) (cs := (tG k n (cellsF f fs))) (by rfl) (fun W h => h.at 0 rfl) Tryz.underlying27 rfl (infoTTg18 (tG_sz (cellsF_size f fs))) (by assumption) ?_
    simp only [pu, sB, s0, sS]
    refine take_loadS 2 (some 11) rfl rfl (by kernel_rfl) (by kernel_rfl) (by kernel_rfl) (fun _ _ _ h => h) (by rfl) (.tmp 1) rfl (b := pB1) (cs := (tG k n (cellsF f fs))) (by rfl) (fun W h => h.at 0 rfl) Tryz.underlying27 rfl (infoTTg18 (tG_sz (cellsF_size f fs))) (by assumption) ?_
    simp only [pu, sB, s0, sS]
    refine wpAnyH_ready (rs := [1]) (by kernel_rfl) (by simp) ?_
    refine AllReadyH.cons rfl (fun K1 hK1 => ?_) AllReadyH.nil
    go_simp
    go_at_call 9
    refine (callBase (C := u.heap.size) (w0 := u) (by go_grown) (Nat.le_refl _) (HI.out _ (M.b.trans (Below.mono ((by go_grown) : Below u.heap.size u _) M.b.size)))).mono ?_
    rintro e wd1 ⟨rfl, hbd1⟩
    go_simp
    refine hK1.out _ _ ?_ (fun hHd1 => ?_)
    · exact (M.k.below hbd1)
    clear hK1 K1 hHeld
    try simp only [pu, sB, s0, sS]
    refine wpAnyH_ready (rs := [3]) (by kernel_rfl) (by simp) ?_
    refine AllReadyH.cons rfl (fun K2 hK2 => ?_) AllReadyH.nil
    go_simp
    go_at_call 10
    refine (callBase (C := wd1.heap.size) (w0 := wd1) (Below.refl _ _) (Nat.le_refl _) (HJ.out _ (M.b.trans (Below.mono (hbd1 : Below u.heap.size u _) M.b.size)))).mono ?_
    rintro e wd2 ⟨rfl, hbs2⟩
    have hbd2 := hbd1.trans (hbs2.mono hbd1.size)
    go_simp
    refine hK2.out _ _ ?_ (fun hHd2 => ?_)
    · exact (M.k.below hbd2)
    clear hK2 K2 hHd1
    try simp only [pu, sB, s0, sS]
    refine take_run 4 (some 13) (v := .bool true) rfl rfl (by kernel_rfl) (by kernel_rfl) (by kernel_rfl) (fun _ _ _ h => h) (by rfl) ?_ (by assumption) ?_
    · (intro W hSw; (try dsimp only at hSw); first | (go_simp; done) | (go_simp; with_reducible rfl) | (go_simp; simp_all))
    simp only [pu, sB, s0, sS]
    refine take_run 5 (some 14) (v := .bool true) rfl rfl (by kernel_rfl) (by kernel_rfl) (by kernel_rfl) (fun _ _ _ h => h) (by rfl) ?_ (by assumption) ?_
    · (intro W hSw; (try dsimp only at hSw); first | (go_simp; done) | (go_simp; with_reducible rfl) | (go_simp; simp_all))
    simp only [pu, sB, s0, sS]
    refine take_run 6 (some 15) (v := .pointer (some ⟨pB1, 1, none⟩)) rfl rfl (by kernel_rfl) (by kernel_rfl) (by kernel_rfl) (fun _ _ _ h => h) (by rfl) ?_ (by assumption) ?_
    · (intro W hSw; go_simp; (try rfl))
    simp only [pu, sB, s0, sS]
    refine take_loadV 7 (some 16) rfl rfl (by kernel_rfl) (by kernel_rfl) (by kernel_rfl) (fun _ _ _ h => h) (by rfl) (.tmp 15) rfl (b := pB1) (j := 1) (cs := (tG k n (cellsF f fs))) (v := .int .i64 n) (by rfl) (fun W h => h.at 0 rfl) tG_1 Tryz.underlying3 rfl (by assumption) ?_
    simp only [pu, sB, s0, sS]
    refine take_run 9 (some 18) (v := .pointer (some ⟨pB1, 1, none⟩)) rfl rfl (by kernel_rfl) (by kernel_rfl) (by kernel_rfl) (fun _ _ _ h => h) (by rfl) ?_ (by assumption) ?_
    · (intro W hSw; go_simp; (try rfl))
    simp only [pu, sB, s0, sS]
    refine take_loadV 10 (some 19) rfl rfl (by kernel_rfl) (by kernel_rfl) (by kernel_rfl) (fun _ _ _ h => h) (by rfl) (.tmp 18) rfl (b := pB1) (j := 1) (cs := (tG k n (cellsF f fs))) (v := .int .i64 n) (by rfl) (fun W h => h.at 0 rfl) tG_1 Tryz.underlying3 rfl (by assumption) ?_
    simp only [pu, sB, s0, sS]
    refine wpAnyH_ready (rs := [8]) (by kernel_rfl) (by simp) ?_
    refine AllReadyH.cons rfl (fun K3 hK3 => ?_) AllReadyH.nil
    go_simp
    go_at_call 11
    refine (callBase (C := wd2.heap.size) (w0 := wd2) (Below.refl _ _) (Nat.le_refl _) (HW.out _ (M.b.trans (Below.mono (hbd2 : Below u.heap.size u _) M.b.size)))).mono ?_
    rintro e wd3 ⟨rfl, hbs3⟩
    have hbd3 := hbd2.trans (hbs3.mono hbd2.size)
    go_simp
    refine hK3.out _ _ ?_ (fun hHd3 => ?_)
    · exact (M.k.below hbd3)
    clear hK3 K3 hHd2
    try simp only [pu, sB, s0, sS]
    refine wpAnyH_ready (rs := [11]) (by kernel_rfl) (by simp) ?_
    refine AllReadyH.cons rfl (fun K4 hK4 => ?_) AllReadyH.nil
    go_simp
    go_at_call 12
    refine (callBase (C := wd3.heap.size) (w0 := wd3) (Below.refl _ _) (Nat.le_refl _) (HV.out _ (M.b.trans (Below.mono (hbd3 : Below u.heap.size u _) M.b.size)))).mono ?_
    rintro e wd4 ⟨rfl, hbs4⟩
    have hbd4 := hbd3.trans (hbs4.mono hbd3.size)
    go_simp
    refine hK4.out _ _ ?_ (fun hHd4 => ?_)
    · exact (M.k.below hbd4)
    clear hK4 K4 hHd3
    try simp only [pu, sB, s0, sS]
    refine take_run 12 (some 21) (v := .bool true) rfl rfl (by kernel_rfl) (by kernel_rfl) (by kernel_rfl) (fun _ _ _ h => h) (by rfl) ?_ (by assumption) ?_
    · (intro W hSw; (try dsimp only at hSw); first | (go_simp; done) | (go_simp; with_reducible rfl) | (go_simp; simp_all))
    simp only [pu, sB, s0, sS]
    refine take_run 13 (some 22) (v := .bool true) rfl rfl (by kernel_rfl) (by kernel_rfl) (by kernel_rfl) (fun _ _ _ h => h) (by rfl) ?_ (by assumption) ?_
    · (intro W hSw; (try dsimp only at hSw); first | (go_simp; done) | (go_simp; with_reducible rfl) | (go_simp; simp_all))
    simp only [pu, sB, s0, sS]
    refine take_run 14 (some 23) (v := .bool true) rfl rfl (by kernel_rfl) (by kernel_rfl) (by kernel_rfl) (fun _ _ _ h => h) (by rfl) ?_ (by assumption) ?_
    · (intro W hSw; (try dsimp only at hSw); first | (go_simp; done) | (go_simp; with_reducible rfl) | (go_simp; simp_all))
    simp only [pu, sB, s0, sS]
    refine take_loadS 15 (some 24) rfl rfl (by kernel_rfl) (by kernel_rfl) (by kernel_rfl) (fun _ _ _ h => h) (by rfl) (.tmp 1) rfl (b := pB1) (cs := (tG k n (cellsF f fs))) (by rfl) (fun W h => h.at 0 rfl) Tryz.underlying27 rfl (infoTTg18 (tG_sz (cellsF_size f fs))) (by assumption) ?_
    simp only [pu, sB, s0, sS]
    refine take_loadS 17 (some 26) rfl rfl (by kernel_rfl) (by kernel_rfl) (by kernel_rfl) (fun _ _ _ h => h) (by rfl) (.tmp 1) rfl (b := pB1) (cs := (tG k n (cellsF f fs))) (by rfl) (fun W h => h.at 0 rfl) Tryz.underlying27 rfl (infoTTg18 (tG_sz (cellsF_size f fs))) (by assumption) ?_
    simp only [pu, sB, s0, sS]
    refine wpAnyH_ready (rs := [16]) (by kernel_rfl) (by simp) ?_
    refine AllReadyH.cons rfl (fun K5 hK5 => ?_) AllReadyH.nil
    go_simp
    go_at_call 13
    refine (callBase (C := wd4.heap.size) (w0 := wd4) (Below.refl _ _) (Nat.le_refl _) (HT.out _ (M.b.trans (Below.mono (hbd4 : Below u.heap.size u _) M.b.size)))).mono ?_
    rintro e wd5 ⟨rfl, hbs5⟩
    have hbd5 := hbd4.trans (hbs5.mono hbd4.size)
    go_simp
    refine hK5.out _ _ ?_ (fun hHd5 => ?_)
    · exact (M.k.below hbd5)
    clear hK5 K5 hHd4
    try simp only [pu, sB, s0, sS]
    refine wpAnyH_ready (rs := [18]) (by kernel_rfl) (by simp) ?_
    refine AllReadyH.cons rfl (fun K6 hK6 => ?_) AllReadyH.nil
    go_simp
    go_at_call 14
    refine (callBase (C := wd5.heap.size) (w0 := wd5) (Below.refl _ _) (Nat.le_refl _) (HU.out _ (M.b.trans (Below.mono (hbd5 : Below u.heap.size u _) M.b.size)))).mono ?_
    rintro e wd6 ⟨rfl, hbs6⟩
    have hbd6 := hbd5.trans (hbs6.mono hbd5.size)
    go_simp
    refine hK6.out _ _ ?_ (fun hHd6 => ?_)
    · exact (M.k.below hbd6)
    clear hK6 K6 hHd5
    try simp only [pu, sB, s0, sS]
    refine take_run 19 (some 28) (v := .bool true) rfl rfl (by kernel_rfl) (by kernel_rfl) (by kernel_rfl) (fun _ _ _ h => h) (by rfl) ?_ (by assumption) ?_
    · (intro W hSw; (try dsimp only at hSw); first | (go_simp; done) | (go_simp; with_reducible rfl) | (go_simp; simp_all))
    simp only [pu, sB, s0, sS]
    refine take_run 20 (some 29) (v := .bool true) rfl rfl (by kernel_rfl) (by kernel_rfl) (by kernel_rfl) (fun _ _ _ h => h) (by rfl) ?_ (by assumption) ?_
    · (intro W hSw; (try dsimp only at hSw); first | (go_simp; done) | (go_simp; with_reducible rfl) | (go_simp; simp_all))
    simp only [pu, sB, s0, sS]
    refine take_run 21 (some 30) (v := .bool true) rfl rfl (by kernel_rfl) (by kernel_rfl) (by kernel_rfl) (fun _ _ _ h => h) (by rfl) ?_ (by assumption) ?_
    · (intro W hSw; (try dsimp only at hSw); first | (go_simp; done) | (go_simp; with_reducible rfl) | (go_simp; simp_all))
    simp only [pu, sB, s0, sS]
    refine wpAnyH_ready (rs := [22]) (by kernel_rfl) (by simp) ?_
    refine AllReadyH.cons rfl (fun K7 hK7 => ?_) AllReadyH.nil
    go_simp
    go_at_call 8
    refine (callBase (C := wd6.heap.size) (w0 := wd6) (Below.refl _ _) (Nat.le_refl _) (HL.out _ (M.b.trans (Below.mono (hbd6 : Below u.heap.size u _) M.b.size)))).mono ?_
    rintro e wd7 ⟨rfl, hbs7⟩
    have hbd7 := hbd6.trans (hbs7.mono hbd6.size)
    go_simp
    refine hK7.out _ _ ?_ (fun hHd7 => ?_)
    · exact (M.k.below hbd7)
    clear hK7 K7 hHd6
    try simp only [pu, sB, s0, sS]
    refine take_run 23 (some 32) (v := .bool true) rfl rfl (by kernel_rfl) (by kernel_rfl) (by kernel_rfl) (fun _ _ _ h => h) (by rfl) ?_ (by assumption) ?_
    · (intro W hSw; (try dsimp only at hSw); first | (go_simp; done) | (go_simp; with_reducible rfl) | (go_simp; simp_all))
    simp only [pu, sB, s0, sS]
    refine take_run 24 (some 2) (v := .bool true) rfl rfl (by kernel_rfl) (by kernel_rfl) (by kernel_rfl) (fun _ _ _ h => h) (by rfl) ?_ (by assumption) ?_
    · (intro W hSw; (try dsimp only at hSw); first | (go_simp; done) | (go_simp; with_reducible rfl) | (go_simp; simp_all))
    simp only [pu, sB, s0, sS]
    refine wpAnyH_done (by kernel_rfl) ?_ _
    replace M := M.call hbd7
    go_wp2_with fail
    go_ret
    exact ⟨rfl, M.b⟩
  | true =>
    go_upto_region 3 with fail
    refine wp_region_held_drew (S := (fun W : World => Kp [(pB1, (tG k n (cellsF f fs)), 27)] W)) (by kernel_rfl) ?_ (fun hHeld => ?_)
    · exact M.drew.k
    refine take_loadS 0 (some 9) rfl rfl (by kernel_rfl) (by kernel_rfl) (by kernel_rfl) (fun _ _ _ h => h) (by rfl) (.tmp 1) rfl (b := pB1) (cs := (tG k n (cellsF f fs))) (by rfl) (fun W h => h.at 0 rfl) Tryz.underlying27 rfl (infoTTg18 (tG_sz (cellsF_size f fs))) (by assumption) ?_
    simp only [pu, sB, s0, sS]
    refine take_loadS 2 (some 11) rfl rfl (by kernel_rfl) (by kernel_rfl) (by kernel_rfl) (fun _ _ _ h => h) (by rfl) (.tmp 1) rfl (b := pB1) (cs := (tG k n (cellsF f fs))) (by rfl) (fun W h => h.at 0 rfl) Tryz.underlying27 rfl (infoTTg18 (tG_sz (cellsF_size f fs))) (by assumption) ?_
    simp only [pu, sB, s0, sS]
    refine wpAnyH_ready (rs := [1]) (by kernel_rfl) (by simp) ?_
    refine AllReadyH.cons rfl (fun K1 hK1 => ?_) AllReadyH.nil
    go_simp
    go_at_call 9
    refine (callBase (C := u.heap.size) (w0 := u) (by go_grown) (Nat.le_refl _) (HI.out _ (M.b.trans (Below.mono ((by go_grown) : Below u.heap.size u _) M.b.size)))).mono ?_
    rintro e wd1 ⟨rfl, hbd1⟩
    go_simp
    refine hK1.out _ _ ?_ (fun hHd1 => ?_)
    · exact (M.k.below hbd1)
    clear hK1 K1 hHeld
    try simp only [pu, sB, s0, sS]
    refine wpAnyH_ready (rs := [3]) (by kernel_rfl) (by simp) ?_
    refine AllReadyH.cons rfl (fun K2 hK2 => ?_) AllReadyH.nil
    go_simp
    go_at_call 10
    refine (callBase (C := wd1.heap.size) (w0 := wd1) (Below.refl _ _) (Nat.le_refl _) (HJ.out _ (M.b.trans (Below.mono (hbd1 : Below u.heap.size u _) M.b.size)))).mono ?_
    rintro e wd2 ⟨rfl, hbs2⟩
    have hbd2 := hbd1.trans (hbs2.mono hbd1.size)
    go_simp
    refine hK2.out _ _ ?_ (fun hHd2 => ?_)
    · exact (M.k.below hbd2)
    clear hK2 K2 hHd1
    try simp only [pu, sB, s0, sS]
    refine take_run 4 (some 13) (v := .bool true) rfl rfl (by kernel_rfl) (by kernel_rfl) (by kernel_rfl) (fun _ _ _ h => h) (by rfl) ?_ (by assumption) ?_
    · (intro W hSw; (try dsimp only at hSw); first | (go_simp; done) | (go_simp; with_reducible rfl) | (go_simp; simp_all))
    simp only [pu, sB, s0, sS]
    refine take_run 5 (some 14) (v := .bool true) rfl rfl (by kernel_rfl) (by kernel_rfl) (by kernel_rfl) (fun _ _ _ h => h) (by rfl) ?_ (by assumption) ?_
    · (intro W hSw; (try dsimp only at hSw); first | (go_simp; done) | (go_simp; with_reducible rfl) | (go_simp; simp_all))
    simp only [pu, sB, s0, sS]
    refine take_run 6 (some 15) (v := .pointer (some ⟨pB1, 1, none⟩)) rfl rfl (by kernel_rfl) (by kernel_rfl) (by kernel_rfl) (fun _ _ _ h => h) (by rfl) ?_ (by assumption) ?_
    · (intro W hSw; go_simp; (try rfl))
    simp only [pu, sB, s0, sS]
    refine take_loadV 7 (some 16) rfl rfl (by kernel_rfl) (by kernel_rfl) (by kernel_rfl) (fun _ _ _ h => h) (by rfl) (.tmp 15) rfl (b := pB1) (j := 1) (cs := (tG k n (cellsF f fs))) (v := .int .i64 n) (by rfl) (fun W h => h.at 0 rfl) tG_1 Tryz.underlying3 rfl (by assumption) ?_
    simp only [pu, sB, s0, sS]
    refine take_run 9 (some 18) (v := .pointer (some ⟨pB1, 1, none⟩)) rfl rfl (by kernel_rfl) (by kernel_rfl) (by kernel_rfl) (fun _ _ _ h => h) (by rfl) ?_ (by assumption) ?_
    · (intro W hSw; go_simp; (try rfl))
    simp only [pu, sB, s0, sS]
    refine take_loadV 10 (some 19) rfl rfl (by kernel_rfl) (by kernel_rfl) (by kernel_rfl) (fun _ _ _ h => h) (by rfl) (.tmp 18) rfl (b := pB1) (j := 1) (cs := (tG k n (cellsF f fs))) (v := .int .i64 n) (by rfl) (fun W h => h.at 0 rfl) tG_1 Tryz.underlying3 rfl (by assumption) ?_
    simp only [pu, sB, s0, sS]
    refine wpAnyH_ready (rs := [8]) (by kernel_rfl) (by simp) ?_
    refine AllReadyH.cons rfl (fun K3 hK3 => ?_) AllReadyH.nil
    go_simp
    go_at_call 11
    refine (callBase (C := wd2.heap.size) (w0 := wd2) (Below.refl _ _) (Nat.le_refl _) (HW.out _ (M.b.trans (Below.mono (hbd2 : Below u.heap.size u _) M.b.size)))).mono ?_
    rintro e wd3 ⟨rfl, hbs3⟩
    have hbd3 := hbd2.trans (hbs3.mono hbd2.size)
    go_simp
    refine hK3.out _ _ ?_ (fun hHd3 => ?_)
    · exact (M.k.below hbd3)
    clear hK3 K3 hHd2
    try simp only [pu, sB, s0, sS]
    refine wpAnyH_ready (rs := [11]) (by kernel_rfl) (by simp) ?_
    refine AllReadyH.cons rfl (fun K4 hK4 => ?_) AllReadyH.nil
    go_simp
    go_at_call 12
    refine (callBase (C := wd3.heap.size) (w0 := wd3) (Below.refl _ _) (Nat.le_refl _) (HV.out _ (M.b.trans (Below.mono (hbd3 : Below u.heap.size u _) M.b.size)))).mono ?_
    rintro e wd4 ⟨rfl, hbs4⟩
    have hbd4 := hbd3.trans (hbs4.mono hbd3.size)
    go_simp
    refine hK4.out _ _ ?_ (fun hHd4 => ?_)
    · exact (M.k.below hbd4)
    clear hK4 K4 hHd3
    try simp only [pu, sB, s0, sS]
    refine take_run 12 (some 21) (v := .bool true) rfl rfl (by kernel_rfl) (by kernel_rfl) (by kernel_rfl) (fun _ _ _ h => h) (by rfl) ?_ (by assumption) ?_
    · (intro W hSw; (try dsimp only at hSw); first | (go_simp; done) | (go_simp; with_reducible rfl) | (go_simp; simp_all))
    simp only [pu, sB, s0, sS]
    refine take_run 13 (some 22) (v := .bool true) rfl rfl (by kernel_rfl) (by kernel_rfl) (by kernel_rfl) (fun _ _ _ h => h) (by rfl) ?_ (by assumption) ?_
    · (intro W hSw; (try dsimp only at hSw); first | (go_simp; done) | (go_simp; with_reducible rfl) | (go_simp; simp_all))
    simp only [pu, sB, s0, sS]
    refine take_run 14 (some 23) (v := .bool true) rfl rfl (by kernel_rfl) (by kernel_rfl) (by kernel_rfl) (fun _ _ _ h => h) (by rfl) ?_ (by assumption) ?_
    · (intro W hSw; (try dsimp only at hSw); first | (go_simp; done) | (go_simp; with_reducible rfl) | (go_simp; simp_all))
    simp only [pu, sB, s0, sS]
    refine take_loadS 15 (some 24) rfl rfl (by kernel_rfl) (by kernel_rfl) (by kernel_rfl) (fun _ _ _ h => h) (by rfl) (.tmp 1) rfl (b := pB1) (cs := (tG k n (cellsF f fs))) (by rfl) (fun W h => h.at 0 rfl) Tryz.underlying27 rfl (infoTTg18 (tG_sz (cellsF_size f fs))) (by assumption) ?_
    simp only [pu, sB, s0, sS]
    refine take_loadS 17 (some 26) rfl rfl (by kernel_rfl) (by kernel_rfl) (by kernel_rfl) (fun _ _ _ h => h) (by rfl) (.tmp 1) rfl (b := pB1) (cs := (tG k n (cellsF f fs))) (by rfl) (fun W h => h.at 0 rfl) Tryz.underlying27 rfl (infoTTg18 (tG_sz (cellsF_size f fs))) (by assumption) ?_
    simp only [pu, sB, s0, sS]
    refine wpAnyH_ready (rs := [16]) (by kernel_rfl) (by simp) ?_
    refine AllReadyH.cons rfl (fun K5 hK5 => ?_) AllReadyH.nil
    go_simp
    go_at_call 13
    refine (callBase (C := wd4.heap.size) (w0 := wd4) (Below.refl _ _) (Nat.le_refl _) (HT.out _ (M.b.trans (Below.mono (hbd4 : Below u.heap.size u _) M.b.size)))).mono ?_
    rintro e wd5 ⟨rfl, hbs5⟩
    have hbd5 := hbd4.trans (hbs5.mono hbd4.size)
    go_simp
    refine hK5.out _ _ ?_ (fun hHd5 => ?_)
    · exact (M.k.below hbd5)
    clear hK5 K5 hHd4
    try simp only [pu, sB, s0, sS]
    refine wpAnyH_ready (rs := [18]) (by kernel_rfl) (by simp) ?_
    refine AllReadyH.cons rfl (fun K6 hK6 => ?_) AllReadyH.nil
    go_simp
    go_at_call 14
    refine (callBase (C := wd5.heap.size) (w0 := wd5) (Below.refl _ _) (Nat.le_refl _) (HU.out _ (M.b.trans (Below.mono (hbd5 : Below u.heap.size u _) M.b.size)))).mono ?_
    rintro e wd6 ⟨rfl, hbs6⟩
    have hbd6 := hbd5.trans (hbs6.mono hbd5.size)
    go_simp
    refine hK6.out _ _ ?_ (fun hHd6 => ?_)
    · exact (M.k.below hbd6)
    clear hK6 K6 hHd5
    try simp only [pu, sB, s0, sS]
    refine take_run 19 (some 28) (v := .bool true) rfl rfl (by kernel_rfl) (by kernel_rfl) (by kernel_rfl) (fun _ _ _ h => h) (by rfl) ?_ (by assumption) ?_
    · (intro W hSw; (try dsimp only at hSw); first | (go_simp; done) | (go_simp; with_reducible rfl) | (go_simp; simp_all))
    simp only [pu, sB, s0, sS]
    refine take_run 20 (some 29) (v := .bool true) rfl rfl (by kernel_rfl) (by kernel_rfl) (by kernel_rfl) (fun _ _ _ h => h) (by rfl) ?_ (by assumption) ?_
    · (intro W hSw; (try dsimp only at hSw); first | (go_simp; done) | (go_simp; with_reducible rfl) | (go_simp; simp_all))
    simp only [pu, sB, s0, sS]
    refine take_run 21 (some 30) (v := .bool true) rfl rfl (by kernel_rfl) (by kernel_rfl) (by kernel_rfl) (fun _ _ _ h => h) (by rfl) ?_ (by assumption) ?_
    · (intro W hSw; (try dsimp only at hSw); first | (go_simp; done) | (go_simp; with_reducible rfl) | (go_simp; simp_all))
    simp only [pu, sB, s0, sS]
    refine wpAnyH_ready (rs := [22]) (by kernel_rfl) (by simp) ?_
    refine AllReadyH.cons rfl (fun K7 hK7 => ?_) AllReadyH.nil
    go_simp
    go_at_call 8
    refine (callBase (C := wd6.heap.size) (w0 := wd6) (Below.refl _ _) (Nat.le_refl _) (HL.out _ (M.b.trans (Below.mono (hbd6 : Below u.heap.size u _) M.b.size)))).mono ?_
    rintro e wd7 ⟨rfl, hbs7⟩
    have hbd7 := hbd6.trans (hbs7.mono hbd6.size)
    go_simp
    refine hK7.out _ _ ?_ (fun hHd7 => ?_)
    · exact (M.k.below hbd7)
    clear hK7 K7 hHd6
    try simp only [pu, sB, s0, sS]
    refine take_run 23 (some 32) (v := .bool true) rfl rfl (by kernel_rfl) (by kernel_rfl) (by kernel_rfl) (fun _ _ _ h => h) (by rfl) ?_ (by assumption) ?_
    · (intro W hSw; (try dsimp only at hSw); first | (go_simp; done) | (go_simp; with_reducible rfl) | (go_simp; simp_all))
    simp only [pu, sB, s0, sS]
    refine take_run 24 (some 2) (v := .bool true) rfl rfl (by kernel_rfl) (by kernel_rfl) (by kernel_rfl) (fun _ _ _ h => h) (by rfl) ?_ (by assumption) ?_
    · (intro W hSw; (try dsimp only at hSw); first | (go_simp; done) | (go_simp; with_reducible rfl) | (go_simp; simp_all))
    simp only [pu, sB, s0, sS]
    refine wpAnyH_done (by kernel_rfl) ?_ _
    replace M := M.call hbd7
    go_wp2_with fail
    go_ret
    exact ⟨rfl, M.b⟩
end Go.Proofs.YtfliogahkfimbaaGreatDoor
namespace Go.Proofs.YtfliogahkfimbaaGreatDoor
open Go.RowKit
open Wd (Bs)

set_option maxHeartbeats 8000000 in
set_option maxRecDepth 100000 in
theorem whoN1T (k n : Int) (s x : ByteArray) (w : World)
    (HL : Hid (∀ W, Below w.heap.size w W → Calls Tryz.prog 8 #[] W fun e w' => e = .returned (.bool true) ∧ Below W.heap.size W w')) (HT : Hid (∀ W, Below w.heap.size w W → Calls Tryz.prog 13 #[.agg (tG k n cellsZ)] W fun e w' => e = .returned (.string s) ∧ Below W.heap.size W w')) (HW : Hid (∀ W, Below w.heap.size w W → Calls Tryz.prog 11 #[.int .i64 n] W fun e w' => e = .returned (.string x) ∧ Below W.heap.size W w')) (hd0 : (k == 8) = false) (hd1 : (k == 12) = false) :
    Calls Tryz.prog 7 #[.int .i64 k, .int .i64 n] w fun e w' => e = .returned (.bool true) ∧ Below w.heap.size w w' := by

  have M := Mm.nil w
  go_enter Tryz.func7, Tryz.ntmps7
  go_upto_region 0 with fail
  refine wp_region_lit ?_
  with_reducible refine rA ?_
  go_upto_region 1 with fail
  refine wp_region_lit ?_
  iterate 2 (with_reducible refine rA ?_)
  (with_reducible refine rB (.agg (tG k n cellsZ)) ?_ ?_); (· refine run_buildOp _ [(0, .int .i64 k), (1, .int .i64 n)] rfl ?_ (builtT_kn k n); rfl)
  with_reducible refine wC M (HT.out _ M.b) ?_; clear M; intro u M
  with_reducible refine rA ?_
  go_upto_region 2 with fail
  refine wp_region_lit ?_
  with_reducible refine rA ?_
  with_reducible refine wC M (HW.out _ M.b) ?_; clear M; intro u M
  with_reducible refine rA ?_
  go_upto_region 3 with fail
  refine wp_region_lit ?_
  with_reducible refine rA ?_
  (with_reducible refine rB (.bool true) ?_ ?_); (· first | (go_simp; done) | (go_simp; with_reducible rfl) | (go_simp; simp_all))
  iterate 2 (with_reducible refine rA ?_)
  (with_reducible refine rB (.bool true) ?_ ?_); (· first | (go_simp; done) | (go_simp; with_reducible rfl) | (go_simp; simp_all))
  iterate 2 (with_reducible refine rA ?_)
  iterate 2 (with_reducible refine kA ?_)
  with_reducible refine rA ?_
  go_upto_region 4 with fail
  refine wp_region_lit ?_
  with_reducible refine wC M (HL.out _ M.b) ?_; clear M; intro u M
  with_reducible refine rA ?_
  go_wp2_with fail
  go_ret
  exact ⟨rfl, M.b⟩

set_option maxHeartbeats 8000000 in
set_option maxRecDepth 100000 in
theorem whoN2T (k n : Int) (s x : ByteArray) (w : World)
    (HL : Hid (∀ W, Below w.heap.size w W → Calls Tryz.prog 8 #[] W fun e w' => e = .returned (.bool true) ∧ Below W.heap.size W w')) (HT : Hid (∀ W, Below w.heap.size w W → Calls Tryz.prog 13 #[.agg (tG k n cellsZ)] W fun e w' => e = .returned (.string s) ∧ Below W.heap.size W w')) (HW : Hid (∀ W, Below w.heap.size w W → Calls Tryz.prog 11 #[.int .i64 n] W fun e w' => e = .returned (.string x) ∧ Below W.heap.size W w')) (hd0 : (k == 8) = true) (hd1 : x.toList.isEmpty = true) :
    Calls Tryz.prog 7 #[.int .i64 k, .int .i64 n] w fun e w' => e = .returned (.bool true) ∧ Below w.heap.size w w' := by

  have M := Mm.nil w
  go_enter Tryz.func7, Tryz.ntmps7
  go_upto_region 0 with fail
  refine wp_region_lit ?_
  with_reducible refine rA ?_
  go_upto_region 1 with fail
  refine wp_region_lit ?_
  iterate 2 (with_reducible refine rA ?_)
  (with_reducible refine rB (.agg (tG k n cellsZ)) ?_ ?_); (· refine run_buildOp _ [(0, .int .i64 k), (1, .int .i64 n)] rfl ?_ (builtT_kn k n); rfl)
  with_reducible refine wC M (HT.out _ M.b) ?_; clear M; intro u M
  with_reducible refine rA ?_
  go_upto_region 2 with fail
  refine wp_region_lit ?_
  with_reducible refine rA ?_
  with_reducible refine wC M (HW.out _ M.b) ?_; clear M; intro u M
  with_reducible refine rA ?_
  go_upto_region 3 with fail
  refine wp_region_lit ?_
  with_reducible refine rA ?_
  (with_reducible refine rB (.bool false) ?_ ?_); (· first | (go_simp; done) | (go_simp; with_reducible rfl) | (go_simp; simp_all))
  with_reducible refine rA ?_
  iterate 2 (with_reducible refine kA ?_)
  iterate 5 (with_reducible refine rA ?_)
  go_upto_region 4 with fail
  refine wp_region_lit ?_
  with_reducible refine wC M (HL.out _ M.b) ?_; clear M; intro u M
  with_reducible refine rA ?_
  go_wp2_with fail
  go_ret
  exact ⟨rfl, M.b⟩

set_option maxHeartbeats 8000000 in
set_option maxRecDepth 100000 in
theorem whoN3T (k n : Int) (s x : ByteArray) (w : World)
    (HL : Hid (∀ W, Below w.heap.size w W → Calls Tryz.prog 8 #[] W fun e w' => e = .returned (.bool true) ∧ Below W.heap.size W w')) (HT : Hid (∀ W, Below w.heap.size w W → Calls Tryz.prog 13 #[.agg (tG k n cellsZ)] W fun e w' => e = .returned (.string s) ∧ Below W.heap.size W w')) (HW : Hid (∀ W, Below w.heap.size w W → Calls Tryz.prog 11 #[.int .i64 n] W fun e w' => e = .returned (.string x) ∧ Below W.heap.size W w')) (hd1 : (k == 12) = true) (hd2 : x.toList.isEmpty = true) :
    Calls Tryz.prog 7 #[.int .i64 k, .int .i64 n] w fun e w' => e = .returned (.bool true) ∧ Below w.heap.size w w' := by

  have M := Mm.nil w
  go_enter Tryz.func7, Tryz.ntmps7
  go_upto_region 0 with fail
  refine wp_region_lit ?_
  with_reducible refine rA ?_
  go_upto_region 1 with fail
  refine wp_region_lit ?_
  iterate 2 (with_reducible refine rA ?_)
  (with_reducible refine rB (.agg (tG k n cellsZ)) ?_ ?_); (· refine run_buildOp _ [(0, .int .i64 k), (1, .int .i64 n)] rfl ?_ (builtT_kn k n); rfl)
  with_reducible refine wC M (HT.out _ M.b) ?_; clear M; intro u M
  with_reducible refine rA ?_
  go_upto_region 2 with fail
  refine wp_region_lit ?_
  with_reducible refine rA ?_
  with_reducible refine wC M (HW.out _ M.b) ?_; clear M; intro u M
  with_reducible refine rA ?_
  go_upto_region 3 with fail
  refine wp_region_lit ?_
  with_reducible refine rA ?_
  (with_reducible refine rB (.bool true) ?_ ?_); (· first | (go_simp; done) | (go_simp; with_reducible rfl) | (go_simp; simp_all))
  iterate 2 (with_reducible refine rA ?_)
  (with_reducible refine rB (.bool false) ?_ ?_); (· first | (go_simp; done) | (go_simp; with_reducible rfl) | (go_simp; simp_all))
  iterate 5 (with_reducible refine rA ?_)
  go_upto_region 4 with fail
  refine wp_region_lit ?_
  with_reducible refine wC M (HL.out _ M.b) ?_; clear M; intro u M
  with_reducible refine rA ?_
  go_wp2_with fail
  go_ret
  exact ⟨rfl, M.b⟩

set_option maxHeartbeats 8000000 in
set_option maxRecDepth 100000 in
theorem whoY1T (k n : Int) (s x : ByteArray) (w : World)
    (HL : Hid (∀ W, Below w.heap.size w W → Calls Tryz.prog 8 #[] W fun e w' => e = .returned (.bool true) ∧ Below W.heap.size W w')) (HT : Hid (∀ W, Below w.heap.size w W → Calls Tryz.prog 13 #[.agg (tG k n cellsZ)] W fun e w' => e = .returned (.string s) ∧ Below W.heap.size W w')) (HW : Hid (∀ W, Below w.heap.size w W → Calls Tryz.prog 11 #[.int .i64 n] W fun e w' => e = .returned (.string x) ∧ Below W.heap.size W w')) (hd0 : (k == 8) = true) (hd1 : x.toList.isEmpty = false) (hsz : ((s.size : Int) == (6 + (x.size : Int))) = true) (hx9 : x.size ≤ 9) (h5 : (5 : Int) ≤ (s.size : Int)) (hb5 : ((s.extract 5 s.size).toList == (⟨#[32]⟩ ++ x).toList) = true) :
    Calls Tryz.prog 7 #[.int .i64 k, .int .i64 n] w fun e w' => e = .returned (.bool true) ∧ Below w.heap.size w w' := by

  have M := Mm.nil w
  go_enter Tryz.func7, Tryz.ntmps7
  go_upto_region 0 with fail
  refine wp_region_lit ?_
  with_reducible refine rA ?_
  go_upto_region 1 with fail
  refine wp_region_lit ?_
  iterate 2 (with_reducible refine rA ?_)
  (with_reducible refine rB (.agg (tG k n cellsZ)) ?_ ?_); (· refine run_buildOp _ [(0, .int .i64 k), (1, .int .i64 n)] rfl ?_ (builtT_kn k n); rfl)
  with_reducible refine wC M (HT.out _ M.b) ?_; clear M; intro u M
  with_reducible refine rA ?_
  go_upto_region 2 with fail
  refine wp_region_lit ?_
  with_reducible refine rA ?_
  with_reducible refine wC M (HW.out _ M.b) ?_; clear M; intro u M
  with_reducible refine rA ?_
  go_upto_region 3 with fail
  refine wp_region_lit ?_
  with_reducible refine rA ?_
  (with_reducible refine rB (.bool false) ?_ ?_); (· first | (go_simp; done) | (go_simp; with_reducible rfl) | (go_simp; simp_all))
  with_reducible refine rA ?_
  iterate 2 (with_reducible refine kA ?_)
  iterate 5 (with_reducible refine rA ?_)
  go_upto_region 5 with fail
  refine wp_region_lit ?_
  iterate 4 (with_reducible refine rA ?_)
  (with_reducible refine rB (.int .i64 (6 + (x.size : Int))) ?_ ?_); (· go_simp; (try exact IntWalk.i64_in _ (by omega)))
  iterate 3 (with_reducible refine rA ?_)
  (with_reducible refine rB (.string (s.extract 5 s.size)) ?_ ?_); (· go_simp; (try with_reducible rfl))
  with_reducible refine rA ?_
  (with_reducible refine rB (.string (⟨#[32]⟩ ++ x)) ?_ ?_); (· go_simp; omega)
  iterate 3 (with_reducible refine rA ?_)
  with_reducible refine wC M (HL.out _ M.b) ?_; clear M; intro u M
  iterate 2 (with_reducible refine rA ?_)
  go_wp2_with fail
  go_ret
  exact ⟨rfl, M.b⟩

set_option maxHeartbeats 8000000 in
set_option maxRecDepth 100000 in
theorem whoY2T (k n : Int) (s x : ByteArray) (w : World)
    (HL : Hid (∀ W, Below w.heap.size w W → Calls Tryz.prog 8 #[] W fun e w' => e = .returned (.bool true) ∧ Below W.heap.size W w')) (HT : Hid (∀ W, Below w.heap.size w W → Calls Tryz.prog 13 #[.agg (tG k n cellsZ)] W fun e w' => e = .returned (.string s) ∧ Below W.heap.size W w')) (HW : Hid (∀ W, Below w.heap.size w W → Calls Tryz.prog 11 #[.int .i64 n] W fun e w' => e = .returned (.string x) ∧ Below W.heap.size W w')) (hd1 : (k == 12) = true) (hd2 : x.toList.isEmpty = false) (hsz : ((s.size : Int) == (6 + (x.size : Int))) = true) (hx9 : x.size ≤ 9) (h5 : (5 : Int) ≤ (s.size : Int)) (hb5 : ((s.extract 5 s.size).toList == (⟨#[32]⟩ ++ x).toList) = true) :
    Calls Tryz.prog 7 #[.int .i64 k, .int .i64 n] w fun e w' => e = .returned (.bool true) ∧ Below w.heap.size w w' := by

  have M := Mm.nil w
  go_enter Tryz.func7, Tryz.ntmps7
  go_upto_region 0 with fail
  refine wp_region_lit ?_
  with_reducible refine rA ?_
  go_upto_region 1 with fail
  refine wp_region_lit ?_
  iterate 2 (with_reducible refine rA ?_)
  (with_reducible refine rB (.agg (tG k n cellsZ)) ?_ ?_); (· refine run_buildOp _ [(0, .int .i64 k), (1, .int .i64 n)] rfl ?_ (builtT_kn k n); rfl)
  with_reducible refine wC M (HT.out _ M.b) ?_; clear M; intro u M
  with_reducible refine rA ?_
  go_upto_region 2 with fail
  refine wp_region_lit ?_
  with_reducible refine rA ?_
  with_reducible refine wC M (HW.out _ M.b) ?_; clear M; intro u M
  with_reducible refine rA ?_
  go_upto_region 3 with fail
  refine wp_region_lit ?_
  with_reducible refine rA ?_
  (with_reducible refine rB (.bool true) ?_ ?_); (· first | (go_simp; done) | (go_simp; with_reducible rfl) | (go_simp; simp_all))
  iterate 2 (with_reducible refine rA ?_)
  (with_reducible refine rB (.bool false) ?_ ?_); (· first | (go_simp; done) | (go_simp; with_reducible rfl) | (go_simp; simp_all))
  iterate 5 (with_reducible refine rA ?_)
  go_upto_region 5 with fail
  refine wp_region_lit ?_
  iterate 4 (with_reducible refine rA ?_)
  (with_reducible refine rB (.int .i64 (6 + (x.size : Int))) ?_ ?_); (· go_simp; (try exact IntWalk.i64_in _ (by omega)))
  iterate 3 (with_reducible refine rA ?_)
  (with_reducible refine rB (.string (s.extract 5 s.size)) ?_ ?_); (· go_simp; (try with_reducible rfl))
  with_reducible refine rA ?_
  (with_reducible refine rB (.string (⟨#[32]⟩ ++ x)) ?_ ?_); (· go_simp; omega)
  iterate 3 (with_reducible refine rA ?_)
  with_reducible refine wC M (HL.out _ M.b) ?_; clear M; intro u M
  iterate 2 (with_reducible refine rA ?_)
  go_wp2_with fail
  go_ret
  exact ⟨rfl, M.b⟩
end Go.Proofs.YtfliogahkfimbaaGreatDoor
namespace Go.Proofs.YtfliogahkfimbaaGreatDoor
open Go.RowKit
open Wd (Bs)

theorem lawTriggerText (k n : Int) (f : Fil.Flt) (fs : ByteArray) (hf : f.sub = fs.data.toList) (hs : fs.size ≤ maxLen) (w : World) (hE : Env w) :
    Calls Tryz.prog 3 #[.agg (tG k n (cellsF f fs))] w fun e w' => e = .returned (.bool true) ∧ Below w.heap.size w w' := by
  have HL : Hid (∀ W, Below w.heap.size w W → Calls Tryz.prog 8 #[] W fun e w' => e = .returned (.bool true) ∧ Below W.heap.size W w') := Lib.hid fun W hb => tgAlive W (hE.below hb)
  cases hl : decide (100 < (fs.size : Int)) with
  | true => exact txBigT k n f fs w HL hl
  | false =>
    exact txSmallT k n f fs (Tg.okB ⟨k, n, f⟩) ⟨(Tg.whoT n).toArray⟩ ⟨(Tg.textT ⟨k, n, f⟩).toArray⟩ w HL hl (Lib.hid fun W hb => tgIs k n f fs hf hs W (hE.below hb)) (Lib.hid fun W _ => refIs18 k n f fs hf hs W) (Lib.hid fun W _ => tgWho n W) (Lib.hid fun W _ => refWho18 n W) (Lib.hid fun W hb => tgText k n f fs hf hs W (hE.below hb)) (Lib.hid fun W _ => refText18 k n f fs hf hs W)
theorem who_plain {n : Int} (h : Tg.whoB n = true) : Tg.whoT n = Tg.whoL n.toNat ∧ 0 ≤ n ∧ n ≤ 2 := by
  unfold Tg.whoT
  rw [if_pos h]
  unfold Tg.whoB at h
  simp only [decide_eq_true_eq] at h
  exact ⟨rfl, h.1, h.2⟩
theorem text_who {k n : Int} (hk : k = 8 ∨ k = 12) (h : Tg.whoB n = true) : Tg.textT ⟨k, n, Fil.zero⟩ = Tg.headL k.toNat ++ 32 :: Tg.whoT n ∧ (Tg.headL k.toNat).length = 5 := by
  have hW : Tg.usesW k = true := by simp only [Tg.usesW, decide_eq_true_eq]; omega
  have hF : Tg.usesF k = false := by simp only [Tg.usesF, decide_eq_false_iff_not]; omega
  have hok : Tg.okB ⟨k, n, Fil.zero⟩ = true := by
    unfold Tg.okB
    simp only
    rw [hW, hF, h]
    rfl
  constructor
  · rw [Tg.textT_ok hok]
    unfold Tg.raw
    simp only
    rw [hW, hF]
    simp
  · rcases hk with rfl | rfl <;> rfl
theorem lawTriggerWho (k n : Int) (w : World) (hE : Env w) :
    Calls Tryz.prog 7 #[.int .i64 k, .int .i64 n] w fun e w' => e = .returned (.bool true) ∧ Below w.heap.size w w' := by
  have HL : Hid (∀ W, Below w.heap.size w W → Calls Tryz.prog 8 #[] W fun e w' => e = .returned (.bool true) ∧ Below W.heap.size W w') := Lib.hid fun W hb => tgAlive W (hE.below hb)
  obtain ⟨s, hs, es⟩ := exists_bytes (Tg.textT ⟨k, n, Fil.zero⟩)
  obtain ⟨x, hx, ex⟩ := exists_bytes (Tg.whoT n)
  have HT : Hid (∀ W, Below w.heap.size w W → Calls Tryz.prog 13 #[.agg (tG k n cellsZ)] W fun e w' => e = .returned (.string s) ∧ Below W.heap.size W w') := Lib.hid fun W hb => by
    have h := tgText k n Fil.zero ⟨#[]⟩ rfl (by decide) W (hE.below hb)
    rw [es] at h
    exact h
  have HW : Hid (∀ W, Below w.heap.size w W → Calls Tryz.prog 11 #[.int .i64 n] W fun e w' => e = .returned (.string x) ∧ Below W.heap.size W w') := Lib.hid fun W _ => by
    have h := tgWho n W
    rw [ex] at h
    exact h
  have hxe : x.toList.isEmpty = !Tg.whoB n := by rw [Lib.toList_data, hx]; exact Tg.whoT_nil n
  by_cases h8 : k = 8 ∨ k = 12
  · cases hw : Tg.whoB n with
    | false =>
      rw [hw] at hxe
      rcases h8 with rfl | rfl
      · exact whoN2T 8 n s x w HL HT HW (by decide) hxe
      · exact whoN3T 12 n s x w HL HT HW (by decide) hxe
    | true =>
      rw [hw] at hxe
      obtain ⟨ht, hl⟩ := text_who h8 hw
      have hsl : s.data.toList.length = s.size := Array.length_toList
      have hxl : x.data.toList.length = x.size := Array.length_toList
      have h9 := whoT_len n
      have hz : s.size = 6 + x.size := by
        rw [← hsl, hs, ht, List.length_append, hl, List.length_cons, ← hx, hxl]; omega
      have hE5 : ((s.extract 5 s.size).toList == (⟨#[32]⟩ ++ x).toList) = true := by
        rw [Lib.toList_data, Lib.toList_data, extract_drop, hs, ht]
        have hd : List.drop 5 (Tg.headL k.toNat ++ 32 :: Tg.whoT n) = 32 :: Tg.whoT n := by rw [← hl, List.drop_left]
        rw [hd, ← hx]
        simp
      have hx9 : x.size ≤ 9 := by rw [← hxl, hx]; exact h9
      rcases h8 with rfl | rfl
      · exact whoY1T 8 n s x w HL HT HW (by decide) hxe (by simp; omega) hx9 (by omega) hE5
      · exact whoY2T 12 n s x w HL HT HW (by decide) hxe (by simp; omega) hx9 (by omega) hE5
  · exact whoN1T k n s x w HL HT HW (by simp; omega) (by simp; omega)
end Go.Proofs.YtfliogahkfimbaaGreatDoor
