/-
  MERGED: ModLawT, ModTextL. By an AI agent.
-/
import Derived.Test.YthkkabdhmflhiaaGreatDoorModGG
import Derived.Deep.Cut
import Derived.Test.YthkkabdhmflhiaaGreatDoorModGF
namespace Go.Proofs.YthkkabdhmflhiaaGreatDoor
open Go.RowKit
open Wd (Bs)

set_option maxHeartbeats 8000000 in
set_option maxRecDepth 100000 in
theorem txtNo (k n m : Int) (s : ByteArray) (f : Fil.Flt) (fs : ByteArray) (w : World)
    (HL : Hid (∀ W, Below w.heap.size w W → Calls Tryz.prog 11 #[] W fun e w' => e = .returned (.bool true) ∧ Below W.heap.size W w')) (HS : Hid (∀ W, Below w.heap.size w W → Calls Tryz.prog 10 #[.agg (mO k n m s (cellsF f fs))] W fun e w' => e = .returned (.bool false) ∧ Below W.heap.size W w')) :
    Calls Tryz.prog 3 #[.agg (mO k n m s (cellsF f fs))] w fun e w' => e = .returned (.bool true) ∧ Below w.heap.size w w' := by

  have B0 := Lib.hid (Below.refl w.heap.size w)
  go_enter Tryz.func3, Tryz.ntmps3
  go_upto_region 0 with fail
  refine wp_region_lit ?_
  obtain ⟨w1, hw⟩ : ∃ v, v = w.alloc (.cells (mO k n m s (cellsF f fs)) 27) := ⟨_, rfl⟩
  obtain ⟨pA, hp⟩ : ∃ v, v = w.heap.size := ⟨_, rfl⟩
  have B1 : Hid (Below w.heap.size w w1) := Lib.hid (by rw [hw]; exact B0.out.alloc B0.out.size _)
  have LEA : Hid (w.heap.size ≤ pA) := Lib.hid (by rw [hp]; exact B0.out.size)
  have KA1 : Hid (Blk w1 pA (mO k n m s (cellsF f fs)) 27) := Lib.hid (by rw [hw, hp]; exact Blk.new _ _ _)
  with_reducible refine wpList_runWV (some 1) (v := .pointer (some ⟨pA, 0, none⟩)) (w' := w1) ?_ ?_ ?_ ?_
  · rfl
  · rfl
  · rw [hw, hp]; (go_simp; (try rfl))
  simp only [pu, sB, s0, sS]
  clear hw hp
  clear B0
  (with_reducible refine rN (v := .bool false) ?_ ?_ ?_); (· rfl); (· go_simp; (try with_reducible rfl)); simp only [pu, sB, s0, sS]
  go_upto_region 1 with fail
  refine wp_region_lit ?_
  with_reducible refine wpList_loadS (.tmp 1) ?_ ?_ KA1.out Tryz.underlying27 ?_ (infoTMo20 (mO_sz (cellsF_size f fs))) ?_
  · rfl
  · rfl
  · rfl
  simp only [pu, sB, s0, sS]
  go_wp2_with fail
  refine (HS.out _ B1.out).mono ?_
  rintro e w2 ⟨rfl, hb⟩
  have B2 := Lib.hid (B1.out.trans (hb.mono B1.out.size))
  have KA2 := Lib.hid (KA1.out.below hb KA1.out.lt)
  clear hb
  clear B1 KA1
  go_simp
  rename_i hKK
  refine hKK _ _ ?_
  clear hKK
  try simp only [pu, sB, s0, sS]
  (with_reducible refine rN (v := .bool true) ?_ ?_ ?_); (· rfl); (· go_simp; (try with_reducible rfl)); simp only [pu, sB, s0, sS]
  go_upto_region 2 with fail
  refine wp_region_lit ?_
  go_wp2_with fail
  refine (HL.out _ B2.out).mono ?_
  rintro e w3 ⟨rfl, hb⟩
  have B3 := Lib.hid (B2.out.trans (hb.mono B2.out.size))
  have KA3 := Lib.hid (KA2.out.below hb KA2.out.lt)
  clear hb
  clear B2 KA2
  go_simp
  rename_i hKK
  refine hKK _ _ ?_
  clear hKK
  try simp only [pu, sB, s0, sS]
  (with_reducible refine rN (v := .bool true) ?_ ?_ ?_); (· rfl); (· go_simp; (try with_reducible rfl)); simp only [pu, sB, s0, sS]
  go_wp2_with fail
  go_ret
  exact ⟨rfl, B3.out⟩

set_option maxHeartbeats 8000000 in
set_option maxRecDepth 100000 in
theorem txtYes (k n m : Int) (s : ByteArray) (f : Fil.Flt) (fs : ByteArray) (v : Bool) (t : ByteArray) (z : Int) (w : World)
    (HL : Hid (∀ W, Below w.heap.size w W → Calls Tryz.prog 11 #[] W fun e w' => e = .returned (.bool true) ∧ Below W.heap.size W w')) (HS : Hid (∀ W, Below w.heap.size w W → Calls Tryz.prog 10 #[.agg (mO k n m s (cellsF f fs))] W fun e w' => e = .returned (.bool true) ∧ Below W.heap.size W w')) (H1 : Hid (∀ W, Below w.heap.size w W → Calls Tryz.prog 12 #[.agg (mO k n m s (cellsF f fs))] W fun e w' => e = .returned (.bool v) ∧ Below W.heap.size W w')) (H2 : Hid (∀ W, Below w.heap.size w W → Calls Tryz.prog 13 #[.agg (mO k n m s (cellsF f fs))] W fun e w' => e = .returned (.bool v) ∧ Below W.heap.size W w')) (H3 : Hid (∀ W, Below w.heap.size w W → Calls Tryz.prog 14 #[.agg (mO k n m s (cellsF f fs))] W fun e w' => e = .returned (.string t) ∧ Below W.heap.size W w')) (H4 : Hid (∀ W, Below w.heap.size w W → Calls Tryz.prog 15 #[.agg (mO k n m s (cellsF f fs))] W fun e w' => e = .returned (.string t) ∧ Below W.heap.size W w')) (H5 : Hid (∀ W, Below w.heap.size w W → Calls Tryz.prog 16 #[.int .i64 k] W fun e w' => e = .returned (.int .i64 z) ∧ Below W.heap.size W w')) (H6 : Hid (∀ W, Below w.heap.size w W → Calls Tryz.prog 17 #[.int .i64 k] W fun e w' => e = .returned (.int .i64 z) ∧ Below W.heap.size W w')) :
    Calls Tryz.prog 3 #[.agg (mO k n m s (cellsF f fs))] w fun e w' => e = .returned (.bool true) ∧ Below w.heap.size w w' := by

  have B0 := Lib.hid (Below.refl w.heap.size w)
  go_enter Tryz.func3, Tryz.ntmps3
  go_upto_region 0 with fail
  refine wp_region_lit ?_
  obtain ⟨w1, hw⟩ : ∃ v, v = w.alloc (.cells (mO k n m s (cellsF f fs)) 27) := ⟨_, rfl⟩
  obtain ⟨pA, hp⟩ : ∃ v, v = w.heap.size := ⟨_, rfl⟩
  have B1 : Hid (Below w.heap.size w w1) := Lib.hid (by rw [hw]; exact B0.out.alloc B0.out.size _)
  have LEA : Hid (w.heap.size ≤ pA) := Lib.hid (by rw [hp]; exact B0.out.size)
  have KA1 : Hid (Blk w1 pA (mO k n m s (cellsF f fs)) 27) := Lib.hid (by rw [hw, hp]; exact Blk.new _ _ _)
  with_reducible refine wpList_runWV (some 1) (v := .pointer (some ⟨pA, 0, none⟩)) (w' := w1) ?_ ?_ ?_ ?_
  · rfl
  · rfl
  · rw [hw, hp]; (go_simp; (try rfl))
  simp only [pu, sB, s0, sS]
  clear hw hp
  clear B0
  (with_reducible refine rN (v := .bool false) ?_ ?_ ?_); (· rfl); (· go_simp; (try with_reducible rfl)); simp only [pu, sB, s0, sS]
  go_upto_region 1 with fail
  refine wp_region_lit ?_
  with_reducible refine wpList_loadS (.tmp 1) ?_ ?_ KA1.out Tryz.underlying27 ?_ (infoTMo20 (mO_sz (cellsF_size f fs))) ?_
  · rfl
  · rfl
  · rfl
  simp only [pu, sB, s0, sS]
  go_wp2_with fail
  refine (HS.out _ B1.out).mono ?_
  rintro e w2 ⟨rfl, hb⟩
  have B2 := Lib.hid (B1.out.trans (hb.mono B1.out.size))
  have KA2 := Lib.hid (KA1.out.below hb KA1.out.lt)
  clear hb
  clear B1 KA1
  go_simp
  rename_i hKK
  refine hKK _ _ ?_
  clear hKK
  try simp only [pu, sB, s0, sS]
  (with_reducible refine rN (v := .bool false) ?_ ?_ ?_); (· rfl); (· go_simp; (try with_reducible rfl)); simp only [pu, sB, s0, sS]
  have e0 : (v == v) = true := by simp
  have e1 : (t.toList == t.toList) = true := by simp
  have e2 : (z == z) = true := by simp
  go_upto_region 3 with fail
  refine wp_region_held_drew (S := (fun W : World => Blk W pA (mO k n m s (cellsF f fs)) 27)) (by kernel_rfl) ?_ (fun hHeld => ?_)
  · exact KA2.out.drew
  refine take_loadS 0 (some 7) rfl rfl (by kernel_rfl) (by kernel_rfl) (by kernel_rfl) (fun _ _ _ h => h) (by rfl) (.tmp 1) rfl (b := pA) (cs := (mO k n m s (cellsF f fs))) (by rfl) (fun W h => h) Tryz.underlying27 rfl (infoTMo20 (mO_sz (cellsF_size f fs))) (by assumption) ?_
  simp only [pu, sB, s0, sS]
  refine take_loadS 2 (some 9) rfl rfl (by kernel_rfl) (by kernel_rfl) (by kernel_rfl) (fun _ _ _ h => h) (by rfl) (.tmp 1) rfl (b := pA) (cs := (mO k n m s (cellsF f fs))) (by rfl) (fun W h => h) Tryz.underlying27 rfl (infoTMo20 (mO_sz (cellsF_size f fs))) (by assumption) ?_
  simp only [pu, sB, s0, sS]
  refine wpAnyH_ready (rs := [1]) (by kernel_rfl) (by simp) ?_
  refine AllReadyH.cons rfl (fun K1 hK1 => ?_) AllReadyH.nil
  go_simp
  go_at_call 12
  refine (callBase (C := w2.heap.size) (w0 := w2) (by go_grown) (Nat.le_refl _) (H1.out _ (B2.out.trans (Below.mono ((by go_grown) : Below w2.heap.size w2 _) B2.out.size)))).mono ?_
  rintro e wd1 ⟨rfl, hbd1⟩
  go_simp
  refine hK1.out _ _ ?_ (fun hHd1 => ?_)
  · exact KA2.out.below hbd1 KA2.out.lt
  clear hK1 K1 hHeld
  try simp only [pu, sB, s0, sS]
  refine wpAnyH_ready (rs := [3]) (by kernel_rfl) (by simp) ?_
  refine AllReadyH.cons rfl (fun K2 hK2 => ?_) AllReadyH.nil
  go_simp
  go_at_call 13
  refine (callBase (C := wd1.heap.size) (w0 := wd1) (Below.refl _ _) (Nat.le_refl _) (H2.out _ (B2.out.trans (Below.mono (hbd1 : Below w2.heap.size w2 _) B2.out.size)))).mono ?_
  rintro e wd2 ⟨rfl, hbs2⟩
  have hbd2 := hbd1.trans (hbs2.mono hbd1.size)
  go_simp
  refine hK2.out _ _ ?_ (fun hHd2 => ?_)
  · exact KA2.out.below hbd2 KA2.out.lt
  clear hK2 K2 hHd1
  try simp only [pu, sB, s0, sS]
  refine take_run 4 (some 11) (v := .bool true) rfl rfl (by kernel_rfl) (by kernel_rfl) (by kernel_rfl) (fun _ _ _ h => h) (by rfl) ?_ (by assumption) ?_
  · (intro W hSw; (try dsimp only at hSw); go_simp; (try with_reducible rfl))
  simp only [pu, sB, s0, sS]
  refine take_run 5 (some 12) (v := .bool true) rfl rfl (by kernel_rfl) (by kernel_rfl) (by kernel_rfl) (fun _ _ _ h => h) (by rfl) ?_ (by assumption) ?_
  · (intro W hSw; (try dsimp only at hSw); go_simp; (try with_reducible rfl))
  simp only [pu, sB, s0, sS]
  refine take_loadS 6 (some 13) rfl rfl (by kernel_rfl) (by kernel_rfl) (by kernel_rfl) (fun _ _ _ h => h) (by rfl) (.tmp 1) rfl (b := pA) (cs := (mO k n m s (cellsF f fs))) (by rfl) (fun W h => h) Tryz.underlying27 rfl (infoTMo20 (mO_sz (cellsF_size f fs))) (by assumption) ?_
  simp only [pu, sB, s0, sS]
  refine take_loadS 8 (some 15) rfl rfl (by kernel_rfl) (by kernel_rfl) (by kernel_rfl) (fun _ _ _ h => h) (by rfl) (.tmp 1) rfl (b := pA) (cs := (mO k n m s (cellsF f fs))) (by rfl) (fun W h => h) Tryz.underlying27 rfl (infoTMo20 (mO_sz (cellsF_size f fs))) (by assumption) ?_
  simp only [pu, sB, s0, sS]
  refine wpAnyH_ready (rs := [7]) (by kernel_rfl) (by simp) ?_
  refine AllReadyH.cons rfl (fun K3 hK3 => ?_) AllReadyH.nil
  go_simp
  go_at_call 14
  refine (callBase (C := wd2.heap.size) (w0 := wd2) (Below.refl _ _) (Nat.le_refl _) (H3.out _ (B2.out.trans (Below.mono (hbd2 : Below w2.heap.size w2 _) B2.out.size)))).mono ?_
  rintro e wd3 ⟨rfl, hbs3⟩
  have hbd3 := hbd2.trans (hbs3.mono hbd2.size)
  go_simp
  refine hK3.out _ _ ?_ (fun hHd3 => ?_)
  · exact KA2.out.below hbd3 KA2.out.lt
  clear hK3 K3 hHd2
  try simp only [pu, sB, s0, sS]
  refine wpAnyH_ready (rs := [9]) (by kernel_rfl) (by simp) ?_
  refine AllReadyH.cons rfl (fun K4 hK4 => ?_) AllReadyH.nil
  go_simp
  go_at_call 15
  refine (callBase (C := wd3.heap.size) (w0 := wd3) (Below.refl _ _) (Nat.le_refl _) (H4.out _ (B2.out.trans (Below.mono (hbd3 : Below w2.heap.size w2 _) B2.out.size)))).mono ?_
  rintro e wd4 ⟨rfl, hbs4⟩
  have hbd4 := hbd3.trans (hbs4.mono hbd3.size)
  go_simp
  refine hK4.out _ _ ?_ (fun hHd4 => ?_)
  · exact KA2.out.below hbd4 KA2.out.lt
  clear hK4 K4 hHd3
  try simp only [pu, sB, s0, sS]
  refine take_run 10 (some 17) (v := .bool true) rfl rfl (by kernel_rfl) (by kernel_rfl) (by kernel_rfl) (fun _ _ _ h => h) (by rfl) ?_ (by assumption) ?_
  · (intro W hSw; (try dsimp only at hSw); go_simp; (try with_reducible rfl))
  simp only [pu, sB, s0, sS]
  refine take_run 11 (some 18) (v := .bool true) rfl rfl (by kernel_rfl) (by kernel_rfl) (by kernel_rfl) (fun _ _ _ h => h) (by rfl) ?_ (by assumption) ?_
  · (intro W hSw; (try dsimp only at hSw); go_simp; (try with_reducible rfl))
  simp only [pu, sB, s0, sS]
  refine take_run 12 (some 19) (v := .bool true) rfl rfl (by kernel_rfl) (by kernel_rfl) (by kernel_rfl) (fun _ _ _ h => h) (by rfl) ?_ (by assumption) ?_
  · (intro W hSw; (try dsimp only at hSw); go_simp; (try with_reducible rfl))
  simp only [pu, sB, s0, sS]
  refine take_run 13 (some 20) (v := .pointer (some ⟨pA, 0, none⟩)) rfl rfl (by kernel_rfl) (by kernel_rfl) (by kernel_rfl) (fun _ _ _ h => h) (by rfl) ?_ (by assumption) ?_
  · (intro W hSw; go_simp; (try rfl))
  simp only [pu, sB, s0, sS]
  refine take_loadV 14 (some 21) rfl rfl (by kernel_rfl) (by kernel_rfl) (by kernel_rfl) (fun _ _ _ h => h) (by rfl) (.tmp 20) rfl (b := pA) (j := 0) (cs := (mO k n m s (cellsF f fs))) (v := .int .i64 k) (by rfl) (fun W h => h) mO_0 Tryz.underlying3 rfl (by assumption) ?_
  simp only [pu, sB, s0, sS]
  refine take_run 16 (some 23) (v := .pointer (some ⟨pA, 0, none⟩)) rfl rfl (by kernel_rfl) (by kernel_rfl) (by kernel_rfl) (fun _ _ _ h => h) (by rfl) ?_ (by assumption) ?_
  · (intro W hSw; go_simp; (try rfl))
  simp only [pu, sB, s0, sS]
  refine take_loadV 17 (some 24) rfl rfl (by kernel_rfl) (by kernel_rfl) (by kernel_rfl) (fun _ _ _ h => h) (by rfl) (.tmp 23) rfl (b := pA) (j := 0) (cs := (mO k n m s (cellsF f fs))) (v := .int .i64 k) (by rfl) (fun W h => h) mO_0 Tryz.underlying3 rfl (by assumption) ?_
  simp only [pu, sB, s0, sS]
  refine wpAnyH_ready (rs := [15]) (by kernel_rfl) (by simp) ?_
  refine AllReadyH.cons rfl (fun K5 hK5 => ?_) AllReadyH.nil
  go_simp
  go_at_call 16
  refine (callBase (C := wd4.heap.size) (w0 := wd4) (Below.refl _ _) (Nat.le_refl _) (H5.out _ (B2.out.trans (Below.mono (hbd4 : Below w2.heap.size w2 _) B2.out.size)))).mono ?_
  rintro e wd5 ⟨rfl, hbs5⟩
  have hbd5 := hbd4.trans (hbs5.mono hbd4.size)
  go_simp
  refine hK5.out _ _ ?_ (fun hHd5 => ?_)
  · exact KA2.out.below hbd5 KA2.out.lt
  clear hK5 K5 hHd4
  try simp only [pu, sB, s0, sS]
  refine wpAnyH_ready (rs := [18]) (by kernel_rfl) (by simp) ?_
  refine AllReadyH.cons rfl (fun K6 hK6 => ?_) AllReadyH.nil
  go_simp
  go_at_call 17
  refine (callBase (C := wd5.heap.size) (w0 := wd5) (Below.refl _ _) (Nat.le_refl _) (H6.out _ (B2.out.trans (Below.mono (hbd5 : Below w2.heap.size w2 _) B2.out.size)))).mono ?_
  rintro e wd6 ⟨rfl, hbs6⟩
  have hbd6 := hbd5.trans (hbs6.mono hbd5.size)
  go_simp
  refine hK6.out _ _ ?_ (fun hHd6 => ?_)
  · exact KA2.out.below hbd6 KA2.out.lt
  clear hK6 K6 hHd5
  try simp only [pu, sB, s0, sS]
  refine take_run 19 (some 26) (v := .bool true) rfl rfl (by kernel_rfl) (by kernel_rfl) (by kernel_rfl) (fun _ _ _ h => h) (by rfl) ?_ (by assumption) ?_
  · (intro W hSw; (try dsimp only at hSw); go_simp; (try with_reducible rfl))
  simp only [pu, sB, s0, sS]
  refine take_run 20 (some 27) (v := .bool true) rfl rfl (by kernel_rfl) (by kernel_rfl) (by kernel_rfl) (fun _ _ _ h => h) (by rfl) ?_ (by assumption) ?_
  · (intro W hSw; (try dsimp only at hSw); go_simp; (try with_reducible rfl))
  simp only [pu, sB, s0, sS]
  refine take_run 21 (some 28) (v := .bool true) rfl rfl (by kernel_rfl) (by kernel_rfl) (by kernel_rfl) (fun _ _ _ h => h) (by rfl) ?_ (by assumption) ?_
  · (intro W hSw; (try dsimp only at hSw); go_simp; (try with_reducible rfl))
  simp only [pu, sB, s0, sS]
  refine wpAnyH_ready (rs := [22]) (by kernel_rfl) (by simp) ?_
  refine AllReadyH.cons rfl (fun K7 hK7 => ?_) AllReadyH.nil
  go_simp
  go_at_call 11
  refine (callBase (C := wd6.heap.size) (w0 := wd6) (Below.refl _ _) (Nat.le_refl _) (HL.out _ (B2.out.trans (Below.mono (hbd6 : Below w2.heap.size w2 _) B2.out.size)))).mono ?_
  rintro e wd7 ⟨rfl, hbs7⟩
  have hbd7 := hbd6.trans (hbs7.mono hbd6.size)
  go_simp
  refine hK7.out _ _ ?_ (fun hHd7 => ?_)
  · exact KA2.out.below hbd7 KA2.out.lt
  clear hK7 K7 hHd6
  try simp only [pu, sB, s0, sS]
  refine take_run 23 (some 30) (v := .bool true) rfl rfl (by kernel_rfl) (by kernel_rfl) (by kernel_rfl) (fun _ _ _ h => h) (by rfl) ?_ (by assumption) ?_
  · (intro W hSw; (try dsimp only at hSw); go_simp; (try with_reducible rfl))
  simp only [pu, sB, s0, sS]
  refine take_run 24 (some 2) (v := .bool true) rfl rfl (by kernel_rfl) (by kernel_rfl) (by kernel_rfl) (fun _ _ _ h => h) (by rfl) ?_ (by assumption) ?_
  · (intro W hSw; (try dsimp only at hSw); go_simp; (try with_reducible rfl))
  simp only [pu, sB, s0, sS]
  refine wpAnyH_done (by kernel_rfl) ?_ _
  have B3 := Lib.hid (B2.out.trans (hbd7.mono B2.out.size))
  have KA3 := Lib.hid (KA2.out.below hbd7 KA2.out.lt)
  go_wp2_with fail
  go_ret
  exact ⟨rfl, B3.out⟩

theorem lawTextOf (k n m : Int) (s : ByteArray) (f : Fil.Flt) (fs : ByteArray) (hf : f.sub = fs.data.toList) (w : World) (hE : Env w)
    (HL : Hid (∀ W, Below w.heap.size w W → Calls Tryz.prog 11 #[] W fun e w' => e = .returned (.bool true) ∧ Below W.heap.size W w'))
    (HS : Hid (∀ W, Below w.heap.size w W → Calls Tryz.prog 10 #[.agg (mO k n m s (cellsF f fs))] W fun e w' => e = .returned (.bool (decide ((s.size : Int) ≤ 100) && decide ((fs.size : Int) ≤ 100))) ∧ Below W.heap.size W w')) :
    Calls Tryz.prog 3 #[.agg (mO k n m s (cellsF f fs))] w fun e w' => e = .returned (.bool true) ∧ Below w.heap.size w w' := by
  cases hsh : (decide ((s.size : Int) ≤ 100) && decide ((fs.size : Int) ≤ 100)) with
  | false => rw [hsh] at HS; exact txtNo k n m s f fs w HL HS
  | true =>
    rw [hsh] at HS
    simp only [Bool.and_eq_true, decide_eq_true_eq] at hsh
    have h1 : s.size ≤ maxLen := by unfold maxLen; omega
    have h2 : fs.size ≤ maxLen := by unfold maxLen; omega
    exact txtYes k n m s f fs _ ⟨(Mo.textM ⟨k, n, m, s.data.toList, f⟩).toArray⟩ (Mo.stageI k) w HL HS (Lib.hid fun W hb => modIs k n m s f fs hf h1 h2 W (hE.below hb)) (Lib.hid fun W _ => refIs15 k n m s f fs hf h1 h2 W)
      (Lib.hid fun W hb => modText k n m s f fs hf h1 h2 W (hE.below hb)) (Lib.hid fun W _ => refText15 k n m s f fs hf (by omega) h2 W) (Lib.hid fun W _ => same_below (modStage k W)) (Lib.hid fun W _ => same_below (refStage k W))
end Go.Proofs.YthkkabdhmflhiaaGreatDoor
namespace Go.Proofs.YthkkabdhmflhiaaGreatDoor
open Go.RowKit

theorem lawModText (k n m : Int) (s : ByteArray) (f : Fil.Flt) (fs : ByteArray) (hf : f.sub = fs.data.toList) (w : World) (hE : Env w) :
    Calls Tryz.prog 3 #[.agg (mO k n m s (cellsF f fs))] w fun e w' => e = .returned (.bool true) ∧ Below w.heap.size w w' :=
  lawTextOf k n m s f fs hf w hE (Lib.hid fun W hb => modAliveS W (hE.below hb)) (Lib.hid fun W _ => modShort k n m s f fs W)
end Go.Proofs.YthkkabdhmflhiaaGreatDoor
