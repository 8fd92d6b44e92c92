/-
  MERGED: RfLawB, RfLawS, RfLawsB. By an AI agent.
-/
import Derived.Test.YtbcgkeclmioeiaaGreatDoorRfGA
import Derived.Deep.Cut
import Derived.Test.YtbcgkeclmioeiaaGreatDoorRfGC
namespace Go.Proofs.YtbcgkeclmioeiaaGreatDoor
open Go.RowKit
open Wd (Bs)

set_option maxHeartbeats 8000000 in
set_option maxRecDepth 100000 in
theorem backLongR (k n : Int) (f : Fil.Flt) (fs : ByteArray) (s : ByteArray) (w : World)
    (HL : Hid (∀ W, Below w.heap.size w W → Calls Tryz.prog 13 #[] W fun e w' => e = .returned (.bool true) ∧ Below W.heap.size W w')) (hl : (600 : Int) < (s.size : Int)) :
    Calls Tryz.prog 6 #[.agg (rF k n (cellsF f fs)), .string s] w fun e w' => e = .returned (.bool true) ∧ Below w.heap.size w w' := by

  have B0 := Lib.hid (Below.refl w.heap.size w)
  go_enter Tryz.func6, Tryz.ntmps6
  go_upto_region 0 with fail
  refine wp_region_lit ?_
  obtain ⟨w1, hw⟩ : ∃ v, v = w.alloc (.cells (rF k n (cellsF f fs)) 27) := ⟨_, rfl⟩
  obtain ⟨pA, hp⟩ : ∃ v, v = w.heap.size := ⟨_, rfl⟩
  have B1 : Hid (Below w.heap.size w w1) := Lib.hid (by rw [hw]; exact B0.out.alloc B0.out.size _)
  have LEA : Hid (w.heap.size ≤ pA) := Lib.hid (by rw [hp]; exact B0.out.size)
  have KA1 : Hid (Blk w1 pA (rF k n (cellsF f fs)) 27) := Lib.hid (by rw [hw, hp]; exact Blk.new _ _ _)
  with_reducible refine wpList_runWV (some 2) (v := .pointer (some ⟨pA, 0, none⟩)) (w' := w1) ?_ ?_ ?_ ?_
  · rfl
  · rfl
  · rw [hw, hp]; (go_simp; (try rfl))
  simp only [pu, sB, s0, sS]
  clear hw hp
  clear B0
  (with_reducible refine rN (v := .bool false) ?_ ?_ ?_); (· rfl); (· go_simp; (try with_reducible rfl)); simp only [pu, sB, s0, sS]
  go_upto_region 1 with fail
  refine wp_region_lit ?_
  iterate 2 ((with_reducible refine rN (v := ?_) ?_ ?_ ?_); rotate_left; (· rfl); (· go_simp; (try with_reducible rfl)); simp only [pu, sB, s0, sS])
  (with_reducible refine rN (v := .bool true) ?_ ?_ ?_); (· rfl); (· go_simp; (try with_reducible rfl)); simp only [pu, sB, s0, sS]
  go_upto_region 2 with fail
  refine wp_region_lit ?_
  go_wp2_with fail
  refine (HL.out _ B1.out).mono ?_
  rintro e w2 ⟨rfl, hb⟩
  have B2 := Lib.hid (B1.out.trans (hb.mono B1.out.size))
  have KA2 := Lib.hid (KA1.out.below hb KA1.out.lt)
  clear hb
  clear B1 KA1
  go_simp
  rename_i hKK
  refine hKK _ _ ?_
  clear hKK
  try simp only [pu, sB, s0, sS]
  (with_reducible refine rN (v := ?_) ?_ ?_ ?_); rotate_left; (· rfl); (· go_simp; (try with_reducible rfl)); simp only [pu, sB, s0, sS]
  go_wp2_with fail
  go_ret
  exact ⟨rfl, B2.out⟩

set_option maxHeartbeats 8000000 in
set_option maxRecDepth 100000 in
theorem backPVR (k n : Int) (f : Fil.Flt) (fs : ByteArray) (s u : ByteArray) (k2 n2 : Int) (u2 : ByteArray) (g : Fil.Flt) (gs : ByteArray) (w : World)
    (HL : Hid (∀ W, Below w.heap.size w W → Calls Tryz.prog 13 #[] W fun e w' => e = .returned (.bool true) ∧ Below W.heap.size W w')) (hl : ¬ (600 : Int) < (s.size : Int)) (HT : Hid (∀ W, Below w.heap.size w W → Calls Tryz.prog 16 #[.agg (rF k n (cellsF f fs))] W fun e w' => e = .returned (.string u) ∧ Below W.heap.size W w')) (hu : u.toList.isEmpty = false) (HQ : Hid (∀ W, Below w.heap.size w W → Calls Tryz.prog 18 #[.string u] W fun e w' => e = .returned (.tuple #[.agg (rF k n (cellsF f fs)), .int .i64 0]) ∧ Below W.heap.size W w')) (HI : Hid (∀ W, Below w.heap.size w W → Calls Tryz.prog 14 #[.agg (rF k n (cellsF f fs)), .int .i64 4] W fun e w' => e = .returned (.bool true) ∧ Below W.heap.size W w')) (HP : Hid (∀ W, Below w.heap.size w W → Calls Tryz.prog 18 #[.string s] W fun e w' => e = .returned (.tuple #[.agg (rF k2 n2 (cellsF g gs)), .int .i64 0]) ∧ Below W.heap.size W w')) (hq : ∀ W : World, (Op.equalIn 10000 27 (.agg (rF k n (cellsF f fs))) (.agg (rF k n (cellsF f fs)))).run Tryz.prog W = .ok true W) (HI2 : Hid (∀ W, Below w.heap.size w W → Calls Tryz.prog 14 #[.agg (rF k2 n2 (cellsF g gs)), .int .i64 4] W fun e w' => e = .returned (.bool true) ∧ Below W.heap.size W w')) (HT2 : Hid (∀ W, Below w.heap.size w W → Calls Tryz.prog 16 #[.agg (rF k2 n2 (cellsF g gs))] W fun e w' => e = .returned (.string u2) ∧ Below W.heap.size W w')) (hu2 : (u2.toList == s.toList) = true) :
    Calls Tryz.prog 6 #[.agg (rF k n (cellsF f fs)), .string s] w fun e w' => e = .returned (.bool true) ∧ Below w.heap.size w w' := by

  have B0 := Lib.hid (Below.refl w.heap.size w)
  go_enter Tryz.func6, Tryz.ntmps6
  go_upto_region 0 with fail
  refine wp_region_lit ?_
  obtain ⟨w1, hw⟩ : ∃ v, v = w.alloc (.cells (rF k n (cellsF f fs)) 27) := ⟨_, rfl⟩
  obtain ⟨pA, hp⟩ : ∃ v, v = w.heap.size := ⟨_, rfl⟩
  have B1 : Hid (Below w.heap.size w w1) := Lib.hid (by rw [hw]; exact B0.out.alloc B0.out.size _)
  have LEA : Hid (w.heap.size ≤ pA) := Lib.hid (by rw [hp]; exact B0.out.size)
  have KA1 : Hid (Blk w1 pA (rF k n (cellsF f fs)) 27) := Lib.hid (by rw [hw, hp]; exact Blk.new _ _ _)
  with_reducible refine wpList_runWV (some 2) (v := .pointer (some ⟨pA, 0, none⟩)) (w' := w1) ?_ ?_ ?_ ?_
  · rfl
  · rfl
  · rw [hw, hp]; (go_simp; (try rfl))
  simp only [pu, sB, s0, sS]
  clear hw hp
  clear B0
  (with_reducible refine rN (v := .bool false) ?_ ?_ ?_); (· rfl); (· go_simp; (try with_reducible rfl)); simp only [pu, sB, s0, sS]
  go_upto_region 1 with fail
  refine wp_region_lit ?_
  iterate 2 ((with_reducible refine rN (v := ?_) ?_ ?_ ?_); rotate_left; (· rfl); (· go_simp; (try with_reducible rfl)); simp only [pu, sB, s0, sS])
  (with_reducible refine rN (v := .bool false) ?_ ?_ ?_); (· rfl); (· go_simp; (try with_reducible rfl)); simp only [pu, sB, s0, sS]
  go_upto_region 3 with fail
  refine wp_region_lit ?_
  with_reducible refine wpList_loadS (.tmp 2) ?_ ?_ KA1.out Tryz.underlying27 ?_ (infoTRf18 (rF_sz (cellsF_size f fs))) ?_
  · rfl
  · rfl
  · rfl
  simp only [pu, sB, s0, sS]
  go_wp2_with fail
  refine (HT.out _ B1.out).mono ?_
  rintro e w2 ⟨rfl, hb⟩
  have B2 := Lib.hid (B1.out.trans (hb.mono B1.out.size))
  have KA2 := Lib.hid (KA1.out.below hb KA1.out.lt)
  clear hb
  clear B1 KA1
  go_simp
  rename_i hKK
  refine hKK _ _ ?_
  clear hKK
  try simp only [pu, sB, s0, sS]
  (with_reducible refine rN (v := ?_) ?_ ?_ ?_); rotate_left; (· rfl); (· go_simp; (try with_reducible rfl)); simp only [pu, sB, s0, sS]
  go_upto_region 4 with fail
  refine wp_region_lit ?_
  (with_reducible refine rN (v := ?_) ?_ ?_ ?_); rotate_left; (· rfl); (· go_simp; (try with_reducible rfl)); simp only [pu, sB, s0, sS]
  go_wp2_with fail
  refine (HQ.out _ B2.out).mono ?_
  rintro e w3 ⟨rfl, hb⟩
  have B3 := Lib.hid (B2.out.trans (hb.mono B2.out.size))
  have KA3 := Lib.hid (KA2.out.below hb KA2.out.lt)
  clear hb
  clear B2 KA2
  go_simp
  rename_i hKK
  refine hKK _ _ ?_
  clear hKK
  try simp only [pu, sB, s0, sS]
  (with_reducible refine rN (v := ?_) ?_ ?_ ?_); rotate_left; (· rfl); (· go_simp; (try with_reducible rfl)); simp only [pu, sB, s0, sS]
  (with_reducible refine rN (v := .agg (rF k n (cellsF f fs))) ?_ ?_ ?_); (· rfl); (· go_simp; (try with_reducible rfl)); simp only [pu, sB, s0, sS]
  (with_reducible refine rN (v := ?_) ?_ ?_ ?_); rotate_left; (· rfl); (· go_simp; (try with_reducible rfl)); simp only [pu, sB, s0, sS]
  obtain ⟨w4, hw⟩ : ∃ v, v = w3.alloc (.cells (rF 0 0 cellsZ) 27) := ⟨_, rfl⟩
  obtain ⟨pB, hp⟩ : ∃ v, v = w3.heap.size := ⟨_, rfl⟩
  have B4 : Hid (Below w.heap.size w w4) := Lib.hid (by rw [hw]; exact B3.out.alloc B3.out.size _)
  have LEB : Hid (w.heap.size ≤ pB) := Lib.hid (by rw [hp]; exact B3.out.size)
  have KA4 := Lib.hid (show Blk w4 pA (rF k n (cellsF f fs)) 27 by rw [hw]; exact KA3.out.alloc _)
  have NEAB : Hid (pA ≠ pB) := Lib.hid (by rw [hp]; exact Nat.ne_of_lt KA3.out.lt)
  have NEBA : Hid (pB ≠ pA) := Lib.hid (Ne.symm NEAB.out)
  have KB4 : Hid (Blk w4 pB (rF 0 0 cellsZ) 27) := Lib.hid (by rw [hw, hp]; exact Blk.new _ _ _)
  with_reducible refine wpList_runWV (some 6) (v := .pointer (some ⟨pB, 0, none⟩)) (w' := w4) ?_ ?_ ?_ ?_
  · rfl
  · rfl
  · rw [hw, hp]; (go_simp; (try rfl))
  simp only [pu, sB, s0, sS]
  clear hw hp
  clear B3 KA3
  have KB5 := Lib.hid (KB4.out.stored (o := 0) (vs := (rF k n (cellsF f fs)).toList) (cs' := (rF k n (cellsF f fs))) (laid_all (rF_sz (cellsF_size f fs)) (rF_sz cellsZ_size)))
  have KA5 := Lib.hid (KA4.out.wholeElse ((rF k n (cellsF f fs)).toList) (o := 0) NEAB.out)
  have B5 := Lib.hid (below_whole ((rF k n (cellsF f fs)).toList) (o := 0) B4.out LEB.out)
  with_reducible refine wpList_storeM (.tmp 6) (.tmp 20) (o := 0) (vs := (rF k n (cellsF f fs))) ?_ ?_ KB4.out ?_ (infoTRf18 (rF_sz (cellsF_size f fs))) (rF_one (cellsF_one f fs)) ?_
  · rfl
  · rfl
  · exact (fit_2 (rF_sz cellsZ_size) (rF_sz (cellsF_size f fs)) (by decide))
  (try simp only [Act.put])
  generalize World.setCells _ _ _ _ = w5 at KA5 KB5 B5 ⊢
  clear B4 KA4 KB4
  (with_reducible refine rN (v := ?_) ?_ ?_ ?_); rotate_left; (· rfl); (· go_simp; (try with_reducible rfl)); simp only [pu, sB, s0, sS]
  go_upto_region 5 with fail
  refine wp_region_lit ?_
  with_reducible refine wpList_loadS (.tmp 2) ?_ ?_ KA5.out Tryz.underlying27 ?_ (infoTRf18 (rF_sz (cellsF_size f fs))) ?_
  · rfl
  · rfl
  · rfl
  simp only [pu, sB, s0, sS]
  go_wp2_with fail
  refine (HI.out _ B5.out).mono ?_
  rintro e w6 ⟨rfl, hb⟩
  have B6 := Lib.hid (B5.out.trans (hb.mono B5.out.size))
  have KA6 := Lib.hid (KA5.out.below hb KA5.out.lt)
  have KB6 := Lib.hid (KB5.out.below hb KB5.out.lt)
  clear hb
  clear B5 KA5 KB5
  go_simp
  rename_i hKK
  refine hKK _ _ ?_
  clear hKK
  try simp only [pu, sB, s0, sS]
  (with_reducible refine rN (v := .bool true) ?_ ?_ ?_); (· rfl); (· go_simp; (try with_reducible rfl)); simp only [pu, sB, s0, sS]
  go_upto_region 6 with fail
  refine wp_region_lit ?_
  (with_reducible refine rN (v := .bool true) ?_ ?_ ?_); (· rfl); (· go_simp; (try with_reducible rfl)); simp only [pu, sB, s0, sS]
  (with_reducible refine rN (v := ?_) ?_ ?_ ?_); rotate_left; (· rfl); (· go_simp; (try with_reducible rfl)); simp only [pu, sB, s0, sS]
  (with_reducible refine rN (v := .bool true) ?_ ?_ ?_); (· rfl); (· go_simp; (try with_reducible rfl)); simp only [pu, sB, s0, sS]
  iterate 2 ((with_reducible refine rN (v := .bool false) ?_ ?_ ?_); (· rfl); (· go_simp; (try with_reducible rfl)); simp only [pu, sB, s0, sS])
  iterate 2 ((with_reducible refine rN (v := .bool true) ?_ ?_ ?_); (· rfl); (· go_simp; (try with_reducible rfl)); simp only [pu, sB, s0, sS])
  (with_reducible refine rN (v := ?_) ?_ ?_ ?_); rotate_left; (· rfl); (· go_simp; (try with_reducible rfl)); simp only [pu, sB, s0, sS]
  iterate 2 ((with_reducible refine rN (v := .bool false) ?_ ?_ ?_); (· rfl); (· go_simp; (try with_reducible rfl)); simp only [pu, sB, s0, sS])
  with_reducible refine wpList_loadS (.tmp 6) ?_ ?_ KB6.out Tryz.underlying27 ?_ (infoTRf18 (rF_sz (cellsF_size f fs))) ?_
  · rfl
  · rfl
  · rfl
  simp only [pu, sB, s0, sS]
  with_reducible refine wpList_loadS (.tmp 2) ?_ ?_ KA6.out Tryz.underlying27 ?_ (infoTRf18 (rF_sz (cellsF_size f fs))) ?_
  · rfl
  · rfl
  · rfl
  simp only [pu, sB, s0, sS]
  iterate 4 ((with_reducible refine rN (v := .bool false) ?_ ?_ ?_); (· rfl); (· go_simp; (try with_reducible rfl)); simp only [pu, sB, s0, sS])
  go_upto_region 8 with fail
  refine wp_region_lit ?_
  (with_reducible refine rN (v := ?_) ?_ ?_ ?_); rotate_left; (· rfl); (· go_simp; (try with_reducible rfl)); simp only [pu, sB, s0, sS]
  go_wp2_with fail
  refine (HP.out _ B6.out).mono ?_
  rintro e w7 ⟨rfl, hb⟩
  have B7 := Lib.hid (B6.out.trans (hb.mono B6.out.size))
  have KA7 := Lib.hid (KA6.out.below hb KA6.out.lt)
  have KB7 := Lib.hid (KB6.out.below hb KB6.out.lt)
  clear hb
  clear B6 KA6 KB6
  go_simp
  rename_i hKK
  refine hKK _ _ ?_
  clear hKK
  try simp only [pu, sB, s0, sS]
  (with_reducible refine rN (v := ?_) ?_ ?_ ?_); rotate_left; (· rfl); (· go_simp; (try with_reducible rfl)); simp only [pu, sB, s0, sS]
  (with_reducible refine rN (v := .agg (rF k2 n2 (cellsF g gs))) ?_ ?_ ?_); (· rfl); (· go_simp; (try with_reducible rfl)); simp only [pu, sB, s0, sS]
  (with_reducible refine rN (v := ?_) ?_ ?_ ?_); rotate_left; (· rfl); (· go_simp; (try with_reducible rfl)); simp only [pu, sB, s0, sS]
  obtain ⟨w8, hw⟩ : ∃ v, v = w7.alloc (.cells (rF 0 0 cellsZ) 27) := ⟨_, rfl⟩
  obtain ⟨pD, hp⟩ : ∃ v, v = w7.heap.size := ⟨_, rfl⟩
  have B8 : Hid (Below w.heap.size w w8) := Lib.hid (by rw [hw]; exact B7.out.alloc B7.out.size _)
  have LED : Hid (w.heap.size ≤ pD) := Lib.hid (by rw [hp]; exact B7.out.size)
  have KA8 := Lib.hid (show Blk w8 pA (rF k n (cellsF f fs)) 27 by rw [hw]; exact KA7.out.alloc _)
  have NEAD : Hid (pA ≠ pD) := Lib.hid (by rw [hp]; exact Nat.ne_of_lt KA7.out.lt)
  have NEDA : Hid (pD ≠ pA) := Lib.hid (Ne.symm NEAD.out)
  have KB8 := Lib.hid (show Blk w8 pB (rF k n (cellsF f fs)) 27 by rw [hw]; exact KB7.out.alloc _)
  have NEBD : Hid (pB ≠ pD) := Lib.hid (by rw [hp]; exact Nat.ne_of_lt KB7.out.lt)
  have NEDB : Hid (pD ≠ pB) := Lib.hid (Ne.symm NEBD.out)
  have KD8 : Hid (Blk w8 pD (rF 0 0 cellsZ) 27) := Lib.hid (by rw [hw, hp]; exact Blk.new _ _ _)
  with_reducible refine wpList_runWV (some 9) (v := .pointer (some ⟨pD, 0, none⟩)) (w' := w8) ?_ ?_ ?_ ?_
  · rfl
  · rfl
  · rw [hw, hp]; (go_simp; (try rfl))
  simp only [pu, sB, s0, sS]
  clear hw hp
  clear B7 KA7 KB7
  have KD9 := Lib.hid (KD8.out.stored (o := 0) (vs := (rF k2 n2 (cellsF g gs)).toList) (cs' := (rF k2 n2 (cellsF g gs))) (laid_all (rF_sz (cellsF_size g gs)) (rF_sz cellsZ_size)))
  have KA9 := Lib.hid (KA8.out.wholeElse ((rF k2 n2 (cellsF g gs)).toList) (o := 0) NEAD.out)
  have KB9 := Lib.hid (KB8.out.wholeElse ((rF k2 n2 (cellsF g gs)).toList) (o := 0) NEBD.out)
  have B9 := Lib.hid (below_whole ((rF k2 n2 (cellsF g gs)).toList) (o := 0) B8.out LED.out)
  with_reducible refine wpList_storeM (.tmp 9) (.tmp 43) (o := 0) (vs := (rF k2 n2 (cellsF g gs))) ?_ ?_ KD8.out ?_ (infoTRf18 (rF_sz (cellsF_size g gs))) (rF_one (cellsF_one g gs)) ?_
  · rfl
  · rfl
  · exact (fit_2 (rF_sz cellsZ_size) (rF_sz (cellsF_size g gs)) (by decide))
  (try simp only [Act.put])
  generalize World.setCells _ _ _ _ = w9 at KA9 KB9 KD9 B9 ⊢
  clear B8 KA8 KB8 KD8
  (with_reducible refine rN (v := ?_) ?_ ?_ ?_); rotate_left; (· rfl); (· go_simp; (try with_reducible rfl)); simp only [pu, sB, s0, sS]
  go_upto_region 9 with fail
  refine wp_region_lit ?_
  go_wp2_with fail
  refine (HL.out _ B9.out).mono ?_
  rintro e w10 ⟨rfl, hb⟩
  have B10 := Lib.hid (B9.out.trans (hb.mono B9.out.size))
  have KA10 := Lib.hid (KA9.out.below hb KA9.out.lt)
  have KB10 := Lib.hid (KB9.out.below hb KB9.out.lt)
  have KD10 := Lib.hid (KD9.out.below hb KD9.out.lt)
  clear hb
  clear B9 KA9 KB9 KD9
  go_simp
  rename_i hKK
  refine hKK _ _ ?_
  clear hKK
  try simp only [pu, sB, s0, sS]
  (with_reducible refine rN (v := .bool true) ?_ ?_ ?_); (· rfl); (· go_simp; (try with_reducible rfl)); simp only [pu, sB, s0, sS]
  (with_reducible refine rN (v := ?_) ?_ ?_ ?_); rotate_left; (· rfl); (· go_simp; (try with_reducible rfl)); simp only [pu, sB, s0, sS]
  iterate 2 ((with_reducible refine rN (v := .bool false) ?_ ?_ ?_); (· rfl); (· go_simp; (try with_reducible rfl)); simp only [pu, sB, s0, sS])
  iterate 3 ((with_reducible refine kN ?_ ?_); (· rfl); simp only [pu, sB, s0, sS])
  iterate 2 ((with_reducible refine rN (v := .bool false) ?_ ?_ ?_); (· rfl); (· go_simp; (try with_reducible rfl)); simp only [pu, sB, s0, sS])
  (with_reducible refine rN (v := ?_) ?_ ?_ ?_); rotate_left; (· rfl); (· go_simp; (try with_reducible rfl)); simp only [pu, sB, s0, sS]
  iterate 2 ((with_reducible refine rN (v := .bool true) ?_ ?_ ?_); (· rfl); (· go_simp; (try with_reducible rfl)); simp only [pu, sB, s0, sS])
  with_reducible refine wpList_loadS (.tmp 9) ?_ ?_ KD10.out Tryz.underlying27 ?_ (infoTRf18 (rF_sz (cellsF_size g gs))) ?_
  · rfl
  · rfl
  · rfl
  simp only [pu, sB, s0, sS]
  go_wp2_with fail
  refine (HI2.out _ B10.out).mono ?_
  rintro e w11 ⟨rfl, hb⟩
  have B11 := Lib.hid (B10.out.trans (hb.mono B10.out.size))
  have KA11 := Lib.hid (KA10.out.below hb KA10.out.lt)
  have KB11 := Lib.hid (KB10.out.below hb KB10.out.lt)
  have KD11 := Lib.hid (KD10.out.below hb KD10.out.lt)
  clear hb
  clear B10 KA10 KB10 KD10
  go_simp
  rename_i hKK
  refine hKK _ _ ?_
  clear hKK
  try simp only [pu, sB, s0, sS]
  iterate 2 ((with_reducible refine rN (v := .bool true) ?_ ?_ ?_); (· rfl); (· go_simp; (try with_reducible rfl)); simp only [pu, sB, s0, sS])
  with_reducible refine wpList_loadS (.tmp 9) ?_ ?_ KD11.out Tryz.underlying27 ?_ (infoTRf18 (rF_sz (cellsF_size g gs))) ?_
  · rfl
  · rfl
  · rfl
  simp only [pu, sB, s0, sS]
  go_wp2_with fail
  refine (HT2.out _ B11.out).mono ?_
  rintro e w12 ⟨rfl, hb⟩
  have B12 := Lib.hid (B11.out.trans (hb.mono B11.out.size))
  have KA12 := Lib.hid (KA11.out.below hb KA11.out.lt)
  have KB12 := Lib.hid (KB11.out.below hb KB11.out.lt)
  have KD12 := Lib.hid (KD11.out.below hb KD11.out.lt)
  clear hb
  clear B11 KA11 KB11 KD11
  go_simp
  rename_i hKK
  refine hKK _ _ ?_
  clear hKK
  try simp only [pu, sB, s0, sS]
  (with_reducible refine rN (v := ?_) ?_ ?_ ?_); rotate_left; (· rfl); (· go_simp; (try with_reducible rfl)); simp only [pu, sB, s0, sS]
  iterate 5 ((with_reducible refine rN (v := .bool true) ?_ ?_ ?_); (· rfl); (· go_simp; (try with_reducible rfl)); simp only [pu, sB, s0, sS])
  go_wp2_with fail
  go_ret
  exact ⟨rfl, B12.out⟩

set_option maxHeartbeats 8000000 in
set_option maxRecDepth 100000 in
theorem backPBR (k n : Int) (f : Fil.Flt) (fs : ByteArray) (s u : ByteArray) (k2 n2 : Int) (u2 : ByteArray) (g : Fil.Flt) (gs : ByteArray) (w : World)
    (HL : Hid (∀ W, Below w.heap.size w W → Calls Tryz.prog 13 #[] W fun e w' => e = .returned (.bool true) ∧ Below W.heap.size W w')) (hl : ¬ (600 : Int) < (s.size : Int)) (HT : Hid (∀ W, Below w.heap.size w W → Calls Tryz.prog 16 #[.agg (rF k n (cellsF f fs))] W fun e w' => e = .returned (.string u) ∧ Below W.heap.size W w')) (hu : u.toList.isEmpty = true) (HQ : Hid (∀ W, Below w.heap.size w W → Calls Tryz.prog 18 #[.string u] W fun e w' => e = .returned (.tuple #[.agg (rF 0 0 cellsZ), .int .i64 3]) ∧ Below W.heap.size W w')) (HI : Hid (∀ W, Below w.heap.size w W → Calls Tryz.prog 14 #[.agg (rF k n (cellsF f fs)), .int .i64 4] W fun e w' => e = .returned (.bool false) ∧ Below W.heap.size W w')) (HP : Hid (∀ W, Below w.heap.size w W → Calls Tryz.prog 18 #[.string s] W fun e w' => e = .returned (.tuple #[.agg (rF k2 n2 (cellsF g gs)), .int .i64 0]) ∧ Below W.heap.size W w')) (HI2 : Hid (∀ W, Below w.heap.size w W → Calls Tryz.prog 14 #[.agg (rF k2 n2 (cellsF g gs)), .int .i64 4] W fun e w' => e = .returned (.bool true) ∧ Below W.heap.size W w')) (HT2 : Hid (∀ W, Below w.heap.size w W → Calls Tryz.prog 16 #[.agg (rF k2 n2 (cellsF g gs))] W fun e w' => e = .returned (.string u2) ∧ Below W.heap.size W w')) (hu2 : (u2.toList == s.toList) = true) :
    Calls Tryz.prog 6 #[.agg (rF k n (cellsF f fs)), .string s] w fun e w' => e = .returned (.bool true) ∧ Below w.heap.size w w' := by

  have B0 := Lib.hid (Below.refl w.heap.size w)
  go_enter Tryz.func6, Tryz.ntmps6
  go_upto_region 0 with fail
  refine wp_region_lit ?_
  obtain ⟨w1, hw⟩ : ∃ v, v = w.alloc (.cells (rF k n (cellsF f fs)) 27) := ⟨_, rfl⟩
  obtain ⟨pA, hp⟩ : ∃ v, v = w.heap.size := ⟨_, rfl⟩
  have B1 : Hid (Below w.heap.size w w1) := Lib.hid (by rw [hw]; exact B0.out.alloc B0.out.size _)
  have LEA : Hid (w.heap.size ≤ pA) := Lib.hid (by rw [hp]; exact B0.out.size)
  have KA1 : Hid (Blk w1 pA (rF k n (cellsF f fs)) 27) := Lib.hid (by rw [hw, hp]; exact Blk.new _ _ _)
  with_reducible refine wpList_runWV (some 2) (v := .pointer (some ⟨pA, 0, none⟩)) (w' := w1) ?_ ?_ ?_ ?_
  · rfl
  · rfl
  · rw [hw, hp]; (go_simp; (try rfl))
  simp only [pu, sB, s0, sS]
  clear hw hp
  clear B0
  (with_reducible refine rN (v := .bool false) ?_ ?_ ?_); (· rfl); (· go_simp; (try with_reducible rfl)); simp only [pu, sB, s0, sS]
  go_upto_region 1 with fail
  refine wp_region_lit ?_
  iterate 2 ((with_reducible refine rN (v := ?_) ?_ ?_ ?_); rotate_left; (· rfl); (· go_simp; (try with_reducible rfl)); simp only [pu, sB, s0, sS])
  (with_reducible refine rN (v := .bool false) ?_ ?_ ?_); (· rfl); (· go_simp; (try with_reducible rfl)); simp only [pu, sB, s0, sS]
  go_upto_region 3 with fail
  refine wp_region_lit ?_
  with_reducible refine wpList_loadS (.tmp 2) ?_ ?_ KA1.out Tryz.underlying27 ?_ (infoTRf18 (rF_sz (cellsF_size f fs))) ?_
  · rfl
  · rfl
  · rfl
  simp only [pu, sB, s0, sS]
  go_wp2_with fail
  refine (HT.out _ B1.out).mono ?_
  rintro e w2 ⟨rfl, hb⟩
  have B2 := Lib.hid (B1.out.trans (hb.mono B1.out.size))
  have KA2 := Lib.hid (KA1.out.below hb KA1.out.lt)
  clear hb
  clear B1 KA1
  go_simp
  rename_i hKK
  refine hKK _ _ ?_
  clear hKK
  try simp only [pu, sB, s0, sS]
  (with_reducible refine rN (v := ?_) ?_ ?_ ?_); rotate_left; (· rfl); (· go_simp; (try with_reducible rfl)); simp only [pu, sB, s0, sS]
  go_upto_region 4 with fail
  refine wp_region_lit ?_
  (with_reducible refine rN (v := ?_) ?_ ?_ ?_); rotate_left; (· rfl); (· go_simp; (try with_reducible rfl)); simp only [pu, sB, s0, sS]
  go_wp2_with fail
  refine (HQ.out _ B2.out).mono ?_
  rintro e w3 ⟨rfl, hb⟩
  have B3 := Lib.hid (B2.out.trans (hb.mono B2.out.size))
  have KA3 := Lib.hid (KA2.out.below hb KA2.out.lt)
  clear hb
  clear B2 KA2
  go_simp
  rename_i hKK
  refine hKK _ _ ?_
  clear hKK
  try simp only [pu, sB, s0, sS]
  (with_reducible refine rN (v := ?_) ?_ ?_ ?_); rotate_left; (· rfl); (· go_simp; (try with_reducible rfl)); simp only [pu, sB, s0, sS]
  (with_reducible refine rN (v := .agg (rF 0 0 cellsZ)) ?_ ?_ ?_); (· rfl); (· go_simp; (try with_reducible rfl)); simp only [pu, sB, s0, sS]
  (with_reducible refine rN (v := ?_) ?_ ?_ ?_); rotate_left; (· rfl); (· go_simp; (try with_reducible rfl)); simp only [pu, sB, s0, sS]
  obtain ⟨w4, hw⟩ : ∃ v, v = w3.alloc (.cells (rF 0 0 cellsZ) 27) := ⟨_, rfl⟩
  obtain ⟨pB, hp⟩ : ∃ v, v = w3.heap.size := ⟨_, rfl⟩
  have B4 : Hid (Below w.heap.size w w4) := Lib.hid (by rw [hw]; exact B3.out.alloc B3.out.size _)
  have LEB : Hid (w.heap.size ≤ pB) := Lib.hid (by rw [hp]; exact B3.out.size)
  have KA4 := Lib.hid (show Blk w4 pA (rF k n (cellsF f fs)) 27 by rw [hw]; exact KA3.out.alloc _)
  have NEAB : Hid (pA ≠ pB) := Lib.hid (by rw [hp]; exact Nat.ne_of_lt KA3.out.lt)
  have NEBA : Hid (pB ≠ pA) := Lib.hid (Ne.symm NEAB.out)
  have KB4 : Hid (Blk w4 pB (rF 0 0 cellsZ) 27) := Lib.hid (by rw [hw, hp]; exact Blk.new _ _ _)
  with_reducible refine wpList_runWV (some 6) (v := .pointer (some ⟨pB, 0, none⟩)) (w' := w4) ?_ ?_ ?_ ?_
  · rfl
  · rfl
  · rw [hw, hp]; (go_simp; (try rfl))
  simp only [pu, sB, s0, sS]
  clear hw hp
  clear B3 KA3
  have KB5 := Lib.hid (KB4.out.stored (o := 0) (vs := (rF 0 0 cellsZ).toList) (cs' := (rF 0 0 cellsZ)) (laid_all (rF_sz cellsZ_size) (rF_sz cellsZ_size)))
  have KA5 := Lib.hid (KA4.out.wholeElse ((rF 0 0 cellsZ).toList) (o := 0) NEAB.out)
  have B5 := Lib.hid (below_whole ((rF 0 0 cellsZ).toList) (o := 0) B4.out LEB.out)
  with_reducible refine wpList_storeM (.tmp 6) (.tmp 20) (o := 0) (vs := (rF 0 0 cellsZ)) ?_ ?_ KB4.out ?_ (infoTRf18 (rF_sz cellsZ_size)) (rF_one cellsZ_one) ?_
  · rfl
  · rfl
  · exact (fit_2 (rF_sz cellsZ_size) (rF_sz cellsZ_size) (by decide))
  (try simp only [Act.put])
  generalize World.setCells _ _ _ _ = w5 at KA5 KB5 B5 ⊢
  clear B4 KA4 KB4
  (with_reducible refine rN (v := ?_) ?_ ?_ ?_); rotate_left; (· rfl); (· go_simp; (try with_reducible rfl)); simp only [pu, sB, s0, sS]
  go_upto_region 5 with fail
  refine wp_region_lit ?_
  with_reducible refine wpList_loadS (.tmp 2) ?_ ?_ KA5.out Tryz.underlying27 ?_ (infoTRf18 (rF_sz (cellsF_size f fs))) ?_
  · rfl
  · rfl
  · rfl
  simp only [pu, sB, s0, sS]
  go_wp2_with fail
  refine (HI.out _ B5.out).mono ?_
  rintro e w6 ⟨rfl, hb⟩
  have B6 := Lib.hid (B5.out.trans (hb.mono B5.out.size))
  have KA6 := Lib.hid (KA5.out.below hb KA5.out.lt)
  have KB6 := Lib.hid (KB5.out.below hb KB5.out.lt)
  clear hb
  clear B5 KA5 KB5
  go_simp
  rename_i hKK
  refine hKK _ _ ?_
  clear hKK
  try simp only [pu, sB, s0, sS]
  (with_reducible refine rN (v := .bool false) ?_ ?_ ?_); (· rfl); (· go_simp; (try with_reducible rfl)); simp only [pu, sB, s0, sS]
  go_upto_region 6 with fail
  refine wp_region_lit ?_
  (with_reducible refine rN (v := .bool false) ?_ ?_ ?_); (· rfl); (· go_simp; (try with_reducible rfl)); simp only [pu, sB, s0, sS]
  (with_reducible refine rN (v := ?_) ?_ ?_ ?_); rotate_left; (· rfl); (· go_simp; (try with_reducible rfl)); simp only [pu, sB, s0, sS]
  iterate 5 ((with_reducible refine rN (v := .bool false) ?_ ?_ ?_); (· rfl); (· go_simp; (try with_reducible rfl)); simp only [pu, sB, s0, sS])
  iterate 7 ((with_reducible refine kN ?_ ?_); (· rfl); simp only [pu, sB, s0, sS])
  iterate 2 ((with_reducible refine rN (v := .bool false) ?_ ?_ ?_); (· rfl); (· go_simp; (try with_reducible rfl)); simp only [pu, sB, s0, sS])
  go_upto_region 8 with fail
  refine wp_region_lit ?_
  (with_reducible refine rN (v := ?_) ?_ ?_ ?_); rotate_left; (· rfl); (· go_simp; (try with_reducible rfl)); simp only [pu, sB, s0, sS]
  go_wp2_with fail
  refine (HP.out _ B6.out).mono ?_
  rintro e w7 ⟨rfl, hb⟩
  have B7 := Lib.hid (B6.out.trans (hb.mono B6.out.size))
  have KA7 := Lib.hid (KA6.out.below hb KA6.out.lt)
  have KB7 := Lib.hid (KB6.out.below hb KB6.out.lt)
  clear hb
  clear B6 KA6 KB6
  go_simp
  rename_i hKK
  refine hKK _ _ ?_
  clear hKK
  try simp only [pu, sB, s0, sS]
  (with_reducible refine rN (v := ?_) ?_ ?_ ?_); rotate_left; (· rfl); (· go_simp; (try with_reducible rfl)); simp only [pu, sB, s0, sS]
  (with_reducible refine rN (v := .agg (rF k2 n2 (cellsF g gs))) ?_ ?_ ?_); (· rfl); (· go_simp; (try with_reducible rfl)); simp only [pu, sB, s0, sS]
  (with_reducible refine rN (v := ?_) ?_ ?_ ?_); rotate_left; (· rfl); (· go_simp; (try with_reducible rfl)); simp only [pu, sB, s0, sS]
  obtain ⟨w8, hw⟩ : ∃ v, v = w7.alloc (.cells (rF 0 0 cellsZ) 27) := ⟨_, rfl⟩
  obtain ⟨pD, hp⟩ : ∃ v, v = w7.heap.size := ⟨_, rfl⟩
  have B8 : Hid (Below w.heap.size w w8) := Lib.hid (by rw [hw]; exact B7.out.alloc B7.out.size _)
  have LED : Hid (w.heap.size ≤ pD) := Lib.hid (by rw [hp]; exact B7.out.size)
  have KA8 := Lib.hid (show Blk w8 pA (rF k n (cellsF f fs)) 27 by rw [hw]; exact KA7.out.alloc _)
  have NEAD : Hid (pA ≠ pD) := Lib.hid (by rw [hp]; exact Nat.ne_of_lt KA7.out.lt)
  have NEDA : Hid (pD ≠ pA) := Lib.hid (Ne.symm NEAD.out)
  have KB8 := Lib.hid (show Blk w8 pB (rF 0 0 cellsZ) 27 by rw [hw]; exact KB7.out.alloc _)
  have NEBD : Hid (pB ≠ pD) := Lib.hid (by rw [hp]; exact Nat.ne_of_lt KB7.out.lt)
  have NEDB : Hid (pD ≠ pB) := Lib.hid (Ne.symm NEBD.out)
  have KD8 : Hid (Blk w8 pD (rF 0 0 cellsZ) 27) := Lib.hid (by rw [hw, hp]; exact Blk.new _ _ _)
  with_reducible refine wpList_runWV (some 9) (v := .pointer (some ⟨pD, 0, none⟩)) (w' := w8) ?_ ?_ ?_ ?_
  · rfl
  · rfl
  · rw [hw, hp]; (go_simp; (try rfl))
  simp only [pu, sB, s0, sS]
  clear hw hp
  clear B7 KA7 KB7
  have KD9 := Lib.hid (KD8.out.stored (o := 0) (vs := (rF k2 n2 (cellsF g gs)).toList) (cs' := (rF k2 n2 (cellsF g gs))) (laid_all (rF_sz (cellsF_size g gs)) (rF_sz cellsZ_size)))
  have KA9 := Lib.hid (KA8.out.wholeElse ((rF k2 n2 (cellsF g gs)).toList) (o := 0) NEAD.out)
  have KB9 := Lib.hid (KB8.out.wholeElse ((rF k2 n2 (cellsF g gs)).toList) (o := 0) NEBD.out)
  have B9 := Lib.hid (below_whole ((rF k2 n2 (cellsF g gs)).toList) (o := 0) B8.out LED.out)
  with_reducible refine wpList_storeM (.tmp 9) (.tmp 43) (o := 0) (vs := (rF k2 n2 (cellsF g gs))) ?_ ?_ KD8.out ?_ (infoTRf18 (rF_sz (cellsF_size g gs))) (rF_one (cellsF_one g gs)) ?_
  · rfl
  · rfl
  · exact (fit_2 (rF_sz cellsZ_size) (rF_sz (cellsF_size g gs)) (by decide))
  (try simp only [Act.put])
  generalize World.setCells _ _ _ _ = w9 at KA9 KB9 KD9 B9 ⊢
  clear B8 KA8 KB8 KD8
  (with_reducible refine rN (v := ?_) ?_ ?_ ?_); rotate_left; (· rfl); (· go_simp; (try with_reducible rfl)); simp only [pu, sB, s0, sS]
  go_upto_region 9 with fail
  refine wp_region_lit ?_
  go_wp2_with fail
  refine (HL.out _ B9.out).mono ?_
  rintro e w10 ⟨rfl, hb⟩
  have B10 := Lib.hid (B9.out.trans (hb.mono B9.out.size))
  have KA10 := Lib.hid (KA9.out.below hb KA9.out.lt)
  have KB10 := Lib.hid (KB9.out.below hb KB9.out.lt)
  have KD10 := Lib.hid (KD9.out.below hb KD9.out.lt)
  clear hb
  clear B9 KA9 KB9 KD9
  go_simp
  rename_i hKK
  refine hKK _ _ ?_
  clear hKK
  try simp only [pu, sB, s0, sS]
  (with_reducible refine rN (v := .bool true) ?_ ?_ ?_); (· rfl); (· go_simp; (try with_reducible rfl)); simp only [pu, sB, s0, sS]
  (with_reducible refine rN (v := ?_) ?_ ?_ ?_); rotate_left; (· rfl); (· go_simp; (try with_reducible rfl)); simp only [pu, sB, s0, sS]
  iterate 2 ((with_reducible refine rN (v := .bool false) ?_ ?_ ?_); (· rfl); (· go_simp; (try with_reducible rfl)); simp only [pu, sB, s0, sS])
  iterate 3 ((with_reducible refine kN ?_ ?_); (· rfl); simp only [pu, sB, s0, sS])
  iterate 2 ((with_reducible refine rN (v := .bool false) ?_ ?_ ?_); (· rfl); (· go_simp; (try with_reducible rfl)); simp only [pu, sB, s0, sS])
  (with_reducible refine rN (v := ?_) ?_ ?_ ?_); rotate_left; (· rfl); (· go_simp; (try with_reducible rfl)); simp only [pu, sB, s0, sS]
  iterate 2 ((with_reducible refine rN (v := .bool true) ?_ ?_ ?_); (· rfl); (· go_simp; (try with_reducible rfl)); simp only [pu, sB, s0, sS])
  with_reducible refine wpList_loadS (.tmp 9) ?_ ?_ KD10.out Tryz.underlying27 ?_ (infoTRf18 (rF_sz (cellsF_size g gs))) ?_
  · rfl
  · rfl
  · rfl
  simp only [pu, sB, s0, sS]
  go_wp2_with fail
  refine (HI2.out _ B10.out).mono ?_
  rintro e w11 ⟨rfl, hb⟩
  have B11 := Lib.hid (B10.out.trans (hb.mono B10.out.size))
  have KA11 := Lib.hid (KA10.out.below hb KA10.out.lt)
  have KB11 := Lib.hid (KB10.out.below hb KB10.out.lt)
  have KD11 := Lib.hid (KD10.out.below hb KD10.out.lt)
  clear hb
  clear B10 KA10 KB10 KD10
  go_simp
  rename_i hKK
  refine hKK _ _ ?_
  clear hKK
  try simp only [pu, sB, s0, sS]
  iterate 2 ((with_reducible refine rN (v := .bool true) ?_ ?_ ?_); (· rfl); (· go_simp; (try with_reducible rfl)); simp only [pu, sB, s0, sS])
  with_reducible refine wpList_loadS (.tmp 9) ?_ ?_ KD11.out Tryz.underlying27 ?_ (infoTRf18 (rF_sz (cellsF_size g gs))) ?_
  · rfl
  · rfl
  · rfl
  simp only [pu, sB, s0, sS]
  go_wp2_with fail
  refine (HT2.out _ B11.out).mono ?_
  rintro e w12 ⟨rfl, hb⟩
  have B12 := Lib.hid (B11.out.trans (hb.mono B11.out.size))
  have KA12 := Lib.hid (KA11.out.below hb KA11.out.lt)
  have KB12 := Lib.hid (KB11.out.below hb KB11.out.lt)
  have KD12 := Lib.hid (KD11.out.below hb KD11.out.lt)
  clear hb
  clear B11 KA11 KB11 KD11
  go_simp
  rename_i hKK
  refine hKK _ _ ?_
  clear hKK
  try simp only [pu, sB, s0, sS]
  (with_reducible refine rN (v := ?_) ?_ ?_ ?_); rotate_left; (· rfl); (· go_simp; (try with_reducible rfl)); simp only [pu, sB, s0, sS]
  iterate 5 ((with_reducible refine rN (v := .bool true) ?_ ?_ ?_); (· rfl); (· go_simp; (try with_reducible rfl)); simp only [pu, sB, s0, sS])
  go_wp2_with fail
  go_ret
  exact ⟨rfl, B12.out⟩

set_option maxHeartbeats 8000000 in
set_option maxRecDepth 100000 in
theorem backNVR (k n : Int) (f : Fil.Flt) (fs : ByteArray) (s u : ByteArray) (w : World)
    (HL : Hid (∀ W, Below w.heap.size w W → Calls Tryz.prog 13 #[] W fun e w' => e = .returned (.bool true) ∧ Below W.heap.size W w')) (hl : ¬ (600 : Int) < (s.size : Int)) (HT : Hid (∀ W, Below w.heap.size w W → Calls Tryz.prog 16 #[.agg (rF k n (cellsF f fs))] W fun e w' => e = .returned (.string u) ∧ Below W.heap.size W w')) (hu : u.toList.isEmpty = false) (HQ : Hid (∀ W, Below w.heap.size w W → Calls Tryz.prog 18 #[.string u] W fun e w' => e = .returned (.tuple #[.agg (rF k n (cellsF f fs)), .int .i64 0]) ∧ Below W.heap.size W w')) (HI : Hid (∀ W, Below w.heap.size w W → Calls Tryz.prog 14 #[.agg (rF k n (cellsF f fs)), .int .i64 4] W fun e w' => e = .returned (.bool true) ∧ Below W.heap.size W w')) (HP : Hid (∀ W, Below w.heap.size w W → Calls Tryz.prog 18 #[.string s] W fun e w' => e = .returned (.tuple #[.agg (rF 0 0 cellsZ), .int .i64 3]) ∧ Below W.heap.size W w')) (hq : ∀ W : World, (Op.equalIn 10000 27 (.agg (rF k n (cellsF f fs))) (.agg (rF k n (cellsF f fs)))).run Tryz.prog W = .ok true W) (hz : ∀ W : World, (Op.equalIn 10000 27 (.agg (rF 0 0 cellsZ)) (.agg (rF 0 0 cellsZ))).run Tryz.prog W = .ok true W) :
    Calls Tryz.prog 6 #[.agg (rF k n (cellsF f fs)), .string s] w fun e w' => e = .returned (.bool true) ∧ Below w.heap.size w w' := by

  have B0 := Lib.hid (Below.refl w.heap.size w)
  go_enter Tryz.func6, Tryz.ntmps6
  go_upto_region 0 with fail
  refine wp_region_lit ?_
  obtain ⟨w1, hw⟩ : ∃ v, v = w.alloc (.cells (rF k n (cellsF f fs)) 27) := ⟨_, rfl⟩
  obtain ⟨pA, hp⟩ : ∃ v, v = w.heap.size := ⟨_, rfl⟩
  have B1 : Hid (Below w.heap.size w w1) := Lib.hid (by rw [hw]; exact B0.out.alloc B0.out.size _)
  have LEA : Hid (w.heap.size ≤ pA) := Lib.hid (by rw [hp]; exact B0.out.size)
  have KA1 : Hid (Blk w1 pA (rF k n (cellsF f fs)) 27) := Lib.hid (by rw [hw, hp]; exact Blk.new _ _ _)
  with_reducible refine wpList_runWV (some 2) (v := .pointer (some ⟨pA, 0, none⟩)) (w' := w1) ?_ ?_ ?_ ?_
  · rfl
  · rfl
  · rw [hw, hp]; (go_simp; (try rfl))
  simp only [pu, sB, s0, sS]
  clear hw hp
  clear B0
  (with_reducible refine rN (v := .bool false) ?_ ?_ ?_); (· rfl); (· go_simp; (try with_reducible rfl)); simp only [pu, sB, s0, sS]
  go_upto_region 1 with fail
  refine wp_region_lit ?_
  iterate 2 ((with_reducible refine rN (v := ?_) ?_ ?_ ?_); rotate_left; (· rfl); (· go_simp; (try with_reducible rfl)); simp only [pu, sB, s0, sS])
  (with_reducible refine rN (v := .bool false) ?_ ?_ ?_); (· rfl); (· go_simp; (try with_reducible rfl)); simp only [pu, sB, s0, sS]
  go_upto_region 3 with fail
  refine wp_region_lit ?_
  with_reducible refine wpList_loadS (.tmp 2) ?_ ?_ KA1.out Tryz.underlying27 ?_ (infoTRf18 (rF_sz (cellsF_size f fs))) ?_
  · rfl
  · rfl
  · rfl
  simp only [pu, sB, s0, sS]
  go_wp2_with fail
  refine (HT.out _ B1.out).mono ?_
  rintro e w2 ⟨rfl, hb⟩
  have B2 := Lib.hid (B1.out.trans (hb.mono B1.out.size))
  have KA2 := Lib.hid (KA1.out.below hb KA1.out.lt)
  clear hb
  clear B1 KA1
  go_simp
  rename_i hKK
  refine hKK _ _ ?_
  clear hKK
  try simp only [pu, sB, s0, sS]
  (with_reducible refine rN (v := ?_) ?_ ?_ ?_); rotate_left; (· rfl); (· go_simp; (try with_reducible rfl)); simp only [pu, sB, s0, sS]
  go_upto_region 4 with fail
  refine wp_region_lit ?_
  (with_reducible refine rN (v := ?_) ?_ ?_ ?_); rotate_left; (· rfl); (· go_simp; (try with_reducible rfl)); simp only [pu, sB, s0, sS]
  go_wp2_with fail
  refine (HQ.out _ B2.out).mono ?_
  rintro e w3 ⟨rfl, hb⟩
  have B3 := Lib.hid (B2.out.trans (hb.mono B2.out.size))
  have KA3 := Lib.hid (KA2.out.below hb KA2.out.lt)
  clear hb
  clear B2 KA2
  go_simp
  rename_i hKK
  refine hKK _ _ ?_
  clear hKK
  try simp only [pu, sB, s0, sS]
  (with_reducible refine rN (v := ?_) ?_ ?_ ?_); rotate_left; (· rfl); (· go_simp; (try with_reducible rfl)); simp only [pu, sB, s0, sS]
  (with_reducible refine rN (v := .agg (rF k n (cellsF f fs))) ?_ ?_ ?_); (· rfl); (· go_simp; (try with_reducible rfl)); simp only [pu, sB, s0, sS]
  (with_reducible refine rN (v := ?_) ?_ ?_ ?_); rotate_left; (· rfl); (· go_simp; (try with_reducible rfl)); simp only [pu, sB, s0, sS]
  obtain ⟨w4, hw⟩ : ∃ v, v = w3.alloc (.cells (rF 0 0 cellsZ) 27) := ⟨_, rfl⟩
  obtain ⟨pB, hp⟩ : ∃ v, v = w3.heap.size := ⟨_, rfl⟩
  have B4 : Hid (Below w.heap.size w w4) := Lib.hid (by rw [hw]; exact B3.out.alloc B3.out.size _)
  have LEB : Hid (w.heap.size ≤ pB) := Lib.hid (by rw [hp]; exact B3.out.size)
  have KA4 := Lib.hid (show Blk w4 pA (rF k n (cellsF f fs)) 27 by rw [hw]; exact KA3.out.alloc _)
  have NEAB : Hid (pA ≠ pB) := Lib.hid (by rw [hp]; exact Nat.ne_of_lt KA3.out.lt)
  have NEBA : Hid (pB ≠ pA) := Lib.hid (Ne.symm NEAB.out)
  have KB4 : Hid (Blk w4 pB (rF 0 0 cellsZ) 27) := Lib.hid (by rw [hw, hp]; exact Blk.new _ _ _)
  with_reducible refine wpList_runWV (some 6) (v := .pointer (some ⟨pB, 0, none⟩)) (w' := w4) ?_ ?_ ?_ ?_
  · rfl
  · rfl
  · rw [hw, hp]; (go_simp; (try rfl))
  simp only [pu, sB, s0, sS]
  clear hw hp
  clear B3 KA3
  have KB5 := Lib.hid (KB4.out.stored (o := 0) (vs := (rF k n (cellsF f fs)).toList) (cs' := (rF k n (cellsF f fs))) (laid_all (rF_sz (cellsF_size f fs)) (rF_sz cellsZ_size)))
  have KA5 := Lib.hid (KA4.out.wholeElse ((rF k n (cellsF f fs)).toList) (o := 0) NEAB.out)
  have B5 := Lib.hid (below_whole ((rF k n (cellsF f fs)).toList) (o := 0) B4.out LEB.out)
  with_reducible refine wpList_storeM (.tmp 6) (.tmp 20) (o := 0) (vs := (rF k n (cellsF f fs))) ?_ ?_ KB4.out ?_ (infoTRf18 (rF_sz (cellsF_size f fs))) (rF_one (cellsF_one f fs)) ?_
  · rfl
  · rfl
  · exact (fit_2 (rF_sz cellsZ_size) (rF_sz (cellsF_size f fs)) (by decide))
  (try simp only [Act.put])
  generalize World.setCells _ _ _ _ = w5 at KA5 KB5 B5 ⊢
  clear B4 KA4 KB4
  (with_reducible refine rN (v := ?_) ?_ ?_ ?_); rotate_left; (· rfl); (· go_simp; (try with_reducible rfl)); simp only [pu, sB, s0, sS]
  go_upto_region 5 with fail
  refine wp_region_lit ?_
  with_reducible refine wpList_loadS (.tmp 2) ?_ ?_ KA5.out Tryz.underlying27 ?_ (infoTRf18 (rF_sz (cellsF_size f fs))) ?_
  · rfl
  · rfl
  · rfl
  simp only [pu, sB, s0, sS]
  go_wp2_with fail
  refine (HI.out _ B5.out).mono ?_
  rintro e w6 ⟨rfl, hb⟩
  have B6 := Lib.hid (B5.out.trans (hb.mono B5.out.size))
  have KA6 := Lib.hid (KA5.out.below hb KA5.out.lt)
  have KB6 := Lib.hid (KB5.out.below hb KB5.out.lt)
  clear hb
  clear B5 KA5 KB5
  go_simp
  rename_i hKK
  refine hKK _ _ ?_
  clear hKK
  try simp only [pu, sB, s0, sS]
  (with_reducible refine rN (v := .bool true) ?_ ?_ ?_); (· rfl); (· go_simp; (try with_reducible rfl)); simp only [pu, sB, s0, sS]
  go_upto_region 6 with fail
  refine wp_region_lit ?_
  (with_reducible refine rN (v := .bool true) ?_ ?_ ?_); (· rfl); (· go_simp; (try with_reducible rfl)); simp only [pu, sB, s0, sS]
  (with_reducible refine rN (v := ?_) ?_ ?_ ?_); rotate_left; (· rfl); (· go_simp; (try with_reducible rfl)); simp only [pu, sB, s0, sS]
  (with_reducible refine rN (v := .bool true) ?_ ?_ ?_); (· rfl); (· go_simp; (try with_reducible rfl)); simp only [pu, sB, s0, sS]
  iterate 2 ((with_reducible refine rN (v := .bool false) ?_ ?_ ?_); (· rfl); (· go_simp; (try with_reducible rfl)); simp only [pu, sB, s0, sS])
  iterate 2 ((with_reducible refine rN (v := .bool true) ?_ ?_ ?_); (· rfl); (· go_simp; (try with_reducible rfl)); simp only [pu, sB, s0, sS])
  (with_reducible refine rN (v := ?_) ?_ ?_ ?_); rotate_left; (· rfl); (· go_simp; (try with_reducible rfl)); simp only [pu, sB, s0, sS]
  iterate 2 ((with_reducible refine rN (v := .bool false) ?_ ?_ ?_); (· rfl); (· go_simp; (try with_reducible rfl)); simp only [pu, sB, s0, sS])
  with_reducible refine wpList_loadS (.tmp 6) ?_ ?_ KB6.out Tryz.underlying27 ?_ (infoTRf18 (rF_sz (cellsF_size f fs))) ?_
  · rfl
  · rfl
  · rfl
  simp only [pu, sB, s0, sS]
  with_reducible refine wpList_loadS (.tmp 2) ?_ ?_ KA6.out Tryz.underlying27 ?_ (infoTRf18 (rF_sz (cellsF_size f fs))) ?_
  · rfl
  · rfl
  · rfl
  simp only [pu, sB, s0, sS]
  iterate 4 ((with_reducible refine rN (v := .bool false) ?_ ?_ ?_); (· rfl); (· go_simp; (try with_reducible rfl)); simp only [pu, sB, s0, sS])
  go_upto_region 8 with fail
  refine wp_region_lit ?_
  (with_reducible refine rN (v := ?_) ?_ ?_ ?_); rotate_left; (· rfl); (· go_simp; (try with_reducible rfl)); simp only [pu, sB, s0, sS]
  go_wp2_with fail
  refine (HP.out _ B6.out).mono ?_
  rintro e w7 ⟨rfl, hb⟩
  have B7 := Lib.hid (B6.out.trans (hb.mono B6.out.size))
  have KA7 := Lib.hid (KA6.out.below hb KA6.out.lt)
  have KB7 := Lib.hid (KB6.out.below hb KB6.out.lt)
  clear hb
  clear B6 KA6 KB6
  go_simp
  rename_i hKK
  refine hKK _ _ ?_
  clear hKK
  try simp only [pu, sB, s0, sS]
  (with_reducible refine rN (v := ?_) ?_ ?_ ?_); rotate_left; (· rfl); (· go_simp; (try with_reducible rfl)); simp only [pu, sB, s0, sS]
  (with_reducible refine rN (v := .agg (rF 0 0 cellsZ)) ?_ ?_ ?_); (· rfl); (· go_simp; (try with_reducible rfl)); simp only [pu, sB, s0, sS]
  (with_reducible refine rN (v := ?_) ?_ ?_ ?_); rotate_left; (· rfl); (· go_simp; (try with_reducible rfl)); simp only [pu, sB, s0, sS]
  obtain ⟨w8, hw⟩ : ∃ v, v = w7.alloc (.cells (rF 0 0 cellsZ) 27) := ⟨_, rfl⟩
  obtain ⟨pD, hp⟩ : ∃ v, v = w7.heap.size := ⟨_, rfl⟩
  have B8 : Hid (Below w.heap.size w w8) := Lib.hid (by rw [hw]; exact B7.out.alloc B7.out.size _)
  have LED : Hid (w.heap.size ≤ pD) := Lib.hid (by rw [hp]; exact B7.out.size)
  have KA8 := Lib.hid (show Blk w8 pA (rF k n (cellsF f fs)) 27 by rw [hw]; exact KA7.out.alloc _)
  have NEAD : Hid (pA ≠ pD) := Lib.hid (by rw [hp]; exact Nat.ne_of_lt KA7.out.lt)
  have NEDA : Hid (pD ≠ pA) := Lib.hid (Ne.symm NEAD.out)
  have KB8 := Lib.hid (show Blk w8 pB (rF k n (cellsF f fs)) 27 by rw [hw]; exact KB7.out.alloc _)
  have NEBD : Hid (pB ≠ pD) := Lib.hid (by rw [hp]; exact Nat.ne_of_lt KB7.out.lt)
  have NEDB : Hid (pD ≠ pB) := Lib.hid (Ne.symm NEBD.out)
  have KD8 : Hid (Blk w8 pD (rF 0 0 cellsZ) 27) := Lib.hid (by rw [hw, hp]; exact Blk.new _ _ _)
  with_reducible refine wpList_runWV (some 9) (v := .pointer (some ⟨pD, 0, none⟩)) (w' := w8) ?_ ?_ ?_ ?_
  · rfl
  · rfl
  · rw [hw, hp]; (go_simp; (try rfl))
  simp only [pu, sB, s0, sS]
  clear hw hp
  clear B7 KA7 KB7
  have KD9 := Lib.hid (KD8.out.stored (o := 0) (vs := (rF 0 0 cellsZ).toList) (cs' := (rF 0 0 cellsZ)) (laid_all (rF_sz cellsZ_size) (rF_sz cellsZ_size)))
  have KA9 := Lib.hid (KA8.out.wholeElse ((rF 0 0 cellsZ).toList) (o := 0) NEAD.out)
  have KB9 := Lib.hid (KB8.out.wholeElse ((rF 0 0 cellsZ).toList) (o := 0) NEBD.out)
  have B9 := Lib.hid (below_whole ((rF 0 0 cellsZ).toList) (o := 0) B8.out LED.out)
  with_reducible refine wpList_storeM (.tmp 9) (.tmp 43) (o := 0) (vs := (rF 0 0 cellsZ)) ?_ ?_ KD8.out ?_ (infoTRf18 (rF_sz cellsZ_size)) (rF_one cellsZ_one) ?_
  · rfl
  · rfl
  · exact (fit_2 (rF_sz cellsZ_size) (rF_sz cellsZ_size) (by decide))
  (try simp only [Act.put])
  generalize World.setCells _ _ _ _ = w9 at KA9 KB9 KD9 B9 ⊢
  clear B8 KA8 KB8 KD8
  (with_reducible refine rN (v := ?_) ?_ ?_ ?_); rotate_left; (· rfl); (· go_simp; (try with_reducible rfl)); simp only [pu, sB, s0, sS]
  go_upto_region 9 with fail
  refine wp_region_lit ?_
  go_wp2_with fail
  refine (HL.out _ B9.out).mono ?_
  rintro e w10 ⟨rfl, hb⟩
  have B10 := Lib.hid (B9.out.trans (hb.mono B9.out.size))
  have KA10 := Lib.hid (KA9.out.below hb KA9.out.lt)
  have KB10 := Lib.hid (KB9.out.below hb KB9.out.lt)
  have KD10 := Lib.hid (KD9.out.below hb KD9.out.lt)
  clear hb
  clear B9 KA9 KB9 KD9
  go_simp
  rename_i hKK
  refine hKK _ _ ?_
  clear hKK
  try simp only [pu, sB, s0, sS]
  (with_reducible refine rN (v := .bool true) ?_ ?_ ?_); (· rfl); (· go_simp; (try with_reducible rfl)); simp only [pu, sB, s0, sS]
  (with_reducible refine rN (v := ?_) ?_ ?_ ?_); rotate_left; (· rfl); (· go_simp; (try with_reducible rfl)); simp only [pu, sB, s0, sS]
  iterate 2 ((with_reducible refine rN (v := .bool true) ?_ ?_ ?_); (· rfl); (· go_simp; (try with_reducible rfl)); simp only [pu, sB, s0, sS])
  with_reducible refine wpList_loadS (.tmp 9) ?_ ?_ KD10.out Tryz.underlying27 ?_ (infoTRf18 (rF_sz cellsZ_size)) ?_
  · rfl
  · rfl
  · rfl
  simp only [pu, sB, s0, sS]
  (with_reducible refine rN (v := .agg (rF 0 0 cellsZ)) ?_ ?_ ?_); (· rfl); (· go_simp; rfl); simp only [pu, sB, s0, sS]
  iterate 3 ((with_reducible refine rN (v := .bool true) ?_ ?_ ?_); (· rfl); (· go_simp; (try with_reducible rfl)); simp only [pu, sB, s0, sS])
  iterate 12 ((with_reducible refine kN ?_ ?_); (· rfl); simp only [pu, sB, s0, sS])
  iterate 3 ((with_reducible refine rN (v := .bool true) ?_ ?_ ?_); (· rfl); (· go_simp; (try with_reducible rfl)); simp only [pu, sB, s0, sS])
  go_wp2_with fail
  go_ret
  exact ⟨rfl, B10.out⟩

set_option maxHeartbeats 8000000 in
set_option maxRecDepth 100000 in
theorem backNBR (k n : Int) (f : Fil.Flt) (fs : ByteArray) (s u : ByteArray) (w : World)
    (HL : Hid (∀ W, Below w.heap.size w W → Calls Tryz.prog 13 #[] W fun e w' => e = .returned (.bool true) ∧ Below W.heap.size W w')) (hl : ¬ (600 : Int) < (s.size : Int)) (HT : Hid (∀ W, Below w.heap.size w W → Calls Tryz.prog 16 #[.agg (rF k n (cellsF f fs))] W fun e w' => e = .returned (.string u) ∧ Below W.heap.size W w')) (hu : u.toList.isEmpty = true) (HQ : Hid (∀ W, Below w.heap.size w W → Calls Tryz.prog 18 #[.string u] W fun e w' => e = .returned (.tuple #[.agg (rF 0 0 cellsZ), .int .i64 3]) ∧ Below W.heap.size W w')) (HI : Hid (∀ W, Below w.heap.size w W → Calls Tryz.prog 14 #[.agg (rF k n (cellsF f fs)), .int .i64 4] W fun e w' => e = .returned (.bool false) ∧ Below W.heap.size W w')) (HP : Hid (∀ W, Below w.heap.size w W → Calls Tryz.prog 18 #[.string s] W fun e w' => e = .returned (.tuple #[.agg (rF 0 0 cellsZ), .int .i64 3]) ∧ Below W.heap.size W w')) (hz : ∀ W : World, (Op.equalIn 10000 27 (.agg (rF 0 0 cellsZ)) (.agg (rF 0 0 cellsZ))).run Tryz.prog W = .ok true W) :
    Calls Tryz.prog 6 #[.agg (rF k n (cellsF f fs)), .string s] w fun e w' => e = .returned (.bool true) ∧ Below w.heap.size w w' := by

  have B0 := Lib.hid (Below.refl w.heap.size w)
  go_enter Tryz.func6, Tryz.ntmps6
  go_upto_region 0 with fail
  refine wp_region_lit ?_
  obtain ⟨w1, hw⟩ : ∃ v, v = w.alloc (.cells (rF k n (cellsF f fs)) 27) := ⟨_, rfl⟩
  obtain ⟨pA, hp⟩ : ∃ v, v = w.heap.size := ⟨_, rfl⟩
  have B1 : Hid (Below w.heap.size w w1) := Lib.hid (by rw [hw]; exact B0.out.alloc B0.out.size _)
  have LEA : Hid (w.heap.size ≤ pA) := Lib.hid (by rw [hp]; exact B0.out.size)
  have KA1 : Hid (Blk w1 pA (rF k n (cellsF f fs)) 27) := Lib.hid (by rw [hw, hp]; exact Blk.new _ _ _)
  with_reducible refine wpList_runWV (some 2) (v := .pointer (some ⟨pA, 0, none⟩)) (w' := w1) ?_ ?_ ?_ ?_
  · rfl
  · rfl
  · rw [hw, hp]; (go_simp; (try rfl))
  simp only [pu, sB, s0, sS]
  clear hw hp
  clear B0
  (with_reducible refine rN (v := .bool false) ?_ ?_ ?_); (· rfl); (· go_simp; (try with_reducible rfl)); simp only [pu, sB, s0, sS]
  go_upto_region 1 with fail
  refine wp_region_lit ?_
  iterate 2 ((with_reducible refine rN (v := ?_) ?_ ?_ ?_); rotate_left; (· rfl); (· go_simp; (try with_reducible rfl)); simp only [pu, sB, s0, sS])
  (with_reducible refine rN (v := .bool false) ?_ ?_ ?_); (· rfl); (· go_simp; (try with_reducible rfl)); simp only [pu, sB, s0, sS]
  go_upto_region 3 with fail
  refine wp_region_lit ?_
  with_reducible refine wpList_loadS (.tmp 2) ?_ ?_ KA1.out Tryz.underlying27 ?_ (infoTRf18 (rF_sz (cellsF_size f fs))) ?_
  · rfl
  · rfl
  · rfl
  simp only [pu, sB, s0, sS]
  go_wp2_with fail
  refine (HT.out _ B1.out).mono ?_
  rintro e w2 ⟨rfl, hb⟩
  have B2 := Lib.hid (B1.out.trans (hb.mono B1.out.size))
  have KA2 := Lib.hid (KA1.out.below hb KA1.out.lt)
  clear hb
  clear B1 KA1
  go_simp
  rename_i hKK
  refine hKK _ _ ?_
  clear hKK
  try simp only [pu, sB, s0, sS]
  (with_reducible refine rN (v := ?_) ?_ ?_ ?_); rotate_left; (· rfl); (· go_simp; (try with_reducible rfl)); simp only [pu, sB, s0, sS]
  go_upto_region 4 with fail
  refine wp_region_lit ?_
  (with_reducible refine rN (v := ?_) ?_ ?_ ?_); rotate_left; (· rfl); (· go_simp; (try with_reducible rfl)); simp only [pu, sB, s0, sS]
  go_wp2_with fail
  refine (HQ.out _ B2.out).mono ?_
  rintro e w3 ⟨rfl, hb⟩
  have B3 := Lib.hid (B2.out.trans (hb.mono B2.out.size))
  have KA3 := Lib.hid (KA2.out.below hb KA2.out.lt)
  clear hb
  clear B2 KA2
  go_simp
  rename_i hKK
  refine hKK _ _ ?_
  clear hKK
  try simp only [pu, sB, s0, sS]
  (with_reducible refine rN (v := ?_) ?_ ?_ ?_); rotate_left; (· rfl); (· go_simp; (try with_reducible rfl)); simp only [pu, sB, s0, sS]
  (with_reducible refine rN (v := .agg (rF 0 0 cellsZ)) ?_ ?_ ?_); (· rfl); (· go_simp; (try with_reducible rfl)); simp only [pu, sB, s0, sS]
  (with_reducible refine rN (v := ?_) ?_ ?_ ?_); rotate_left; (· rfl); (· go_simp; (try with_reducible rfl)); simp only [pu, sB, s0, sS]
  obtain ⟨w4, hw⟩ : ∃ v, v = w3.alloc (.cells (rF 0 0 cellsZ) 27) := ⟨_, rfl⟩
  obtain ⟨pB, hp⟩ : ∃ v, v = w3.heap.size := ⟨_, rfl⟩
  have B4 : Hid (Below w.heap.size w w4) := Lib.hid (by rw [hw]; exact B3.out.alloc B3.out.size _)
  have LEB : Hid (w.heap.size ≤ pB) := Lib.hid (by rw [hp]; exact B3.out.size)
  have KA4 := Lib.hid (show Blk w4 pA (rF k n (cellsF f fs)) 27 by rw [hw]; exact KA3.out.alloc _)
  have NEAB : Hid (pA ≠ pB) := Lib.hid (by rw [hp]; exact Nat.ne_of_lt KA3.out.lt)
  have NEBA : Hid (pB ≠ pA) := Lib.hid (Ne.symm NEAB.out)
  have KB4 : Hid (Blk w4 pB (rF 0 0 cellsZ) 27) := Lib.hid (by rw [hw, hp]; exact Blk.new _ _ _)
  with_reducible refine wpList_runWV (some 6) (v := .pointer (some ⟨pB, 0, none⟩)) (w' := w4) ?_ ?_ ?_ ?_
  · rfl
  · rfl
  · rw [hw, hp]; (go_simp; (try rfl))
  simp only [pu, sB, s0, sS]
  clear hw hp
  clear B3 KA3
  have KB5 := Lib.hid (KB4.out.stored (o := 0) (vs := (rF 0 0 cellsZ).toList) (cs' := (rF 0 0 cellsZ)) (laid_all (rF_sz cellsZ_size) (rF_sz cellsZ_size)))
  have KA5 := Lib.hid (KA4.out.wholeElse ((rF 0 0 cellsZ).toList) (o := 0) NEAB.out)
  have B5 := Lib.hid (below_whole ((rF 0 0 cellsZ).toList) (o := 0) B4.out LEB.out)
  with_reducible refine wpList_storeM (.tmp 6) (.tmp 20) (o := 0) (vs := (rF 0 0 cellsZ)) ?_ ?_ KB4.out ?_ (infoTRf18 (rF_sz cellsZ_size)) (rF_one cellsZ_one) ?_
  · rfl
  · rfl
  · exact (fit_2 (rF_sz cellsZ_size) (rF_sz cellsZ_size) (by decide))
  (try simp only [Act.put])
  generalize World.setCells _ _ _ _ = w5 at KA5 KB5 B5 ⊢
  clear B4 KA4 KB4
  (with_reducible refine rN (v := ?_) ?_ ?_ ?_); rotate_left; (· rfl); (· go_simp; (try with_reducible rfl)); simp only [pu, sB, s0, sS]
  go_upto_region 5 with fail
  refine wp_region_lit ?_
  with_reducible refine wpList_loadS (.tmp 2) ?_ ?_ KA5.out Tryz.underlying27 ?_ (infoTRf18 (rF_sz (cellsF_size f fs))) ?_
  · rfl
  · rfl
  · rfl
  simp only [pu, sB, s0, sS]
  go_wp2_with fail
  refine (HI.out _ B5.out).mono ?_
  rintro e w6 ⟨rfl, hb⟩
  have B6 := Lib.hid (B5.out.trans (hb.mono B5.out.size))
  have KA6 := Lib.hid (KA5.out.below hb KA5.out.lt)
  have KB6 := Lib.hid (KB5.out.below hb KB5.out.lt)
  clear hb
  clear B5 KA5 KB5
  go_simp
  rename_i hKK
  refine hKK _ _ ?_
  clear hKK
  try simp only [pu, sB, s0, sS]
  (with_reducible refine rN (v := .bool false) ?_ ?_ ?_); (· rfl); (· go_simp; (try with_reducible rfl)); simp only [pu, sB, s0, sS]
  go_upto_region 6 with fail
  refine wp_region_lit ?_
  (with_reducible refine rN (v := .bool false) ?_ ?_ ?_); (· rfl); (· go_simp; (try with_reducible rfl)); simp only [pu, sB, s0, sS]
  (with_reducible refine rN (v := ?_) ?_ ?_ ?_); rotate_left; (· rfl); (· go_simp; (try with_reducible rfl)); simp only [pu, sB, s0, sS]
  iterate 5 ((with_reducible refine rN (v := .bool false) ?_ ?_ ?_); (· rfl); (· go_simp; (try with_reducible rfl)); simp only [pu, sB, s0, sS])
  iterate 7 ((with_reducible refine kN ?_ ?_); (· rfl); simp only [pu, sB, s0, sS])
  iterate 2 ((with_reducible refine rN (v := .bool false) ?_ ?_ ?_); (· rfl); (· go_simp; (try with_reducible rfl)); simp only [pu, sB, s0, sS])
  go_upto_region 8 with fail
  refine wp_region_lit ?_
  (with_reducible refine rN (v := ?_) ?_ ?_ ?_); rotate_left; (· rfl); (· go_simp; (try with_reducible rfl)); simp only [pu, sB, s0, sS]
  go_wp2_with fail
  refine (HP.out _ B6.out).mono ?_
  rintro e w7 ⟨rfl, hb⟩
  have B7 := Lib.hid (B6.out.trans (hb.mono B6.out.size))
  have KA7 := Lib.hid (KA6.out.below hb KA6.out.lt)
  have KB7 := Lib.hid (KB6.out.below hb KB6.out.lt)
  clear hb
  clear B6 KA6 KB6
  go_simp
  rename_i hKK
  refine hKK _ _ ?_
  clear hKK
  try simp only [pu, sB, s0, sS]
  (with_reducible refine rN (v := ?_) ?_ ?_ ?_); rotate_left; (· rfl); (· go_simp; (try with_reducible rfl)); simp only [pu, sB, s0, sS]
  (with_reducible refine rN (v := .agg (rF 0 0 cellsZ)) ?_ ?_ ?_); (· rfl); (· go_simp; (try with_reducible rfl)); simp only [pu, sB, s0, sS]
  (with_reducible refine rN (v := ?_) ?_ ?_ ?_); rotate_left; (· rfl); (· go_simp; (try with_reducible rfl)); simp only [pu, sB, s0, sS]
  obtain ⟨w8, hw⟩ : ∃ v, v = w7.alloc (.cells (rF 0 0 cellsZ) 27) := ⟨_, rfl⟩
  obtain ⟨pD, hp⟩ : ∃ v, v = w7.heap.size := ⟨_, rfl⟩
  have B8 : Hid (Below w.heap.size w w8) := Lib.hid (by rw [hw]; exact B7.out.alloc B7.out.size _)
  have LED : Hid (w.heap.size ≤ pD) := Lib.hid (by rw [hp]; exact B7.out.size)
  have KA8 := Lib.hid (show Blk w8 pA (rF k n (cellsF f fs)) 27 by rw [hw]; exact KA7.out.alloc _)
  have NEAD : Hid (pA ≠ pD) := Lib.hid (by rw [hp]; exact Nat.ne_of_lt KA7.out.lt)
  have NEDA : Hid (pD ≠ pA) := Lib.hid (Ne.symm NEAD.out)
  have KB8 := Lib.hid (show Blk w8 pB (rF 0 0 cellsZ) 27 by rw [hw]; exact KB7.out.alloc _)
  have NEBD : Hid (pB ≠ pD) := Lib.hid (by rw [hp]; exact Nat.ne_of_lt KB7.out.lt)
  have NEDB : Hid (pD ≠ pB) := Lib.hid (Ne.symm NEBD.out)
  have KD8 : Hid (Blk w8 pD (rF 0 0 cellsZ) 27) := Lib.hid (by rw [hw, hp]; exact Blk.new _ _ _)
  with_reducible refine wpList_runWV (some 9) (v := .pointer (some ⟨pD, 0, none⟩)) (w' := w8) ?_ ?_ ?_ ?_
  · rfl
  · rfl
  · rw [hw, hp]; (go_simp; (try rfl))
  simp only [pu, sB, s0, sS]
  clear hw hp
  clear B7 KA7 KB7
  have KD9 := Lib.hid (KD8.out.stored (o := 0) (vs := (rF 0 0 cellsZ).toList) (cs' := (rF 0 0 cellsZ)) (laid_all (rF_sz cellsZ_size) (rF_sz cellsZ_size)))
  have KA9 := Lib.hid (KA8.out.wholeElse ((rF 0 0 cellsZ).toList) (o := 0) NEAD.out)
  have KB9 := Lib.hid (KB8.out.wholeElse ((rF 0 0 cellsZ).toList) (o := 0) NEBD.out)
  have B9 := Lib.hid (below_whole ((rF 0 0 cellsZ).toList) (o := 0) B8.out LED.out)
  with_reducible refine wpList_storeM (.tmp 9) (.tmp 43) (o := 0) (vs := (rF 0 0 cellsZ)) ?_ ?_ KD8.out ?_ (infoTRf18 (rF_sz cellsZ_size)) (rF_one cellsZ_one) ?_
  · rfl
  · rfl
  · exact (fit_2 (rF_sz cellsZ_size) (rF_sz cellsZ_size) (by decide))
  (try simp only [Act.put])
  generalize World.setCells _ _ _ _ = w9 at KA9 KB9 KD9 B9 ⊢
  clear B8 KA8 KB8 KD8
  (with_reducible refine rN (v := ?_) ?_ ?_ ?_); rotate_left; (· rfl); (· go_simp; (try with_reducible rfl)); simp only [pu, sB, s0, sS]
  go_upto_region 9 with fail
  refine wp_region_lit ?_
  go_wp2_with fail
  refine (HL.out _ B9.out).mono ?_
  rintro e w10 ⟨rfl, hb⟩
  have B10 := Lib.hid (B9.out.trans (hb.mono B9.out.size))
  have KA10 := Lib.hid (KA9.out.below hb KA9.out.lt)
  have KB10 := Lib.hid (KB9.out.below hb KB9.out.lt)
  have KD10 := Lib.hid (KD9.out.below hb KD9.out.lt)
  clear hb
  clear B9 KA9 KB9 KD9
  go_simp
  rename_i hKK
  refine hKK _ _ ?_
  clear hKK
  try simp only [pu, sB, s0, sS]
  (with_reducible refine rN (v := .bool true) ?_ ?_ ?_); (· rfl); (· go_simp; (try with_reducible rfl)); simp only [pu, sB, s0, sS]
  (with_reducible refine rN (v := ?_) ?_ ?_ ?_); rotate_left; (· rfl); (· go_simp; (try with_reducible rfl)); simp only [pu, sB, s0, sS]
  iterate 2 ((with_reducible refine rN (v := .bool true) ?_ ?_ ?_); (· rfl); (· go_simp; (try with_reducible rfl)); simp only [pu, sB, s0, sS])
  with_reducible refine wpList_loadS (.tmp 9) ?_ ?_ KD10.out Tryz.underlying27 ?_ (infoTRf18 (rF_sz cellsZ_size)) ?_
  · rfl
  · rfl
  · rfl
  simp only [pu, sB, s0, sS]
  (with_reducible refine rN (v := .agg (rF 0 0 cellsZ)) ?_ ?_ ?_); (· rfl); (· go_simp; rfl); simp only [pu, sB, s0, sS]
  iterate 3 ((with_reducible refine rN (v := .bool true) ?_ ?_ ?_); (· rfl); (· go_simp; (try with_reducible rfl)); simp only [pu, sB, s0, sS])
  iterate 12 ((with_reducible refine kN ?_ ?_); (· rfl); simp only [pu, sB, s0, sS])
  iterate 3 ((with_reducible refine rN (v := .bool true) ?_ ?_ ?_); (· rfl); (· go_simp; (try with_reducible rfl)); simp only [pu, sB, s0, sS])
  go_wp2_with fail
  go_ret
  exact ⟨rfl, B10.out⟩
end Go.Proofs.YtbcgkeclmioeiaaGreatDoor
namespace Go.Proofs.YtbcgkeclmioeiaaGreatDoor
open Go.RowKit
open Wd (Bs)

set_option maxHeartbeats 8000000 in
set_option maxRecDepth 100000 in
theorem specsLess (k n : Int) (f : Fil.Flt) (fs : ByteArray) (sp mo : Int) (w : World)
    (HL : Hid (∀ W, Below w.heap.size w W → Calls Tryz.prog 13 #[] W fun e w' => e = .returned (.bool true) ∧ Below W.heap.size W w')) (hl : mo < sp) :
    Calls Tryz.prog 7 #[.agg (rF k n (cellsF f fs)), .int .i64 sp, .int .i64 mo] w fun e w' => e = .returned (.bool true) ∧ Below w.heap.size w w' := by

  have B0 := Lib.hid (Below.refl w.heap.size w)
  go_enter Tryz.func7, Tryz.ntmps7
  go_upto_region 0 with fail
  refine wp_region_lit ?_
  obtain ⟨w1, hw⟩ : ∃ v, v = w.alloc (.cells (rF k n (cellsF f fs)) 27) := ⟨_, rfl⟩
  obtain ⟨pA, hp⟩ : ∃ v, v = w.heap.size := ⟨_, rfl⟩
  have B1 : Hid (Below w.heap.size w w1) := Lib.hid (by rw [hw]; exact B0.out.alloc B0.out.size _)
  have LEA : Hid (w.heap.size ≤ pA) := Lib.hid (by rw [hp]; exact B0.out.size)
  have KA1 : Hid (Blk w1 pA (rF k n (cellsF f fs)) 27) := Lib.hid (by rw [hw, hp]; exact Blk.new _ _ _)
  with_reducible refine wpList_runWV (some 3) (v := .pointer (some ⟨pA, 0, none⟩)) (w' := w1) ?_ ?_ ?_ ?_
  · rfl
  · rfl
  · rw [hw, hp]; (go_simp; (try rfl))
  simp only [pu, sB, s0, sS]
  clear hw hp
  clear B0
  (with_reducible refine rN (v := .bool false) ?_ ?_ ?_); (· rfl); (· go_simp; (try with_reducible rfl)); simp only [pu, sB, s0, sS]
  go_upto_region 1 with fail
  refine wp_region_lit ?_
  iterate 2 ((with_reducible refine rN (v := ?_) ?_ ?_ ?_); rotate_left; (· rfl); (· go_simp; (try with_reducible rfl)); simp only [pu, sB, s0, sS])
  (with_reducible refine rN (v := .bool true) ?_ ?_ ?_); (· rfl); (· go_simp; (try with_reducible rfl)); simp only [pu, sB, s0, sS]
  go_upto_region 2 with fail
  refine wp_region_lit ?_
  go_wp2_with fail
  refine (HL.out _ B1.out).mono ?_
  rintro e w2 ⟨rfl, hb⟩
  have B2 := Lib.hid (B1.out.trans (hb.mono B1.out.size))
  have KA2 := Lib.hid (KA1.out.below hb KA1.out.lt)
  clear hb
  clear B1 KA1
  go_simp
  rename_i hKK
  refine hKK _ _ ?_
  clear hKK
  try simp only [pu, sB, s0, sS]
  (with_reducible refine rN (v := ?_) ?_ ?_ ?_); rotate_left; (· rfl); (· go_simp; (try with_reducible rfl)); simp only [pu, sB, s0, sS]
  go_wp2_with fail
  go_ret
  exact ⟨rfl, B2.out⟩

set_option maxHeartbeats 8000000 in
set_option maxRecDepth 100000 in
theorem specs00 (k n : Int) (f : Fil.Flt) (fs : ByteArray) (sp mo : Int) (m4 : Bool) (w : World)
    (HL : Hid (∀ W, Below w.heap.size w W → Calls Tryz.prog 13 #[] W fun e w' => e = .returned (.bool true) ∧ Below W.heap.size W w')) (hl : ¬ mo < sp) (H1 : Hid (∀ W, Below w.heap.size w W → Calls Tryz.prog 14 #[.agg (rF k n (cellsF f fs)), .int .i64 sp] W fun e w' => e = .returned (.bool false) ∧ Below W.heap.size W w')) (H2 : Hid (∀ W, Below w.heap.size w W → Calls Tryz.prog 14 #[.agg (rF k n (cellsF f fs)), .int .i64 mo] W fun e w' => e = .returned (.bool false) ∧ Below W.heap.size W w')) (hm : decide (4 ≤ mo) = m4) (H4 : Hid (m4 = true → ∀ W, Below w.heap.size w W → Calls Tryz.prog 14 #[.agg (rF k n (cellsF f fs)), .int .i64 4] W fun e w' => e = .returned (.bool false) ∧ Below W.heap.size W w')) :
    Calls Tryz.prog 7 #[.agg (rF k n (cellsF f fs)), .int .i64 sp, .int .i64 mo] w fun e w' => e = .returned (.bool true) ∧ Below w.heap.size w w' := by

  have B0 := Lib.hid (Below.refl w.heap.size w)
  go_enter Tryz.func7, Tryz.ntmps7
  go_upto_region 0 with fail
  refine wp_region_lit ?_
  obtain ⟨w1, hw⟩ : ∃ v, v = w.alloc (.cells (rF k n (cellsF f fs)) 27) := ⟨_, rfl⟩
  obtain ⟨pA, hp⟩ : ∃ v, v = w.heap.size := ⟨_, rfl⟩
  have B1 : Hid (Below w.heap.size w w1) := Lib.hid (by rw [hw]; exact B0.out.alloc B0.out.size _)
  have LEA : Hid (w.heap.size ≤ pA) := Lib.hid (by rw [hp]; exact B0.out.size)
  have KA1 : Hid (Blk w1 pA (rF k n (cellsF f fs)) 27) := Lib.hid (by rw [hw, hp]; exact Blk.new _ _ _)
  with_reducible refine wpList_runWV (some 3) (v := .pointer (some ⟨pA, 0, none⟩)) (w' := w1) ?_ ?_ ?_ ?_
  · rfl
  · rfl
  · rw [hw, hp]; (go_simp; (try rfl))
  simp only [pu, sB, s0, sS]
  clear hw hp
  clear B0
  (with_reducible refine rN (v := .bool false) ?_ ?_ ?_); (· rfl); (· go_simp; (try with_reducible rfl)); simp only [pu, sB, s0, sS]
  go_upto_region 1 with fail
  refine wp_region_lit ?_
  iterate 2 ((with_reducible refine rN (v := ?_) ?_ ?_ ?_); rotate_left; (· rfl); (· go_simp; (try with_reducible rfl)); simp only [pu, sB, s0, sS])
  (with_reducible refine rN (v := .bool false) ?_ ?_ ?_); (· rfl); (· go_simp; (try with_reducible rfl)); simp only [pu, sB, s0, sS]
  go_upto_region 3 with fail
  refine wp_region_held_drew (S := (fun W : World => Blk W pA (rF k n (cellsF f fs)) 27)) (by kernel_rfl) ?_ (fun hHeld => ?_)
  · exact KA1.out.drew
  refine take_loadS 0 (some 13) rfl rfl (by kernel_rfl) (by kernel_rfl) (by kernel_rfl) (fun _ _ _ h => h) (by rfl) (.tmp 3) rfl (b := pA) (cs := (rF k n (cellsF f fs))) (by rfl) (fun W h => h) Tryz.underlying27 rfl (infoTRf18 (rF_sz (cellsF_size f fs))) (by assumption) ?_
  simp only [pu, sB, s0, sS]
  refine take_run 1 (some 14) (v := ?_) rfl rfl (by kernel_rfl) (by kernel_rfl) (by kernel_rfl) (fun _ _ _ h => h) (by rfl) ?_ (by assumption) ?_
  rotate_left
  · (intro W hSw; (try dsimp only at hSw); go_simp; (try with_reducible rfl))
  simp only [pu, sB, s0, sS]
  refine take_loadS 3 (some 16) rfl rfl (by kernel_rfl) (by kernel_rfl) (by kernel_rfl) (fun _ _ _ h => h) (by rfl) (.tmp 3) rfl (b := pA) (cs := (rF k n (cellsF f fs))) (by rfl) (fun W h => h) Tryz.underlying27 rfl (infoTRf18 (rF_sz (cellsF_size f fs))) (by assumption) ?_
  simp only [pu, sB, s0, sS]
  refine take_run 4 (some 17) (v := ?_) rfl rfl (by kernel_rfl) (by kernel_rfl) (by kernel_rfl) (fun _ _ _ h => h) (by rfl) ?_ (by assumption) ?_
  rotate_left
  · (intro W hSw; (try dsimp only at hSw); go_simp; (try with_reducible rfl))
  simp only [pu, sB, s0, sS]
  refine wpAnyH_ready (rs := [2]) (by kernel_rfl) (by simp) ?_
  refine AllReadyH.cons rfl (fun K1 hK1 => ?_) AllReadyH.nil
  go_simp
  go_at_call 14
  refine (callBase (C := w1.heap.size) (w0 := w1) (by go_grown) (Nat.le_refl _) (H1.out _ (B1.out.trans (Below.mono ((by go_grown) : Below w1.heap.size w1 _) B1.out.size)))).mono ?_
  rintro e wd1 ⟨rfl, hbd1⟩
  go_simp
  refine hK1.out _ _ ?_ (fun hHd1 => ?_)
  · exact KA1.out.below hbd1 KA1.out.lt
  clear hK1 K1 hHeld
  try simp only [pu, sB, s0, sS]
  refine wpAnyH_ready (rs := [5]) (by kernel_rfl) (by simp) ?_
  refine AllReadyH.cons rfl (fun K2 hK2 => ?_) AllReadyH.nil
  go_simp
  go_at_call 14
  refine (callBase (C := wd1.heap.size) (w0 := wd1) (Below.refl _ _) (Nat.le_refl _) (H2.out _ (B1.out.trans (Below.mono (hbd1 : Below w1.heap.size w1 _) B1.out.size)))).mono ?_
  rintro e wd2 ⟨rfl, hbs2⟩
  have hbd2 := hbd1.trans (hbs2.mono hbd1.size)
  go_simp
  refine hK2.out _ _ ?_ (fun hHd2 => ?_)
  · exact KA1.out.below hbd2 KA1.out.lt
  clear hK2 K2 hHd1
  try simp only [pu, sB, s0, sS]
  refine take_run 6 (some 7) (v := ?_) rfl rfl (by kernel_rfl) (by kernel_rfl) (by kernel_rfl) (fun _ _ _ h => h) (by rfl) ?_ (by assumption) ?_
  rotate_left
  · (intro W hSw; (try dsimp only at hSw); go_simp; (try with_reducible rfl))
  simp only [pu, sB, s0, sS]
  refine take_run 7 (some 8) (v := ?_) rfl rfl (by kernel_rfl) (by kernel_rfl) (by kernel_rfl) (fun _ _ _ h => h) (by rfl) ?_ (by assumption) ?_
  rotate_left
  · (intro W hSw; (try dsimp only at hSw); go_simp; (try with_reducible rfl))
  simp only [pu, sB, s0, sS]
  refine wpAnyH_done (by kernel_rfl) ?_ _
  have B2 := Lib.hid (B1.out.trans (hbd2.mono B1.out.size))
  have KA2 := Lib.hid (KA1.out.below hbd2 KA1.out.lt)
  cases m4 with
  | false =>
    go_upto_region 4 with fail
    refine wp_region_lit ?_
    iterate 2 ((with_reducible refine rN (v := .bool false) ?_ ?_ ?_); (· rfl); (· go_simp; (try with_reducible rfl)); simp only [pu, sB, s0, sS])
    iterate 2 ((with_reducible refine kN ?_ ?_); (· rfl); simp only [pu, sB, s0, sS])
    iterate 2 ((with_reducible refine rN (v := .bool false) ?_ ?_ ?_); (· rfl); (· go_simp; (try with_reducible rfl)); simp only [pu, sB, s0, sS])
    (with_reducible refine rN (v := ?_) ?_ ?_ ?_); rotate_left; (· rfl); (· go_simp; (try with_reducible rfl)); simp only [pu, sB, s0, sS]
    iterate 2 ((with_reducible refine rN (v := .bool false) ?_ ?_ ?_); (· rfl); (· go_simp; (try with_reducible rfl)); simp only [pu, sB, s0, sS])
    iterate 4 ((with_reducible refine kN ?_ ?_); (· rfl); simp only [pu, sB, s0, sS])
    iterate 2 ((with_reducible refine rN (v := .bool false) ?_ ?_ ?_); (· rfl); (· go_simp; (try with_reducible rfl)); simp only [pu, sB, s0, sS])
    go_upto_region 6 with fail
    refine wp_region_lit ?_
    go_wp2_with fail
    refine (HL.out _ B2.out).mono ?_
    rintro e w3 ⟨rfl, hb⟩
    have B3 := Lib.hid (B2.out.trans (hb.mono B2.out.size))
    have KA3 := Lib.hid (KA2.out.below hb KA2.out.lt)
    clear hb
    clear B2 KA2
    go_simp
    rename_i hKK
    refine hKK _ _ ?_
    clear hKK
    try simp only [pu, sB, s0, sS]
    (with_reducible refine rN (v := .bool true) ?_ ?_ ?_); (· rfl); (· go_simp; (try with_reducible rfl)); simp only [pu, sB, s0, sS]
    iterate 2 ((with_reducible refine rN (v := .bool false) ?_ ?_ ?_); (· rfl); (· go_simp; (try with_reducible rfl)); simp only [pu, sB, s0, sS])
    iterate 2 ((with_reducible refine rN (v := .bool true) ?_ ?_ ?_); (· rfl); (· go_simp; (try with_reducible rfl)); simp only [pu, sB, s0, sS])
    iterate 3 ((with_reducible refine kN ?_ ?_); (· rfl); simp only [pu, sB, s0, sS])
    iterate 2 ((with_reducible refine rN (v := .bool true) ?_ ?_ ?_); (· rfl); (· go_simp; (try with_reducible rfl)); simp only [pu, sB, s0, sS])
    iterate 3 ((with_reducible refine kN ?_ ?_); (· rfl); simp only [pu, sB, s0, sS])
    iterate 3 ((with_reducible refine rN (v := .bool true) ?_ ?_ ?_); (· rfl); (· go_simp; (try with_reducible rfl)); simp only [pu, sB, s0, sS])
    go_wp2_with fail
    go_ret
    exact ⟨rfl, B3.out⟩
  | true =>
    have H4x := Lib.hid (H4.out rfl)
    go_upto_region 4 with fail
    refine wp_region_lit ?_
    iterate 2 ((with_reducible refine rN (v := .bool false) ?_ ?_ ?_); (· rfl); (· go_simp; (try with_reducible rfl)); simp only [pu, sB, s0, sS])
    iterate 2 ((with_reducible refine kN ?_ ?_); (· rfl); simp only [pu, sB, s0, sS])
    iterate 2 ((with_reducible refine rN (v := .bool false) ?_ ?_ ?_); (· rfl); (· go_simp; (try with_reducible rfl)); simp only [pu, sB, s0, sS])
    (with_reducible refine rN (v := ?_) ?_ ?_ ?_); rotate_left; (· rfl); (· go_simp; (try with_reducible rfl)); simp only [pu, sB, s0, sS]
    iterate 2 ((with_reducible refine rN (v := .bool true) ?_ ?_ ?_); (· rfl); (· go_simp; (try with_reducible rfl)); simp only [pu, sB, s0, sS])
    (with_reducible refine rN (v := .bool false) ?_ ?_ ?_); (· rfl); (· go_simp; (try with_reducible rfl)); simp only [pu, sB, s0, sS]
    with_reducible refine wpList_loadS (.tmp 3) ?_ ?_ KA2.out Tryz.underlying27 ?_ (infoTRf18 (rF_sz (cellsF_size f fs))) ?_
    · rfl
    · rfl
    · rfl
    simp only [pu, sB, s0, sS]
    go_wp2_with fail
    refine (H4x.out _ B2.out).mono ?_
    rintro e w3 ⟨rfl, hb⟩
    have B3 := Lib.hid (B2.out.trans (hb.mono B2.out.size))
    have KA3 := Lib.hid (KA2.out.below hb KA2.out.lt)
    clear hb
    clear B2 KA2
    go_simp
    rename_i hKK
    refine hKK _ _ ?_
    clear hKK
    try simp only [pu, sB, s0, sS]
    iterate 3 ((with_reducible refine rN (v := .bool false) ?_ ?_ ?_); (· rfl); (· go_simp; (try with_reducible rfl)); simp only [pu, sB, s0, sS])
    go_upto_region 6 with fail
    refine wp_region_lit ?_
    go_wp2_with fail
    refine (HL.out _ B3.out).mono ?_
    rintro e w4 ⟨rfl, hb⟩
    have B4 := Lib.hid (B3.out.trans (hb.mono B3.out.size))
    have KA4 := Lib.hid (KA3.out.below hb KA3.out.lt)
    clear hb
    clear B3 KA3
    go_simp
    rename_i hKK
    refine hKK _ _ ?_
    clear hKK
    try simp only [pu, sB, s0, sS]
    (with_reducible refine rN (v := .bool true) ?_ ?_ ?_); (· rfl); (· go_simp; (try with_reducible rfl)); simp only [pu, sB, s0, sS]
    iterate 2 ((with_reducible refine rN (v := .bool false) ?_ ?_ ?_); (· rfl); (· go_simp; (try with_reducible rfl)); simp only [pu, sB, s0, sS])
    iterate 2 ((with_reducible refine rN (v := .bool true) ?_ ?_ ?_); (· rfl); (· go_simp; (try with_reducible rfl)); simp only [pu, sB, s0, sS])
    iterate 3 ((with_reducible refine kN ?_ ?_); (· rfl); simp only [pu, sB, s0, sS])
    iterate 2 ((with_reducible refine rN (v := .bool true) ?_ ?_ ?_); (· rfl); (· go_simp; (try with_reducible rfl)); simp only [pu, sB, s0, sS])
    iterate 3 ((with_reducible refine kN ?_ ?_); (· rfl); simp only [pu, sB, s0, sS])
    iterate 3 ((with_reducible refine rN (v := .bool true) ?_ ?_ ?_); (· rfl); (· go_simp; (try with_reducible rfl)); simp only [pu, sB, s0, sS])
    go_wp2_with fail
    go_ret
    exact ⟨rfl, B4.out⟩

set_option maxHeartbeats 8000000 in
set_option maxRecDepth 100000 in
theorem specs11 (k n : Int) (f : Fil.Flt) (fs : ByteArray) (sp mo : Int) (m4 : Bool) (w : World)
    (HL : Hid (∀ W, Below w.heap.size w W → Calls Tryz.prog 13 #[] W fun e w' => e = .returned (.bool true) ∧ Below W.heap.size W w')) (hl : ¬ mo < sp) (H1 : Hid (∀ W, Below w.heap.size w W → Calls Tryz.prog 14 #[.agg (rF k n (cellsF f fs)), .int .i64 sp] W fun e w' => e = .returned (.bool true) ∧ Below W.heap.size W w')) (H2 : Hid (∀ W, Below w.heap.size w W → Calls Tryz.prog 14 #[.agg (rF k n (cellsF f fs)), .int .i64 mo] W fun e w' => e = .returned (.bool true) ∧ Below W.heap.size W w')) (hm : decide (4 ≤ mo) = m4) (H4 : Hid (m4 = true → ∀ W, Below w.heap.size w W → Calls Tryz.prog 14 #[.agg (rF k n (cellsF f fs)), .int .i64 4] W fun e w' => e = .returned (.bool true) ∧ Below W.heap.size W w')) :
    Calls Tryz.prog 7 #[.agg (rF k n (cellsF f fs)), .int .i64 sp, .int .i64 mo] w fun e w' => e = .returned (.bool true) ∧ Below w.heap.size w w' := by

  have B0 := Lib.hid (Below.refl w.heap.size w)
  go_enter Tryz.func7, Tryz.ntmps7
  go_upto_region 0 with fail
  refine wp_region_lit ?_
  obtain ⟨w1, hw⟩ : ∃ v, v = w.alloc (.cells (rF k n (cellsF f fs)) 27) := ⟨_, rfl⟩
  obtain ⟨pA, hp⟩ : ∃ v, v = w.heap.size := ⟨_, rfl⟩
  have B1 : Hid (Below w.heap.size w w1) := Lib.hid (by rw [hw]; exact B0.out.alloc B0.out.size _)
  have LEA : Hid (w.heap.size ≤ pA) := Lib.hid (by rw [hp]; exact B0.out.size)
  have KA1 : Hid (Blk w1 pA (rF k n (cellsF f fs)) 27) := Lib.hid (by rw [hw, hp]; exact Blk.new _ _ _)
  with_reducible refine wpList_runWV (some 3) (v := .pointer (some ⟨pA, 0, none⟩)) (w' := w1) ?_ ?_ ?_ ?_
  · rfl
  · rfl
  · rw [hw, hp]; (go_simp; (try rfl))
  simp only [pu, sB, s0, sS]
  clear hw hp
  clear B0
  (with_reducible refine rN (v := .bool false) ?_ ?_ ?_); (· rfl); (· go_simp; (try with_reducible rfl)); simp only [pu, sB, s0, sS]
  go_upto_region 1 with fail
  refine wp_region_lit ?_
  iterate 2 ((with_reducible refine rN (v := ?_) ?_ ?_ ?_); rotate_left; (· rfl); (· go_simp; (try with_reducible rfl)); simp only [pu, sB, s0, sS])
  (with_reducible refine rN (v := .bool false) ?_ ?_ ?_); (· rfl); (· go_simp; (try with_reducible rfl)); simp only [pu, sB, s0, sS]
  go_upto_region 3 with fail
  refine wp_region_held_drew (S := (fun W : World => Blk W pA (rF k n (cellsF f fs)) 27)) (by kernel_rfl) ?_ (fun hHeld => ?_)
  · exact KA1.out.drew
  refine take_loadS 0 (some 13) rfl rfl (by kernel_rfl) (by kernel_rfl) (by kernel_rfl) (fun _ _ _ h => h) (by rfl) (.tmp 3) rfl (b := pA) (cs := (rF k n (cellsF f fs))) (by rfl) (fun W h => h) Tryz.underlying27 rfl (infoTRf18 (rF_sz (cellsF_size f fs))) (by assumption) ?_
  simp only [pu, sB, s0, sS]
  refine take_run 1 (some 14) (v := ?_) rfl rfl (by kernel_rfl) (by kernel_rfl) (by kernel_rfl) (fun _ _ _ h => h) (by rfl) ?_ (by assumption) ?_
  rotate_left
  · (intro W hSw; (try dsimp only at hSw); go_simp; (try with_reducible rfl))
  simp only [pu, sB, s0, sS]
  refine take_loadS 3 (some 16) rfl rfl (by kernel_rfl) (by kernel_rfl) (by kernel_rfl) (fun _ _ _ h => h) (by rfl) (.tmp 3) rfl (b := pA) (cs := (rF k n (cellsF f fs))) (by rfl) (fun W h => h) Tryz.underlying27 rfl (infoTRf18 (rF_sz (cellsF_size f fs))) (by assumption) ?_
  simp only [pu, sB, s0, sS]
  refine take_run 4 (some 17) (v := ?_) rfl rfl (by kernel_rfl) (by kernel_rfl) (by kernel_rfl) (fun _ _ _ h => h) (by rfl) ?_ (by assumption) ?_
  rotate_left
  · (intro W hSw; (try dsimp only at hSw); go_simp; (try with_reducible rfl))
  simp only [pu, sB, s0, sS]
  refine wpAnyH_ready (rs := [2]) (by kernel_rfl) (by simp) ?_
  refine AllReadyH.cons rfl (fun K1 hK1 => ?_) AllReadyH.nil
  go_simp
  go_at_call 14
  refine (callBase (C := w1.heap.size) (w0 := w1) (by go_grown) (Nat.le_refl _) (H1.out _ (B1.out.trans (Below.mono ((by go_grown) : Below w1.heap.size w1 _) B1.out.size)))).mono ?_
  rintro e wd1 ⟨rfl, hbd1⟩
  go_simp
  refine hK1.out _ _ ?_ (fun hHd1 => ?_)
  · exact KA1.out.below hbd1 KA1.out.lt
  clear hK1 K1 hHeld
  try simp only [pu, sB, s0, sS]
  refine wpAnyH_ready (rs := [5]) (by kernel_rfl) (by simp) ?_
  refine AllReadyH.cons rfl (fun K2 hK2 => ?_) AllReadyH.nil
  go_simp
  go_at_call 14
  refine (callBase (C := wd1.heap.size) (w0 := wd1) (Below.refl _ _) (Nat.le_refl _) (H2.out _ (B1.out.trans (Below.mono (hbd1 : Below w1.heap.size w1 _) B1.out.size)))).mono ?_
  rintro e wd2 ⟨rfl, hbs2⟩
  have hbd2 := hbd1.trans (hbs2.mono hbd1.size)
  go_simp
  refine hK2.out _ _ ?_ (fun hHd2 => ?_)
  · exact KA1.out.below hbd2 KA1.out.lt
  clear hK2 K2 hHd1
  try simp only [pu, sB, s0, sS]
  refine take_run 6 (some 7) (v := ?_) rfl rfl (by kernel_rfl) (by kernel_rfl) (by kernel_rfl) (fun _ _ _ h => h) (by rfl) ?_ (by assumption) ?_
  rotate_left
  · (intro W hSw; (try dsimp only at hSw); go_simp; (try with_reducible rfl))
  simp only [pu, sB, s0, sS]
  refine take_run 7 (some 8) (v := ?_) rfl rfl (by kernel_rfl) (by kernel_rfl) (by kernel_rfl) (fun _ _ _ h => h) (by rfl) ?_ (by assumption) ?_
  rotate_left
  · (intro W hSw; (try dsimp only at hSw); go_simp; (try with_reducible rfl))
  simp only [pu, sB, s0, sS]
  refine wpAnyH_done (by kernel_rfl) ?_ _
  have B2 := Lib.hid (B1.out.trans (hbd2.mono B1.out.size))
  have KA2 := Lib.hid (KA1.out.below hbd2 KA1.out.lt)
  cases m4 with
  | false =>
    go_upto_region 4 with fail
    refine wp_region_lit ?_
    iterate 3 ((with_reducible refine rN (v := .bool true) ?_ ?_ ?_); (· rfl); (· go_simp; (try with_reducible rfl)); simp only [pu, sB, s0, sS])
    iterate 3 ((with_reducible refine rN (v := .bool false) ?_ ?_ ?_); (· rfl); (· go_simp; (try with_reducible rfl)); simp only [pu, sB, s0, sS])
    (with_reducible refine rN (v := ?_) ?_ ?_ ?_); rotate_left; (· rfl); (· go_simp; (try with_reducible rfl)); simp only [pu, sB, s0, sS]
    iterate 2 ((with_reducible refine rN (v := .bool false) ?_ ?_ ?_); (· rfl); (· go_simp; (try with_reducible rfl)); simp only [pu, sB, s0, sS])
    iterate 4 ((with_reducible refine kN ?_ ?_); (· rfl); simp only [pu, sB, s0, sS])
    iterate 2 ((with_reducible refine rN (v := .bool false) ?_ ?_ ?_); (· rfl); (· go_simp; (try with_reducible rfl)); simp only [pu, sB, s0, sS])
    go_upto_region 6 with fail
    refine wp_region_lit ?_
    go_wp2_with fail
    refine (HL.out _ B2.out).mono ?_
    rintro e w3 ⟨rfl, hb⟩
    have B3 := Lib.hid (B2.out.trans (hb.mono B2.out.size))
    have KA3 := Lib.hid (KA2.out.below hb KA2.out.lt)
    clear hb
    clear B2 KA2
    go_simp
    rename_i hKK
    refine hKK _ _ ?_
    clear hKK
    try simp only [pu, sB, s0, sS]
    iterate 5 ((with_reducible refine rN (v := .bool true) ?_ ?_ ?_); (· rfl); (· go_simp; (try with_reducible rfl)); simp only [pu, sB, s0, sS])
    iterate 3 ((with_reducible refine kN ?_ ?_); (· rfl); simp only [pu, sB, s0, sS])
    iterate 2 ((with_reducible refine rN (v := .bool true) ?_ ?_ ?_); (· rfl); (· go_simp; (try with_reducible rfl)); simp only [pu, sB, s0, sS])
    iterate 3 ((with_reducible refine kN ?_ ?_); (· rfl); simp only [pu, sB, s0, sS])
    iterate 3 ((with_reducible refine rN (v := .bool true) ?_ ?_ ?_); (· rfl); (· go_simp; (try with_reducible rfl)); simp only [pu, sB, s0, sS])
    go_wp2_with fail
    go_ret
    exact ⟨rfl, B3.out⟩
  | true =>
    have H4x := Lib.hid (H4.out rfl)
    go_upto_region 4 with fail
    refine wp_region_lit ?_
    iterate 3 ((with_reducible refine rN (v := .bool true) ?_ ?_ ?_); (· rfl); (· go_simp; (try with_reducible rfl)); simp only [pu, sB, s0, sS])
    iterate 3 ((with_reducible refine rN (v := .bool false) ?_ ?_ ?_); (· rfl); (· go_simp; (try with_reducible rfl)); simp only [pu, sB, s0, sS])
    (with_reducible refine rN (v := ?_) ?_ ?_ ?_); rotate_left; (· rfl); (· go_simp; (try with_reducible rfl)); simp only [pu, sB, s0, sS]
    iterate 3 ((with_reducible refine rN (v := .bool true) ?_ ?_ ?_); (· rfl); (· go_simp; (try with_reducible rfl)); simp only [pu, sB, s0, sS])
    with_reducible refine wpList_loadS (.tmp 3) ?_ ?_ KA2.out Tryz.underlying27 ?_ (infoTRf18 (rF_sz (cellsF_size f fs))) ?_
    · rfl
    · rfl
    · rfl
    simp only [pu, sB, s0, sS]
    go_wp2_with fail
    refine (H4x.out _ B2.out).mono ?_
    rintro e w3 ⟨rfl, hb⟩
    have B3 := Lib.hid (B2.out.trans (hb.mono B2.out.size))
    have KA3 := Lib.hid (KA2.out.below hb KA2.out.lt)
    clear hb
    clear B2 KA2
    go_simp
    rename_i hKK
    refine hKK _ _ ?_
    clear hKK
    try simp only [pu, sB, s0, sS]
    iterate 3 ((with_reducible refine rN (v := .bool false) ?_ ?_ ?_); (· rfl); (· go_simp; (try with_reducible rfl)); simp only [pu, sB, s0, sS])
    go_upto_region 6 with fail
    refine wp_region_lit ?_
    go_wp2_with fail
    refine (HL.out _ B3.out).mono ?_
    rintro e w4 ⟨rfl, hb⟩
    have B4 := Lib.hid (B3.out.trans (hb.mono B3.out.size))
    have KA4 := Lib.hid (KA3.out.below hb KA3.out.lt)
    clear hb
    clear B3 KA3
    go_simp
    rename_i hKK
    refine hKK _ _ ?_
    clear hKK
    try simp only [pu, sB, s0, sS]
    iterate 5 ((with_reducible refine rN (v := .bool true) ?_ ?_ ?_); (· rfl); (· go_simp; (try with_reducible rfl)); simp only [pu, sB, s0, sS])
    iterate 3 ((with_reducible refine kN ?_ ?_); (· rfl); simp only [pu, sB, s0, sS])
    iterate 2 ((with_reducible refine rN (v := .bool true) ?_ ?_ ?_); (· rfl); (· go_simp; (try with_reducible rfl)); simp only [pu, sB, s0, sS])
    iterate 3 ((with_reducible refine kN ?_ ?_); (· rfl); simp only [pu, sB, s0, sS])
    iterate 3 ((with_reducible refine rN (v := .bool true) ?_ ?_ ?_); (· rfl); (· go_simp; (try with_reducible rfl)); simp only [pu, sB, s0, sS])
    go_wp2_with fail
    go_ret
    exact ⟨rfl, B4.out⟩

set_option maxHeartbeats 8000000 in
set_option maxRecDepth 100000 in
theorem specs01 (k n : Int) (f : Fil.Flt) (fs : ByteArray) (sp mo : Int) (m4 k3 : Bool) (w : World)
    (HL : Hid (∀ W, Below w.heap.size w W → Calls Tryz.prog 13 #[] W fun e w' => e = .returned (.bool true) ∧ Below W.heap.size W w')) (hl : ¬ mo < sp) (H1 : Hid (∀ W, Below w.heap.size w W → Calls Tryz.prog 14 #[.agg (rF k n (cellsF f fs)), .int .i64 sp] W fun e w' => e = .returned (.bool false) ∧ Below W.heap.size W w')) (H2 : Hid (∀ W, Below w.heap.size w W → Calls Tryz.prog 14 #[.agg (rF k n (cellsF f fs)), .int .i64 mo] W fun e w' => e = .returned (.bool true) ∧ Below W.heap.size W w')) (hm : decide (4 ≤ mo) = m4) (H4 : Hid (m4 = true → ∀ W, Below w.heap.size w W → Calls Tryz.prog 14 #[.agg (rF k n (cellsF f fs)), .int .i64 4] W fun e w' => e = .returned (.bool true) ∧ Below W.heap.size W w')) (h3 : (k == 3) = k3) (h8 : k3 = false → (k == 8) = true) :
    Calls Tryz.prog 7 #[.agg (rF k n (cellsF f fs)), .int .i64 sp, .int .i64 mo] w fun e w' => e = .returned (.bool true) ∧ Below w.heap.size w w' := by

  have B0 := Lib.hid (Below.refl w.heap.size w)
  go_enter Tryz.func7, Tryz.ntmps7
  go_upto_region 0 with fail
  refine wp_region_lit ?_
  obtain ⟨w1, hw⟩ : ∃ v, v = w.alloc (.cells (rF k n (cellsF f fs)) 27) := ⟨_, rfl⟩
  obtain ⟨pA, hp⟩ : ∃ v, v = w.heap.size := ⟨_, rfl⟩
  have B1 : Hid (Below w.heap.size w w1) := Lib.hid (by rw [hw]; exact B0.out.alloc B0.out.size _)
  have LEA : Hid (w.heap.size ≤ pA) := Lib.hid (by rw [hp]; exact B0.out.size)
  have KA1 : Hid (Blk w1 pA (rF k n (cellsF f fs)) 27) := Lib.hid (by rw [hw, hp]; exact Blk.new _ _ _)
  with_reducible refine wpList_runWV (some 3) (v := .pointer (some ⟨pA, 0, none⟩)) (w' := w1) ?_ ?_ ?_ ?_
  · rfl
  · rfl
  · rw [hw, hp]; (go_simp; (try rfl))
  simp only [pu, sB, s0, sS]
  clear hw hp
  clear B0
  (with_reducible refine rN (v := .bool false) ?_ ?_ ?_); (· rfl); (· go_simp; (try with_reducible rfl)); simp only [pu, sB, s0, sS]
  go_upto_region 1 with fail
  refine wp_region_lit ?_
  iterate 2 ((with_reducible refine rN (v := ?_) ?_ ?_ ?_); rotate_left; (· rfl); (· go_simp; (try with_reducible rfl)); simp only [pu, sB, s0, sS])
  (with_reducible refine rN (v := .bool false) ?_ ?_ ?_); (· rfl); (· go_simp; (try with_reducible rfl)); simp only [pu, sB, s0, sS]
  go_upto_region 3 with fail
  refine wp_region_held_drew (S := (fun W : World => Blk W pA (rF k n (cellsF f fs)) 27)) (by kernel_rfl) ?_ (fun hHeld => ?_)
  · exact KA1.out.drew
  refine take_loadS 0 (some 13) rfl rfl (by kernel_rfl) (by kernel_rfl) (by kernel_rfl) (fun _ _ _ h => h) (by rfl) (.tmp 3) rfl (b := pA) (cs := (rF k n (cellsF f fs))) (by rfl) (fun W h => h) Tryz.underlying27 rfl (infoTRf18 (rF_sz (cellsF_size f fs))) (by assumption) ?_
  simp only [pu, sB, s0, sS]
  refine take_run 1 (some 14) (v := ?_) rfl rfl (by kernel_rfl) (by kernel_rfl) (by kernel_rfl) (fun _ _ _ h => h) (by rfl) ?_ (by assumption) ?_
  rotate_left
  · (intro W hSw; (try dsimp only at hSw); go_simp; (try with_reducible rfl))
  simp only [pu, sB, s0, sS]
  refine take_loadS 3 (some 16) rfl rfl (by kernel_rfl) (by kernel_rfl) (by kernel_rfl) (fun _ _ _ h => h) (by rfl) (.tmp 3) rfl (b := pA) (cs := (rF k n (cellsF f fs))) (by rfl) (fun W h => h) Tryz.underlying27 rfl (infoTRf18 (rF_sz (cellsF_size f fs))) (by assumption) ?_
  simp only [pu, sB, s0, sS]
  refine take_run 4 (some 17) (v := ?_) rfl rfl (by kernel_rfl) (by kernel_rfl) (by kernel_rfl) (fun _ _ _ h => h) (by rfl) ?_ (by assumption) ?_
  rotate_left
  · (intro W hSw; (try dsimp only at hSw); go_simp; (try with_reducible rfl))
  simp only [pu, sB, s0, sS]
  refine wpAnyH_ready (rs := [2]) (by kernel_rfl) (by simp) ?_
  refine AllReadyH.cons rfl (fun K1 hK1 => ?_) AllReadyH.nil
  go_simp
  go_at_call 14
  refine (callBase (C := w1.heap.size) (w0 := w1) (by go_grown) (Nat.le_refl _) (H1.out _ (B1.out.trans (Below.mono ((by go_grown) : Below w1.heap.size w1 _) B1.out.size)))).mono ?_
  rintro e wd1 ⟨rfl, hbd1⟩
  go_simp
  refine hK1.out _ _ ?_ (fun hHd1 => ?_)
  · exact KA1.out.below hbd1 KA1.out.lt
  clear hK1 K1 hHeld
  try simp only [pu, sB, s0, sS]
  refine wpAnyH_ready (rs := [5]) (by kernel_rfl) (by simp) ?_
  refine AllReadyH.cons rfl (fun K2 hK2 => ?_) AllReadyH.nil
  go_simp
  go_at_call 14
  refine (callBase (C := wd1.heap.size) (w0 := wd1) (Below.refl _ _) (Nat.le_refl _) (H2.out _ (B1.out.trans (Below.mono (hbd1 : Below w1.heap.size w1 _) B1.out.size)))).mono ?_
  rintro e wd2 ⟨rfl, hbs2⟩
  have hbd2 := hbd1.trans (hbs2.mono hbd1.size)
  go_simp
  refine hK2.out _ _ ?_ (fun hHd2 => ?_)
  · exact KA1.out.below hbd2 KA1.out.lt
  clear hK2 K2 hHd1
  try simp only [pu, sB, s0, sS]
  refine take_run 6 (some 7) (v := ?_) rfl rfl (by kernel_rfl) (by kernel_rfl) (by kernel_rfl) (fun _ _ _ h => h) (by rfl) ?_ (by assumption) ?_
  rotate_left
  · (intro W hSw; (try dsimp only at hSw); go_simp; (try with_reducible rfl))
  simp only [pu, sB, s0, sS]
  refine take_run 7 (some 8) (v := ?_) rfl rfl (by kernel_rfl) (by kernel_rfl) (by kernel_rfl) (fun _ _ _ h => h) (by rfl) ?_ (by assumption) ?_
  rotate_left
  · (intro W hSw; (try dsimp only at hSw); go_simp; (try with_reducible rfl))
  simp only [pu, sB, s0, sS]
  refine wpAnyH_done (by kernel_rfl) ?_ _
  have B2 := Lib.hid (B1.out.trans (hbd2.mono B1.out.size))
  have KA2 := Lib.hid (KA1.out.below hbd2 KA1.out.lt)
  cases m4 with
  | false =>
    go_upto_region 4 with fail
    refine wp_region_lit ?_
    iterate 2 ((with_reducible refine rN (v := .bool false) ?_ ?_ ?_); (· rfl); (· go_simp; (try with_reducible rfl)); simp only [pu, sB, s0, sS])
    iterate 2 ((with_reducible refine kN ?_ ?_); (· rfl); simp only [pu, sB, s0, sS])
    iterate 2 ((with_reducible refine rN (v := .bool false) ?_ ?_ ?_); (· rfl); (· go_simp; (try with_reducible rfl)); simp only [pu, sB, s0, sS])
    (with_reducible refine rN (v := ?_) ?_ ?_ ?_); rotate_left; (· rfl); (· go_simp; (try with_reducible rfl)); simp only [pu, sB, s0, sS]
    iterate 2 ((with_reducible refine rN (v := .bool false) ?_ ?_ ?_); (· rfl); (· go_simp; (try with_reducible rfl)); simp only [pu, sB, s0, sS])
    iterate 4 ((with_reducible refine kN ?_ ?_); (· rfl); simp only [pu, sB, s0, sS])
    iterate 2 ((with_reducible refine rN (v := .bool false) ?_ ?_ ?_); (· rfl); (· go_simp; (try with_reducible rfl)); simp only [pu, sB, s0, sS])
    cases k3 with
    | false =>
      have e8 := h8 rfl
      go_upto_region 6 with fail
      refine wp_region_lit ?_
      go_wp2_with fail
      refine (HL.out _ B2.out).mono ?_
      rintro e w3 ⟨rfl, hb⟩
      have B3 := Lib.hid (B2.out.trans (hb.mono B2.out.size))
      have KA3 := Lib.hid (KA2.out.below hb KA2.out.lt)
      clear hb
      clear B2 KA2
      go_simp
      rename_i hKK
      refine hKK _ _ ?_
      clear hKK
      try simp only [pu, sB, s0, sS]
      (with_reducible refine rN (v := .bool true) ?_ ?_ ?_); (· rfl); (· go_simp; (try with_reducible rfl)); simp only [pu, sB, s0, sS]
      (with_reducible refine rN (v := .bool false) ?_ ?_ ?_); (· rfl); (· go_simp; (try with_reducible rfl)); simp only [pu, sB, s0, sS]
      (with_reducible refine rN (v := .bool true) ?_ ?_ ?_); (· rfl); (· go_simp; (try with_reducible rfl)); simp only [pu, sB, s0, sS]
      iterate 2 ((with_reducible refine rN (v := .bool false) ?_ ?_ ?_); (· rfl); (· go_simp; (try with_reducible rfl)); simp only [pu, sB, s0, sS])
      (with_reducible refine rN (v := .pointer (some ⟨pA, 0, none⟩)) ?_ ?_ ?_); (· rfl); (· go_simp; (try rfl)); simp only [pu, sB, s0, sS]
      with_reducible refine wpList_loadV (.tmp 40) (j := 0) (v := .int .i64 k) ?_ ?_ KA3.out ?_ Tryz.underlying3 ?_ ?_
      · rfl
      · rfl
      · exact rF_0
      · rfl
      simp only [pu, sB, s0, sS]
      iterate 3 ((with_reducible refine rN (v := .bool false) ?_ ?_ ?_); (· rfl); (· go_simp; (try with_reducible rfl)); simp only [pu, sB, s0, sS])
      (with_reducible refine rN (v := .pointer (some ⟨pA, 0, none⟩)) ?_ ?_ ?_); (· rfl); (· go_simp; (try rfl)); simp only [pu, sB, s0, sS]
      with_reducible refine wpList_loadV (.tmp 45) (j := 0) (v := .int .i64 k) ?_ ?_ KA3.out ?_ Tryz.underlying3 ?_ ?_
      · rfl
      · rfl
      · exact rF_0
      · rfl
      simp only [pu, sB, s0, sS]
      iterate 4 ((with_reducible refine rN (v := .bool true) ?_ ?_ ?_); (· rfl); (· go_simp; (try with_reducible rfl)); simp only [pu, sB, s0, sS])
      go_wp2_with fail
      go_ret
      exact ⟨rfl, B3.out⟩
    | true =>
      go_upto_region 6 with fail
      refine wp_region_lit ?_
      go_wp2_with fail
      refine (HL.out _ B2.out).mono ?_
      rintro e w3 ⟨rfl, hb⟩
      have B3 := Lib.hid (B2.out.trans (hb.mono B2.out.size))
      have KA3 := Lib.hid (KA2.out.below hb KA2.out.lt)
      clear hb
      clear B2 KA2
      go_simp
      rename_i hKK
      refine hKK _ _ ?_
      clear hKK
      try simp only [pu, sB, s0, sS]
      (with_reducible refine rN (v := .bool true) ?_ ?_ ?_); (· rfl); (· go_simp; (try with_reducible rfl)); simp only [pu, sB, s0, sS]
      (with_reducible refine rN (v := .bool false) ?_ ?_ ?_); (· rfl); (· go_simp; (try with_reducible rfl)); simp only [pu, sB, s0, sS]
      (with_reducible refine rN (v := .bool true) ?_ ?_ ?_); (· rfl); (· go_simp; (try with_reducible rfl)); simp only [pu, sB, s0, sS]
      iterate 2 ((with_reducible refine rN (v := .bool false) ?_ ?_ ?_); (· rfl); (· go_simp; (try with_reducible rfl)); simp only [pu, sB, s0, sS])
      (with_reducible refine rN (v := .pointer (some ⟨pA, 0, none⟩)) ?_ ?_ ?_); (· rfl); (· go_simp; (try rfl)); simp only [pu, sB, s0, sS]
      with_reducible refine wpList_loadV (.tmp 40) (j := 0) (v := .int .i64 k) ?_ ?_ KA3.out ?_ Tryz.underlying3 ?_ ?_
      · rfl
      · rfl
      · exact rF_0
      · rfl
      simp only [pu, sB, s0, sS]
      iterate 3 ((with_reducible refine rN (v := .bool true) ?_ ?_ ?_); (· rfl); (· go_simp; (try with_reducible rfl)); simp only [pu, sB, s0, sS])
      iterate 3 ((with_reducible refine kN ?_ ?_); (· rfl); simp only [pu, sB, s0, sS])
      iterate 3 ((with_reducible refine rN (v := .bool true) ?_ ?_ ?_); (· rfl); (· go_simp; (try with_reducible rfl)); simp only [pu, sB, s0, sS])
      go_wp2_with fail
      go_ret
      exact ⟨rfl, B3.out⟩
  | true =>
    have H4x := Lib.hid (H4.out rfl)
    go_upto_region 4 with fail
    refine wp_region_lit ?_
    iterate 2 ((with_reducible refine rN (v := .bool false) ?_ ?_ ?_); (· rfl); (· go_simp; (try with_reducible rfl)); simp only [pu, sB, s0, sS])
    iterate 2 ((with_reducible refine kN ?_ ?_); (· rfl); simp only [pu, sB, s0, sS])
    iterate 2 ((with_reducible refine rN (v := .bool false) ?_ ?_ ?_); (· rfl); (· go_simp; (try with_reducible rfl)); simp only [pu, sB, s0, sS])
    (with_reducible refine rN (v := ?_) ?_ ?_ ?_); rotate_left; (· rfl); (· go_simp; (try with_reducible rfl)); simp only [pu, sB, s0, sS]
    iterate 3 ((with_reducible refine rN (v := .bool true) ?_ ?_ ?_); (· rfl); (· go_simp; (try with_reducible rfl)); simp only [pu, sB, s0, sS])
    with_reducible refine wpList_loadS (.tmp 3) ?_ ?_ KA2.out Tryz.underlying27 ?_ (infoTRf18 (rF_sz (cellsF_size f fs))) ?_
    · rfl
    · rfl
    · rfl
    simp only [pu, sB, s0, sS]
    go_wp2_with fail
    refine (H4x.out _ B2.out).mono ?_
    rintro e w3 ⟨rfl, hb⟩
    have B3 := Lib.hid (B2.out.trans (hb.mono B2.out.size))
    have KA3 := Lib.hid (KA2.out.below hb KA2.out.lt)
    clear hb
    clear B2 KA2
    go_simp
    rename_i hKK
    refine hKK _ _ ?_
    clear hKK
    try simp only [pu, sB, s0, sS]
    iterate 3 ((with_reducible refine rN (v := .bool false) ?_ ?_ ?_); (· rfl); (· go_simp; (try with_reducible rfl)); simp only [pu, sB, s0, sS])
    cases k3 with
    | false =>
      have e8 := h8 rfl
      go_upto_region 6 with fail
      refine wp_region_lit ?_
      go_wp2_with fail
      refine (HL.out _ B3.out).mono ?_
      rintro e w4 ⟨rfl, hb⟩
      have B4 := Lib.hid (B3.out.trans (hb.mono B3.out.size))
      have KA4 := Lib.hid (KA3.out.below hb KA3.out.lt)
      clear hb
      clear B3 KA3
      go_simp
      rename_i hKK
      refine hKK _ _ ?_
      clear hKK
      try simp only [pu, sB, s0, sS]
      (with_reducible refine rN (v := .bool true) ?_ ?_ ?_); (· rfl); (· go_simp; (try with_reducible rfl)); simp only [pu, sB, s0, sS]
      (with_reducible refine rN (v := .bool false) ?_ ?_ ?_); (· rfl); (· go_simp; (try with_reducible rfl)); simp only [pu, sB, s0, sS]
      (with_reducible refine rN (v := .bool true) ?_ ?_ ?_); (· rfl); (· go_simp; (try with_reducible rfl)); simp only [pu, sB, s0, sS]
      iterate 2 ((with_reducible refine rN (v := .bool false) ?_ ?_ ?_); (· rfl); (· go_simp; (try with_reducible rfl)); simp only [pu, sB, s0, sS])
      (with_reducible refine rN (v := .pointer (some ⟨pA, 0, none⟩)) ?_ ?_ ?_); (· rfl); (· go_simp; (try rfl)); simp only [pu, sB, s0, sS]
      with_reducible refine wpList_loadV (.tmp 40) (j := 0) (v := .int .i64 k) ?_ ?_ KA4.out ?_ Tryz.underlying3 ?_ ?_
      · rfl
      · rfl
      · exact rF_0
      · rfl
      simp only [pu, sB, s0, sS]
      iterate 3 ((with_reducible refine rN (v := .bool false) ?_ ?_ ?_); (· rfl); (· go_simp; (try with_reducible rfl)); simp only [pu, sB, s0, sS])
      (with_reducible refine rN (v := .pointer (some ⟨pA, 0, none⟩)) ?_ ?_ ?_); (· rfl); (· go_simp; (try rfl)); simp only [pu, sB, s0, sS]
      with_reducible refine wpList_loadV (.tmp 45) (j := 0) (v := .int .i64 k) ?_ ?_ KA4.out ?_ Tryz.underlying3 ?_ ?_
      · rfl
      · rfl
      · exact rF_0
      · rfl
      simp only [pu, sB, s0, sS]
      iterate 4 ((with_reducible refine rN (v := .bool true) ?_ ?_ ?_); (· rfl); (· go_simp; (try with_reducible rfl)); simp only [pu, sB, s0, sS])
      go_wp2_with fail
      go_ret
      exact ⟨rfl, B4.out⟩
    | true =>
      go_upto_region 6 with fail
      refine wp_region_lit ?_
      go_wp2_with fail
      refine (HL.out _ B3.out).mono ?_
      rintro e w4 ⟨rfl, hb⟩
      have B4 := Lib.hid (B3.out.trans (hb.mono B3.out.size))
      have KA4 := Lib.hid (KA3.out.below hb KA3.out.lt)
      clear hb
      clear B3 KA3
      go_simp
      rename_i hKK
      refine hKK _ _ ?_
      clear hKK
      try simp only [pu, sB, s0, sS]
      (with_reducible refine rN (v := .bool true) ?_ ?_ ?_); (· rfl); (· go_simp; (try with_reducible rfl)); simp only [pu, sB, s0, sS]
      (with_reducible refine rN (v := .bool false) ?_ ?_ ?_); (· rfl); (· go_simp; (try with_reducible rfl)); simp only [pu, sB, s0, sS]
      (with_reducible refine rN (v := .bool true) ?_ ?_ ?_); (· rfl); (· go_simp; (try with_reducible rfl)); simp only [pu, sB, s0, sS]
      iterate 2 ((with_reducible refine rN (v := .bool false) ?_ ?_ ?_); (· rfl); (· go_simp; (try with_reducible rfl)); simp only [pu, sB, s0, sS])
      (with_reducible refine rN (v := .pointer (some ⟨pA, 0, none⟩)) ?_ ?_ ?_); (· rfl); (· go_simp; (try rfl)); simp only [pu, sB, s0, sS]
      with_reducible refine wpList_loadV (.tmp 40) (j := 0) (v := .int .i64 k) ?_ ?_ KA4.out ?_ Tryz.underlying3 ?_ ?_
      · rfl
      · rfl
      · exact rF_0
      · rfl
      simp only [pu, sB, s0, sS]
      iterate 3 ((with_reducible refine rN (v := .bool true) ?_ ?_ ?_); (· rfl); (· go_simp; (try with_reducible rfl)); simp only [pu, sB, s0, sS])
      iterate 3 ((with_reducible refine kN ?_ ?_); (· rfl); simp only [pu, sB, s0, sS])
      iterate 3 ((with_reducible refine rN (v := .bool true) ?_ ?_ ?_); (· rfl); (· go_simp; (try with_reducible rfl)); simp only [pu, sB, s0, sS])
      go_wp2_with fail
      go_ret
      exact ⟨rfl, B4.out⟩
end Go.Proofs.YtbcgkeclmioeiaaGreatDoor
namespace Go.Proofs.YtbcgkeclmioeiaaGreatDoor
open Go.RowKit
open Wd (Bs)

theorem lawRefBack (k n : Int) (f : Fil.Flt) (fs : ByteArray) (s : ByteArray) (hf : f.sub = fs.data.toList) (hs : fs.size ≤ maxLen) (w : World) (hE : Env w) :
    Calls Tryz.prog 6 #[.agg (rF k n (cellsF f fs)), .string s] w fun e w' => e = .returned (.bool true) ∧ Below w.heap.size w w' := by
  have HL : Hid (∀ W, Below w.heap.size w W → Calls Tryz.prog 13 #[] W fun e w' => e = .returned (.bool true) ∧ Below W.heap.size W w') := Lib.hid fun W hb => rfAlive W (hE.below hb)
  by_cases hl : (600 : Int) < (s.size : Int)
  · exact backLongR k n f fs s w HL hl
  · have HT : Hid (∀ W, Below w.heap.size w W → _) := Lib.hid fun W hb => rfText k n f fs hf hs W (hE.below hb)
    have HI : Hid (∀ W, Below w.heap.size w W → _) := Lib.hid fun W hb => rfIs k n f fs hf hs 4 W (hE.below hb)
    obtain ⟨u, hu, eu⟩ := exists_bytes (Rf.textR ⟨k, n, f⟩)
    rw [eu] at HT
    have hul : u.size ≤ 1000000 := by
      have h1 : u.data.toList.length = u.size := Array.length_toList
      have h2 : (Rf.textR ⟨k, n, f⟩).length ≤ 6000 := by
        cases hv : Rf.okB 4 ⟨k, n, f⟩ with
        | true =>
          have h3 := rawT_lenR hv
          have h5 := Rf.ok_range hv
          have h4 := heads_lenR (Rf.Rd.k ⟨k, n, f⟩).toNat (by omega)
          rw [Rf.textR_ok hv]
          unfold Rf.raw
          rw [List.length_append]
          omega
        | false => rw [Rf.textR_bad hv]; simp
      rw [hu] at h1
      omega
    have HQ : Hid (∀ W, Below w.heap.size w W → _) := Lib.hid fun W hb => rfParse u hul W (hE.below hb)
    have HP : Hid (∀ W, Below w.heap.size w W → _) := Lib.hid fun W hb => rfParse s (by omega) W (hE.below hb)
    rw [hu] at HQ
    have hq : ∀ W : World, (Op.equalIn 10000 27 (.agg (rF k n (cellsF f fs))) (.agg (rF k n (cellsF f fs)))).run Tryz.prog W = .ok true W := fun W => run_eq_refS k n f fs hf W
    have hz : ∀ W : World, (Op.equalIn 10000 27 (.agg (rF 0 0 cellsZ)) (.agg (rF 0 0 cellsZ))).run Tryz.prog W = .ok true W := fun W => run_eq_refS 0 0 Fil.zero ⟨#[]⟩ rfl W
    cases hp : Rf.pB s.data.toList with
    | true =>
      obtain ⟨h1, h2, h3, _⟩ := Rf.p_yes hp
      have hy := pV_short s.data.toList
      obtain ⟨y, ey⟩ : ∃ y, Rf.pV s.data.toList = y := ⟨_, rfl⟩
      rw [ey] at h1 h2 hy HP
      rw [h3] at HP
      obtain ⟨u2, hu2, eu2⟩ := exists_bytes (Rf.textR y)
      have HT2 : Hid (∀ W, Below w.heap.size w W → _) := Lib.hid fun W hb => rfTextX y (by omega) W (hE.below hb)
      rw [eu2] at HT2
      have HI2 : Hid (∀ W, Below w.heap.size w W → _) := Lib.hid fun W hb => rfIsX y (by omega) 4 W (hE.below hb)
      rw [h1] at HI2
      have hu3 : (u2.toList == s.toList) = true := by rw [Lib.toList_data, Lib.toList_data, hu2, h2]; simp
      cases hv : Rf.okB 4 ⟨k, n, f⟩ with
      | true =>
        rw [hv] at HI
        rw [(Rf.p_text hv).1, (Rf.p_text hv).2, ← cellsR_of hf] at HQ
        have hne : u.toList.isEmpty = false := by
          rw [Lib.toList_data, hu, Rf.textR_ok hv]
          have := Rf.raw_ne hv
          cases hr : Rf.raw ⟨k, n, f⟩ with
          | nil => exact absurd hr this
          | cons a b => rfl
        exact backPVR k n f fs s u y.k y.n u2 y.f (fsOf y.f) w HL hl HT hne HQ HI HP hq HI2 HT2 hu3
      | false =>
        rw [hv] at HI
        rw [Rf.textR_bad hv] at hu HQ
        rw [(Rf.p_no Rf.p_nil).1, (Rf.p_no Rf.p_nil).2] at HQ
        exact backPBR k n f fs s u y.k y.n u2 y.f (fsOf y.f) w HL hl HT (by rw [Lib.toList_data, hu]; rfl) HQ HI HP HI2 HT2 hu3
    | false =>
      rw [(Rf.p_no hp).1, (Rf.p_no hp).2] at HP
      cases hv : Rf.okB 4 ⟨k, n, f⟩ with
      | true =>
        rw [hv] at HI
        rw [(Rf.p_text hv).1, (Rf.p_text hv).2, ← cellsR_of hf] at HQ
        have hne : u.toList.isEmpty = false := by
          rw [Lib.toList_data, hu, Rf.textR_ok hv]
          have := Rf.raw_ne hv
          cases hr : Rf.raw ⟨k, n, f⟩ with
          | nil => exact absurd hr this
          | cons a b => rfl
        exact backNVR k n f fs s u w HL hl HT hne HQ HI HP hq hz
      | false =>
        rw [hv] at HI
        rw [Rf.textR_bad hv] at hu HQ
        rw [(Rf.p_no Rf.p_nil).1, (Rf.p_no Rf.p_nil).2] at HQ
        exact backNBR k n f fs s u w HL hl HT (by rw [Lib.toList_data, hu]; rfl) HQ HI HP hz
theorem lawRefSpecs (k n : Int) (f : Fil.Flt) (fs : ByteArray) (sp mo : Int) (hf : f.sub = fs.data.toList) (hs : fs.size ≤ maxLen) (w : World) (hE : Env w) :
    Calls Tryz.prog 7 #[.agg (rF k n (cellsF f fs)), .int .i64 sp, .int .i64 mo] w fun e w' => e = .returned (.bool true) ∧ Below w.heap.size w w' := by
  have HL : Hid (∀ W, Below w.heap.size w W → Calls Tryz.prog 13 #[] W fun e w' => e = .returned (.bool true) ∧ Below W.heap.size W w') := Lib.hid fun W hb => rfAlive W (hE.below hb)
  by_cases hl : mo < sp
  · exact specsLess k n f fs sp mo w HL hl
  · have H1 : Hid (∀ W, Below w.heap.size w W → _) := Lib.hid fun W hb => rfIs k n f fs hf hs sp W (hE.below hb)
    have H2 : Hid (∀ W, Below w.heap.size w W → _) := Lib.hid fun W hb => rfIs k n f fs hf hs mo W (hE.below hb)
    have H4 : Hid (decide (4 ≤ mo) = true → ∀ W, Below w.heap.size w W → Calls Tryz.prog 14 #[.agg (rF k n (cellsF f fs)), .int .i64 4] W fun e w' => e = .returned (.bool (Rf.okB mo ⟨k, n, f⟩)) ∧ Below W.heap.size W w') := Lib.hid fun h W hb => by
      rw [Rf.ok_four (by simpa using h)]
      exact rfIs k n f fs hf hs 4 W (hE.below hb)
    cases ha : Rf.okB sp ⟨k, n, f⟩ with
    | true =>
      have hb := Rf.ok_more (show sp ≤ mo by omega) ha
      rw [ha] at H1
      rw [hb] at H2 H4
      exact specs11 k n f fs sp mo _ w HL hl H1 H2 rfl H4
    | false =>
      rw [ha] at H1
      cases hb : Rf.okB mo ⟨k, n, f⟩ with
      | false =>
        rw [hb] at H2 H4
        exact specs00 k n f fs sp mo _ w HL hl H1 H2 rfl H4
      | true =>
        rw [hb] at H2 H4
        have hk : k = 3 ∨ k = 8 := by
          by_cases h : k = 3 ∨ k = 8
          · exact h
          · rw [Rf.ok_other (sp := sp) (sq := mo) h, hb] at ha; cases ha
        exact specs01 k n f fs sp mo _ _ w HL hl H1 H2 rfl H4 rfl (fun h3 => by simp at h3 ⊢; omega)
end Go.Proofs.YtbcgkeclmioeiaaGreatDoor
