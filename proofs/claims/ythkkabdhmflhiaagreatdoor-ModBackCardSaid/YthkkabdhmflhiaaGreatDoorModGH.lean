/-
  MERGED: ModBackW, ModLawB. By an AI agent.
-/
import Derived.Test.YthkkabdhmflhiaaGreatDoorModGG
namespace Go.Proofs.YthkkabdhmflhiaaGreatDoor
open Go.RowKit
open Wd (Bs)

set_option maxHeartbeats 8000000 in
set_option maxRecDepth 100000 in
theorem backNo (k n m : Int) (s : ByteArray) (f : Fil.Flt) (fs : ByteArray) (t : ByteArray) (w : World)
    (HL : Hid (∀ W, Below w.heap.size w W → Calls Tryz.prog 11 #[] W fun e w' => e = .returned (.bool true) ∧ Below W.heap.size W w')) (HS : Hid (∀ W, Below w.heap.size w W → Calls Tryz.prog 10 #[.agg (mO k n m s (cellsF f fs))] W fun e w' => e = .returned (.bool false) ∧ Below W.heap.size W w')) :
    Calls Tryz.prog 5 #[.agg (mO k n m s (cellsF f fs)), .string t] w fun e w' => e = .returned (.bool true) ∧ Below w.heap.size w w' := by

  have B0 := Lib.hid (Below.refl w.heap.size w)
  go_enter Tryz.func5, Tryz.ntmps5
  go_upto_region 0 with fail
  refine wp_region_lit ?_
  obtain ⟨w1, hw⟩ : ∃ v, v = w.alloc (.cells (mO k n m s (cellsF f fs)) 27) := ⟨_, rfl⟩
  obtain ⟨pA, hp⟩ : ∃ v, v = w.heap.size := ⟨_, rfl⟩
  have B1 : Hid (Below w.heap.size w w1) := Lib.hid (by rw [hw]; exact B0.out.alloc B0.out.size _)
  have LEA : Hid (w.heap.size ≤ pA) := Lib.hid (by rw [hp]; exact B0.out.size)
  have KA1 : Hid (Blk w1 pA (mO k n m s (cellsF f fs)) 27) := Lib.hid (by rw [hw, hp]; exact Blk.new _ _ _)
  with_reducible refine wpList_runWV (some 2) (v := .pointer (some ⟨pA, 0, none⟩)) (w' := w1) ?_ ?_ ?_ ?_
  · rfl
  · rfl
  · rw [hw, hp]; (go_simp; (try rfl))
  simp only [pu, sB, s0, sS]
  clear hw hp
  clear B0
  (with_reducible refine rN (v := .bool false) ?_ ?_ ?_); (· rfl); (· go_simp; (try with_reducible rfl)); simp only [pu, sB, s0, sS]
  go_upto_region 1 with fail
  refine wp_region_lit ?_
  with_reducible refine wpList_loadS (.tmp 2) ?_ ?_ KA1.out Tryz.underlying27 ?_ (infoTMo20 (mO_sz (cellsF_size f fs))) ?_
  · rfl
  · rfl
  · rfl
  simp only [pu, sB, s0, sS]
  go_wp2_with fail
  refine (HS.out _ B1.out).mono ?_
  rintro e w2 ⟨rfl, hb⟩
  have B2 := Lib.hid (B1.out.trans (hb.mono B1.out.size))
  have KA2 := Lib.hid (KA1.out.below hb KA1.out.lt)
  clear hb
  clear B1 KA1
  go_simp
  rename_i hKK
  refine hKK _ _ ?_
  clear hKK
  try simp only [pu, sB, s0, sS]
  iterate 2 ((with_reducible refine rN (v := .bool true) ?_ ?_ ?_); (· rfl); (· go_simp; (try with_reducible rfl)); simp only [pu, sB, s0, sS])
  iterate 3 ((with_reducible refine kN ?_ ?_); (· rfl); simp only [pu, sB, s0, sS])
  (with_reducible refine rN (v := .bool true) ?_ ?_ ?_); (· rfl); (· go_simp; (try with_reducible rfl)); simp only [pu, sB, s0, sS]
  go_upto_region 2 with fail
  refine wp_region_lit ?_
  go_wp2_with fail
  refine (HL.out _ B2.out).mono ?_
  rintro e w3 ⟨rfl, hb⟩
  have B3 := Lib.hid (B2.out.trans (hb.mono B2.out.size))
  have KA3 := Lib.hid (KA2.out.below hb KA2.out.lt)
  clear hb
  clear B2 KA2
  go_simp
  rename_i hKK
  refine hKK _ _ ?_
  clear hKK
  try simp only [pu, sB, s0, sS]
  (with_reducible refine rN (v := .bool true) ?_ ?_ ?_); (· rfl); (· go_simp; (try with_reducible rfl)); simp only [pu, sB, s0, sS]
  go_wp2_with fail
  go_ret
  exact ⟨rfl, B3.out⟩

set_option maxHeartbeats 8000000 in
set_option maxRecDepth 100000 in
theorem backLong (k n m : Int) (s : ByteArray) (f : Fil.Flt) (fs : ByteArray) (t : ByteArray) (w : World)
    (HL : Hid (∀ W, Below w.heap.size w W → Calls Tryz.prog 11 #[] W fun e w' => e = .returned (.bool true) ∧ Below W.heap.size W w')) (HS : Hid (∀ W, Below w.heap.size w W → Calls Tryz.prog 10 #[.agg (mO k n m s (cellsF f fs))] W fun e w' => e = .returned (.bool true) ∧ Below W.heap.size W w')) (hl : (500 : Int) < (t.size : Int)) :
    Calls Tryz.prog 5 #[.agg (mO k n m s (cellsF f fs)), .string t] w fun e w' => e = .returned (.bool true) ∧ Below w.heap.size w w' := by

  have B0 := Lib.hid (Below.refl w.heap.size w)
  go_enter Tryz.func5, Tryz.ntmps5
  go_upto_region 0 with fail
  refine wp_region_lit ?_
  obtain ⟨w1, hw⟩ : ∃ v, v = w.alloc (.cells (mO k n m s (cellsF f fs)) 27) := ⟨_, rfl⟩
  obtain ⟨pA, hp⟩ : ∃ v, v = w.heap.size := ⟨_, rfl⟩
  have B1 : Hid (Below w.heap.size w w1) := Lib.hid (by rw [hw]; exact B0.out.alloc B0.out.size _)
  have LEA : Hid (w.heap.size ≤ pA) := Lib.hid (by rw [hp]; exact B0.out.size)
  have KA1 : Hid (Blk w1 pA (mO k n m s (cellsF f fs)) 27) := Lib.hid (by rw [hw, hp]; exact Blk.new _ _ _)
  with_reducible refine wpList_runWV (some 2) (v := .pointer (some ⟨pA, 0, none⟩)) (w' := w1) ?_ ?_ ?_ ?_
  · rfl
  · rfl
  · rw [hw, hp]; (go_simp; (try rfl))
  simp only [pu, sB, s0, sS]
  clear hw hp
  clear B0
  (with_reducible refine rN (v := .bool false) ?_ ?_ ?_); (· rfl); (· go_simp; (try with_reducible rfl)); simp only [pu, sB, s0, sS]
  go_upto_region 1 with fail
  refine wp_region_lit ?_
  with_reducible refine wpList_loadS (.tmp 2) ?_ ?_ KA1.out Tryz.underlying27 ?_ (infoTMo20 (mO_sz (cellsF_size f fs))) ?_
  · rfl
  · rfl
  · rfl
  simp only [pu, sB, s0, sS]
  go_wp2_with fail
  refine (HS.out _ B1.out).mono ?_
  rintro e w2 ⟨rfl, hb⟩
  have B2 := Lib.hid (B1.out.trans (hb.mono B1.out.size))
  have KA2 := Lib.hid (KA1.out.below hb KA1.out.lt)
  clear hb
  clear B1 KA1
  go_simp
  rename_i hKK
  refine hKK _ _ ?_
  clear hKK
  try simp only [pu, sB, s0, sS]
  iterate 2 ((with_reducible refine rN (v := .bool false) ?_ ?_ ?_); (· rfl); (· go_simp; (try with_reducible rfl)); simp only [pu, sB, s0, sS])
  iterate 2 ((with_reducible refine rN (v := ?_) ?_ ?_ ?_); rotate_left; (· rfl); (· go_simp; (try with_reducible rfl)); simp only [pu, sB, s0, sS])
  iterate 2 ((with_reducible refine rN (v := .bool true) ?_ ?_ ?_); (· rfl); (· go_simp; (try with_reducible rfl)); simp only [pu, sB, s0, sS])
  go_upto_region 2 with fail
  refine wp_region_lit ?_
  go_wp2_with fail
  refine (HL.out _ B2.out).mono ?_
  rintro e w3 ⟨rfl, hb⟩
  have B3 := Lib.hid (B2.out.trans (hb.mono B2.out.size))
  have KA3 := Lib.hid (KA2.out.below hb KA2.out.lt)
  clear hb
  clear B2 KA2
  go_simp
  rename_i hKK
  refine hKK _ _ ?_
  clear hKK
  try simp only [pu, sB, s0, sS]
  (with_reducible refine rN (v := .bool true) ?_ ?_ ?_); (· rfl); (· go_simp; (try with_reducible rfl)); simp only [pu, sB, s0, sS]
  go_wp2_with fail
  go_ret
  exact ⟨rfl, B3.out⟩

set_option maxHeartbeats 8000000 in
set_option maxRecDepth 100000 in
theorem backPV (k n m : Int) (s : ByteArray) (f : Fil.Flt) (fs : ByteArray) (t u : ByteArray) (k2 n2 m2 : Int) (s2 u2 : ByteArray) (g : Fil.Flt) (gs : ByteArray) (w : World)
    (HL : Hid (∀ W, Below w.heap.size w W → Calls Tryz.prog 11 #[] W fun e w' => e = .returned (.bool true) ∧ Below W.heap.size W w')) (HS : Hid (∀ W, Below w.heap.size w W → Calls Tryz.prog 10 #[.agg (mO k n m s (cellsF f fs))] W fun e w' => e = .returned (.bool true) ∧ Below W.heap.size W w')) (hl : ¬ (500 : Int) < (t.size : Int)) (HP : Hid (∀ W, Below w.heap.size w W → Calls Tryz.prog 18 #[.string t] W fun e w' => e = .returned (.tuple #[.agg (mO k2 n2 m2 s2 (cellsF g gs)), .int .i64 0]) ∧ Below W.heap.size W w')) (HT2 : Hid (∀ W, Below w.heap.size w W → Calls Tryz.prog 14 #[.agg (mO k2 n2 m2 s2 (cellsF g gs))] W fun e w' => e = .returned (.string u2) ∧ Below W.heap.size W w')) (hu2 : (u2.toList == t.toList) = true) (HI2 : Hid (∀ W, Below w.heap.size w W → Calls Tryz.prog 12 #[.agg (mO k2 n2 m2 s2 (cellsF g gs))] W fun e w' => e = .returned (.bool true) ∧ Below W.heap.size W w')) (HT : Hid (∀ W, Below w.heap.size w W → Calls Tryz.prog 14 #[.agg (mO k n m s (cellsF f fs))] W fun e w' => e = .returned (.string u) ∧ Below W.heap.size W w')) (HQ : Hid (∀ W, Below w.heap.size w W → Calls Tryz.prog 18 #[.string u] W fun e w' => e = .returned (.tuple #[.agg (mO k n m s (cellsF f fs)), .int .i64 0]) ∧ Below W.heap.size W w')) (HI : Hid (∀ W, Below w.heap.size w W → Calls Tryz.prog 12 #[.agg (mO k n m s (cellsF f fs))] W fun e w' => e = .returned (.bool true) ∧ Below W.heap.size W w')) (hq : ∀ W : World, (Op.equalIn 10000 27 (.agg (mO k n m s (cellsF f fs))) (.agg (mO k n m s (cellsF f fs)))).run Tryz.prog W = .ok true W) :
    Calls Tryz.prog 5 #[.agg (mO k n m s (cellsF f fs)), .string t] w fun e w' => e = .returned (.bool true) ∧ Below w.heap.size w w' := by

  have B0 := Lib.hid (Below.refl w.heap.size w)
  go_enter Tryz.func5, Tryz.ntmps5
  go_upto_region 0 with fail
  refine wp_region_lit ?_
  obtain ⟨w1, hw⟩ : ∃ v, v = w.alloc (.cells (mO k n m s (cellsF f fs)) 27) := ⟨_, rfl⟩
  obtain ⟨pA, hp⟩ : ∃ v, v = w.heap.size := ⟨_, rfl⟩
  have B1 : Hid (Below w.heap.size w w1) := Lib.hid (by rw [hw]; exact B0.out.alloc B0.out.size _)
  have LEA : Hid (w.heap.size ≤ pA) := Lib.hid (by rw [hp]; exact B0.out.size)
  have KA1 : Hid (Blk w1 pA (mO k n m s (cellsF f fs)) 27) := Lib.hid (by rw [hw, hp]; exact Blk.new _ _ _)
  with_reducible refine wpList_runWV (some 2) (v := .pointer (some ⟨pA, 0, none⟩)) (w' := w1) ?_ ?_ ?_ ?_
  · rfl
  · rfl
  · rw [hw, hp]; (go_simp; (try rfl))
  simp only [pu, sB, s0, sS]
  clear hw hp
  clear B0
  (with_reducible refine rN (v := .bool false) ?_ ?_ ?_); (· rfl); (· go_simp; (try with_reducible rfl)); simp only [pu, sB, s0, sS]
  go_upto_region 1 with fail
  refine wp_region_lit ?_
  with_reducible refine wpList_loadS (.tmp 2) ?_ ?_ KA1.out Tryz.underlying27 ?_ (infoTMo20 (mO_sz (cellsF_size f fs))) ?_
  · rfl
  · rfl
  · rfl
  simp only [pu, sB, s0, sS]
  go_wp2_with fail
  refine (HS.out _ B1.out).mono ?_
  rintro e w2 ⟨rfl, hb⟩
  have B2 := Lib.hid (B1.out.trans (hb.mono B1.out.size))
  have KA2 := Lib.hid (KA1.out.below hb KA1.out.lt)
  clear hb
  clear B1 KA1
  go_simp
  rename_i hKK
  refine hKK _ _ ?_
  clear hKK
  try simp only [pu, sB, s0, sS]
  iterate 2 ((with_reducible refine rN (v := .bool false) ?_ ?_ ?_); (· rfl); (· go_simp; (try with_reducible rfl)); simp only [pu, sB, s0, sS])
  iterate 2 ((with_reducible refine rN (v := ?_) ?_ ?_ ?_); rotate_left; (· rfl); (· go_simp; (try with_reducible rfl)); simp only [pu, sB, s0, sS])
  iterate 2 ((with_reducible refine rN (v := .bool false) ?_ ?_ ?_); (· rfl); (· go_simp; (try with_reducible rfl)); simp only [pu, sB, s0, sS])
  go_upto_region 3 with fail
  refine wp_region_lit ?_
  (with_reducible refine rN (v := ?_) ?_ ?_ ?_); rotate_left; (· rfl); (· go_simp; (try with_reducible rfl)); simp only [pu, sB, s0, sS]
  go_wp2_with fail
  refine (HP.out _ B2.out).mono ?_
  rintro e w3 ⟨rfl, hb⟩
  have B3 := Lib.hid (B2.out.trans (hb.mono B2.out.size))
  have KA3 := Lib.hid (KA2.out.below hb KA2.out.lt)
  clear hb
  clear B2 KA2
  go_simp
  rename_i hKK
  refine hKK _ _ ?_
  clear hKK
  try simp only [pu, sB, s0, sS]
  (with_reducible refine rN (v := ?_) ?_ ?_ ?_); rotate_left; (· rfl); (· go_simp; (try with_reducible rfl)); simp only [pu, sB, s0, sS]
  (with_reducible refine rN (v := .agg (mO k2 n2 m2 s2 (cellsF g gs))) ?_ ?_ ?_); (· rfl); (· go_simp; (try with_reducible rfl)); simp only [pu, sB, s0, sS]
  (with_reducible refine rN (v := ?_) ?_ ?_ ?_); rotate_left; (· rfl); (· go_simp; (try with_reducible rfl)); simp only [pu, sB, s0, sS]
  obtain ⟨w4, hw⟩ : ∃ v, v = w3.alloc (.cells (mO 0 0 0 ⟨#[]⟩ cellsZ) 27) := ⟨_, rfl⟩
  obtain ⟨pB, hp⟩ : ∃ v, v = w3.heap.size := ⟨_, rfl⟩
  have B4 : Hid (Below w.heap.size w w4) := Lib.hid (by rw [hw]; exact B3.out.alloc B3.out.size _)
  have LEB : Hid (w.heap.size ≤ pB) := Lib.hid (by rw [hp]; exact B3.out.size)
  have KA4 := Lib.hid (show Blk w4 pA (mO k n m s (cellsF f fs)) 27 by rw [hw]; exact KA3.out.alloc _)
  have NEAB : Hid (pA ≠ pB) := Lib.hid (by rw [hp]; exact Nat.ne_of_lt KA3.out.lt)
  have NEBA : Hid (pB ≠ pA) := Lib.hid (Ne.symm NEAB.out)
  have KB4 : Hid (Blk w4 pB (mO 0 0 0 ⟨#[]⟩ cellsZ) 27) := Lib.hid (by rw [hw, hp]; exact Blk.new _ _ _)
  with_reducible refine wpList_runWV (some 5) (v := .pointer (some ⟨pB, 0, none⟩)) (w' := w4) ?_ ?_ ?_ ?_
  · rfl
  · rfl
  · rw [hw, hp]; (go_simp; (try rfl))
  simp only [pu, sB, s0, sS]
  clear hw hp
  clear B3 KA3
  have KB5 := Lib.hid (KB4.out.stored (o := 0) (vs := (mO k2 n2 m2 s2 (cellsF g gs)).toList) (cs' := (mO k2 n2 m2 s2 (cellsF g gs))) (laid_all (mO_sz (cellsF_size g gs)) (mO_sz cellsZ_size)))
  have KA5 := Lib.hid (KA4.out.wholeElse ((mO k2 n2 m2 s2 (cellsF g gs)).toList) (o := 0) NEAB.out)
  have B5 := Lib.hid (below_whole ((mO k2 n2 m2 s2 (cellsF g gs)).toList) (o := 0) B4.out LEB.out)
  with_reducible refine wpList_storeM (.tmp 5) (.tmp 21) (o := 0) (vs := (mO k2 n2 m2 s2 (cellsF g gs))) ?_ ?_ KB4.out ?_ (infoTMo20 (mO_sz (cellsF_size g gs))) (mO_one (cellsF_one g gs)) ?_
  · rfl
  · rfl
  · exact (fit_2 (mO_sz cellsZ_size) (mO_sz (cellsF_size g gs)) (by decide))
  (try simp only [Act.put])
  generalize World.setCells _ _ _ _ = w5 at KA5 KB5 B5 ⊢
  clear B4 KA4 KB4
  (with_reducible refine rN (v := ?_) ?_ ?_ ?_); rotate_left; (· rfl); (· go_simp; (try with_reducible rfl)); simp only [pu, sB, s0, sS]
  go_upto_region 4 with fail
  refine wp_region_lit ?_
  (with_reducible refine rN (v := ?_) ?_ ?_ ?_); rotate_left; (· rfl); (· go_simp; (try with_reducible rfl)); simp only [pu, sB, s0, sS]
  iterate 2 ((with_reducible refine rN (v := .bool true) ?_ ?_ ?_); (· rfl); (· go_simp; (try with_reducible rfl)); simp only [pu, sB, s0, sS])
  with_reducible refine wpList_loadS (.tmp 5) ?_ ?_ KB5.out Tryz.underlying27 ?_ (infoTMo20 (mO_sz (cellsF_size g gs))) ?_
  · rfl
  · rfl
  · rfl
  simp only [pu, sB, s0, sS]
  go_wp2_with fail
  refine (HT2.out _ B5.out).mono ?_
  rintro e w6 ⟨rfl, hb⟩
  have B6 := Lib.hid (B5.out.trans (hb.mono B5.out.size))
  have KA6 := Lib.hid (KA5.out.below hb KA5.out.lt)
  have KB6 := Lib.hid (KB5.out.below hb KB5.out.lt)
  clear hb
  clear B5 KA5 KB5
  go_simp
  rename_i hKK
  refine hKK _ _ ?_
  clear hKK
  try simp only [pu, sB, s0, sS]
  (with_reducible refine rN (v := ?_) ?_ ?_ ?_); rotate_left; (· rfl); (· go_simp; (try with_reducible rfl)); simp only [pu, sB, s0, sS]
  iterate 2 ((with_reducible refine rN (v := .bool false) ?_ ?_ ?_); (· rfl); (· go_simp; (try with_reducible rfl)); simp only [pu, sB, s0, sS])
  with_reducible refine wpList_loadS (.tmp 5) ?_ ?_ KB6.out Tryz.underlying27 ?_ (infoTMo20 (mO_sz (cellsF_size g gs))) ?_
  · rfl
  · rfl
  · rfl
  simp only [pu, sB, s0, sS]
  go_wp2_with fail
  refine (HI2.out _ B6.out).mono ?_
  rintro e w7 ⟨rfl, hb⟩
  have B7 := Lib.hid (B6.out.trans (hb.mono B6.out.size))
  have KA7 := Lib.hid (KA6.out.below hb KA6.out.lt)
  have KB7 := Lib.hid (KB6.out.below hb KB6.out.lt)
  clear hb
  clear B6 KA6 KB6
  go_simp
  rename_i hKK
  refine hKK _ _ ?_
  clear hKK
  try simp only [pu, sB, s0, sS]
  iterate 3 ((with_reducible refine rN (v := .bool false) ?_ ?_ ?_); (· rfl); (· go_simp; (try with_reducible rfl)); simp only [pu, sB, s0, sS])
  go_upto_region 6 with fail
  refine wp_region_lit ?_
  with_reducible refine wpList_loadS (.tmp 2) ?_ ?_ KA7.out Tryz.underlying27 ?_ (infoTMo20 (mO_sz (cellsF_size f fs))) ?_
  · rfl
  · rfl
  · rfl
  simp only [pu, sB, s0, sS]
  go_wp2_with fail
  refine (HT.out _ B7.out).mono ?_
  rintro e w8 ⟨rfl, hb⟩
  have B8 := Lib.hid (B7.out.trans (hb.mono B7.out.size))
  have KA8 := Lib.hid (KA7.out.below hb KA7.out.lt)
  have KB8 := Lib.hid (KB7.out.below hb KB7.out.lt)
  clear hb
  clear B7 KA7 KB7
  go_simp
  rename_i hKK
  refine hKK _ _ ?_
  clear hKK
  try simp only [pu, sB, s0, sS]
  go_wp2_with fail
  refine (HQ.out _ B8.out).mono ?_
  rintro e w9 ⟨rfl, hb⟩
  have B9 := Lib.hid (B8.out.trans (hb.mono B8.out.size))
  have KA9 := Lib.hid (KA8.out.below hb KA8.out.lt)
  have KB9 := Lib.hid (KB8.out.below hb KB8.out.lt)
  clear hb
  clear B8 KA8 KB8
  go_simp
  rename_i hKK
  refine hKK _ _ ?_
  clear hKK
  try simp only [pu, sB, s0, sS]
  (with_reducible refine rN (v := ?_) ?_ ?_ ?_); rotate_left; (· rfl); (· go_simp; (try with_reducible rfl)); simp only [pu, sB, s0, sS]
  (with_reducible refine rN (v := .agg (mO k n m s (cellsF f fs))) ?_ ?_ ?_); (· rfl); (· go_simp; (try with_reducible rfl)); simp only [pu, sB, s0, sS]
  (with_reducible refine rN (v := ?_) ?_ ?_ ?_); rotate_left; (· rfl); (· go_simp; (try with_reducible rfl)); simp only [pu, sB, s0, sS]
  obtain ⟨w10, hw⟩ : ∃ v, v = w9.alloc (.cells (mO 0 0 0 ⟨#[]⟩ cellsZ) 27) := ⟨_, rfl⟩
  obtain ⟨pD, hp⟩ : ∃ v, v = w9.heap.size := ⟨_, rfl⟩
  have B10 : Hid (Below w.heap.size w w10) := Lib.hid (by rw [hw]; exact B9.out.alloc B9.out.size _)
  have LED : Hid (w.heap.size ≤ pD) := Lib.hid (by rw [hp]; exact B9.out.size)
  have KA10 := Lib.hid (show Blk w10 pA (mO k n m s (cellsF f fs)) 27 by rw [hw]; exact KA9.out.alloc _)
  have NEAD : Hid (pA ≠ pD) := Lib.hid (by rw [hp]; exact Nat.ne_of_lt KA9.out.lt)
  have NEDA : Hid (pD ≠ pA) := Lib.hid (Ne.symm NEAD.out)
  have KB10 := Lib.hid (show Blk w10 pB (mO k2 n2 m2 s2 (cellsF g gs)) 27 by rw [hw]; exact KB9.out.alloc _)
  have NEBD : Hid (pB ≠ pD) := Lib.hid (by rw [hp]; exact Nat.ne_of_lt KB9.out.lt)
  have NEDB : Hid (pD ≠ pB) := Lib.hid (Ne.symm NEBD.out)
  have KD10 : Hid (Blk w10 pD (mO 0 0 0 ⟨#[]⟩ cellsZ) 27) := Lib.hid (by rw [hw, hp]; exact Blk.new _ _ _)
  with_reducible refine wpList_runWV (some 7) (v := .pointer (some ⟨pD, 0, none⟩)) (w' := w10) ?_ ?_ ?_ ?_
  · rfl
  · rfl
  · rw [hw, hp]; (go_simp; (try rfl))
  simp only [pu, sB, s0, sS]
  clear hw hp
  clear B9 KA9 KB9
  have KD11 := Lib.hid (KD10.out.stored (o := 0) (vs := (mO k n m s (cellsF f fs)).toList) (cs' := (mO k n m s (cellsF f fs))) (laid_all (mO_sz (cellsF_size f fs)) (mO_sz cellsZ_size)))
  have KA11 := Lib.hid (KA10.out.wholeElse ((mO k n m s (cellsF f fs)).toList) (o := 0) NEAD.out)
  have KB11 := Lib.hid (KB10.out.wholeElse ((mO k n m s (cellsF f fs)).toList) (o := 0) NEBD.out)
  have B11 := Lib.hid (below_whole ((mO k n m s (cellsF f fs)).toList) (o := 0) B10.out LED.out)
  with_reducible refine wpList_storeM (.tmp 7) (.tmp 40) (o := 0) (vs := (mO k n m s (cellsF f fs))) ?_ ?_ KD10.out ?_ (infoTMo20 (mO_sz (cellsF_size f fs))) (mO_one (cellsF_one f fs)) ?_
  · rfl
  · rfl
  · exact (fit_2 (mO_sz cellsZ_size) (mO_sz (cellsF_size f fs)) (by decide))
  (try simp only [Act.put])
  generalize World.setCells _ _ _ _ = w11 at KA11 KB11 KD11 B11 ⊢
  clear B10 KA10 KB10 KD10
  (with_reducible refine rN (v := ?_) ?_ ?_ ?_); rotate_left; (· rfl); (· go_simp; (try with_reducible rfl)); simp only [pu, sB, s0, sS]
  go_upto_region 7 with fail
  refine wp_region_lit ?_
  with_reducible refine wpList_loadS (.tmp 2) ?_ ?_ KA11.out Tryz.underlying27 ?_ (infoTMo20 (mO_sz (cellsF_size f fs))) ?_
  · rfl
  · rfl
  · rfl
  simp only [pu, sB, s0, sS]
  go_wp2_with fail
  refine (HI.out _ B11.out).mono ?_
  rintro e w12 ⟨rfl, hb⟩
  have B12 := Lib.hid (B11.out.trans (hb.mono B11.out.size))
  have KA12 := Lib.hid (KA11.out.below hb KA11.out.lt)
  have KB12 := Lib.hid (KB11.out.below hb KB11.out.lt)
  have KD12 := Lib.hid (KD11.out.below hb KD11.out.lt)
  clear hb
  clear B11 KA11 KB11 KD11
  go_simp
  rename_i hKK
  refine hKK _ _ ?_
  clear hKK
  try simp only [pu, sB, s0, sS]
  (with_reducible refine rN (v := .bool false) ?_ ?_ ?_); (· rfl); (· go_simp; (try with_reducible rfl)); simp only [pu, sB, s0, sS]
  go_upto_region 9 with fail
  refine wp_region_lit ?_
  with_reducible refine wpList_loadS (.tmp 7) ?_ ?_ KD12.out Tryz.underlying27 ?_ (infoTMo20 (mO_sz (cellsF_size f fs))) ?_
  · rfl
  · rfl
  · rfl
  simp only [pu, sB, s0, sS]
  with_reducible refine wpList_loadS (.tmp 2) ?_ ?_ KA12.out Tryz.underlying27 ?_ (infoTMo20 (mO_sz (cellsF_size f fs))) ?_
  · rfl
  · rfl
  · rfl
  simp only [pu, sB, s0, sS]
  iterate 2 ((with_reducible refine rN (v := .bool true) ?_ ?_ ?_); (· rfl); (· go_simp; (try with_reducible rfl)); simp only [pu, sB, s0, sS])
  (with_reducible refine rN (v := ?_) ?_ ?_ ?_); rotate_left; (· rfl); (· go_simp; (try with_reducible rfl)); simp only [pu, sB, s0, sS]
  iterate 3 ((with_reducible refine rN (v := .bool true) ?_ ?_ ?_); (· rfl); (· go_simp; (try with_reducible rfl)); simp only [pu, sB, s0, sS])
  go_wp2_with fail
  refine (HL.out _ B12.out).mono ?_
  rintro e w13 ⟨rfl, hb⟩
  have B13 := Lib.hid (B12.out.trans (hb.mono B12.out.size))
  have KA13 := Lib.hid (KA12.out.below hb KA12.out.lt)
  have KB13 := Lib.hid (KB12.out.below hb KB12.out.lt)
  have KD13 := Lib.hid (KD12.out.below hb KD12.out.lt)
  clear hb
  clear B12 KA12 KB12 KD12
  go_simp
  rename_i hKK
  refine hKK _ _ ?_
  clear hKK
  try simp only [pu, sB, s0, sS]
  iterate 2 ((with_reducible refine rN (v := .bool true) ?_ ?_ ?_); (· rfl); (· go_simp; (try with_reducible rfl)); simp only [pu, sB, s0, sS])
  go_wp2_with fail
  go_ret
  exact ⟨rfl, B13.out⟩

set_option maxHeartbeats 8000000 in
set_option maxRecDepth 100000 in
theorem backPB (k n m : Int) (s : ByteArray) (f : Fil.Flt) (fs : ByteArray) (t u : ByteArray) (k2 n2 m2 : Int) (s2 u2 : ByteArray) (g : Fil.Flt) (gs : ByteArray) (w : World)
    (HL : Hid (∀ W, Below w.heap.size w W → Calls Tryz.prog 11 #[] W fun e w' => e = .returned (.bool true) ∧ Below W.heap.size W w')) (HS : Hid (∀ W, Below w.heap.size w W → Calls Tryz.prog 10 #[.agg (mO k n m s (cellsF f fs))] W fun e w' => e = .returned (.bool true) ∧ Below W.heap.size W w')) (hl : ¬ (500 : Int) < (t.size : Int)) (HP : Hid (∀ W, Below w.heap.size w W → Calls Tryz.prog 18 #[.string t] W fun e w' => e = .returned (.tuple #[.agg (mO k2 n2 m2 s2 (cellsF g gs)), .int .i64 0]) ∧ Below W.heap.size W w')) (HT2 : Hid (∀ W, Below w.heap.size w W → Calls Tryz.prog 14 #[.agg (mO k2 n2 m2 s2 (cellsF g gs))] W fun e w' => e = .returned (.string u2) ∧ Below W.heap.size W w')) (hu2 : (u2.toList == t.toList) = true) (HI2 : Hid (∀ W, Below w.heap.size w W → Calls Tryz.prog 12 #[.agg (mO k2 n2 m2 s2 (cellsF g gs))] W fun e w' => e = .returned (.bool true) ∧ Below W.heap.size W w')) (HT : Hid (∀ W, Below w.heap.size w W → Calls Tryz.prog 14 #[.agg (mO k n m s (cellsF f fs))] W fun e w' => e = .returned (.string u) ∧ Below W.heap.size W w')) (HQ : Hid (∀ W, Below w.heap.size w W → Calls Tryz.prog 18 #[.string u] W fun e w' => e = .returned (.tuple #[.agg (mO 0 0 0 ⟨#[]⟩ cellsZ), .int .i64 3]) ∧ Below W.heap.size W w')) (HI : Hid (∀ W, Below w.heap.size w W → Calls Tryz.prog 12 #[.agg (mO k n m s (cellsF f fs))] W fun e w' => e = .returned (.bool false) ∧ Below W.heap.size W w')) (hu : u.toList.isEmpty = true) :
    Calls Tryz.prog 5 #[.agg (mO k n m s (cellsF f fs)), .string t] w fun e w' => e = .returned (.bool true) ∧ Below w.heap.size w w' := by

  have B0 := Lib.hid (Below.refl w.heap.size w)
  go_enter Tryz.func5, Tryz.ntmps5
  go_upto_region 0 with fail
  refine wp_region_lit ?_
  obtain ⟨w1, hw⟩ : ∃ v, v = w.alloc (.cells (mO k n m s (cellsF f fs)) 27) := ⟨_, rfl⟩
  obtain ⟨pA, hp⟩ : ∃ v, v = w.heap.size := ⟨_, rfl⟩
  have B1 : Hid (Below w.heap.size w w1) := Lib.hid (by rw [hw]; exact B0.out.alloc B0.out.size _)
  have LEA : Hid (w.heap.size ≤ pA) := Lib.hid (by rw [hp]; exact B0.out.size)
  have KA1 : Hid (Blk w1 pA (mO k n m s (cellsF f fs)) 27) := Lib.hid (by rw [hw, hp]; exact Blk.new _ _ _)
  with_reducible refine wpList_runWV (some 2) (v := .pointer (some ⟨pA, 0, none⟩)) (w' := w1) ?_ ?_ ?_ ?_
  · rfl
  · rfl
  · rw [hw, hp]; (go_simp; (try rfl))
  simp only [pu, sB, s0, sS]
  clear hw hp
  clear B0
  (with_reducible refine rN (v := .bool false) ?_ ?_ ?_); (· rfl); (· go_simp; (try with_reducible rfl)); simp only [pu, sB, s0, sS]
  go_upto_region 1 with fail
  refine wp_region_lit ?_
  with_reducible refine wpList_loadS (.tmp 2) ?_ ?_ KA1.out Tryz.underlying27 ?_ (infoTMo20 (mO_sz (cellsF_size f fs))) ?_
  · rfl
  · rfl
  · rfl
  simp only [pu, sB, s0, sS]
  go_wp2_with fail
  refine (HS.out _ B1.out).mono ?_
  rintro e w2 ⟨rfl, hb⟩
  have B2 := Lib.hid (B1.out.trans (hb.mono B1.out.size))
  have KA2 := Lib.hid (KA1.out.below hb KA1.out.lt)
  clear hb
  clear B1 KA1
  go_simp
  rename_i hKK
  refine hKK _ _ ?_
  clear hKK
  try simp only [pu, sB, s0, sS]
  iterate 2 ((with_reducible refine rN (v := .bool false) ?_ ?_ ?_); (· rfl); (· go_simp; (try with_reducible rfl)); simp only [pu, sB, s0, sS])
  iterate 2 ((with_reducible refine rN (v := ?_) ?_ ?_ ?_); rotate_left; (· rfl); (· go_simp; (try with_reducible rfl)); simp only [pu, sB, s0, sS])
  iterate 2 ((with_reducible refine rN (v := .bool false) ?_ ?_ ?_); (· rfl); (· go_simp; (try with_reducible rfl)); simp only [pu, sB, s0, sS])
  go_upto_region 3 with fail
  refine wp_region_lit ?_
  (with_reducible refine rN (v := ?_) ?_ ?_ ?_); rotate_left; (· rfl); (· go_simp; (try with_reducible rfl)); simp only [pu, sB, s0, sS]
  go_wp2_with fail
  refine (HP.out _ B2.out).mono ?_
  rintro e w3 ⟨rfl, hb⟩
  have B3 := Lib.hid (B2.out.trans (hb.mono B2.out.size))
  have KA3 := Lib.hid (KA2.out.below hb KA2.out.lt)
  clear hb
  clear B2 KA2
  go_simp
  rename_i hKK
  refine hKK _ _ ?_
  clear hKK
  try simp only [pu, sB, s0, sS]
  (with_reducible refine rN (v := ?_) ?_ ?_ ?_); rotate_left; (· rfl); (· go_simp; (try with_reducible rfl)); simp only [pu, sB, s0, sS]
  (with_reducible refine rN (v := .agg (mO k2 n2 m2 s2 (cellsF g gs))) ?_ ?_ ?_); (· rfl); (· go_simp; (try with_reducible rfl)); simp only [pu, sB, s0, sS]
  (with_reducible refine rN (v := ?_) ?_ ?_ ?_); rotate_left; (· rfl); (· go_simp; (try with_reducible rfl)); simp only [pu, sB, s0, sS]
  obtain ⟨w4, hw⟩ : ∃ v, v = w3.alloc (.cells (mO 0 0 0 ⟨#[]⟩ cellsZ) 27) := ⟨_, rfl⟩
  obtain ⟨pB, hp⟩ : ∃ v, v = w3.heap.size := ⟨_, rfl⟩
  have B4 : Hid (Below w.heap.size w w4) := Lib.hid (by rw [hw]; exact B3.out.alloc B3.out.size _)
  have LEB : Hid (w.heap.size ≤ pB) := Lib.hid (by rw [hp]; exact B3.out.size)
  have KA4 := Lib.hid (show Blk w4 pA (mO k n m s (cellsF f fs)) 27 by rw [hw]; exact KA3.out.alloc _)
  have NEAB : Hid (pA ≠ pB) := Lib.hid (by rw [hp]; exact Nat.ne_of_lt KA3.out.lt)
  have NEBA : Hid (pB ≠ pA) := Lib.hid (Ne.symm NEAB.out)
  have KB4 : Hid (Blk w4 pB (mO 0 0 0 ⟨#[]⟩ cellsZ) 27) := Lib.hid (by rw [hw, hp]; exact Blk.new _ _ _)
  with_reducible refine wpList_runWV (some 5) (v := .pointer (some ⟨pB, 0, none⟩)) (w' := w4) ?_ ?_ ?_ ?_
  · rfl
  · rfl
  · rw [hw, hp]; (go_simp; (try rfl))
  simp only [pu, sB, s0, sS]
  clear hw hp
  clear B3 KA3
  have KB5 := Lib.hid (KB4.out.stored (o := 0) (vs := (mO k2 n2 m2 s2 (cellsF g gs)).toList) (cs' := (mO k2 n2 m2 s2 (cellsF g gs))) (laid_all (mO_sz (cellsF_size g gs)) (mO_sz cellsZ_size)))
  have KA5 := Lib.hid (KA4.out.wholeElse ((mO k2 n2 m2 s2 (cellsF g gs)).toList) (o := 0) NEAB.out)
  have B5 := Lib.hid (below_whole ((mO k2 n2 m2 s2 (cellsF g gs)).toList) (o := 0) B4.out LEB.out)
  with_reducible refine wpList_storeM (.tmp 5) (.tmp 21) (o := 0) (vs := (mO k2 n2 m2 s2 (cellsF g gs))) ?_ ?_ KB4.out ?_ (infoTMo20 (mO_sz (cellsF_size g gs))) (mO_one (cellsF_one g gs)) ?_
  · rfl
  · rfl
  · exact (fit_2 (mO_sz cellsZ_size) (mO_sz (cellsF_size g gs)) (by decide))
  (try simp only [Act.put])
  generalize World.setCells _ _ _ _ = w5 at KA5 KB5 B5 ⊢
  clear B4 KA4 KB4
  (with_reducible refine rN (v := ?_) ?_ ?_ ?_); rotate_left; (· rfl); (· go_simp; (try with_reducible rfl)); simp only [pu, sB, s0, sS]
  go_upto_region 4 with fail
  refine wp_region_lit ?_
  (with_reducible refine rN (v := ?_) ?_ ?_ ?_); rotate_left; (· rfl); (· go_simp; (try with_reducible rfl)); simp only [pu, sB, s0, sS]
  iterate 2 ((with_reducible refine rN (v := .bool true) ?_ ?_ ?_); (· rfl); (· go_simp; (try with_reducible rfl)); simp only [pu, sB, s0, sS])
  with_reducible refine wpList_loadS (.tmp 5) ?_ ?_ KB5.out Tryz.underlying27 ?_ (infoTMo20 (mO_sz (cellsF_size g gs))) ?_
  · rfl
  · rfl
  · rfl
  simp only [pu, sB, s0, sS]
  go_wp2_with fail
  refine (HT2.out _ B5.out).mono ?_
  rintro e w6 ⟨rfl, hb⟩
  have B6 := Lib.hid (B5.out.trans (hb.mono B5.out.size))
  have KA6 := Lib.hid (KA5.out.below hb KA5.out.lt)
  have KB6 := Lib.hid (KB5.out.below hb KB5.out.lt)
  clear hb
  clear B5 KA5 KB5
  go_simp
  rename_i hKK
  refine hKK _ _ ?_
  clear hKK
  try simp only [pu, sB, s0, sS]
  (with_reducible refine rN (v := ?_) ?_ ?_ ?_); rotate_left; (· rfl); (· go_simp; (try with_reducible rfl)); simp only [pu, sB, s0, sS]
  iterate 2 ((with_reducible refine rN (v := .bool false) ?_ ?_ ?_); (· rfl); (· go_simp; (try with_reducible rfl)); simp only [pu, sB, s0, sS])
  with_reducible refine wpList_loadS (.tmp 5) ?_ ?_ KB6.out Tryz.underlying27 ?_ (infoTMo20 (mO_sz (cellsF_size g gs))) ?_
  · rfl
  · rfl
  · rfl
  simp only [pu, sB, s0, sS]
  go_wp2_with fail
  refine (HI2.out _ B6.out).mono ?_
  rintro e w7 ⟨rfl, hb⟩
  have B7 := Lib.hid (B6.out.trans (hb.mono B6.out.size))
  have KA7 := Lib.hid (KA6.out.below hb KA6.out.lt)
  have KB7 := Lib.hid (KB6.out.below hb KB6.out.lt)
  clear hb
  clear B6 KA6 KB6
  go_simp
  rename_i hKK
  refine hKK _ _ ?_
  clear hKK
  try simp only [pu, sB, s0, sS]
  iterate 3 ((with_reducible refine rN (v := .bool false) ?_ ?_ ?_); (· rfl); (· go_simp; (try with_reducible rfl)); simp only [pu, sB, s0, sS])
  go_upto_region 6 with fail
  refine wp_region_lit ?_
  with_reducible refine wpList_loadS (.tmp 2) ?_ ?_ KA7.out Tryz.underlying27 ?_ (infoTMo20 (mO_sz (cellsF_size f fs))) ?_
  · rfl
  · rfl
  · rfl
  simp only [pu, sB, s0, sS]
  go_wp2_with fail
  refine (HT.out _ B7.out).mono ?_
  rintro e w8 ⟨rfl, hb⟩
  have B8 := Lib.hid (B7.out.trans (hb.mono B7.out.size))
  have KA8 := Lib.hid (KA7.out.below hb KA7.out.lt)
  have KB8 := Lib.hid (KB7.out.below hb KB7.out.lt)
  clear hb
  clear B7 KA7 KB7
  go_simp
  rename_i hKK
  refine hKK _ _ ?_
  clear hKK
  try simp only [pu, sB, s0, sS]
  go_wp2_with fail
  refine (HQ.out _ B8.out).mono ?_
  rintro e w9 ⟨rfl, hb⟩
  have B9 := Lib.hid (B8.out.trans (hb.mono B8.out.size))
  have KA9 := Lib.hid (KA8.out.below hb KA8.out.lt)
  have KB9 := Lib.hid (KB8.out.below hb KB8.out.lt)
  clear hb
  clear B8 KA8 KB8
  go_simp
  rename_i hKK
  refine hKK _ _ ?_
  clear hKK
  try simp only [pu, sB, s0, sS]
  (with_reducible refine rN (v := ?_) ?_ ?_ ?_); rotate_left; (· rfl); (· go_simp; (try with_reducible rfl)); simp only [pu, sB, s0, sS]
  (with_reducible refine rN (v := .agg (mO 0 0 0 ⟨#[]⟩ cellsZ)) ?_ ?_ ?_); (· rfl); (· go_simp; (try with_reducible rfl)); simp only [pu, sB, s0, sS]
  (with_reducible refine rN (v := ?_) ?_ ?_ ?_); rotate_left; (· rfl); (· go_simp; (try with_reducible rfl)); simp only [pu, sB, s0, sS]
  obtain ⟨w10, hw⟩ : ∃ v, v = w9.alloc (.cells (mO 0 0 0 ⟨#[]⟩ cellsZ) 27) := ⟨_, rfl⟩
  obtain ⟨pD, hp⟩ : ∃ v, v = w9.heap.size := ⟨_, rfl⟩
  have B10 : Hid (Below w.heap.size w w10) := Lib.hid (by rw [hw]; exact B9.out.alloc B9.out.size _)
  have LED : Hid (w.heap.size ≤ pD) := Lib.hid (by rw [hp]; exact B9.out.size)
  have KA10 := Lib.hid (show Blk w10 pA (mO k n m s (cellsF f fs)) 27 by rw [hw]; exact KA9.out.alloc _)
  have NEAD : Hid (pA ≠ pD) := Lib.hid (by rw [hp]; exact Nat.ne_of_lt KA9.out.lt)
  have NEDA : Hid (pD ≠ pA) := Lib.hid (Ne.symm NEAD.out)
  have KB10 := Lib.hid (show Blk w10 pB (mO k2 n2 m2 s2 (cellsF g gs)) 27 by rw [hw]; exact KB9.out.alloc _)
  have NEBD : Hid (pB ≠ pD) := Lib.hid (by rw [hp]; exact Nat.ne_of_lt KB9.out.lt)
  have NEDB : Hid (pD ≠ pB) := Lib.hid (Ne.symm NEBD.out)
  have KD10 : Hid (Blk w10 pD (mO 0 0 0 ⟨#[]⟩ cellsZ) 27) := Lib.hid (by rw [hw, hp]; exact Blk.new _ _ _)
  with_reducible refine wpList_runWV (some 7) (v := .pointer (some ⟨pD, 0, none⟩)) (w' := w10) ?_ ?_ ?_ ?_
  · rfl
  · rfl
  · rw [hw, hp]; (go_simp; (try rfl))
  simp only [pu, sB, s0, sS]
  clear hw hp
  clear B9 KA9 KB9
  have KD11 := Lib.hid (KD10.out.stored (o := 0) (vs := (mO 0 0 0 ⟨#[]⟩ cellsZ).toList) (cs' := (mO 0 0 0 ⟨#[]⟩ cellsZ)) (laid_all (mO_sz cellsZ_size) (mO_sz cellsZ_size)))
  have KA11 := Lib.hid (KA10.out.wholeElse ((mO 0 0 0 ⟨#[]⟩ cellsZ).toList) (o := 0) NEAD.out)
  have KB11 := Lib.hid (KB10.out.wholeElse ((mO 0 0 0 ⟨#[]⟩ cellsZ).toList) (o := 0) NEBD.out)
  have B11 := Lib.hid (below_whole ((mO 0 0 0 ⟨#[]⟩ cellsZ).toList) (o := 0) B10.out LED.out)
  with_reducible refine wpList_storeM (.tmp 7) (.tmp 40) (o := 0) (vs := (mO 0 0 0 ⟨#[]⟩ cellsZ)) ?_ ?_ KD10.out ?_ (infoTMo20 (mO_sz cellsZ_size)) (mO_one cellsZ_one) ?_
  · rfl
  · rfl
  · exact (fit_2 (mO_sz cellsZ_size) (mO_sz cellsZ_size) (by decide))
  (try simp only [Act.put])
  generalize World.setCells _ _ _ _ = w11 at KA11 KB11 KD11 B11 ⊢
  clear B10 KA10 KB10 KD10
  (with_reducible refine rN (v := ?_) ?_ ?_ ?_); rotate_left; (· rfl); (· go_simp; (try with_reducible rfl)); simp only [pu, sB, s0, sS]
  go_upto_region 7 with fail
  refine wp_region_lit ?_
  with_reducible refine wpList_loadS (.tmp 2) ?_ ?_ KA11.out Tryz.underlying27 ?_ (infoTMo20 (mO_sz (cellsF_size f fs))) ?_
  · rfl
  · rfl
  · rfl
  simp only [pu, sB, s0, sS]
  go_wp2_with fail
  refine (HI.out _ B11.out).mono ?_
  rintro e w12 ⟨rfl, hb⟩
  have B12 := Lib.hid (B11.out.trans (hb.mono B11.out.size))
  have KA12 := Lib.hid (KA11.out.below hb KA11.out.lt)
  have KB12 := Lib.hid (KB11.out.below hb KB11.out.lt)
  have KD12 := Lib.hid (KD11.out.below hb KD11.out.lt)
  clear hb
  clear B11 KA11 KB11 KD11
  go_simp
  rename_i hKK
  refine hKK _ _ ?_
  clear hKK
  try simp only [pu, sB, s0, sS]
  (with_reducible refine rN (v := .bool true) ?_ ?_ ?_); (· rfl); (· go_simp; (try with_reducible rfl)); simp only [pu, sB, s0, sS]
  go_upto_region 8 with fail
  refine wp_region_lit ?_
  with_reducible refine wpList_loadS (.tmp 2) ?_ ?_ KA12.out Tryz.underlying27 ?_ (infoTMo20 (mO_sz (cellsF_size f fs))) ?_
  · rfl
  · rfl
  · rfl
  simp only [pu, sB, s0, sS]
  go_wp2_with fail
  refine (HT.out _ B12.out).mono ?_
  rintro e w13 ⟨rfl, hb⟩
  have B13 := Lib.hid (B12.out.trans (hb.mono B12.out.size))
  have KA13 := Lib.hid (KA12.out.below hb KA12.out.lt)
  have KB13 := Lib.hid (KB12.out.below hb KB12.out.lt)
  have KD13 := Lib.hid (KD12.out.below hb KD12.out.lt)
  clear hb
  clear B12 KA12 KB12 KD12
  go_simp
  rename_i hKK
  refine hKK _ _ ?_
  clear hKK
  try simp only [pu, sB, s0, sS]
  iterate 2 ((with_reducible refine rN (v := .bool true) ?_ ?_ ?_); (· rfl); (· go_simp; (try with_reducible rfl)); simp only [pu, sB, s0, sS])
  (with_reducible refine rN (v := ?_) ?_ ?_ ?_); rotate_left; (· rfl); (· go_simp; (try with_reducible rfl)); simp only [pu, sB, s0, sS]
  iterate 3 ((with_reducible refine rN (v := .bool true) ?_ ?_ ?_); (· rfl); (· go_simp; (try with_reducible rfl)); simp only [pu, sB, s0, sS])
  go_wp2_with fail
  refine (HL.out _ B13.out).mono ?_
  rintro e w14 ⟨rfl, hb⟩
  have B14 := Lib.hid (B13.out.trans (hb.mono B13.out.size))
  have KA14 := Lib.hid (KA13.out.below hb KA13.out.lt)
  have KB14 := Lib.hid (KB13.out.below hb KB13.out.lt)
  have KD14 := Lib.hid (KD13.out.below hb KD13.out.lt)
  clear hb
  clear B13 KA13 KB13 KD13
  go_simp
  rename_i hKK
  refine hKK _ _ ?_
  clear hKK
  try simp only [pu, sB, s0, sS]
  iterate 2 ((with_reducible refine rN (v := .bool true) ?_ ?_ ?_); (· rfl); (· go_simp; (try with_reducible rfl)); simp only [pu, sB, s0, sS])
  go_wp2_with fail
  go_ret
  exact ⟨rfl, B14.out⟩

set_option maxHeartbeats 8000000 in
set_option maxRecDepth 100000 in
theorem backNV (k n m : Int) (s : ByteArray) (f : Fil.Flt) (fs : ByteArray) (t u : ByteArray) (w : World)
    (HL : Hid (∀ W, Below w.heap.size w W → Calls Tryz.prog 11 #[] W fun e w' => e = .returned (.bool true) ∧ Below W.heap.size W w')) (HS : Hid (∀ W, Below w.heap.size w W → Calls Tryz.prog 10 #[.agg (mO k n m s (cellsF f fs))] W fun e w' => e = .returned (.bool true) ∧ Below W.heap.size W w')) (hl : ¬ (500 : Int) < (t.size : Int)) (HP : Hid (∀ W, Below w.heap.size w W → Calls Tryz.prog 18 #[.string t] W fun e w' => e = .returned (.tuple #[.agg (mO 0 0 0 ⟨#[]⟩ cellsZ), .int .i64 3]) ∧ Below W.heap.size W w')) (HT : Hid (∀ W, Below w.heap.size w W → Calls Tryz.prog 14 #[.agg (mO k n m s (cellsF f fs))] W fun e w' => e = .returned (.string u) ∧ Below W.heap.size W w')) (HQ : Hid (∀ W, Below w.heap.size w W → Calls Tryz.prog 18 #[.string u] W fun e w' => e = .returned (.tuple #[.agg (mO k n m s (cellsF f fs)), .int .i64 0]) ∧ Below W.heap.size W w')) (HI : Hid (∀ W, Below w.heap.size w W → Calls Tryz.prog 12 #[.agg (mO k n m s (cellsF f fs))] W fun e w' => e = .returned (.bool true) ∧ Below W.heap.size W w')) (hq : ∀ W : World, (Op.equalIn 10000 27 (.agg (mO k n m s (cellsF f fs))) (.agg (mO k n m s (cellsF f fs)))).run Tryz.prog W = .ok true W) :
    Calls Tryz.prog 5 #[.agg (mO k n m s (cellsF f fs)), .string t] w fun e w' => e = .returned (.bool true) ∧ Below w.heap.size w w' := by

  have B0 := Lib.hid (Below.refl w.heap.size w)
  go_enter Tryz.func5, Tryz.ntmps5
  go_upto_region 0 with fail
  refine wp_region_lit ?_
  obtain ⟨w1, hw⟩ : ∃ v, v = w.alloc (.cells (mO k n m s (cellsF f fs)) 27) := ⟨_, rfl⟩
  obtain ⟨pA, hp⟩ : ∃ v, v = w.heap.size := ⟨_, rfl⟩
  have B1 : Hid (Below w.heap.size w w1) := Lib.hid (by rw [hw]; exact B0.out.alloc B0.out.size _)
  have LEA : Hid (w.heap.size ≤ pA) := Lib.hid (by rw [hp]; exact B0.out.size)
  have KA1 : Hid (Blk w1 pA (mO k n m s (cellsF f fs)) 27) := Lib.hid (by rw [hw, hp]; exact Blk.new _ _ _)
  with_reducible refine wpList_runWV (some 2) (v := .pointer (some ⟨pA, 0, none⟩)) (w' := w1) ?_ ?_ ?_ ?_
  · rfl
  · rfl
  · rw [hw, hp]; (go_simp; (try rfl))
  simp only [pu, sB, s0, sS]
  clear hw hp
  clear B0
  (with_reducible refine rN (v := .bool false) ?_ ?_ ?_); (· rfl); (· go_simp; (try with_reducible rfl)); simp only [pu, sB, s0, sS]
  go_upto_region 1 with fail
  refine wp_region_lit ?_
  with_reducible refine wpList_loadS (.tmp 2) ?_ ?_ KA1.out Tryz.underlying27 ?_ (infoTMo20 (mO_sz (cellsF_size f fs))) ?_
  · rfl
  · rfl
  · rfl
  simp only [pu, sB, s0, sS]
  go_wp2_with fail
  refine (HS.out _ B1.out).mono ?_
  rintro e w2 ⟨rfl, hb⟩
  have B2 := Lib.hid (B1.out.trans (hb.mono B1.out.size))
  have KA2 := Lib.hid (KA1.out.below hb KA1.out.lt)
  clear hb
  clear B1 KA1
  go_simp
  rename_i hKK
  refine hKK _ _ ?_
  clear hKK
  try simp only [pu, sB, s0, sS]
  iterate 2 ((with_reducible refine rN (v := .bool false) ?_ ?_ ?_); (· rfl); (· go_simp; (try with_reducible rfl)); simp only [pu, sB, s0, sS])
  iterate 2 ((with_reducible refine rN (v := ?_) ?_ ?_ ?_); rotate_left; (· rfl); (· go_simp; (try with_reducible rfl)); simp only [pu, sB, s0, sS])
  iterate 2 ((with_reducible refine rN (v := .bool false) ?_ ?_ ?_); (· rfl); (· go_simp; (try with_reducible rfl)); simp only [pu, sB, s0, sS])
  go_upto_region 3 with fail
  refine wp_region_lit ?_
  (with_reducible refine rN (v := ?_) ?_ ?_ ?_); rotate_left; (· rfl); (· go_simp; (try with_reducible rfl)); simp only [pu, sB, s0, sS]
  go_wp2_with fail
  refine (HP.out _ B2.out).mono ?_
  rintro e w3 ⟨rfl, hb⟩
  have B3 := Lib.hid (B2.out.trans (hb.mono B2.out.size))
  have KA3 := Lib.hid (KA2.out.below hb KA2.out.lt)
  clear hb
  clear B2 KA2
  go_simp
  rename_i hKK
  refine hKK _ _ ?_
  clear hKK
  try simp only [pu, sB, s0, sS]
  (with_reducible refine rN (v := ?_) ?_ ?_ ?_); rotate_left; (· rfl); (· go_simp; (try with_reducible rfl)); simp only [pu, sB, s0, sS]
  (with_reducible refine rN (v := .agg (mO 0 0 0 ⟨#[]⟩ cellsZ)) ?_ ?_ ?_); (· rfl); (· go_simp; (try with_reducible rfl)); simp only [pu, sB, s0, sS]
  (with_reducible refine rN (v := ?_) ?_ ?_ ?_); rotate_left; (· rfl); (· go_simp; (try with_reducible rfl)); simp only [pu, sB, s0, sS]
  obtain ⟨w4, hw⟩ : ∃ v, v = w3.alloc (.cells (mO 0 0 0 ⟨#[]⟩ cellsZ) 27) := ⟨_, rfl⟩
  obtain ⟨pB, hp⟩ : ∃ v, v = w3.heap.size := ⟨_, rfl⟩
  have B4 : Hid (Below w.heap.size w w4) := Lib.hid (by rw [hw]; exact B3.out.alloc B3.out.size _)
  have LEB : Hid (w.heap.size ≤ pB) := Lib.hid (by rw [hp]; exact B3.out.size)
  have KA4 := Lib.hid (show Blk w4 pA (mO k n m s (cellsF f fs)) 27 by rw [hw]; exact KA3.out.alloc _)
  have NEAB : Hid (pA ≠ pB) := Lib.hid (by rw [hp]; exact Nat.ne_of_lt KA3.out.lt)
  have NEBA : Hid (pB ≠ pA) := Lib.hid (Ne.symm NEAB.out)
  have KB4 : Hid (Blk w4 pB (mO 0 0 0 ⟨#[]⟩ cellsZ) 27) := Lib.hid (by rw [hw, hp]; exact Blk.new _ _ _)
  with_reducible refine wpList_runWV (some 5) (v := .pointer (some ⟨pB, 0, none⟩)) (w' := w4) ?_ ?_ ?_ ?_
  · rfl
  · rfl
  · rw [hw, hp]; (go_simp; (try rfl))
  simp only [pu, sB, s0, sS]
  clear hw hp
  clear B3 KA3
  have KB5 := Lib.hid (KB4.out.stored (o := 0) (vs := (mO 0 0 0 ⟨#[]⟩ cellsZ).toList) (cs' := (mO 0 0 0 ⟨#[]⟩ cellsZ)) (laid_all (mO_sz cellsZ_size) (mO_sz cellsZ_size)))
  have KA5 := Lib.hid (KA4.out.wholeElse ((mO 0 0 0 ⟨#[]⟩ cellsZ).toList) (o := 0) NEAB.out)
  have B5 := Lib.hid (below_whole ((mO 0 0 0 ⟨#[]⟩ cellsZ).toList) (o := 0) B4.out LEB.out)
  with_reducible refine wpList_storeM (.tmp 5) (.tmp 21) (o := 0) (vs := (mO 0 0 0 ⟨#[]⟩ cellsZ)) ?_ ?_ KB4.out ?_ (infoTMo20 (mO_sz cellsZ_size)) (mO_one cellsZ_one) ?_
  · rfl
  · rfl
  · exact (fit_2 (mO_sz cellsZ_size) (mO_sz cellsZ_size) (by decide))
  (try simp only [Act.put])
  generalize World.setCells _ _ _ _ = w5 at KA5 KB5 B5 ⊢
  clear B4 KA4 KB4
  (with_reducible refine rN (v := ?_) ?_ ?_ ?_); rotate_left; (· rfl); (· go_simp; (try with_reducible rfl)); simp only [pu, sB, s0, sS]
  go_upto_region 4 with fail
  refine wp_region_lit ?_
  (with_reducible refine rN (v := ?_) ?_ ?_ ?_); rotate_left; (· rfl); (· go_simp; (try with_reducible rfl)); simp only [pu, sB, s0, sS]
  iterate 2 ((with_reducible refine rN (v := .bool false) ?_ ?_ ?_); (· rfl); (· go_simp; (try with_reducible rfl)); simp only [pu, sB, s0, sS])
  iterate 9 ((with_reducible refine kN ?_ ?_); (· rfl); simp only [pu, sB, s0, sS])
  (with_reducible refine rN (v := .bool false) ?_ ?_ ?_); (· rfl); (· go_simp; (try with_reducible rfl)); simp only [pu, sB, s0, sS]
  go_upto_region 6 with fail
  refine wp_region_lit ?_
  with_reducible refine wpList_loadS (.tmp 2) ?_ ?_ KA5.out Tryz.underlying27 ?_ (infoTMo20 (mO_sz (cellsF_size f fs))) ?_
  · rfl
  · rfl
  · rfl
  simp only [pu, sB, s0, sS]
  go_wp2_with fail
  refine (HT.out _ B5.out).mono ?_
  rintro e w6 ⟨rfl, hb⟩
  have B6 := Lib.hid (B5.out.trans (hb.mono B5.out.size))
  have KA6 := Lib.hid (KA5.out.below hb KA5.out.lt)
  have KB6 := Lib.hid (KB5.out.below hb KB5.out.lt)
  clear hb
  clear B5 KA5 KB5
  go_simp
  rename_i hKK
  refine hKK _ _ ?_
  clear hKK
  try simp only [pu, sB, s0, sS]
  go_wp2_with fail
  refine (HQ.out _ B6.out).mono ?_
  rintro e w7 ⟨rfl, hb⟩
  have B7 := Lib.hid (B6.out.trans (hb.mono B6.out.size))
  have KA7 := Lib.hid (KA6.out.below hb KA6.out.lt)
  have KB7 := Lib.hid (KB6.out.below hb KB6.out.lt)
  clear hb
  clear B6 KA6 KB6
  go_simp
  rename_i hKK
  refine hKK _ _ ?_
  clear hKK
  try simp only [pu, sB, s0, sS]
  (with_reducible refine rN (v := ?_) ?_ ?_ ?_); rotate_left; (· rfl); (· go_simp; (try with_reducible rfl)); simp only [pu, sB, s0, sS]
  (with_reducible refine rN (v := .agg (mO k n m s (cellsF f fs))) ?_ ?_ ?_); (· rfl); (· go_simp; (try with_reducible rfl)); simp only [pu, sB, s0, sS]
  (with_reducible refine rN (v := ?_) ?_ ?_ ?_); rotate_left; (· rfl); (· go_simp; (try with_reducible rfl)); simp only [pu, sB, s0, sS]
  obtain ⟨w8, hw⟩ : ∃ v, v = w7.alloc (.cells (mO 0 0 0 ⟨#[]⟩ cellsZ) 27) := ⟨_, rfl⟩
  obtain ⟨pD, hp⟩ : ∃ v, v = w7.heap.size := ⟨_, rfl⟩
  have B8 : Hid (Below w.heap.size w w8) := Lib.hid (by rw [hw]; exact B7.out.alloc B7.out.size _)
  have LED : Hid (w.heap.size ≤ pD) := Lib.hid (by rw [hp]; exact B7.out.size)
  have KA8 := Lib.hid (show Blk w8 pA (mO k n m s (cellsF f fs)) 27 by rw [hw]; exact KA7.out.alloc _)
  have NEAD : Hid (pA ≠ pD) := Lib.hid (by rw [hp]; exact Nat.ne_of_lt KA7.out.lt)
  have NEDA : Hid (pD ≠ pA) := Lib.hid (Ne.symm NEAD.out)
  have KB8 := Lib.hid (show Blk w8 pB (mO 0 0 0 ⟨#[]⟩ cellsZ) 27 by rw [hw]; exact KB7.out.alloc _)
  have NEBD : Hid (pB ≠ pD) := Lib.hid (by rw [hp]; exact Nat.ne_of_lt KB7.out.lt)
  have NEDB : Hid (pD ≠ pB) := Lib.hid (Ne.symm NEBD.out)
  have KD8 : Hid (Blk w8 pD (mO 0 0 0 ⟨#[]⟩ cellsZ) 27) := Lib.hid (by rw [hw, hp]; exact Blk.new _ _ _)
  with_reducible refine wpList_runWV (some 7) (v := .pointer (some ⟨pD, 0, none⟩)) (w' := w8) ?_ ?_ ?_ ?_
  · rfl
  · rfl
  · rw [hw, hp]; (go_simp; (try rfl))
  simp only [pu, sB, s0, sS]
  clear hw hp
  clear B7 KA7 KB7
  have KD9 := Lib.hid (KD8.out.stored (o := 0) (vs := (mO k n m s (cellsF f fs)).toList) (cs' := (mO k n m s (cellsF f fs))) (laid_all (mO_sz (cellsF_size f fs)) (mO_sz cellsZ_size)))
  have KA9 := Lib.hid (KA8.out.wholeElse ((mO k n m s (cellsF f fs)).toList) (o := 0) NEAD.out)
  have KB9 := Lib.hid (KB8.out.wholeElse ((mO k n m s (cellsF f fs)).toList) (o := 0) NEBD.out)
  have B9 := Lib.hid (below_whole ((mO k n m s (cellsF f fs)).toList) (o := 0) B8.out LED.out)
  with_reducible refine wpList_storeM (.tmp 7) (.tmp 40) (o := 0) (vs := (mO k n m s (cellsF f fs))) ?_ ?_ KD8.out ?_ (infoTMo20 (mO_sz (cellsF_size f fs))) (mO_one (cellsF_one f fs)) ?_
  · rfl
  · rfl
  · exact (fit_2 (mO_sz cellsZ_size) (mO_sz (cellsF_size f fs)) (by decide))
  (try simp only [Act.put])
  generalize World.setCells _ _ _ _ = w9 at KA9 KB9 KD9 B9 ⊢
  clear B8 KA8 KB8 KD8
  (with_reducible refine rN (v := ?_) ?_ ?_ ?_); rotate_left; (· rfl); (· go_simp; (try with_reducible rfl)); simp only [pu, sB, s0, sS]
  go_upto_region 7 with fail
  refine wp_region_lit ?_
  with_reducible refine wpList_loadS (.tmp 2) ?_ ?_ KA9.out Tryz.underlying27 ?_ (infoTMo20 (mO_sz (cellsF_size f fs))) ?_
  · rfl
  · rfl
  · rfl
  simp only [pu, sB, s0, sS]
  go_wp2_with fail
  refine (HI.out _ B9.out).mono ?_
  rintro e w10 ⟨rfl, hb⟩
  have B10 := Lib.hid (B9.out.trans (hb.mono B9.out.size))
  have KA10 := Lib.hid (KA9.out.below hb KA9.out.lt)
  have KB10 := Lib.hid (KB9.out.below hb KB9.out.lt)
  have KD10 := Lib.hid (KD9.out.below hb KD9.out.lt)
  clear hb
  clear B9 KA9 KB9 KD9
  go_simp
  rename_i hKK
  refine hKK _ _ ?_
  clear hKK
  try simp only [pu, sB, s0, sS]
  (with_reducible refine rN (v := .bool false) ?_ ?_ ?_); (· rfl); (· go_simp; (try with_reducible rfl)); simp only [pu, sB, s0, sS]
  go_upto_region 9 with fail
  refine wp_region_lit ?_
  with_reducible refine wpList_loadS (.tmp 7) ?_ ?_ KD10.out Tryz.underlying27 ?_ (infoTMo20 (mO_sz (cellsF_size f fs))) ?_
  · rfl
  · rfl
  · rfl
  simp only [pu, sB, s0, sS]
  with_reducible refine wpList_loadS (.tmp 2) ?_ ?_ KA10.out Tryz.underlying27 ?_ (infoTMo20 (mO_sz (cellsF_size f fs))) ?_
  · rfl
  · rfl
  · rfl
  simp only [pu, sB, s0, sS]
  iterate 2 ((with_reducible refine rN (v := .bool true) ?_ ?_ ?_); (· rfl); (· go_simp; (try with_reducible rfl)); simp only [pu, sB, s0, sS])
  (with_reducible refine rN (v := ?_) ?_ ?_ ?_); rotate_left; (· rfl); (· go_simp; (try with_reducible rfl)); simp only [pu, sB, s0, sS]
  iterate 3 ((with_reducible refine rN (v := .bool true) ?_ ?_ ?_); (· rfl); (· go_simp; (try with_reducible rfl)); simp only [pu, sB, s0, sS])
  go_wp2_with fail
  refine (HL.out _ B10.out).mono ?_
  rintro e w11 ⟨rfl, hb⟩
  have B11 := Lib.hid (B10.out.trans (hb.mono B10.out.size))
  have KA11 := Lib.hid (KA10.out.below hb KA10.out.lt)
  have KB11 := Lib.hid (KB10.out.below hb KB10.out.lt)
  have KD11 := Lib.hid (KD10.out.below hb KD10.out.lt)
  clear hb
  clear B10 KA10 KB10 KD10
  go_simp
  rename_i hKK
  refine hKK _ _ ?_
  clear hKK
  try simp only [pu, sB, s0, sS]
  iterate 2 ((with_reducible refine rN (v := .bool true) ?_ ?_ ?_); (· rfl); (· go_simp; (try with_reducible rfl)); simp only [pu, sB, s0, sS])
  go_wp2_with fail
  go_ret
  exact ⟨rfl, B11.out⟩

set_option maxHeartbeats 8000000 in
set_option maxRecDepth 100000 in
theorem backNB (k n m : Int) (s : ByteArray) (f : Fil.Flt) (fs : ByteArray) (t u : ByteArray) (w : World)
    (HL : Hid (∀ W, Below w.heap.size w W → Calls Tryz.prog 11 #[] W fun e w' => e = .returned (.bool true) ∧ Below W.heap.size W w')) (HS : Hid (∀ W, Below w.heap.size w W → Calls Tryz.prog 10 #[.agg (mO k n m s (cellsF f fs))] W fun e w' => e = .returned (.bool true) ∧ Below W.heap.size W w')) (hl : ¬ (500 : Int) < (t.size : Int)) (HP : Hid (∀ W, Below w.heap.size w W → Calls Tryz.prog 18 #[.string t] W fun e w' => e = .returned (.tuple #[.agg (mO 0 0 0 ⟨#[]⟩ cellsZ), .int .i64 3]) ∧ Below W.heap.size W w')) (HT : Hid (∀ W, Below w.heap.size w W → Calls Tryz.prog 14 #[.agg (mO k n m s (cellsF f fs))] W fun e w' => e = .returned (.string u) ∧ Below W.heap.size W w')) (HQ : Hid (∀ W, Below w.heap.size w W → Calls Tryz.prog 18 #[.string u] W fun e w' => e = .returned (.tuple #[.agg (mO 0 0 0 ⟨#[]⟩ cellsZ), .int .i64 3]) ∧ Below W.heap.size W w')) (HI : Hid (∀ W, Below w.heap.size w W → Calls Tryz.prog 12 #[.agg (mO k n m s (cellsF f fs))] W fun e w' => e = .returned (.bool false) ∧ Below W.heap.size W w')) (hu : u.toList.isEmpty = true) :
    Calls Tryz.prog 5 #[.agg (mO k n m s (cellsF f fs)), .string t] w fun e w' => e = .returned (.bool true) ∧ Below w.heap.size w w' := by

  have B0 := Lib.hid (Below.refl w.heap.size w)
  go_enter Tryz.func5, Tryz.ntmps5
  go_upto_region 0 with fail
  refine wp_region_lit ?_
  obtain ⟨w1, hw⟩ : ∃ v, v = w.alloc (.cells (mO k n m s (cellsF f fs)) 27) := ⟨_, rfl⟩
  obtain ⟨pA, hp⟩ : ∃ v, v = w.heap.size := ⟨_, rfl⟩
  have B1 : Hid (Below w.heap.size w w1) := Lib.hid (by rw [hw]; exact B0.out.alloc B0.out.size _)
  have LEA : Hid (w.heap.size ≤ pA) := Lib.hid (by rw [hp]; exact B0.out.size)
  have KA1 : Hid (Blk w1 pA (mO k n m s (cellsF f fs)) 27) := Lib.hid (by rw [hw, hp]; exact Blk.new _ _ _)
  with_reducible refine wpList_runWV (some 2) (v := .pointer (some ⟨pA, 0, none⟩)) (w' := w1) ?_ ?_ ?_ ?_
  · rfl
  · rfl
  · rw [hw, hp]; (go_simp; (try rfl))
  simp only [pu, sB, s0, sS]
  clear hw hp
  clear B0
  (with_reducible refine rN (v := .bool false) ?_ ?_ ?_); (· rfl); (· go_simp; (try with_reducible rfl)); simp only [pu, sB, s0, sS]
  go_upto_region 1 with fail
  refine wp_region_lit ?_
  with_reducible refine wpList_loadS (.tmp 2) ?_ ?_ KA1.out Tryz.underlying27 ?_ (infoTMo20 (mO_sz (cellsF_size f fs))) ?_
  · rfl
  · rfl
  · rfl
  simp only [pu, sB, s0, sS]
  go_wp2_with fail
  refine (HS.out _ B1.out).mono ?_
  rintro e w2 ⟨rfl, hb⟩
  have B2 := Lib.hid (B1.out.trans (hb.mono B1.out.size))
  have KA2 := Lib.hid (KA1.out.below hb KA1.out.lt)
  clear hb
  clear B1 KA1
  go_simp
  rename_i hKK
  refine hKK _ _ ?_
  clear hKK
  try simp only [pu, sB, s0, sS]
  iterate 2 ((with_reducible refine rN (v := .bool false) ?_ ?_ ?_); (· rfl); (· go_simp; (try with_reducible rfl)); simp only [pu, sB, s0, sS])
  iterate 2 ((with_reducible refine rN (v := ?_) ?_ ?_ ?_); rotate_left; (· rfl); (· go_simp; (try with_reducible rfl)); simp only [pu, sB, s0, sS])
  iterate 2 ((with_reducible refine rN (v := .bool false) ?_ ?_ ?_); (· rfl); (· go_simp; (try with_reducible rfl)); simp only [pu, sB, s0, sS])
  go_upto_region 3 with fail
  refine wp_region_lit ?_
  (with_reducible refine rN (v := ?_) ?_ ?_ ?_); rotate_left; (· rfl); (· go_simp; (try with_reducible rfl)); simp only [pu, sB, s0, sS]
  go_wp2_with fail
  refine (HP.out _ B2.out).mono ?_
  rintro e w3 ⟨rfl, hb⟩
  have B3 := Lib.hid (B2.out.trans (hb.mono B2.out.size))
  have KA3 := Lib.hid (KA2.out.below hb KA2.out.lt)
  clear hb
  clear B2 KA2
  go_simp
  rename_i hKK
  refine hKK _ _ ?_
  clear hKK
  try simp only [pu, sB, s0, sS]
  (with_reducible refine rN (v := ?_) ?_ ?_ ?_); rotate_left; (· rfl); (· go_simp; (try with_reducible rfl)); simp only [pu, sB, s0, sS]
  (with_reducible refine rN (v := .agg (mO 0 0 0 ⟨#[]⟩ cellsZ)) ?_ ?_ ?_); (· rfl); (· go_simp; (try with_reducible rfl)); simp only [pu, sB, s0, sS]
  (with_reducible refine rN (v := ?_) ?_ ?_ ?_); rotate_left; (· rfl); (· go_simp; (try with_reducible rfl)); simp only [pu, sB, s0, sS]
  obtain ⟨w4, hw⟩ : ∃ v, v = w3.alloc (.cells (mO 0 0 0 ⟨#[]⟩ cellsZ) 27) := ⟨_, rfl⟩
  obtain ⟨pB, hp⟩ : ∃ v, v = w3.heap.size := ⟨_, rfl⟩
  have B4 : Hid (Below w.heap.size w w4) := Lib.hid (by rw [hw]; exact B3.out.alloc B3.out.size _)
  have LEB : Hid (w.heap.size ≤ pB) := Lib.hid (by rw [hp]; exact B3.out.size)
  have KA4 := Lib.hid (show Blk w4 pA (mO k n m s (cellsF f fs)) 27 by rw [hw]; exact KA3.out.alloc _)
  have NEAB : Hid (pA ≠ pB) := Lib.hid (by rw [hp]; exact Nat.ne_of_lt KA3.out.lt)
  have NEBA : Hid (pB ≠ pA) := Lib.hid (Ne.symm NEAB.out)
  have KB4 : Hid (Blk w4 pB (mO 0 0 0 ⟨#[]⟩ cellsZ) 27) := Lib.hid (by rw [hw, hp]; exact Blk.new _ _ _)
  with_reducible refine wpList_runWV (some 5) (v := .pointer (some ⟨pB, 0, none⟩)) (w' := w4) ?_ ?_ ?_ ?_
  · rfl
  · rfl
  · rw [hw, hp]; (go_simp; (try rfl))
  simp only [pu, sB, s0, sS]
  clear hw hp
  clear B3 KA3
  have KB5 := Lib.hid (KB4.out.stored (o := 0) (vs := (mO 0 0 0 ⟨#[]⟩ cellsZ).toList) (cs' := (mO 0 0 0 ⟨#[]⟩ cellsZ)) (laid_all (mO_sz cellsZ_size) (mO_sz cellsZ_size)))
  have KA5 := Lib.hid (KA4.out.wholeElse ((mO 0 0 0 ⟨#[]⟩ cellsZ).toList) (o := 0) NEAB.out)
  have B5 := Lib.hid (below_whole ((mO 0 0 0 ⟨#[]⟩ cellsZ).toList) (o := 0) B4.out LEB.out)
  with_reducible refine wpList_storeM (.tmp 5) (.tmp 21) (o := 0) (vs := (mO 0 0 0 ⟨#[]⟩ cellsZ)) ?_ ?_ KB4.out ?_ (infoTMo20 (mO_sz cellsZ_size)) (mO_one cellsZ_one) ?_
  · rfl
  · rfl
  · exact (fit_2 (mO_sz cellsZ_size) (mO_sz cellsZ_size) (by decide))
  (try simp only [Act.put])
  generalize World.setCells _ _ _ _ = w5 at KA5 KB5 B5 ⊢
  clear B4 KA4 KB4
  (with_reducible refine rN (v := ?_) ?_ ?_ ?_); rotate_left; (· rfl); (· go_simp; (try with_reducible rfl)); simp only [pu, sB, s0, sS]
  go_upto_region 4 with fail
  refine wp_region_lit ?_
  (with_reducible refine rN (v := ?_) ?_ ?_ ?_); rotate_left; (· rfl); (· go_simp; (try with_reducible rfl)); simp only [pu, sB, s0, sS]
  iterate 2 ((with_reducible refine rN (v := .bool false) ?_ ?_ ?_); (· rfl); (· go_simp; (try with_reducible rfl)); simp only [pu, sB, s0, sS])
  iterate 9 ((with_reducible refine kN ?_ ?_); (· rfl); simp only [pu, sB, s0, sS])
  (with_reducible refine rN (v := .bool false) ?_ ?_ ?_); (· rfl); (· go_simp; (try with_reducible rfl)); simp only [pu, sB, s0, sS]
  go_upto_region 6 with fail
  refine wp_region_lit ?_
  with_reducible refine wpList_loadS (.tmp 2) ?_ ?_ KA5.out Tryz.underlying27 ?_ (infoTMo20 (mO_sz (cellsF_size f fs))) ?_
  · rfl
  · rfl
  · rfl
  simp only [pu, sB, s0, sS]
  go_wp2_with fail
  refine (HT.out _ B5.out).mono ?_
  rintro e w6 ⟨rfl, hb⟩
  have B6 := Lib.hid (B5.out.trans (hb.mono B5.out.size))
  have KA6 := Lib.hid (KA5.out.below hb KA5.out.lt)
  have KB6 := Lib.hid (KB5.out.below hb KB5.out.lt)
  clear hb
  clear B5 KA5 KB5
  go_simp
  rename_i hKK
  refine hKK _ _ ?_
  clear hKK
  try simp only [pu, sB, s0, sS]
  go_wp2_with fail
  refine (HQ.out _ B6.out).mono ?_
  rintro e w7 ⟨rfl, hb⟩
  have B7 := Lib.hid (B6.out.trans (hb.mono B6.out.size))
  have KA7 := Lib.hid (KA6.out.below hb KA6.out.lt)
  have KB7 := Lib.hid (KB6.out.below hb KB6.out.lt)
  clear hb
  clear B6 KA6 KB6
  go_simp
  rename_i hKK
  refine hKK _ _ ?_
  clear hKK
  try simp only [pu, sB, s0, sS]
  (with_reducible refine rN (v := ?_) ?_ ?_ ?_); rotate_left; (· rfl); (· go_simp; (try with_reducible rfl)); simp only [pu, sB, s0, sS]
  (with_reducible refine rN (v := .agg (mO 0 0 0 ⟨#[]⟩ cellsZ)) ?_ ?_ ?_); (· rfl); (· go_simp; (try with_reducible rfl)); simp only [pu, sB, s0, sS]
  (with_reducible refine rN (v := ?_) ?_ ?_ ?_); rotate_left; (· rfl); (· go_simp; (try with_reducible rfl)); simp only [pu, sB, s0, sS]
  obtain ⟨w8, hw⟩ : ∃ v, v = w7.alloc (.cells (mO 0 0 0 ⟨#[]⟩ cellsZ) 27) := ⟨_, rfl⟩
  obtain ⟨pD, hp⟩ : ∃ v, v = w7.heap.size := ⟨_, rfl⟩
  have B8 : Hid (Below w.heap.size w w8) := Lib.hid (by rw [hw]; exact B7.out.alloc B7.out.size _)
  have LED : Hid (w.heap.size ≤ pD) := Lib.hid (by rw [hp]; exact B7.out.size)
  have KA8 := Lib.hid (show Blk w8 pA (mO k n m s (cellsF f fs)) 27 by rw [hw]; exact KA7.out.alloc _)
  have NEAD : Hid (pA ≠ pD) := Lib.hid (by rw [hp]; exact Nat.ne_of_lt KA7.out.lt)
  have NEDA : Hid (pD ≠ pA) := Lib.hid (Ne.symm NEAD.out)
  have KB8 := Lib.hid (show Blk w8 pB (mO 0 0 0 ⟨#[]⟩ cellsZ) 27 by rw [hw]; exact KB7.out.alloc _)
  have NEBD : Hid (pB ≠ pD) := Lib.hid (by rw [hp]; exact Nat.ne_of_lt KB7.out.lt)
  have NEDB : Hid (pD ≠ pB) := Lib.hid (Ne.symm NEBD.out)
  have KD8 : Hid (Blk w8 pD (mO 0 0 0 ⟨#[]⟩ cellsZ) 27) := Lib.hid (by rw [hw, hp]; exact Blk.new _ _ _)
  with_reducible refine wpList_runWV (some 7) (v := .pointer (some ⟨pD, 0, none⟩)) (w' := w8) ?_ ?_ ?_ ?_
  · rfl
  · rfl
  · rw [hw, hp]; (go_simp; (try rfl))
  simp only [pu, sB, s0, sS]
  clear hw hp
  clear B7 KA7 KB7
  have KD9 := Lib.hid (KD8.out.stored (o := 0) (vs := (mO 0 0 0 ⟨#[]⟩ cellsZ).toList) (cs' := (mO 0 0 0 ⟨#[]⟩ cellsZ)) (laid_all (mO_sz cellsZ_size) (mO_sz cellsZ_size)))
  have KA9 := Lib.hid (KA8.out.wholeElse ((mO 0 0 0 ⟨#[]⟩ cellsZ).toList) (o := 0) NEAD.out)
  have KB9 := Lib.hid (KB8.out.wholeElse ((mO 0 0 0 ⟨#[]⟩ cellsZ).toList) (o := 0) NEBD.out)
  have B9 := Lib.hid (below_whole ((mO 0 0 0 ⟨#[]⟩ cellsZ).toList) (o := 0) B8.out LED.out)
  with_reducible refine wpList_storeM (.tmp 7) (.tmp 40) (o := 0) (vs := (mO 0 0 0 ⟨#[]⟩ cellsZ)) ?_ ?_ KD8.out ?_ (infoTMo20 (mO_sz cellsZ_size)) (mO_one cellsZ_one) ?_
  · rfl
  · rfl
  · exact (fit_2 (mO_sz cellsZ_size) (mO_sz cellsZ_size) (by decide))
  (try simp only [Act.put])
  generalize World.setCells _ _ _ _ = w9 at KA9 KB9 KD9 B9 ⊢
  clear B8 KA8 KB8 KD8
  (with_reducible refine rN (v := ?_) ?_ ?_ ?_); rotate_left; (· rfl); (· go_simp; (try with_reducible rfl)); simp only [pu, sB, s0, sS]
  go_upto_region 7 with fail
  refine wp_region_lit ?_
  with_reducible refine wpList_loadS (.tmp 2) ?_ ?_ KA9.out Tryz.underlying27 ?_ (infoTMo20 (mO_sz (cellsF_size f fs))) ?_
  · rfl
  · rfl
  · rfl
  simp only [pu, sB, s0, sS]
  go_wp2_with fail
  refine (HI.out _ B9.out).mono ?_
  rintro e w10 ⟨rfl, hb⟩
  have B10 := Lib.hid (B9.out.trans (hb.mono B9.out.size))
  have KA10 := Lib.hid (KA9.out.below hb KA9.out.lt)
  have KB10 := Lib.hid (KB9.out.below hb KB9.out.lt)
  have KD10 := Lib.hid (KD9.out.below hb KD9.out.lt)
  clear hb
  clear B9 KA9 KB9 KD9
  go_simp
  rename_i hKK
  refine hKK _ _ ?_
  clear hKK
  try simp only [pu, sB, s0, sS]
  (with_reducible refine rN (v := .bool true) ?_ ?_ ?_); (· rfl); (· go_simp; (try with_reducible rfl)); simp only [pu, sB, s0, sS]
  go_upto_region 8 with fail
  refine wp_region_lit ?_
  with_reducible refine wpList_loadS (.tmp 2) ?_ ?_ KA10.out Tryz.underlying27 ?_ (infoTMo20 (mO_sz (cellsF_size f fs))) ?_
  · rfl
  · rfl
  · rfl
  simp only [pu, sB, s0, sS]
  go_wp2_with fail
  refine (HT.out _ B10.out).mono ?_
  rintro e w11 ⟨rfl, hb⟩
  have B11 := Lib.hid (B10.out.trans (hb.mono B10.out.size))
  have KA11 := Lib.hid (KA10.out.below hb KA10.out.lt)
  have KB11 := Lib.hid (KB10.out.below hb KB10.out.lt)
  have KD11 := Lib.hid (KD10.out.below hb KD10.out.lt)
  clear hb
  clear B10 KA10 KB10 KD10
  go_simp
  rename_i hKK
  refine hKK _ _ ?_
  clear hKK
  try simp only [pu, sB, s0, sS]
  iterate 2 ((with_reducible refine rN (v := .bool true) ?_ ?_ ?_); (· rfl); (· go_simp; (try with_reducible rfl)); simp only [pu, sB, s0, sS])
  (with_reducible refine rN (v := ?_) ?_ ?_ ?_); rotate_left; (· rfl); (· go_simp; (try with_reducible rfl)); simp only [pu, sB, s0, sS]
  iterate 3 ((with_reducible refine rN (v := .bool true) ?_ ?_ ?_); (· rfl); (· go_simp; (try with_reducible rfl)); simp only [pu, sB, s0, sS])
  go_wp2_with fail
  refine (HL.out _ B11.out).mono ?_
  rintro e w12 ⟨rfl, hb⟩
  have B12 := Lib.hid (B11.out.trans (hb.mono B11.out.size))
  have KA12 := Lib.hid (KA11.out.below hb KA11.out.lt)
  have KB12 := Lib.hid (KB11.out.below hb KB11.out.lt)
  have KD12 := Lib.hid (KD11.out.below hb KD11.out.lt)
  clear hb
  clear B11 KA11 KB11 KD11
  go_simp
  rename_i hKK
  refine hKK _ _ ?_
  clear hKK
  try simp only [pu, sB, s0, sS]
  iterate 2 ((with_reducible refine rN (v := .bool true) ?_ ?_ ?_); (· rfl); (· go_simp; (try with_reducible rfl)); simp only [pu, sB, s0, sS])
  go_wp2_with fail
  go_ret
  exact ⟨rfl, B12.out⟩
end Go.Proofs.YthkkabdhmflhiaaGreatDoor
namespace Go.Proofs.YthkkabdhmflhiaaGreatDoor
open Go.RowKit
open Wd (Bs)

theorem lawModBack (k n m : Int) (s : ByteArray) (f : Fil.Flt) (fs t : ByteArray) (hf : f.sub = fs.data.toList) (w : World) (hE : Env w) :
    Calls Tryz.prog 5 #[.agg (mO k n m s (cellsF f fs)), .string t] w fun e w' => e = .returned (.bool true) ∧ Below w.heap.size w w' := by
  have HL : Hid (∀ W, Below w.heap.size w W → Calls Tryz.prog 11 #[] W fun e w' => e = .returned (.bool true) ∧ Below W.heap.size W w') := Lib.hid fun W hb => modAlive W (hE.below hb)
  have HS : Hid (∀ W, Below w.heap.size w W → _) := Lib.hid fun W _ => modShort k n m s f fs W
  cases hsh : (decide ((s.size : Int) ≤ 100) && decide ((fs.size : Int) ≤ 100)) with
  | false => rw [hsh] at HS; exact backNo k n m s f fs t w HL HS
  | true =>
    rw [hsh] at HS
    by_cases hl : (500 : Int) < (t.size : Int)
    · exact backLong k n m s f fs t w HL HS hl
    · simp only [Bool.and_eq_true, decide_eq_true_eq] at hsh
      have hsl : t.data.toList.length = t.size := Array.length_toList
      obtain ⟨x, hx⟩ : ∃ x, x = (⟨k, n, m, s.data.toList, f⟩ : Mo.Md) := ⟨_, rfl⟩
      have ex : mO k n m s (cellsF f fs) = cellsX x := by rw [hx]; exact cellsX_of hf
      have hsz : s.data.toList.length = s.size := Array.length_toList
      have hfz : fs.data.toList.length = fs.size := Array.length_toList
      have hx1 : x.sub.length ≤ 1000000 := by rw [hx]; show s.data.toList.length ≤ _; omega
      have hx2 : x.f.sub.length ≤ 1000000 := by rw [hx]; show f.sub.length ≤ _; rw [hf]; omega
      have hEQ : ∀ W : World, (Op.equalIn 10000 27 (.agg (mO k n m s (cellsF f fs))) (.agg (mO k n m s (cellsF f fs)))).run Tryz.prog W = .ok true W := fun W => run_eq_modS k n m s f fs hf W
      -- the text of what came in, and what it is read as
      have HT : Hid (∀ W, Below w.heap.size w W → _) := Lib.hid fun W hb => modTextX x hx1 hx2 W (hE.below hb)
      have HI : Hid (∀ W, Below w.heap.size w W → _) := Lib.hid fun W hb => modIsX x hx1 hx2 W (hE.below hb)
      obtain ⟨u, hu, eu⟩ := exists_bytes (Mo.textM x)
      rw [eu, ← ex] at HT
      rw [← ex] at HI
      have hul : u.size ≤ 1000000 := by
        have h1 : u.data.toList.length = u.size := Array.length_toList
        have h2 : (Mo.textM x).length ≤ 6000 := by
          cases hv : Mo.okB x with
          | true => rw [Mo.textM_ok hv]; exact raw_len hv
          | false => rw [Mo.textM_bad hv]; simp
        rw [hu] at h1
        omega
      have HQ : Hid (∀ W, Below w.heap.size w W → _) := Lib.hid fun W hb => modParse u hul W (hE.below hb)
      rw [hu] at HQ
      have HP : Hid (∀ W, Below w.heap.size w W → _) := Lib.hid fun W hb => modParse t (by omega) W (hE.below hb)
      cases hv : Mo.okB x with
      | true =>
        rw [hv] at HI
        rw [(Mo.p_text hv).1, (Mo.p_text hv).2, ← ex] at HQ
        cases hp : Mo.pB t.data.toList with
        | true =>
          obtain ⟨h1, h2, h3⟩ := Mo.p_yes hp
          obtain ⟨y, hy⟩ : ∃ y, Mo.pV t.data.toList = y := ⟨_, rfl⟩
          rw [hy] at h1 h2 HP
          rw [h3] at HP
          have hy1 : y.sub.length ≤ 1000000 := by rw [← hy, (pV_yes hp).1]; have := (readM_short t.data.toList).1; omega
          have hy2 : y.f.sub.length ≤ 1000000 := by rw [← hy, (pV_yes hp).1]; have := (readM_short t.data.toList).2; omega
          obtain ⟨u2, hu2, eu2⟩ := exists_bytes (Mo.textM y)
          have HT2 : Hid (∀ W, Below w.heap.size w W → _) := Lib.hid fun W hb => modTextX y hy1 hy2 W (hE.below hb)
          rw [eu2] at HT2
          have HI2 : Hid (∀ W, Below w.heap.size w W → _) := Lib.hid fun W hb => modIsX y hy1 hy2 W (hE.below hb)
          rw [h1] at HI2
          exact backPV k n m s f fs t u y.k y.n y.m ⟨y.sub.toArray⟩ u2 y.f (fsOf y.f) w HL HS hl HP HT2 (by rw [Lib.toList_data, Lib.toList_data, hu2, h2]; simp) HI2 HT HQ HI hEQ
        | false =>
          rw [(Mo.p_no hp).1, (Mo.p_no hp).2] at HP
          exact backNV k n m s f fs t u w HL HS hl HP HT HQ HI hEQ
      | false =>
        rw [hv] at HI
        have hnil : Mo.textM x = [] := Mo.textM_bad hv
        have hpn : Mo.pB [] = false := by
          cases h : Mo.pB [] with
          | false => rfl
          | true =>
            obtain ⟨h1, h2, _⟩ := Mo.p_yes h
            rw [Mo.textM_nil] at h2
            rw [h1] at h2
            cases h2
        rw [hnil] at hu HQ
        rw [(Mo.p_no hpn).1, (Mo.p_no hpn).2] at HQ
        have hue : u.toList.isEmpty = true := by rw [Lib.toList_data, hu]; rfl
        cases hp : Mo.pB t.data.toList with
        | true =>
          obtain ⟨h1, h2, h3⟩ := Mo.p_yes hp
          obtain ⟨y, hy⟩ : ∃ y, Mo.pV t.data.toList = y := ⟨_, rfl⟩
          rw [hy] at h1 h2 HP
          rw [h3] at HP
          have hy1 : y.sub.length ≤ 1000000 := by rw [← hy, (pV_yes hp).1]; have := (readM_short t.data.toList).1; omega
          have hy2 : y.f.sub.length ≤ 1000000 := by rw [← hy, (pV_yes hp).1]; have := (readM_short t.data.toList).2; omega
          obtain ⟨u2, hu2, eu2⟩ := exists_bytes (Mo.textM y)
          have HT2 : Hid (∀ W, Below w.heap.size w W → _) := Lib.hid fun W hb => modTextX y hy1 hy2 W (hE.below hb)
          rw [eu2] at HT2
          have HI2 : Hid (∀ W, Below w.heap.size w W → _) := Lib.hid fun W hb => modIsX y hy1 hy2 W (hE.below hb)
          rw [h1] at HI2
          exact backPB k n m s f fs t u y.k y.n y.m ⟨y.sub.toArray⟩ u2 y.f (fsOf y.f) w HL HS hl HP HT2 (by rw [Lib.toList_data, Lib.toList_data, hu2, h2]; simp) HI2 HT HQ HI hue
        | false =>
          rw [(Mo.p_no hp).1, (Mo.p_no hp).2] at HP
          exact backNB k n m s f fs t u w HL HS hl HP HT HQ HI hue
end Go.Proofs.YthkkabdhmflhiaaGreatDoor
