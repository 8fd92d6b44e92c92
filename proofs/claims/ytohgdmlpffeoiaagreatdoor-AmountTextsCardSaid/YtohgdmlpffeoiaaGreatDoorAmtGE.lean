/-
  MERGED: AmtBackW, AmtTextsW, AmtUnusedW, AmtLawsP. By an AI agent.
-/
import Derived.Test.YtohgdmlpffeoiaaGreatDoorAmtGC
namespace Go.Proofs.YtohgdmlpffeoiaaGreatDoor
open Go.RowKit
open Wd (Bs)

set_option maxHeartbeats 8000000 in
set_option maxRecDepth 100000 in
theorem backLong (k n c : Int) (f : Fil.Flt) (fs : ByteArray) (w : World)
    (HL : Hid (∀ W, Below w.heap.size w W → Calls Tryz.prog 8 #[] W fun e w' => e = .returned (.bool true) ∧ Below W.heap.size W w')) (hl : (100 : Int) < (fs.size : Int)) :
    Calls Tryz.prog 5 #[.agg (cells3 k n c (cellsF f fs))] w fun e w' => e = .returned (.bool true) ∧ Below w.heap.size w w' := by

  have B0 := Lib.hid (Below.refl w.heap.size w)
  go_enter Tryz.func5, Tryz.ntmps5
  go_upto_region 0 with fail
  refine wp_region_lit ?_
  obtain ⟨w1, hw⟩ : ∃ v, v = w.alloc (.cells (cells3 k n c (cellsF f fs)) 27) := ⟨_, rfl⟩
  obtain ⟨pA, hp⟩ : ∃ v, v = w.heap.size := ⟨_, rfl⟩
  have B1 : Hid (Below w.heap.size w w1) := Lib.hid (by rw [hw]; exact B0.out.alloc B0.out.size _)
  have LEA : Hid (w.heap.size ≤ pA) := Lib.hid (by rw [hp]; exact B0.out.size)
  have KA1 : Hid (Blk w1 pA (cells3 k n c (cellsF f fs)) 27) := Lib.hid (by rw [hw, hp]; exact Blk.new _ _ _)
  with_reducible refine wpList_runWV (some 1) (v := .pointer (some ⟨pA, 0, none⟩)) (w' := w1) ?_ ?_ ?_ ?_
  · rfl
  · rfl
  · rw [hw, hp]; (go_simp; (try rfl))
  simp only [pu, sB, s0, sS]
  clear hw hp
  clear B0
  (with_reducible refine rN (v := .bool false) ?_ ?_ ?_); (· rfl); (· go_simp; (try with_reducible rfl)); simp only [pu, sB, s0, sS]
  go_upto_region 1 with fail
  refine wp_region_lit ?_
  (with_reducible refine rN (v := .pointer (some ⟨pA, 3, none⟩)) ?_ ?_ ?_); (· rfl); (· go_simp; (try rfl)); simp only [pu, sB, s0, sS]
  (with_reducible refine rN (v := .pointer (some ⟨pA, 10, none⟩)) ?_ ?_ ?_); (· rfl); (· go_simp; (try rfl)); simp only [pu, sB, s0, sS]
  with_reducible refine wpList_loadV (.tmp 7) (j := 10) (v := .string fs) ?_ ?_ KA1.out ?_ Tryz.underlying9 ?_ ?_
  · rfl
  · rfl
  · exact (Eq.trans (cells3_at k n c (cellsF f fs) 7) rfl)
  · rfl
  simp only [pu, sB, s0, sS]
  (with_reducible refine rN (v := ?_) ?_ ?_ ?_); rotate_left; (· rfl); (· go_simp; (try with_reducible rfl)); simp only [pu, sB, s0, sS]
  (with_reducible refine rN (v := .bool true) ?_ ?_ ?_); (· rfl); (· go_simp; (try with_reducible rfl)); simp only [pu, sB, s0, sS]
  go_upto_region 2 with fail
  refine wp_region_lit ?_
  go_wp2_with fail
  refine (HL.out _ B1.out).mono ?_
  rintro e w2 ⟨rfl, hb⟩
  have B2 := Lib.hid (B1.out.trans (hb.mono B1.out.size))
  have KA2 := Lib.hid (KA1.out.below hb KA1.out.lt)
  clear hb
  clear B1 KA1
  go_simp
  rename_i hKK
  refine hKK _ _ ?_
  clear hKK
  try simp only [pu, sB, s0, sS]
  (with_reducible refine rN (v := .bool true) ?_ ?_ ?_); (· rfl); (· go_simp; (try with_reducible rfl)); simp only [pu, sB, s0, sS]
  go_wp2_with fail
  go_ret
  exact ⟨rfl, B2.out⟩

set_option maxHeartbeats 8000000 in
set_option maxRecDepth 100000 in
theorem backTrue (k n c : Int) (f : Fil.Flt) (fs : ByteArray) (t : ByteArray) (w : World)
    (HL : Hid (∀ W, Below w.heap.size w W → Calls Tryz.prog 8 #[] W fun e w' => e = .returned (.bool true) ∧ Below W.heap.size W w')) (hl : ¬ (100 : Int) < (fs.size : Int)) (HT : Hid (∀ W, Below w.heap.size w W → Calls Tryz.prog 11 #[.agg (cells3 k n c (cellsF f fs))] W fun e w' => e = .returned (.string t) ∧ Below W.heap.size W w')) (HI : Hid (∀ W, Below w.heap.size w W → Calls Tryz.prog 9 #[.agg (cells3 k n c (cellsF f fs))] W fun e w' => e = .returned (.bool true) ∧ Below W.heap.size W w')) (HP : Hid (∀ W, Below w.heap.size w W → Calls Tryz.prog 13 #[.string t] W fun e w' => e = .returned (.tuple #[.agg (cells3 k n c (cellsF f fs)), .int .i64 0]) ∧ Below W.heap.size W w')) (hne : t.toList.isEmpty = false) (hq : ∀ W : World, (Op.equalIn 10000 27 (.agg (cells3 k n c (cellsF f fs))) (.agg (cells3 k n c (cellsF f fs)))).run Tryz.prog W = .ok true W) :
    Calls Tryz.prog 5 #[.agg (cells3 k n c (cellsF f fs))] w fun e w' => e = .returned (.bool true) ∧ Below w.heap.size w w' := by

  have B0 := Lib.hid (Below.refl w.heap.size w)
  go_enter Tryz.func5, Tryz.ntmps5
  go_upto_region 0 with fail
  refine wp_region_lit ?_
  obtain ⟨w1, hw⟩ : ∃ v, v = w.alloc (.cells (cells3 k n c (cellsF f fs)) 27) := ⟨_, rfl⟩
  obtain ⟨pA, hp⟩ : ∃ v, v = w.heap.size := ⟨_, rfl⟩
  have B1 : Hid (Below w.heap.size w w1) := Lib.hid (by rw [hw]; exact B0.out.alloc B0.out.size _)
  have LEA : Hid (w.heap.size ≤ pA) := Lib.hid (by rw [hp]; exact B0.out.size)
  have KA1 : Hid (Blk w1 pA (cells3 k n c (cellsF f fs)) 27) := Lib.hid (by rw [hw, hp]; exact Blk.new _ _ _)
  with_reducible refine wpList_runWV (some 1) (v := .pointer (some ⟨pA, 0, none⟩)) (w' := w1) ?_ ?_ ?_ ?_
  · rfl
  · rfl
  · rw [hw, hp]; (go_simp; (try rfl))
  simp only [pu, sB, s0, sS]
  clear hw hp
  clear B0
  (with_reducible refine rN (v := .bool false) ?_ ?_ ?_); (· rfl); (· go_simp; (try with_reducible rfl)); simp only [pu, sB, s0, sS]
  go_upto_region 1 with fail
  refine wp_region_lit ?_
  (with_reducible refine rN (v := .pointer (some ⟨pA, 3, none⟩)) ?_ ?_ ?_); (· rfl); (· go_simp; (try rfl)); simp only [pu, sB, s0, sS]
  (with_reducible refine rN (v := .pointer (some ⟨pA, 10, none⟩)) ?_ ?_ ?_); (· rfl); (· go_simp; (try rfl)); simp only [pu, sB, s0, sS]
  with_reducible refine wpList_loadV (.tmp 7) (j := 10) (v := .string fs) ?_ ?_ KA1.out ?_ Tryz.underlying9 ?_ ?_
  · rfl
  · rfl
  · exact (Eq.trans (cells3_at k n c (cellsF f fs) 7) rfl)
  · rfl
  simp only [pu, sB, s0, sS]
  (with_reducible refine rN (v := ?_) ?_ ?_ ?_); rotate_left; (· rfl); (· go_simp; (try with_reducible rfl)); simp only [pu, sB, s0, sS]
  (with_reducible refine rN (v := .bool false) ?_ ?_ ?_); (· rfl); (· go_simp; (try with_reducible rfl)); simp only [pu, sB, s0, sS]
  go_upto_region 3 with fail
  refine wp_region_lit ?_
  with_reducible refine wpList_loadS (.tmp 1) ?_ ?_ KA1.out Tryz.underlying27 ?_ (infoTM19 (cells3_sz (cellsF_size f fs))) ?_
  · rfl
  · rfl
  · rfl
  simp only [pu, sB, s0, sS]
  go_wp2_with fail
  refine (HT.out _ B1.out).mono ?_
  rintro e w2 ⟨rfl, hb⟩
  have B2 := Lib.hid (B1.out.trans (hb.mono B1.out.size))
  have KA2 := Lib.hid (KA1.out.below hb KA1.out.lt)
  clear hb
  clear B1 KA1
  go_simp
  rename_i hKK
  refine hKK _ _ ?_
  clear hKK
  try simp only [pu, sB, s0, sS]
  (with_reducible refine rN (v := ?_) ?_ ?_ ?_); rotate_left; (· rfl); (· go_simp; (try with_reducible rfl)); simp only [pu, sB, s0, sS]
  go_upto_region 4 with fail
  refine wp_region_lit ?_
  (with_reducible refine rN (v := ?_) ?_ ?_ ?_); rotate_left; (· rfl); (· go_simp; (try with_reducible rfl)); simp only [pu, sB, s0, sS]
  (with_reducible refine rN (v := .bool true) ?_ ?_ ?_); (· rfl); (· go_simp; (try with_reducible rfl)); simp only [pu, sB, s0, sS]
  with_reducible refine wpList_loadS (.tmp 1) ?_ ?_ KA2.out Tryz.underlying27 ?_ (infoTM19 (cells3_sz (cellsF_size f fs))) ?_
  · rfl
  · rfl
  · rfl
  simp only [pu, sB, s0, sS]
  go_wp2_with fail
  refine (HI.out _ B2.out).mono ?_
  rintro e w3 ⟨rfl, hb⟩
  have B3 := Lib.hid (B2.out.trans (hb.mono B2.out.size))
  have KA3 := Lib.hid (KA2.out.below hb KA2.out.lt)
  clear hb
  clear B2 KA2
  go_simp
  rename_i hKK
  refine hKK _ _ ?_
  clear hKK
  try simp only [pu, sB, s0, sS]
  (with_reducible refine rN (v := .bool false) ?_ ?_ ?_); (· rfl); (· go_simp; (try with_reducible rfl)); simp only [pu, sB, s0, sS]
  go_upto_region 6 with fail
  refine wp_region_lit ?_
  (with_reducible refine rN (v := ?_) ?_ ?_ ?_); rotate_left; (· rfl); (· go_simp; (try with_reducible rfl)); simp only [pu, sB, s0, sS]
  go_wp2_with fail
  refine (HP.out _ B3.out).mono ?_
  rintro e w4 ⟨rfl, hb⟩
  have B4 := Lib.hid (B3.out.trans (hb.mono B3.out.size))
  have KA4 := Lib.hid (KA3.out.below hb KA3.out.lt)
  clear hb
  clear B3 KA3
  go_simp
  rename_i hKK
  refine hKK _ _ ?_
  clear hKK
  try simp only [pu, sB, s0, sS]
  (with_reducible refine rN (v := ?_) ?_ ?_ ?_); rotate_left; (· rfl); (· go_simp; (try with_reducible rfl)); simp only [pu, sB, s0, sS]
  (with_reducible refine rN (v := .agg (cells3 k n c (cellsF f fs))) ?_ ?_ ?_); (· rfl); (· go_simp; (try with_reducible rfl)); simp only [pu, sB, s0, sS]
  (with_reducible refine rN (v := ?_) ?_ ?_ ?_); rotate_left; (· rfl); (· go_simp; (try with_reducible rfl)); simp only [pu, sB, s0, sS]
  obtain ⟨w5, hw⟩ : ∃ v, v = w4.alloc (.cells (cells3 0 0 0 cellsZ) 27) := ⟨_, rfl⟩
  obtain ⟨pB, hp⟩ : ∃ v, v = w4.heap.size := ⟨_, rfl⟩
  have B5 : Hid (Below w.heap.size w w5) := Lib.hid (by rw [hw]; exact B4.out.alloc B4.out.size _)
  have LEB : Hid (w.heap.size ≤ pB) := Lib.hid (by rw [hp]; exact B4.out.size)
  have KA5 := Lib.hid (show Blk w5 pA (cells3 k n c (cellsF f fs)) 27 by rw [hw]; exact KA4.out.alloc _)
  have NEAB : Hid (pA ≠ pB) := Lib.hid (by rw [hp]; exact Nat.ne_of_lt KA4.out.lt)
  have NEBA : Hid (pB ≠ pA) := Lib.hid (Ne.symm NEAB.out)
  have KB5 : Hid (Blk w5 pB (cells3 0 0 0 cellsZ) 27) := Lib.hid (by rw [hw, hp]; exact Blk.new _ _ _)
  with_reducible refine wpList_runWV (some 4) (v := .pointer (some ⟨pB, 0, none⟩)) (w' := w5) ?_ ?_ ?_ ?_
  · rfl
  · rfl
  · rw [hw, hp]; (go_simp; (try rfl))
  simp only [pu, sB, s0, sS]
  clear hw hp
  clear B4 KA4
  have KB6 := Lib.hid (KB5.out.stored (o := 0) (vs := (cells3 k n c (cellsF f fs)).toList) (laidAt_whole (Eq.trans (cells3_sz (cellsF_size f fs)) (Eq.symm (cells3_sz cellsZ_size)))))
  have KA6 := Lib.hid (KA5.out.wholeElse ((cells3 k n c (cellsF f fs)).toList) (o := 0) NEAB.out)
  have B6 := Lib.hid (below_whole ((cells3 k n c (cellsF f fs)).toList) (o := 0) B5.out LEB.out)
  with_reducible refine wpList_storeM (.tmp 4) (.tmp 22) (o := 0) (vs := (cells3 k n c (cellsF f fs))) ?_ ?_ KB5.out ?_ (infoTM19 (cells3_sz (cellsF_size f fs))) (cells3_one (cellsF_one f fs)) ?_
  · rfl
  · rfl
  · exact (by have h0 : (cells3 0 0 0 cellsZ).size = 19 := (cells3_sz cellsZ_size); have h1 : (cells3 k n c (cellsF f fs)).size = 19 := (cells3_sz (cellsF_size f fs)); omega)
  (try simp only [Act.put])
  generalize World.setCells _ _ _ _ = w6 at KA6 KB6 B6 ⊢
  clear B5 KA5 KB5
  (with_reducible refine rN (v := ?_) ?_ ?_ ?_); rotate_left; (· rfl); (· go_simp; (try with_reducible rfl)); simp only [pu, sB, s0, sS]
  go_upto_region 7 with fail
  refine wp_region_lit ?_
  (with_reducible refine rN (v := ?_) ?_ ?_ ?_); rotate_left; (· rfl); (· go_simp; (try with_reducible rfl)); simp only [pu, sB, s0, sS]
  (with_reducible refine rN (v := .bool false) ?_ ?_ ?_); (· rfl); (· go_simp; (try with_reducible rfl)); simp only [pu, sB, s0, sS]
  go_upto_region 9 with fail
  refine wp_region_lit ?_
  with_reducible refine wpList_loadS (.tmp 1) ?_ ?_ KA6.out Tryz.underlying27 ?_ (infoTM19 (cells3_sz (cellsF_size f fs))) ?_
  · rfl
  · rfl
  · rfl
  simp only [pu, sB, s0, sS]
  with_reducible refine wpList_loadS (.tmp 4) ?_ ?_ KB6.out Tryz.underlying27 ?_ (infoTM19 (cells3_sz (cellsF_size f fs))) ?_
  · rfl
  · rfl
  · rfl
  simp only [pu, sB, s0, sS]
  iterate 2 ((with_reducible refine rN (v := .bool true) ?_ ?_ ?_); (· rfl); (· go_simp; (try with_reducible rfl)); simp only [pu, sB, s0, sS])
  (with_reducible refine rN (v := ?_) ?_ ?_ ?_); rotate_left; (· rfl); (· go_simp; (try with_reducible rfl)); simp only [pu, sB, s0, sS]
  iterate 3 ((with_reducible refine rN (v := .bool true) ?_ ?_ ?_); (· rfl); (· go_simp; (try with_reducible rfl)); simp only [pu, sB, s0, sS])
  go_wp2_with fail
  refine (HL.out _ B6.out).mono ?_
  rintro e w7 ⟨rfl, hb⟩
  have B7 := Lib.hid (B6.out.trans (hb.mono B6.out.size))
  have KA7 := Lib.hid (KA6.out.below hb KA6.out.lt)
  have KB7 := Lib.hid (KB6.out.below hb KB6.out.lt)
  clear hb
  clear B6 KA6 KB6
  go_simp
  rename_i hKK
  refine hKK _ _ ?_
  clear hKK
  try simp only [pu, sB, s0, sS]
  iterate 2 ((with_reducible refine rN (v := .bool true) ?_ ?_ ?_); (· rfl); (· go_simp; (try with_reducible rfl)); simp only [pu, sB, s0, sS])
  go_wp2_with fail
  go_ret
  exact ⟨rfl, B7.out⟩

set_option maxHeartbeats 8000000 in
set_option maxRecDepth 100000 in
theorem backFalse (k n c : Int) (f : Fil.Flt) (fs : ByteArray) (t : ByteArray) (w : World)
    (HL : Hid (∀ W, Below w.heap.size w W → Calls Tryz.prog 8 #[] W fun e w' => e = .returned (.bool true) ∧ Below W.heap.size W w')) (hl : ¬ (100 : Int) < (fs.size : Int)) (HT : Hid (∀ W, Below w.heap.size w W → Calls Tryz.prog 11 #[.agg (cells3 k n c (cellsF f fs))] W fun e w' => e = .returned (.string t) ∧ Below W.heap.size W w')) (HI : Hid (∀ W, Below w.heap.size w W → Calls Tryz.prog 9 #[.agg (cells3 k n c (cellsF f fs))] W fun e w' => e = .returned (.bool false) ∧ Below W.heap.size W w')) (HP : Hid (∀ W, Below w.heap.size w W → Calls Tryz.prog 13 #[.string t] W fun e w' => e = .returned (.tuple #[.agg (cells3 0 0 0 cellsZ), .int .i64 3]) ∧ Below W.heap.size W w')) (hne : t.toList.isEmpty = true) :
    Calls Tryz.prog 5 #[.agg (cells3 k n c (cellsF f fs))] w fun e w' => e = .returned (.bool true) ∧ Below w.heap.size w w' := by

  have B0 := Lib.hid (Below.refl w.heap.size w)
  go_enter Tryz.func5, Tryz.ntmps5
  go_upto_region 0 with fail
  refine wp_region_lit ?_
  obtain ⟨w1, hw⟩ : ∃ v, v = w.alloc (.cells (cells3 k n c (cellsF f fs)) 27) := ⟨_, rfl⟩
  obtain ⟨pA, hp⟩ : ∃ v, v = w.heap.size := ⟨_, rfl⟩
  have B1 : Hid (Below w.heap.size w w1) := Lib.hid (by rw [hw]; exact B0.out.alloc B0.out.size _)
  have LEA : Hid (w.heap.size ≤ pA) := Lib.hid (by rw [hp]; exact B0.out.size)
  have KA1 : Hid (Blk w1 pA (cells3 k n c (cellsF f fs)) 27) := Lib.hid (by rw [hw, hp]; exact Blk.new _ _ _)
  with_reducible refine wpList_runWV (some 1) (v := .pointer (some ⟨pA, 0, none⟩)) (w' := w1) ?_ ?_ ?_ ?_
  · rfl
  · rfl
  · rw [hw, hp]; (go_simp; (try rfl))
  simp only [pu, sB, s0, sS]
  clear hw hp
  clear B0
  (with_reducible refine rN (v := .bool false) ?_ ?_ ?_); (· rfl); (· go_simp; (try with_reducible rfl)); simp only [pu, sB, s0, sS]
  go_upto_region 1 with fail
  refine wp_region_lit ?_
  (with_reducible refine rN (v := .pointer (some ⟨pA, 3, none⟩)) ?_ ?_ ?_); (· rfl); (· go_simp; (try rfl)); simp only [pu, sB, s0, sS]
  (with_reducible refine rN (v := .pointer (some ⟨pA, 10, none⟩)) ?_ ?_ ?_); (· rfl); (· go_simp; (try rfl)); simp only [pu, sB, s0, sS]
  with_reducible refine wpList_loadV (.tmp 7) (j := 10) (v := .string fs) ?_ ?_ KA1.out ?_ Tryz.underlying9 ?_ ?_
  · rfl
  · rfl
  · exact (Eq.trans (cells3_at k n c (cellsF f fs) 7) rfl)
  · rfl
  simp only [pu, sB, s0, sS]
  (with_reducible refine rN (v := ?_) ?_ ?_ ?_); rotate_left; (· rfl); (· go_simp; (try with_reducible rfl)); simp only [pu, sB, s0, sS]
  (with_reducible refine rN (v := .bool false) ?_ ?_ ?_); (· rfl); (· go_simp; (try with_reducible rfl)); simp only [pu, sB, s0, sS]
  go_upto_region 3 with fail
  refine wp_region_lit ?_
  with_reducible refine wpList_loadS (.tmp 1) ?_ ?_ KA1.out Tryz.underlying27 ?_ (infoTM19 (cells3_sz (cellsF_size f fs))) ?_
  · rfl
  · rfl
  · rfl
  simp only [pu, sB, s0, sS]
  go_wp2_with fail
  refine (HT.out _ B1.out).mono ?_
  rintro e w2 ⟨rfl, hb⟩
  have B2 := Lib.hid (B1.out.trans (hb.mono B1.out.size))
  have KA2 := Lib.hid (KA1.out.below hb KA1.out.lt)
  clear hb
  clear B1 KA1
  go_simp
  rename_i hKK
  refine hKK _ _ ?_
  clear hKK
  try simp only [pu, sB, s0, sS]
  (with_reducible refine rN (v := ?_) ?_ ?_ ?_); rotate_left; (· rfl); (· go_simp; (try with_reducible rfl)); simp only [pu, sB, s0, sS]
  go_upto_region 4 with fail
  refine wp_region_lit ?_
  (with_reducible refine rN (v := ?_) ?_ ?_ ?_); rotate_left; (· rfl); (· go_simp; (try with_reducible rfl)); simp only [pu, sB, s0, sS]
  (with_reducible refine rN (v := .bool false) ?_ ?_ ?_); (· rfl); (· go_simp; (try with_reducible rfl)); simp only [pu, sB, s0, sS]
  with_reducible refine wpList_loadS (.tmp 1) ?_ ?_ KA2.out Tryz.underlying27 ?_ (infoTM19 (cells3_sz (cellsF_size f fs))) ?_
  · rfl
  · rfl
  · rfl
  simp only [pu, sB, s0, sS]
  go_wp2_with fail
  refine (HI.out _ B2.out).mono ?_
  rintro e w3 ⟨rfl, hb⟩
  have B3 := Lib.hid (B2.out.trans (hb.mono B2.out.size))
  have KA3 := Lib.hid (KA2.out.below hb KA2.out.lt)
  clear hb
  clear B2 KA2
  go_simp
  rename_i hKK
  refine hKK _ _ ?_
  clear hKK
  try simp only [pu, sB, s0, sS]
  (with_reducible refine rN (v := .bool false) ?_ ?_ ?_); (· rfl); (· go_simp; (try with_reducible rfl)); simp only [pu, sB, s0, sS]
  go_upto_region 6 with fail
  refine wp_region_lit ?_
  (with_reducible refine rN (v := ?_) ?_ ?_ ?_); rotate_left; (· rfl); (· go_simp; (try with_reducible rfl)); simp only [pu, sB, s0, sS]
  go_wp2_with fail
  refine (HP.out _ B3.out).mono ?_
  rintro e w4 ⟨rfl, hb⟩
  have B4 := Lib.hid (B3.out.trans (hb.mono B3.out.size))
  have KA4 := Lib.hid (KA3.out.below hb KA3.out.lt)
  clear hb
  clear B3 KA3
  go_simp
  rename_i hKK
  refine hKK _ _ ?_
  clear hKK
  try simp only [pu, sB, s0, sS]
  (with_reducible refine rN (v := ?_) ?_ ?_ ?_); rotate_left; (· rfl); (· go_simp; (try with_reducible rfl)); simp only [pu, sB, s0, sS]
  (with_reducible refine rN (v := .agg (cells3 0 0 0 cellsZ)) ?_ ?_ ?_); (· rfl); (· go_simp; (try with_reducible rfl)); simp only [pu, sB, s0, sS]
  (with_reducible refine rN (v := ?_) ?_ ?_ ?_); rotate_left; (· rfl); (· go_simp; (try with_reducible rfl)); simp only [pu, sB, s0, sS]
  obtain ⟨w5, hw⟩ : ∃ v, v = w4.alloc (.cells (cells3 0 0 0 cellsZ) 27) := ⟨_, rfl⟩
  obtain ⟨pB, hp⟩ : ∃ v, v = w4.heap.size := ⟨_, rfl⟩
  have B5 : Hid (Below w.heap.size w w5) := Lib.hid (by rw [hw]; exact B4.out.alloc B4.out.size _)
  have LEB : Hid (w.heap.size ≤ pB) := Lib.hid (by rw [hp]; exact B4.out.size)
  have KA5 := Lib.hid (show Blk w5 pA (cells3 k n c (cellsF f fs)) 27 by rw [hw]; exact KA4.out.alloc _)
  have NEAB : Hid (pA ≠ pB) := Lib.hid (by rw [hp]; exact Nat.ne_of_lt KA4.out.lt)
  have NEBA : Hid (pB ≠ pA) := Lib.hid (Ne.symm NEAB.out)
  have KB5 : Hid (Blk w5 pB (cells3 0 0 0 cellsZ) 27) := Lib.hid (by rw [hw, hp]; exact Blk.new _ _ _)
  with_reducible refine wpList_runWV (some 4) (v := .pointer (some ⟨pB, 0, none⟩)) (w' := w5) ?_ ?_ ?_ ?_
  · rfl
  · rfl
  · rw [hw, hp]; (go_simp; (try rfl))
  simp only [pu, sB, s0, sS]
  clear hw hp
  clear B4 KA4
  have KB6 := Lib.hid (KB5.out.stored (o := 0) (vs := (cells3 0 0 0 cellsZ).toList) (laidAt_whole (Eq.trans (cells3_sz cellsZ_size) (Eq.symm (cells3_sz cellsZ_size)))))
  have KA6 := Lib.hid (KA5.out.wholeElse ((cells3 0 0 0 cellsZ).toList) (o := 0) NEAB.out)
  have B6 := Lib.hid (below_whole ((cells3 0 0 0 cellsZ).toList) (o := 0) B5.out LEB.out)
  with_reducible refine wpList_storeM (.tmp 4) (.tmp 22) (o := 0) (vs := (cells3 0 0 0 cellsZ)) ?_ ?_ KB5.out ?_ (infoTM19 (cells3_sz cellsZ_size)) (cells3_one cellsZ_one) ?_
  · rfl
  · rfl
  · exact (by have h0 : (cells3 0 0 0 cellsZ).size = 19 := (cells3_sz cellsZ_size); have h1 : (cells3 0 0 0 cellsZ).size = 19 := (cells3_sz cellsZ_size); omega)
  (try simp only [Act.put])
  generalize World.setCells _ _ _ _ = w6 at KA6 KB6 B6 ⊢
  clear B5 KA5 KB5
  (with_reducible refine rN (v := ?_) ?_ ?_ ?_); rotate_left; (· rfl); (· go_simp; (try with_reducible rfl)); simp only [pu, sB, s0, sS]
  go_upto_region 7 with fail
  refine wp_region_lit ?_
  (with_reducible refine rN (v := ?_) ?_ ?_ ?_); rotate_left; (· rfl); (· go_simp; (try with_reducible rfl)); simp only [pu, sB, s0, sS]
  (with_reducible refine rN (v := .bool true) ?_ ?_ ?_); (· rfl); (· go_simp; (try with_reducible rfl)); simp only [pu, sB, s0, sS]
  go_upto_region 8 with fail
  refine wp_region_lit ?_
  (with_reducible refine rN (v := ?_) ?_ ?_ ?_); rotate_left; (· rfl); (· go_simp; (try with_reducible rfl)); simp only [pu, sB, s0, sS]
  iterate 2 ((with_reducible refine rN (v := .bool true) ?_ ?_ ?_); (· rfl); (· go_simp; (try with_reducible rfl)); simp only [pu, sB, s0, sS])
  go_wp2_with fail
  refine (HL.out _ B6.out).mono ?_
  rintro e w7 ⟨rfl, hb⟩
  have B7 := Lib.hid (B6.out.trans (hb.mono B6.out.size))
  have KA7 := Lib.hid (KA6.out.below hb KA6.out.lt)
  have KB7 := Lib.hid (KB6.out.below hb KB6.out.lt)
  clear hb
  clear B6 KA6 KB6
  go_simp
  rename_i hKK
  refine hKK _ _ ?_
  clear hKK
  try simp only [pu, sB, s0, sS]
  iterate 2 ((with_reducible refine rN (v := .bool true) ?_ ?_ ?_); (· rfl); (· go_simp; (try with_reducible rfl)); simp only [pu, sB, s0, sS])
  go_wp2_with fail
  go_ret
  exact ⟨rfl, B7.out⟩
end Go.Proofs.YtohgdmlpffeoiaaGreatDoor
namespace Go.Proofs.YtohgdmlpffeoiaaGreatDoor
open Go.RowKit
open Wd (Bs)

set_option maxHeartbeats 8000000 in
set_option maxRecDepth 100000 in
theorem textsLong (s : ByteArray) (w : World)
    (HL : Hid (∀ W, Below w.heap.size w W → Calls Tryz.prog 8 #[] W fun e w' => e = .returned (.bool true) ∧ Below W.heap.size W w')) (hl : (1000 : Int) < (s.size : Int)) :
    Calls Tryz.prog 6 #[.string s] w fun e w' => e = .returned (.bool true) ∧ Below w.heap.size w w' := by

  have B0 := Lib.hid (Below.refl w.heap.size w)
  go_enter Tryz.func6, Tryz.ntmps6
  go_upto_region 0 with fail
  refine wp_region_lit ?_
  (with_reducible refine rN (v := .bool false) ?_ ?_ ?_); (· rfl); (· go_simp; (try with_reducible rfl)); simp only [pu, sB, s0, sS]
  go_upto_region 1 with fail
  refine wp_region_lit ?_
  iterate 2 ((with_reducible refine rN (v := ?_) ?_ ?_ ?_); rotate_left; (· rfl); (· go_simp; (try with_reducible rfl)); simp only [pu, sB, s0, sS])
  (with_reducible refine rN (v := .bool true) ?_ ?_ ?_); (· rfl); (· go_simp; (try with_reducible rfl)); simp only [pu, sB, s0, sS]
  go_upto_region 2 with fail
  refine wp_region_lit ?_
  go_wp2_with fail
  refine (HL.out _ B0.out).mono ?_
  rintro e w1 ⟨rfl, hb⟩
  have B1 := Lib.hid (B0.out.trans (hb.mono B0.out.size))
  clear hb
  clear B0
  go_simp
  rename_i hKK
  refine hKK _ _ ?_
  clear hKK
  try simp only [pu, sB, s0, sS]
  (with_reducible refine rN (v := .bool true) ?_ ?_ ?_); (· rfl); (· go_simp; (try with_reducible rfl)); simp only [pu, sB, s0, sS]
  go_wp2_with fail
  go_ret
  exact ⟨rfl, B1.out⟩

set_option maxHeartbeats 8000000 in
set_option maxRecDepth 100000 in
theorem textsGood (k n c : Int) (f : Fil.Flt) (fs : ByteArray) (s t : ByteArray) (w : World)
    (HL : Hid (∀ W, Below w.heap.size w W → Calls Tryz.prog 8 #[] W fun e w' => e = .returned (.bool true) ∧ Below W.heap.size W w')) (hl : ¬ (1000 : Int) < (s.size : Int)) (HP : Hid (∀ W, Below w.heap.size w W → Calls Tryz.prog 13 #[.string s] W fun e w' => e = .returned (.tuple #[.agg (cells3 k n c (cellsF f fs)), .int .i64 0]) ∧ Below W.heap.size W w')) (HI : Hid (∀ W, Below w.heap.size w W → Calls Tryz.prog 9 #[.agg (cells3 k n c (cellsF f fs))] W fun e w' => e = .returned (.bool true) ∧ Below W.heap.size W w')) (HT : Hid (∀ W, Below w.heap.size w W → Calls Tryz.prog 11 #[.agg (cells3 k n c (cellsF f fs))] W fun e w' => e = .returned (.string t) ∧ Below W.heap.size W w')) (ht : (t.toList == s.toList) = true) :
    Calls Tryz.prog 6 #[.string s] w fun e w' => e = .returned (.bool true) ∧ Below w.heap.size w w' := by

  have B0 := Lib.hid (Below.refl w.heap.size w)
  go_enter Tryz.func6, Tryz.ntmps6
  go_upto_region 0 with fail
  refine wp_region_lit ?_
  (with_reducible refine rN (v := .bool false) ?_ ?_ ?_); (· rfl); (· go_simp; (try with_reducible rfl)); simp only [pu, sB, s0, sS]
  go_upto_region 1 with fail
  refine wp_region_lit ?_
  iterate 2 ((with_reducible refine rN (v := ?_) ?_ ?_ ?_); rotate_left; (· rfl); (· go_simp; (try with_reducible rfl)); simp only [pu, sB, s0, sS])
  (with_reducible refine rN (v := .bool false) ?_ ?_ ?_); (· rfl); (· go_simp; (try with_reducible rfl)); simp only [pu, sB, s0, sS]
  go_upto_region 3 with fail
  refine wp_region_lit ?_
  (with_reducible refine rN (v := ?_) ?_ ?_ ?_); rotate_left; (· rfl); (· go_simp; (try with_reducible rfl)); simp only [pu, sB, s0, sS]
  go_wp2_with fail
  refine (HP.out _ B0.out).mono ?_
  rintro e w1 ⟨rfl, hb⟩
  have B1 := Lib.hid (B0.out.trans (hb.mono B0.out.size))
  clear hb
  clear B0
  go_simp
  rename_i hKK
  refine hKK _ _ ?_
  clear hKK
  try simp only [pu, sB, s0, sS]
  (with_reducible refine rN (v := ?_) ?_ ?_ ?_); rotate_left; (· rfl); (· go_simp; (try with_reducible rfl)); simp only [pu, sB, s0, sS]
  (with_reducible refine rN (v := .agg (cells3 k n c (cellsF f fs))) ?_ ?_ ?_); (· rfl); (· go_simp; (try with_reducible rfl)); simp only [pu, sB, s0, sS]
  (with_reducible refine rN (v := ?_) ?_ ?_ ?_); rotate_left; (· rfl); (· go_simp; (try with_reducible rfl)); simp only [pu, sB, s0, sS]
  obtain ⟨w2, hw⟩ : ∃ v, v = w1.alloc (.cells (cells3 0 0 0 cellsZ) 27) := ⟨_, rfl⟩
  obtain ⟨pB, hp⟩ : ∃ v, v = w1.heap.size := ⟨_, rfl⟩
  have B2 : Hid (Below w.heap.size w w2) := Lib.hid (by rw [hw]; exact B1.out.alloc B1.out.size _)
  have LEB : Hid (w.heap.size ≤ pB) := Lib.hid (by rw [hp]; exact B1.out.size)
  have KB2 : Hid (Blk w2 pB (cells3 0 0 0 cellsZ) 27) := Lib.hid (by rw [hw, hp]; exact Blk.new _ _ _)
  with_reducible refine wpList_runWV (some 3) (v := .pointer (some ⟨pB, 0, none⟩)) (w' := w2) ?_ ?_ ?_ ?_
  · rfl
  · rfl
  · rw [hw, hp]; (go_simp; (try rfl))
  simp only [pu, sB, s0, sS]
  clear hw hp
  clear B1
  have KB3 := Lib.hid (KB2.out.stored (o := 0) (vs := (cells3 k n c (cellsF f fs)).toList) (laidAt_whole (Eq.trans (cells3_sz (cellsF_size f fs)) (Eq.symm (cells3_sz cellsZ_size)))))
  have B3 := Lib.hid (below_whole ((cells3 k n c (cellsF f fs)).toList) (o := 0) B2.out LEB.out)
  with_reducible refine wpList_storeM (.tmp 3) (.tmp 12) (o := 0) (vs := (cells3 k n c (cellsF f fs))) ?_ ?_ KB2.out ?_ (infoTM19 (cells3_sz (cellsF_size f fs))) (cells3_one (cellsF_one f fs)) ?_
  · rfl
  · rfl
  · exact (by have h0 : (cells3 0 0 0 cellsZ).size = 19 := (cells3_sz cellsZ_size); have h1 : (cells3 k n c (cellsF f fs)).size = 19 := (cells3_sz (cellsF_size f fs)); omega)
  (try simp only [Act.put])
  generalize World.setCells _ _ _ _ = w3 at KB3 B3 ⊢
  clear B2 KB2
  (with_reducible refine rN (v := ?_) ?_ ?_ ?_); rotate_left; (· rfl); (· go_simp; (try with_reducible rfl)); simp only [pu, sB, s0, sS]
  go_upto_region 4 with fail
  refine wp_region_lit ?_
  (with_reducible refine rN (v := ?_) ?_ ?_ ?_); rotate_left; (· rfl); (· go_simp; (try with_reducible rfl)); simp only [pu, sB, s0, sS]
  (with_reducible refine rN (v := .bool false) ?_ ?_ ?_); (· rfl); (· go_simp; (try with_reducible rfl)); simp only [pu, sB, s0, sS]
  go_upto_region 6 with fail
  refine wp_region_lit ?_
  with_reducible refine wpList_loadS (.tmp 3) ?_ ?_ KB3.out Tryz.underlying27 ?_ (infoTM19 (cells3_sz (cellsF_size f fs))) ?_
  · rfl
  · rfl
  · rfl
  simp only [pu, sB, s0, sS]
  go_wp2_with fail
  refine (HI.out _ B3.out).mono ?_
  rintro e w4 ⟨rfl, hb⟩
  have B4 := Lib.hid (B3.out.trans (hb.mono B3.out.size))
  have KB4 := Lib.hid (KB3.out.below hb KB3.out.lt)
  clear hb
  clear B3 KB3
  go_simp
  rename_i hKK
  refine hKK _ _ ?_
  clear hKK
  try simp only [pu, sB, s0, sS]
  (with_reducible refine rN (v := .bool true) ?_ ?_ ?_); (· rfl); (· go_simp; (try with_reducible rfl)); simp only [pu, sB, s0, sS]
  with_reducible refine wpList_loadS (.tmp 3) ?_ ?_ KB4.out Tryz.underlying27 ?_ (infoTM19 (cells3_sz (cellsF_size f fs))) ?_
  · rfl
  · rfl
  · rfl
  simp only [pu, sB, s0, sS]
  go_wp2_with fail
  refine (HT.out _ B4.out).mono ?_
  rintro e w5 ⟨rfl, hb⟩
  have B5 := Lib.hid (B4.out.trans (hb.mono B4.out.size))
  have KB5 := Lib.hid (KB4.out.below hb KB4.out.lt)
  clear hb
  clear B4 KB4
  go_simp
  rename_i hKK
  refine hKK _ _ ?_
  clear hKK
  try simp only [pu, sB, s0, sS]
  (with_reducible refine rN (v := ?_) ?_ ?_ ?_); rotate_left; (· rfl); (· go_simp; (try with_reducible rfl)); simp only [pu, sB, s0, sS]
  iterate 3 ((with_reducible refine rN (v := .bool true) ?_ ?_ ?_); (· rfl); (· go_simp; (try with_reducible rfl)); simp only [pu, sB, s0, sS])
  go_wp2_with fail
  refine (HL.out _ B5.out).mono ?_
  rintro e w6 ⟨rfl, hb⟩
  have B6 := Lib.hid (B5.out.trans (hb.mono B5.out.size))
  have KB6 := Lib.hid (KB5.out.below hb KB5.out.lt)
  clear hb
  clear B5 KB5
  go_simp
  rename_i hKK
  refine hKK _ _ ?_
  clear hKK
  try simp only [pu, sB, s0, sS]
  iterate 2 ((with_reducible refine rN (v := .bool true) ?_ ?_ ?_); (· rfl); (· go_simp; (try with_reducible rfl)); simp only [pu, sB, s0, sS])
  go_wp2_with fail
  go_ret
  exact ⟨rfl, B6.out⟩

set_option maxHeartbeats 8000000 in
set_option maxRecDepth 100000 in
theorem textsBad (s : ByteArray) (w : World)
    (HL : Hid (∀ W, Below w.heap.size w W → Calls Tryz.prog 8 #[] W fun e w' => e = .returned (.bool true) ∧ Below W.heap.size W w')) (hl : ¬ (1000 : Int) < (s.size : Int)) (HP : Hid (∀ W, Below w.heap.size w W → Calls Tryz.prog 13 #[.string s] W fun e w' => e = .returned (.tuple #[.agg (cells3 0 0 0 cellsZ), .int .i64 3]) ∧ Below W.heap.size W w')) (hq : ∀ W : World, (Op.equalIn 10000 27 (.agg (cells3 0 0 0 cellsZ)) (.agg (cells3 0 0 0 cellsZ))).run Tryz.prog W = .ok true W) :
    Calls Tryz.prog 6 #[.string s] w fun e w' => e = .returned (.bool true) ∧ Below w.heap.size w w' := by

  have B0 := Lib.hid (Below.refl w.heap.size w)
  go_enter Tryz.func6, Tryz.ntmps6
  go_upto_region 0 with fail
  refine wp_region_lit ?_
  (with_reducible refine rN (v := .bool false) ?_ ?_ ?_); (· rfl); (· go_simp; (try with_reducible rfl)); simp only [pu, sB, s0, sS]
  go_upto_region 1 with fail
  refine wp_region_lit ?_
  iterate 2 ((with_reducible refine rN (v := ?_) ?_ ?_ ?_); rotate_left; (· rfl); (· go_simp; (try with_reducible rfl)); simp only [pu, sB, s0, sS])
  (with_reducible refine rN (v := .bool false) ?_ ?_ ?_); (· rfl); (· go_simp; (try with_reducible rfl)); simp only [pu, sB, s0, sS]
  go_upto_region 3 with fail
  refine wp_region_lit ?_
  (with_reducible refine rN (v := ?_) ?_ ?_ ?_); rotate_left; (· rfl); (· go_simp; (try with_reducible rfl)); simp only [pu, sB, s0, sS]
  go_wp2_with fail
  refine (HP.out _ B0.out).mono ?_
  rintro e w1 ⟨rfl, hb⟩
  have B1 := Lib.hid (B0.out.trans (hb.mono B0.out.size))
  clear hb
  clear B0
  go_simp
  rename_i hKK
  refine hKK _ _ ?_
  clear hKK
  try simp only [pu, sB, s0, sS]
  (with_reducible refine rN (v := ?_) ?_ ?_ ?_); rotate_left; (· rfl); (· go_simp; (try with_reducible rfl)); simp only [pu, sB, s0, sS]
  (with_reducible refine rN (v := .agg (cells3 0 0 0 cellsZ)) ?_ ?_ ?_); (· rfl); (· go_simp; (try with_reducible rfl)); simp only [pu, sB, s0, sS]
  (with_reducible refine rN (v := ?_) ?_ ?_ ?_); rotate_left; (· rfl); (· go_simp; (try with_reducible rfl)); simp only [pu, sB, s0, sS]
  obtain ⟨w2, hw⟩ : ∃ v, v = w1.alloc (.cells (cells3 0 0 0 cellsZ) 27) := ⟨_, rfl⟩
  obtain ⟨pB, hp⟩ : ∃ v, v = w1.heap.size := ⟨_, rfl⟩
  have B2 : Hid (Below w.heap.size w w2) := Lib.hid (by rw [hw]; exact B1.out.alloc B1.out.size _)
  have LEB : Hid (w.heap.size ≤ pB) := Lib.hid (by rw [hp]; exact B1.out.size)
  have KB2 : Hid (Blk w2 pB (cells3 0 0 0 cellsZ) 27) := Lib.hid (by rw [hw, hp]; exact Blk.new _ _ _)
  with_reducible refine wpList_runWV (some 3) (v := .pointer (some ⟨pB, 0, none⟩)) (w' := w2) ?_ ?_ ?_ ?_
  · rfl
  · rfl
  · rw [hw, hp]; (go_simp; (try rfl))
  simp only [pu, sB, s0, sS]
  clear hw hp
  clear B1
  have KB3 := Lib.hid (KB2.out.stored (o := 0) (vs := (cells3 0 0 0 cellsZ).toList) (laidAt_whole (Eq.trans (cells3_sz cellsZ_size) (Eq.symm (cells3_sz cellsZ_size)))))
  have B3 := Lib.hid (below_whole ((cells3 0 0 0 cellsZ).toList) (o := 0) B2.out LEB.out)
  with_reducible refine wpList_storeM (.tmp 3) (.tmp 12) (o := 0) (vs := (cells3 0 0 0 cellsZ)) ?_ ?_ KB2.out ?_ (infoTM19 (cells3_sz cellsZ_size)) (cells3_one cellsZ_one) ?_
  · rfl
  · rfl
  · exact (by have h0 : (cells3 0 0 0 cellsZ).size = 19 := (cells3_sz cellsZ_size); have h1 : (cells3 0 0 0 cellsZ).size = 19 := (cells3_sz cellsZ_size); omega)
  (try simp only [Act.put])
  generalize World.setCells _ _ _ _ = w3 at KB3 B3 ⊢
  clear B2 KB2
  (with_reducible refine rN (v := ?_) ?_ ?_ ?_); rotate_left; (· rfl); (· go_simp; (try with_reducible rfl)); simp only [pu, sB, s0, sS]
  go_upto_region 4 with fail
  refine wp_region_lit ?_
  (with_reducible refine rN (v := ?_) ?_ ?_ ?_); rotate_left; (· rfl); (· go_simp; (try with_reducible rfl)); simp only [pu, sB, s0, sS]
  (with_reducible refine rN (v := .bool true) ?_ ?_ ?_); (· rfl); (· go_simp; (try with_reducible rfl)); simp only [pu, sB, s0, sS]
  go_upto_region 5 with fail
  refine wp_region_lit ?_
  (with_reducible refine rN (v := ?_) ?_ ?_ ?_); rotate_left; (· rfl); (· go_simp; (try with_reducible rfl)); simp only [pu, sB, s0, sS]
  iterate 2 ((with_reducible refine rN (v := .bool true) ?_ ?_ ?_); (· rfl); (· go_simp; (try with_reducible rfl)); simp only [pu, sB, s0, sS])
  with_reducible refine wpList_loadS (.tmp 3) ?_ ?_ KB3.out Tryz.underlying27 ?_ (infoTM19 (cells3_sz cellsZ_size)) ?_
  · rfl
  · rfl
  · rfl
  simp only [pu, sB, s0, sS]
  (with_reducible refine rN (v := .agg (cells3 0 0 0 cellsZ)) ?_ ?_ ?_); (· rfl); (· go_simp; rfl); simp only [pu, sB, s0, sS]
  iterate 3 ((with_reducible refine rN (v := .bool true) ?_ ?_ ?_); (· rfl); (· go_simp; (try with_reducible rfl)); simp only [pu, sB, s0, sS])
  go_wp2_with fail
  refine (HL.out _ B3.out).mono ?_
  rintro e w4 ⟨rfl, hb⟩
  have B4 := Lib.hid (B3.out.trans (hb.mono B3.out.size))
  have KB4 := Lib.hid (KB3.out.below hb KB3.out.lt)
  clear hb
  clear B3 KB3
  go_simp
  rename_i hKK
  refine hKK _ _ ?_
  clear hKK
  try simp only [pu, sB, s0, sS]
  iterate 2 ((with_reducible refine rN (v := .bool true) ?_ ?_ ?_); (· rfl); (· go_simp; (try with_reducible rfl)); simp only [pu, sB, s0, sS])
  go_wp2_with fail
  go_ret
  exact ⟨rfl, B4.out⟩
end Go.Proofs.YtohgdmlpffeoiaaGreatDoor
namespace Go.Proofs.YtohgdmlpffeoiaaGreatDoor
open Go.RowKit
open Wd (Bs)

set_option maxHeartbeats 8000000 in
set_option maxRecDepth 100000 in
theorem unusedLong (k n c : Int) (f : Fil.Flt) (fs : ByteArray) (m : Int) (w : World)
    (HL : Hid (∀ W, Below w.heap.size w W → Calls Tryz.prog 8 #[] W fun e w' => e = .returned (.bool true) ∧ Below W.heap.size W w')) (hl : (100 : Int) < (fs.size : Int)) :
    Calls Tryz.prog 7 #[.agg (cells3 k n c (cellsF f fs)), .int .u8 m] w fun e w' => e = .returned (.bool true) ∧ Below w.heap.size w w' := by

  have B0 := Lib.hid (Below.refl w.heap.size w)
  go_enter Tryz.func7, Tryz.ntmps7
  go_upto_region 0 with fail
  refine wp_region_lit ?_
  obtain ⟨w1, hw⟩ : ∃ v, v = w.alloc (.cells (cells3 k n c (cellsF f fs)) 27) := ⟨_, rfl⟩
  obtain ⟨pA, hp⟩ : ∃ v, v = w.heap.size := ⟨_, rfl⟩
  have B1 : Hid (Below w.heap.size w w1) := Lib.hid (by rw [hw]; exact B0.out.alloc B0.out.size _)
  have LEA : Hid (w.heap.size ≤ pA) := Lib.hid (by rw [hp]; exact B0.out.size)
  have KA1 : Hid (Blk w1 pA (cells3 k n c (cellsF f fs)) 27) := Lib.hid (by rw [hw, hp]; exact Blk.new _ _ _)
  with_reducible refine wpList_runWV (some 2) (v := .pointer (some ⟨pA, 0, none⟩)) (w' := w1) ?_ ?_ ?_ ?_
  · rfl
  · rfl
  · rw [hw, hp]; (go_simp; (try rfl))
  simp only [pu, sB, s0, sS]
  clear hw hp
  clear B0
  (with_reducible refine rN (v := .bool false) ?_ ?_ ?_); (· rfl); (· go_simp; (try with_reducible rfl)); simp only [pu, sB, s0, sS]
  go_upto_region 1 with fail
  refine wp_region_lit ?_
  (with_reducible refine rN (v := .pointer (some ⟨pA, 3, none⟩)) ?_ ?_ ?_); (· rfl); (· go_simp; (try rfl)); simp only [pu, sB, s0, sS]
  (with_reducible refine rN (v := .pointer (some ⟨pA, 10, none⟩)) ?_ ?_ ?_); (· rfl); (· go_simp; (try rfl)); simp only [pu, sB, s0, sS]
  with_reducible refine wpList_loadV (.tmp 7) (j := 10) (v := .string fs) ?_ ?_ KA1.out ?_ Tryz.underlying9 ?_ ?_
  · rfl
  · rfl
  · exact (Eq.trans (cells3_at k n c (cellsF f fs) 7) rfl)
  · rfl
  simp only [pu, sB, s0, sS]
  (with_reducible refine rN (v := ?_) ?_ ?_ ?_); rotate_left; (· rfl); (· go_simp; (try with_reducible rfl)); simp only [pu, sB, s0, sS]
  iterate 2 ((with_reducible refine rN (v := .bool true) ?_ ?_ ?_); (· rfl); (· go_simp; (try with_reducible rfl)); simp only [pu, sB, s0, sS])
  iterate 3 ((with_reducible refine kN ?_ ?_); (· rfl); simp only [pu, sB, s0, sS])
  (with_reducible refine rN (v := .bool true) ?_ ?_ ?_); (· rfl); (· go_simp; (try with_reducible rfl)); simp only [pu, sB, s0, sS]
  go_upto_region 2 with fail
  refine wp_region_lit ?_
  go_wp2_with fail
  refine (HL.out _ B1.out).mono ?_
  rintro e w2 ⟨rfl, hb⟩
  have B2 := Lib.hid (B1.out.trans (hb.mono B1.out.size))
  have KA2 := Lib.hid (KA1.out.below hb KA1.out.lt)
  clear hb
  clear B1 KA1
  go_simp
  rename_i hKK
  refine hKK _ _ ?_
  clear hKK
  try simp only [pu, sB, s0, sS]
  (with_reducible refine rN (v := .bool true) ?_ ?_ ?_); (· rfl); (· go_simp; (try with_reducible rfl)); simp only [pu, sB, s0, sS]
  go_wp2_with fail
  go_ret
  exact ⟨rfl, B2.out⟩

set_option maxHeartbeats 8000000 in
set_option maxRecDepth 100000 in
theorem unusedBad (k n c : Int) (f : Fil.Flt) (fs : ByteArray) (m : Int) (w : World)
    (HL : Hid (∀ W, Below w.heap.size w W → Calls Tryz.prog 8 #[] W fun e w' => e = .returned (.bool true) ∧ Below W.heap.size W w')) (hl : ¬ (100 : Int) < (fs.size : Int)) (HI : Hid (∀ W, Below w.heap.size w W → Calls Tryz.prog 9 #[.agg (cells3 k n c (cellsF f fs))] W fun e w' => e = .returned (.bool false) ∧ Below W.heap.size W w')) :
    Calls Tryz.prog 7 #[.agg (cells3 k n c (cellsF f fs)), .int .u8 m] w fun e w' => e = .returned (.bool true) ∧ Below w.heap.size w w' := by

  have B0 := Lib.hid (Below.refl w.heap.size w)
  go_enter Tryz.func7, Tryz.ntmps7
  go_upto_region 0 with fail
  refine wp_region_lit ?_
  obtain ⟨w1, hw⟩ : ∃ v, v = w.alloc (.cells (cells3 k n c (cellsF f fs)) 27) := ⟨_, rfl⟩
  obtain ⟨pA, hp⟩ : ∃ v, v = w.heap.size := ⟨_, rfl⟩
  have B1 : Hid (Below w.heap.size w w1) := Lib.hid (by rw [hw]; exact B0.out.alloc B0.out.size _)
  have LEA : Hid (w.heap.size ≤ pA) := Lib.hid (by rw [hp]; exact B0.out.size)
  have KA1 : Hid (Blk w1 pA (cells3 k n c (cellsF f fs)) 27) := Lib.hid (by rw [hw, hp]; exact Blk.new _ _ _)
  with_reducible refine wpList_runWV (some 2) (v := .pointer (some ⟨pA, 0, none⟩)) (w' := w1) ?_ ?_ ?_ ?_
  · rfl
  · rfl
  · rw [hw, hp]; (go_simp; (try rfl))
  simp only [pu, sB, s0, sS]
  clear hw hp
  clear B0
  (with_reducible refine rN (v := .bool false) ?_ ?_ ?_); (· rfl); (· go_simp; (try with_reducible rfl)); simp only [pu, sB, s0, sS]
  go_upto_region 1 with fail
  refine wp_region_lit ?_
  (with_reducible refine rN (v := .pointer (some ⟨pA, 3, none⟩)) ?_ ?_ ?_); (· rfl); (· go_simp; (try rfl)); simp only [pu, sB, s0, sS]
  (with_reducible refine rN (v := .pointer (some ⟨pA, 10, none⟩)) ?_ ?_ ?_); (· rfl); (· go_simp; (try rfl)); simp only [pu, sB, s0, sS]
  with_reducible refine wpList_loadV (.tmp 7) (j := 10) (v := .string fs) ?_ ?_ KA1.out ?_ Tryz.underlying9 ?_ ?_
  · rfl
  · rfl
  · exact (Eq.trans (cells3_at k n c (cellsF f fs) 7) rfl)
  · rfl
  simp only [pu, sB, s0, sS]
  (with_reducible refine rN (v := ?_) ?_ ?_ ?_); rotate_left; (· rfl); (· go_simp; (try with_reducible rfl)); simp only [pu, sB, s0, sS]
  iterate 2 ((with_reducible refine rN (v := .bool false) ?_ ?_ ?_); (· rfl); (· go_simp; (try with_reducible rfl)); simp only [pu, sB, s0, sS])
  with_reducible refine wpList_loadS (.tmp 2) ?_ ?_ KA1.out Tryz.underlying27 ?_ (infoTM19 (cells3_sz (cellsF_size f fs))) ?_
  · rfl
  · rfl
  · rfl
  simp only [pu, sB, s0, sS]
  go_wp2_with fail
  refine (HI.out _ B1.out).mono ?_
  rintro e w2 ⟨rfl, hb⟩
  have B2 := Lib.hid (B1.out.trans (hb.mono B1.out.size))
  have KA2 := Lib.hid (KA1.out.below hb KA1.out.lt)
  clear hb
  clear B1 KA1
  go_simp
  rename_i hKK
  refine hKK _ _ ?_
  clear hKK
  try simp only [pu, sB, s0, sS]
  iterate 2 ((with_reducible refine rN (v := .bool true) ?_ ?_ ?_); (· rfl); (· go_simp; (try with_reducible rfl)); simp only [pu, sB, s0, sS])
  go_upto_region 2 with fail
  refine wp_region_lit ?_
  go_wp2_with fail
  refine (HL.out _ B2.out).mono ?_
  rintro e w3 ⟨rfl, hb⟩
  have B3 := Lib.hid (B2.out.trans (hb.mono B2.out.size))
  have KA3 := Lib.hid (KA2.out.below hb KA2.out.lt)
  clear hb
  clear B2 KA2
  go_simp
  rename_i hKK
  refine hKK _ _ ?_
  clear hKK
  try simp only [pu, sB, s0, sS]
  (with_reducible refine rN (v := .bool true) ?_ ?_ ?_); (· rfl); (· go_simp; (try with_reducible rfl)); simp only [pu, sB, s0, sS]
  go_wp2_with fail
  go_ret
  exact ⟨rfl, B3.out⟩

set_option maxHeartbeats 8000000 in
set_option maxRecDepth 100000 in
theorem unusedConst (n c : Int) (f : Fil.Flt) (fs : ByteArray) (m y : Int) (w : World)
    (HL : Hid (∀ W, Below w.heap.size w W → Calls Tryz.prog 8 #[] W fun e w' => e = .returned (.bool true) ∧ Below W.heap.size W w')) (hl : ¬ (100 : Int) < (fs.size : Int)) (HI : Hid (∀ W, Below w.heap.size w W → Calls Tryz.prog 9 #[.agg (cells3 0 n c (cellsF f fs))] W fun e w' => e = .returned (.bool true) ∧ Below W.heap.size W w')) (HJ : Hid (∀ W, Below w.heap.size w W → Calls Tryz.prog 9 #[.agg (cells3 0 n y (cellsF f fs))] W fun e w' => e = .returned (.bool false) ∧ Below W.heap.size W w')) (HT : Hid (∀ W, Below w.heap.size w W → Calls Tryz.prog 11 #[.agg (cells3 0 n y (cellsF f fs))] W fun e w' => e = .returned (.string ⟨#[]⟩) ∧ Below W.heap.size W w')) (wm : IntKind.i64.wrap m = m) (wy : IntKind.i64.wrap y = y) (hy : 1 + m.tmod 2 = y) :
    Calls Tryz.prog 7 #[.agg (cells3 0 n c (cellsF f fs)), .int .u8 m] w fun e w' => e = .returned (.bool true) ∧ Below w.heap.size w w' := by

  have B0 := Lib.hid (Below.refl w.heap.size w)
  go_enter Tryz.func7, Tryz.ntmps7
  go_upto_region 0 with fail
  refine wp_region_lit ?_
  obtain ⟨w1, hw⟩ : ∃ v, v = w.alloc (.cells (cells3 0 n c (cellsF f fs)) 27) := ⟨_, rfl⟩
  obtain ⟨pA, hp⟩ : ∃ v, v = w.heap.size := ⟨_, rfl⟩
  have B1 : Hid (Below w.heap.size w w1) := Lib.hid (by rw [hw]; exact B0.out.alloc B0.out.size _)
  have LEA : Hid (w.heap.size ≤ pA) := Lib.hid (by rw [hp]; exact B0.out.size)
  have KA1 : Hid (Blk w1 pA (cells3 0 n c (cellsF f fs)) 27) := Lib.hid (by rw [hw, hp]; exact Blk.new _ _ _)
  with_reducible refine wpList_runWV (some 2) (v := .pointer (some ⟨pA, 0, none⟩)) (w' := w1) ?_ ?_ ?_ ?_
  · rfl
  · rfl
  · rw [hw, hp]; (go_simp; (try rfl))
  simp only [pu, sB, s0, sS]
  clear hw hp
  clear B0
  (with_reducible refine rN (v := .bool false) ?_ ?_ ?_); (· rfl); (· go_simp; (try with_reducible rfl)); simp only [pu, sB, s0, sS]
  go_upto_region 1 with fail
  refine wp_region_lit ?_
  (with_reducible refine rN (v := .pointer (some ⟨pA, 3, none⟩)) ?_ ?_ ?_); (· rfl); (· go_simp; (try rfl)); simp only [pu, sB, s0, sS]
  (with_reducible refine rN (v := .pointer (some ⟨pA, 10, none⟩)) ?_ ?_ ?_); (· rfl); (· go_simp; (try rfl)); simp only [pu, sB, s0, sS]
  with_reducible refine wpList_loadV (.tmp 7) (j := 10) (v := .string fs) ?_ ?_ KA1.out ?_ Tryz.underlying9 ?_ ?_
  · rfl
  · rfl
  · exact (Eq.trans (cells3_at 0 n c (cellsF f fs) 7) rfl)
  · rfl
  simp only [pu, sB, s0, sS]
  (with_reducible refine rN (v := ?_) ?_ ?_ ?_); rotate_left; (· rfl); (· go_simp; (try with_reducible rfl)); simp only [pu, sB, s0, sS]
  iterate 2 ((with_reducible refine rN (v := .bool false) ?_ ?_ ?_); (· rfl); (· go_simp; (try with_reducible rfl)); simp only [pu, sB, s0, sS])
  with_reducible refine wpList_loadS (.tmp 2) ?_ ?_ KA1.out Tryz.underlying27 ?_ (infoTM19 (cells3_sz (cellsF_size f fs))) ?_
  · rfl
  · rfl
  · rfl
  simp only [pu, sB, s0, sS]
  go_wp2_with fail
  refine (HI.out _ B1.out).mono ?_
  rintro e w2 ⟨rfl, hb⟩
  have B2 := Lib.hid (B1.out.trans (hb.mono B1.out.size))
  have KA2 := Lib.hid (KA1.out.below hb KA1.out.lt)
  clear hb
  clear B1 KA1
  go_simp
  rename_i hKK
  refine hKK _ _ ?_
  clear hKK
  try simp only [pu, sB, s0, sS]
  iterate 2 ((with_reducible refine rN (v := .bool false) ?_ ?_ ?_); (· rfl); (· go_simp; (try with_reducible rfl)); simp only [pu, sB, s0, sS])
  go_upto_region 3 with fail
  refine wp_region_lit ?_
  with_reducible refine wpList_loadS (.tmp 2) ?_ ?_ KA2.out Tryz.underlying27 ?_ (infoTM19 (cells3_sz (cellsF_size f fs))) ?_
  · rfl
  · rfl
  · rfl
  simp only [pu, sB, s0, sS]
  obtain ⟨w3, hw⟩ : ∃ v, v = w2.alloc (.cells (cells3 0 0 0 cellsZ) 27) := ⟨_, rfl⟩
  obtain ⟨pB, hp⟩ : ∃ v, v = w2.heap.size := ⟨_, rfl⟩
  have B3 : Hid (Below w.heap.size w w3) := Lib.hid (by rw [hw]; exact B2.out.alloc B2.out.size _)
  have LEB : Hid (w.heap.size ≤ pB) := Lib.hid (by rw [hp]; exact B2.out.size)
  have KA3 := Lib.hid (show Blk w3 pA (cells3 0 n c (cellsF f fs)) 27 by rw [hw]; exact KA2.out.alloc _)
  have NEAB : Hid (pA ≠ pB) := Lib.hid (by rw [hp]; exact Nat.ne_of_lt KA2.out.lt)
  have NEBA : Hid (pB ≠ pA) := Lib.hid (Ne.symm NEAB.out)
  have KB3 : Hid (Blk w3 pB (cells3 0 0 0 cellsZ) 27) := Lib.hid (by rw [hw, hp]; exact Blk.new _ _ _)
  with_reducible refine wpList_runWV (some 5) (v := .pointer (some ⟨pB, 0, none⟩)) (w' := w3) ?_ ?_ ?_ ?_
  · rfl
  · rfl
  · rw [hw, hp]; (go_simp; (try rfl))
  simp only [pu, sB, s0, sS]
  clear hw hp
  clear B2 KA2
  have KB4 := Lib.hid (KB3.out.stored (o := 0) (vs := (cells3 0 n c (cellsF f fs)).toList) (laidAt_whole (Eq.trans (cells3_sz (cellsF_size f fs)) (Eq.symm (cells3_sz cellsZ_size)))))
  have KA4 := Lib.hid (KA3.out.wholeElse ((cells3 0 n c (cellsF f fs)).toList) (o := 0) NEAB.out)
  have B4 := Lib.hid (below_whole ((cells3 0 n c (cellsF f fs)).toList) (o := 0) B3.out LEB.out)
  with_reducible refine wpList_storeM (.tmp 5) (.tmp 17) (o := 0) (vs := (cells3 0 n c (cellsF f fs))) ?_ ?_ KB3.out ?_ (infoTM19 (cells3_sz (cellsF_size f fs))) (cells3_one (cellsF_one f fs)) ?_
  · rfl
  · rfl
  · exact (by have h0 : (cells3 0 0 0 cellsZ).size = 19 := (cells3_sz cellsZ_size); have h1 : (cells3 0 n c (cellsF f fs)).size = 19 := (cells3_sz (cellsF_size f fs)); omega)
  (try simp only [Act.put])
  generalize World.setCells _ _ _ _ = w4 at KA4 KB4 B4 ⊢
  clear B3 KA3 KB3
  go_upto_region 4 with fail
  refine wp_region_lit ?_
  (with_reducible refine rN (v := .pointer (some ⟨pA, 0, none⟩)) ?_ ?_ ?_); (· rfl); (· go_simp; (try rfl)); simp only [pu, sB, s0, sS]
  with_reducible refine wpList_loadV (.tmp 18) (j := 0) (v := .int .i64 0) ?_ ?_ KA4.out ?_ Tryz.underlying3 ?_ ?_
  · rfl
  · rfl
  · exact (cells3_0 ..)
  · rfl
  simp only [pu, sB, s0, sS]
  go_upto_region 6 with fail
  refine wp_region_lit ?_
  iterate 2 ((with_reducible refine rN (v := .bool true) ?_ ?_ ?_); (· rfl); (· go_simp; (try with_reducible rfl)); simp only [pu, sB, s0, sS])
  go_upto_region 7 with fail
  refine wp_region_lit ?_
  (with_reducible refine rN (v := ?_) ?_ ?_ ?_); rotate_left; (· rfl); (· go_simp; (try with_reducible rfl)); simp only [pu, sB, s0, sS]
  (with_reducible refine rN (v := .int .i64 m) ?_ ?_ ?_); (· rfl); (· go_simp; (try with_reducible rfl)); simp only [pu, sB, s0, sS]
  (with_reducible refine rN (v := .int .i64 (m.tmod 2)) ?_ ?_ ?_); (· rfl); (· go_simp; (try with_reducible rfl)); simp only [pu, sB, s0, sS]
  (with_reducible refine rN (v := .int .i64 y) ?_ ?_ ?_); (· rfl); (· go_simp; (try with_reducible rfl)); simp only [pu, sB, s0, sS]
  (with_reducible refine rN (v := .pointer (some ⟨pB, 2, none⟩)) ?_ ?_ ?_); (· rfl); (· go_simp; (try rfl)); simp only [pu, sB, s0, sS]
  have KB5 := Lib.hid (KB4.out.stored (o := 2) (vs := [.int .i64 y]) (cells3_put2 _ _ _ _ _))
  have KA5 := Lib.hid (KA4.out.wholeElse ([.int .i64 y]) (o := 2) NEAB.out)
  have B5 := Lib.hid (below_whole ([.int .i64 y]) (o := 2) B4.out LEB.out)
  with_reducible refine wpList_storeV (.tmp 30) (.tmp 29) (j := 2) (v := .int .i64 y) ?_ ?_ KB4.out ?_ (by kernel_rfl) (by simp [Value.oneCell']) ?_
  · rfl
  · rfl
  · exact (by have h0 : (cells3 0 n c (cellsF f fs)).size = 19 := (cells3_sz (cellsF_size f fs)); omega)
  (try simp only [Act.put])
  generalize World.setCells _ _ _ _ = w5 at KA5 KB5 B5 ⊢
  clear B4 KA4 KB4
  go_upto_region 12 with fail
  refine wp_region_lit ?_
  with_reducible refine wpList_loadS (.tmp 5) ?_ ?_ KB5.out Tryz.underlying27 ?_ (infoTM19 (cells3_sz (cellsF_size f fs))) ?_
  · rfl
  · rfl
  · rfl
  simp only [pu, sB, s0, sS]
  go_wp2_with fail
  refine (HJ.out _ B5.out).mono ?_
  rintro e w6 ⟨rfl, hb⟩
  have B6 := Lib.hid (B5.out.trans (hb.mono B5.out.size))
  have KA6 := Lib.hid (KA5.out.below hb KA5.out.lt)
  have KB6 := Lib.hid (KB5.out.below hb KB5.out.lt)
  clear hb
  clear B5 KA5 KB5
  go_simp
  rename_i hKK
  refine hKK _ _ ?_
  clear hKK
  try simp only [pu, sB, s0, sS]
  iterate 2 ((with_reducible refine rN (v := .bool true) ?_ ?_ ?_); (· rfl); (· go_simp; (try with_reducible rfl)); simp only [pu, sB, s0, sS])
  with_reducible refine wpList_loadS (.tmp 5) ?_ ?_ KB6.out Tryz.underlying27 ?_ (infoTM19 (cells3_sz (cellsF_size f fs))) ?_
  · rfl
  · rfl
  · rfl
  simp only [pu, sB, s0, sS]
  go_wp2_with fail
  refine (HT.out _ B6.out).mono ?_
  rintro e w7 ⟨rfl, hb⟩
  have B7 := Lib.hid (B6.out.trans (hb.mono B6.out.size))
  have KA7 := Lib.hid (KA6.out.below hb KA6.out.lt)
  have KB7 := Lib.hid (KB6.out.below hb KB6.out.lt)
  clear hb
  clear B6 KA6 KB6
  go_simp
  rename_i hKK
  refine hKK _ _ ?_
  clear hKK
  try simp only [pu, sB, s0, sS]
  iterate 3 ((with_reducible refine rN (v := .bool true) ?_ ?_ ?_); (· rfl); (· go_simp; (try with_reducible rfl)); simp only [pu, sB, s0, sS])
  go_wp2_with fail
  refine (HL.out _ B7.out).mono ?_
  rintro e w8 ⟨rfl, hb⟩
  have B8 := Lib.hid (B7.out.trans (hb.mono B7.out.size))
  have KA8 := Lib.hid (KA7.out.below hb KA7.out.lt)
  have KB8 := Lib.hid (KB7.out.below hb KB7.out.lt)
  clear hb
  clear B7 KA7 KB7
  go_simp
  rename_i hKK
  refine hKK _ _ ?_
  clear hKK
  try simp only [pu, sB, s0, sS]
  iterate 2 ((with_reducible refine rN (v := .bool true) ?_ ?_ ?_); (· rfl); (· go_simp; (try with_reducible rfl)); simp only [pu, sB, s0, sS])
  go_wp2_with fail
  go_ret
  exact ⟨rfl, B8.out⟩

set_option maxHeartbeats 8000000 in
set_option maxRecDepth 100000 in
theorem unusedCount (n c : Int) (f : Fil.Flt) (fs : ByteArray) (m : Int) (w : World)
    (HL : Hid (∀ W, Below w.heap.size w W → Calls Tryz.prog 8 #[] W fun e w' => e = .returned (.bool true) ∧ Below W.heap.size W w')) (hl : ¬ (100 : Int) < (fs.size : Int)) (HI : Hid (∀ W, Below w.heap.size w W → Calls Tryz.prog 9 #[.agg (cells3 2 n c (cellsF f fs))] W fun e w' => e = .returned (.bool true) ∧ Below W.heap.size W w')) (HJ : Hid (∀ W, Below w.heap.size w W → Calls Tryz.prog 9 #[.agg (cells3 2 n 2 (cellsF f fs))] W fun e w' => e = .returned (.bool false) ∧ Below W.heap.size W w')) (HT : Hid (∀ W, Below w.heap.size w W → Calls Tryz.prog 11 #[.agg (cells3 2 n 2 (cellsF f fs))] W fun e w' => e = .returned (.string ⟨#[]⟩) ∧ Below W.heap.size W w')) :
    Calls Tryz.prog 7 #[.agg (cells3 2 n c (cellsF f fs)), .int .u8 m] w fun e w' => e = .returned (.bool true) ∧ Below w.heap.size w w' := by

  have B0 := Lib.hid (Below.refl w.heap.size w)
  go_enter Tryz.func7, Tryz.ntmps7
  go_upto_region 0 with fail
  refine wp_region_lit ?_
  obtain ⟨w1, hw⟩ : ∃ v, v = w.alloc (.cells (cells3 2 n c (cellsF f fs)) 27) := ⟨_, rfl⟩
  obtain ⟨pA, hp⟩ : ∃ v, v = w.heap.size := ⟨_, rfl⟩
  have B1 : Hid (Below w.heap.size w w1) := Lib.hid (by rw [hw]; exact B0.out.alloc B0.out.size _)
  have LEA : Hid (w.heap.size ≤ pA) := Lib.hid (by rw [hp]; exact B0.out.size)
  have KA1 : Hid (Blk w1 pA (cells3 2 n c (cellsF f fs)) 27) := Lib.hid (by rw [hw, hp]; exact Blk.new _ _ _)
  with_reducible refine wpList_runWV (some 2) (v := .pointer (some ⟨pA, 0, none⟩)) (w' := w1) ?_ ?_ ?_ ?_
  · rfl
  · rfl
  · rw [hw, hp]; (go_simp; (try rfl))
  simp only [pu, sB, s0, sS]
  clear hw hp
  clear B0
  (with_reducible refine rN (v := .bool false) ?_ ?_ ?_); (· rfl); (· go_simp; (try with_reducible rfl)); simp only [pu, sB, s0, sS]
  go_upto_region 1 with fail
  refine wp_region_lit ?_
  (with_reducible refine rN (v := .pointer (some ⟨pA, 3, none⟩)) ?_ ?_ ?_); (· rfl); (· go_simp; (try rfl)); simp only [pu, sB, s0, sS]
  (with_reducible refine rN (v := .pointer (some ⟨pA, 10, none⟩)) ?_ ?_ ?_); (· rfl); (· go_simp; (try rfl)); simp only [pu, sB, s0, sS]
  with_reducible refine wpList_loadV (.tmp 7) (j := 10) (v := .string fs) ?_ ?_ KA1.out ?_ Tryz.underlying9 ?_ ?_
  · rfl
  · rfl
  · exact (Eq.trans (cells3_at 2 n c (cellsF f fs) 7) rfl)
  · rfl
  simp only [pu, sB, s0, sS]
  (with_reducible refine rN (v := ?_) ?_ ?_ ?_); rotate_left; (· rfl); (· go_simp; (try with_reducible rfl)); simp only [pu, sB, s0, sS]
  iterate 2 ((with_reducible refine rN (v := .bool false) ?_ ?_ ?_); (· rfl); (· go_simp; (try with_reducible rfl)); simp only [pu, sB, s0, sS])
  with_reducible refine wpList_loadS (.tmp 2) ?_ ?_ KA1.out Tryz.underlying27 ?_ (infoTM19 (cells3_sz (cellsF_size f fs))) ?_
  · rfl
  · rfl
  · rfl
  simp only [pu, sB, s0, sS]
  go_wp2_with fail
  refine (HI.out _ B1.out).mono ?_
  rintro e w2 ⟨rfl, hb⟩
  have B2 := Lib.hid (B1.out.trans (hb.mono B1.out.size))
  have KA2 := Lib.hid (KA1.out.below hb KA1.out.lt)
  clear hb
  clear B1 KA1
  go_simp
  rename_i hKK
  refine hKK _ _ ?_
  clear hKK
  try simp only [pu, sB, s0, sS]
  iterate 2 ((with_reducible refine rN (v := .bool false) ?_ ?_ ?_); (· rfl); (· go_simp; (try with_reducible rfl)); simp only [pu, sB, s0, sS])
  go_upto_region 3 with fail
  refine wp_region_lit ?_
  with_reducible refine wpList_loadS (.tmp 2) ?_ ?_ KA2.out Tryz.underlying27 ?_ (infoTM19 (cells3_sz (cellsF_size f fs))) ?_
  · rfl
  · rfl
  · rfl
  simp only [pu, sB, s0, sS]
  obtain ⟨w3, hw⟩ : ∃ v, v = w2.alloc (.cells (cells3 0 0 0 cellsZ) 27) := ⟨_, rfl⟩
  obtain ⟨pB, hp⟩ : ∃ v, v = w2.heap.size := ⟨_, rfl⟩
  have B3 : Hid (Below w.heap.size w w3) := Lib.hid (by rw [hw]; exact B2.out.alloc B2.out.size _)
  have LEB : Hid (w.heap.size ≤ pB) := Lib.hid (by rw [hp]; exact B2.out.size)
  have KA3 := Lib.hid (show Blk w3 pA (cells3 2 n c (cellsF f fs)) 27 by rw [hw]; exact KA2.out.alloc _)
  have NEAB : Hid (pA ≠ pB) := Lib.hid (by rw [hp]; exact Nat.ne_of_lt KA2.out.lt)
  have NEBA : Hid (pB ≠ pA) := Lib.hid (Ne.symm NEAB.out)
  have KB3 : Hid (Blk w3 pB (cells3 0 0 0 cellsZ) 27) := Lib.hid (by rw [hw, hp]; exact Blk.new _ _ _)
  with_reducible refine wpList_runWV (some 5) (v := .pointer (some ⟨pB, 0, none⟩)) (w' := w3) ?_ ?_ ?_ ?_
  · rfl
  · rfl
  · rw [hw, hp]; (go_simp; (try rfl))
  simp only [pu, sB, s0, sS]
  clear hw hp
  clear B2 KA2
  have KB4 := Lib.hid (KB3.out.stored (o := 0) (vs := (cells3 2 n c (cellsF f fs)).toList) (laidAt_whole (Eq.trans (cells3_sz (cellsF_size f fs)) (Eq.symm (cells3_sz cellsZ_size)))))
  have KA4 := Lib.hid (KA3.out.wholeElse ((cells3 2 n c (cellsF f fs)).toList) (o := 0) NEAB.out)
  have B4 := Lib.hid (below_whole ((cells3 2 n c (cellsF f fs)).toList) (o := 0) B3.out LEB.out)
  with_reducible refine wpList_storeM (.tmp 5) (.tmp 17) (o := 0) (vs := (cells3 2 n c (cellsF f fs))) ?_ ?_ KB3.out ?_ (infoTM19 (cells3_sz (cellsF_size f fs))) (cells3_one (cellsF_one f fs)) ?_
  · rfl
  · rfl
  · exact (by have h0 : (cells3 0 0 0 cellsZ).size = 19 := (cells3_sz cellsZ_size); have h1 : (cells3 2 n c (cellsF f fs)).size = 19 := (cells3_sz (cellsF_size f fs)); omega)
  (try simp only [Act.put])
  generalize World.setCells _ _ _ _ = w4 at KA4 KB4 B4 ⊢
  clear B3 KA3 KB3
  go_upto_region 4 with fail
  refine wp_region_lit ?_
  (with_reducible refine rN (v := .pointer (some ⟨pA, 0, none⟩)) ?_ ?_ ?_); (· rfl); (· go_simp; (try rfl)); simp only [pu, sB, s0, sS]
  with_reducible refine wpList_loadV (.tmp 18) (j := 0) (v := .int .i64 2) ?_ ?_ KA4.out ?_ Tryz.underlying3 ?_ ?_
  · rfl
  · rfl
  · exact (cells3_0 ..)
  · rfl
  simp only [pu, sB, s0, sS]
  go_upto_region 6 with fail
  refine wp_region_lit ?_
  iterate 2 ((with_reducible refine rN (v := .bool false) ?_ ?_ ?_); (· rfl); (· go_simp; (try with_reducible rfl)); simp only [pu, sB, s0, sS])
  go_upto_region 8 with fail
  refine wp_region_lit ?_
  iterate 2 ((with_reducible refine rN (v := .bool true) ?_ ?_ ?_); (· rfl); (· go_simp; (try with_reducible rfl)); simp only [pu, sB, s0, sS])
  go_upto_region 9 with fail
  refine wp_region_lit ?_
  (with_reducible refine rN (v := .pointer (some ⟨pB, 2, none⟩)) ?_ ?_ ?_); (· rfl); (· go_simp; (try rfl)); simp only [pu, sB, s0, sS]
  have KB5 := Lib.hid (KB4.out.stored (o := 2) (vs := [.int .i64 2]) (cells3_put2 _ _ _ _ _))
  have KA5 := Lib.hid (KA4.out.wholeElse ([.int .i64 2]) (o := 2) NEAB.out)
  have B5 := Lib.hid (below_whole ([.int .i64 2]) (o := 2) B4.out LEB.out)
  with_reducible refine wpList_storeV (.tmp 33) (.const (.int .i64 2)) (j := 2) (v := .int .i64 2) ?_ ?_ KB4.out ?_ (by kernel_rfl) (by simp [Value.oneCell']) ?_
  · rfl
  · rfl
  · exact (by have h0 : (cells3 2 n c (cellsF f fs)).size = 19 := (cells3_sz (cellsF_size f fs)); omega)
  (try simp only [Act.put])
  generalize World.setCells _ _ _ _ = w5 at KA5 KB5 B5 ⊢
  clear B4 KA4 KB4
  go_upto_region 12 with fail
  refine wp_region_lit ?_
  with_reducible refine wpList_loadS (.tmp 5) ?_ ?_ KB5.out Tryz.underlying27 ?_ (infoTM19 (cells3_sz (cellsF_size f fs))) ?_
  · rfl
  · rfl
  · rfl
  simp only [pu, sB, s0, sS]
  go_wp2_with fail
  refine (HJ.out _ B5.out).mono ?_
  rintro e w6 ⟨rfl, hb⟩
  have B6 := Lib.hid (B5.out.trans (hb.mono B5.out.size))
  have KA6 := Lib.hid (KA5.out.below hb KA5.out.lt)
  have KB6 := Lib.hid (KB5.out.below hb KB5.out.lt)
  clear hb
  clear B5 KA5 KB5
  go_simp
  rename_i hKK
  refine hKK _ _ ?_
  clear hKK
  try simp only [pu, sB, s0, sS]
  iterate 2 ((with_reducible refine rN (v := .bool true) ?_ ?_ ?_); (· rfl); (· go_simp; (try with_reducible rfl)); simp only [pu, sB, s0, sS])
  with_reducible refine wpList_loadS (.tmp 5) ?_ ?_ KB6.out Tryz.underlying27 ?_ (infoTM19 (cells3_sz (cellsF_size f fs))) ?_
  · rfl
  · rfl
  · rfl
  simp only [pu, sB, s0, sS]
  go_wp2_with fail
  refine (HT.out _ B6.out).mono ?_
  rintro e w7 ⟨rfl, hb⟩
  have B7 := Lib.hid (B6.out.trans (hb.mono B6.out.size))
  have KA7 := Lib.hid (KA6.out.below hb KA6.out.lt)
  have KB7 := Lib.hid (KB6.out.below hb KB6.out.lt)
  clear hb
  clear B6 KA6 KB6
  go_simp
  rename_i hKK
  refine hKK _ _ ?_
  clear hKK
  try simp only [pu, sB, s0, sS]
  iterate 3 ((with_reducible refine rN (v := .bool true) ?_ ?_ ?_); (· rfl); (· go_simp; (try with_reducible rfl)); simp only [pu, sB, s0, sS])
  go_wp2_with fail
  refine (HL.out _ B7.out).mono ?_
  rintro e w8 ⟨rfl, hb⟩
  have B8 := Lib.hid (B7.out.trans (hb.mono B7.out.size))
  have KA8 := Lib.hid (KA7.out.below hb KA7.out.lt)
  have KB8 := Lib.hid (KB7.out.below hb KB7.out.lt)
  clear hb
  clear B7 KA7 KB7
  go_simp
  rename_i hKK
  refine hKK _ _ ?_
  clear hKK
  try simp only [pu, sB, s0, sS]
  iterate 2 ((with_reducible refine rN (v := .bool true) ?_ ?_ ?_); (· rfl); (· go_simp; (try with_reducible rfl)); simp only [pu, sB, s0, sS])
  go_wp2_with fail
  go_ret
  exact ⟨rfl, B8.out⟩

set_option maxHeartbeats 8000000 in
set_option maxRecDepth 100000 in
theorem unusedCtr (n c : Int) (f : Fil.Flt) (fs : ByteArray) (m y : Int) (w : World)
    (HL : Hid (∀ W, Below w.heap.size w W → Calls Tryz.prog 8 #[] W fun e w' => e = .returned (.bool true) ∧ Below W.heap.size W w')) (hl : ¬ (100 : Int) < (fs.size : Int)) (HI : Hid (∀ W, Below w.heap.size w W → Calls Tryz.prog 9 #[.agg (cells3 4 n c (cellsF f fs))] W fun e w' => e = .returned (.bool true) ∧ Below W.heap.size W w')) (HJ : Hid (∀ W, Below w.heap.size w W → Calls Tryz.prog 9 #[.agg (cells3 4 y c (cellsF f fs))] W fun e w' => e = .returned (.bool false) ∧ Below W.heap.size W w')) (HT : Hid (∀ W, Below w.heap.size w W → Calls Tryz.prog 11 #[.agg (cells3 4 y c (cellsF f fs))] W fun e w' => e = .returned (.string ⟨#[]⟩) ∧ Below W.heap.size W w')) (wm : IntKind.i64.wrap m = m) (wy : IntKind.i64.wrap y = y) (hy : 1 + m = y) :
    Calls Tryz.prog 7 #[.agg (cells3 4 n c (cellsF f fs)), .int .u8 m] w fun e w' => e = .returned (.bool true) ∧ Below w.heap.size w w' := by

  have B0 := Lib.hid (Below.refl w.heap.size w)
  go_enter Tryz.func7, Tryz.ntmps7
  go_upto_region 0 with fail
  refine wp_region_lit ?_
  obtain ⟨w1, hw⟩ : ∃ v, v = w.alloc (.cells (cells3 4 n c (cellsF f fs)) 27) := ⟨_, rfl⟩
  obtain ⟨pA, hp⟩ : ∃ v, v = w.heap.size := ⟨_, rfl⟩
  have B1 : Hid (Below w.heap.size w w1) := Lib.hid (by rw [hw]; exact B0.out.alloc B0.out.size _)
  have LEA : Hid (w.heap.size ≤ pA) := Lib.hid (by rw [hp]; exact B0.out.size)
  have KA1 : Hid (Blk w1 pA (cells3 4 n c (cellsF f fs)) 27) := Lib.hid (by rw [hw, hp]; exact Blk.new _ _ _)
  with_reducible refine wpList_runWV (some 2) (v := .pointer (some ⟨pA, 0, none⟩)) (w' := w1) ?_ ?_ ?_ ?_
  · rfl
  · rfl
  · rw [hw, hp]; (go_simp; (try rfl))
  simp only [pu, sB, s0, sS]
  clear hw hp
  clear B0
  (with_reducible refine rN (v := .bool false) ?_ ?_ ?_); (· rfl); (· go_simp; (try with_reducible rfl)); simp only [pu, sB, s0, sS]
  go_upto_region 1 with fail
  refine wp_region_lit ?_
  (with_reducible refine rN (v := .pointer (some ⟨pA, 3, none⟩)) ?_ ?_ ?_); (· rfl); (· go_simp; (try rfl)); simp only [pu, sB, s0, sS]
  (with_reducible refine rN (v := .pointer (some ⟨pA, 10, none⟩)) ?_ ?_ ?_); (· rfl); (· go_simp; (try rfl)); simp only [pu, sB, s0, sS]
  with_reducible refine wpList_loadV (.tmp 7) (j := 10) (v := .string fs) ?_ ?_ KA1.out ?_ Tryz.underlying9 ?_ ?_
  · rfl
  · rfl
  · exact (Eq.trans (cells3_at 4 n c (cellsF f fs) 7) rfl)
  · rfl
  simp only [pu, sB, s0, sS]
  (with_reducible refine rN (v := ?_) ?_ ?_ ?_); rotate_left; (· rfl); (· go_simp; (try with_reducible rfl)); simp only [pu, sB, s0, sS]
  iterate 2 ((with_reducible refine rN (v := .bool false) ?_ ?_ ?_); (· rfl); (· go_simp; (try with_reducible rfl)); simp only [pu, sB, s0, sS])
  with_reducible refine wpList_loadS (.tmp 2) ?_ ?_ KA1.out Tryz.underlying27 ?_ (infoTM19 (cells3_sz (cellsF_size f fs))) ?_
  · rfl
  · rfl
  · rfl
  simp only [pu, sB, s0, sS]
  go_wp2_with fail
  refine (HI.out _ B1.out).mono ?_
  rintro e w2 ⟨rfl, hb⟩
  have B2 := Lib.hid (B1.out.trans (hb.mono B1.out.size))
  have KA2 := Lib.hid (KA1.out.below hb KA1.out.lt)
  clear hb
  clear B1 KA1
  go_simp
  rename_i hKK
  refine hKK _ _ ?_
  clear hKK
  try simp only [pu, sB, s0, sS]
  iterate 2 ((with_reducible refine rN (v := .bool false) ?_ ?_ ?_); (· rfl); (· go_simp; (try with_reducible rfl)); simp only [pu, sB, s0, sS])
  go_upto_region 3 with fail
  refine wp_region_lit ?_
  with_reducible refine wpList_loadS (.tmp 2) ?_ ?_ KA2.out Tryz.underlying27 ?_ (infoTM19 (cells3_sz (cellsF_size f fs))) ?_
  · rfl
  · rfl
  · rfl
  simp only [pu, sB, s0, sS]
  obtain ⟨w3, hw⟩ : ∃ v, v = w2.alloc (.cells (cells3 0 0 0 cellsZ) 27) := ⟨_, rfl⟩
  obtain ⟨pB, hp⟩ : ∃ v, v = w2.heap.size := ⟨_, rfl⟩
  have B3 : Hid (Below w.heap.size w w3) := Lib.hid (by rw [hw]; exact B2.out.alloc B2.out.size _)
  have LEB : Hid (w.heap.size ≤ pB) := Lib.hid (by rw [hp]; exact B2.out.size)
  have KA3 := Lib.hid (show Blk w3 pA (cells3 4 n c (cellsF f fs)) 27 by rw [hw]; exact KA2.out.alloc _)
  have NEAB : Hid (pA ≠ pB) := Lib.hid (by rw [hp]; exact Nat.ne_of_lt KA2.out.lt)
  have NEBA : Hid (pB ≠ pA) := Lib.hid (Ne.symm NEAB.out)
  have KB3 : Hid (Blk w3 pB (cells3 0 0 0 cellsZ) 27) := Lib.hid (by rw [hw, hp]; exact Blk.new _ _ _)
  with_reducible refine wpList_runWV (some 5) (v := .pointer (some ⟨pB, 0, none⟩)) (w' := w3) ?_ ?_ ?_ ?_
  · rfl
  · rfl
  · rw [hw, hp]; (go_simp; (try rfl))
  simp only [pu, sB, s0, sS]
  clear hw hp
  clear B2 KA2
  have KB4 := Lib.hid (KB3.out.stored (o := 0) (vs := (cells3 4 n c (cellsF f fs)).toList) (laidAt_whole (Eq.trans (cells3_sz (cellsF_size f fs)) (Eq.symm (cells3_sz cellsZ_size)))))
  have KA4 := Lib.hid (KA3.out.wholeElse ((cells3 4 n c (cellsF f fs)).toList) (o := 0) NEAB.out)
  have B4 := Lib.hid (below_whole ((cells3 4 n c (cellsF f fs)).toList) (o := 0) B3.out LEB.out)
  with_reducible refine wpList_storeM (.tmp 5) (.tmp 17) (o := 0) (vs := (cells3 4 n c (cellsF f fs))) ?_ ?_ KB3.out ?_ (infoTM19 (cells3_sz (cellsF_size f fs))) (cells3_one (cellsF_one f fs)) ?_
  · rfl
  · rfl
  · exact (by have h0 : (cells3 0 0 0 cellsZ).size = 19 := (cells3_sz cellsZ_size); have h1 : (cells3 4 n c (cellsF f fs)).size = 19 := (cells3_sz (cellsF_size f fs)); omega)
  (try simp only [Act.put])
  generalize World.setCells _ _ _ _ = w4 at KA4 KB4 B4 ⊢
  clear B3 KA3 KB3
  go_upto_region 4 with fail
  refine wp_region_lit ?_
  (with_reducible refine rN (v := .pointer (some ⟨pA, 0, none⟩)) ?_ ?_ ?_); (· rfl); (· go_simp; (try rfl)); simp only [pu, sB, s0, sS]
  with_reducible refine wpList_loadV (.tmp 18) (j := 0) (v := .int .i64 4) ?_ ?_ KA4.out ?_ Tryz.underlying3 ?_ ?_
  · rfl
  · rfl
  · exact (cells3_0 ..)
  · rfl
  simp only [pu, sB, s0, sS]
  go_upto_region 6 with fail
  refine wp_region_lit ?_
  iterate 2 ((with_reducible refine rN (v := .bool false) ?_ ?_ ?_); (· rfl); (· go_simp; (try with_reducible rfl)); simp only [pu, sB, s0, sS])
  go_upto_region 8 with fail
  refine wp_region_lit ?_
  iterate 2 ((with_reducible refine rN (v := .bool false) ?_ ?_ ?_); (· rfl); (· go_simp; (try with_reducible rfl)); simp only [pu, sB, s0, sS])
  go_upto_region 10 with fail
  refine wp_region_lit ?_
  iterate 2 ((with_reducible refine rN (v := .bool true) ?_ ?_ ?_); (· rfl); (· go_simp; (try with_reducible rfl)); simp only [pu, sB, s0, sS])
  go_upto_region 11 with fail
  refine wp_region_lit ?_
  (with_reducible refine rN (v := ?_) ?_ ?_ ?_); rotate_left; (· rfl); (· go_simp; (try with_reducible rfl)); simp only [pu, sB, s0, sS]
  (with_reducible refine rN (v := .int .i64 m) ?_ ?_ ?_); (· rfl); (· go_simp; (try with_reducible rfl)); simp only [pu, sB, s0, sS]
  (with_reducible refine rN (v := .int .i64 y) ?_ ?_ ?_); (· rfl); (· go_simp; (try with_reducible rfl)); simp only [pu, sB, s0, sS]
  (with_reducible refine rN (v := .pointer (some ⟨pB, 1, none⟩)) ?_ ?_ ?_); (· rfl); (· go_simp; (try rfl)); simp only [pu, sB, s0, sS]
  have KB5 := Lib.hid (KB4.out.stored (o := 1) (vs := [.int .i64 y]) (cells3_put1 _ _ _ _ _))
  have KA5 := Lib.hid (KA4.out.wholeElse ([.int .i64 y]) (o := 1) NEAB.out)
  have B5 := Lib.hid (below_whole ([.int .i64 y]) (o := 1) B4.out LEB.out)
  with_reducible refine wpList_storeV (.tmp 39) (.tmp 38) (j := 1) (v := .int .i64 y) ?_ ?_ KB4.out ?_ (by kernel_rfl) (by simp [Value.oneCell']) ?_
  · rfl
  · rfl
  · exact (by have h0 : (cells3 4 n c (cellsF f fs)).size = 19 := (cells3_sz (cellsF_size f fs)); omega)
  (try simp only [Act.put])
  generalize World.setCells _ _ _ _ = w5 at KA5 KB5 B5 ⊢
  clear B4 KA4 KB4
  go_upto_region 12 with fail
  refine wp_region_lit ?_
  with_reducible refine wpList_loadS (.tmp 5) ?_ ?_ KB5.out Tryz.underlying27 ?_ (infoTM19 (cells3_sz (cellsF_size f fs))) ?_
  · rfl
  · rfl
  · rfl
  simp only [pu, sB, s0, sS]
  go_wp2_with fail
  refine (HJ.out _ B5.out).mono ?_
  rintro e w6 ⟨rfl, hb⟩
  have B6 := Lib.hid (B5.out.trans (hb.mono B5.out.size))
  have KA6 := Lib.hid (KA5.out.below hb KA5.out.lt)
  have KB6 := Lib.hid (KB5.out.below hb KB5.out.lt)
  clear hb
  clear B5 KA5 KB5
  go_simp
  rename_i hKK
  refine hKK _ _ ?_
  clear hKK
  try simp only [pu, sB, s0, sS]
  iterate 2 ((with_reducible refine rN (v := .bool true) ?_ ?_ ?_); (· rfl); (· go_simp; (try with_reducible rfl)); simp only [pu, sB, s0, sS])
  with_reducible refine wpList_loadS (.tmp 5) ?_ ?_ KB6.out Tryz.underlying27 ?_ (infoTM19 (cells3_sz (cellsF_size f fs))) ?_
  · rfl
  · rfl
  · rfl
  simp only [pu, sB, s0, sS]
  go_wp2_with fail
  refine (HT.out _ B6.out).mono ?_
  rintro e w7 ⟨rfl, hb⟩
  have B7 := Lib.hid (B6.out.trans (hb.mono B6.out.size))
  have KA7 := Lib.hid (KA6.out.below hb KA6.out.lt)
  have KB7 := Lib.hid (KB6.out.below hb KB6.out.lt)
  clear hb
  clear B6 KA6 KB6
  go_simp
  rename_i hKK
  refine hKK _ _ ?_
  clear hKK
  try simp only [pu, sB, s0, sS]
  iterate 3 ((with_reducible refine rN (v := .bool true) ?_ ?_ ?_); (· rfl); (· go_simp; (try with_reducible rfl)); simp only [pu, sB, s0, sS])
  go_wp2_with fail
  refine (HL.out _ B7.out).mono ?_
  rintro e w8 ⟨rfl, hb⟩
  have B8 := Lib.hid (B7.out.trans (hb.mono B7.out.size))
  have KA8 := Lib.hid (KA7.out.below hb KA7.out.lt)
  have KB8 := Lib.hid (KB7.out.below hb KB7.out.lt)
  clear hb
  clear B7 KA7 KB7
  go_simp
  rename_i hKK
  refine hKK _ _ ?_
  clear hKK
  try simp only [pu, sB, s0, sS]
  iterate 2 ((with_reducible refine rN (v := .bool true) ?_ ?_ ?_); (· rfl); (· go_simp; (try with_reducible rfl)); simp only [pu, sB, s0, sS])
  go_wp2_with fail
  go_ret
  exact ⟨rfl, B8.out⟩

set_option maxHeartbeats 8000000 in
set_option maxRecDepth 100000 in
theorem unusedWord (k : Int) (n c : Int) (f : Fil.Flt) (fs : ByteArray) (m y : Int) (w : World)
    (HL : Hid (∀ W, Below w.heap.size w W → Calls Tryz.prog 8 #[] W fun e w' => e = .returned (.bool true) ∧ Below W.heap.size W w')) (hl : ¬ (100 : Int) < (fs.size : Int)) (HI : Hid (∀ W, Below w.heap.size w W → Calls Tryz.prog 9 #[.agg (cells3 k n c (cellsF f fs))] W fun e w' => e = .returned (.bool true) ∧ Below W.heap.size W w')) (HJ : Hid (∀ W, Below w.heap.size w W → Calls Tryz.prog 9 #[.agg (cells3 k y c (cellsF f fs))] W fun e w' => e = .returned (.bool false) ∧ Below W.heap.size W w')) (HT : Hid (∀ W, Below w.heap.size w W → Calls Tryz.prog 11 #[.agg (cells3 k y c (cellsF f fs))] W fun e w' => e = .returned (.string ⟨#[]⟩) ∧ Below W.heap.size W w')) (wm : IntKind.i64.wrap m = m) (wy : IntKind.i64.wrap y = y) (hy : 1 + m = y) (h0 : (k == 0) = false) (h2 : (k == 2) = false) (h4 : (k == 4) = false) :
    Calls Tryz.prog 7 #[.agg (cells3 k n c (cellsF f fs)), .int .u8 m] w fun e w' => e = .returned (.bool true) ∧ Below w.heap.size w w' := by

  have B0 := Lib.hid (Below.refl w.heap.size w)
  go_enter Tryz.func7, Tryz.ntmps7
  go_upto_region 0 with fail
  refine wp_region_lit ?_
  obtain ⟨w1, hw⟩ : ∃ v, v = w.alloc (.cells (cells3 k n c (cellsF f fs)) 27) := ⟨_, rfl⟩
  obtain ⟨pA, hp⟩ : ∃ v, v = w.heap.size := ⟨_, rfl⟩
  have B1 : Hid (Below w.heap.size w w1) := Lib.hid (by rw [hw]; exact B0.out.alloc B0.out.size _)
  have LEA : Hid (w.heap.size ≤ pA) := Lib.hid (by rw [hp]; exact B0.out.size)
  have KA1 : Hid (Blk w1 pA (cells3 k n c (cellsF f fs)) 27) := Lib.hid (by rw [hw, hp]; exact Blk.new _ _ _)
  with_reducible refine wpList_runWV (some 2) (v := .pointer (some ⟨pA, 0, none⟩)) (w' := w1) ?_ ?_ ?_ ?_
  · rfl
  · rfl
  · rw [hw, hp]; (go_simp; (try rfl))
  simp only [pu, sB, s0, sS]
  clear hw hp
  clear B0
  (with_reducible refine rN (v := .bool false) ?_ ?_ ?_); (· rfl); (· go_simp; (try with_reducible rfl)); simp only [pu, sB, s0, sS]
  go_upto_region 1 with fail
  refine wp_region_lit ?_
  (with_reducible refine rN (v := .pointer (some ⟨pA, 3, none⟩)) ?_ ?_ ?_); (· rfl); (· go_simp; (try rfl)); simp only [pu, sB, s0, sS]
  (with_reducible refine rN (v := .pointer (some ⟨pA, 10, none⟩)) ?_ ?_ ?_); (· rfl); (· go_simp; (try rfl)); simp only [pu, sB, s0, sS]
  with_reducible refine wpList_loadV (.tmp 7) (j := 10) (v := .string fs) ?_ ?_ KA1.out ?_ Tryz.underlying9 ?_ ?_
  · rfl
  · rfl
  · exact (Eq.trans (cells3_at k n c (cellsF f fs) 7) rfl)
  · rfl
  simp only [pu, sB, s0, sS]
  (with_reducible refine rN (v := ?_) ?_ ?_ ?_); rotate_left; (· rfl); (· go_simp; (try with_reducible rfl)); simp only [pu, sB, s0, sS]
  iterate 2 ((with_reducible refine rN (v := .bool false) ?_ ?_ ?_); (· rfl); (· go_simp; (try with_reducible rfl)); simp only [pu, sB, s0, sS])
  with_reducible refine wpList_loadS (.tmp 2) ?_ ?_ KA1.out Tryz.underlying27 ?_ (infoTM19 (cells3_sz (cellsF_size f fs))) ?_
  · rfl
  · rfl
  · rfl
  simp only [pu, sB, s0, sS]
  go_wp2_with fail
  refine (HI.out _ B1.out).mono ?_
  rintro e w2 ⟨rfl, hb⟩
  have B2 := Lib.hid (B1.out.trans (hb.mono B1.out.size))
  have KA2 := Lib.hid (KA1.out.below hb KA1.out.lt)
  clear hb
  clear B1 KA1
  go_simp
  rename_i hKK
  refine hKK _ _ ?_
  clear hKK
  try simp only [pu, sB, s0, sS]
  iterate 2 ((with_reducible refine rN (v := .bool false) ?_ ?_ ?_); (· rfl); (· go_simp; (try with_reducible rfl)); simp only [pu, sB, s0, sS])
  go_upto_region 3 with fail
  refine wp_region_lit ?_
  with_reducible refine wpList_loadS (.tmp 2) ?_ ?_ KA2.out Tryz.underlying27 ?_ (infoTM19 (cells3_sz (cellsF_size f fs))) ?_
  · rfl
  · rfl
  · rfl
  simp only [pu, sB, s0, sS]
  obtain ⟨w3, hw⟩ : ∃ v, v = w2.alloc (.cells (cells3 0 0 0 cellsZ) 27) := ⟨_, rfl⟩
  obtain ⟨pB, hp⟩ : ∃ v, v = w2.heap.size := ⟨_, rfl⟩
  have B3 : Hid (Below w.heap.size w w3) := Lib.hid (by rw [hw]; exact B2.out.alloc B2.out.size _)
  have LEB : Hid (w.heap.size ≤ pB) := Lib.hid (by rw [hp]; exact B2.out.size)
  have KA3 := Lib.hid (show Blk w3 pA (cells3 k n c (cellsF f fs)) 27 by rw [hw]; exact KA2.out.alloc _)
  have NEAB : Hid (pA ≠ pB) := Lib.hid (by rw [hp]; exact Nat.ne_of_lt KA2.out.lt)
  have NEBA : Hid (pB ≠ pA) := Lib.hid (Ne.symm NEAB.out)
  have KB3 : Hid (Blk w3 pB (cells3 0 0 0 cellsZ) 27) := Lib.hid (by rw [hw, hp]; exact Blk.new _ _ _)
  with_reducible refine wpList_runWV (some 5) (v := .pointer (some ⟨pB, 0, none⟩)) (w' := w3) ?_ ?_ ?_ ?_
  · rfl
  · rfl
  · rw [hw, hp]; (go_simp; (try rfl))
  simp only [pu, sB, s0, sS]
  clear hw hp
  clear B2 KA2
  have KB4 := Lib.hid (KB3.out.stored (o := 0) (vs := (cells3 k n c (cellsF f fs)).toList) (laidAt_whole (Eq.trans (cells3_sz (cellsF_size f fs)) (Eq.symm (cells3_sz cellsZ_size)))))
  have KA4 := Lib.hid (KA3.out.wholeElse ((cells3 k n c (cellsF f fs)).toList) (o := 0) NEAB.out)
  have B4 := Lib.hid (below_whole ((cells3 k n c (cellsF f fs)).toList) (o := 0) B3.out LEB.out)
  with_reducible refine wpList_storeM (.tmp 5) (.tmp 17) (o := 0) (vs := (cells3 k n c (cellsF f fs))) ?_ ?_ KB3.out ?_ (infoTM19 (cells3_sz (cellsF_size f fs))) (cells3_one (cellsF_one f fs)) ?_
  · rfl
  · rfl
  · exact (by have h0 : (cells3 0 0 0 cellsZ).size = 19 := (cells3_sz cellsZ_size); have h1 : (cells3 k n c (cellsF f fs)).size = 19 := (cells3_sz (cellsF_size f fs)); omega)
  (try simp only [Act.put])
  generalize World.setCells _ _ _ _ = w4 at KA4 KB4 B4 ⊢
  clear B3 KA3 KB3
  go_upto_region 4 with fail
  refine wp_region_lit ?_
  (with_reducible refine rN (v := .pointer (some ⟨pA, 0, none⟩)) ?_ ?_ ?_); (· rfl); (· go_simp; (try rfl)); simp only [pu, sB, s0, sS]
  with_reducible refine wpList_loadV (.tmp 18) (j := 0) (v := .int .i64 k) ?_ ?_ KA4.out ?_ Tryz.underlying3 ?_ ?_
  · rfl
  · rfl
  · exact (cells3_0 ..)
  · rfl
  simp only [pu, sB, s0, sS]
  go_upto_region 6 with fail
  refine wp_region_lit ?_
  iterate 2 ((with_reducible refine rN (v := .bool false) ?_ ?_ ?_); (· rfl); (· go_simp; (try with_reducible rfl)); simp only [pu, sB, s0, sS])
  go_upto_region 8 with fail
  refine wp_region_lit ?_
  iterate 2 ((with_reducible refine rN (v := .bool false) ?_ ?_ ?_); (· rfl); (· go_simp; (try with_reducible rfl)); simp only [pu, sB, s0, sS])
  go_upto_region 10 with fail
  refine wp_region_lit ?_
  iterate 2 ((with_reducible refine rN (v := .bool false) ?_ ?_ ?_); (· rfl); (· go_simp; (try with_reducible rfl)); simp only [pu, sB, s0, sS])
  go_upto_region 5 with fail
  refine wp_region_lit ?_
  (with_reducible refine rN (v := ?_) ?_ ?_ ?_); rotate_left; (· rfl); (· go_simp; (try with_reducible rfl)); simp only [pu, sB, s0, sS]
  (with_reducible refine rN (v := .int .i64 m) ?_ ?_ ?_); (· rfl); (· go_simp; (try with_reducible rfl)); simp only [pu, sB, s0, sS]
  (with_reducible refine rN (v := .int .i64 y) ?_ ?_ ?_); (· rfl); (· go_simp; (try with_reducible rfl)); simp only [pu, sB, s0, sS]
  (with_reducible refine rN (v := .pointer (some ⟨pB, 1, none⟩)) ?_ ?_ ?_); (· rfl); (· go_simp; (try rfl)); simp only [pu, sB, s0, sS]
  have KB5 := Lib.hid (KB4.out.stored (o := 1) (vs := [.int .i64 y]) (cells3_put1 _ _ _ _ _))
  have KA5 := Lib.hid (KA4.out.wholeElse ([.int .i64 y]) (o := 1) NEAB.out)
  have B5 := Lib.hid (below_whole ([.int .i64 y]) (o := 1) B4.out LEB.out)
  with_reducible refine wpList_storeV (.tmp 23) (.tmp 22) (j := 1) (v := .int .i64 y) ?_ ?_ KB4.out ?_ (by kernel_rfl) (by simp [Value.oneCell']) ?_
  · rfl
  · rfl
  · exact (by have h0 : (cells3 k n c (cellsF f fs)).size = 19 := (cells3_sz (cellsF_size f fs)); omega)
  (try simp only [Act.put])
  generalize World.setCells _ _ _ _ = w5 at KA5 KB5 B5 ⊢
  clear B4 KA4 KB4
  go_upto_region 12 with fail
  refine wp_region_lit ?_
  with_reducible refine wpList_loadS (.tmp 5) ?_ ?_ KB5.out Tryz.underlying27 ?_ (infoTM19 (cells3_sz (cellsF_size f fs))) ?_
  · rfl
  · rfl
  · rfl
  simp only [pu, sB, s0, sS]
  go_wp2_with fail
  refine (HJ.out _ B5.out).mono ?_
  rintro e w6 ⟨rfl, hb⟩
  have B6 := Lib.hid (B5.out.trans (hb.mono B5.out.size))
  have KA6 := Lib.hid (KA5.out.below hb KA5.out.lt)
  have KB6 := Lib.hid (KB5.out.below hb KB5.out.lt)
  clear hb
  clear B5 KA5 KB5
  go_simp
  rename_i hKK
  refine hKK _ _ ?_
  clear hKK
  try simp only [pu, sB, s0, sS]
  iterate 2 ((with_reducible refine rN (v := .bool true) ?_ ?_ ?_); (· rfl); (· go_simp; (try with_reducible rfl)); simp only [pu, sB, s0, sS])
  with_reducible refine wpList_loadS (.tmp 5) ?_ ?_ KB6.out Tryz.underlying27 ?_ (infoTM19 (cells3_sz (cellsF_size f fs))) ?_
  · rfl
  · rfl
  · rfl
  simp only [pu, sB, s0, sS]
  go_wp2_with fail
  refine (HT.out _ B6.out).mono ?_
  rintro e w7 ⟨rfl, hb⟩
  have B7 := Lib.hid (B6.out.trans (hb.mono B6.out.size))
  have KA7 := Lib.hid (KA6.out.below hb KA6.out.lt)
  have KB7 := Lib.hid (KB6.out.below hb KB6.out.lt)
  clear hb
  clear B6 KA6 KB6
  go_simp
  rename_i hKK
  refine hKK _ _ ?_
  clear hKK
  try simp only [pu, sB, s0, sS]
  iterate 3 ((with_reducible refine rN (v := .bool true) ?_ ?_ ?_); (· rfl); (· go_simp; (try with_reducible rfl)); simp only [pu, sB, s0, sS])
  go_wp2_with fail
  refine (HL.out _ B7.out).mono ?_
  rintro e w8 ⟨rfl, hb⟩
  have B8 := Lib.hid (B7.out.trans (hb.mono B7.out.size))
  have KA8 := Lib.hid (KA7.out.below hb KA7.out.lt)
  have KB8 := Lib.hid (KB7.out.below hb KB7.out.lt)
  clear hb
  clear B7 KA7 KB7
  go_simp
  rename_i hKK
  refine hKK _ _ ?_
  clear hKK
  try simp only [pu, sB, s0, sS]
  iterate 2 ((with_reducible refine rN (v := .bool true) ?_ ?_ ?_); (· rfl); (· go_simp; (try with_reducible rfl)); simp only [pu, sB, s0, sS])
  go_wp2_with fail
  go_ret
  exact ⟨rfl, B8.out⟩
end Go.Proofs.YtohgdmlpffeoiaaGreatDoor
namespace Go.Proofs.YtohgdmlpffeoiaaGreatDoor
open Go.RowKit
open Wd (Bs)

theorem empty_of {l : Bs} : (ByteArray.mk l.toArray).toList.isEmpty = l.isEmpty := by rw [Lib.toList_data]
theorem lawAmountBack (k n c : Int) (f : Fil.Flt) (fs : ByteArray) (hf : f.sub = fs.data.toList) (hs : fs.size ≤ maxLen) (w : World) (hE : EnvA w) :
    Calls Tryz.prog 5 #[.agg (cells3 k n c (cellsF f fs))] w fun e w' => e = .returned (.bool true) ∧ Below w.heap.size w w' := by
  have HL : Hid (∀ W, Below w.heap.size w W → Calls Tryz.prog 8 #[] W fun e w' => e = .returned (.bool true) ∧ Below W.heap.size W w') := Lib.hid fun W hb => amtAlive W (hE.below hb)
  by_cases hl : (100 : Int) < (fs.size : Int)
  · exact backLong k n c f fs w HL hl
  have HT : Hid (∀ W, Below w.heap.size w W → _) := Lib.hid fun W hb => amtText k n c f fs hf hs W (hE.below hb)
  have HI : Hid (∀ W, Below w.heap.size w W → _) := Lib.hid fun W hb => amtIs k n c f fs hf hs W (hE.below hb)
  have hfs : fs = fsOf f := fs_eq hf
  cases hv : Amt.okB ⟨k, n, c, f⟩ with
  | true =>
    rw [hv] at HI
    have hp := p_text hv
    have hlen : (Amt.textA ⟨k, n, c, f⟩).length ≤ 1000000 := by
      rw [Amt.textA_ok hv]
      rcases Amt.ok_cases hv with ⟨m, h1, h⟩ | ⟨m, h0, h1, hvf, h⟩ | ⟨m, h1, h⟩ | ⟨m, h1, h⟩
      · rw [h, Amt.raw_const]; exact Nat.le_trans (itoa_len (by omega) (by omega)) (by decide)
      · rw [h, Amt.raw_count]
        have h3 := textF_len hvf
        have h4 := itoa_len (n := (m : Int)) (by omega) (by omega)
        split <;> simp [Amt.cnt, Amt.sCount] <;> simp only at h3 <;> omega
      · rw [h, Amt.raw_ctr]
        have h4 := ctr_len m h1
        simp [Amt.sCtrs]
        omega
      · rw [h, Amt.raw_word h1]
        rcases h1 with rfl | rfl | rfl | rfl | rfl <;> decide
    refine backTrue k n c f fs ⟨(Amt.textA ⟨k, n, c, f⟩).toArray⟩ w HL hl HT HI (Lib.hid fun W hb => ?_) ?_ (fun W => run_eq_amt_self k n c f fs hf W)
    · have := amtParse ⟨(Amt.textA ⟨k, n, c, f⟩).toArray⟩ (by rw [size_of]; exact hlen) W (hE.below hb)
      rw [show (ByteArray.mk (Amt.textA ⟨k, n, c, f⟩).toArray).data.toList = Amt.textA ⟨k, n, c, f⟩ from rfl, hp.1, hp.2] at this
      rw [hfs]
      exact this
    · rw [empty_of]
      cases ht : Amt.textA ⟨k, n, c, f⟩ with
      | nil => rw [Amt.textA_nil.1 ht] at hv; cases hv
      | cons _ _ => rfl
  | false =>
    rw [hv] at HI
    have ht := Amt.textA_bad hv
    rw [ht] at HT
    have hp := p_no p_nil
    refine backFalse k n c f fs ⟨#[]⟩ w HL hl HT HI (Lib.hid fun W hb => ?_) (empty_of (l := []))
    have := amtParse ⟨#[]⟩ (by decide) W (hE.below hb)
    rw [show (ByteArray.mk #[]).data.toList = [] from rfl, hp.1, hp.2] at this
    exact this
theorem p_sub (s : Bs) : (Amt.pV s).f.sub.length ≤ 32 := by
  unfold Amt.pV
  split
  · exact read_sub s
  · exact zero_le
theorem lawAmountTexts (s : ByteArray) (w : World) (hE : EnvA w) :
    Calls Tryz.prog 6 #[.string s] w fun e w' => e = .returned (.bool true) ∧ Below w.heap.size w w' := by
  have HL : Hid (∀ W, Below w.heap.size w W → Calls Tryz.prog 8 #[] W fun e w' => e = .returned (.bool true) ∧ Below W.heap.size W w') := Lib.hid fun W hb => amtAlive W (hE.below hb)
  by_cases hl : (1000 : Int) < (s.size : Int)
  · exact textsLong s w HL hl
  have HP : Hid (∀ W, Below w.heap.size w W → _) := Lib.hid fun W hb => amtParse s (by omega) W (hE.below hb)
  cases hb : Amt.pB s.data.toList with
  | true =>
    obtain ⟨h1, h2, h3⟩ := p_yes hb
    obtain ⟨a, ha⟩ : ∃ a, Amt.pV s.data.toList = a := ⟨_, rfl⟩
    have hsub := p_sub s.data.toList
    rw [ha] at h1 h2 HP hsub
    rw [h3] at HP
    have hfs : (fsOf a.f).size ≤ maxLen := by
      have : (fsOf a.f).size = a.f.sub.length := size_of _
      unfold maxLen
      omega
    have HI : Hid (∀ W, Below w.heap.size w W → _) := Lib.hid fun W hb => amtIs a.k a.n a.c a.f _ (fsOf_sub _) hfs W (hE.below hb)
    have HT : Hid (∀ W, Below w.heap.size w W → _) := Lib.hid fun W hb => amtText a.k a.n a.c a.f _ (fsOf_sub _) hfs W (hE.below hb)
    rw [show Amt.okB ⟨a.k, a.n, a.c, a.f⟩ = true from h1] at HI
    refine textsGood a.k a.n a.c a.f (fsOf a.f) s ⟨(Amt.textA a).toArray⟩ w HL hl HP HI HT ?_
    rw [Lib.toList_data, Lib.toList_data, h2]
    simp
  | false =>
    obtain ⟨h1, h2⟩ := p_no hb
    rw [h1, h2] at HP
    exact textsBad s w HL hl HP (fun W => run_eq_amt_self 0 0 0 Fil.zero ⟨#[]⟩ rfl W)
theorem okB_c {k n c : Int} {f : Fil.Flt} (hk : k ≠ 4) (hc : c ≠ 0) : Amt.okB ⟨k, n, c, f⟩ = false := by
  cases h : Amt.okB ⟨k, n, c, f⟩ with
  | false => rfl
  | true =>
    rcases Amt.ok_cases h with ⟨m, h1, h⟩ | ⟨m, h0, h1, hvf, h⟩ | ⟨m, h1, h⟩ | ⟨m, h1, h⟩ <;> rw [Amt.Amt.mk.injEq] at h <;> omega
theorem okB_n {k n c : Int} {f : Fil.Flt} (hk : k ≠ 0) (hk2 : k ≠ 2) (hn : n ≠ 0) : Amt.okB ⟨k, n, c, f⟩ = false := by
  cases h : Amt.okB ⟨k, n, c, f⟩ with
  | false => rfl
  | true =>
    rcases Amt.ok_cases h with ⟨m, h1, h⟩ | ⟨m, h0, h1, hvf, h⟩ | ⟨m, h1, h⟩ | ⟨m, h1, h⟩ <;> rw [Amt.Amt.mk.injEq] at h <;> omega
set_option maxHeartbeats 2000000 in
theorem lawAmountUnused (k n c : Int) (f : Fil.Flt) (fs : ByteArray) (m : Int) (hf : f.sub = fs.data.toList) (hs : fs.size ≤ maxLen) (lo : 0 ≤ m) (hi : m ≤ 255) (w : World) (hE : EnvA w) :
    Calls Tryz.prog 7 #[.agg (cells3 k n c (cellsF f fs)), .int .u8 m] w fun e w' => e = .returned (.bool true) ∧ Below w.heap.size w w' := by
  have HL : Hid (∀ W, Below w.heap.size w W → Calls Tryz.prog 8 #[] W fun e w' => e = .returned (.bool true) ∧ Below W.heap.size W w') := Lib.hid fun W hb => amtAlive W (hE.below hb)
  by_cases hl : (100 : Int) < (fs.size : Int)
  · exact unusedLong k n c f fs m w HL hl
  have HI : Hid (∀ W, Below w.heap.size w W → Calls Tryz.prog 9 #[.agg (cells3 k n c (cellsF f fs))] W fun e w' => e = .returned (.bool (Amt.okB ⟨k, n, c, f⟩)) ∧ Below W.heap.size W w') := Lib.hid fun W hb => amtIs k n c f fs hf hs W (hE.below hb)
  have HN : ∀ k' n' c', Amt.okB ⟨k', n', c', f⟩ = false → Hid (∀ W, Below w.heap.size w W → Calls Tryz.prog 9 #[.agg (cells3 k' n' c' (cellsF f fs))] W fun e w' => e = .returned (.bool false) ∧ Below W.heap.size W w') :=
    fun k' n' c' h => Lib.hid fun W hb => by
      have := amtIs k' n' c' f fs hf hs W (hE.below hb)
      rw [h] at this
      exact this
  have HT : ∀ k' n' c', Amt.okB ⟨k', n', c', f⟩ = false → Hid (∀ W, Below w.heap.size w W → Calls Tryz.prog 11 #[.agg (cells3 k' n' c' (cellsF f fs))] W fun e w' => e = .returned (.string ⟨#[]⟩) ∧ Below W.heap.size W w') :=
    fun k' n' c' h => Lib.hid fun W hb => by
      have := amtText k' n' c' f fs hf hs W (hE.below hb)
      rw [Amt.textA_bad h] at this
      exact this
  cases hv : Amt.okB ⟨k, n, c, f⟩ with
  | false =>
    rw [hv] at HI
    exact unusedBad k n c f fs m w HL hl HI
  | true =>
    rw [hv] at HI
    by_cases h0 : k = 0
    · subst h0
      have hq : Amt.okB ⟨0, n, 1 + m.tmod 2, f⟩ = false := okB_c (by decide) (by rw [Int.tmod_eq_emod_of_nonneg lo]; omega)
      exact unusedConst n c f fs m _ w HL hl HI (HN _ _ _ hq) (HT _ _ _ hq) (IntWalk.i64_in _ (by omega)) (IntWalk.i64_in _ (by rw [Int.tmod_eq_emod_of_nonneg lo]; omega)) rfl
    by_cases h2 : k = 2
    · subst h2
      have hq : Amt.okB ⟨2, n, 2, f⟩ = false := okB_c (by decide) (by decide)
      exact unusedCount n c f fs m w HL hl HI (HN _ _ _ hq) (HT _ _ _ hq)
    by_cases h4 : k = 4
    · subst h4
      have hq : Amt.okB ⟨4, 1 + m, c, f⟩ = false := okB_n (by decide) (by decide) (by omega)
      exact unusedCtr n c f fs m _ w HL hl HI (HN _ _ _ hq) (HT _ _ _ hq) (IntWalk.i64_in _ (by omega)) (IntWalk.i64_in _ (by omega)) rfl
    · have hq : Amt.okB ⟨k, 1 + m, c, f⟩ = false := okB_n h0 h2 (by omega)
      exact unusedWord k n c f fs m _ w HL hl HI (HN _ _ _ hq) (HT _ _ _ hq) (IntWalk.i64_in _ (by omega)) (IntWalk.i64_in _ (by omega)) rfl (by simpa using h0) (by simpa using h2) (by simpa using h4)
end Go.Proofs.YtohgdmlpffeoiaaGreatDoor
