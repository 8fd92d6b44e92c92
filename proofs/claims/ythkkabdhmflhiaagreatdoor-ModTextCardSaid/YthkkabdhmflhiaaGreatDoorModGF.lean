/-
  MERGED: AlvSW, AlvS. By an AI agent.
-/
import Derived.Test.YthkkabdhmflhiaaGreatDoorModGB
import Derived.Test.YthkkabdhmflhiaaGreatDoorModGE
import Derived.Lib.SliceRun
import Derived.Deep.Cut
import Derived.StillTailTactics
import Derived.Test.YthkkabdhmflhiaaGreatDoorModGD
namespace Go.Proofs.YthkkabdhmflhiaaGreatDoor
open Go.RowKit
open Wd (Bs)

set_option maxHeartbeats 8000000 in
set_option maxRecDepth 100000 in
theorem rdS13 (r p t : ByteArray) (c d e2 : Bool) (x y : Int) (w : World)
    (HC : Hid (∀ W, Below w.heap.size w W → Calls Tryz.prog 46 #[.string r, .string ⟨#[47]⟩] W fun e w' => e = .returned (.tuple #[.string p, .string t, .bool c]) ∧ Below W.heap.size W w')) (HP : Hid (∀ W, Below w.heap.size w W → Calls Tryz.prog 133 #[.string p] W fun e w' => e = .returned (.tuple #[.int .i64 x, .bool d]) ∧ Below W.heap.size W w')) (HT : Hid (∀ W, Below w.heap.size w W → Calls Tryz.prog 133 #[.string t] W fun e w' => e = .returned (.tuple #[.int .i64 y, .bool e2]) ∧ Below W.heap.size W w')) :
    Calls Tryz.prog 88 #[.int .i64 13, .string r] w fun e w' => e = .returned (.agg (mO 13 x y ⟨#[]⟩ cellsZ)) ∧ Below w.heap.size w w' := by

  have B0 := Lib.hid (Below.refl w.heap.size w)
  go_enter Tryz.func88, Tryz.ntmps88
  go_upto_region 0 with fail
  refine wp_region_lit ?_
  obtain ⟨w1, hw⟩ : ∃ v, v = w.alloc (.cells (mO 0 0 0 ⟨#[]⟩ cellsZ) 27) := ⟨_, rfl⟩
  obtain ⟨pR, hp⟩ : ∃ v, v = w.heap.size := ⟨_, rfl⟩
  have B1 : Hid (Below w.heap.size w w1) := Lib.hid (by rw [hw]; exact B0.out.alloc B0.out.size _)
  have LER : Hid (w.heap.size ≤ pR) := Lib.hid (by rw [hp]; exact B0.out.size)
  have KR1 : Hid (Blk w1 pR (mO 0 0 0 ⟨#[]⟩ cellsZ) 27) := Lib.hid (by rw [hw, hp]; exact Blk.new _ _ _)
  with_reducible refine wpList_runWV (some 4) (v := .pointer (some ⟨pR, 0, none⟩)) (w' := w1) ?_ ?_ ?_ ?_
  · rfl
  · rfl
  · rw [hw, hp]; (go_simp; (try rfl))
  simp only [pu, sB, s0, sS]
  clear hw hp
  clear B0
  go_upto_region 1 with fail
  refine wp_region_lit ?_
  (with_reducible refine rN (v := ?_) ?_ ?_ ?_); rotate_left; (· rfl); (· go_simp; (try with_reducible rfl)); simp only [pu, sB, s0, sS]
  (with_reducible refine rN (v := .agg (mO 13 0 0 ⟨#[]⟩ cellsZ)) ?_ ?_ ?_); (· rfl); (· refine run_buildOp _ [(0, .int .i64 13)] rfl ?_ (built_kind 13); rfl); simp only [pu, sB, s0, sS]
  obtain ⟨w2, hw⟩ : ∃ v, v = w1.alloc (.cells (mO 0 0 0 ⟨#[]⟩ cellsZ) 27) := ⟨_, rfl⟩
  obtain ⟨pM, hp⟩ : ∃ v, v = w1.heap.size := ⟨_, rfl⟩
  have B2 : Hid (Below w.heap.size w w2) := Lib.hid (by rw [hw]; exact B1.out.alloc B1.out.size _)
  have LEM : Hid (w.heap.size ≤ pM) := Lib.hid (by rw [hp]; exact B1.out.size)
  have KR2 := Lib.hid (show Blk w2 pR (mO 0 0 0 ⟨#[]⟩ cellsZ) 27 by rw [hw]; exact KR1.out.alloc _)
  have NERM : Hid (pR ≠ pM) := Lib.hid (by rw [hp]; exact Nat.ne_of_lt KR1.out.lt)
  have NEMR : Hid (pM ≠ pR) := Lib.hid (Ne.symm NERM.out)
  have KM2 : Hid (Blk w2 pM (mO 0 0 0 ⟨#[]⟩ cellsZ) 27) := Lib.hid (by rw [hw, hp]; exact Blk.new _ _ _)
  with_reducible refine wpList_runWV (some 5) (v := .pointer (some ⟨pM, 0, none⟩)) (w' := w2) ?_ ?_ ?_ ?_
  · rfl
  · rfl
  · rw [hw, hp]; (go_simp; (try rfl))
  simp only [pu, sB, s0, sS]
  clear hw hp
  clear B1 KR1
  have KM3 := Lib.hid (KM2.out.stored (o := 0) (vs := (mO 13 0 0 ⟨#[]⟩ cellsZ).toList) (cs' := (mO 13 0 0 ⟨#[]⟩ cellsZ)) (laid_all (mO_sz cellsZ_size) (mO_sz cellsZ_size)))
  have KR3 := Lib.hid (KR2.out.wholeElse ((mO 13 0 0 ⟨#[]⟩ cellsZ).toList) (o := 0) NERM.out)
  have B3 := Lib.hid (below_whole ((mO 13 0 0 ⟨#[]⟩ cellsZ).toList) (o := 0) B2.out LEM.out)
  with_reducible refine wpList_storeM (.tmp 5) (.tmp 10) (o := 0) (vs := (mO 13 0 0 ⟨#[]⟩ cellsZ)) ?_ ?_ KM2.out ?_ (infoTMo20 (mO_sz cellsZ_size)) (mO_one cellsZ_one) ?_
  · rfl
  · rfl
  · exact (fit_2 (mO_sz cellsZ_size) (mO_sz cellsZ_size) (by decide))
  (try simp only [Act.put])
  generalize World.setCells _ _ _ _ = w3 at KR3 KM3 B3 ⊢
  clear B2 KR2 KM2
  go_upto_region 2 with fail
  refine wp_region_lit ?_
  (with_reducible refine rN (v := ?_) ?_ ?_ ?_); rotate_left; (· rfl); (· go_simp; (try with_reducible rfl)); simp only [pu, sB, s0, sS]
  go_upto_region 3 with fail
  refine wp_region_lit ?_
  iterate 2 ((with_reducible refine rN (v := .bool false) ?_ ?_ ?_); (· rfl); (· go_simp; (try with_reducible rfl)); simp only [pu, sB, s0, sS])
  go_upto_region 4 with fail
  refine wp_region_lit ?_
  iterate 2 ((with_reducible refine rN (v := .bool false) ?_ ?_ ?_); (· rfl); (· go_simp; (try with_reducible rfl)); simp only [pu, sB, s0, sS])
  go_upto_region 6 with fail
  refine wp_region_lit ?_
  iterate 2 ((with_reducible refine rN (v := .bool false) ?_ ?_ ?_); (· rfl); (· go_simp; (try with_reducible rfl)); simp only [pu, sB, s0, sS])
  go_upto_region 7 with fail
  refine wp_region_lit ?_
  iterate 2 ((with_reducible refine rN (v := .bool false) ?_ ?_ ?_); (· rfl); (· go_simp; (try with_reducible rfl)); simp only [pu, sB, s0, sS])
  go_upto_region 9 with fail
  refine wp_region_lit ?_
  iterate 2 ((with_reducible refine rN (v := .bool false) ?_ ?_ ?_); (· rfl); (· go_simp; (try with_reducible rfl)); simp only [pu, sB, s0, sS])
  go_upto_region 10 with fail
  refine wp_region_lit ?_
  iterate 2 ((with_reducible refine rN (v := .bool false) ?_ ?_ ?_); (· rfl); (· go_simp; (try with_reducible rfl)); simp only [pu, sB, s0, sS])
  go_upto_region 12 with fail
  refine wp_region_lit ?_
  iterate 2 ((with_reducible refine rN (v := .bool false) ?_ ?_ ?_); (· rfl); (· go_simp; (try with_reducible rfl)); simp only [pu, sB, s0, sS])
  go_upto_region 13 with fail
  refine wp_region_lit ?_
  iterate 2 ((with_reducible refine rN (v := .bool false) ?_ ?_ ?_); (· rfl); (· go_simp; (try with_reducible rfl)); simp only [pu, sB, s0, sS])
  go_upto_region 15 with fail
  refine wp_region_lit ?_
  iterate 2 ((with_reducible refine rN (v := .bool false) ?_ ?_ ?_); (· rfl); (· go_simp; (try with_reducible rfl)); simp only [pu, sB, s0, sS])
  go_upto_region 17 with fail
  refine wp_region_lit ?_
  iterate 2 ((with_reducible refine rN (v := .bool false) ?_ ?_ ?_); (· rfl); (· go_simp; (try with_reducible rfl)); simp only [pu, sB, s0, sS])
  go_upto_region 18 with fail
  refine wp_region_lit ?_
  iterate 2 ((with_reducible refine rN (v := .bool true) ?_ ?_ ?_); (· rfl); (· go_simp; (try with_reducible rfl)); simp only [pu, sB, s0, sS])
  go_upto_region 19 with fail
  refine wp_region_lit ?_
  (with_reducible refine rN (v := ?_) ?_ ?_ ?_); rotate_left; (· rfl); (· go_simp; (try with_reducible rfl)); simp only [pu, sB, s0, sS]
  go_wp2_with fail
  refine (HC.out _ B3.out).mono ?_
  rintro e w4 ⟨rfl, hb⟩
  have B4 := Lib.hid (B3.out.trans (hb.mono B3.out.size))
  have KR4 := Lib.hid (KR3.out.below hb KR3.out.lt)
  have KM4 := Lib.hid (KM3.out.below hb KM3.out.lt)
  clear hb
  clear B3 KR3 KM3
  go_simp
  rename_i hKK
  refine hKK _ _ ?_
  clear hKK
  try simp only [pu, sB, s0, sS]
  iterate 7 ((with_reducible refine rN (v := ?_) ?_ ?_ ?_); rotate_left; (· rfl); (· go_simp; (try with_reducible rfl)); simp only [pu, sB, s0, sS])
  go_upto_region 20 with fail
  refine wp_region_lit ?_
  (with_reducible refine rN (v := ?_) ?_ ?_ ?_); rotate_left; (· rfl); (· go_simp; (try with_reducible rfl)); simp only [pu, sB, s0, sS]
  go_wp2_with fail
  refine (HP.out _ B4.out).mono ?_
  rintro e w5 ⟨rfl, hb⟩
  have B5 := Lib.hid (B4.out.trans (hb.mono B4.out.size))
  have KR5 := Lib.hid (KR4.out.below hb KR4.out.lt)
  have KM5 := Lib.hid (KM4.out.below hb KM4.out.lt)
  clear hb
  clear B4 KR4 KM4
  go_simp
  rename_i hKK
  refine hKK _ _ ?_
  clear hKK
  try simp only [pu, sB, s0, sS]
  iterate 3 ((with_reducible refine rN (v := ?_) ?_ ?_ ?_); rotate_left; (· rfl); (· go_simp; (try with_reducible rfl)); simp only [pu, sB, s0, sS])
  (with_reducible refine rN (v := .pointer (some ⟨pM, 1, none⟩)) ?_ ?_ ?_); (· rfl); (· go_simp; (try rfl)); simp only [pu, sB, s0, sS]
  have KM6 := Lib.hid (KM5.out.stored (o := 1) (vs := [.int .i64 x]) (cs' := (mO 13 x 0 ⟨#[]⟩ cellsZ)) (mO_p1))
  have KR6 := Lib.hid (KR5.out.wholeElse ([.int .i64 x]) (o := 1) NERM.out)
  have B6 := Lib.hid (below_whole ([.int .i64 x]) (o := 1) B5.out LEM.out)
  with_reducible refine wpList_storeV (.tmp 67) (.tmp 65) (j := 1) (v := .int .i64 x) ?_ ?_ KM5.out ?_ (by kernel_rfl) (by simp [Value.oneCell']) ?_
  · rfl
  · rfl
  · exact (fit_1 (mO_sz cellsZ_size) (by decide))
  (try simp only [Act.put])
  generalize World.setCells _ _ _ _ = w6 at KR6 KM6 B6 ⊢
  clear B5 KR5 KM5
  go_upto_region 21 with fail
  refine wp_region_lit ?_
  (with_reducible refine rN (v := ?_) ?_ ?_ ?_); rotate_left; (· rfl); (· go_simp; (try with_reducible rfl)); simp only [pu, sB, s0, sS]
  go_wp2_with fail
  refine (HT.out _ B6.out).mono ?_
  rintro e w7 ⟨rfl, hb⟩
  have B7 := Lib.hid (B6.out.trans (hb.mono B6.out.size))
  have KR7 := Lib.hid (KR6.out.below hb KR6.out.lt)
  have KM7 := Lib.hid (KM6.out.below hb KM6.out.lt)
  clear hb
  clear B6 KR6 KM6
  go_simp
  rename_i hKK
  refine hKK _ _ ?_
  clear hKK
  try simp only [pu, sB, s0, sS]
  iterate 3 ((with_reducible refine rN (v := ?_) ?_ ?_ ?_); rotate_left; (· rfl); (· go_simp; (try with_reducible rfl)); simp only [pu, sB, s0, sS])
  (with_reducible refine rN (v := .pointer (some ⟨pM, 2, none⟩)) ?_ ?_ ?_); (· rfl); (· go_simp; (try rfl)); simp only [pu, sB, s0, sS]
  have KM8 := Lib.hid (KM7.out.stored (o := 2) (vs := [.int .i64 y]) (cs' := (mO 13 x y ⟨#[]⟩ cellsZ)) (mO_p2))
  have KR8 := Lib.hid (KR7.out.wholeElse ([.int .i64 y]) (o := 2) NERM.out)
  have B8 := Lib.hid (below_whole ([.int .i64 y]) (o := 2) B7.out LEM.out)
  with_reducible refine wpList_storeV (.tmp 73) (.tmp 71) (j := 2) (v := .int .i64 y) ?_ ?_ KM7.out ?_ (by kernel_rfl) (by simp [Value.oneCell']) ?_
  · rfl
  · rfl
  · exact (fit_1 (mO_sz cellsZ_size) (by decide))
  (try simp only [Act.put])
  generalize World.setCells _ _ _ _ = w8 at KR8 KM8 B8 ⊢
  clear B7 KR7 KM7
  go_upto_region 22 with fail
  refine wp_region_lit ?_
  with_reducible refine wpList_loadS (.tmp 5) ?_ ?_ KM8.out Tryz.underlying27 ?_ (infoTMo20 (mO_sz cellsZ_size)) ?_
  · rfl
  · rfl
  · rfl
  simp only [pu, sB, s0, sS]
  have KR9 := Lib.hid (KR8.out.stored (o := 0) (vs := (mO 13 x y ⟨#[]⟩ cellsZ).toList) (cs' := (mO 13 x y ⟨#[]⟩ cellsZ)) (laid_all (mO_sz cellsZ_size) (mO_sz cellsZ_size)))
  have KM9 := Lib.hid (KM8.out.wholeElse ((mO 13 x y ⟨#[]⟩ cellsZ).toList) (o := 0) NEMR.out)
  have B9 := Lib.hid (below_whole ((mO 13 x y ⟨#[]⟩ cellsZ).toList) (o := 0) B8.out LER.out)
  with_reducible refine wpList_storeM (.tmp 4) (.tmp 74) (o := 0) (vs := (mO 13 x y ⟨#[]⟩ cellsZ)) ?_ ?_ KR8.out ?_ (infoTMo20 (mO_sz cellsZ_size)) (mO_one cellsZ_one) ?_
  · rfl
  · rfl
  · exact (fit_2 (mO_sz cellsZ_size) (mO_sz cellsZ_size) (by decide))
  (try simp only [Act.put])
  generalize World.setCells _ _ _ _ = w9 at KR9 KM9 B9 ⊢
  clear B8 KR8 KM8
  have hL := KR9.out.readS Tryz.underlying27 rfl (infoTMo20 (mO_sz cellsZ_size))
  go_wp2_with fail
  exact bodyPost_ret (v := .agg (mO 13 x y ⟨#[]⟩ cellsZ)) (results_cell Tryz.results88 (by rfl) hL) rfl ⟨rfl, B9.out⟩

set_option maxHeartbeats 8000000 in
set_option maxRecDepth 100000 in
theorem rdSk (k : Int) (r : ByteArray) (w : World)
    (h2 : (k == 2) = false) (h3 : (k == 3) = false) (h4 : (k == 4) = false) (h5 : (k == 5) = false) (h6 : (k == 6) = false) (h7 : (k == 7) = false) (h8 : (k == 8) = false) (h9 : (k == 9) = false) (h11 : (k == 11) = false) (h12 : (k == 12) = false) (h13 : (k == 13) = false) :
    Calls Tryz.prog 88 #[.int .i64 k, .string r] w fun e w' => e = .returned (.agg (mO k 0 0 ⟨#[]⟩ cellsZ)) ∧ Below w.heap.size w w' := by

  have B0 := Lib.hid (Below.refl w.heap.size w)
  go_enter Tryz.func88, Tryz.ntmps88
  go_upto_region 0 with fail
  refine wp_region_lit ?_
  obtain ⟨w1, hw⟩ : ∃ v, v = w.alloc (.cells (mO 0 0 0 ⟨#[]⟩ cellsZ) 27) := ⟨_, rfl⟩
  obtain ⟨pR, hp⟩ : ∃ v, v = w.heap.size := ⟨_, rfl⟩
  have B1 : Hid (Below w.heap.size w w1) := Lib.hid (by rw [hw]; exact B0.out.alloc B0.out.size _)
  have LER : Hid (w.heap.size ≤ pR) := Lib.hid (by rw [hp]; exact B0.out.size)
  have KR1 : Hid (Blk w1 pR (mO 0 0 0 ⟨#[]⟩ cellsZ) 27) := Lib.hid (by rw [hw, hp]; exact Blk.new _ _ _)
  with_reducible refine wpList_runWV (some 4) (v := .pointer (some ⟨pR, 0, none⟩)) (w' := w1) ?_ ?_ ?_ ?_
  · rfl
  · rfl
  · rw [hw, hp]; (go_simp; (try rfl))
  simp only [pu, sB, s0, sS]
  clear hw hp
  clear B0
  go_upto_region 1 with fail
  refine wp_region_lit ?_
  (with_reducible refine rN (v := ?_) ?_ ?_ ?_); rotate_left; (· rfl); (· go_simp; (try with_reducible rfl)); simp only [pu, sB, s0, sS]
  (with_reducible refine rN (v := .agg (mO k 0 0 ⟨#[]⟩ cellsZ)) ?_ ?_ ?_); (· rfl); (· refine run_buildOp _ [(0, .int .i64 k)] rfl ?_ (built_kind k); rfl); simp only [pu, sB, s0, sS]
  obtain ⟨w2, hw⟩ : ∃ v, v = w1.alloc (.cells (mO 0 0 0 ⟨#[]⟩ cellsZ) 27) := ⟨_, rfl⟩
  obtain ⟨pM, hp⟩ : ∃ v, v = w1.heap.size := ⟨_, rfl⟩
  have B2 : Hid (Below w.heap.size w w2) := Lib.hid (by rw [hw]; exact B1.out.alloc B1.out.size _)
  have LEM : Hid (w.heap.size ≤ pM) := Lib.hid (by rw [hp]; exact B1.out.size)
  have KR2 := Lib.hid (show Blk w2 pR (mO 0 0 0 ⟨#[]⟩ cellsZ) 27 by rw [hw]; exact KR1.out.alloc _)
  have NERM : Hid (pR ≠ pM) := Lib.hid (by rw [hp]; exact Nat.ne_of_lt KR1.out.lt)
  have NEMR : Hid (pM ≠ pR) := Lib.hid (Ne.symm NERM.out)
  have KM2 : Hid (Blk w2 pM (mO 0 0 0 ⟨#[]⟩ cellsZ) 27) := Lib.hid (by rw [hw, hp]; exact Blk.new _ _ _)
  with_reducible refine wpList_runWV (some 5) (v := .pointer (some ⟨pM, 0, none⟩)) (w' := w2) ?_ ?_ ?_ ?_
  · rfl
  · rfl
  · rw [hw, hp]; (go_simp; (try rfl))
  simp only [pu, sB, s0, sS]
  clear hw hp
  clear B1 KR1
  have KM3 := Lib.hid (KM2.out.stored (o := 0) (vs := (mO k 0 0 ⟨#[]⟩ cellsZ).toList) (cs' := (mO k 0 0 ⟨#[]⟩ cellsZ)) (laid_all (mO_sz cellsZ_size) (mO_sz cellsZ_size)))
  have KR3 := Lib.hid (KR2.out.wholeElse ((mO k 0 0 ⟨#[]⟩ cellsZ).toList) (o := 0) NERM.out)
  have B3 := Lib.hid (below_whole ((mO k 0 0 ⟨#[]⟩ cellsZ).toList) (o := 0) B2.out LEM.out)
  with_reducible refine wpList_storeM (.tmp 5) (.tmp 10) (o := 0) (vs := (mO k 0 0 ⟨#[]⟩ cellsZ)) ?_ ?_ KM2.out ?_ (infoTMo20 (mO_sz cellsZ_size)) (mO_one cellsZ_one) ?_
  · rfl
  · rfl
  · exact (fit_2 (mO_sz cellsZ_size) (mO_sz cellsZ_size) (by decide))
  (try simp only [Act.put])
  generalize World.setCells _ _ _ _ = w3 at KR3 KM3 B3 ⊢
  clear B2 KR2 KM2
  go_upto_region 2 with fail
  refine wp_region_lit ?_
  (with_reducible refine rN (v := ?_) ?_ ?_ ?_); rotate_left; (· rfl); (· go_simp; (try with_reducible rfl)); simp only [pu, sB, s0, sS]
  go_upto_region 3 with fail
  refine wp_region_lit ?_
  iterate 2 ((with_reducible refine rN (v := .bool false) ?_ ?_ ?_); (· rfl); (· go_simp; (try with_reducible rfl)); simp only [pu, sB, s0, sS])
  go_upto_region 4 with fail
  refine wp_region_lit ?_
  iterate 2 ((with_reducible refine rN (v := .bool false) ?_ ?_ ?_); (· rfl); (· go_simp; (try with_reducible rfl)); simp only [pu, sB, s0, sS])
  go_upto_region 6 with fail
  refine wp_region_lit ?_
  iterate 2 ((with_reducible refine rN (v := .bool false) ?_ ?_ ?_); (· rfl); (· go_simp; (try with_reducible rfl)); simp only [pu, sB, s0, sS])
  go_upto_region 7 with fail
  refine wp_region_lit ?_
  iterate 2 ((with_reducible refine rN (v := .bool false) ?_ ?_ ?_); (· rfl); (· go_simp; (try with_reducible rfl)); simp only [pu, sB, s0, sS])
  go_upto_region 9 with fail
  refine wp_region_lit ?_
  iterate 2 ((with_reducible refine rN (v := .bool false) ?_ ?_ ?_); (· rfl); (· go_simp; (try with_reducible rfl)); simp only [pu, sB, s0, sS])
  go_upto_region 10 with fail
  refine wp_region_lit ?_
  iterate 2 ((with_reducible refine rN (v := .bool false) ?_ ?_ ?_); (· rfl); (· go_simp; (try with_reducible rfl)); simp only [pu, sB, s0, sS])
  go_upto_region 12 with fail
  refine wp_region_lit ?_
  iterate 2 ((with_reducible refine rN (v := .bool false) ?_ ?_ ?_); (· rfl); (· go_simp; (try with_reducible rfl)); simp only [pu, sB, s0, sS])
  go_upto_region 13 with fail
  refine wp_region_lit ?_
  iterate 2 ((with_reducible refine rN (v := .bool false) ?_ ?_ ?_); (· rfl); (· go_simp; (try with_reducible rfl)); simp only [pu, sB, s0, sS])
  go_upto_region 15 with fail
  refine wp_region_lit ?_
  iterate 2 ((with_reducible refine rN (v := .bool false) ?_ ?_ ?_); (· rfl); (· go_simp; (try with_reducible rfl)); simp only [pu, sB, s0, sS])
  go_upto_region 17 with fail
  refine wp_region_lit ?_
  iterate 2 ((with_reducible refine rN (v := .bool false) ?_ ?_ ?_); (· rfl); (· go_simp; (try with_reducible rfl)); simp only [pu, sB, s0, sS])
  go_upto_region 18 with fail
  refine wp_region_lit ?_
  iterate 2 ((with_reducible refine rN (v := .bool false) ?_ ?_ ?_); (· rfl); (· go_simp; (try with_reducible rfl)); simp only [pu, sB, s0, sS])
  go_upto_region 22 with fail
  refine wp_region_lit ?_
  with_reducible refine wpList_loadS (.tmp 5) ?_ ?_ KM3.out Tryz.underlying27 ?_ (infoTMo20 (mO_sz cellsZ_size)) ?_
  · rfl
  · rfl
  · rfl
  simp only [pu, sB, s0, sS]
  have KR4 := Lib.hid (KR3.out.stored (o := 0) (vs := (mO k 0 0 ⟨#[]⟩ cellsZ).toList) (cs' := (mO k 0 0 ⟨#[]⟩ cellsZ)) (laid_all (mO_sz cellsZ_size) (mO_sz cellsZ_size)))
  have KM4 := Lib.hid (KM3.out.wholeElse ((mO k 0 0 ⟨#[]⟩ cellsZ).toList) (o := 0) NEMR.out)
  have B4 := Lib.hid (below_whole ((mO k 0 0 ⟨#[]⟩ cellsZ).toList) (o := 0) B3.out LER.out)
  with_reducible refine wpList_storeM (.tmp 4) (.tmp 74) (o := 0) (vs := (mO k 0 0 ⟨#[]⟩ cellsZ)) ?_ ?_ KR3.out ?_ (infoTMo20 (mO_sz cellsZ_size)) (mO_one cellsZ_one) ?_
  · rfl
  · rfl
  · exact (fit_2 (mO_sz cellsZ_size) (mO_sz cellsZ_size) (by decide))
  (try simp only [Act.put])
  generalize World.setCells _ _ _ _ = w4 at KR4 KM4 B4 ⊢
  clear B3 KR3 KM3
  have hL := KR4.out.readS Tryz.underlying27 rfl (infoTMo20 (mO_sz cellsZ_size))
  go_wp2_with fail
  exact bodyPost_ret (v := .agg (mO k 0 0 ⟨#[]⟩ cellsZ)) (results_cell Tryz.results88 (by rfl) hL) rfl ⟨rfl, B4.out⟩

set_option maxRecDepth 100000 in
theorem nilStr (w : World) : Calls Tryz.prog 99 #[.slice none 0 0] w fun e w' => e = .returned (.slice none 0 0) ∧ Below w.heap.size w w' := by
  have q : ∀ (w : World) (a : Option Addr) (n c n' c' : Nat), (binOp .eql 45 (.slice a n c) (.slice none n' c')).run Tryz.prog w = .ok (.bool a.isNone) w := fun w a n c n' c' => Lib.run_eql_slice_nil w _ _ a n c n' c' Tryz.underlying45
  go_enter Tryz.func99, Tryz.ntmps99
  go_wp2
  go_ret
  exact ⟨rfl, Below.refl _ _⟩

set_option maxRecDepth 100000 in
theorem nilAb (w : World) : Calls Tryz.prog 141 #[.slice none 0 0] w fun e w' => e = .returned (.slice none 0 0) ∧ Below w.heap.size w w' := by
  have q : ∀ (w : World) (a : Option Addr) (n c n' c' : Nat), (binOp .eql 48 (.slice a n c) (.slice none n' c')).run Tryz.prog w = .ok (.bool a.isNone) w := fun w a n c n' c' => Lib.run_eql_slice_nil w _ _ a n c n' c' Tryz.underlying48
  go_enter Tryz.func141, Tryz.ntmps141
  go_wp2
  go_ret
  exact ⟨rfl, Below.refl _ _⟩

set_option maxHeartbeats 4000000 in
set_option maxRecDepth 100000 in
theorem nilEach (w : World) : Calls Tryz.prog 100 #[.slice none 0 0, .func (.func 101) #[] #[]] w fun e w' => e = .returned (.slice none 0 0) ∧ Below w.heap.size w w' := by

  have B0 := Lib.hid (Below.refl w.heap.size w)
  go_enter Tryz.func100, Tryz.ntmps100
  go_upto_region 0 with fail
  refine wp_region_lit ?_
  (with_reducible refine rN (v := ?_) ?_ ?_ ?_); rotate_left; (· rfl); (· go_simp; (try with_reducible rfl)); simp only [pu, sB, s0, sS]
  go_upto_region 1 with fail
  refine wp_region_lit ?_
  (with_reducible refine rN (v := ?_) ?_ ?_ ?_); rotate_left; (· rfl); (· go_simp; (try with_reducible rfl)); simp only [pu, sB, s0, sS]
  go_wp2_with fail
  refine (nilAb _).mono ?_
  rintro e w1 ⟨rfl, hb⟩
  have B1 := Lib.hid (B0.out.trans (hb.mono B0.out.size))
  clear hb
  clear B0
  go_simp
  rename_i hKK
  refine hKK _ _ ?_
  clear hKK
  try simp only [pu, sB, s0, sS]
  (with_reducible refine rN (v := ?_) ?_ ?_ ?_); rotate_left; (· rfl); (· go_simp; (try with_reducible rfl)); simp only [pu, sB, s0]
  go_upto_region 2 with fail
  refine wp_region_lit ?_
  iterate 3 ((with_reducible refine rN (v := ?_) ?_ ?_ ?_); rotate_left; (· rfl); (· go_simp; (try with_reducible rfl)); simp only [pu, sB, s0, sS])
  go_wp2_with fail
  go_loopw [5, 6, 11] (fun v5 v6 iv wr => iv = .int .i64 0 ∧ Hid (Below w.heap.size w wr)) (fun _ _ _ _ => 0)
  case atStart => exact ⟨rfl, B1⟩
  case round =>
    obtain ⟨rfl, B90⟩ := hrel
    go_upto_region 3 with fail
    refine wp_region_lit ?_
    (with_reducible refine rN (v := .bool false) ?_ ?_ ?_); (· rfl); (· go_simp; (try with_reducible rfl)); simp only [pu, sB, s0, sS]
    go_upto_region 7 with fail
    refine wp_region_lit ?_
    iterate 2 ((with_reducible refine rN (v := ?_) ?_ ?_ ?_); rotate_left; (· rfl); (· go_simp; (try with_reducible rfl)); simp only [pu, sB, s0, sS])
    go_wp2_with fail
    go_ret
    exact ⟨rfl, B90.out⟩

set_option maxHeartbeats 8000000 in
set_option maxRecDepth 100000 in
theorem nilTraits (nm : ByteArray) (co : Array Value) (p t k : Int) (w : World)
    (hco : Part 44 7 co) :
    Calls Tryz.prog 50 #[.agg (trC nm co 0 0 0 (.slice none 0 0) p t k (.slice none 0 0) 0)] w fun e w' => e = .returned (.agg (trC nm co 0 0 0 (.slice none 0 0) p t k (.slice none 0 0) 0)) ∧ Below w.heap.size w w' := by

  have B0 := Lib.hid (Below.refl w.heap.size w)
  go_enter Tryz.func50, Tryz.ntmps50
  go_upto_region 0 with fail
  refine wp_region_lit ?_
  obtain ⟨w1, hw⟩ : ∃ v, v = w.alloc (.cells (trC nm co 0 0 0 (.slice none 0 0) p t k (.slice none 0 0) 0) 50) := ⟨_, rfl⟩
  obtain ⟨pT, hp⟩ : ∃ v, v = w.heap.size := ⟨_, rfl⟩
  have B1 : Hid (Below w.heap.size w w1) := Lib.hid (by rw [hw]; exact B0.out.alloc B0.out.size _)
  have LET : Hid (w.heap.size ≤ pT) := Lib.hid (by rw [hp]; exact B0.out.size)
  have KT1 : Hid (Blk w1 pT (trC nm co 0 0 0 (.slice none 0 0) p t k (.slice none 0 0) 0) 50) := Lib.hid (by rw [hw, hp]; exact Blk.new _ _ _)
  with_reducible refine wpList_runWV (some 1) (v := .pointer (some ⟨pT, 0, none⟩)) (w' := w1) ?_ ?_ ?_ ?_
  · rfl
  · rfl
  · rw [hw, hp]; (go_simp; (try rfl))
  simp only [pu, sB, s0, sS]
  clear hw hp
  clear B0
  obtain ⟨w2, hw⟩ : ∃ v, v = w1.alloc (.cells zTr.cells 50) := ⟨_, rfl⟩
  obtain ⟨pR, hp⟩ : ∃ v, v = w1.heap.size := ⟨_, rfl⟩
  have B2 : Hid (Below w.heap.size w w2) := Lib.hid (by rw [hw]; exact B1.out.alloc B1.out.size _)
  have LER : Hid (w.heap.size ≤ pR) := Lib.hid (by rw [hp]; exact B1.out.size)
  have KT2 := Lib.hid (show Blk w2 pT (trC nm co 0 0 0 (.slice none 0 0) p t k (.slice none 0 0) 0) 50 by rw [hw]; exact KT1.out.alloc _)
  have NETR : Hid (pT ≠ pR) := Lib.hid (by rw [hp]; exact Nat.ne_of_lt KT1.out.lt)
  have NERT : Hid (pR ≠ pT) := Lib.hid (Ne.symm NETR.out)
  have KR2 : Hid (Blk w2 pR zTr.cells 50) := Lib.hid (by rw [hw, hp]; exact Blk.new _ _ _)
  with_reducible refine wpList_runWV (some 2) (v := .pointer (some ⟨pR, 0, none⟩)) (w' := w2) ?_ ?_ ?_ ?_
  · rfl
  · rfl
  · rw [hw, hp]; exact run_allocOp rfl infoTr zeroTr
  simp only [pu, sB, s0, sS]
  clear hw hp
  clear B1 KT1
  go_upto_region 1 with fail
  refine wp_region_lit ?_
  (with_reducible refine rN (v := .pointer (some ⟨pT, 9, none⟩)) ?_ ?_ ?_); (· rfl); (· go_simp; (try rfl)); simp only [pu, sB, s0, sS]
  (with_reducible refine rN (v := .pointer (some ⟨pT, 11, none⟩)) ?_ ?_ ?_); (· rfl); (· go_simp; (try rfl)); simp only [pu, sB, s0, sS]
  with_reducible refine wpList_loadV (.tmp 4) (j := 11) (v := (.slice none 0 0)) ?_ ?_ KT2.out ?_ Tryz.underlying45 ?_ ?_
  · rfl
  · rfl
  · exact trC_11 hco
  · rfl
  simp only [pu, sB, s0, sS]
  go_wp2_with fail
  refine (nilStr _).mono ?_
  rintro e w3 ⟨rfl, hb⟩
  have B3 := Lib.hid (B2.out.trans (hb.mono B2.out.size))
  have KT3 := Lib.hid (KT2.out.below hb KT2.out.lt)
  have KR3 := Lib.hid (KR2.out.below hb KR2.out.lt)
  clear hb
  clear B2 KT2 KR2
  go_simp
  rename_i hKK
  refine hKK _ _ ?_
  clear hKK
  try simp only [pu, sB, s0, sS]
  (with_reducible refine rN (v := .pointer (some ⟨pT, 9, none⟩)) ?_ ?_ ?_); (· rfl); (· go_simp; (try rfl)); simp only [pu, sB, s0, sS]
  (with_reducible refine rN (v := .pointer (some ⟨pT, 11, none⟩)) ?_ ?_ ?_); (· rfl); (· go_simp; (try rfl)); simp only [pu, sB, s0, sS]
  have KT4 := Lib.hid (KT3.out.stored (o := 11) (vs := [.slice none 0 0]) (cs' := (trC nm co 0 0 0 (.slice none 0 0) p t k (.slice none 0 0) 0)) (trC_p11 hco))
  have KR4 := Lib.hid (KR3.out.wholeElse ([.slice none 0 0]) (o := 11) NERT.out)
  have B4 := Lib.hid (below_whole ([.slice none 0 0]) (o := 11) B3.out LET.out)
  with_reducible refine wpList_storeV (.tmp 8) (.tmp 6) (j := 11) (v := .slice none 0 0) ?_ ?_ KT3.out ?_ (by kernel_rfl) (by simp [Value.oneCell']) ?_
  · rfl
  · rfl
  · exact (fit_1 (trC_sz hco) (by decide))
  (try simp only [Act.put])
  generalize World.setCells _ _ _ _ = w4 at KT4 KR4 B4 ⊢
  clear B3 KT3 KR3
  go_upto_region 2 with fail
  refine wp_region_lit ?_
  (with_reducible refine rN (v := .pointer (some ⟨pT, 15, none⟩)) ?_ ?_ ?_); (· rfl); (· go_simp; (try rfl)); simp only [pu, sB, s0, sS]
  with_reducible refine wpList_loadV (.tmp 9) (j := 15) (v := (.slice none 0 0)) ?_ ?_ KT4.out ?_ Tryz.underlying48 ?_ ?_
  · rfl
  · rfl
  · exact trC_15 hco
  · rfl
  simp only [pu, sB, s0, sS]
  go_wp2_with fail
  refine (nilEach _).mono ?_
  rintro e w5 ⟨rfl, hb⟩
  have B5 := Lib.hid (B4.out.trans (hb.mono B4.out.size))
  have KT5 := Lib.hid (KT4.out.below hb KT4.out.lt)
  have KR5 := Lib.hid (KR4.out.below hb KR4.out.lt)
  clear hb
  clear B4 KT4 KR4
  go_simp
  rename_i hKK
  refine hKK _ _ ?_
  clear hKK
  try simp only [pu, sB, s0, sS]
  (with_reducible refine rN (v := .pointer (some ⟨pT, 15, none⟩)) ?_ ?_ ?_); (· rfl); (· go_simp; (try rfl)); simp only [pu, sB, s0, sS]
  have KT6 := Lib.hid (KT5.out.stored (o := 15) (vs := [.slice none 0 0]) (cs' := (trC nm co 0 0 0 (.slice none 0 0) p t k (.slice none 0 0) 0)) (trC_p15 hco))
  have KR6 := Lib.hid (KR5.out.wholeElse ([.slice none 0 0]) (o := 15) NERT.out)
  have B6 := Lib.hid (below_whole ([.slice none 0 0]) (o := 15) B5.out LET.out)
  with_reducible refine wpList_storeV (.tmp 12) (.tmp 11) (j := 15) (v := .slice none 0 0) ?_ ?_ KT5.out ?_ (by kernel_rfl) (by simp [Value.oneCell']) ?_
  · rfl
  · rfl
  · exact (fit_1 (trC_sz hco) (by decide))
  (try simp only [Act.put])
  generalize World.setCells _ _ _ _ = w6 at KT6 KR6 B6 ⊢
  clear B5 KT5 KR5
  go_upto_region 3 with fail
  refine wp_region_lit ?_
  with_reducible refine wpList_loadS (.tmp 1) ?_ ?_ KT6.out Tryz.underlying50 ?_ (szTr (trC_sz hco)) ?_
  · rfl
  · rfl
  · rfl
  simp only [pu, sB, s0, sS]
  have KR7 := Lib.hid (KR6.out.stored (o := 0) (vs := (trC nm co 0 0 0 (.slice none 0 0) p t k (.slice none 0 0) 0).toList) (cs' := (trC nm co 0 0 0 (.slice none 0 0) p t k (.slice none 0 0) 0)) (laid_all (trC_sz hco) zTr_cells))
  have KT7 := Lib.hid (KT6.out.wholeElse ((trC nm co 0 0 0 (.slice none 0 0) p t k (.slice none 0 0) 0).toList) (o := 0) NETR.out)
  have B7 := Lib.hid (below_whole ((trC nm co 0 0 0 (.slice none 0 0) p t k (.slice none 0 0) 0).toList) (o := 0) B6.out LER.out)
  with_reducible refine wpList_storeM (.tmp 2) (.tmp 13) (o := 0) (vs := (trC nm co 0 0 0 (.slice none 0 0) p t k (.slice none 0 0) 0)) ?_ ?_ KR6.out ?_ (szTr (trC_sz hco)) (trC_one hco rfl rfl) ?_
  · rfl
  · rfl
  · exact (fit_2 zTr_cells (trC_sz hco) (by decide))
  (try simp only [Act.put])
  generalize World.setCells _ _ _ _ = w7 at KT7 KR7 B7 ⊢
  clear B6 KT6 KR6
  have hL := KR7.out.readS Tryz.underlying50 rfl (szTr (trC_sz hco))
  go_wp2_with fail
  exact bodyPost_ret (v := .agg (trC nm co 0 0 0 (.slice none 0 0) p t k (.slice none 0 0) 0)) (results_cell Tryz.results50 (by rfl) hL) rfl ⟨rfl, B7.out⟩

set_option maxHeartbeats 8000000 in
set_option maxRecDepth 100000 in
theorem apS8 (nm : ByteArray) (co : Array Value) (p t k : Int) (n m : Int) (s : ByteArray) (f : Fil.Flt) (fs : ByteArray) (you cnt : Int) (w : World)
    (hco : Part 44 7 co) (HI : Hid (∀ W, Below w.heap.size w W → Calls Tryz.prog 12 #[.agg (mO 8 n m s (cellsF f fs))] W fun e w' => e = .returned (.bool true) ∧ Below W.heap.size W w')) :
    Calls Tryz.prog 26 #[.agg (trC nm co 0 0 0 (.slice none 0 0) p t k (.slice none 0 0) 0), .agg (mO 8 n m s (cellsF f fs)), .int .i64 you, .int .i64 cnt] w fun e w' => e = .returned (.agg (trC nm co 0 0 0 (.slice none 0 0) p t (bits .or .i64 k n) (.slice none 0 0) 0)) ∧ Below w.heap.size w w' := by

  have B0 := Lib.hid (Below.refl w.heap.size w)
  go_enter Tryz.func26, Tryz.ntmps26
  go_upto_region 0 with fail
  refine wp_region_lit ?_
  obtain ⟨w1, hw⟩ : ∃ v, v = w.alloc (.cells (trC nm co 0 0 0 (.slice none 0 0) p t k (.slice none 0 0) 0) 50) := ⟨_, rfl⟩
  obtain ⟨pT, hp⟩ : ∃ v, v = w.heap.size := ⟨_, rfl⟩
  have B1 : Hid (Below w.heap.size w w1) := Lib.hid (by rw [hw]; exact B0.out.alloc B0.out.size _)
  have LET : Hid (w.heap.size ≤ pT) := Lib.hid (by rw [hp]; exact B0.out.size)
  have KT1 : Hid (Blk w1 pT (trC nm co 0 0 0 (.slice none 0 0) p t k (.slice none 0 0) 0) 50) := Lib.hid (by rw [hw, hp]; exact Blk.new _ _ _)
  with_reducible refine wpList_runWV (some 4) (v := .pointer (some ⟨pT, 0, none⟩)) (w' := w1) ?_ ?_ ?_ ?_
  · rfl
  · rfl
  · rw [hw, hp]; (go_simp; (try rfl))
  simp only [pu, sB, s0, sS]
  clear hw hp
  clear B0
  obtain ⟨w2, hw⟩ : ∃ v, v = w1.alloc (.cells (mO 8 n m s (cellsF f fs)) 27) := ⟨_, rfl⟩
  obtain ⟨pM, hp⟩ : ∃ v, v = w1.heap.size := ⟨_, rfl⟩
  have B2 : Hid (Below w.heap.size w w2) := Lib.hid (by rw [hw]; exact B1.out.alloc B1.out.size _)
  have LEM : Hid (w.heap.size ≤ pM) := Lib.hid (by rw [hp]; exact B1.out.size)
  have KT2 := Lib.hid (show Blk w2 pT (trC nm co 0 0 0 (.slice none 0 0) p t k (.slice none 0 0) 0) 50 by rw [hw]; exact KT1.out.alloc _)
  have NETM : Hid (pT ≠ pM) := Lib.hid (by rw [hp]; exact Nat.ne_of_lt KT1.out.lt)
  have NEMT : Hid (pM ≠ pT) := Lib.hid (Ne.symm NETM.out)
  have KM2 : Hid (Blk w2 pM (mO 8 n m s (cellsF f fs)) 27) := Lib.hid (by rw [hw, hp]; exact Blk.new _ _ _)
  with_reducible refine wpList_runWV (some 5) (v := .pointer (some ⟨pM, 0, none⟩)) (w' := w2) ?_ ?_ ?_ ?_
  · rfl
  · rfl
  · rw [hw, hp]; (go_simp; (try rfl))
  simp only [pu, sB, s0, sS]
  clear hw hp
  clear B1 KT1
  obtain ⟨w3, hw⟩ : ∃ v, v = w2.alloc (.cells zTr.cells 50) := ⟨_, rfl⟩
  obtain ⟨pR, hp⟩ : ∃ v, v = w2.heap.size := ⟨_, rfl⟩
  have B3 : Hid (Below w.heap.size w w3) := Lib.hid (by rw [hw]; exact B2.out.alloc B2.out.size _)
  have LER : Hid (w.heap.size ≤ pR) := Lib.hid (by rw [hp]; exact B2.out.size)
  have KT3 := Lib.hid (show Blk w3 pT (trC nm co 0 0 0 (.slice none 0 0) p t k (.slice none 0 0) 0) 50 by rw [hw]; exact KT2.out.alloc _)
  have NETR : Hid (pT ≠ pR) := Lib.hid (by rw [hp]; exact Nat.ne_of_lt KT2.out.lt)
  have NERT : Hid (pR ≠ pT) := Lib.hid (Ne.symm NETR.out)
  have KM3 := Lib.hid (show Blk w3 pM (mO 8 n m s (cellsF f fs)) 27 by rw [hw]; exact KM2.out.alloc _)
  have NEMR : Hid (pM ≠ pR) := Lib.hid (by rw [hp]; exact Nat.ne_of_lt KM2.out.lt)
  have NERM : Hid (pR ≠ pM) := Lib.hid (Ne.symm NEMR.out)
  have KR3 : Hid (Blk w3 pR zTr.cells 50) := Lib.hid (by rw [hw, hp]; exact Blk.new _ _ _)
  with_reducible refine wpList_runWV (some 8) (v := .pointer (some ⟨pR, 0, none⟩)) (w' := w3) ?_ ?_ ?_ ?_
  · rfl
  · rfl
  · rw [hw, hp]; exact run_allocOp rfl infoTr zeroTr
  simp only [pu, sB, s0, sS]
  clear hw hp
  clear B2 KT2 KM2
  go_upto_region 1 with fail
  refine wp_region_lit ?_
  with_reducible refine wpList_loadS (.tmp 4) ?_ ?_ KT3.out Tryz.underlying50 ?_ (szTr (trC_sz hco)) ?_
  · rfl
  · rfl
  · rfl
  simp only [pu, sB, s0, sS]
  go_wp2_with fail
  refine (nilTraits nm co p t k _ hco).mono ?_
  rintro e w4 ⟨rfl, hb⟩
  have B4 := Lib.hid (B3.out.trans (hb.mono B3.out.size))
  have KT4 := Lib.hid (KT3.out.below hb KT3.out.lt)
  have KM4 := Lib.hid (KM3.out.below hb KM3.out.lt)
  have KR4 := Lib.hid (KR3.out.below hb KR3.out.lt)
  clear hb
  clear B3 KT3 KM3 KR3
  go_simp
  rename_i hKK
  refine hKK _ _ ?_
  clear hKK
  try simp only [pu, sB, s0, sS]
  have KT5 := Lib.hid (KT4.out.stored (o := 0) (vs := (trC nm co 0 0 0 (.slice none 0 0) p t k (.slice none 0 0) 0).toList) (cs' := (trC nm co 0 0 0 (.slice none 0 0) p t k (.slice none 0 0) 0)) (laid_all (trC_sz hco) (trC_sz hco)))
  have KM5 := Lib.hid (KM4.out.wholeElse ((trC nm co 0 0 0 (.slice none 0 0) p t k (.slice none 0 0) 0).toList) (o := 0) NEMT.out)
  have KR5 := Lib.hid (KR4.out.wholeElse ((trC nm co 0 0 0 (.slice none 0 0) p t k (.slice none 0 0) 0).toList) (o := 0) NERT.out)
  have B5 := Lib.hid (below_whole ((trC nm co 0 0 0 (.slice none 0 0) p t k (.slice none 0 0) 0).toList) (o := 0) B4.out LET.out)
  with_reducible refine wpList_storeM (.tmp 4) (.tmp 10) (o := 0) (vs := (trC nm co 0 0 0 (.slice none 0 0) p t k (.slice none 0 0) 0)) ?_ ?_ KT4.out ?_ (szTr (trC_sz hco)) (trC_one hco rfl rfl) ?_
  · rfl
  · rfl
  · exact (fit_2 (trC_sz hco) (trC_sz hco) (by decide))
  (try simp only [Act.put])
  generalize World.setCells _ _ _ _ = w5 at KT5 KM5 KR5 B5 ⊢
  clear B4 KT4 KM4 KR4
  go_upto_region 2 with fail
  refine wp_region_lit ?_
  with_reducible refine wpList_loadS (.tmp 5) ?_ ?_ KM5.out Tryz.underlying27 ?_ (infoTMo20 (mO_sz (cellsF_size f fs))) ?_
  · rfl
  · rfl
  · rfl
  simp only [pu, sB, s0, sS]
  go_wp2_with fail
  refine (HI.out _ B5.out).mono ?_
  rintro e w6 ⟨rfl, hb⟩
  have B6 := Lib.hid (B5.out.trans (hb.mono B5.out.size))
  have KT6 := Lib.hid (KT5.out.below hb KT5.out.lt)
  have KM6 := Lib.hid (KM5.out.below hb KM5.out.lt)
  have KR6 := Lib.hid (KR5.out.below hb KR5.out.lt)
  clear hb
  clear B5 KT5 KM5 KR5
  go_simp
  rename_i hKK
  refine hKK _ _ ?_
  clear hKK
  try simp only [pu, sB, s0, sS]
  (with_reducible refine rN (v := .bool false) ?_ ?_ ?_); (· rfl); (· go_simp; (try with_reducible rfl)); simp only [pu, sB, s0, sS]
  go_upto_region 4 with fail
  refine wp_region_lit ?_
  (with_reducible refine rN (v := .pointer (some ⟨pM, 0, none⟩)) ?_ ?_ ?_); (· rfl); (· go_simp; (try rfl)); simp only [pu, sB, s0, sS]
  with_reducible refine wpList_loadV (.tmp 15) (j := 0) (v := .int .i64 8) ?_ ?_ KM6.out ?_ Tryz.underlying3 ?_ ?_
  · rfl
  · rfl
  · exact mO_0
  · rfl
  simp only [pu, sB, s0, sS]
  go_upto_region 5 with fail
  refine wp_region_lit ?_
  iterate 2 ((with_reducible refine rN (v := .bool false) ?_ ?_ ?_); (· rfl); (· go_simp; (try with_reducible rfl)); simp only [pu, sB, s0, sS])
  go_upto_region 7 with fail
  refine wp_region_lit ?_
  iterate 2 ((with_reducible refine rN (v := .bool false) ?_ ?_ ?_); (· rfl); (· go_simp; (try with_reducible rfl)); simp only [pu, sB, s0, sS])
  go_upto_region 9 with fail
  refine wp_region_lit ?_
  iterate 2 ((with_reducible refine rN (v := .bool false) ?_ ?_ ?_); (· rfl); (· go_simp; (try with_reducible rfl)); simp only [pu, sB, s0, sS])
  go_upto_region 11 with fail
  refine wp_region_lit ?_
  iterate 2 ((with_reducible refine rN (v := .bool false) ?_ ?_ ?_); (· rfl); (· go_simp; (try with_reducible rfl)); simp only [pu, sB, s0, sS])
  go_upto_region 13 with fail
  refine wp_region_lit ?_
  iterate 2 ((with_reducible refine rN (v := .bool false) ?_ ?_ ?_); (· rfl); (· go_simp; (try with_reducible rfl)); simp only [pu, sB, s0, sS])
  go_upto_region 15 with fail
  refine wp_region_lit ?_
  iterate 2 ((with_reducible refine rN (v := .bool false) ?_ ?_ ?_); (· rfl); (· go_simp; (try with_reducible rfl)); simp only [pu, sB, s0, sS])
  go_upto_region 17 with fail
  refine wp_region_lit ?_
  iterate 2 ((with_reducible refine rN (v := .bool false) ?_ ?_ ?_); (· rfl); (· go_simp; (try with_reducible rfl)); simp only [pu, sB, s0, sS])
  go_upto_region 19 with fail
  refine wp_region_lit ?_
  iterate 2 ((with_reducible refine rN (v := .bool true) ?_ ?_ ?_); (· rfl); (· go_simp; (try with_reducible rfl)); simp only [pu, sB, s0, sS])
  go_upto_region 20 with fail
  refine wp_region_lit ?_
  (with_reducible refine rN (v := .pointer (some ⟨pT, 14, none⟩)) ?_ ?_ ?_); (· rfl); (· go_simp; (try rfl)); simp only [pu, sB, s0, sS]
  with_reducible refine wpList_loadV (.tmp 67) (j := 14) (v := .int .i64 k) ?_ ?_ KT6.out ?_ Tryz.underlying3 ?_ ?_
  · rfl
  · rfl
  · exact trC_14 hco
  · rfl
  simp only [pu, sB, s0, sS]
  (with_reducible refine rN (v := .pointer (some ⟨pM, 1, none⟩)) ?_ ?_ ?_); (· rfl); (· go_simp; (try rfl)); simp only [pu, sB, s0, sS]
  with_reducible refine wpList_loadV (.tmp 69) (j := 1) (v := .int .i64 n) ?_ ?_ KM6.out ?_ Tryz.underlying3 ?_ ?_
  · rfl
  · rfl
  · exact mO_1
  · rfl
  simp only [pu, sB, s0, sS]
  (with_reducible refine rN (v := .int .i64 (bits .or .i64 k n)) ?_ ?_ ?_); (· rfl); (· go_simp; (try with_reducible rfl)); simp only [pu, sB, s0, sS]
  (with_reducible refine rN (v := .pointer (some ⟨pT, 14, none⟩)) ?_ ?_ ?_); (· rfl); (· go_simp; (try rfl)); simp only [pu, sB, s0, sS]
  have KT7 := Lib.hid (KT6.out.stored (o := 14) (vs := [.int .i64 (bits .or .i64 k n)]) (cs' := (trC nm co 0 0 0 (.slice none 0 0) p t (bits .or .i64 k n) (.slice none 0 0) 0)) (trC_p14 hco))
  have KM7 := Lib.hid (KM6.out.wholeElse ([.int .i64 (bits .or .i64 k n)]) (o := 14) NEMT.out)
  have KR7 := Lib.hid (KR6.out.wholeElse ([.int .i64 (bits .or .i64 k n)]) (o := 14) NERT.out)
  have B7 := Lib.hid (below_whole ([.int .i64 (bits .or .i64 k n)]) (o := 14) B6.out LET.out)
  with_reducible refine wpList_storeV (.tmp 72) (.tmp 71) (j := 14) (v := .int .i64 (bits .or .i64 k n)) ?_ ?_ KT6.out ?_ (by kernel_rfl) (by simp [Value.oneCell']) ?_
  · rfl
  · rfl
  · exact (fit_1 (trC_sz hco) (by decide))
  (try simp only [Act.put])
  generalize World.setCells _ _ _ _ = w7 at KT7 KM7 KR7 B7 ⊢
  clear B6 KT6 KM6 KR6
  go_upto_region 33 with fail
  refine wp_region_lit ?_
  with_reducible refine wpList_loadS (.tmp 4) ?_ ?_ KT7.out Tryz.underlying50 ?_ (szTr (trC_sz hco)) ?_
  · rfl
  · rfl
  · rfl
  simp only [pu, sB, s0, sS]
  have KR8 := Lib.hid (KR7.out.stored (o := 0) (vs := (trC nm co 0 0 0 (.slice none 0 0) p t (bits .or .i64 k n) (.slice none 0 0) 0).toList) (cs' := (trC nm co 0 0 0 (.slice none 0 0) p t (bits .or .i64 k n) (.slice none 0 0) 0)) (laid_all (trC_sz hco) zTr_cells))
  have KT8 := Lib.hid (KT7.out.wholeElse ((trC nm co 0 0 0 (.slice none 0 0) p t (bits .or .i64 k n) (.slice none 0 0) 0).toList) (o := 0) NETR.out)
  have KM8 := Lib.hid (KM7.out.wholeElse ((trC nm co 0 0 0 (.slice none 0 0) p t (bits .or .i64 k n) (.slice none 0 0) 0).toList) (o := 0) NEMR.out)
  have B8 := Lib.hid (below_whole ((trC nm co 0 0 0 (.slice none 0 0) p t (bits .or .i64 k n) (.slice none 0 0) 0).toList) (o := 0) B7.out LER.out)
  with_reducible refine wpList_storeM (.tmp 8) (.tmp 123) (o := 0) (vs := (trC nm co 0 0 0 (.slice none 0 0) p t (bits .or .i64 k n) (.slice none 0 0) 0)) ?_ ?_ KR7.out ?_ (szTr (trC_sz hco)) (trC_one hco rfl rfl) ?_
  · rfl
  · rfl
  · exact (fit_2 zTr_cells (trC_sz hco) (by decide))
  (try simp only [Act.put])
  generalize World.setCells _ _ _ _ = w8 at KT8 KM8 KR8 B8 ⊢
  clear B7 KT7 KM7 KR7
  have hL := KR8.out.readS Tryz.underlying50 rfl (szTr (trC_sz hco))
  go_wp2_with fail
  exact bodyPost_ret (v := .agg (trC nm co 0 0 0 (.slice none 0 0) p t (bits .or .i64 k n) (.slice none 0 0) 0)) (results_cell Tryz.results26 (by rfl) hL) rfl ⟨rfl, B8.out⟩

set_option maxHeartbeats 8000000 in
set_option maxRecDepth 100000 in
theorem apS13 (nm : ByteArray) (co : Array Value) (p t k : Int) (n m : Int) (s : ByteArray) (f : Fil.Flt) (fs : ByteArray) (you cnt : Int) (w : World)
    (hco : Part 44 7 co) (HI : Hid (∀ W, Below w.heap.size w W → Calls Tryz.prog 12 #[.agg (mO 13 n m s (cellsF f fs))] W fun e w' => e = .returned (.bool true) ∧ Below W.heap.size W w')) (HA1 : Hid (∀ W, Calls Tryz.prog 53 #[.int .i64 p, .int .i64 n] W fun e w' => e = .returned (.int .i64 (Num.clampI (Num.clampI p + Num.clampI n))) ∧ W = w')) (HA2 : Hid (∀ W, Calls Tryz.prog 53 #[.int .i64 t, .int .i64 m] W fun e w' => e = .returned (.int .i64 (Num.clampI (Num.clampI t + Num.clampI m))) ∧ W = w')) :
    Calls Tryz.prog 26 #[.agg (trC nm co 0 0 0 (.slice none 0 0) p t k (.slice none 0 0) 0), .agg (mO 13 n m s (cellsF f fs)), .int .i64 you, .int .i64 cnt] w fun e w' => e = .returned (.agg (trC nm co 0 0 0 (.slice none 0 0) (Num.clampI (Num.clampI p + Num.clampI n)) (Num.clampI (Num.clampI t + Num.clampI m)) k (.slice none 0 0) 0)) ∧ Below w.heap.size w w' := by

  have B0 := Lib.hid (Below.refl w.heap.size w)
  go_enter Tryz.func26, Tryz.ntmps26
  go_upto_region 0 with fail
  refine wp_region_lit ?_
  obtain ⟨w1, hw⟩ : ∃ v, v = w.alloc (.cells (trC nm co 0 0 0 (.slice none 0 0) p t k (.slice none 0 0) 0) 50) := ⟨_, rfl⟩
  obtain ⟨pT, hp⟩ : ∃ v, v = w.heap.size := ⟨_, rfl⟩
  have B1 : Hid (Below w.heap.size w w1) := Lib.hid (by rw [hw]; exact B0.out.alloc B0.out.size _)
  have LET : Hid (w.heap.size ≤ pT) := Lib.hid (by rw [hp]; exact B0.out.size)
  have KT1 : Hid (Blk w1 pT (trC nm co 0 0 0 (.slice none 0 0) p t k (.slice none 0 0) 0) 50) := Lib.hid (by rw [hw, hp]; exact Blk.new _ _ _)
  with_reducible refine wpList_runWV (some 4) (v := .pointer (some ⟨pT, 0, none⟩)) (w' := w1) ?_ ?_ ?_ ?_
  · rfl
  · rfl
  · rw [hw, hp]; (go_simp; (try rfl))
  simp only [pu, sB, s0, sS]
  clear hw hp
  clear B0
  obtain ⟨w2, hw⟩ : ∃ v, v = w1.alloc (.cells (mO 13 n m s (cellsF f fs)) 27) := ⟨_, rfl⟩
  obtain ⟨pM, hp⟩ : ∃ v, v = w1.heap.size := ⟨_, rfl⟩
  have B2 : Hid (Below w.heap.size w w2) := Lib.hid (by rw [hw]; exact B1.out.alloc B1.out.size _)
  have LEM : Hid (w.heap.size ≤ pM) := Lib.hid (by rw [hp]; exact B1.out.size)
  have KT2 := Lib.hid (show Blk w2 pT (trC nm co 0 0 0 (.slice none 0 0) p t k (.slice none 0 0) 0) 50 by rw [hw]; exact KT1.out.alloc _)
  have NETM : Hid (pT ≠ pM) := Lib.hid (by rw [hp]; exact Nat.ne_of_lt KT1.out.lt)
  have NEMT : Hid (pM ≠ pT) := Lib.hid (Ne.symm NETM.out)
  have KM2 : Hid (Blk w2 pM (mO 13 n m s (cellsF f fs)) 27) := Lib.hid (by rw [hw, hp]; exact Blk.new _ _ _)
  with_reducible refine wpList_runWV (some 5) (v := .pointer (some ⟨pM, 0, none⟩)) (w' := w2) ?_ ?_ ?_ ?_
  · rfl
  · rfl
  · rw [hw, hp]; (go_simp; (try rfl))
  simp only [pu, sB, s0, sS]
  clear hw hp
  clear B1 KT1
  obtain ⟨w3, hw⟩ : ∃ v, v = w2.alloc (.cells zTr.cells 50) := ⟨_, rfl⟩
  obtain ⟨pR, hp⟩ : ∃ v, v = w2.heap.size := ⟨_, rfl⟩
  have B3 : Hid (Below w.heap.size w w3) := Lib.hid (by rw [hw]; exact B2.out.alloc B2.out.size _)
  have LER : Hid (w.heap.size ≤ pR) := Lib.hid (by rw [hp]; exact B2.out.size)
  have KT3 := Lib.hid (show Blk w3 pT (trC nm co 0 0 0 (.slice none 0 0) p t k (.slice none 0 0) 0) 50 by rw [hw]; exact KT2.out.alloc _)
  have NETR : Hid (pT ≠ pR) := Lib.hid (by rw [hp]; exact Nat.ne_of_lt KT2.out.lt)
  have NERT : Hid (pR ≠ pT) := Lib.hid (Ne.symm NETR.out)
  have KM3 := Lib.hid (show Blk w3 pM (mO 13 n m s (cellsF f fs)) 27 by rw [hw]; exact KM2.out.alloc _)
  have NEMR : Hid (pM ≠ pR) := Lib.hid (by rw [hp]; exact Nat.ne_of_lt KM2.out.lt)
  have NERM : Hid (pR ≠ pM) := Lib.hid (Ne.symm NEMR.out)
  have KR3 : Hid (Blk w3 pR zTr.cells 50) := Lib.hid (by rw [hw, hp]; exact Blk.new _ _ _)
  with_reducible refine wpList_runWV (some 8) (v := .pointer (some ⟨pR, 0, none⟩)) (w' := w3) ?_ ?_ ?_ ?_
  · rfl
  · rfl
  · rw [hw, hp]; exact run_allocOp rfl infoTr zeroTr
  simp only [pu, sB, s0, sS]
  clear hw hp
  clear B2 KT2 KM2
  go_upto_region 1 with fail
  refine wp_region_lit ?_
  with_reducible refine wpList_loadS (.tmp 4) ?_ ?_ KT3.out Tryz.underlying50 ?_ (szTr (trC_sz hco)) ?_
  · rfl
  · rfl
  · rfl
  simp only [pu, sB, s0, sS]
  go_wp2_with fail
  refine (nilTraits nm co p t k _ hco).mono ?_
  rintro e w4 ⟨rfl, hb⟩
  have B4 := Lib.hid (B3.out.trans (hb.mono B3.out.size))
  have KT4 := Lib.hid (KT3.out.below hb KT3.out.lt)
  have KM4 := Lib.hid (KM3.out.below hb KM3.out.lt)
  have KR4 := Lib.hid (KR3.out.below hb KR3.out.lt)
  clear hb
  clear B3 KT3 KM3 KR3
  go_simp
  rename_i hKK
  refine hKK _ _ ?_
  clear hKK
  try simp only [pu, sB, s0, sS]
  have KT5 := Lib.hid (KT4.out.stored (o := 0) (vs := (trC nm co 0 0 0 (.slice none 0 0) p t k (.slice none 0 0) 0).toList) (cs' := (trC nm co 0 0 0 (.slice none 0 0) p t k (.slice none 0 0) 0)) (laid_all (trC_sz hco) (trC_sz hco)))
  have KM5 := Lib.hid (KM4.out.wholeElse ((trC nm co 0 0 0 (.slice none 0 0) p t k (.slice none 0 0) 0).toList) (o := 0) NEMT.out)
  have KR5 := Lib.hid (KR4.out.wholeElse ((trC nm co 0 0 0 (.slice none 0 0) p t k (.slice none 0 0) 0).toList) (o := 0) NERT.out)
  have B5 := Lib.hid (below_whole ((trC nm co 0 0 0 (.slice none 0 0) p t k (.slice none 0 0) 0).toList) (o := 0) B4.out LET.out)
  with_reducible refine wpList_storeM (.tmp 4) (.tmp 10) (o := 0) (vs := (trC nm co 0 0 0 (.slice none 0 0) p t k (.slice none 0 0) 0)) ?_ ?_ KT4.out ?_ (szTr (trC_sz hco)) (trC_one hco rfl rfl) ?_
  · rfl
  · rfl
  · exact (fit_2 (trC_sz hco) (trC_sz hco) (by decide))
  (try simp only [Act.put])
  generalize World.setCells _ _ _ _ = w5 at KT5 KM5 KR5 B5 ⊢
  clear B4 KT4 KM4 KR4
  go_upto_region 2 with fail
  refine wp_region_lit ?_
  with_reducible refine wpList_loadS (.tmp 5) ?_ ?_ KM5.out Tryz.underlying27 ?_ (infoTMo20 (mO_sz (cellsF_size f fs))) ?_
  · rfl
  · rfl
  · rfl
  simp only [pu, sB, s0, sS]
  go_wp2_with fail
  refine (HI.out _ B5.out).mono ?_
  rintro e w6 ⟨rfl, hb⟩
  have B6 := Lib.hid (B5.out.trans (hb.mono B5.out.size))
  have KT6 := Lib.hid (KT5.out.below hb KT5.out.lt)
  have KM6 := Lib.hid (KM5.out.below hb KM5.out.lt)
  have KR6 := Lib.hid (KR5.out.below hb KR5.out.lt)
  clear hb
  clear B5 KT5 KM5 KR5
  go_simp
  rename_i hKK
  refine hKK _ _ ?_
  clear hKK
  try simp only [pu, sB, s0, sS]
  (with_reducible refine rN (v := .bool false) ?_ ?_ ?_); (· rfl); (· go_simp; (try with_reducible rfl)); simp only [pu, sB, s0, sS]
  go_upto_region 4 with fail
  refine wp_region_lit ?_
  (with_reducible refine rN (v := .pointer (some ⟨pM, 0, none⟩)) ?_ ?_ ?_); (· rfl); (· go_simp; (try rfl)); simp only [pu, sB, s0, sS]
  with_reducible refine wpList_loadV (.tmp 15) (j := 0) (v := .int .i64 13) ?_ ?_ KM6.out ?_ Tryz.underlying3 ?_ ?_
  · rfl
  · rfl
  · exact mO_0
  · rfl
  simp only [pu, sB, s0, sS]
  go_upto_region 5 with fail
  refine wp_region_lit ?_
  iterate 2 ((with_reducible refine rN (v := .bool false) ?_ ?_ ?_); (· rfl); (· go_simp; (try with_reducible rfl)); simp only [pu, sB, s0, sS])
  go_upto_region 7 with fail
  refine wp_region_lit ?_
  iterate 2 ((with_reducible refine rN (v := .bool false) ?_ ?_ ?_); (· rfl); (· go_simp; (try with_reducible rfl)); simp only [pu, sB, s0, sS])
  go_upto_region 9 with fail
  refine wp_region_lit ?_
  iterate 2 ((with_reducible refine rN (v := .bool false) ?_ ?_ ?_); (· rfl); (· go_simp; (try with_reducible rfl)); simp only [pu, sB, s0, sS])
  go_upto_region 11 with fail
  refine wp_region_lit ?_
  iterate 2 ((with_reducible refine rN (v := .bool false) ?_ ?_ ?_); (· rfl); (· go_simp; (try with_reducible rfl)); simp only [pu, sB, s0, sS])
  go_upto_region 13 with fail
  refine wp_region_lit ?_
  iterate 2 ((with_reducible refine rN (v := .bool false) ?_ ?_ ?_); (· rfl); (· go_simp; (try with_reducible rfl)); simp only [pu, sB, s0, sS])
  go_upto_region 15 with fail
  refine wp_region_lit ?_
  iterate 2 ((with_reducible refine rN (v := .bool false) ?_ ?_ ?_); (· rfl); (· go_simp; (try with_reducible rfl)); simp only [pu, sB, s0, sS])
  go_upto_region 17 with fail
  refine wp_region_lit ?_
  iterate 2 ((with_reducible refine rN (v := .bool false) ?_ ?_ ?_); (· rfl); (· go_simp; (try with_reducible rfl)); simp only [pu, sB, s0, sS])
  go_upto_region 19 with fail
  refine wp_region_lit ?_
  iterate 2 ((with_reducible refine rN (v := .bool false) ?_ ?_ ?_); (· rfl); (· go_simp; (try with_reducible rfl)); simp only [pu, sB, s0, sS])
  go_upto_region 21 with fail
  refine wp_region_lit ?_
  iterate 2 ((with_reducible refine rN (v := .bool false) ?_ ?_ ?_); (· rfl); (· go_simp; (try with_reducible rfl)); simp only [pu, sB, s0, sS])
  go_upto_region 23 with fail
  refine wp_region_lit ?_
  iterate 2 ((with_reducible refine rN (v := .bool false) ?_ ?_ ?_); (· rfl); (· go_simp; (try with_reducible rfl)); simp only [pu, sB, s0, sS])
  go_upto_region 25 with fail
  refine wp_region_lit ?_
  iterate 2 ((with_reducible refine rN (v := .bool false) ?_ ?_ ?_); (· rfl); (· go_simp; (try with_reducible rfl)); simp only [pu, sB, s0, sS])
  go_upto_region 27 with fail
  refine wp_region_lit ?_
  iterate 2 ((with_reducible refine rN (v := .bool false) ?_ ?_ ?_); (· rfl); (· go_simp; (try with_reducible rfl)); simp only [pu, sB, s0, sS])
  go_upto_region 29 with fail
  refine wp_region_lit ?_
  iterate 2 ((with_reducible refine rN (v := .bool true) ?_ ?_ ?_); (· rfl); (· go_simp; (try with_reducible rfl)); simp only [pu, sB, s0, sS])
  go_upto_region 30 with fail
  have f0 : w6.cell? ⟨pT, 12, none⟩ = some (.int .i64 p) := (KT6.out.cell 12).trans (trC_12 hco)
  have f1 : w6.cell? ⟨pM, 1, none⟩ = some (.int .i64 n) := (KM6.out.cell 1).trans (mO_1)
  have f2 : w6.cell? ⟨pT, 13, none⟩ = some (.int .i64 t) := (KT6.out.cell 13).trans (trC_13 hco)
  have f3 : w6.cell? ⟨pM, 2, none⟩ = some (.int .i64 m) := (KM6.out.cell 2).trans (mO_2)
  refine wp_region_still_tail 11 (by kernel_rfl) (by kernel_rfl) ?_
  simp only [List.take_succ_cons, List.take_zero, List.drop_succ_cons, List.drop_zero]
  still_step
  still_step
  still_step
  still_step
  still_call ((HA1.out _).mono (fun _ _ h => ⟨h.1, h.2.symm⟩))
  still_step
  still_step
  still_step
  still_step
  still_call ((HA2.out _).mono (fun _ _ h => ⟨h.1, h.2.symm⟩))
  still_step
  refine wpStill_nil ?_
  change wpList _ _ _ _ _ w6.drew
  have B7 := Lib.hid (B6.out.drew)
  have KT7 := Lib.hid (KT6.out.drew)
  have KM7 := Lib.hid (KM6.out.drew)
  have KR7 := Lib.hid (KR6.out.drew)
  clear f0 f1 f2 f3
  generalize World.drew _ = w7 at KT7 KM7 KR7 B7 ⊢
  clear B6 KT6 KM6 KR6
  try simp only [pu, sB, s0, sS]
  have KT8 := Lib.hid (KT7.out.stored (o := 12) (vs := [.int .i64 (Num.clampI (Num.clampI p + Num.clampI n))]) (cs' := (trC nm co 0 0 0 (.slice none 0 0) (Num.clampI (Num.clampI p + Num.clampI n)) t k (.slice none 0 0) 0)) (trC_p12 hco))
  have KM8 := Lib.hid (KM7.out.wholeElse ([.int .i64 (Num.clampI (Num.clampI p + Num.clampI n))]) (o := 12) NEMT.out)
  have KR8 := Lib.hid (KR7.out.wholeElse ([.int .i64 (Num.clampI (Num.clampI p + Num.clampI n))]) (o := 12) NERT.out)
  have B8 := Lib.hid (below_whole ([.int .i64 (Num.clampI (Num.clampI p + Num.clampI n))]) (o := 12) B7.out LET.out)
  with_reducible refine wpList_storeV (.tmp 113) (.tmp 107) (j := 12) (v := .int .i64 (Num.clampI (Num.clampI p + Num.clampI n))) ?_ ?_ KT7.out ?_ (by kernel_rfl) (by simp [Value.oneCell']) ?_
  · rfl
  · rfl
  · exact (fit_1 (trC_sz hco) (by decide))
  (try simp only [Act.put])
  generalize World.setCells _ _ _ _ = w8 at KT8 KM8 KR8 B8 ⊢
  clear B7 KT7 KM7 KR7
  (with_reducible refine rN (v := .pointer (some ⟨pT, 13, none⟩)) ?_ ?_ ?_); (· rfl); (· go_simp; (try rfl)); simp only [pu, sB, s0, sS]
  have KT9 := Lib.hid (KT8.out.stored (o := 13) (vs := [.int .i64 (Num.clampI (Num.clampI t + Num.clampI m))]) (cs' := (trC nm co 0 0 0 (.slice none 0 0) (Num.clampI (Num.clampI p + Num.clampI n)) (Num.clampI (Num.clampI t + Num.clampI m)) k (.slice none 0 0) 0)) (trC_p13 hco))
  have KM9 := Lib.hid (KM8.out.wholeElse ([.int .i64 (Num.clampI (Num.clampI t + Num.clampI m))]) (o := 13) NEMT.out)
  have KR9 := Lib.hid (KR8.out.wholeElse ([.int .i64 (Num.clampI (Num.clampI t + Num.clampI m))]) (o := 13) NERT.out)
  have B9 := Lib.hid (below_whole ([.int .i64 (Num.clampI (Num.clampI t + Num.clampI m))]) (o := 13) B8.out LET.out)
  with_reducible refine wpList_storeV (.tmp 114) (.tmp 112) (j := 13) (v := .int .i64 (Num.clampI (Num.clampI t + Num.clampI m))) ?_ ?_ KT8.out ?_ (by kernel_rfl) (by simp [Value.oneCell']) ?_
  · rfl
  · rfl
  · exact (fit_1 (trC_sz hco) (by decide))
  (try simp only [Act.put])
  generalize World.setCells _ _ _ _ = w9 at KT9 KM9 KR9 B9 ⊢
  clear B8 KT8 KM8 KR8
  go_upto_region 33 with fail
  refine wp_region_lit ?_
  with_reducible refine wpList_loadS (.tmp 4) ?_ ?_ KT9.out Tryz.underlying50 ?_ (szTr (trC_sz hco)) ?_
  · rfl
  · rfl
  · rfl
  simp only [pu, sB, s0, sS]
  have KR10 := Lib.hid (KR9.out.stored (o := 0) (vs := (trC nm co 0 0 0 (.slice none 0 0) (Num.clampI (Num.clampI p + Num.clampI n)) (Num.clampI (Num.clampI t + Num.clampI m)) k (.slice none 0 0) 0).toList) (cs' := (trC nm co 0 0 0 (.slice none 0 0) (Num.clampI (Num.clampI p + Num.clampI n)) (Num.clampI (Num.clampI t + Num.clampI m)) k (.slice none 0 0) 0)) (laid_all (trC_sz hco) zTr_cells))
  have KT10 := Lib.hid (KT9.out.wholeElse ((trC nm co 0 0 0 (.slice none 0 0) (Num.clampI (Num.clampI p + Num.clampI n)) (Num.clampI (Num.clampI t + Num.clampI m)) k (.slice none 0 0) 0).toList) (o := 0) NETR.out)
  have KM10 := Lib.hid (KM9.out.wholeElse ((trC nm co 0 0 0 (.slice none 0 0) (Num.clampI (Num.clampI p + Num.clampI n)) (Num.clampI (Num.clampI t + Num.clampI m)) k (.slice none 0 0) 0).toList) (o := 0) NEMR.out)
  have B10 := Lib.hid (below_whole ((trC nm co 0 0 0 (.slice none 0 0) (Num.clampI (Num.clampI p + Num.clampI n)) (Num.clampI (Num.clampI t + Num.clampI m)) k (.slice none 0 0) 0).toList) (o := 0) B9.out LER.out)
  with_reducible refine wpList_storeM (.tmp 8) (.tmp 123) (o := 0) (vs := (trC nm co 0 0 0 (.slice none 0 0) (Num.clampI (Num.clampI p + Num.clampI n)) (Num.clampI (Num.clampI t + Num.clampI m)) k (.slice none 0 0) 0)) ?_ ?_ KR9.out ?_ (szTr (trC_sz hco)) (trC_one hco rfl rfl) ?_
  · rfl
  · rfl
  · exact (fit_2 zTr_cells (trC_sz hco) (by decide))
  (try simp only [Act.put])
  generalize World.setCells _ _ _ _ = w10 at KT10 KM10 KR10 B10 ⊢
  clear B9 KT9 KM9 KR9
  have hL := KR10.out.readS Tryz.underlying50 rfl (szTr (trC_sz hco))
  go_wp2_with fail
  exact bodyPost_ret (v := .agg (trC nm co 0 0 0 (.slice none 0 0) (Num.clampI (Num.clampI p + Num.clampI n)) (Num.clampI (Num.clampI t + Num.clampI m)) k (.slice none 0 0) 0)) (results_cell Tryz.results26 (by rfl) hL) rfl ⟨rfl, B10.out⟩
end Go.Proofs.YthkkabdhmflhiaaGreatDoor
namespace Go.Proofs.YthkkabdhmflhiaaGreatDoor
open Go.RowKit
open Wd (Bs)

/-- '==' of a modification with itself -/
theorem run_eq_modS (k n m : Int) (s : ByteArray) (f : Fil.Flt) (fs : ByteArray) (hf : f.sub = fs.data.toList) (W : World) : (Op.equalIn 10000 27 (.agg (mO k n m s (cellsF f fs))) (.agg (mO k n m s (cellsF f fs)))).run Tryz.prog W = .ok true W := by
  have := run_eq_mod k n m k n m s s f f fs fs hf hf W
  rw [eqMo_iff.2 rfl] at this
  exact this
theorem run_eq_selfX (x : Mo.Md) (W : World) : (Op.equalIn 10000 27 (.agg (cellsX x)) (.agg (cellsX x))).run Tryz.prog W = .ok true W := run_eq_modS x.k x.n x.m ⟨x.sub.toArray⟩ x.f (fsOf x.f) (fsOf_sub x.f) W
theorem ex13_ok : Mo.okB ⟨13, 2, -1, [], Fil.zero⟩ = true := by
  rw [Mo.ok_13 (v1 := true) (v2 := true) rfl (by decide) (by decide)]
  simp [eqMo_iff]
theorem ex8_ok : Mo.okB ⟨8, 4, 0, [], Fil.zero⟩ = true := by
  rw [Mo.ok_8 (v1 := true) (v2 := true) (.inl rfl) (by decide)]
  simp [eqMo_iff]
theorem ex6_ok : Mo.okB ⟨6, 0, 0, [], Fil.zero⟩ = true := by
  rw [Mo.ok_6 (v := true) rfl (by decide)]
  simp [eqMo_iff]
theorem ex1_ok : Mo.okB ⟨1, 0, 0, [], Fil.zero⟩ = true := by
  rw [Mo.ok_1 (.inl rfl)]
  simp [eqMo_iff]
theorem ex10_ok : Mo.okB ⟨10, 0, 0, [], Fil.zero⟩ = true := by
  rw [Mo.ok_1 (.inr (.inl rfl))]
  simp [eqMo_iff]
theorem ex13_text : Mo.textM ⟨13, 2, -1, [], Fil.zero⟩ = [112, 116, 43, 61, 50, 47, 45, 49] := by
  rw [Mo.textM_ok ex13_ok]
  have h : Mo.raw ⟨13, 2, -1, [], Fil.zero⟩ = Mo.sPtA ++ Mo.pairS 2 (-1) := by simp [Mo.raw]
  rw [h]
  decide +kernel
theorem ex6_text : Mo.textM ⟨6, 0, 0, [], Fil.zero⟩ = [99, 111, 108, 111, 114, 115, 61, 110, 111, 110, 101] := by
  rw [Mo.textM_ok ex6_ok]
  have h : Mo.raw ⟨6, 0, 0, [], Fil.zero⟩ = Mo.sColors ++ Col.textN 0 := by simp [Mo.raw]
  rw [h]
  decide +kernel
def exL2 : List Mo.Md := [⟨1, 0, 0, [], Fil.zero⟩, ⟨10, 0, 0, [], Fil.zero⟩]
theorem exL2_ok : Mo.listB exL2 = true := by
  unfold Mo.listB exL2
  simp [ex1_ok, ex10_ok]
theorem exL2_text : Mo.listT exL2 = [99, 111, 110, 116, 114, 111, 108, 44, 32, 98, 108, 97, 110, 107] := by
  unfold Mo.listT
  rw [if_pos exL2_ok]
  have h : exL2.map Mo.raw = [Mo.sControl, Mo.sBlank] := by simp [exL2, Mo.raw]
  rw [h]
  decide
theorem num_2 : Num.numberL [50] = some 2 := by
  have := Num.numberL_itoa_in (n := 2) (by decide) (by decide)
  rwa [show Lib.itoa 2 = [50] by decide +kernel] at this
theorem num_m1 : Num.numberL [45, 49] = some (-1) := by
  have := Num.numberL_itoa_in (n := -1) (by decide) (by decide)
  rwa [show Lib.itoa (-1) = [45, 49] by decide +kernel] at this
theorem cut_ex : Wd.cut [50, 47, 45, 49] [47] = ([50], [45, 49], true) := by decide +kernel
theorem tail_ex : Mo.tailM 13 [50, 47, 45, 49] = ⟨13, 2, -1, [], Fil.zero⟩ := by
  rw [Mo.tail_12 (.inr rfl), cut_ex]
  unfold Fil.num
  simp only [num_2, num_m1, Option.getD_some]
  rfl
theorem rdEx13 (r : ByteArray) (hr : r.data.toList = [50, 47, 45, 49]) (w : World) (hE : Env w) :
    Calls Tryz.prog 88 #[.int .i64 13, .string r] w fun e w' => e = .returned (.agg (mO 13 2 (-1) ⟨#[]⟩ cellsZ)) ∧ Below w.heap.size w w' := by
  have hsl : r.data.toList.length = r.size := Array.length_toList
  rw [hr] at hsl
  refine rdS13 r ⟨#[50]⟩ ⟨#[45, 49]⟩ true true true 2 (-1) w (Lib.hid fun W _ => ?_) (Lib.hid fun W hb => ?_) (Lib.hid fun W hb => ?_)
  · refine (wordCutFar r ⟨#[47]⟩ W (by rw [← hsl]; decide) (by decide)).mono ?_
    rintro e w1 ⟨h1, h2⟩
    have h1' : e = .returned (cutV (Wd.cut r.data.toList [47])) := h1
    rw [hr, cut_ex] at h1'
    exact ⟨h1', h2⟩
  · refine (numNumber ⟨#[50]⟩ (by decide) W (hE.below hb).num).mono ?_
    rintro e w1 ⟨h1, h2⟩
    unfold numRes at h1
    rw [show (ByteArray.mk #[50]).data.toList = [50] from rfl, num_2] at h1
    exact ⟨h1, h2⟩
  · refine (numNumber ⟨#[45, 49]⟩ (by decide) W (hE.below hb).num).mono ?_
    rintro e w1 ⟨h1, h2⟩
    unfold numRes at h1
    rw [show (ByteArray.mk #[45, 49]).data.toList = [45, 49] from rfl, num_m1] at h1
    exact ⟨h1, h2⟩
/-- read where one head only is a prefix -/
theorem readOne (t : ByteArray) (k : Nat) (x : Mo.Md) (w : World) (ht : t.size ≤ 1000000) (h1 : ∀ j, j < 15 → Mo.hitH t.data.toList j = true → j = k) (hx : Mo.tailM k (t.data.toList.drop (Mo.headL k).length) = x)
    (H : Hid (∀ (r : ByteArray) W, r.data.toList = t.data.toList.drop (Mo.headL k).length → Below w.heap.size w W → Calls Tryz.prog 88 #[.int .i64 (k : Int), .string r] W fun e w' => e = .returned (.agg (cellsX x)) ∧ Below W.heap.size W w')) :
    Calls Tryz.prog 44 #[.string t] w fun e w' => e = .returned (.agg (cellsX (Mo.readM t.data.toList))) ∧ Below w.heap.size w w' :=
  readW t w ht (Lib.hid fun j W _ => cutPre t ⟨(Mo.headL j).toArray⟩ W) (Lib.hid fun j r W hj _ _ hh hr hb => by
    obtain rfl := h1 j hj hh
    rw [hr, hx]
    exact H.out r W hr hb)
theorem parse13 (w : World) (hE : Env w) : Calls Tryz.prog 18 #[.string ⟨#[112, 116, 43, 61, 50, 47, 45, 49]⟩] w fun e w' => e = .returned (.tuple #[.agg (mO 13 2 (-1) ⟨#[]⟩ cellsZ), .int .i64 0]) ∧ Below w.heap.size w w' := by
  have P1 := Mo.p_text ex13_ok
  rw [ex13_text] at P1
  have e0 : (ByteArray.mk #[112, 116, 43, 61, 50, 47, 45, 49]).data.toList = [112, 116, 43, 61, 50, 47, 45, 49] := rfl
  have := modParseOf ⟨#[112, 116, 43, 61, 50, 47, 45, 49]⟩ (by decide) w hE (Lib.hid fun W hb => readOne _ 13 ⟨13, 2, -1, [], Fil.zero⟩ W (by decide) (by rw [e0]; decide) (by rw [e0]; exact tail_ex) (Lib.hid fun r W2 hr hb2 => rdEx13 r hr W2 ((hE.below hb).below hb2)))
  rw [e0, P1.1, P1.2] at this
  exact this
theorem parseC (w : World) (hE : Env w) : Calls Tryz.prog 18 #[.string ⟨Mo.sControl.toArray⟩] w fun e w' => e = .returned (.tuple #[.agg (cellsX (Mo.pV Mo.sControl)), .int .i64 (Mo.pE Mo.sControl)]) ∧ Below w.heap.size w w' := by
  have e0 : (ByteArray.mk Mo.sControl.toArray).data.toList = Mo.sControl := by decide
  have := modParseOf ⟨Mo.sControl.toArray⟩ (by decide) w hE (Lib.hid fun W _ => readOne _ 1 ⟨1, 0, 0, [], Fil.zero⟩ W (by decide) (by rw [e0]; decide) (by rw [Mo.tail_else (by decide) (by decide) (by decide) (by decide) (by decide) (by decide)]; rfl) (Lib.hid fun r W2 _ _ => rdSk 1 r W2 rfl rfl rfl rfl rfl rfl rfl rfl rfl rfl rfl))
  rw [e0] at this
  exact this
theorem parseB (w : World) (hE : Env w) : Calls Tryz.prog 18 #[.string ⟨Mo.sBlank.toArray⟩] w fun e w' => e = .returned (.tuple #[.agg (cellsX (Mo.pV Mo.sBlank)), .int .i64 (Mo.pE Mo.sBlank)]) ∧ Below w.heap.size w w' := by
  have e0 : (ByteArray.mk Mo.sBlank.toArray).data.toList = Mo.sBlank := by decide
  have := modParseOf ⟨Mo.sBlank.toArray⟩ (by decide) w hE (Lib.hid fun W _ => readOne _ 10 ⟨10, 0, 0, [], Fil.zero⟩ W (by decide) (by rw [e0]; decide) (by rw [Mo.tail_else (by decide) (by decide) (by decide) (by decide) (by decide) (by decide)]; rfl) (Lib.hid fun r W2 _ _ => rdSk 10 r W2 rfl rfl rfl rfl rfl rfl rfl rfl rfl rfl rfl))
  rw [e0] at this
  exact this
theorem pieces_ex : Mo.pieces [99, 111, 110, 116, 114, 111, 108, 44, 32, 98, 108, 97, 110, 107] = [Mo.sControl, Mo.sBlank] := by decide +kernel
theorem piece_ex {ps : List Bs} {p r q : Bs} {m : Bool} (h : Mo.Inv [99, 111, 110, 116, 114, 111, 108, 44, 32, 98, 108, 97, 110, 107] ps r true) (hc : Wd.cut r Mo.sep = (p, q, m)) : p = Mo.sControl ∨ p = Mo.sBlank := by
  have hg := h.go rfl
  rw [pieces_ex] at hg
  have hj := Mo.join_pieces r
  match ps, hg with
  | [], hg =>
    rw [List.nil_append] at hg
    rw [← hg] at hj
    rw [← hj, show Wd.cut (Lib.join [Mo.sControl, Mo.sBlank] Mo.sep) Mo.sep = (Mo.sControl, Mo.sBlank, true) by decide +kernel] at hc
    exact .inl (Prod.mk.inj hc).1.symm
  | [x], hg =>
    have h2 : [Mo.sBlank] = Mo.pieces r := (List.cons.inj hg).2
    rw [← h2] at hj
    rw [← hj, show Wd.cut (Lib.join [Mo.sBlank] Mo.sep) Mo.sep = (Mo.sBlank, [], false) by decide +kernel] at hc
    exact .inr (Prod.mk.inj hc).1.symm
  | x :: y :: z, hg =>
    have h2 : [] = z ++ Mo.pieces r := (List.cons.inj (List.cons.inj hg).2).2
    exact absurd (List.append_eq_nil_iff.1 h2.symm).2 (Mo.pieces_ne r)
theorem modAliveS (w : World) (hE : Env w) : Calls Tryz.prog 11 #[] w fun e w' => e = .returned (.bool true) ∧ Below w.heap.size w w' := by
  have P2 := Mo.lB_text exL2_ok
  rw [exL2_text] at P2
  refine aliveWalk w (Lib.hid fun W hb => parse13 W (hE.below hb)) (Lib.hid fun W hb => ?_) (Lib.hid fun W hb => ?_) (Lib.hid fun W hb => ?_) (Lib.hid fun W hb => ?_) (Lib.hid fun W _ => same_below (modStage 14 W)) (fun W => run_eq_selfX ⟨13, 2, -1, [], Fil.zero⟩ W)
  · have HI : Hid (∀ W2, Below W.heap.size W W2 → _) := Lib.hid fun W2 hb2 => modIs 13 2 (-1) ⟨#[]⟩ Fil.zero ⟨#[]⟩ rfl (by decide) (by decide) W2 ((hE.below hb).below hb2)
    rw [show Mo.okB ⟨13, 2, -1, (ByteArray.mk #[]).data.toList, Fil.zero⟩ = true from ex13_ok] at HI
    have hA := apS13 ⟨#[]⟩ coZ 1 1 0 2 (-1) ⟨#[]⟩ Fil.zero ⟨#[]⟩ 0 0 W coZ_part HI (Lib.hid fun W => numAdd 1 2 W) (Lib.hid fun W => numAdd 1 (-1) W)
    rw [show Num.clampI (Num.clampI 1 + Num.clampI 2) = 3 by decide, show Num.clampI (Num.clampI 1 + Num.clampI (-1)) = 0 by decide] at hA
    refine hA.mono ?_
    rintro e w1 ⟨rfl, h2⟩
    exact ⟨⟨_, _, _, _, _, _, rfl⟩, h2⟩
  · have HI : Hid (∀ W2, Below W.heap.size W W2 → _) := Lib.hid fun W2 hb2 => modIs 8 4 0 ⟨#[]⟩ Fil.zero ⟨#[]⟩ rfl (by decide) (by decide) W2 ((hE.below hb).below hb2)
    rw [show Mo.okB ⟨8, 4, 0, (ByteArray.mk #[]).data.toList, Fil.zero⟩ = true from ex8_ok] at HI
    have hA := apS8 ⟨#[]⟩ coZ 0 0 1 4 0 ⟨#[]⟩ Fil.zero ⟨#[]⟩ 0 0 W coZ_part HI
    rw [show bits .or .i64 1 4 = 5 by decide +kernel] at hA
    refine hA.mono ?_
    rintro e w1 ⟨rfl, h2⟩
    exact ⟨⟨_, _, _, _, _, _, rfl⟩, h2⟩
  · have e1 : (ByteArray.mk #[99, 111, 110, 116, 114, 111, 108, 44, 32, 98, 108, 97, 110, 107]).data.toList = [99, 111, 110, 116, 114, 111, 108, 44, 32, 98, 108, 97, 110, 107] := rfl
    have := modParseListOf ⟨#[99, 111, 110, 116, 114, 111, 108, 44, 32, 98, 108, 97, 110, 107]⟩ (by decide) W (Lib.hid fun ps p r q m hi hc _ W2 hb2 => by
      rw [e1] at hi
      rcases piece_ex hi hc with rfl | rfl
      · exact parseC W2 ((hE.below hb).below hb2)
      · exact parseB W2 ((hE.below hb).below hb2))
    refine this.mono ?_
    rintro e w1 ⟨v, rfl, h1, h2⟩
    rw [e1] at h1 ⊢
    have e0 : Mo.lE [99, 111, 110, 116, 114, 111, 108, 44, 32, 98, 108, 97, 110, 107] = 0 := by unfold Mo.lE; rw [if_pos P2.1]
    rw [P2.2] at h1
    have h3 : RowS 20 w1 v [mO 1 0 0 ⟨#[]⟩ cellsZ, mO 10 0 0 ⟨#[]⟩ cellsZ] := h1.row
    obtain ⟨ad, cap, rfl⟩ := h3.slice
    rw [e0]
    exact ⟨⟨ad, cap, rfl, h3⟩, h2⟩
  · have := modText 6 0 0 ⟨#[]⟩ Fil.zero ⟨#[]⟩ rfl (by decide) (by decide) W (hE.below hb)
    rw [show Mo.textM ⟨6, 0, 0, (ByteArray.mk #[]).data.toList, Fil.zero⟩ = _ from ex6_text] at this
    exact this
theorem modShort (k n m : Int) (s : ByteArray) (f : Fil.Flt) (fs : ByteArray) (w : World) :
    Calls Tryz.prog 10 #[.agg (mO k n m s (cellsF f fs))] w fun e w' => e = .returned (.bool (decide ((s.size : Int) ≤ 100) && decide ((fs.size : Int) ≤ 100))) ∧ Below w.heap.size w w' := shortW k n m s f fs _ _ w rfl rfl
end Go.Proofs.YthkkabdhmflhiaaGreatDoor
