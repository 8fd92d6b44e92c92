/-
 MERGED: ModRPl, ModRUs, ModRIs, FNumAR, ModRefIs. By an AI agent.
-/
import Derived.Test.YtbcgkeclmioeiaaGreatDoorSwGA
import Derived.Deep.CutBlock
import Derived.Deep.DeepCutAuto
import Derived.Deep.Cut
import Derived.Test.YtbcgkeclmioeiaaGreatDoorSwGD
import Derived.Test.YtbcgkeclmioeiaaGreatDoorFNumR
import Derived.Test.YtbcgkeclmioeiaaGreatDoorSwGE
import Derived.Test.YtbcgkeclmioeiaaGreatDoorFilRefIs
import Derived.Test.YtbcgkeclmioeiaaGreatDoorFLineR
namespace Go.Proofs.YtbcgkeclmioeiaaGreatDoor
open Go.RowKit
theorem mO_p0 {k n m x : Int} {s : ByteArray} {F : Array Value} : laidAt (mO k n m s F) 0 [.int .i64 x] = mO x n m s F := cat_put [] _ _ _ (o := 0) rfl
end Go.Proofs.YtbcgkeclmioeiaaGreatDoor
namespace Go.Proofs.YtbcgkeclmioeiaaGreatDoor.Mo

def usedZ (x : Md) : Md :=
 if x.k = 2 ∨ x.k = 3 ∨ x.k = 6 ∨ x.k = 7 ∨ x.k = 8 ∨ x.k = 9 then ⟨0, 0, x.m, x.sub, x.f⟩
 else if x.k = 4 ∨ x.k = 5 then ⟨0, x.n, x.m, [], x.f⟩
 else if x.k = 11 then ⟨0, x.n, x.m, x.sub, Fil.zero⟩
 else if x.k = 12 ∨ x.k = 13 then ⟨0, 0, 0, x.sub, x.f⟩
 else ⟨0, x.n, x.m, x.sub, x.f⟩
section
variable {k n m : Int} {s : Bs} {f : Fil.Flt}
theorem usedZ_n (h : k = 2 ∨ k = 3 ∨ k = 6 ∨ k = 7 ∨ k = 8 ∨ k = 9) : usedZ ⟨k, n, m, s, f⟩ = ⟨0, 0, m, s, f⟩ := by unfold usedZ; rw [if_pos h]
theorem usedZ_s (h : k = 4 ∨ k = 5) : usedZ ⟨k, n, m, s, f⟩ = ⟨0, n, m, [], f⟩ := by unfold usedZ; rw [if_neg (by simp only; omega), if_pos h]
theorem usedZ_f (h : k = 11) : usedZ ⟨k, n, m, s, f⟩ = ⟨0, n, m, s, Fil.zero⟩ := by unfold usedZ; rw [if_neg (by simp only; omega), if_neg (by simp only; omega), if_pos h]
theorem usedZ_p (h : k = 12 ∨ k = 13) : usedZ ⟨k, n, m, s, f⟩ = ⟨0, 0, 0, s, f⟩ := by unfold usedZ; rw [if_neg (by simp only; omega), if_neg (by simp only; omega), if_neg (by simp only; omega), if_pos h]
theorem usedZ_else (h1 : ¬ (k = 2 ∨ k = 3 ∨ k = 6 ∨ k = 7 ∨ k = 8 ∨ k = 9)) (h2 : ¬ (k = 4 ∨ k = 5)) (h3 : ¬ k = 11) (h4 : ¬ (k = 12 ∨ k = 13)) : usedZ ⟨k, n, m, s, f⟩ = ⟨0, n, m, s, f⟩ := by unfold usedZ; rw [if_neg h1, if_neg h2, if_neg h3, if_neg h4]
end
/-- the reference's test and the program's agree -/
theorem used_both (x : Md) : eqMo (usedZ x) zero = eqMo x (usedM x) := by
 obtain ⟨k, n, m, s, f⟩ := x
 rw [Bool.eq_iff_iff, eqMo_iff, eqMo_iff]
 by_cases h1 : k = 2 ∨ k = 3 ∨ k = 6 ∨ k = 7 ∨ k = 8 ∨ k = 9
 ·rw [usedZ_n h1]
  simp [usedM, h1, zero]
 by_cases h2 : k = 4 ∨ k = 5
 ·rw [usedZ_s h2]
  simp [usedM, h1, h2, zero]
 by_cases h3 : k = 11
 ·rw [usedZ_f h3]
  simp [usedM, h3, zero]
 by_cases h4 : k = 12 ∨ k = 13
 ·rw [usedZ_p h4]
  simp [usedM, h1, h2, h3, h4, zero]
 ·rw [usedZ_else h1 h2 h3 h4]
  simp [usedM, h1, h2, h3, h4, zero]
end Go.Proofs.YtbcgkeclmioeiaaGreatDoor.Mo
namespace Go.Proofs.YtbcgkeclmioeiaaGreatDoor
open Go.RowKit
open Wd (Bs)

set_option maxHeartbeats 8000000 in
set_option maxRecDepth 100000 in
theorem usedIn (k n m : Int) (s : ByteArray) (f : Fil.Flt) (fs : ByteArray) (w : World)
  (hf : f.sub = fs.data.toList) :
  Calls Tryz.prog 102 #[.agg (mO k n m s (cellsF f fs))] w fun e w' => e = .returned (.agg (cellsX (Mo.usedZ ⟨k, n, m, s.data.toList, f⟩))) ∧ Below w.heap.size w w' := by

 have B0 := Lib.hid (Below.refl w.heap.size w)
 go_enter Tryz.func102, Tryz.ntmps102
 go_upto_region 0 with fail
 refine wp_region_lit ?_
 obtain ⟨w1, hw⟩ : ∃ v, v = w.alloc (.cells (mO k n m s (cellsF f fs)) 39) := ⟨_, rfl⟩
 obtain ⟨pA, hp⟩ : ∃ v, v = w.heap.size := ⟨_, rfl⟩
 have B1 : Hid (Below w.heap.size w w1) := Lib.hid (by rw [hw]; exact B0.out.alloc B0.out.size _)
 have LEA : Hid (w.heap.size ≤ pA) := Lib.hid (by rw [hp]; exact B0.out.size)
 have KA1 : Hid (Blk w1 pA (mO k n m s (cellsF f fs)) 39) := Lib.hid (by rw [hw, hp]; exact Blk.new _ _ _)
 with_reducible refine wpList_runWV (some 1) (v := .pointer (some ⟨pA, 0, none⟩)) (w' := w1) ?_ ?_ ?_ ?_
 ·rfl
 ·rfl
 ·rw [hw, hp]; (go_simp; (try rfl))
 simp only [pu, sB, s0, sS]
 clear hw hp
 clear B0
 obtain ⟨w2, hw⟩ : ∃ v, v = w1.alloc (.cells (mO 0 0 0 ⟨#[]⟩ cellsZ) 39) := ⟨_, rfl⟩
 obtain ⟨pR, hp⟩ : ∃ v, v = w1.heap.size := ⟨_, rfl⟩
 have B2 : Hid (Below w.heap.size w w2) := Lib.hid (by rw [hw]; exact B1.out.alloc B1.out.size _)
 have LER : Hid (w.heap.size ≤ pR) := Lib.hid (by rw [hp]; exact B1.out.size)
 have KA2 := Lib.hid (show Blk w2 pA (mO k n m s (cellsF f fs)) 39 by rw [hw]; exact KA1.out.alloc _)
 have NEAR : Hid (pA ≠ pR) := Lib.hid (by rw [hp]; exact Nat.ne_of_lt KA1.out.lt)
 have NERA : Hid (pR ≠ pA) := Lib.hid (Ne.symm NEAR.out)
 have KR2 : Hid (Blk w2 pR (mO 0 0 0 ⟨#[]⟩ cellsZ) 39) := Lib.hid (by rw [hw, hp]; exact Blk.new _ _ _)
 with_reducible refine wpList_runWV (some 2) (v := .pointer (some ⟨pR, 0, none⟩)) (w' := w2) ?_ ?_ ?_ ?_
 ·rfl
 ·rfl
 ·rw [hw, hp]; (go_simp; (try rfl))
 simp only [pu, sB, s0, sS]
 clear hw hp
 clear B1 KA1
 go_upto_region 1 with fail
 refine wp_region_lit ?_
 (with_reducible refine rN (v := .pointer (some ⟨pA, 0, none⟩)) ?_ ?_ ?_); (· rfl); (· go_simp; (try rfl)); simp only [pu, sB, s0, sS]
 with_reducible refine wpList_loadV (.tmp 4) (j := 0) (v := .int .i64 k) ?_ ?_ KA2.out ?_ Tryz.underlying3 ?_ ?_
 ·rfl
 ·rfl
 ·exact mO_0
 ·rfl
 simp only [pu, sB, s0, sS]
 (with_reducible refine rN (v := ?_) ?_ ?_ ?_); rotate_left; (· rfl); (· go_simp; (try with_reducible rfl)); simp only [pu, sB, s0, sS]
 go_upto_region 2 with fail
 refine wp_region_lit ?_
 (with_reducible refine rN (v := .pointer (some ⟨pA, 0, none⟩)) ?_ ?_ ?_); (· rfl); (· go_simp; (try rfl)); simp only [pu, sB, s0, sS]
 have KA3 := Lib.hid (KA2.out.stored (o := 0) (vs := [.int .i64 0]) (cs' := (mO 0 n m s (cellsF f fs))) (mO_p0))
 have KR3 := Lib.hid (KR2.out.wholeElse ([.int .i64 0]) (o := 0) NERA.out)
 have B3 := Lib.hid (below_whole ([.int .i64 0]) (o := 0) B2.out LEA.out)
 with_reducible refine wpList_storeV (.tmp 6) (.const (.int .i64 0)) (j := 0) (v := .int .i64 0) ?_ ?_ KA2.out ?_ (by kernel_rfl) (by simp [Value.oneCell']) ?_
 ·rfl
 ·rfl
 ·exact (fit_1 (mO_sz (cellsF_size f fs)) (by decide))
 (try simp only [Act.put])
 generalize World.setCells _ _ _ _ = w3 at KA3 KR3 B3 ⊢
 clear B2 KA2 KR2
 go_upto_region 3 with fail
 refine wp_region_lit ?_
 (with_reducible refine rN (v := ?_) ?_ ?_ ?_); rotate_left; (· rfl); (· go_simp; (try with_reducible rfl)); simp only [pu, sB, s0, sS]
 go_upto_block 0 with fail
 go_cut [] (fun wx => Hid (Blk wx pA (cellsX (Mo.usedZ ⟨k, n, m, s.data.toList, f⟩)) 39) ∧ Hid (Blk wx pR (mO 0 0 0 ⟨#[]⟩ cellsZ) 39) ∧ Hid (Below w.heap.size w wx))
 case first =>
  by_cases e2 : k = 2
  ·have ek : (k == 2) = true := by simpa using e2
   have hE := Lib.hid e2
   clear e2
   go_upto_region 4 with fail
   refine wp_region_lit ?_
   iterate 2 ((with_reducible refine rN (v := .bool true) ?_ ?_ ?_); (· rfl); (· go_simp; (try with_reducible rfl)); simp only [pu, sB, s0, sS])
   go_upto_region 10 with fail
   refine wp_region_lit ?_
   (with_reducible refine rN (v := .pointer (some ⟨pA, 1, none⟩)) ?_ ?_ ?_); (· rfl); (· go_simp; (try rfl)); simp only [pu, sB, s0, sS]
   have KA4 := Lib.hid (KA3.out.stored (o := 1) (vs := [.int .i64 0]) (cs' := (mO 0 0 m s (cellsF f fs))) (mO_p1))
   have KR4 := Lib.hid (KR3.out.wholeElse ([.int .i64 0]) (o := 1) NERA.out)
   have B4 := Lib.hid (below_whole ([.int .i64 0]) (o := 1) B3.out LEA.out)
   with_reducible refine wpList_storeV (.tmp 15) (.const (.int .i64 0)) (j := 1) (v := .int .i64 0) ?_ ?_ KA3.out ?_ (by kernel_rfl) (by simp [Value.oneCell']) ?_
   ·rfl
   ·rfl
   ·exact (fit_1 (mO_sz (cellsF_size f fs)) (by decide))
   (try simp only [Act.put])
   generalize World.setCells _ _ _ _ = w4 at KA4 KR4 B4 ⊢
   clear B3 KA3 KR3
   go_wp2_with fail
   go_meet
   exact ⟨Lib.hid (by rw [Mo.usedZ_n (by have h := hE.out; omega)]; have h := KA4.out; rw [cellsX_of hf] at h; exact h), KR4, B4⟩
  have n2 : (k == 2) = false := by simpa using e2
  go_upto_region 4 with fail
  refine wp_region_lit ?_
  iterate 2 ((with_reducible refine rN (v := .bool false) ?_ ?_ ?_); (· rfl); (· go_simp; (try with_reducible rfl)); simp only [pu, sB, s0, sS])
  by_cases e3 : k = 3
  ·have ek : (k == 3) = true := by simpa using e3
   have hE := Lib.hid e3
   clear e3
   go_upto_region 5 with fail
   refine wp_region_lit ?_
   iterate 2 ((with_reducible refine rN (v := .bool true) ?_ ?_ ?_); (· rfl); (· go_simp; (try with_reducible rfl)); simp only [pu, sB, s0, sS])
   go_upto_region 10 with fail
   refine wp_region_lit ?_
   (with_reducible refine rN (v := .pointer (some ⟨pA, 1, none⟩)) ?_ ?_ ?_); (· rfl); (· go_simp; (try rfl)); simp only [pu, sB, s0, sS]
   have KA4 := Lib.hid (KA3.out.stored (o := 1) (vs := [.int .i64 0]) (cs' := (mO 0 0 m s (cellsF f fs))) (mO_p1))
   have KR4 := Lib.hid (KR3.out.wholeElse ([.int .i64 0]) (o := 1) NERA.out)
   have B4 := Lib.hid (below_whole ([.int .i64 0]) (o := 1) B3.out LEA.out)
   with_reducible refine wpList_storeV (.tmp 15) (.const (.int .i64 0)) (j := 1) (v := .int .i64 0) ?_ ?_ KA3.out ?_ (by kernel_rfl) (by simp [Value.oneCell']) ?_
   ·rfl
   ·rfl
   ·exact (fit_1 (mO_sz (cellsF_size f fs)) (by decide))
   (try simp only [Act.put])
   generalize World.setCells _ _ _ _ = w4 at KA4 KR4 B4 ⊢
   clear B3 KA3 KR3
   go_wp2_with fail
   go_meet
   exact ⟨Lib.hid (by rw [Mo.usedZ_n (by have h := hE.out; omega)]; have h := KA4.out; rw [cellsX_of hf] at h; exact h), KR4, B4⟩
  have n3 : (k == 3) = false := by simpa using e3
  go_upto_region 5 with fail
  refine wp_region_lit ?_
  iterate 2 ((with_reducible refine rN (v := .bool false) ?_ ?_ ?_); (· rfl); (· go_simp; (try with_reducible rfl)); simp only [pu, sB, s0, sS])
  by_cases e6 : k = 6
  ·have ek : (k == 6) = true := by simpa using e6
   have hE := Lib.hid e6
   clear e6
   go_upto_region 6 with fail
   refine wp_region_lit ?_
   iterate 2 ((with_reducible refine rN (v := .bool true) ?_ ?_ ?_); (· rfl); (· go_simp; (try with_reducible rfl)); simp only [pu, sB, s0, sS])
   go_upto_region 10 with fail
   refine wp_region_lit ?_
   (with_reducible refine rN (v := .pointer (some ⟨pA, 1, none⟩)) ?_ ?_ ?_); (· rfl); (· go_simp; (try rfl)); simp only [pu, sB, s0, sS]
   have KA4 := Lib.hid (KA3.out.stored (o := 1) (vs := [.int .i64 0]) (cs' := (mO 0 0 m s (cellsF f fs))) (mO_p1))
   have KR4 := Lib.hid (KR3.out.wholeElse ([.int .i64 0]) (o := 1) NERA.out)
   have B4 := Lib.hid (below_whole ([.int .i64 0]) (o := 1) B3.out LEA.out)
   with_reducible refine wpList_storeV (.tmp 15) (.const (.int .i64 0)) (j := 1) (v := .int .i64 0) ?_ ?_ KA3.out ?_ (by kernel_rfl) (by simp [Value.oneCell']) ?_
   ·rfl
   ·rfl
   ·exact (fit_1 (mO_sz (cellsF_size f fs)) (by decide))
   (try simp only [Act.put])
   generalize World.setCells _ _ _ _ = w4 at KA4 KR4 B4 ⊢
   clear B3 KA3 KR3
   go_wp2_with fail
   go_meet
   exact ⟨Lib.hid (by rw [Mo.usedZ_n (by have h := hE.out; omega)]; have h := KA4.out; rw [cellsX_of hf] at h; exact h), KR4, B4⟩
  have n6 : (k == 6) = false := by simpa using e6
  go_upto_region 6 with fail
  refine wp_region_lit ?_
  iterate 2 ((with_reducible refine rN (v := .bool false) ?_ ?_ ?_); (· rfl); (· go_simp; (try with_reducible rfl)); simp only [pu, sB, s0, sS])
  by_cases e7 : k = 7
  ·have ek : (k == 7) = true := by simpa using e7
   have hE := Lib.hid e7
   clear e7
   go_upto_region 7 with fail
   refine wp_region_lit ?_
   iterate 2 ((with_reducible refine rN (v := .bool true) ?_ ?_ ?_); (· rfl); (· go_simp; (try with_reducible rfl)); simp only [pu, sB, s0, sS])
   go_upto_region 10 with fail
   refine wp_region_lit ?_
   (with_reducible refine rN (v := .pointer (some ⟨pA, 1, none⟩)) ?_ ?_ ?_); (· rfl); (· go_simp; (try rfl)); simp only [pu, sB, s0, sS]
   have KA4 := Lib.hid (KA3.out.stored (o := 1) (vs := [.int .i64 0]) (cs' := (mO 0 0 m s (cellsF f fs))) (mO_p1))
   have KR4 := Lib.hid (KR3.out.wholeElse ([.int .i64 0]) (o := 1) NERA.out)
   have B4 := Lib.hid (below_whole ([.int .i64 0]) (o := 1) B3.out LEA.out)
   with_reducible refine wpList_storeV (.tmp 15) (.const (.int .i64 0)) (j := 1) (v := .int .i64 0) ?_ ?_ KA3.out ?_ (by kernel_rfl) (by simp [Value.oneCell']) ?_
   ·rfl
   ·rfl
   ·exact (fit_1 (mO_sz (cellsF_size f fs)) (by decide))
   (try simp only [Act.put])
   generalize World.setCells _ _ _ _ = w4 at KA4 KR4 B4 ⊢
   clear B3 KA3 KR3
   go_wp2_with fail
   go_meet
   exact ⟨Lib.hid (by rw [Mo.usedZ_n (by have h := hE.out; omega)]; have h := KA4.out; rw [cellsX_of hf] at h; exact h), KR4, B4⟩
  have n7 : (k == 7) = false := by simpa using e7
  go_upto_region 7 with fail
  refine wp_region_lit ?_
  iterate 2 ((with_reducible refine rN (v := .bool false) ?_ ?_ ?_); (· rfl); (· go_simp; (try with_reducible rfl)); simp only [pu, sB, s0, sS])
  by_cases e8 : k = 8
  ·have ek : (k == 8) = true := by simpa using e8
   have hE := Lib.hid e8
   clear e8
   go_upto_region 8 with fail
   refine wp_region_lit ?_
   iterate 2 ((with_reducible refine rN (v := .bool true) ?_ ?_ ?_); (· rfl); (· go_simp; (try with_reducible rfl)); simp only [pu, sB, s0, sS])
   go_upto_region 10 with fail
   refine wp_region_lit ?_
   (with_reducible refine rN (v := .pointer (some ⟨pA, 1, none⟩)) ?_ ?_ ?_); (· rfl); (· go_simp; (try rfl)); simp only [pu, sB, s0, sS]
   have KA4 := Lib.hid (KA3.out.stored (o := 1) (vs := [.int .i64 0]) (cs' := (mO 0 0 m s (cellsF f fs))) (mO_p1))
   have KR4 := Lib.hid (KR3.out.wholeElse ([.int .i64 0]) (o := 1) NERA.out)
   have B4 := Lib.hid (below_whole ([.int .i64 0]) (o := 1) B3.out LEA.out)
   with_reducible refine wpList_storeV (.tmp 15) (.const (.int .i64 0)) (j := 1) (v := .int .i64 0) ?_ ?_ KA3.out ?_ (by kernel_rfl) (by simp [Value.oneCell']) ?_
   ·rfl
   ·rfl
   ·exact (fit_1 (mO_sz (cellsF_size f fs)) (by decide))
   (try simp only [Act.put])
   generalize World.setCells _ _ _ _ = w4 at KA4 KR4 B4 ⊢
   clear B3 KA3 KR3
   go_wp2_with fail
   go_meet
   exact ⟨Lib.hid (by rw [Mo.usedZ_n (by have h := hE.out; omega)]; have h := KA4.out; rw [cellsX_of hf] at h; exact h), KR4, B4⟩
  have n8 : (k == 8) = false := by simpa using e8
  go_upto_region 8 with fail
  refine wp_region_lit ?_
  iterate 2 ((with_reducible refine rN (v := .bool false) ?_ ?_ ?_); (· rfl); (· go_simp; (try with_reducible rfl)); simp only [pu, sB, s0, sS])
  by_cases e9 : k = 9
  ·have ek : (k == 9) = true := by simpa using e9
   have hE := Lib.hid e9
   clear e9
   go_upto_region 9 with fail
   refine wp_region_lit ?_
   iterate 2 ((with_reducible refine rN (v := .bool true) ?_ ?_ ?_); (· rfl); (· go_simp; (try with_reducible rfl)); simp only [pu, sB, s0, sS])
   go_upto_region 10 with fail
   refine wp_region_lit ?_
   (with_reducible refine rN (v := .pointer (some ⟨pA, 1, none⟩)) ?_ ?_ ?_); (· rfl); (· go_simp; (try rfl)); simp only [pu, sB, s0, sS]
   have KA4 := Lib.hid (KA3.out.stored (o := 1) (vs := [.int .i64 0]) (cs' := (mO 0 0 m s (cellsF f fs))) (mO_p1))
   have KR4 := Lib.hid (KR3.out.wholeElse ([.int .i64 0]) (o := 1) NERA.out)
   have B4 := Lib.hid (below_whole ([.int .i64 0]) (o := 1) B3.out LEA.out)
   with_reducible refine wpList_storeV (.tmp 15) (.const (.int .i64 0)) (j := 1) (v := .int .i64 0) ?_ ?_ KA3.out ?_ (by kernel_rfl) (by simp [Value.oneCell']) ?_
   ·rfl
   ·rfl
   ·exact (fit_1 (mO_sz (cellsF_size f fs)) (by decide))
   (try simp only [Act.put])
   generalize World.setCells _ _ _ _ = w4 at KA4 KR4 B4 ⊢
   clear B3 KA3 KR3
   go_wp2_with fail
   go_meet
   exact ⟨Lib.hid (by rw [Mo.usedZ_n (by have h := hE.out; omega)]; have h := KA4.out; rw [cellsX_of hf] at h; exact h), KR4, B4⟩
  have n9 : (k == 9) = false := by simpa using e9
  go_upto_region 9 with fail
  refine wp_region_lit ?_
  iterate 2 ((with_reducible refine rN (v := .bool false) ?_ ?_ ?_); (· rfl); (· go_simp; (try with_reducible rfl)); simp only [pu, sB, s0, sS])
  by_cases e4 : k = 4
  ·have ek : (k == 4) = true := by simpa using e4
   have hE := Lib.hid e4
   clear e4
   go_upto_region 11 with fail
   refine wp_region_lit ?_
   iterate 2 ((with_reducible refine rN (v := .bool true) ?_ ?_ ?_); (· rfl); (· go_simp; (try with_reducible rfl)); simp only [pu, sB, s0, sS])
   go_upto_region 13 with fail
   refine wp_region_lit ?_
   (with_reducible refine rN (v := .pointer (some ⟨pA, 3, none⟩)) ?_ ?_ ?_); (· rfl); (· go_simp; (try rfl)); simp only [pu, sB, s0, sS]
   have KA4 := Lib.hid (KA3.out.stored (o := 3) (vs := [.string ⟨#[]⟩]) (cs' := (mO 0 n m ⟨#[]⟩ (cellsF f fs))) (mO_p3))
   have KR4 := Lib.hid (KR3.out.wholeElse ([.string ⟨#[]⟩]) (o := 3) NERA.out)
   have B4 := Lib.hid (below_whole ([.string ⟨#[]⟩]) (o := 3) B3.out LEA.out)
   with_reducible refine wpList_storeV (.tmp 19) (.const (.string ⟨#[]⟩)) (j := 3) (v := .string ⟨#[]⟩) ?_ ?_ KA3.out ?_ (by kernel_rfl) (by simp [Value.oneCell']) ?_
   ·rfl
   ·rfl
   ·exact (fit_1 (mO_sz (cellsF_size f fs)) (by decide))
   (try simp only [Act.put])
   generalize World.setCells _ _ _ _ = w4 at KA4 KR4 B4 ⊢
   clear B3 KA3 KR3
   go_wp2_with fail
   go_meet
   exact ⟨Lib.hid (by rw [Mo.usedZ_s (by have h := hE.out; omega)]; have h := KA4.out; rw [cellsX_of hf] at h; exact h), KR4, B4⟩
  have n4 : (k == 4) = false := by simpa using e4
  go_upto_region 11 with fail
  refine wp_region_lit ?_
  iterate 2 ((with_reducible refine rN (v := .bool false) ?_ ?_ ?_); (· rfl); (· go_simp; (try with_reducible rfl)); simp only [pu, sB, s0, sS])
  by_cases e5 : k = 5
  ·have ek : (k == 5) = true := by simpa using e5
   have hE := Lib.hid e5
   clear e5
   go_upto_region 12 with fail
   refine wp_region_lit ?_
   iterate 2 ((with_reducible refine rN (v := .bool true) ?_ ?_ ?_); (· rfl); (· go_simp; (try with_reducible rfl)); simp only [pu, sB, s0, sS])
   go_upto_region 13 with fail
   refine wp_region_lit ?_
   (with_reducible refine rN (v := .pointer (some ⟨pA, 3, none⟩)) ?_ ?_ ?_); (· rfl); (· go_simp; (try rfl)); simp only [pu, sB, s0, sS]
   have KA4 := Lib.hid (KA3.out.stored (o := 3) (vs := [.string ⟨#[]⟩]) (cs' := (mO 0 n m ⟨#[]⟩ (cellsF f fs))) (mO_p3))
   have KR4 := Lib.hid (KR3.out.wholeElse ([.string ⟨#[]⟩]) (o := 3) NERA.out)
   have B4 := Lib.hid (below_whole ([.string ⟨#[]⟩]) (o := 3) B3.out LEA.out)
   with_reducible refine wpList_storeV (.tmp 19) (.const (.string ⟨#[]⟩)) (j := 3) (v := .string ⟨#[]⟩) ?_ ?_ KA3.out ?_ (by kernel_rfl) (by simp [Value.oneCell']) ?_
   ·rfl
   ·rfl
   ·exact (fit_1 (mO_sz (cellsF_size f fs)) (by decide))
   (try simp only [Act.put])
   generalize World.setCells _ _ _ _ = w4 at KA4 KR4 B4 ⊢
   clear B3 KA3 KR3
   go_wp2_with fail
   go_meet
   exact ⟨Lib.hid (by rw [Mo.usedZ_s (by have h := hE.out; omega)]; have h := KA4.out; rw [cellsX_of hf] at h; exact h), KR4, B4⟩
  have n5 : (k == 5) = false := by simpa using e5
  go_upto_region 12 with fail
  refine wp_region_lit ?_
  iterate 2 ((with_reducible refine rN (v := .bool false) ?_ ?_ ?_); (· rfl); (· go_simp; (try with_reducible rfl)); simp only [pu, sB, s0, sS])
  by_cases e11 : k = 11
  ·have ek : (k == 11) = true := by simpa using e11
   have hE := Lib.hid e11
   clear e11
   go_upto_region 14 with fail
   refine wp_region_lit ?_
   iterate 2 ((with_reducible refine rN (v := .bool true) ?_ ?_ ?_); (· rfl); (· go_simp; (try with_reducible rfl)); simp only [pu, sB, s0, sS])
   go_upto_region 15 with fail
   refine wp_region_lit ?_
   (with_reducible refine rN (v := .agg cellsZ) ?_ ?_ ?_); (· rfl); (· go_simp; rfl); simp only [pu, sB, s0, sS]
   (with_reducible refine rN (v := .pointer (some ⟨pA, 4, none⟩)) ?_ ?_ ?_); (· rfl); (· go_simp; (try rfl)); simp only [pu, sB, s0, sS]
   have KA4 := Lib.hid (KA3.out.stored (o := 4) (vs := cellsZ.toList) (cs' := (mO 0 n m s cellsZ)) (mO_pf (Eq.trans cellsZ_size (Eq.symm (cellsF_size f fs)))))
   have KR4 := Lib.hid (KR3.out.wholeElse (cellsZ.toList) (o := 4) NERA.out)
   have B4 := Lib.hid (below_whole (cellsZ.toList) (o := 4) B3.out LEA.out)
   with_reducible refine wpList_storeM (.tmp 23) (.tmp 22) (o := 4) (vs := cellsZ) ?_ ?_ KA3.out ?_ (infoTF16 cellsZ_size) cellsZ_one ?_
   ·rfl
   ·rfl
   ·exact (fit_2 (mO_sz (cellsF_size f fs)) cellsZ_size (by decide))
   (try simp only [Act.put])
   generalize World.setCells _ _ _ _ = w4 at KA4 KR4 B4 ⊢
   clear B3 KA3 KR3
   go_wp2_with fail
   go_meet
   exact ⟨Lib.hid (by rw [Mo.usedZ_f (by have h := hE.out; omega)]; exact KA4.out), KR4, B4⟩
  have n11 : (k == 11) = false := by simpa using e11
  go_upto_region 14 with fail
  refine wp_region_lit ?_
  iterate 2 ((with_reducible refine rN (v := .bool false) ?_ ?_ ?_); (· rfl); (· go_simp; (try with_reducible rfl)); simp only [pu, sB, s0, sS])
  by_cases e12 : k = 12
  ·have ek : (k == 12) = true := by simpa using e12
   have hE := Lib.hid e12
   clear e12
   go_upto_region 16 with fail
   refine wp_region_lit ?_
   iterate 2 ((with_reducible refine rN (v := .bool true) ?_ ?_ ?_); (· rfl); (· go_simp; (try with_reducible rfl)); simp only [pu, sB, s0, sS])
   go_upto_region 18 with fail
   refine wp_region_lit ?_
   (with_reducible refine rN (v := .pointer (some ⟨pA, 1, none⟩)) ?_ ?_ ?_); (· rfl); (· go_simp; (try rfl)); simp only [pu, sB, s0, sS]
   have KA4 := Lib.hid (KA3.out.stored (o := 1) (vs := [.int .i64 0]) (cs' := (mO 0 0 m s (cellsF f fs))) (mO_p1))
   have KR4 := Lib.hid (KR3.out.wholeElse ([.int .i64 0]) (o := 1) NERA.out)
   have B4 := Lib.hid (below_whole ([.int .i64 0]) (o := 1) B3.out LEA.out)
   with_reducible refine wpList_storeV (.tmp 27) (.const (.int .i64 0)) (j := 1) (v := .int .i64 0) ?_ ?_ KA3.out ?_ (by kernel_rfl) (by simp [Value.oneCell']) ?_
   ·rfl
   ·rfl
   ·exact (fit_1 (mO_sz (cellsF_size f fs)) (by decide))
   (try simp only [Act.put])
   generalize World.setCells _ _ _ _ = w4 at KA4 KR4 B4 ⊢
   clear B3 KA3 KR3
   go_upto_region 19 with fail
   refine wp_region_lit ?_
   (with_reducible refine rN (v := .pointer (some ⟨pA, 2, none⟩)) ?_ ?_ ?_); (· rfl); (· go_simp; (try rfl)); simp only [pu, sB, s0, sS]
   have KA5 := Lib.hid (KA4.out.stored (o := 2) (vs := [.int .i64 0]) (cs' := (mO 0 0 0 s (cellsF f fs))) (mO_p2))
   have KR5 := Lib.hid (KR4.out.wholeElse ([.int .i64 0]) (o := 2) NERA.out)
   have B5 := Lib.hid (below_whole ([.int .i64 0]) (o := 2) B4.out LEA.out)
   with_reducible refine wpList_storeV (.tmp 28) (.const (.int .i64 0)) (j := 2) (v := .int .i64 0) ?_ ?_ KA4.out ?_ (by kernel_rfl) (by simp [Value.oneCell']) ?_
   ·rfl
   ·rfl
   ·exact (fit_1 (mO_sz (cellsF_size f fs)) (by decide))
   (try simp only [Act.put])
   generalize World.setCells _ _ _ _ = w5 at KA5 KR5 B5 ⊢
   clear B4 KA4 KR4
   go_wp2_with fail
   go_meet
   exact ⟨Lib.hid (by rw [Mo.usedZ_p (by have h := hE.out; omega)]; have h := KA5.out; rw [cellsX_of hf] at h; exact h), KR5, B5⟩
  have n12 : (k == 12) = false := by simpa using e12
  go_upto_region 16 with fail
  refine wp_region_lit ?_
  iterate 2 ((with_reducible refine rN (v := .bool false) ?_ ?_ ?_); (· rfl); (· go_simp; (try with_reducible rfl)); simp only [pu, sB, s0, sS])
  by_cases e13 : k = 13
  ·have ek : (k == 13) = true := by simpa using e13
   have hE := Lib.hid e13
   clear e13
   go_upto_region 17 with fail
   refine wp_region_lit ?_
   iterate 2 ((with_reducible refine rN (v := .bool true) ?_ ?_ ?_); (· rfl); (· go_simp; (try with_reducible rfl)); simp only [pu, sB, s0, sS])
   go_upto_region 18 with fail
   refine wp_region_lit ?_
   (with_reducible refine rN (v := .pointer (some ⟨pA, 1, none⟩)) ?_ ?_ ?_); (· rfl); (· go_simp; (try rfl)); simp only [pu, sB, s0, sS]
   have KA4 := Lib.hid (KA3.out.stored (o := 1) (vs := [.int .i64 0]) (cs' := (mO 0 0 m s (cellsF f fs))) (mO_p1))
   have KR4 := Lib.hid (KR3.out.wholeElse ([.int .i64 0]) (o := 1) NERA.out)
   have B4 := Lib.hid (below_whole ([.int .i64 0]) (o := 1) B3.out LEA.out)
   with_reducible refine wpList_storeV (.tmp 27) (.const (.int .i64 0)) (j := 1) (v := .int .i64 0) ?_ ?_ KA3.out ?_ (by kernel_rfl) (by simp [Value.oneCell']) ?_
   ·rfl
   ·rfl
   ·exact (fit_1 (mO_sz (cellsF_size f fs)) (by decide))
   (try simp only [Act.put])
   generalize World.setCells _ _ _ _ = w4 at KA4 KR4 B4 ⊢
   clear B3 KA3 KR3
   go_upto_region 19 with fail
   refine wp_region_lit ?_
   (with_reducible refine rN (v := .pointer (some ⟨pA, 2, none⟩)) ?_ ?_ ?_); (· rfl); (· go_simp; (try rfl)); simp only [pu, sB, s0, sS]
   have KA5 := Lib.hid (KA4.out.stored (o := 2) (vs := [.int .i64 0]) (cs' := (mO 0 0 0 s (cellsF f fs))) (mO_p2))
   have KR5 := Lib.hid (KR4.out.wholeElse ([.int .i64 0]) (o := 2) NERA.out)
   have B5 := Lib.hid (below_whole ([.int .i64 0]) (o := 2) B4.out LEA.out)
   with_reducible refine wpList_storeV (.tmp 28) (.const (.int .i64 0)) (j := 2) (v := .int .i64 0) ?_ ?_ KA4.out ?_ (by kernel_rfl) (by simp [Value.oneCell']) ?_
   ·rfl
   ·rfl
   ·exact (fit_1 (mO_sz (cellsF_size f fs)) (by decide))
   (try simp only [Act.put])
   generalize World.setCells _ _ _ _ = w5 at KA5 KR5 B5 ⊢
   clear B4 KA4 KR4
   go_wp2_with fail
   go_meet
   exact ⟨Lib.hid (by rw [Mo.usedZ_p (by have h := hE.out; omega)]; have h := KA5.out; rw [cellsX_of hf] at h; exact h), KR5, B5⟩
  have n13 : (k == 13) = false := by simpa using e13
  go_upto_region 17 with fail
  refine wp_region_lit ?_
  iterate 2 ((with_reducible refine rN (v := .bool false) ?_ ?_ ?_); (· rfl); (· go_simp; (try with_reducible rfl)); simp only [pu, sB, s0, sS])
  go_wp2_with fail
  go_meet
  exact ⟨Lib.hid (by rw [Mo.usedZ_else (by omega) (by omega) (by omega) (by omega)]; have h := KA3.out; rw [cellsX_of hf] at h; exact h), KR3, B3⟩
 case rest =>
  obtain ⟨KA90, KR90, B90⟩ := hcut
  go_upto_region 20 with fail
  refine wp_region_lit ?_
  with_reducible refine wpList_loadS (.tmp 1) ?_ ?_ KA90.out Tryz.underlying39 ?_ (infoTMo20 (cellsX_sz _)) ?_
  ·rfl
  ·rfl
  ·rfl
  simp only [pu, sB, s0, sS]
  have KR91 := Lib.hid (KR90.out.stored (o := 0) (vs := (cellsX (Mo.usedZ ⟨k, n, m, s.data.toList, f⟩)).toList) (cs' := (cellsX (Mo.usedZ ⟨k, n, m, s.data.toList, f⟩))) (laid_all (cellsX_sz _) (mO_sz cellsZ_size)))
  have KA91 := Lib.hid (KA90.out.wholeElse ((cellsX (Mo.usedZ ⟨k, n, m, s.data.toList, f⟩)).toList) (o := 0) NEAR.out)
  have B91 := Lib.hid (below_whole ((cellsX (Mo.usedZ ⟨k, n, m, s.data.toList, f⟩)).toList) (o := 0) B90.out LER.out)
  with_reducible refine wpList_storeM (.tmp 2) (.tmp 29) (o := 0) (vs := (cellsX (Mo.usedZ ⟨k, n, m, s.data.toList, f⟩))) ?_ ?_ KR90.out ?_ (infoTMo20 (cellsX_sz _)) (cellsX_one _) ?_
  ·rfl
  ·rfl
  ·exact (fit_2 (mO_sz cellsZ_size) (cellsX_sz _) (by decide))
  (try simp only [Act.put])
  generalize World.setCells _ _ _ _ = w91 at KR91 KA91 B91 ⊢
  clear B90 KR90 KA90
  have hL := KR91.out.readS Tryz.underlying39 rfl (infoTMo20 (cellsX_sz _))
  go_wp2_with fail
  exact bodyPost_ret (v := .agg (cellsX (Mo.usedZ ⟨k, n, m, s.data.toList, f⟩))) (results_cell Tryz.results102 (by rfl) hL) rfl ⟨rfl, B91.out⟩
end Go.Proofs.YtbcgkeclmioeiaaGreatDoor
namespace Go.Proofs.YtbcgkeclmioeiaaGreatDoor
open Go.RowKit
open Wd (Bs)

set_option maxHeartbeats 8000000 in
set_option maxRecDepth 100000 in
theorem rIsLow (k n m : Int) (s : ByteArray) (f : Fil.Flt) (fs : ByteArray) (w : World)
  (h : k < 1) :
  Calls Tryz.prog 50 #[.agg (mO k n m s (cellsF f fs))] w fun e w' => e = .returned (.bool false) ∧ Below w.heap.size w w' := by

 have B0 := Lib.hid (Below.refl w.heap.size w)
 go_enter Tryz.func50, Tryz.ntmps50
 go_upto_region 0 with fail
 refine wp_region_lit ?_
 obtain ⟨w1, hw⟩ : ∃ v, v = w.alloc (.cells (mO k n m s (cellsF f fs)) 39) := ⟨_, rfl⟩
 obtain ⟨pA, hp⟩ : ∃ v, v = w.heap.size := ⟨_, rfl⟩
 have B1 : Hid (Below w.heap.size w w1) := Lib.hid (by rw [hw]; exact B0.out.alloc B0.out.size _)
 have LEA : Hid (w.heap.size ≤ pA) := Lib.hid (by rw [hp]; exact B0.out.size)
 have KA1 : Hid (Blk w1 pA (mO k n m s (cellsF f fs)) 39) := Lib.hid (by rw [hw, hp]; exact Blk.new _ _ _)
 with_reducible refine wpList_runWV (some 1) (v := .pointer (some ⟨pA, 0, none⟩)) (w' := w1) ?_ ?_ ?_ ?_
 ·rfl
 ·rfl
 ·rw [hw, hp]; (go_simp; (try rfl))
 simp only [pu, sB, s0, sS]
 clear hw hp
 clear B0
 (with_reducible refine rN (v := .bool false) ?_ ?_ ?_); (· rfl); (· go_simp; (try with_reducible rfl)); simp only [pu, sB, s0, sS]
 go_upto_region 1 with fail
 refine wp_region_lit ?_
 (with_reducible refine rN (v := .pointer (some ⟨pA, 0, none⟩)) ?_ ?_ ?_); (· rfl); (· go_simp; (try rfl)); simp only [pu, sB, s0, sS]
 with_reducible refine wpList_loadV (.tmp 3) (j := 0) (v := .int .i64 k) ?_ ?_ KA1.out ?_ Tryz.underlying3 ?_ ?_
 ·rfl
 ·rfl
 ·exact mO_0
 ·rfl
 simp only [pu, sB, s0, sS]
 iterate 2 ((with_reducible refine rN (v := .bool true) ?_ ?_ ?_); (· rfl); (· go_simp; (try with_reducible rfl)); simp only [pu, sB, s0, sS])
 iterate 3 ((with_reducible refine kN ?_ ?_); (· rfl); simp only [pu, sB, s0, sS])
 iterate 2 ((with_reducible refine rN (v := .bool true) ?_ ?_ ?_); (· rfl); (· go_simp; (try with_reducible rfl)); simp only [pu, sB, s0, sS])
 iterate 4 ((with_reducible refine kN ?_ ?_); (· rfl); simp only [pu, sB, s0, sS])
 (with_reducible refine rN (v := .bool true) ?_ ?_ ?_); (· rfl); (· go_simp; (try with_reducible rfl)); simp only [pu, sB, s0, sS]
 go_upto_region 2 with fail
 refine wp_region_lit ?_
 (with_reducible refine rN (v := .bool false) ?_ ?_ ?_); (· rfl); (· go_simp; (try with_reducible rfl)); simp only [pu, sB, s0, sS]
 go_wp2_with fail
 go_ret
 exact ⟨rfl, B1.out⟩

set_option maxHeartbeats 8000000 in
set_option maxRecDepth 100000 in
theorem rIsHigh (k n m : Int) (s : ByteArray) (f : Fil.Flt) (fs : ByteArray) (w : World)
  (h0 : ¬ k < 1) (h : 14 < k) :
  Calls Tryz.prog 50 #[.agg (mO k n m s (cellsF f fs))] w fun e w' => e = .returned (.bool false) ∧ Below w.heap.size w w' := by

 have B0 := Lib.hid (Below.refl w.heap.size w)
 go_enter Tryz.func50, Tryz.ntmps50
 go_upto_region 0 with fail
 refine wp_region_lit ?_
 obtain ⟨w1, hw⟩ : ∃ v, v = w.alloc (.cells (mO k n m s (cellsF f fs)) 39) := ⟨_, rfl⟩
 obtain ⟨pA, hp⟩ : ∃ v, v = w.heap.size := ⟨_, rfl⟩
 have B1 : Hid (Below w.heap.size w w1) := Lib.hid (by rw [hw]; exact B0.out.alloc B0.out.size _)
 have LEA : Hid (w.heap.size ≤ pA) := Lib.hid (by rw [hp]; exact B0.out.size)
 have KA1 : Hid (Blk w1 pA (mO k n m s (cellsF f fs)) 39) := Lib.hid (by rw [hw, hp]; exact Blk.new _ _ _)
 with_reducible refine wpList_runWV (some 1) (v := .pointer (some ⟨pA, 0, none⟩)) (w' := w1) ?_ ?_ ?_ ?_
 ·rfl
 ·rfl
 ·rw [hw, hp]; (go_simp; (try rfl))
 simp only [pu, sB, s0, sS]
 clear hw hp
 clear B0
 (with_reducible refine rN (v := .bool false) ?_ ?_ ?_); (· rfl); (· go_simp; (try with_reducible rfl)); simp only [pu, sB, s0, sS]
 go_upto_region 1 with fail
 refine wp_region_lit ?_
 (with_reducible refine rN (v := .pointer (some ⟨pA, 0, none⟩)) ?_ ?_ ?_); (· rfl); (· go_simp; (try rfl)); simp only [pu, sB, s0, sS]
 with_reducible refine wpList_loadV (.tmp 3) (j := 0) (v := .int .i64 k) ?_ ?_ KA1.out ?_ Tryz.underlying3 ?_ ?_
 ·rfl
 ·rfl
 ·exact mO_0
 ·rfl
 simp only [pu, sB, s0, sS]
 iterate 2 ((with_reducible refine rN (v := .bool false) ?_ ?_ ?_); (· rfl); (· go_simp; (try with_reducible rfl)); simp only [pu, sB, s0, sS])
 (with_reducible refine rN (v := .pointer (some ⟨pA, 0, none⟩)) ?_ ?_ ?_); (· rfl); (· go_simp; (try rfl)); simp only [pu, sB, s0, sS]
 with_reducible refine wpList_loadV (.tmp 7) (j := 0) (v := .int .i64 k) ?_ ?_ KA1.out ?_ Tryz.underlying3 ?_ ?_
 ·rfl
 ·rfl
 ·exact mO_0
 ·rfl
 simp only [pu, sB, s0, sS]
 iterate 3 ((with_reducible refine rN (v := .bool true) ?_ ?_ ?_); (· rfl); (· go_simp; (try with_reducible rfl)); simp only [pu, sB, s0, sS])
 iterate 4 ((with_reducible refine kN ?_ ?_); (· rfl); simp only [pu, sB, s0, sS])
 (with_reducible refine rN (v := .bool true) ?_ ?_ ?_); (· rfl); (· go_simp; (try with_reducible rfl)); simp only [pu, sB, s0, sS]
 go_upto_region 2 with fail
 refine wp_region_lit ?_
 (with_reducible refine rN (v := .bool false) ?_ ?_ ?_); (· rfl); (· go_simp; (try with_reducible rfl)); simp only [pu, sB, s0, sS]
 go_wp2_with fail
 go_ret
 exact ⟨rfl, B1.out⟩

set_option maxHeartbeats 8000000 in
set_option maxRecDepth 100000 in
theorem rIsNo (k n m : Int) (s : ByteArray) (f : Fil.Flt) (fs : ByteArray) (q : Bool) (w : World)
  (h0 : ¬ k < 1) (h14 : ¬ 14 < k) (HU : Hid (∀ W, Below w.heap.size w W → Calls Tryz.prog 102 #[.agg (mO k n m s (cellsF f fs))] W fun e w' => e = .returned (.agg (cellsX (Mo.usedZ ⟨k, n, m, s.data.toList, f⟩))) ∧ Below W.heap.size W w')) (HQ : Hid (∀ W : World, (Op.equalIn 10000 39 (.agg (cellsX (Mo.usedZ ⟨k, n, m, s.data.toList, f⟩))) (.agg (mO 0 0 0 ⟨#[]⟩ cellsZ))).run Tryz.prog W = .ok q W)) (hq0 : q = false) :
  Calls Tryz.prog 50 #[.agg (mO k n m s (cellsF f fs))] w fun e w' => e = .returned (.bool false) ∧ Below w.heap.size w w' := by

 subst hq0
 have hq := HQ.out

 have B0 := Lib.hid (Below.refl w.heap.size w)
 go_enter Tryz.func50, Tryz.ntmps50
 go_upto_region 0 with fail
 refine wp_region_lit ?_
 obtain ⟨w1, hw⟩ : ∃ v, v = w.alloc (.cells (mO k n m s (cellsF f fs)) 39) := ⟨_, rfl⟩
 obtain ⟨pA, hp⟩ : ∃ v, v = w.heap.size := ⟨_, rfl⟩
 have B1 : Hid (Below w.heap.size w w1) := Lib.hid (by rw [hw]; exact B0.out.alloc B0.out.size _)
 have LEA : Hid (w.heap.size ≤ pA) := Lib.hid (by rw [hp]; exact B0.out.size)
 have KA1 : Hid (Blk w1 pA (mO k n m s (cellsF f fs)) 39) := Lib.hid (by rw [hw, hp]; exact Blk.new _ _ _)
 with_reducible refine wpList_runWV (some 1) (v := .pointer (some ⟨pA, 0, none⟩)) (w' := w1) ?_ ?_ ?_ ?_
 ·rfl
 ·rfl
 ·rw [hw, hp]; (go_simp; (try rfl))
 simp only [pu, sB, s0, sS]
 clear hw hp
 clear B0
 (with_reducible refine rN (v := .bool false) ?_ ?_ ?_); (· rfl); (· go_simp; (try with_reducible rfl)); simp only [pu, sB, s0, sS]
 go_upto_region 1 with fail
 refine wp_region_lit ?_
 (with_reducible refine rN (v := .pointer (some ⟨pA, 0, none⟩)) ?_ ?_ ?_); (· rfl); (· go_simp; (try rfl)); simp only [pu, sB, s0, sS]
 with_reducible refine wpList_loadV (.tmp 3) (j := 0) (v := .int .i64 k) ?_ ?_ KA1.out ?_ Tryz.underlying3 ?_ ?_
 ·rfl
 ·rfl
 ·exact mO_0
 ·rfl
 simp only [pu, sB, s0, sS]
 iterate 2 ((with_reducible refine rN (v := .bool false) ?_ ?_ ?_); (· rfl); (· go_simp; (try with_reducible rfl)); simp only [pu, sB, s0, sS])
 (with_reducible refine rN (v := .pointer (some ⟨pA, 0, none⟩)) ?_ ?_ ?_); (· rfl); (· go_simp; (try rfl)); simp only [pu, sB, s0, sS]
 with_reducible refine wpList_loadV (.tmp 7) (j := 0) (v := .int .i64 k) ?_ ?_ KA1.out ?_ Tryz.underlying3 ?_ ?_
 ·rfl
 ·rfl
 ·exact mO_0
 ·rfl
 simp only [pu, sB, s0, sS]
 iterate 3 ((with_reducible refine rN (v := .bool false) ?_ ?_ ?_); (· rfl); (· go_simp; (try with_reducible rfl)); simp only [pu, sB, s0, sS])
 with_reducible refine wpList_loadS (.tmp 1) ?_ ?_ KA1.out Tryz.underlying39 ?_ (infoTMo20 (mO_sz (cellsF_size f fs))) ?_
 ·rfl
 ·rfl
 ·rfl
 simp only [pu, sB, s0, sS]
 go_wp2_with fail
 refine (HU.out _ B1.out).mono ?_
 rintro e w2 ⟨rfl, hb⟩
 have B2 := Lib.hid (B1.out.trans (hb.mono B1.out.size))
 have KA2 := Lib.hid (KA1.out.below hb KA1.out.lt)
 clear hb
 clear B1 KA1
 go_simp
 rename_i hKK
 refine hKK _ _ ?_
 clear hKK
 try simp only [pu, sB, s0, sS]
 (with_reducible refine rN (v := .agg (mO 0 0 0 ⟨#[]⟩ cellsZ)) ?_ ?_ ?_); (· rfl); (· go_simp; rfl); simp only [pu, sB, s0, sS]
 iterate 2 ((with_reducible refine rN (v := .bool true) ?_ ?_ ?_); (· rfl); (· go_simp; (try with_reducible rfl)); simp only [pu, sB, s0, sS])
 go_upto_region 2 with fail
 refine wp_region_lit ?_
 (with_reducible refine rN (v := .bool false) ?_ ?_ ?_); (· rfl); (· go_simp; (try with_reducible rfl)); simp only [pu, sB, s0, sS]
 go_wp2_with fail
 go_ret
 exact ⟨rfl, B2.out⟩

set_option maxHeartbeats 8000000 in
set_option maxRecDepth 100000 in
theorem rIsIn (k n m : Int) (s : ByteArray) (f : Fil.Flt) (fs : ByteArray) (q R vt vs vf a0 b31 a1 b17 b99 e0 e99 an en : Bool) (w : World)
  (h0 : ¬ k < 1) (h14 : ¬ 14 < k) (HU : Hid (∀ W, Below w.heap.size w W → Calls Tryz.prog 102 #[.agg (mO k n m s (cellsF f fs))] W fun e w' => e = .returned (.agg (cellsX (Mo.usedZ ⟨k, n, m, s.data.toList, f⟩))) ∧ Below W.heap.size W w')) (HQ : Hid (∀ W : World, (Op.equalIn 10000 39 (.agg (cellsX (Mo.usedZ ⟨k, n, m, s.data.toList, f⟩))) (.agg (mO 0 0 0 ⟨#[]⟩ cellsZ))).run Tryz.prog W = .ok q W)) (hq0 : q = true) (da0 : decide (0 ≤ n) = a0) (db31 : decide (n ≤ 31) = b31) (da1 : decide (1 ≤ n) = a1) (db17 : decide (n ≤ 131071) = b17) (db99 : decide (n ≤ 99) = b99) (de0 : decide (0 ≤ m) = e0) (de99 : decide (m ≤ 99) = e99) (dan : decide (-99 ≤ n) = an) (den : decide (-99 ≤ m) = en) (HT : Hid (∀ W, Below w.heap.size w W → Calls Tryz.prog 103 #[.int .i64 n] W fun e w' => e = .returned (.bool vt) ∧ Below W.heap.size W w')) (HS : Hid (∀ W, Below w.heap.size w W → Calls Tryz.prog 68 #[.string s] W fun e w' => e = .returned (.bool vs) ∧ Below W.heap.size W w')) (HF : Hid (∀ W, Below w.heap.size w W → Calls Tryz.prog 35 #[.agg (cellsF f fs)] W fun e w' => e = .returned (.bool vf) ∧ Below W.heap.size W w')) (r2 : Hid (k = 2 ∨ k = 3 → R = vt)) (r4 : Hid (k = 4 ∨ k = 5 → R = vs)) (r6 : Hid (k = 6 → R = (a0 && b31))) (r7 : Hid (k = 7 → R = (a1 && b31))) (r8 : Hid (k = 8 ∨ k = 9 → R = (a1 && b17))) (r11 : Hid (k = 11 → R = vf)) (r12 : Hid (k = 12 → R = (a0 && (b99 && (e0 && e99))))) (r13 : Hid (k = 13 → R = (an && (b99 && (en && e99))))) (r0 : Hid (k = 1 ∨ k = 10 ∨ k = 14 → R = true)) :
  Calls Tryz.prog 50 #[.agg (mO k n m s (cellsF f fs))] w fun e w' => e = .returned (.bool R) ∧ Below w.heap.size w w' := by

 subst hq0
 have hq := HQ.out

 have B0 := Lib.hid (Below.refl w.heap.size w)
 go_enter Tryz.func50, Tryz.ntmps50
 go_upto_region 0 with fail
 refine wp_region_lit ?_
 obtain ⟨w1, hw⟩ : ∃ v, v = w.alloc (.cells (mO k n m s (cellsF f fs)) 39) := ⟨_, rfl⟩
 obtain ⟨pA, hp⟩ : ∃ v, v = w.heap.size := ⟨_, rfl⟩
 have B1 : Hid (Below w.heap.size w w1) := Lib.hid (by rw [hw]; exact B0.out.alloc B0.out.size _)
 have LEA : Hid (w.heap.size ≤ pA) := Lib.hid (by rw [hp]; exact B0.out.size)
 have KA1 : Hid (Blk w1 pA (mO k n m s (cellsF f fs)) 39) := Lib.hid (by rw [hw, hp]; exact Blk.new _ _ _)
 with_reducible refine wpList_runWV (some 1) (v := .pointer (some ⟨pA, 0, none⟩)) (w' := w1) ?_ ?_ ?_ ?_
 ·rfl
 ·rfl
 ·rw [hw, hp]; (go_simp; (try rfl))
 simp only [pu, sB, s0, sS]
 clear hw hp
 clear B0
 (with_reducible refine rN (v := .bool false) ?_ ?_ ?_); (· rfl); (· go_simp; (try with_reducible rfl)); simp only [pu, sB, s0, sS]
 go_upto_region 1 with fail
 refine wp_region_lit ?_
 (with_reducible refine rN (v := .pointer (some ⟨pA, 0, none⟩)) ?_ ?_ ?_); (· rfl); (· go_simp; (try rfl)); simp only [pu, sB, s0, sS]
 with_reducible refine wpList_loadV (.tmp 3) (j := 0) (v := .int .i64 k) ?_ ?_ KA1.out ?_ Tryz.underlying3 ?_ ?_
 ·rfl
 ·rfl
 ·exact mO_0
 ·rfl
 simp only [pu, sB, s0, sS]
 iterate 2 ((with_reducible refine rN (v := .bool false) ?_ ?_ ?_); (· rfl); (· go_simp; (try with_reducible rfl)); simp only [pu, sB, s0, sS])
 (with_reducible refine rN (v := .pointer (some ⟨pA, 0, none⟩)) ?_ ?_ ?_); (· rfl); (· go_simp; (try rfl)); simp only [pu, sB, s0, sS]
 with_reducible refine wpList_loadV (.tmp 7) (j := 0) (v := .int .i64 k) ?_ ?_ KA1.out ?_ Tryz.underlying3 ?_ ?_
 ·rfl
 ·rfl
 ·exact mO_0
 ·rfl
 simp only [pu, sB, s0, sS]
 iterate 3 ((with_reducible refine rN (v := .bool false) ?_ ?_ ?_); (· rfl); (· go_simp; (try with_reducible rfl)); simp only [pu, sB, s0, sS])
 with_reducible refine wpList_loadS (.tmp 1) ?_ ?_ KA1.out Tryz.underlying39 ?_ (infoTMo20 (mO_sz (cellsF_size f fs))) ?_
 ·rfl
 ·rfl
 ·rfl
 simp only [pu, sB, s0, sS]
 go_wp2_with fail
 refine (HU.out _ B1.out).mono ?_
 rintro e w2 ⟨rfl, hb⟩
 have B2 := Lib.hid (B1.out.trans (hb.mono B1.out.size))
 have KA2 := Lib.hid (KA1.out.below hb KA1.out.lt)
 clear hb
 clear B1 KA1
 go_simp
 rename_i hKK
 refine hKK _ _ ?_
 clear hKK
 try simp only [pu, sB, s0, sS]
 (with_reducible refine rN (v := .agg (mO 0 0 0 ⟨#[]⟩ cellsZ)) ?_ ?_ ?_); (· rfl); (· go_simp; rfl); simp only [pu, sB, s0, sS]
 iterate 2 ((with_reducible refine rN (v := .bool false) ?_ ?_ ?_); (· rfl); (· go_simp; (try with_reducible rfl)); simp only [pu, sB, s0, sS])
 go_upto_region 3 with fail
 refine wp_region_lit ?_
 (with_reducible refine rN (v := .pointer (some ⟨pA, 0, none⟩)) ?_ ?_ ?_); (· rfl); (· go_simp; (try rfl)); simp only [pu, sB, s0, sS]
 with_reducible refine wpList_loadV (.tmp 17) (j := 0) (v := .int .i64 k) ?_ ?_ KA2.out ?_ Tryz.underlying3 ?_ ?_
 ·rfl
 ·rfl
 ·exact mO_0
 ·rfl
 simp only [pu, sB, s0, sS]
 by_cases e2 : k = 2
 ·have ek : (k == 2) = true := by simpa using e2
  have hE := Lib.hid e2
  clear e2
  go_upto_region 4 with fail
  refine wp_region_lit ?_
  iterate 2 ((with_reducible refine rN (v := .bool true) ?_ ?_ ?_); (· rfl); (· go_simp; (try with_reducible rfl)); simp only [pu, sB, s0, sS])
  go_upto_region 6 with fail
  refine wp_region_lit ?_
  (with_reducible refine rN (v := .pointer (some ⟨pA, 1, none⟩)) ?_ ?_ ?_); (· rfl); (· go_simp; (try rfl)); simp only [pu, sB, s0, sS]
  with_reducible refine wpList_loadV (.tmp 22) (j := 1) (v := .int .i64 n) ?_ ?_ KA2.out ?_ Tryz.underlying3 ?_ ?_
  ·rfl
  ·rfl
  ·exact mO_1
  ·rfl
  simp only [pu, sB, s0, sS]
  go_wp2_with fail
  refine (HT.out _ B2.out).mono ?_
  rintro e w3 ⟨rfl, hb⟩
  have B3 := Lib.hid (B2.out.trans (hb.mono B2.out.size))
  have KA3 := Lib.hid (KA2.out.below hb KA2.out.lt)
  clear hb
  clear B2 KA2
  go_simp
  rename_i hKK
  refine hKK _ _ ?_
  clear hKK
  try simp only [pu, sB, s0, sS]
  (with_reducible refine rN (v := ?_) ?_ ?_ ?_); rotate_left; (· rfl); (· go_simp; (try with_reducible rfl)); simp only [pu, sB, s0, sS]
  go_wp2_with fail
  go_ret
  exact ⟨by rw [r2.out (by have h := hE.out; omega)]; rfl, B3.out⟩
 have n2 : (k == 2) = false := by simpa using e2
 go_upto_region 4 with fail
 refine wp_region_lit ?_
 iterate 2 ((with_reducible refine rN (v := .bool false) ?_ ?_ ?_); (· rfl); (· go_simp; (try with_reducible rfl)); simp only [pu, sB, s0, sS])
 by_cases e3 : k = 3
 ·have ek : (k == 3) = true := by simpa using e3
  have hE := Lib.hid e3
  clear e3
  go_upto_region 5 with fail
  refine wp_region_lit ?_
  iterate 2 ((with_reducible refine rN (v := .bool true) ?_ ?_ ?_); (· rfl); (· go_simp; (try with_reducible rfl)); simp only [pu, sB, s0, sS])
  go_upto_region 6 with fail
  refine wp_region_lit ?_
  (with_reducible refine rN (v := .pointer (some ⟨pA, 1, none⟩)) ?_ ?_ ?_); (· rfl); (· go_simp; (try rfl)); simp only [pu, sB, s0, sS]
  with_reducible refine wpList_loadV (.tmp 22) (j := 1) (v := .int .i64 n) ?_ ?_ KA2.out ?_ Tryz.underlying3 ?_ ?_
  ·rfl
  ·rfl
  ·exact mO_1
  ·rfl
  simp only [pu, sB, s0, sS]
  go_wp2_with fail
  refine (HT.out _ B2.out).mono ?_
  rintro e w3 ⟨rfl, hb⟩
  have B3 := Lib.hid (B2.out.trans (hb.mono B2.out.size))
  have KA3 := Lib.hid (KA2.out.below hb KA2.out.lt)
  clear hb
  clear B2 KA2
  go_simp
  rename_i hKK
  refine hKK _ _ ?_
  clear hKK
  try simp only [pu, sB, s0, sS]
  (with_reducible refine rN (v := ?_) ?_ ?_ ?_); rotate_left; (· rfl); (· go_simp; (try with_reducible rfl)); simp only [pu, sB, s0, sS]
  go_wp2_with fail
  go_ret
  exact ⟨by rw [r2.out (by have h := hE.out; omega)]; rfl, B3.out⟩
 have n3 : (k == 3) = false := by simpa using e3
 go_upto_region 5 with fail
 refine wp_region_lit ?_
 iterate 2 ((with_reducible refine rN (v := .bool false) ?_ ?_ ?_); (· rfl); (· go_simp; (try with_reducible rfl)); simp only [pu, sB, s0, sS])
 by_cases e4 : k = 4
 ·have ek : (k == 4) = true := by simpa using e4
  have hE := Lib.hid e4
  clear e4
  go_upto_region 7 with fail
  refine wp_region_lit ?_
  iterate 2 ((with_reducible refine rN (v := .bool true) ?_ ?_ ?_); (· rfl); (· go_simp; (try with_reducible rfl)); simp only [pu, sB, s0, sS])
  go_upto_region 9 with fail
  refine wp_region_lit ?_
  (with_reducible refine rN (v := .pointer (some ⟨pA, 3, none⟩)) ?_ ?_ ?_); (· rfl); (· go_simp; (try rfl)); simp only [pu, sB, s0, sS]
  with_reducible refine wpList_loadV (.tmp 28) (j := 3) (v := .string s) ?_ ?_ KA2.out ?_ Tryz.underlying9 ?_ ?_
  ·rfl
  ·rfl
  ·exact mO_3
  ·rfl
  simp only [pu, sB, s0, sS]
  go_wp2_with fail
  refine (HS.out _ B2.out).mono ?_
  rintro e w3 ⟨rfl, hb⟩
  have B3 := Lib.hid (B2.out.trans (hb.mono B2.out.size))
  have KA3 := Lib.hid (KA2.out.below hb KA2.out.lt)
  clear hb
  clear B2 KA2
  go_simp
  rename_i hKK
  refine hKK _ _ ?_
  clear hKK
  try simp only [pu, sB, s0, sS]
  (with_reducible refine rN (v := ?_) ?_ ?_ ?_); rotate_left; (· rfl); (· go_simp; (try with_reducible rfl)); simp only [pu, sB, s0, sS]
  go_wp2_with fail
  go_ret
  exact ⟨by rw [r4.out (by have h := hE.out; omega)]; rfl, B3.out⟩
 have n4 : (k == 4) = false := by simpa using e4
 go_upto_region 7 with fail
 refine wp_region_lit ?_
 iterate 2 ((with_reducible refine rN (v := .bool false) ?_ ?_ ?_); (· rfl); (· go_simp; (try with_reducible rfl)); simp only [pu, sB, s0, sS])
 by_cases e5 : k = 5
 ·have ek : (k == 5) = true := by simpa using e5
  have hE := Lib.hid e5
  clear e5
  go_upto_region 8 with fail
  refine wp_region_lit ?_
  iterate 2 ((with_reducible refine rN (v := .bool true) ?_ ?_ ?_); (· rfl); (· go_simp; (try with_reducible rfl)); simp only [pu, sB, s0, sS])
  go_upto_region 9 with fail
  refine wp_region_lit ?_
  (with_reducible refine rN (v := .pointer (some ⟨pA, 3, none⟩)) ?_ ?_ ?_); (· rfl); (· go_simp; (try rfl)); simp only [pu, sB, s0, sS]
  with_reducible refine wpList_loadV (.tmp 28) (j := 3) (v := .string s) ?_ ?_ KA2.out ?_ Tryz.underlying9 ?_ ?_
  ·rfl
  ·rfl
  ·exact mO_3
  ·rfl
  simp only [pu, sB, s0, sS]
  go_wp2_with fail
  refine (HS.out _ B2.out).mono ?_
  rintro e w3 ⟨rfl, hb⟩
  have B3 := Lib.hid (B2.out.trans (hb.mono B2.out.size))
  have KA3 := Lib.hid (KA2.out.below hb KA2.out.lt)
  clear hb
  clear B2 KA2
  go_simp
  rename_i hKK
  refine hKK _ _ ?_
  clear hKK
  try simp only [pu, sB, s0, sS]
  (with_reducible refine rN (v := ?_) ?_ ?_ ?_); rotate_left; (· rfl); (· go_simp; (try with_reducible rfl)); simp only [pu, sB, s0, sS]
  go_wp2_with fail
  go_ret
  exact ⟨by rw [r4.out (by have h := hE.out; omega)]; rfl, B3.out⟩
 have n5 : (k == 5) = false := by simpa using e5
 go_upto_region 8 with fail
 refine wp_region_lit ?_
 iterate 2 ((with_reducible refine rN (v := .bool false) ?_ ?_ ?_); (· rfl); (· go_simp; (try with_reducible rfl)); simp only [pu, sB, s0, sS])
 by_cases e6 : k = 6
 ·have ek : (k == 6) = true := by simpa using e6
  have hE := Lib.hid e6
  clear e6
  go_upto_region 10 with fail
  refine wp_region_lit ?_
  iterate 2 ((with_reducible refine rN (v := .bool true) ?_ ?_ ?_); (· rfl); (· go_simp; (try with_reducible rfl)); simp only [pu, sB, s0, sS])
  cases a0 with
  | false =>
   go_upto_region 11 with fail
   refine wp_region_lit ?_
   (with_reducible refine rN (v := .pointer (some ⟨pA, 1, none⟩)) ?_ ?_ ?_); (· rfl); (· go_simp; (try rfl)); simp only [pu, sB, s0, sS]
   with_reducible refine wpList_loadV (.tmp 33) (j := 1) (v := .int .i64 n) ?_ ?_ KA2.out ?_ Tryz.underlying3 ?_ ?_
   ·rfl
   ·rfl
   ·exact mO_1
   ·rfl
   simp only [pu, sB, s0, sS]
   iterate 2 ((with_reducible refine rN (v := .bool false) ?_ ?_ ?_); (· rfl); (· go_simp; (try with_reducible rfl)); simp only [pu, sB, s0, sS])
   iterate 3 ((with_reducible refine kN ?_ ?_); (· rfl); simp only [pu, sB, s0, sS])
   iterate 2 ((with_reducible refine rN (v := .bool false) ?_ ?_ ?_); (· rfl); (· go_simp; (try with_reducible rfl)); simp only [pu, sB, s0, sS])
   go_wp2_with fail
   go_ret
   exact ⟨by rw [r6.out (by have h := hE.out; omega)]; rfl, B2.out⟩
  | true =>
   cases b31 with
   | false =>
    go_upto_region 11 with fail
    refine wp_region_lit ?_
    (with_reducible refine rN (v := .pointer (some ⟨pA, 1, none⟩)) ?_ ?_ ?_); (· rfl); (· go_simp; (try rfl)); simp only [pu, sB, s0, sS]
    with_reducible refine wpList_loadV (.tmp 33) (j := 1) (v := .int .i64 n) ?_ ?_ KA2.out ?_ Tryz.underlying3 ?_ ?_
    ·rfl
    ·rfl
    ·exact mO_1
    ·rfl
    simp only [pu, sB, s0, sS]
    iterate 2 ((with_reducible refine rN (v := .bool true) ?_ ?_ ?_); (· rfl); (· go_simp; (try with_reducible rfl)); simp only [pu, sB, s0, sS])
    (with_reducible refine rN (v := .pointer (some ⟨pA, 1, none⟩)) ?_ ?_ ?_); (· rfl); (· go_simp; (try rfl)); simp only [pu, sB, s0, sS]
    with_reducible refine wpList_loadV (.tmp 37) (j := 1) (v := .int .i64 n) ?_ ?_ KA2.out ?_ Tryz.underlying3 ?_ ?_
    ·rfl
    ·rfl
    ·exact mO_1
    ·rfl
    simp only [pu, sB, s0, sS]
    iterate 3 ((with_reducible refine rN (v := .bool false) ?_ ?_ ?_); (· rfl); (· go_simp; (try with_reducible rfl)); simp only [pu, sB, s0, sS])
    go_wp2_with fail
    go_ret
    exact ⟨by rw [r6.out (by have h := hE.out; omega)]; rfl, B2.out⟩
   | true =>
    go_upto_region 11 with fail
    refine wp_region_lit ?_
    (with_reducible refine rN (v := .pointer (some ⟨pA, 1, none⟩)) ?_ ?_ ?_); (· rfl); (· go_simp; (try rfl)); simp only [pu, sB, s0, sS]
    with_reducible refine wpList_loadV (.tmp 33) (j := 1) (v := .int .i64 n) ?_ ?_ KA2.out ?_ Tryz.underlying3 ?_ ?_
    ·rfl
    ·rfl
    ·exact mO_1
    ·rfl
    simp only [pu, sB, s0, sS]
    iterate 2 ((with_reducible refine rN (v := .bool true) ?_ ?_ ?_); (· rfl); (· go_simp; (try with_reducible rfl)); simp only [pu, sB, s0, sS])
    (with_reducible refine rN (v := .pointer (some ⟨pA, 1, none⟩)) ?_ ?_ ?_); (· rfl); (· go_simp; (try rfl)); simp only [pu, sB, s0, sS]
    with_reducible refine wpList_loadV (.tmp 37) (j := 1) (v := .int .i64 n) ?_ ?_ KA2.out ?_ Tryz.underlying3 ?_ ?_
    ·rfl
    ·rfl
    ·exact mO_1
    ·rfl
    simp only [pu, sB, s0, sS]
    iterate 3 ((with_reducible refine rN (v := .bool true) ?_ ?_ ?_); (· rfl); (· go_simp; (try with_reducible rfl)); simp only [pu, sB, s0, sS])
    go_wp2_with fail
    go_ret
    exact ⟨by rw [r6.out (by have h := hE.out; omega)]; rfl, B2.out⟩
 have n6 : (k == 6) = false := by simpa using e6
 go_upto_region 10 with fail
 refine wp_region_lit ?_
 iterate 2 ((with_reducible refine rN (v := .bool false) ?_ ?_ ?_); (· rfl); (· go_simp; (try with_reducible rfl)); simp only [pu, sB, s0, sS])
 by_cases e7 : k = 7
 ·have ek : (k == 7) = true := by simpa using e7
  have hE := Lib.hid e7
  clear e7
  go_upto_region 12 with fail
  refine wp_region_lit ?_
  iterate 2 ((with_reducible refine rN (v := .bool true) ?_ ?_ ?_); (· rfl); (· go_simp; (try with_reducible rfl)); simp only [pu, sB, s0, sS])
  cases a1 with
  | false =>
   go_upto_region 13 with fail
   refine wp_region_lit ?_
   (with_reducible refine rN (v := .pointer (some ⟨pA, 1, none⟩)) ?_ ?_ ?_); (· rfl); (· go_simp; (try rfl)); simp only [pu, sB, s0, sS]
   with_reducible refine wpList_loadV (.tmp 43) (j := 1) (v := .int .i64 n) ?_ ?_ KA2.out ?_ Tryz.underlying3 ?_ ?_
   ·rfl
   ·rfl
   ·exact mO_1
   ·rfl
   simp only [pu, sB, s0, sS]
   iterate 2 ((with_reducible refine rN (v := .bool false) ?_ ?_ ?_); (· rfl); (· go_simp; (try with_reducible rfl)); simp only [pu, sB, s0, sS])
   iterate 3 ((with_reducible refine kN ?_ ?_); (· rfl); simp only [pu, sB, s0, sS])
   iterate 2 ((with_reducible refine rN (v := .bool false) ?_ ?_ ?_); (· rfl); (· go_simp; (try with_reducible rfl)); simp only [pu, sB, s0, sS])
   go_wp2_with fail
   go_ret
   exact ⟨by rw [r7.out (by have h := hE.out; omega)]; rfl, B2.out⟩
  | true =>
   cases b31 with
   | false =>
    go_upto_region 13 with fail
    refine wp_region_lit ?_
    (with_reducible refine rN (v := .pointer (some ⟨pA, 1, none⟩)) ?_ ?_ ?_); (· rfl); (· go_simp; (try rfl)); simp only [pu, sB, s0, sS]
    with_reducible refine wpList_loadV (.tmp 43) (j := 1) (v := .int .i64 n) ?_ ?_ KA2.out ?_ Tryz.underlying3 ?_ ?_
    ·rfl
    ·rfl
    ·exact mO_1
    ·rfl
    simp only [pu, sB, s0, sS]
    iterate 2 ((with_reducible refine rN (v := .bool true) ?_ ?_ ?_); (· rfl); (· go_simp; (try with_reducible rfl)); simp only [pu, sB, s0, sS])
    (with_reducible refine rN (v := .pointer (some ⟨pA, 1, none⟩)) ?_ ?_ ?_); (· rfl); (· go_simp; (try rfl)); simp only [pu, sB, s0, sS]
    with_reducible refine wpList_loadV (.tmp 47) (j := 1) (v := .int .i64 n) ?_ ?_ KA2.out ?_ Tryz.underlying3 ?_ ?_
    ·rfl
    ·rfl
    ·exact mO_1
    ·rfl
    simp only [pu, sB, s0, sS]
    iterate 3 ((with_reducible refine rN (v := .bool false) ?_ ?_ ?_); (· rfl); (· go_simp; (try with_reducible rfl)); simp only [pu, sB, s0, sS])
    go_wp2_with fail
    go_ret
    exact ⟨by rw [r7.out (by have h := hE.out; omega)]; rfl, B2.out⟩
   | true =>
    go_upto_region 13 with fail
    refine wp_region_lit ?_
    (with_reducible refine rN (v := .pointer (some ⟨pA, 1, none⟩)) ?_ ?_ ?_); (· rfl); (· go_simp; (try rfl)); simp only [pu, sB, s0, sS]
    with_reducible refine wpList_loadV (.tmp 43) (j := 1) (v := .int .i64 n) ?_ ?_ KA2.out ?_ Tryz.underlying3 ?_ ?_
    ·rfl
    ·rfl
    ·exact mO_1
    ·rfl
    simp only [pu, sB, s0, sS]
    iterate 2 ((with_reducible refine rN (v := .bool true) ?_ ?_ ?_); (· rfl); (· go_simp; (try with_reducible rfl)); simp only [pu, sB, s0, sS])
    (with_reducible refine rN (v := .pointer (some ⟨pA, 1, none⟩)) ?_ ?_ ?_); (· rfl); (· go_simp; (try rfl)); simp only [pu, sB, s0, sS]
    with_reducible refine wpList_loadV (.tmp 47) (j := 1) (v := .int .i64 n) ?_ ?_ KA2.out ?_ Tryz.underlying3 ?_ ?_
    ·rfl
    ·rfl
    ·exact mO_1
    ·rfl
    simp only [pu, sB, s0, sS]
    iterate 3 ((with_reducible refine rN (v := .bool true) ?_ ?_ ?_); (· rfl); (· go_simp; (try with_reducible rfl)); simp only [pu, sB, s0, sS])
    go_wp2_with fail
    go_ret
    exact ⟨by rw [r7.out (by have h := hE.out; omega)]; rfl, B2.out⟩
 have n7 : (k == 7) = false := by simpa using e7
 go_upto_region 12 with fail
 refine wp_region_lit ?_
 iterate 2 ((with_reducible refine rN (v := .bool false) ?_ ?_ ?_); (· rfl); (· go_simp; (try with_reducible rfl)); simp only [pu, sB, s0, sS])
 by_cases e8 : k = 8
 ·have ek : (k == 8) = true := by simpa using e8
  have hE := Lib.hid e8
  clear e8
  go_upto_region 14 with fail
  refine wp_region_lit ?_
  iterate 2 ((with_reducible refine rN (v := .bool true) ?_ ?_ ?_); (· rfl); (· go_simp; (try with_reducible rfl)); simp only [pu, sB, s0, sS])
  cases a1 with
  | false =>
   go_upto_region 16 with fail
   refine wp_region_lit ?_
   (with_reducible refine rN (v := .pointer (some ⟨pA, 1, none⟩)) ?_ ?_ ?_); (· rfl); (· go_simp; (try rfl)); simp only [pu, sB, s0, sS]
   with_reducible refine wpList_loadV (.tmp 54) (j := 1) (v := .int .i64 n) ?_ ?_ KA2.out ?_ Tryz.underlying3 ?_ ?_
   ·rfl
   ·rfl
   ·exact mO_1
   ·rfl
   simp only [pu, sB, s0, sS]
   iterate 2 ((with_reducible refine rN (v := .bool false) ?_ ?_ ?_); (· rfl); (· go_simp; (try with_reducible rfl)); simp only [pu, sB, s0, sS])
   iterate 3 ((with_reducible refine kN ?_ ?_); (· rfl); simp only [pu, sB, s0, sS])
   iterate 2 ((with_reducible refine rN (v := .bool false) ?_ ?_ ?_); (· rfl); (· go_simp; (try with_reducible rfl)); simp only [pu, sB, s0, sS])
   go_wp2_with fail
   go_ret
   exact ⟨by rw [r8.out (by have h := hE.out; omega)]; rfl, B2.out⟩
  | true =>
   cases b17 with
   | false =>
    go_upto_region 16 with fail
    refine wp_region_lit ?_
    (with_reducible refine rN (v := .pointer (some ⟨pA, 1, none⟩)) ?_ ?_ ?_); (· rfl); (· go_simp; (try rfl)); simp only [pu, sB, s0, sS]
    with_reducible refine wpList_loadV (.tmp 54) (j := 1) (v := .int .i64 n) ?_ ?_ KA2.out ?_ Tryz.underlying3 ?_ ?_
    ·rfl
    ·rfl
    ·exact mO_1
    ·rfl
    simp only [pu, sB, s0, sS]
    iterate 2 ((with_reducible refine rN (v := .bool true) ?_ ?_ ?_); (· rfl); (· go_simp; (try with_reducible rfl)); simp only [pu, sB, s0, sS])
    (with_reducible refine rN (v := .pointer (some ⟨pA, 1, none⟩)) ?_ ?_ ?_); (· rfl); (· go_simp; (try rfl)); simp only [pu, sB, s0, sS]
    with_reducible refine wpList_loadV (.tmp 58) (j := 1) (v := .int .i64 n) ?_ ?_ KA2.out ?_ Tryz.underlying3 ?_ ?_
    ·rfl
    ·rfl
    ·exact mO_1
    ·rfl
    simp only [pu, sB, s0, sS]
    iterate 3 ((with_reducible refine rN (v := .bool false) ?_ ?_ ?_); (· rfl); (· go_simp; (try with_reducible rfl)); simp only [pu, sB, s0, sS])
    go_wp2_with fail
    go_ret
    exact ⟨by rw [r8.out (by have h := hE.out; omega)]; rfl, B2.out⟩
   | true =>
    go_upto_region 16 with fail
    refine wp_region_lit ?_
    (with_reducible refine rN (v := .pointer (some ⟨pA, 1, none⟩)) ?_ ?_ ?_); (· rfl); (· go_simp; (try rfl)); simp only [pu, sB, s0, sS]
    with_reducible refine wpList_loadV (.tmp 54) (j := 1) (v := .int .i64 n) ?_ ?_ KA2.out ?_ Tryz.underlying3 ?_ ?_
    ·rfl
    ·rfl
    ·exact mO_1
    ·rfl
    simp only [pu, sB, s0, sS]
    iterate 2 ((with_reducible refine rN (v := .bool true) ?_ ?_ ?_); (· rfl); (· go_simp; (try with_reducible rfl)); simp only [pu, sB, s0, sS])
    (with_reducible refine rN (v := .pointer (some ⟨pA, 1, none⟩)) ?_ ?_ ?_); (· rfl); (· go_simp; (try rfl)); simp only [pu, sB, s0, sS]
    with_reducible refine wpList_loadV (.tmp 58) (j := 1) (v := .int .i64 n) ?_ ?_ KA2.out ?_ Tryz.underlying3 ?_ ?_
    ·rfl
    ·rfl
    ·exact mO_1
    ·rfl
    simp only [pu, sB, s0, sS]
    iterate 3 ((with_reducible refine rN (v := .bool true) ?_ ?_ ?_); (· rfl); (· go_simp; (try with_reducible rfl)); simp only [pu, sB, s0, sS])
    go_wp2_with fail
    go_ret
    exact ⟨by rw [r8.out (by have h := hE.out; omega)]; rfl, B2.out⟩
 have n8 : (k == 8) = false := by simpa using e8
 go_upto_region 14 with fail
 refine wp_region_lit ?_
 iterate 2 ((with_reducible refine rN (v := .bool false) ?_ ?_ ?_); (· rfl); (· go_simp; (try with_reducible rfl)); simp only [pu, sB, s0, sS])
 by_cases e9 : k = 9
 ·have ek : (k == 9) = true := by simpa using e9
  have hE := Lib.hid e9
  clear e9
  go_upto_region 15 with fail
  refine wp_region_lit ?_
  iterate 2 ((with_reducible refine rN (v := .bool true) ?_ ?_ ?_); (· rfl); (· go_simp; (try with_reducible rfl)); simp only [pu, sB, s0, sS])
  cases a1 with
  | false =>
   go_upto_region 16 with fail
   refine wp_region_lit ?_
   (with_reducible refine rN (v := .pointer (some ⟨pA, 1, none⟩)) ?_ ?_ ?_); (· rfl); (· go_simp; (try rfl)); simp only [pu, sB, s0, sS]
   with_reducible refine wpList_loadV (.tmp 54) (j := 1) (v := .int .i64 n) ?_ ?_ KA2.out ?_ Tryz.underlying3 ?_ ?_
   ·rfl
   ·rfl
   ·exact mO_1
   ·rfl
   simp only [pu, sB, s0, sS]
   iterate 2 ((with_reducible refine rN (v := .bool false) ?_ ?_ ?_); (· rfl); (· go_simp; (try with_reducible rfl)); simp only [pu, sB, s0, sS])
   iterate 3 ((with_reducible refine kN ?_ ?_); (· rfl); simp only [pu, sB, s0, sS])
   iterate 2 ((with_reducible refine rN (v := .bool false) ?_ ?_ ?_); (· rfl); (· go_simp; (try with_reducible rfl)); simp only [pu, sB, s0, sS])
   go_wp2_with fail
   go_ret
   exact ⟨by rw [r8.out (by have h := hE.out; omega)]; rfl, B2.out⟩
  | true =>
   cases b17 with
   | false =>
    go_upto_region 16 with fail
    refine wp_region_lit ?_
    (with_reducible refine rN (v := .pointer (some ⟨pA, 1, none⟩)) ?_ ?_ ?_); (· rfl); (· go_simp; (try rfl)); simp only [pu, sB, s0, sS]
    with_reducible refine wpList_loadV (.tmp 54) (j := 1) (v := .int .i64 n) ?_ ?_ KA2.out ?_ Tryz.underlying3 ?_ ?_
    ·rfl
    ·rfl
    ·exact mO_1
    ·rfl
    simp only [pu, sB, s0, sS]
    iterate 2 ((with_reducible refine rN (v := .bool true) ?_ ?_ ?_); (· rfl); (· go_simp; (try with_reducible rfl)); simp only [pu, sB, s0, sS])
    (with_reducible refine rN (v := .pointer (some ⟨pA, 1, none⟩)) ?_ ?_ ?_); (· rfl); (· go_simp; (try rfl)); simp only [pu, sB, s0, sS]
    with_reducible refine wpList_loadV (.tmp 58) (j := 1) (v := .int .i64 n) ?_ ?_ KA2.out ?_ Tryz.underlying3 ?_ ?_
    ·rfl
    ·rfl
    ·exact mO_1
    ·rfl
    simp only [pu, sB, s0, sS]
    iterate 3 ((with_reducible refine rN (v := .bool false) ?_ ?_ ?_); (· rfl); (· go_simp; (try with_reducible rfl)); simp only [pu, sB, s0, sS])
    go_wp2_with fail
    go_ret
    exact ⟨by rw [r8.out (by have h := hE.out; omega)]; rfl, B2.out⟩
   | true =>
    go_upto_region 16 with fail
    refine wp_region_lit ?_
    (with_reducible refine rN (v := .pointer (some ⟨pA, 1, none⟩)) ?_ ?_ ?_); (· rfl); (· go_simp; (try rfl)); simp only [pu, sB, s0, sS]
    with_reducible refine wpList_loadV (.tmp 54) (j := 1) (v := .int .i64 n) ?_ ?_ KA2.out ?_ Tryz.underlying3 ?_ ?_
    ·rfl
    ·rfl
    ·exact mO_1
    ·rfl
    simp only [pu, sB, s0, sS]
    iterate 2 ((with_reducible refine rN (v := .bool true) ?_ ?_ ?_); (· rfl); (· go_simp; (try with_reducible rfl)); simp only [pu, sB, s0, sS])
    (with_reducible refine rN (v := .pointer (some ⟨pA, 1, none⟩)) ?_ ?_ ?_); (· rfl); (· go_simp; (try rfl)); simp only [pu, sB, s0, sS]
    with_reducible refine wpList_loadV (.tmp 58) (j := 1) (v := .int .i64 n) ?_ ?_ KA2.out ?_ Tryz.underlying3 ?_ ?_
    ·rfl
    ·rfl
    ·exact mO_1
    ·rfl
    simp only [pu, sB, s0, sS]
    iterate 3 ((with_reducible refine rN (v := .bool true) ?_ ?_ ?_); (· rfl); (· go_simp; (try with_reducible rfl)); simp only [pu, sB, s0, sS])
    go_wp2_with fail
    go_ret
    exact ⟨by rw [r8.out (by have h := hE.out; omega)]; rfl, B2.out⟩
 have n9 : (k == 9) = false := by simpa using e9
 go_upto_region 15 with fail
 refine wp_region_lit ?_
 iterate 2 ((with_reducible refine rN (v := .bool false) ?_ ?_ ?_); (· rfl); (· go_simp; (try with_reducible rfl)); simp only [pu, sB, s0, sS])
 by_cases e11 : k = 11
 ·have ek : (k == 11) = true := by simpa using e11
  have hE := Lib.hid e11
  clear e11
  go_upto_region 17 with fail
  refine wp_region_lit ?_
  iterate 2 ((with_reducible refine rN (v := .bool true) ?_ ?_ ?_); (· rfl); (· go_simp; (try with_reducible rfl)); simp only [pu, sB, s0, sS])
  go_upto_region 18 with fail
  refine wp_region_lit ?_
  (with_reducible refine rN (v := .pointer (some ⟨pA, 4, none⟩)) ?_ ?_ ?_); (· rfl); (· go_simp; (try rfl)); simp only [pu, sB, s0, sS]
  with_reducible refine wpList_loadM (.tmp 64) (o := 4) (xs := (cellsF f fs)) ?_ ?_ KA2.out ?_ Tryz.underlying25 ?_ (infoTF16 (cellsF_size f fs)) ?_
  ·rfl
  ·rfl
  ·exact mO_f
  ·rfl
  simp only [pu, sB, s0, sS]
  go_wp2_with fail
  refine (HF.out _ B2.out).mono ?_
  rintro e w3 ⟨rfl, hb⟩
  have B3 := Lib.hid (B2.out.trans (hb.mono B2.out.size))
  have KA3 := Lib.hid (KA2.out.below hb KA2.out.lt)
  clear hb
  clear B2 KA2
  go_simp
  rename_i hKK
  refine hKK _ _ ?_
  clear hKK
  try simp only [pu, sB, s0, sS]
  (with_reducible refine rN (v := ?_) ?_ ?_ ?_); rotate_left; (· rfl); (· go_simp; (try with_reducible rfl)); simp only [pu, sB, s0, sS]
  go_wp2_with fail
  go_ret
  exact ⟨by rw [r11.out (by have h := hE.out; omega)]; rfl, B3.out⟩
 have n11 : (k == 11) = false := by simpa using e11
 go_upto_region 17 with fail
 refine wp_region_lit ?_
 iterate 2 ((with_reducible refine rN (v := .bool false) ?_ ?_ ?_); (· rfl); (· go_simp; (try with_reducible rfl)); simp only [pu, sB, s0, sS])
 by_cases e12 : k = 12
 ·have ek : (k == 12) = true := by simpa using e12
  have hE := Lib.hid e12
  clear e12
  go_upto_region 19 with fail
  refine wp_region_lit ?_
  iterate 2 ((with_reducible refine rN (v := .bool true) ?_ ?_ ?_); (· rfl); (· go_simp; (try with_reducible rfl)); simp only [pu, sB, s0, sS])
  cases a0 with
  | false =>
   go_upto_region 20 with fail
   refine wp_region_lit ?_
   (with_reducible refine rN (v := .pointer (some ⟨pA, 1, none⟩)) ?_ ?_ ?_); (· rfl); (· go_simp; (try rfl)); simp only [pu, sB, s0, sS]
   with_reducible refine wpList_loadV (.tmp 69) (j := 1) (v := .int .i64 n) ?_ ?_ KA2.out ?_ Tryz.underlying3 ?_ ?_
   ·rfl
   ·rfl
   ·exact mO_1
   ·rfl
   simp only [pu, sB, s0, sS]
   iterate 2 ((with_reducible refine rN (v := .bool false) ?_ ?_ ?_); (· rfl); (· go_simp; (try with_reducible rfl)); simp only [pu, sB, s0, sS])
   iterate 3 ((with_reducible refine kN ?_ ?_); (· rfl); simp only [pu, sB, s0, sS])
   iterate 2 ((with_reducible refine rN (v := .bool false) ?_ ?_ ?_); (· rfl); (· go_simp; (try with_reducible rfl)); simp only [pu, sB, s0, sS])
   iterate 3 ((with_reducible refine kN ?_ ?_); (· rfl); simp only [pu, sB, s0, sS])
   iterate 2 ((with_reducible refine rN (v := .bool false) ?_ ?_ ?_); (· rfl); (· go_simp; (try with_reducible rfl)); simp only [pu, sB, s0, sS])
   iterate 3 ((with_reducible refine kN ?_ ?_); (· rfl); simp only [pu, sB, s0, sS])
   iterate 2 ((with_reducible refine rN (v := .bool false) ?_ ?_ ?_); (· rfl); (· go_simp; (try with_reducible rfl)); simp only [pu, sB, s0, sS])
   go_wp2_with fail
   go_ret
   exact ⟨by rw [r12.out (by have h := hE.out; omega)]; rfl, B2.out⟩
  | true =>
   cases b99 with
   | false =>
    go_upto_region 20 with fail
    refine wp_region_lit ?_
    (with_reducible refine rN (v := .pointer (some ⟨pA, 1, none⟩)) ?_ ?_ ?_); (· rfl); (· go_simp; (try rfl)); simp only [pu, sB, s0, sS]
    with_reducible refine wpList_loadV (.tmp 69) (j := 1) (v := .int .i64 n) ?_ ?_ KA2.out ?_ Tryz.underlying3 ?_ ?_
    ·rfl
    ·rfl
    ·exact mO_1
    ·rfl
    simp only [pu, sB, s0, sS]
    iterate 2 ((with_reducible refine rN (v := .bool true) ?_ ?_ ?_); (· rfl); (· go_simp; (try with_reducible rfl)); simp only [pu, sB, s0, sS])
    (with_reducible refine rN (v := .pointer (some ⟨pA, 1, none⟩)) ?_ ?_ ?_); (· rfl); (· go_simp; (try rfl)); simp only [pu, sB, s0, sS]
    with_reducible refine wpList_loadV (.tmp 73) (j := 1) (v := .int .i64 n) ?_ ?_ KA2.out ?_ Tryz.underlying3 ?_ ?_
    ·rfl
    ·rfl
    ·exact mO_1
    ·rfl
    simp only [pu, sB, s0, sS]
    iterate 3 ((with_reducible refine rN (v := .bool false) ?_ ?_ ?_); (· rfl); (· go_simp; (try with_reducible rfl)); simp only [pu, sB, s0, sS])
    iterate 3 ((with_reducible refine kN ?_ ?_); (· rfl); simp only [pu, sB, s0, sS])
    iterate 2 ((with_reducible refine rN (v := .bool false) ?_ ?_ ?_); (· rfl); (· go_simp; (try with_reducible rfl)); simp only [pu, sB, s0, sS])
    iterate 3 ((with_reducible refine kN ?_ ?_); (· rfl); simp only [pu, sB, s0, sS])
    iterate 2 ((with_reducible refine rN (v := .bool false) ?_ ?_ ?_); (· rfl); (· go_simp; (try with_reducible rfl)); simp only [pu, sB, s0, sS])
    go_wp2_with fail
    go_ret
    exact ⟨by rw [r12.out (by have h := hE.out; omega)]; rfl, B2.out⟩
   | true =>
    cases e0 with
    | false =>
     go_upto_region 20 with fail
     refine wp_region_lit ?_
     (with_reducible refine rN (v := .pointer (some ⟨pA, 1, none⟩)) ?_ ?_ ?_); (· rfl); (· go_simp; (try rfl)); simp only [pu, sB, s0, sS]
     with_reducible refine wpList_loadV (.tmp 69) (j := 1) (v := .int .i64 n) ?_ ?_ KA2.out ?_ Tryz.underlying3 ?_ ?_
     ·rfl
     ·rfl
     ·exact mO_1
     ·rfl
     simp only [pu, sB, s0, sS]
     iterate 2 ((with_reducible refine rN (v := .bool true) ?_ ?_ ?_); (· rfl); (· go_simp; (try with_reducible rfl)); simp only [pu, sB, s0, sS])
     (with_reducible refine rN (v := .pointer (some ⟨pA, 1, none⟩)) ?_ ?_ ?_); (· rfl); (· go_simp; (try rfl)); simp only [pu, sB, s0, sS]
     with_reducible refine wpList_loadV (.tmp 73) (j := 1) (v := .int .i64 n) ?_ ?_ KA2.out ?_ Tryz.underlying3 ?_ ?_
     ·rfl
     ·rfl
     ·exact mO_1
     ·rfl
     simp only [pu, sB, s0, sS]
     iterate 3 ((with_reducible refine rN (v := .bool true) ?_ ?_ ?_); (· rfl); (· go_simp; (try with_reducible rfl)); simp only [pu, sB, s0, sS])
     (with_reducible refine rN (v := .pointer (some ⟨pA, 2, none⟩)) ?_ ?_ ?_); (· rfl); (· go_simp; (try rfl)); simp only [pu, sB, s0, sS]
     with_reducible refine wpList_loadV (.tmp 78) (j := 2) (v := .int .i64 m) ?_ ?_ KA2.out ?_ Tryz.underlying3 ?_ ?_
     ·rfl
     ·rfl
     ·exact mO_2
     ·rfl
     simp only [pu, sB, s0, sS]
     iterate 3 ((with_reducible refine rN (v := .bool false) ?_ ?_ ?_); (· rfl); (· go_simp; (try with_reducible rfl)); simp only [pu, sB, s0, sS])
     iterate 3 ((with_reducible refine kN ?_ ?_); (· rfl); simp only [pu, sB, s0, sS])
     iterate 2 ((with_reducible refine rN (v := .bool false) ?_ ?_ ?_); (· rfl); (· go_simp; (try with_reducible rfl)); simp only [pu, sB, s0, sS])
     go_wp2_with fail
     go_ret
     exact ⟨by rw [r12.out (by have h := hE.out; omega)]; rfl, B2.out⟩
    | true =>
     cases e99 with
     | false =>
      go_upto_region 20 with fail
      refine wp_region_lit ?_
      (with_reducible refine rN (v := .pointer (some ⟨pA, 1, none⟩)) ?_ ?_ ?_); (· rfl); (· go_simp; (try rfl)); simp only [pu, sB, s0, sS]
      with_reducible refine wpList_loadV (.tmp 69) (j := 1) (v := .int .i64 n) ?_ ?_ KA2.out ?_ Tryz.underlying3 ?_ ?_
      ·rfl
      ·rfl
      ·exact mO_1
      ·rfl
      simp only [pu, sB, s0, sS]
      iterate 2 ((with_reducible refine rN (v := .bool true) ?_ ?_ ?_); (· rfl); (· go_simp; (try with_reducible rfl)); simp only [pu, sB, s0, sS])
      (with_reducible refine rN (v := .pointer (some ⟨pA, 1, none⟩)) ?_ ?_ ?_); (· rfl); (· go_simp; (try rfl)); simp only [pu, sB, s0, sS]
      with_reducible refine wpList_loadV (.tmp 73) (j := 1) (v := .int .i64 n) ?_ ?_ KA2.out ?_ Tryz.underlying3 ?_ ?_
      ·rfl
      ·rfl
      ·exact mO_1
      ·rfl
      simp only [pu, sB, s0, sS]
      iterate 3 ((with_reducible refine rN (v := .bool true) ?_ ?_ ?_); (· rfl); (· go_simp; (try with_reducible rfl)); simp only [pu, sB, s0, sS])
      (with_reducible refine rN (v := .pointer (some ⟨pA, 2, none⟩)) ?_ ?_ ?_); (· rfl); (· go_simp; (try rfl)); simp only [pu, sB, s0, sS]
      with_reducible refine wpList_loadV (.tmp 78) (j := 2) (v := .int .i64 m) ?_ ?_ KA2.out ?_ Tryz.underlying3 ?_ ?_
      ·rfl
      ·rfl
      ·exact mO_2
      ·rfl
      simp only [pu, sB, s0, sS]
      iterate 3 ((with_reducible refine rN (v := .bool true) ?_ ?_ ?_); (· rfl); (· go_simp; (try with_reducible rfl)); simp only [pu, sB, s0, sS])
      (with_reducible refine rN (v := .pointer (some ⟨pA, 2, none⟩)) ?_ ?_ ?_); (· rfl); (· go_simp; (try rfl)); simp only [pu, sB, s0, sS]
      with_reducible refine wpList_loadV (.tmp 83) (j := 2) (v := .int .i64 m) ?_ ?_ KA2.out ?_ Tryz.underlying3 ?_ ?_
      ·rfl
      ·rfl
      ·exact mO_2
      ·rfl
      simp only [pu, sB, s0, sS]
      iterate 3 ((with_reducible refine rN (v := .bool false) ?_ ?_ ?_); (· rfl); (· go_simp; (try with_reducible rfl)); simp only [pu, sB, s0, sS])
      go_wp2_with fail
      go_ret
      exact ⟨by rw [r12.out (by have h := hE.out; omega)]; rfl, B2.out⟩
     | true =>
      go_upto_region 20 with fail
      refine wp_region_lit ?_
      (with_reducible refine rN (v := .pointer (some ⟨pA, 1, none⟩)) ?_ ?_ ?_); (· rfl); (· go_simp; (try rfl)); simp only [pu, sB, s0, sS]
      with_reducible refine wpList_loadV (.tmp 69) (j := 1) (v := .int .i64 n) ?_ ?_ KA2.out ?_ Tryz.underlying3 ?_ ?_
      ·rfl
      ·rfl
      ·exact mO_1
      ·rfl
      simp only [pu, sB, s0, sS]
      iterate 2 ((with_reducible refine rN (v := .bool true) ?_ ?_ ?_); (· rfl); (· go_simp; (try with_reducible rfl)); simp only [pu, sB, s0, sS])
      (with_reducible refine rN (v := .pointer (some ⟨pA, 1, none⟩)) ?_ ?_ ?_); (· rfl); (· go_simp; (try rfl)); simp only [pu, sB, s0, sS]
      with_reducible refine wpList_loadV (.tmp 73) (j := 1) (v := .int .i64 n) ?_ ?_ KA2.out ?_ Tryz.underlying3 ?_ ?_
      ·rfl
      ·rfl
      ·exact mO_1
      ·rfl
      simp only [pu, sB, s0, sS]
      iterate 3 ((with_reducible refine rN (v := .bool true) ?_ ?_ ?_); (· rfl); (· go_simp; (try with_reducible rfl)); simp only [pu, sB, s0, sS])
      (with_reducible refine rN (v := .pointer (some ⟨pA, 2, none⟩)) ?_ ?_ ?_); (· rfl); (· go_simp; (try rfl)); simp only [pu, sB, s0, sS]
      with_reducible refine wpList_loadV (.tmp 78) (j := 2) (v := .int .i64 m) ?_ ?_ KA2.out ?_ Tryz.underlying3 ?_ ?_
      ·rfl
      ·rfl
      ·exact mO_2
      ·rfl
      simp only [pu, sB, s0, sS]
      iterate 3 ((with_reducible refine rN (v := .bool true) ?_ ?_ ?_); (· rfl); (· go_simp; (try with_reducible rfl)); simp only [pu, sB, s0, sS])
      (with_reducible refine rN (v := .pointer (some ⟨pA, 2, none⟩)) ?_ ?_ ?_); (· rfl); (· go_simp; (try rfl)); simp only [pu, sB, s0, sS]
      with_reducible refine wpList_loadV (.tmp 83) (j := 2) (v := .int .i64 m) ?_ ?_ KA2.out ?_ Tryz.underlying3 ?_ ?_
      ·rfl
      ·rfl
      ·exact mO_2
      ·rfl
      simp only [pu, sB, s0, sS]
      iterate 3 ((with_reducible refine rN (v := .bool true) ?_ ?_ ?_); (· rfl); (· go_simp; (try with_reducible rfl)); simp only [pu, sB, s0, sS])
      go_wp2_with fail
      go_ret
      exact ⟨by rw [r12.out (by have h := hE.out; omega)]; rfl, B2.out⟩
 have n12 : (k == 12) = false := by simpa using e12
 go_upto_region 19 with fail
 refine wp_region_lit ?_
 iterate 2 ((with_reducible refine rN (v := .bool false) ?_ ?_ ?_); (· rfl); (· go_simp; (try with_reducible rfl)); simp only [pu, sB, s0, sS])
 by_cases e13 : k = 13
 ·have ek : (k == 13) = true := by simpa using e13
  have hE := Lib.hid e13
  clear e13
  go_upto_region 21 with fail
  refine wp_region_lit ?_
  iterate 2 ((with_reducible refine rN (v := .bool true) ?_ ?_ ?_); (· rfl); (· go_simp; (try with_reducible rfl)); simp only [pu, sB, s0, sS])
  cases an with
  | false =>
   go_upto_region 22 with fail
   refine wp_region_lit ?_
   (with_reducible refine rN (v := .pointer (some ⟨pA, 1, none⟩)) ?_ ?_ ?_); (· rfl); (· go_simp; (try rfl)); simp only [pu, sB, s0, sS]
   with_reducible refine wpList_loadV (.tmp 89) (j := 1) (v := .int .i64 n) ?_ ?_ KA2.out ?_ Tryz.underlying3 ?_ ?_
   ·rfl
   ·rfl
   ·exact mO_1
   ·rfl
   simp only [pu, sB, s0, sS]
   iterate 2 ((with_reducible refine rN (v := .bool false) ?_ ?_ ?_); (· rfl); (· go_simp; (try with_reducible rfl)); simp only [pu, sB, s0, sS])
   iterate 3 ((with_reducible refine kN ?_ ?_); (· rfl); simp only [pu, sB, s0, sS])
   iterate 2 ((with_reducible refine rN (v := .bool false) ?_ ?_ ?_); (· rfl); (· go_simp; (try with_reducible rfl)); simp only [pu, sB, s0, sS])
   iterate 3 ((with_reducible refine kN ?_ ?_); (· rfl); simp only [pu, sB, s0, sS])
   iterate 2 ((with_reducible refine rN (v := .bool false) ?_ ?_ ?_); (· rfl); (· go_simp; (try with_reducible rfl)); simp only [pu, sB, s0, sS])
   iterate 3 ((with_reducible refine kN ?_ ?_); (· rfl); simp only [pu, sB, s0, sS])
   iterate 2 ((with_reducible refine rN (v := .bool false) ?_ ?_ ?_); (· rfl); (· go_simp; (try with_reducible rfl)); simp only [pu, sB, s0, sS])
   go_wp2_with fail
   go_ret
   exact ⟨by rw [r13.out (by have h := hE.out; omega)]; rfl, B2.out⟩
  | true =>
   cases b99 with
   | false =>
    go_upto_region 22 with fail
    refine wp_region_lit ?_
    (with_reducible refine rN (v := .pointer (some ⟨pA, 1, none⟩)) ?_ ?_ ?_); (· rfl); (· go_simp; (try rfl)); simp only [pu, sB, s0, sS]
    with_reducible refine wpList_loadV (.tmp 89) (j := 1) (v := .int .i64 n) ?_ ?_ KA2.out ?_ Tryz.underlying3 ?_ ?_
    ·rfl
    ·rfl
    ·exact mO_1
    ·rfl
    simp only [pu, sB, s0, sS]
    iterate 2 ((with_reducible refine rN (v := .bool true) ?_ ?_ ?_); (· rfl); (· go_simp; (try with_reducible rfl)); simp only [pu, sB, s0, sS])
    (with_reducible refine rN (v := .pointer (some ⟨pA, 1, none⟩)) ?_ ?_ ?_); (· rfl); (· go_simp; (try rfl)); simp only [pu, sB, s0, sS]
    with_reducible refine wpList_loadV (.tmp 93) (j := 1) (v := .int .i64 n) ?_ ?_ KA2.out ?_ Tryz.underlying3 ?_ ?_
    ·rfl
    ·rfl
    ·exact mO_1
    ·rfl
    simp only [pu, sB, s0, sS]
    iterate 3 ((with_reducible refine rN (v := .bool false) ?_ ?_ ?_); (· rfl); (· go_simp; (try with_reducible rfl)); simp only [pu, sB, s0, sS])
    iterate 3 ((with_reducible refine kN ?_ ?_); (· rfl); simp only [pu, sB, s0, sS])
    iterate 2 ((with_reducible refine rN (v := .bool false) ?_ ?_ ?_); (· rfl); (· go_simp; (try with_reducible rfl)); simp only [pu, sB, s0, sS])
    iterate 3 ((with_reducible refine kN ?_ ?_); (· rfl); simp only [pu, sB, s0, sS])
    iterate 2 ((with_reducible refine rN (v := .bool false) ?_ ?_ ?_); (· rfl); (· go_simp; (try with_reducible rfl)); simp only [pu, sB, s0, sS])
    go_wp2_with fail
    go_ret
    exact ⟨by rw [r13.out (by have h := hE.out; omega)]; rfl, B2.out⟩
   | true =>
    cases en with
    | false =>
     go_upto_region 22 with fail
     refine wp_region_lit ?_
     (with_reducible refine rN (v := .pointer (some ⟨pA, 1, none⟩)) ?_ ?_ ?_); (· rfl); (· go_simp; (try rfl)); simp only [pu, sB, s0, sS]
     with_reducible refine wpList_loadV (.tmp 89) (j := 1) (v := .int .i64 n) ?_ ?_ KA2.out ?_ Tryz.underlying3 ?_ ?_
     ·rfl
     ·rfl
     ·exact mO_1
     ·rfl
     simp only [pu, sB, s0, sS]
     iterate 2 ((with_reducible refine rN (v := .bool true) ?_ ?_ ?_); (· rfl); (· go_simp; (try with_reducible rfl)); simp only [pu, sB, s0, sS])
     (with_reducible refine rN (v := .pointer (some ⟨pA, 1, none⟩)) ?_ ?_ ?_); (· rfl); (· go_simp; (try rfl)); simp only [pu, sB, s0, sS]
     with_reducible refine wpList_loadV (.tmp 93) (j := 1) (v := .int .i64 n) ?_ ?_ KA2.out ?_ Tryz.underlying3 ?_ ?_
     ·rfl
     ·rfl
     ·exact mO_1
     ·rfl
     simp only [pu, sB, s0, sS]
     iterate 3 ((with_reducible refine rN (v := .bool true) ?_ ?_ ?_); (· rfl); (· go_simp; (try with_reducible rfl)); simp only [pu, sB, s0, sS])
     (with_reducible refine rN (v := .pointer (some ⟨pA, 2, none⟩)) ?_ ?_ ?_); (· rfl); (· go_simp; (try rfl)); simp only [pu, sB, s0, sS]
     with_reducible refine wpList_loadV (.tmp 98) (j := 2) (v := .int .i64 m) ?_ ?_ KA2.out ?_ Tryz.underlying3 ?_ ?_
     ·rfl
     ·rfl
     ·exact mO_2
     ·rfl
     simp only [pu, sB, s0, sS]
     iterate 3 ((with_reducible refine rN (v := .bool false) ?_ ?_ ?_); (· rfl); (· go_simp; (try with_reducible rfl)); simp only [pu, sB, s0, sS])
     iterate 3 ((with_reducible refine kN ?_ ?_); (· rfl); simp only [pu, sB, s0, sS])
     iterate 2 ((with_reducible refine rN (v := .bool false) ?_ ?_ ?_); (· rfl); (· go_simp; (try with_reducible rfl)); simp only [pu, sB, s0, sS])
     go_wp2_with fail
     go_ret
     exact ⟨by rw [r13.out (by have h := hE.out; omega)]; rfl, B2.out⟩
    | true =>
     cases e99 with
     | false =>
      go_upto_region 22 with fail
      refine wp_region_lit ?_
      (with_reducible refine rN (v := .pointer (some ⟨pA, 1, none⟩)) ?_ ?_ ?_); (· rfl); (· go_simp; (try rfl)); simp only [pu, sB, s0, sS]
      with_reducible refine wpList_loadV (.tmp 89) (j := 1) (v := .int .i64 n) ?_ ?_ KA2.out ?_ Tryz.underlying3 ?_ ?_
      ·rfl
      ·rfl
      ·exact mO_1
      ·rfl
      simp only [pu, sB, s0, sS]
      iterate 2 ((with_reducible refine rN (v := .bool true) ?_ ?_ ?_); (· rfl); (· go_simp; (try with_reducible rfl)); simp only [pu, sB, s0, sS])
      (with_reducible refine rN (v := .pointer (some ⟨pA, 1, none⟩)) ?_ ?_ ?_); (· rfl); (· go_simp; (try rfl)); simp only [pu, sB, s0, sS]
      with_reducible refine wpList_loadV (.tmp 93) (j := 1) (v := .int .i64 n) ?_ ?_ KA2.out ?_ Tryz.underlying3 ?_ ?_
      ·rfl
      ·rfl
      ·exact mO_1
      ·rfl
      simp only [pu, sB, s0, sS]
      iterate 3 ((with_reducible refine rN (v := .bool true) ?_ ?_ ?_); (· rfl); (· go_simp; (try with_reducible rfl)); simp only [pu, sB, s0, sS])
      (with_reducible refine rN (v := .pointer (some ⟨pA, 2, none⟩)) ?_ ?_ ?_); (· rfl); (· go_simp; (try rfl)); simp only [pu, sB, s0, sS]
      with_reducible refine wpList_loadV (.tmp 98) (j := 2) (v := .int .i64 m) ?_ ?_ KA2.out ?_ Tryz.underlying3 ?_ ?_
      ·rfl
      ·rfl
      ·exact mO_2
      ·rfl
      simp only [pu, sB, s0, sS]
      iterate 3 ((with_reducible refine rN (v := .bool true) ?_ ?_ ?_); (· rfl); (· go_simp; (try with_reducible rfl)); simp only [pu, sB, s0, sS])
      (with_reducible refine rN (v := .pointer (some ⟨pA, 2, none⟩)) ?_ ?_ ?_); (· rfl); (· go_simp; (try rfl)); simp only [pu, sB, s0, sS]
      with_reducible refine wpList_loadV (.tmp 103) (j := 2) (v := .int .i64 m) ?_ ?_ KA2.out ?_ Tryz.underlying3 ?_ ?_
      ·rfl
      ·rfl
      ·exact mO_2
      ·rfl
      simp only [pu, sB, s0, sS]
      iterate 3 ((with_reducible refine rN (v := .bool false) ?_ ?_ ?_); (· rfl); (· go_simp; (try with_reducible rfl)); simp only [pu, sB, s0, sS])
      go_wp2_with fail
      go_ret
      exact ⟨by rw [r13.out (by have h := hE.out; omega)]; rfl, B2.out⟩
     | true =>
      go_upto_region 22 with fail
      refine wp_region_lit ?_
      (with_reducible refine rN (v := .pointer (some ⟨pA, 1, none⟩)) ?_ ?_ ?_); (· rfl); (· go_simp; (try rfl)); simp only [pu, sB, s0, sS]
      with_reducible refine wpList_loadV (.tmp 89) (j := 1) (v := .int .i64 n) ?_ ?_ KA2.out ?_ Tryz.underlying3 ?_ ?_
      ·rfl
      ·rfl
      ·exact mO_1
      ·rfl
      simp only [pu, sB, s0, sS]
      iterate 2 ((with_reducible refine rN (v := .bool true) ?_ ?_ ?_); (· rfl); (· go_simp; (try with_reducible rfl)); simp only [pu, sB, s0, sS])
      (with_reducible refine rN (v := .pointer (some ⟨pA, 1, none⟩)) ?_ ?_ ?_); (· rfl); (· go_simp; (try rfl)); simp only [pu, sB, s0, sS]
      with_reducible refine wpList_loadV (.tmp 93) (j := 1) (v := .int .i64 n) ?_ ?_ KA2.out ?_ Tryz.underlying3 ?_ ?_
      ·rfl
      ·rfl
      ·exact mO_1
      ·rfl
      simp only [pu, sB, s0, sS]
      iterate 3 ((with_reducible refine rN (v := .bool true) ?_ ?_ ?_); (· rfl); (· go_simp; (try with_reducible rfl)); simp only [pu, sB, s0, sS])
      (with_reducible refine rN (v := .pointer (some ⟨pA, 2, none⟩)) ?_ ?_ ?_); (· rfl); (· go_simp; (try rfl)); simp only [pu, sB, s0, sS]
      with_reducible refine wpList_loadV (.tmp 98) (j := 2) (v := .int .i64 m) ?_ ?_ KA2.out ?_ Tryz.underlying3 ?_ ?_
      ·rfl
      ·rfl
      ·exact mO_2
      ·rfl
      simp only [pu, sB, s0, sS]
      iterate 3 ((with_reducible refine rN (v := .bool true) ?_ ?_ ?_); (· rfl); (· go_simp; (try with_reducible rfl)); simp only [pu, sB, s0, sS])
      (with_reducible refine rN (v := .pointer (some ⟨pA, 2, none⟩)) ?_ ?_ ?_); (· rfl); (· go_simp; (try rfl)); simp only [pu, sB, s0, sS]
      with_reducible refine wpList_loadV (.tmp 103) (j := 2) (v := .int .i64 m) ?_ ?_ KA2.out ?_ Tryz.underlying3 ?_ ?_
      ·rfl
      ·rfl
      ·exact mO_2
      ·rfl
      simp only [pu, sB, s0, sS]
      iterate 3 ((with_reducible refine rN (v := .bool true) ?_ ?_ ?_); (· rfl); (· go_simp; (try with_reducible rfl)); simp only [pu, sB, s0, sS])
      go_wp2_with fail
      go_ret
      exact ⟨by rw [r13.out (by have h := hE.out; omega)]; rfl, B2.out⟩
 have n13 : (k == 13) = false := by simpa using e13
 go_upto_region 21 with fail
 refine wp_region_lit ?_
 iterate 2 ((with_reducible refine rN (v := .bool false) ?_ ?_ ?_); (· rfl); (· go_simp; (try with_reducible rfl)); simp only [pu, sB, s0, sS])
 go_upto_region 23 with fail
 refine wp_region_lit ?_
 (with_reducible refine rN (v := .bool true) ?_ ?_ ?_); (· rfl); (· go_simp; (try with_reducible rfl)); simp only [pu, sB, s0, sS]
 go_wp2_with fail
 go_ret
 exact ⟨by rw [r0.out (by omega)]; rfl, B2.out⟩
end Go.Proofs.YtbcgkeclmioeiaaGreatDoor
namespace Go.Proofs.YtbcgkeclmioeiaaGreatDoor
open Go.RowKit
open Wd (Bs)

set_option maxRecDepth 100000 in
theorem refAdd (a b : Int) (w : World) :
  Calls Tryz.prog 59 #[.int .i64 a, .int .i64 b] w fun e w' => e = .returned (.int .i64 (Num.clampI (Num.clampI a + Num.clampI b))) ∧ w = w' := by
 obtain ⟨a0, a1⟩ := Num.clampI_bd a
 obtain ⟨b0, b1⟩ := Num.clampI_bd b
 go_enter Tryz.func59, Tryz.ntmps59
 go_wp2_with (go_at_call 58; refine (refClamp _ _).mono ?_; rintro e w' ⟨rfl, rfl⟩)
 go_ret
 exact ⟨rfl, rfl⟩
end Go.Proofs.YtbcgkeclmioeiaaGreatDoor
namespace Go.Proofs.YtbcgkeclmioeiaaGreatDoor
open Go.RowKit
open Wd (Bs)


theorem typesWalk (n z : Int) (v1 v2 v3 : Bool) (h1 : decide (1 ≤ n) = v1) (h2 : decide (n ≤ 63) = v2) (hz : bits .and .i64 n 6 = z) (h3 : (z == 0) = v3) (w : World) :
  Calls Tryz.prog 103 #[.int .i64 n] w fun e w' => e = .returned (.bool ((v1 && v2) && v3)) ∧ w = w' := by
 cases v1 <;> cases v2 <;> cases v3
 all_goals (
  go_enter Tryz.func103, Tryz.ntmps103
  go_wp2_with fail
  go_ret
  exact ⟨rfl, rfl⟩)
theorem refTypes15 (n : Int) (w : World) : Calls Tryz.prog 103 #[.int .i64 n] w fun e w' => e = .returned (.bool (Mo.typesB n)) ∧ w = w' := by
 rw [types_via]
 exact typesWalk n _ _ _ _ rfl rfl rfl rfl w
theorem run_eq_modX (a b : Mo.Md) (W : World) : (Op.equalIn 10000 39 (.agg (cellsX a)) (.agg (cellsX b))).run Tryz.prog W = .ok (eqMo a b) W :=
 run_eq_mod a.k a.n a.m b.k b.n b.m ⟨a.sub.toArray⟩ ⟨b.sub.toArray⟩ a.f b.f (fsOf a.f) (fsOf b.f) (fsOf_sub _) (fsOf_sub _) W
set_option maxHeartbeats 1000000 in
theorem refIs15 (k n m : Int) (s : ByteArray) (f : Fil.Flt) (fs : ByteArray) (hf : f.sub = fs.data.toList) (hss : s.size ≤ maxLen) (hs : fs.size ≤ maxLen) (w : World) :
  Calls Tryz.prog 50 #[.agg (mO k n m s (cellsF f fs))] w fun e w' => e = .returned (.bool (Mo.okB ⟨k, n, m, s.data.toList, f⟩)) ∧ Below w.heap.size w w' := by
 obtain ⟨x, hx⟩ : ∃ x, x = (⟨k, n, m, s.data.toList, f⟩ : Mo.Md) := ⟨_, rfl⟩
 have hxk : x.k = k := by rw [hx]
 have nok : (k < 1 ∨ 14 < k) → Mo.okB x = false := fun h => Mo.ok_not (by rw [hxk]; simp only [Mo.isKind, Bool.or_eq_false_iff, beq_eq_false_iff_ne]; omega)
 rw [← hx]
 by_cases h0 : k < 1
 ·rw [nok (.inl h0)]; exact rIsLow k n m s f fs w h0
 by_cases h14 : 14 < k
 ·rw [nok (.inr h14)]; exact rIsHigh k n m s f fs w h0 h14
 have HU : Hid (∀ W, Below w.heap.size w W → _) := Lib.hid fun W _ => usedIn k n m s f fs W hf
 rw [Mo.okB_via, ← Mo.used_both]
 cases hq : eqMo (Mo.usedZ x) Mo.zero with
 | false =>
  rw [Bool.and_false]
  exact rIsNo k n m s f fs false w h0 h14 HU (Lib.hid fun W => by rw [← hx, ← hq]; exact run_eq_modX (Mo.usedZ x) Mo.zero W) rfl
 | true =>
  rw [Bool.and_true]
  refine rIsIn k n m s f fs true (Mo.okK x) (Mo.typesB n) (Ln.isSub s.data.toList) (Fil.validB f) _ _ _ _ _ _ _ _ _ w h0 h14 HU (Lib.hid fun W => by rw [← hx, ← hq]; exact run_eq_modX (Mo.usedZ x) Mo.zero W) rfl rfl rfl rfl rfl rfl rfl rfl rfl rfl
   (Lib.hid fun W _ => same_below (refTypes15 n W)) (Lib.hid fun W _ => refIsSub s W hss) (Lib.hid fun W _ => refIs13 f fs hf hs W)
   (Lib.hid fun h => ?_) (Lib.hid fun h => ?_) (Lib.hid fun h => ?_) (Lib.hid fun h => ?_) (Lib.hid fun h => ?_) (Lib.hid fun h => ?_) (Lib.hid fun h => ?_) (Lib.hid fun h => ?_) (Lib.hid fun h => ?_)
  ·rw [hx]; rcases h with rfl | rfl <;> simp [Mo.okK]
  ·rw [hx]; rcases h with rfl | rfl <;> simp [Mo.okK]
  ·rw [hx]; subst h; simp [Mo.okK, Mo.inB]
  ·rw [hx]; subst h; simp [Mo.okK, Mo.inB]
  ·rw [hx]; rcases h with rfl | rfl <;> simp [Mo.okK, Mo.inB]
  ·rw [hx]; subst h; simp [Mo.okK]
  ·rw [hx]; subst h; simp [Mo.okK, Mo.inB, Bool.and_assoc]
  ·rw [hx]; subst h; simp [Mo.okK, Mo.inB, Bool.and_assoc]
  ·rw [hx]; rcases h with rfl | rfl | rfl <;> simp [Mo.okK]
end Go.Proofs.YtbcgkeclmioeiaaGreatDoor
