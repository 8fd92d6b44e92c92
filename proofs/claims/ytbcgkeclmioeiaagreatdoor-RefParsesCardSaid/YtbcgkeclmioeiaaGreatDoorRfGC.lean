/-
  MERGED: RfIsW, RfTxW, RfRdW, RfProg, RfAlvW, RfAlive. By an AI agent.
-/
import Derived.Test.YtbcgkeclmioeiaaGreatDoorRfGA
import Derived.Deep.Cut
namespace Go.Proofs.YtbcgkeclmioeiaaGreatDoor
open Go.RowKit
open Wd (Bs)

set_option maxHeartbeats 8000000 in
set_option maxRecDepth 100000 in
theorem rfIsIn (k n : Int) (f : Fil.Flt) (fs : ByteArray) (sp m4 : Int) (R v0 vF b1 b2 q3 q1 : Bool) (w : World)
    (h20 : (n == 0) = v0) (HF : Hid (∀ W, Below w.heap.size w W → Calls Tryz.prog 33 #[.agg (cellsF f fs)] W fun e w' => e = .returned (.bool vF) ∧ Below W.heap.size W w')) (hb1 : decide (n < 1) = b1) (hm : min sp 4 = m4) (hb2 : decide (m4 < n) = b2) (hq3 : ∀ W : World, (Op.equalIn 10000 27 (.agg (rF k 0 (cellsF f fs))) (.agg (rF k 0 cellsZ))).run Tryz.prog W = .ok q3 W) (hq1 : ∀ W : World, (Op.equalIn 10000 27 (.agg (rF k n (cellsF f fs))) (.agg (rF k 0 cellsZ))).run Tryz.prog W = .ok q1 W) (r4 : Hid (k = 4 → R = (v0 && vF))) (r3 : Hid (k = 3 ∨ k = 8 → R = (!b1 && (!b2 && q3)))) (r1 : Hid (k = 1 ∨ k = 2 ∨ k = 5 ∨ k = 6 ∨ k = 7 → R = q1)) (r0 : Hid (¬ (1 ≤ k ∧ k ≤ 8) → R = false)) :
    Calls Tryz.prog 14 #[.agg (rF k n (cellsF f fs)), .int .i64 sp] w fun e w' => e = .returned (.bool R) ∧ Below w.heap.size w w' := by

  have B0 := Lib.hid (Below.refl w.heap.size w)
  go_enter Tryz.func14, Tryz.ntmps14
  go_upto_region 0 with fail
  refine wp_region_lit ?_
  obtain ⟨w1, hw⟩ : ∃ v, v = w.alloc (.cells (rF k n (cellsF f fs)) 27) := ⟨_, rfl⟩
  obtain ⟨pA, hp⟩ : ∃ v, v = w.heap.size := ⟨_, rfl⟩
  have B1 : Hid (Below w.heap.size w w1) := Lib.hid (by rw [hw]; exact B0.out.alloc B0.out.size _)
  have LEA : Hid (w.heap.size ≤ pA) := Lib.hid (by rw [hp]; exact B0.out.size)
  have KA1 : Hid (Blk w1 pA (rF k n (cellsF f fs)) 27) := Lib.hid (by rw [hw, hp]; exact Blk.new _ _ _)
  with_reducible refine wpList_runWV (some 2) (v := .pointer (some ⟨pA, 0, none⟩)) (w' := w1) ?_ ?_ ?_ ?_
  · rfl
  · rfl
  · rw [hw, hp]; (go_simp; (try rfl))
  simp only [pu, sB, s0, sS]
  clear hw hp
  clear B0
  (with_reducible refine rN (v := .bool false) ?_ ?_ ?_); (· rfl); (· go_simp; (try with_reducible rfl)); simp only [pu, sB, s0, sS]
  go_upto_region 1 with fail
  refine wp_region_lit ?_
  (with_reducible refine rN (v := .pointer (some ⟨pA, 0, none⟩)) ?_ ?_ ?_); (· rfl); (· go_simp; (try rfl)); simp only [pu, sB, s0, sS]
  with_reducible refine wpList_loadV (.tmp 5) (j := 0) (v := .int .i64 k) ?_ ?_ KA1.out ?_ Tryz.underlying3 ?_ ?_
  · rfl
  · rfl
  · exact rF_0
  · rfl
  simp only [pu, sB, s0, sS]
  by_cases e4 : k = 4
  · have ek : (k == 4) = true := by simpa using e4
    have hE := Lib.hid e4
    clear e4
    go_upto_region 2 with fail
    refine wp_region_lit ?_
    iterate 2 ((with_reducible refine rN (v := .bool true) ?_ ?_ ?_); (· rfl); (· go_simp; (try with_reducible rfl)); simp only [pu, sB, s0, sS])
    cases v0 with
    | false =>
      go_upto_region 10 with fail
      refine wp_region_lit ?_
      (with_reducible refine rN (v := .pointer (some ⟨pA, 1, none⟩)) ?_ ?_ ?_); (· rfl); (· go_simp; (try rfl)); simp only [pu, sB, s0, sS]
      with_reducible refine wpList_loadV (.tmp 18) (j := 1) (v := .int .i64 n) ?_ ?_ KA1.out ?_ Tryz.underlying3 ?_ ?_
      · rfl
      · rfl
      · exact rF_1
      · rfl
      simp only [pu, sB, s0, sS]
      iterate 2 ((with_reducible refine rN (v := .bool false) ?_ ?_ ?_); (· rfl); (· go_simp; (try with_reducible rfl)); simp only [pu, sB, s0, sS])
      iterate 3 ((with_reducible refine kN ?_ ?_); (· rfl); simp only [pu, sB, s0, sS])
      iterate 2 ((with_reducible refine rN (v := .bool false) ?_ ?_ ?_); (· rfl); (· go_simp; (try with_reducible rfl)); simp only [pu, sB, s0, sS])
      go_wp2_with fail
      go_ret
      exact ⟨by rw [r4.out (by have h := hE.out; omega)]; rfl, B1.out⟩
    | true =>
      cases vF with
      | false =>
        go_upto_region 10 with fail
        refine wp_region_lit ?_
        (with_reducible refine rN (v := .pointer (some ⟨pA, 1, none⟩)) ?_ ?_ ?_); (· rfl); (· go_simp; (try rfl)); simp only [pu, sB, s0, sS]
        with_reducible refine wpList_loadV (.tmp 18) (j := 1) (v := .int .i64 n) ?_ ?_ KA1.out ?_ Tryz.underlying3 ?_ ?_
        · rfl
        · rfl
        · exact rF_1
        · rfl
        simp only [pu, sB, s0, sS]
        iterate 2 ((with_reducible refine rN (v := .bool true) ?_ ?_ ?_); (· rfl); (· go_simp; (try with_reducible rfl)); simp only [pu, sB, s0, sS])
        (with_reducible refine rN (v := .pointer (some ⟨pA, 2, none⟩)) ?_ ?_ ?_); (· rfl); (· go_simp; (try rfl)); simp only [pu, sB, s0, sS]
        with_reducible refine wpList_loadM (.tmp 22) (o := 2) (xs := (cellsF f fs)) ?_ ?_ KA1.out ?_ Tryz.underlying25 ?_ (infoTF16 (cellsF_size f fs)) ?_
        · rfl
        · rfl
        · exact rF_f
        · rfl
        simp only [pu, sB, s0, sS]
        go_wp2_with fail
        refine (HF.out _ B1.out).mono ?_
        rintro e w2 ⟨rfl, hb⟩
        have B2 := Lib.hid (B1.out.trans (hb.mono B1.out.size))
        have KA2 := Lib.hid (KA1.out.below hb KA1.out.lt)
        clear hb
        clear B1 KA1
        go_simp
        rename_i hKK
        refine hKK _ _ ?_
        clear hKK
        try simp only [pu, sB, s0, sS]
        iterate 2 ((with_reducible refine rN (v := .bool false) ?_ ?_ ?_); (· rfl); (· go_simp; (try with_reducible rfl)); simp only [pu, sB, s0, sS])
        go_wp2_with fail
        go_ret
        exact ⟨by rw [r4.out (by have h := hE.out; omega)]; rfl, B2.out⟩
      | true =>
        go_upto_region 10 with fail
        refine wp_region_lit ?_
        (with_reducible refine rN (v := .pointer (some ⟨pA, 1, none⟩)) ?_ ?_ ?_); (· rfl); (· go_simp; (try rfl)); simp only [pu, sB, s0, sS]
        with_reducible refine wpList_loadV (.tmp 18) (j := 1) (v := .int .i64 n) ?_ ?_ KA1.out ?_ Tryz.underlying3 ?_ ?_
        · rfl
        · rfl
        · exact rF_1
        · rfl
        simp only [pu, sB, s0, sS]
        iterate 2 ((with_reducible refine rN (v := .bool true) ?_ ?_ ?_); (· rfl); (· go_simp; (try with_reducible rfl)); simp only [pu, sB, s0, sS])
        (with_reducible refine rN (v := .pointer (some ⟨pA, 2, none⟩)) ?_ ?_ ?_); (· rfl); (· go_simp; (try rfl)); simp only [pu, sB, s0, sS]
        with_reducible refine wpList_loadM (.tmp 22) (o := 2) (xs := (cellsF f fs)) ?_ ?_ KA1.out ?_ Tryz.underlying25 ?_ (infoTF16 (cellsF_size f fs)) ?_
        · rfl
        · rfl
        · exact rF_f
        · rfl
        simp only [pu, sB, s0, sS]
        go_wp2_with fail
        refine (HF.out _ B1.out).mono ?_
        rintro e w2 ⟨rfl, hb⟩
        have B2 := Lib.hid (B1.out.trans (hb.mono B1.out.size))
        have KA2 := Lib.hid (KA1.out.below hb KA1.out.lt)
        clear hb
        clear B1 KA1
        go_simp
        rename_i hKK
        refine hKK _ _ ?_
        clear hKK
        try simp only [pu, sB, s0, sS]
        iterate 2 ((with_reducible refine rN (v := .bool true) ?_ ?_ ?_); (· rfl); (· go_simp; (try with_reducible rfl)); simp only [pu, sB, s0, sS])
        go_wp2_with fail
        go_ret
        exact ⟨by rw [r4.out (by have h := hE.out; omega)]; rfl, B2.out⟩
  have n4 : (k == 4) = false := by simpa using e4
  go_upto_region 2 with fail
  refine wp_region_lit ?_
  iterate 2 ((with_reducible refine rN (v := .bool false) ?_ ?_ ?_); (· rfl); (· go_simp; (try with_reducible rfl)); simp only [pu, sB, s0, sS])
  by_cases e3 : k = 3
  · have ek : (k == 3) = true := by simpa using e3
    have hE := Lib.hid e3
    clear e3
    go_upto_region 3 with fail
    refine wp_region_lit ?_
    iterate 2 ((with_reducible refine rN (v := .bool true) ?_ ?_ ?_); (· rfl); (· go_simp; (try with_reducible rfl)); simp only [pu, sB, s0, sS])
    cases b1 with
    | false =>
      cases b2 with
      | false =>
        go_upto_region 11 with fail
        refine wp_region_lit ?_
        (with_reducible refine rN (v := .pointer (some ⟨pA, 1, none⟩)) ?_ ?_ ?_); (· rfl); (· go_simp; (try rfl)); simp only [pu, sB, s0, sS]
        with_reducible refine wpList_loadV (.tmp 26) (j := 1) (v := .int .i64 n) ?_ ?_ KA1.out ?_ Tryz.underlying3 ?_ ?_
        · rfl
        · rfl
        · exact rF_1
        · rfl
        simp only [pu, sB, s0, sS]
        iterate 2 ((with_reducible refine rN (v := .bool false) ?_ ?_ ?_); (· rfl); (· go_simp; (try with_reducible rfl)); simp only [pu, sB, s0, sS])
        (with_reducible refine rN (v := .pointer (some ⟨pA, 1, none⟩)) ?_ ?_ ?_); (· rfl); (· go_simp; (try rfl)); simp only [pu, sB, s0, sS]
        with_reducible refine wpList_loadV (.tmp 30) (j := 1) (v := .int .i64 n) ?_ ?_ KA1.out ?_ Tryz.underlying3 ?_ ?_
        · rfl
        · rfl
        · exact rF_1
        · rfl
        simp only [pu, sB, s0, sS]
        (with_reducible refine rN (v := ?_) ?_ ?_ ?_); rotate_left; (· rfl); (· go_simp; (try with_reducible rfl)); simp only [pu, sB, s0, sS]
        (with_reducible refine rN (v := .int .i64 m4) ?_ ?_ ?_); (· rfl); (· rw [← hm]; go_simp; (try rfl)); simp only [pu, sB, s0, sS]
        iterate 2 ((with_reducible refine rN (v := .bool false) ?_ ?_ ?_); (· rfl); (· go_simp; (try with_reducible rfl)); simp only [pu, sB, s0, sS])
        go_upto_region 13 with fail
        refine wp_region_lit ?_
        (with_reducible refine rN (v := .pointer (some ⟨pA, 1, none⟩)) ?_ ?_ ?_); (· rfl); (· go_simp; (try rfl)); simp only [pu, sB, s0, sS]
        have KA2 := Lib.hid (KA1.out.stored (o := 1) (vs := [.int .i64 0]) (cs' := (rF k 0 (cellsF f fs))) (rF_p1))
        have B2 := Lib.hid (below_whole ([.int .i64 0]) (o := 1) B1.out LEA.out)
        with_reducible refine wpList_storeV (.tmp 36) (.const (.int .i64 0)) (j := 1) (v := .int .i64 0) ?_ ?_ KA1.out ?_ (by kernel_rfl) (by simp [Value.oneCell']) ?_
        · rfl
        · rfl
        · exact (fit_1 (rF_sz (cellsF_size f fs)) (by decide))
        (try simp only [Act.put])
        generalize World.setCells _ _ _ _ = w2 at KA2 B2 ⊢
        clear B1 KA1
        cases q3 with
        | false =>
          go_upto_region 14 with fail
          refine wp_region_lit ?_
          with_reducible refine wpList_loadS (.tmp 2) ?_ ?_ KA2.out Tryz.underlying27 ?_ (infoTRf18 (rF_sz (cellsF_size f fs))) ?_
          · rfl
          · rfl
          · rfl
          simp only [pu, sB, s0, sS]
          (with_reducible refine rN (v := .pointer (some ⟨pA, 0, none⟩)) ?_ ?_ ?_); (· rfl); (· go_simp; (try rfl)); simp only [pu, sB, s0, sS]
          with_reducible refine wpList_loadV (.tmp 38) (j := 0) (v := .int .i64 k) ?_ ?_ KA2.out ?_ Tryz.underlying3 ?_ ?_
          · rfl
          · rfl
          · exact rF_0
          · rfl
          simp only [pu, sB, s0, sS]
          (with_reducible refine rN (v := .agg (rF k 0 cellsZ)) ?_ ?_ ?_); (· rfl); (· refine run_buildOp _ [(0, .int .i64 k)] rfl ?_ (builtR_kind k); rfl); simp only [pu, sB, s0, sS]
          iterate 2 ((with_reducible refine rN (v := .bool false) ?_ ?_ ?_); (· rfl); (· go_simp; (try with_reducible rfl)); simp only [pu, sB, s0, sS])
          go_wp2_with fail
          go_ret
          exact ⟨by rw [r3.out (by have h := hE.out; omega)]; rfl, B2.out⟩
        | true =>
          go_upto_region 14 with fail
          refine wp_region_lit ?_
          with_reducible refine wpList_loadS (.tmp 2) ?_ ?_ KA2.out Tryz.underlying27 ?_ (infoTRf18 (rF_sz (cellsF_size f fs))) ?_
          · rfl
          · rfl
          · rfl
          simp only [pu, sB, s0, sS]
          (with_reducible refine rN (v := .pointer (some ⟨pA, 0, none⟩)) ?_ ?_ ?_); (· rfl); (· go_simp; (try rfl)); simp only [pu, sB, s0, sS]
          with_reducible refine wpList_loadV (.tmp 38) (j := 0) (v := .int .i64 k) ?_ ?_ KA2.out ?_ Tryz.underlying3 ?_ ?_
          · rfl
          · rfl
          · exact rF_0
          · rfl
          simp only [pu, sB, s0, sS]
          (with_reducible refine rN (v := .agg (rF k 0 cellsZ)) ?_ ?_ ?_); (· rfl); (· refine run_buildOp _ [(0, .int .i64 k)] rfl ?_ (builtR_kind k); rfl); simp only [pu, sB, s0, sS]
          iterate 2 ((with_reducible refine rN (v := .bool true) ?_ ?_ ?_); (· rfl); (· go_simp; (try with_reducible rfl)); simp only [pu, sB, s0, sS])
          go_wp2_with fail
          go_ret
          exact ⟨by rw [r3.out (by have h := hE.out; omega)]; rfl, B2.out⟩
      | true =>
        go_upto_region 11 with fail
        refine wp_region_lit ?_
        (with_reducible refine rN (v := .pointer (some ⟨pA, 1, none⟩)) ?_ ?_ ?_); (· rfl); (· go_simp; (try rfl)); simp only [pu, sB, s0, sS]
        with_reducible refine wpList_loadV (.tmp 26) (j := 1) (v := .int .i64 n) ?_ ?_ KA1.out ?_ Tryz.underlying3 ?_ ?_
        · rfl
        · rfl
        · exact rF_1
        · rfl
        simp only [pu, sB, s0, sS]
        iterate 2 ((with_reducible refine rN (v := .bool false) ?_ ?_ ?_); (· rfl); (· go_simp; (try with_reducible rfl)); simp only [pu, sB, s0, sS])
        (with_reducible refine rN (v := .pointer (some ⟨pA, 1, none⟩)) ?_ ?_ ?_); (· rfl); (· go_simp; (try rfl)); simp only [pu, sB, s0, sS]
        with_reducible refine wpList_loadV (.tmp 30) (j := 1) (v := .int .i64 n) ?_ ?_ KA1.out ?_ Tryz.underlying3 ?_ ?_
        · rfl
        · rfl
        · exact rF_1
        · rfl
        simp only [pu, sB, s0, sS]
        (with_reducible refine rN (v := ?_) ?_ ?_ ?_); rotate_left; (· rfl); (· go_simp; (try with_reducible rfl)); simp only [pu, sB, s0, sS]
        (with_reducible refine rN (v := .int .i64 m4) ?_ ?_ ?_); (· rfl); (· rw [← hm]; go_simp; (try rfl)); simp only [pu, sB, s0, sS]
        iterate 2 ((with_reducible refine rN (v := .bool true) ?_ ?_ ?_); (· rfl); (· go_simp; (try with_reducible rfl)); simp only [pu, sB, s0, sS])
        go_upto_region 12 with fail
        refine wp_region_lit ?_
        (with_reducible refine rN (v := .bool false) ?_ ?_ ?_); (· rfl); (· go_simp; (try with_reducible rfl)); simp only [pu, sB, s0, sS]
        go_wp2_with fail
        go_ret
        exact ⟨by rw [r3.out (by have h := hE.out; omega)]; rfl, B1.out⟩
    | true =>
      go_upto_region 11 with fail
      refine wp_region_lit ?_
      (with_reducible refine rN (v := .pointer (some ⟨pA, 1, none⟩)) ?_ ?_ ?_); (· rfl); (· go_simp; (try rfl)); simp only [pu, sB, s0, sS]
      with_reducible refine wpList_loadV (.tmp 26) (j := 1) (v := .int .i64 n) ?_ ?_ KA1.out ?_ Tryz.underlying3 ?_ ?_
      · rfl
      · rfl
      · exact rF_1
      · rfl
      simp only [pu, sB, s0, sS]
      iterate 2 ((with_reducible refine rN (v := .bool true) ?_ ?_ ?_); (· rfl); (· go_simp; (try with_reducible rfl)); simp only [pu, sB, s0, sS])
      iterate 5 ((with_reducible refine kN ?_ ?_); (· rfl); simp only [pu, sB, s0, sS])
      (with_reducible refine rN (v := .bool true) ?_ ?_ ?_); (· rfl); (· go_simp; (try with_reducible rfl)); simp only [pu, sB, s0, sS]
      go_upto_region 12 with fail
      refine wp_region_lit ?_
      (with_reducible refine rN (v := .bool false) ?_ ?_ ?_); (· rfl); (· go_simp; (try with_reducible rfl)); simp only [pu, sB, s0, sS]
      go_wp2_with fail
      go_ret
      exact ⟨by rw [r3.out (by have h := hE.out; omega)]; rfl, B1.out⟩
  have n3 : (k == 3) = false := by simpa using e3
  go_upto_region 3 with fail
  refine wp_region_lit ?_
  iterate 2 ((with_reducible refine rN (v := .bool false) ?_ ?_ ?_); (· rfl); (· go_simp; (try with_reducible rfl)); simp only [pu, sB, s0, sS])
  by_cases e8 : k = 8
  · have ek : (k == 8) = true := by simpa using e8
    have hE := Lib.hid e8
    clear e8
    go_upto_region 4 with fail
    refine wp_region_lit ?_
    iterate 2 ((with_reducible refine rN (v := .bool true) ?_ ?_ ?_); (· rfl); (· go_simp; (try with_reducible rfl)); simp only [pu, sB, s0, sS])
    cases b1 with
    | false =>
      cases b2 with
      | false =>
        go_upto_region 11 with fail
        refine wp_region_lit ?_
        (with_reducible refine rN (v := .pointer (some ⟨pA, 1, none⟩)) ?_ ?_ ?_); (· rfl); (· go_simp; (try rfl)); simp only [pu, sB, s0, sS]
        with_reducible refine wpList_loadV (.tmp 26) (j := 1) (v := .int .i64 n) ?_ ?_ KA1.out ?_ Tryz.underlying3 ?_ ?_
        · rfl
        · rfl
        · exact rF_1
        · rfl
        simp only [pu, sB, s0, sS]
        iterate 2 ((with_reducible refine rN (v := .bool false) ?_ ?_ ?_); (· rfl); (· go_simp; (try with_reducible rfl)); simp only [pu, sB, s0, sS])
        (with_reducible refine rN (v := .pointer (some ⟨pA, 1, none⟩)) ?_ ?_ ?_); (· rfl); (· go_simp; (try rfl)); simp only [pu, sB, s0, sS]
        with_reducible refine wpList_loadV (.tmp 30) (j := 1) (v := .int .i64 n) ?_ ?_ KA1.out ?_ Tryz.underlying3 ?_ ?_
        · rfl
        · rfl
        · exact rF_1
        · rfl
        simp only [pu, sB, s0, sS]
        (with_reducible refine rN (v := ?_) ?_ ?_ ?_); rotate_left; (· rfl); (· go_simp; (try with_reducible rfl)); simp only [pu, sB, s0, sS]
        (with_reducible refine rN (v := .int .i64 m4) ?_ ?_ ?_); (· rfl); (· rw [← hm]; go_simp; (try rfl)); simp only [pu, sB, s0, sS]
        iterate 2 ((with_reducible refine rN (v := .bool false) ?_ ?_ ?_); (· rfl); (· go_simp; (try with_reducible rfl)); simp only [pu, sB, s0, sS])
        go_upto_region 13 with fail
        refine wp_region_lit ?_
        (with_reducible refine rN (v := .pointer (some ⟨pA, 1, none⟩)) ?_ ?_ ?_); (· rfl); (· go_simp; (try rfl)); simp only [pu, sB, s0, sS]
        have KA2 := Lib.hid (KA1.out.stored (o := 1) (vs := [.int .i64 0]) (cs' := (rF k 0 (cellsF f fs))) (rF_p1))
        have B2 := Lib.hid (below_whole ([.int .i64 0]) (o := 1) B1.out LEA.out)
        with_reducible refine wpList_storeV (.tmp 36) (.const (.int .i64 0)) (j := 1) (v := .int .i64 0) ?_ ?_ KA1.out ?_ (by kernel_rfl) (by simp [Value.oneCell']) ?_
        · rfl
        · rfl
        · exact (fit_1 (rF_sz (cellsF_size f fs)) (by decide))
        (try simp only [Act.put])
        generalize World.setCells _ _ _ _ = w2 at KA2 B2 ⊢
        clear B1 KA1
        cases q3 with
        | false =>
          go_upto_region 14 with fail
          refine wp_region_lit ?_
          with_reducible refine wpList_loadS (.tmp 2) ?_ ?_ KA2.out Tryz.underlying27 ?_ (infoTRf18 (rF_sz (cellsF_size f fs))) ?_
          · rfl
          · rfl
          · rfl
          simp only [pu, sB, s0, sS]
          (with_reducible refine rN (v := .pointer (some ⟨pA, 0, none⟩)) ?_ ?_ ?_); (· rfl); (· go_simp; (try rfl)); simp only [pu, sB, s0, sS]
          with_reducible refine wpList_loadV (.tmp 38) (j := 0) (v := .int .i64 k) ?_ ?_ KA2.out ?_ Tryz.underlying3 ?_ ?_
          · rfl
          · rfl
          · exact rF_0
          · rfl
          simp only [pu, sB, s0, sS]
          (with_reducible refine rN (v := .agg (rF k 0 cellsZ)) ?_ ?_ ?_); (· rfl); (· refine run_buildOp _ [(0, .int .i64 k)] rfl ?_ (builtR_kind k); rfl); simp only [pu, sB, s0, sS]
          iterate 2 ((with_reducible refine rN (v := .bool false) ?_ ?_ ?_); (· rfl); (· go_simp; (try with_reducible rfl)); simp only [pu, sB, s0, sS])
          go_wp2_with fail
          go_ret
          exact ⟨by rw [r3.out (by have h := hE.out; omega)]; rfl, B2.out⟩
        | true =>
          go_upto_region 14 with fail
          refine wp_region_lit ?_
          with_reducible refine wpList_loadS (.tmp 2) ?_ ?_ KA2.out Tryz.underlying27 ?_ (infoTRf18 (rF_sz (cellsF_size f fs))) ?_
          · rfl
          · rfl
          · rfl
          simp only [pu, sB, s0, sS]
          (with_reducible refine rN (v := .pointer (some ⟨pA, 0, none⟩)) ?_ ?_ ?_); (· rfl); (· go_simp; (try rfl)); simp only [pu, sB, s0, sS]
          with_reducible refine wpList_loadV (.tmp 38) (j := 0) (v := .int .i64 k) ?_ ?_ KA2.out ?_ Tryz.underlying3 ?_ ?_
          · rfl
          · rfl
          · exact rF_0
          · rfl
          simp only [pu, sB, s0, sS]
          (with_reducible refine rN (v := .agg (rF k 0 cellsZ)) ?_ ?_ ?_); (· rfl); (· refine run_buildOp _ [(0, .int .i64 k)] rfl ?_ (builtR_kind k); rfl); simp only [pu, sB, s0, sS]
          iterate 2 ((with_reducible refine rN (v := .bool true) ?_ ?_ ?_); (· rfl); (· go_simp; (try with_reducible rfl)); simp only [pu, sB, s0, sS])
          go_wp2_with fail
          go_ret
          exact ⟨by rw [r3.out (by have h := hE.out; omega)]; rfl, B2.out⟩
      | true =>
        go_upto_region 11 with fail
        refine wp_region_lit ?_
        (with_reducible refine rN (v := .pointer (some ⟨pA, 1, none⟩)) ?_ ?_ ?_); (· rfl); (· go_simp; (try rfl)); simp only [pu, sB, s0, sS]
        with_reducible refine wpList_loadV (.tmp 26) (j := 1) (v := .int .i64 n) ?_ ?_ KA1.out ?_ Tryz.underlying3 ?_ ?_
        · rfl
        · rfl
        · exact rF_1
        · rfl
        simp only [pu, sB, s0, sS]
        iterate 2 ((with_reducible refine rN (v := .bool false) ?_ ?_ ?_); (· rfl); (· go_simp; (try with_reducible rfl)); simp only [pu, sB, s0, sS])
        (with_reducible refine rN (v := .pointer (some ⟨pA, 1, none⟩)) ?_ ?_ ?_); (· rfl); (· go_simp; (try rfl)); simp only [pu, sB, s0, sS]
        with_reducible refine wpList_loadV (.tmp 30) (j := 1) (v := .int .i64 n) ?_ ?_ KA1.out ?_ Tryz.underlying3 ?_ ?_
        · rfl
        · rfl
        · exact rF_1
        · rfl
        simp only [pu, sB, s0, sS]
        (with_reducible refine rN (v := ?_) ?_ ?_ ?_); rotate_left; (· rfl); (· go_simp; (try with_reducible rfl)); simp only [pu, sB, s0, sS]
        (with_reducible refine rN (v := .int .i64 m4) ?_ ?_ ?_); (· rfl); (· rw [← hm]; go_simp; (try rfl)); simp only [pu, sB, s0, sS]
        iterate 2 ((with_reducible refine rN (v := .bool true) ?_ ?_ ?_); (· rfl); (· go_simp; (try with_reducible rfl)); simp only [pu, sB, s0, sS])
        go_upto_region 12 with fail
        refine wp_region_lit ?_
        (with_reducible refine rN (v := .bool false) ?_ ?_ ?_); (· rfl); (· go_simp; (try with_reducible rfl)); simp only [pu, sB, s0, sS]
        go_wp2_with fail
        go_ret
        exact ⟨by rw [r3.out (by have h := hE.out; omega)]; rfl, B1.out⟩
    | true =>
      go_upto_region 11 with fail
      refine wp_region_lit ?_
      (with_reducible refine rN (v := .pointer (some ⟨pA, 1, none⟩)) ?_ ?_ ?_); (· rfl); (· go_simp; (try rfl)); simp only [pu, sB, s0, sS]
      with_reducible refine wpList_loadV (.tmp 26) (j := 1) (v := .int .i64 n) ?_ ?_ KA1.out ?_ Tryz.underlying3 ?_ ?_
      · rfl
      · rfl
      · exact rF_1
      · rfl
      simp only [pu, sB, s0, sS]
      iterate 2 ((with_reducible refine rN (v := .bool true) ?_ ?_ ?_); (· rfl); (· go_simp; (try with_reducible rfl)); simp only [pu, sB, s0, sS])
      iterate 5 ((with_reducible refine kN ?_ ?_); (· rfl); simp only [pu, sB, s0, sS])
      (with_reducible refine rN (v := .bool true) ?_ ?_ ?_); (· rfl); (· go_simp; (try with_reducible rfl)); simp only [pu, sB, s0, sS]
      go_upto_region 12 with fail
      refine wp_region_lit ?_
      (with_reducible refine rN (v := .bool false) ?_ ?_ ?_); (· rfl); (· go_simp; (try with_reducible rfl)); simp only [pu, sB, s0, sS]
      go_wp2_with fail
      go_ret
      exact ⟨by rw [r3.out (by have h := hE.out; omega)]; rfl, B1.out⟩
  have n8 : (k == 8) = false := by simpa using e8
  go_upto_region 4 with fail
  refine wp_region_lit ?_
  iterate 2 ((with_reducible refine rN (v := .bool false) ?_ ?_ ?_); (· rfl); (· go_simp; (try with_reducible rfl)); simp only [pu, sB, s0, sS])
  by_cases e1 : k = 1
  · have ek : (k == 1) = true := by simpa using e1
    have hE := Lib.hid e1
    clear e1
    go_upto_region 5 with fail
    refine wp_region_lit ?_
    iterate 2 ((with_reducible refine rN (v := .bool true) ?_ ?_ ?_); (· rfl); (· go_simp; (try with_reducible rfl)); simp only [pu, sB, s0, sS])
    cases q1 with
    | false =>
      go_upto_region 14 with fail
      refine wp_region_lit ?_
      with_reducible refine wpList_loadS (.tmp 2) ?_ ?_ KA1.out Tryz.underlying27 ?_ (infoTRf18 (rF_sz (cellsF_size f fs))) ?_
      · rfl
      · rfl
      · rfl
      simp only [pu, sB, s0, sS]
      (with_reducible refine rN (v := .pointer (some ⟨pA, 0, none⟩)) ?_ ?_ ?_); (· rfl); (· go_simp; (try rfl)); simp only [pu, sB, s0, sS]
      with_reducible refine wpList_loadV (.tmp 38) (j := 0) (v := .int .i64 k) ?_ ?_ KA1.out ?_ Tryz.underlying3 ?_ ?_
      · rfl
      · rfl
      · exact rF_0
      · rfl
      simp only [pu, sB, s0, sS]
      (with_reducible refine rN (v := .agg (rF k 0 cellsZ)) ?_ ?_ ?_); (· rfl); (· refine run_buildOp _ [(0, .int .i64 k)] rfl ?_ (builtR_kind k); rfl); simp only [pu, sB, s0, sS]
      iterate 2 ((with_reducible refine rN (v := .bool false) ?_ ?_ ?_); (· rfl); (· go_simp; (try with_reducible rfl)); simp only [pu, sB, s0, sS])
      go_wp2_with fail
      go_ret
      exact ⟨by rw [r1.out (by have h := hE.out; omega)]; rfl, B1.out⟩
    | true =>
      go_upto_region 14 with fail
      refine wp_region_lit ?_
      with_reducible refine wpList_loadS (.tmp 2) ?_ ?_ KA1.out Tryz.underlying27 ?_ (infoTRf18 (rF_sz (cellsF_size f fs))) ?_
      · rfl
      · rfl
      · rfl
      simp only [pu, sB, s0, sS]
      (with_reducible refine rN (v := .pointer (some ⟨pA, 0, none⟩)) ?_ ?_ ?_); (· rfl); (· go_simp; (try rfl)); simp only [pu, sB, s0, sS]
      with_reducible refine wpList_loadV (.tmp 38) (j := 0) (v := .int .i64 k) ?_ ?_ KA1.out ?_ Tryz.underlying3 ?_ ?_
      · rfl
      · rfl
      · exact rF_0
      · rfl
      simp only [pu, sB, s0, sS]
      (with_reducible refine rN (v := .agg (rF k 0 cellsZ)) ?_ ?_ ?_); (· rfl); (· refine run_buildOp _ [(0, .int .i64 k)] rfl ?_ (builtR_kind k); rfl); simp only [pu, sB, s0, sS]
      iterate 2 ((with_reducible refine rN (v := .bool true) ?_ ?_ ?_); (· rfl); (· go_simp; (try with_reducible rfl)); simp only [pu, sB, s0, sS])
      go_wp2_with fail
      go_ret
      exact ⟨by rw [r1.out (by have h := hE.out; omega)]; rfl, B1.out⟩
  have n1 : (k == 1) = false := by simpa using e1
  go_upto_region 5 with fail
  refine wp_region_lit ?_
  iterate 2 ((with_reducible refine rN (v := .bool false) ?_ ?_ ?_); (· rfl); (· go_simp; (try with_reducible rfl)); simp only [pu, sB, s0, sS])
  by_cases e2 : k = 2
  · have ek : (k == 2) = true := by simpa using e2
    have hE := Lib.hid e2
    clear e2
    go_upto_region 6 with fail
    refine wp_region_lit ?_
    iterate 2 ((with_reducible refine rN (v := .bool true) ?_ ?_ ?_); (· rfl); (· go_simp; (try with_reducible rfl)); simp only [pu, sB, s0, sS])
    cases q1 with
    | false =>
      go_upto_region 14 with fail
      refine wp_region_lit ?_
      with_reducible refine wpList_loadS (.tmp 2) ?_ ?_ KA1.out Tryz.underlying27 ?_ (infoTRf18 (rF_sz (cellsF_size f fs))) ?_
      · rfl
      · rfl
      · rfl
      simp only [pu, sB, s0, sS]
      (with_reducible refine rN (v := .pointer (some ⟨pA, 0, none⟩)) ?_ ?_ ?_); (· rfl); (· go_simp; (try rfl)); simp only [pu, sB, s0, sS]
      with_reducible refine wpList_loadV (.tmp 38) (j := 0) (v := .int .i64 k) ?_ ?_ KA1.out ?_ Tryz.underlying3 ?_ ?_
      · rfl
      · rfl
      · exact rF_0
      · rfl
      simp only [pu, sB, s0, sS]
      (with_reducible refine rN (v := .agg (rF k 0 cellsZ)) ?_ ?_ ?_); (· rfl); (· refine run_buildOp _ [(0, .int .i64 k)] rfl ?_ (builtR_kind k); rfl); simp only [pu, sB, s0, sS]
      iterate 2 ((with_reducible refine rN (v := .bool false) ?_ ?_ ?_); (· rfl); (· go_simp; (try with_reducible rfl)); simp only [pu, sB, s0, sS])
      go_wp2_with fail
      go_ret
      exact ⟨by rw [r1.out (by have h := hE.out; omega)]; rfl, B1.out⟩
    | true =>
      go_upto_region 14 with fail
      refine wp_region_lit ?_
      with_reducible refine wpList_loadS (.tmp 2) ?_ ?_ KA1.out Tryz.underlying27 ?_ (infoTRf18 (rF_sz (cellsF_size f fs))) ?_
      · rfl
      · rfl
      · rfl
      simp only [pu, sB, s0, sS]
      (with_reducible refine rN (v := .pointer (some ⟨pA, 0, none⟩)) ?_ ?_ ?_); (· rfl); (· go_simp; (try rfl)); simp only [pu, sB, s0, sS]
      with_reducible refine wpList_loadV (.tmp 38) (j := 0) (v := .int .i64 k) ?_ ?_ KA1.out ?_ Tryz.underlying3 ?_ ?_
      · rfl
      · rfl
      · exact rF_0
      · rfl
      simp only [pu, sB, s0, sS]
      (with_reducible refine rN (v := .agg (rF k 0 cellsZ)) ?_ ?_ ?_); (· rfl); (· refine run_buildOp _ [(0, .int .i64 k)] rfl ?_ (builtR_kind k); rfl); simp only [pu, sB, s0, sS]
      iterate 2 ((with_reducible refine rN (v := .bool true) ?_ ?_ ?_); (· rfl); (· go_simp; (try with_reducible rfl)); simp only [pu, sB, s0, sS])
      go_wp2_with fail
      go_ret
      exact ⟨by rw [r1.out (by have h := hE.out; omega)]; rfl, B1.out⟩
  have n2 : (k == 2) = false := by simpa using e2
  go_upto_region 6 with fail
  refine wp_region_lit ?_
  iterate 2 ((with_reducible refine rN (v := .bool false) ?_ ?_ ?_); (· rfl); (· go_simp; (try with_reducible rfl)); simp only [pu, sB, s0, sS])
  by_cases e5 : k = 5
  · have ek : (k == 5) = true := by simpa using e5
    have hE := Lib.hid e5
    clear e5
    go_upto_region 7 with fail
    refine wp_region_lit ?_
    iterate 2 ((with_reducible refine rN (v := .bool true) ?_ ?_ ?_); (· rfl); (· go_simp; (try with_reducible rfl)); simp only [pu, sB, s0, sS])
    cases q1 with
    | false =>
      go_upto_region 14 with fail
      refine wp_region_lit ?_
      with_reducible refine wpList_loadS (.tmp 2) ?_ ?_ KA1.out Tryz.underlying27 ?_ (infoTRf18 (rF_sz (cellsF_size f fs))) ?_
      · rfl
      · rfl
      · rfl
      simp only [pu, sB, s0, sS]
      (with_reducible refine rN (v := .pointer (some ⟨pA, 0, none⟩)) ?_ ?_ ?_); (· rfl); (· go_simp; (try rfl)); simp only [pu, sB, s0, sS]
      with_reducible refine wpList_loadV (.tmp 38) (j := 0) (v := .int .i64 k) ?_ ?_ KA1.out ?_ Tryz.underlying3 ?_ ?_
      · rfl
      · rfl
      · exact rF_0
      · rfl
      simp only [pu, sB, s0, sS]
      (with_reducible refine rN (v := .agg (rF k 0 cellsZ)) ?_ ?_ ?_); (· rfl); (· refine run_buildOp _ [(0, .int .i64 k)] rfl ?_ (builtR_kind k); rfl); simp only [pu, sB, s0, sS]
      iterate 2 ((with_reducible refine rN (v := .bool false) ?_ ?_ ?_); (· rfl); (· go_simp; (try with_reducible rfl)); simp only [pu, sB, s0, sS])
      go_wp2_with fail
      go_ret
      exact ⟨by rw [r1.out (by have h := hE.out; omega)]; rfl, B1.out⟩
    | true =>
      go_upto_region 14 with fail
      refine wp_region_lit ?_
      with_reducible refine wpList_loadS (.tmp 2) ?_ ?_ KA1.out Tryz.underlying27 ?_ (infoTRf18 (rF_sz (cellsF_size f fs))) ?_
      · rfl
      · rfl
      · rfl
      simp only [pu, sB, s0, sS]
      (with_reducible refine rN (v := .pointer (some ⟨pA, 0, none⟩)) ?_ ?_ ?_); (· rfl); (· go_simp; (try rfl)); simp only [pu, sB, s0, sS]
      with_reducible refine wpList_loadV (.tmp 38) (j := 0) (v := .int .i64 k) ?_ ?_ KA1.out ?_ Tryz.underlying3 ?_ ?_
      · rfl
      · rfl
      · exact rF_0
      · rfl
      simp only [pu, sB, s0, sS]
      (with_reducible refine rN (v := .agg (rF k 0 cellsZ)) ?_ ?_ ?_); (· rfl); (· refine run_buildOp _ [(0, .int .i64 k)] rfl ?_ (builtR_kind k); rfl); simp only [pu, sB, s0, sS]
      iterate 2 ((with_reducible refine rN (v := .bool true) ?_ ?_ ?_); (· rfl); (· go_simp; (try with_reducible rfl)); simp only [pu, sB, s0, sS])
      go_wp2_with fail
      go_ret
      exact ⟨by rw [r1.out (by have h := hE.out; omega)]; rfl, B1.out⟩
  have n5 : (k == 5) = false := by simpa using e5
  go_upto_region 7 with fail
  refine wp_region_lit ?_
  iterate 2 ((with_reducible refine rN (v := .bool false) ?_ ?_ ?_); (· rfl); (· go_simp; (try with_reducible rfl)); simp only [pu, sB, s0, sS])
  by_cases e6 : k = 6
  · have ek : (k == 6) = true := by simpa using e6
    have hE := Lib.hid e6
    clear e6
    go_upto_region 8 with fail
    refine wp_region_lit ?_
    iterate 2 ((with_reducible refine rN (v := .bool true) ?_ ?_ ?_); (· rfl); (· go_simp; (try with_reducible rfl)); simp only [pu, sB, s0, sS])
    cases q1 with
    | false =>
      go_upto_region 14 with fail
      refine wp_region_lit ?_
      with_reducible refine wpList_loadS (.tmp 2) ?_ ?_ KA1.out Tryz.underlying27 ?_ (infoTRf18 (rF_sz (cellsF_size f fs))) ?_
      · rfl
      · rfl
      · rfl
      simp only [pu, sB, s0, sS]
      (with_reducible refine rN (v := .pointer (some ⟨pA, 0, none⟩)) ?_ ?_ ?_); (· rfl); (· go_simp; (try rfl)); simp only [pu, sB, s0, sS]
      with_reducible refine wpList_loadV (.tmp 38) (j := 0) (v := .int .i64 k) ?_ ?_ KA1.out ?_ Tryz.underlying3 ?_ ?_
      · rfl
      · rfl
      · exact rF_0
      · rfl
      simp only [pu, sB, s0, sS]
      (with_reducible refine rN (v := .agg (rF k 0 cellsZ)) ?_ ?_ ?_); (· rfl); (· refine run_buildOp _ [(0, .int .i64 k)] rfl ?_ (builtR_kind k); rfl); simp only [pu, sB, s0, sS]
      iterate 2 ((with_reducible refine rN (v := .bool false) ?_ ?_ ?_); (· rfl); (· go_simp; (try with_reducible rfl)); simp only [pu, sB, s0, sS])
      go_wp2_with fail
      go_ret
      exact ⟨by rw [r1.out (by have h := hE.out; omega)]; rfl, B1.out⟩
    | true =>
      go_upto_region 14 with fail
      refine wp_region_lit ?_
      with_reducible refine wpList_loadS (.tmp 2) ?_ ?_ KA1.out Tryz.underlying27 ?_ (infoTRf18 (rF_sz (cellsF_size f fs))) ?_
      · rfl
      · rfl
      · rfl
      simp only [pu, sB, s0, sS]
      (with_reducible refine rN (v := .pointer (some ⟨pA, 0, none⟩)) ?_ ?_ ?_); (· rfl); (· go_simp; (try rfl)); simp only [pu, sB, s0, sS]
      with_reducible refine wpList_loadV (.tmp 38) (j := 0) (v := .int .i64 k) ?_ ?_ KA1.out ?_ Tryz.underlying3 ?_ ?_
      · rfl
      · rfl
      · exact rF_0
      · rfl
      simp only [pu, sB, s0, sS]
      (with_reducible refine rN (v := .agg (rF k 0 cellsZ)) ?_ ?_ ?_); (· rfl); (· refine run_buildOp _ [(0, .int .i64 k)] rfl ?_ (builtR_kind k); rfl); simp only [pu, sB, s0, sS]
      iterate 2 ((with_reducible refine rN (v := .bool true) ?_ ?_ ?_); (· rfl); (· go_simp; (try with_reducible rfl)); simp only [pu, sB, s0, sS])
      go_wp2_with fail
      go_ret
      exact ⟨by rw [r1.out (by have h := hE.out; omega)]; rfl, B1.out⟩
  have n6 : (k == 6) = false := by simpa using e6
  go_upto_region 8 with fail
  refine wp_region_lit ?_
  iterate 2 ((with_reducible refine rN (v := .bool false) ?_ ?_ ?_); (· rfl); (· go_simp; (try with_reducible rfl)); simp only [pu, sB, s0, sS])
  by_cases e7 : k = 7
  · have ek : (k == 7) = true := by simpa using e7
    have hE := Lib.hid e7
    clear e7
    go_upto_region 9 with fail
    refine wp_region_lit ?_
    iterate 2 ((with_reducible refine rN (v := .bool true) ?_ ?_ ?_); (· rfl); (· go_simp; (try with_reducible rfl)); simp only [pu, sB, s0, sS])
    cases q1 with
    | false =>
      go_upto_region 14 with fail
      refine wp_region_lit ?_
      with_reducible refine wpList_loadS (.tmp 2) ?_ ?_ KA1.out Tryz.underlying27 ?_ (infoTRf18 (rF_sz (cellsF_size f fs))) ?_
      · rfl
      · rfl
      · rfl
      simp only [pu, sB, s0, sS]
      (with_reducible refine rN (v := .pointer (some ⟨pA, 0, none⟩)) ?_ ?_ ?_); (· rfl); (· go_simp; (try rfl)); simp only [pu, sB, s0, sS]
      with_reducible refine wpList_loadV (.tmp 38) (j := 0) (v := .int .i64 k) ?_ ?_ KA1.out ?_ Tryz.underlying3 ?_ ?_
      · rfl
      · rfl
      · exact rF_0
      · rfl
      simp only [pu, sB, s0, sS]
      (with_reducible refine rN (v := .agg (rF k 0 cellsZ)) ?_ ?_ ?_); (· rfl); (· refine run_buildOp _ [(0, .int .i64 k)] rfl ?_ (builtR_kind k); rfl); simp only [pu, sB, s0, sS]
      iterate 2 ((with_reducible refine rN (v := .bool false) ?_ ?_ ?_); (· rfl); (· go_simp; (try with_reducible rfl)); simp only [pu, sB, s0, sS])
      go_wp2_with fail
      go_ret
      exact ⟨by rw [r1.out (by have h := hE.out; omega)]; rfl, B1.out⟩
    | true =>
      go_upto_region 14 with fail
      refine wp_region_lit ?_
      with_reducible refine wpList_loadS (.tmp 2) ?_ ?_ KA1.out Tryz.underlying27 ?_ (infoTRf18 (rF_sz (cellsF_size f fs))) ?_
      · rfl
      · rfl
      · rfl
      simp only [pu, sB, s0, sS]
      (with_reducible refine rN (v := .pointer (some ⟨pA, 0, none⟩)) ?_ ?_ ?_); (· rfl); (· go_simp; (try rfl)); simp only [pu, sB, s0, sS]
      with_reducible refine wpList_loadV (.tmp 38) (j := 0) (v := .int .i64 k) ?_ ?_ KA1.out ?_ Tryz.underlying3 ?_ ?_
      · rfl
      · rfl
      · exact rF_0
      · rfl
      simp only [pu, sB, s0, sS]
      (with_reducible refine rN (v := .agg (rF k 0 cellsZ)) ?_ ?_ ?_); (· rfl); (· refine run_buildOp _ [(0, .int .i64 k)] rfl ?_ (builtR_kind k); rfl); simp only [pu, sB, s0, sS]
      iterate 2 ((with_reducible refine rN (v := .bool true) ?_ ?_ ?_); (· rfl); (· go_simp; (try with_reducible rfl)); simp only [pu, sB, s0, sS])
      go_wp2_with fail
      go_ret
      exact ⟨by rw [r1.out (by have h := hE.out; omega)]; rfl, B1.out⟩
  have n7 : (k == 7) = false := by simpa using e7
  go_upto_region 9 with fail
  refine wp_region_lit ?_
  iterate 2 ((with_reducible refine rN (v := .bool false) ?_ ?_ ?_); (· rfl); (· go_simp; (try with_reducible rfl)); simp only [pu, sB, s0, sS])
  go_upto_region 15 with fail
  refine wp_region_lit ?_
  (with_reducible refine rN (v := .bool false) ?_ ?_ ?_); (· rfl); (· go_simp; (try with_reducible rfl)); simp only [pu, sB, s0, sS]
  go_wp2_with fail
  go_ret
  exact ⟨by rw [r0.out (by omega)]; rfl, B1.out⟩
end Go.Proofs.YtbcgkeclmioeiaaGreatDoor
namespace Go.Proofs.YtbcgkeclmioeiaaGreatDoor
open Go.RowKit
open Wd (Bs)

/-- a part of a struct read, and loaded in a region that draws -/
theorem Blk.readM {P : Program} {w : World} {b : Nat} {cs : Array Value} {t : TypeId} (h : Blk w b cs t) {o : Nat} {xs : Array Value} {T : TypeId} {D : TypeDesc} (hm : ∀ (j : Nat) v, xs[j]? = some v → cs[o + j]? = some v) (hu : P.underlying T = some D) (hd : D.isRow = true) (hn : (P.info? T).map (·.size) = some xs.size) :
    (loadVar T ⟨b, o, none⟩).run P w = .ok (.agg xs) w := by
  have := run_loadVar_mid (P := P) w b o T xs.toList D (h.rangeM hm) hu hd (by simpa using hn)
  simpa using this
section
variable {ops : Array Oper} {Q : Exit → Act → World → Prop} {md : Region.Mode} {S : World → Prop} {P : Program}
theorem take_loadM (i : Nat) (d : Option Tmp) {oi : Oper} {fuel : Nat} {listed : Array Bool} {a : Act} {w : World} (hi : ops[i]? = some oi) (hd : oi.dst = d)
    (hs : Region.noSelect ops = true) (hf : Region.free md ops listed i = true) (hr : (Region.ready md ops listed).contains i = true)
    {b o : Nat} {cs xs : Array Value} {T' T : TypeId} {D : TypeDesc} (hQ : ∀ c a w, Q (.panic c) (a.put d (.agg xs)) w → Q (.panic c) a w) (hw : Region.wanted oi (yielded ops a.tmps) = true) (x : Operand) (ho : oi.op = .load T x)
    (hx : a.eval x = .pointer (some ⟨b, o, none⟩)) (hk : ∀ w, S w → Blk w b cs T') (hm : ∀ (j : Nat) v, xs[j]? = some v → cs[o + j]? = some v) (hu : P.underlying T = some D) (hr' : D.isRow = true) (hn : (P.info? T).map (·.size) = some xs.size) (hS : S w)
    (h : wpAnyH P md ops Q S fuel (listed.setIfInBounds i true) (a.put d (.agg xs)) w) : wpAnyH P md ops Q S (fuel + 1) listed a w :=
  take_run i d hi hd hs hf hr hQ hw (fun w' h' => by
    unfold execOp
    simp only [ho, hx, Instr.loadAt, Instr.sureAddr, Sem.run_bind, Sem.run_pure, Result.andThen_ok, (hk w' h').readM hm hu hr' hn]) hS h
end
def headsRC : Array Value := #[str [], str Rf.sYou, str Rf.sSelf, str Rf.sTarget, str Rf.sEach, str Rf.sOpps, str Rf.sPlayers, str Rf.sIt, str Rf.sOwner]
theorem headsRC_at {k : Nat} (hk : k < 9) : headsRC[k]? = some (.string ⟨(Rf.headL k).toArray⟩) := by
  have h : headsRC = (Rf.headsL.map str).toArray := rfl
  have hl : k < Rf.headsL.length := hk
  rw [h, List.getElem?_toArray, List.getElem?_map, List.getElem?_eq_getElem hl]
  unfold Rf.headL
  rw [List.getD, List.getElem?_eq_getElem hl]
  rfl

set_option maxRecDepth 100000 in
theorem rfHeads (w : World) : Calls Tryz.prog 36 #[] w fun e w' => (∃ b, e = .returned (.slice (some ⟨b, 0, none⟩) 9 9) ∧ Blk w' b headsRC 9) ∧ Below w.heap.size w w' := by
  go_enter Tryz.func36, Tryz.ntmps36
  go_wp2_with fail
  go_ret
  exact ⟨⟨_, rfl, Blk.new _ _ _⟩, (Below.refl _ _).alloc (Nat.le_refl _) _⟩

set_option maxRecDepth 100000 in
theorem refNames16 (w : World) : Calls Tryz.prog 38 #[] w fun e w' => (∃ b, e = .returned (.slice (some ⟨b, 0, none⟩) 9 9) ∧ Blk w' b headsRC 9) ∧ Below w.heap.size w w' := by
  go_enter Tryz.func38, Tryz.ntmps38
  go_wp2_with fail
  go_ret
  exact ⟨⟨_, rfl, Blk.new _ _ _⟩, (Below.refl _ _).alloc (Nat.le_refl _) _⟩

set_option maxHeartbeats 8000000 in
set_option maxRecDepth 100000 in
theorem rfTailIn (k n : Int) (f : Fil.Flt) (fs : ByteArray) (T tn tF : ByteArray) (w : World)
    (HN : Hid (∀ W, Below w.heap.size w W → Calls Tryz.prog 70 #[.int .i64 n] W fun e w' => e = .returned (.string tn) ∧ Below W.heap.size W w')) (HF : Hid (∀ W, Below w.heap.size w W → Calls Tryz.prog 71 #[.agg (cellsF f fs)] W fun e w' => e = .returned (.string tF) ∧ Below W.heap.size W w')) (zF : tF.size ≤ 1000000) (r3 : Hid (k = 3 ∨ k = 8 → T = tn)) (r4 : Hid (k = 4 → T = tF ++ ⟨#[41]⟩)) (r0 : Hid (¬ (k = 3 ∨ k = 8) → ¬ k = 4 → T = ⟨#[]⟩)) :
    Calls Tryz.prog 37 #[.agg (rF k n (cellsF f fs))] w fun e w' => e = .returned (.string T) ∧ Below w.heap.size w w' := by

  have B0 := Lib.hid (Below.refl w.heap.size w)
  go_enter Tryz.func37, Tryz.ntmps37
  go_upto_region 0 with fail
  refine wp_region_lit ?_
  obtain ⟨w1, hw⟩ : ∃ v, v = w.alloc (.cells (rF k n (cellsF f fs)) 27) := ⟨_, rfl⟩
  obtain ⟨pA, hp⟩ : ∃ v, v = w.heap.size := ⟨_, rfl⟩
  have B1 : Hid (Below w.heap.size w w1) := Lib.hid (by rw [hw]; exact B0.out.alloc B0.out.size _)
  have LEA : Hid (w.heap.size ≤ pA) := Lib.hid (by rw [hp]; exact B0.out.size)
  have KA1 : Hid (Blk w1 pA (rF k n (cellsF f fs)) 27) := Lib.hid (by rw [hw, hp]; exact Blk.new _ _ _)
  with_reducible refine wpList_runWV (some 1) (v := .pointer (some ⟨pA, 0, none⟩)) (w' := w1) ?_ ?_ ?_ ?_
  · rfl
  · rfl
  · rw [hw, hp]; (go_simp; (try rfl))
  simp only [pu, sB, s0, sS]
  clear hw hp
  clear B0
  (with_reducible refine rN (v := ?_) ?_ ?_ ?_); rotate_left; (· rfl); (· go_simp; (try with_reducible rfl)); simp only [pu, sB, s0, sS]
  go_upto_region 1 with fail
  refine wp_region_lit ?_
  (with_reducible refine rN (v := .pointer (some ⟨pA, 0, none⟩)) ?_ ?_ ?_); (· rfl); (· go_simp; (try rfl)); simp only [pu, sB, s0, sS]
  with_reducible refine wpList_loadV (.tmp 3) (j := 0) (v := .int .i64 k) ?_ ?_ KA1.out ?_ Tryz.underlying3 ?_ ?_
  · rfl
  · rfl
  · exact rF_0
  · rfl
  simp only [pu, sB, s0, sS]
  by_cases e3 : k = 3
  · have ek : (k == 3) = true := by simpa using e3
    have hE := Lib.hid e3
    clear e3
    go_upto_region 2 with fail
    refine wp_region_lit ?_
    iterate 2 ((with_reducible refine rN (v := .bool true) ?_ ?_ ?_); (· rfl); (· go_simp; (try with_reducible rfl)); simp only [pu, sB, s0, sS])
    go_upto_region 4 with fail
    refine wp_region_lit ?_
    (with_reducible refine rN (v := .pointer (some ⟨pA, 1, none⟩)) ?_ ?_ ?_); (· rfl); (· go_simp; (try rfl)); simp only [pu, sB, s0, sS]
    with_reducible refine wpList_loadV (.tmp 8) (j := 1) (v := .int .i64 n) ?_ ?_ KA1.out ?_ Tryz.underlying3 ?_ ?_
    · rfl
    · rfl
    · exact rF_1
    · rfl
    simp only [pu, sB, s0, sS]
    go_wp2_with fail
    refine (HN.out _ B1.out).mono ?_
    rintro e w2 ⟨rfl, hb⟩
    have B2 := Lib.hid (B1.out.trans (hb.mono B1.out.size))
    have KA2 := Lib.hid (KA1.out.below hb KA1.out.lt)
    clear hb
    clear B1 KA1
    go_simp
    rename_i hKK
    refine hKK _ _ ?_
    clear hKK
    try simp only [pu, sB, s0, sS]
    (with_reducible refine rN (v := ?_) ?_ ?_ ?_); rotate_left; (· rfl); (· go_simp; (try with_reducible rfl)); simp only [pu, sB, s0, sS]
    go_wp2_with fail
    go_ret
    exact ⟨by rw [r3.out (by have h := hE.out; omega)]; rfl, B2.out⟩
  have n3 : (k == 3) = false := by simpa using e3
  go_upto_region 2 with fail
  refine wp_region_lit ?_
  iterate 2 ((with_reducible refine rN (v := .bool false) ?_ ?_ ?_); (· rfl); (· go_simp; (try with_reducible rfl)); simp only [pu, sB, s0, sS])
  by_cases e8 : k = 8
  · have ek : (k == 8) = true := by simpa using e8
    have hE := Lib.hid e8
    clear e8
    go_upto_region 3 with fail
    refine wp_region_lit ?_
    iterate 2 ((with_reducible refine rN (v := .bool true) ?_ ?_ ?_); (· rfl); (· go_simp; (try with_reducible rfl)); simp only [pu, sB, s0, sS])
    go_upto_region 4 with fail
    refine wp_region_lit ?_
    (with_reducible refine rN (v := .pointer (some ⟨pA, 1, none⟩)) ?_ ?_ ?_); (· rfl); (· go_simp; (try rfl)); simp only [pu, sB, s0, sS]
    with_reducible refine wpList_loadV (.tmp 8) (j := 1) (v := .int .i64 n) ?_ ?_ KA1.out ?_ Tryz.underlying3 ?_ ?_
    · rfl
    · rfl
    · exact rF_1
    · rfl
    simp only [pu, sB, s0, sS]
    go_wp2_with fail
    refine (HN.out _ B1.out).mono ?_
    rintro e w2 ⟨rfl, hb⟩
    have B2 := Lib.hid (B1.out.trans (hb.mono B1.out.size))
    have KA2 := Lib.hid (KA1.out.below hb KA1.out.lt)
    clear hb
    clear B1 KA1
    go_simp
    rename_i hKK
    refine hKK _ _ ?_
    clear hKK
    try simp only [pu, sB, s0, sS]
    (with_reducible refine rN (v := ?_) ?_ ?_ ?_); rotate_left; (· rfl); (· go_simp; (try with_reducible rfl)); simp only [pu, sB, s0, sS]
    go_wp2_with fail
    go_ret
    exact ⟨by rw [r3.out (by have h := hE.out; omega)]; rfl, B2.out⟩
  have n8 : (k == 8) = false := by simpa using e8
  go_upto_region 3 with fail
  refine wp_region_lit ?_
  iterate 2 ((with_reducible refine rN (v := .bool false) ?_ ?_ ?_); (· rfl); (· go_simp; (try with_reducible rfl)); simp only [pu, sB, s0, sS])
  by_cases e4 : k = 4
  · have ek : (k == 4) = true := by simpa using e4
    have hE := Lib.hid e4
    clear e4
    go_upto_region 5 with fail
    refine wp_region_lit ?_
    iterate 2 ((with_reducible refine rN (v := .bool true) ?_ ?_ ?_); (· rfl); (· go_simp; (try with_reducible rfl)); simp only [pu, sB, s0, sS])
    go_upto_region 6 with fail
    refine wp_region_lit ?_
    (with_reducible refine rN (v := .pointer (some ⟨pA, 2, none⟩)) ?_ ?_ ?_); (· rfl); (· go_simp; (try rfl)); simp only [pu, sB, s0, sS]
    with_reducible refine wpList_loadM (.tmp 13) (o := 2) (xs := (cellsF f fs)) ?_ ?_ KA1.out ?_ Tryz.underlying25 ?_ (infoTF16 (cellsF_size f fs)) ?_
    · rfl
    · rfl
    · exact rF_f
    · rfl
    simp only [pu, sB, s0, sS]
    go_wp2_with fail
    refine (HF.out _ B1.out).mono ?_
    rintro e w2 ⟨rfl, hb⟩
    have B2 := Lib.hid (B1.out.trans (hb.mono B1.out.size))
    have KA2 := Lib.hid (KA1.out.below hb KA1.out.lt)
    clear hb
    clear B1 KA1
    go_simp
    rename_i hKK
    refine hKK _ _ ?_
    clear hKK
    try simp only [pu, sB, s0, sS]
    (with_reducible refine rN (v := .string (tF ++ ⟨#[41]⟩)) ?_ ?_ ?_); (· rfl); (· go_simp; omega); simp only [pu, sB, s0, sS]
    (with_reducible refine rN (v := ?_) ?_ ?_ ?_); rotate_left; (· rfl); (· go_simp; (try with_reducible rfl)); simp only [pu, sB, s0, sS]
    go_wp2_with fail
    go_ret
    exact ⟨by rw [r4.out (by have h := hE.out; omega)]; rfl, B2.out⟩
  have n4 : (k == 4) = false := by simpa using e4
  go_upto_region 5 with fail
  refine wp_region_lit ?_
  iterate 2 ((with_reducible refine rN (v := .bool false) ?_ ?_ ?_); (· rfl); (· go_simp; (try with_reducible rfl)); simp only [pu, sB, s0, sS])
  go_upto_region 7 with fail
  refine wp_region_lit ?_
  (with_reducible refine rN (v := ?_) ?_ ?_ ?_); rotate_left; (· rfl); (· go_simp; (try with_reducible rfl)); simp only [pu, sB, s0, sS]
  go_wp2_with fail
  go_ret
  exact ⟨by rw [r0.out (by omega) (by omega)]; rfl, B1.out⟩

set_option maxHeartbeats 8000000 in
set_option maxRecDepth 100000 in
theorem rfTextBad (k n : Int) (f : Fil.Flt) (fs : ByteArray) (w : World)
    (HI : Hid (∀ W, Below w.heap.size w W → Calls Tryz.prog 14 #[.agg (rF k n (cellsF f fs)), .int .i64 4] W fun e w' => e = .returned (.bool false) ∧ Below W.heap.size W w')) :
    Calls Tryz.prog 16 #[.agg (rF k n (cellsF f fs))] w fun e w' => e = .returned (.string ⟨#[]⟩) ∧ Below w.heap.size w w' := by

  have B0 := Lib.hid (Below.refl w.heap.size w)
  go_enter Tryz.func16, Tryz.ntmps16
  go_upto_region 0 with fail
  refine wp_region_lit ?_
  obtain ⟨w1, hw⟩ : ∃ v, v = w.alloc (.cells (rF k n (cellsF f fs)) 27) := ⟨_, rfl⟩
  obtain ⟨pA, hp⟩ : ∃ v, v = w.heap.size := ⟨_, rfl⟩
  have B1 : Hid (Below w.heap.size w w1) := Lib.hid (by rw [hw]; exact B0.out.alloc B0.out.size _)
  have LEA : Hid (w.heap.size ≤ pA) := Lib.hid (by rw [hp]; exact B0.out.size)
  have KA1 : Hid (Blk w1 pA (rF k n (cellsF f fs)) 27) := Lib.hid (by rw [hw, hp]; exact Blk.new _ _ _)
  with_reducible refine wpList_runWV (some 1) (v := .pointer (some ⟨pA, 0, none⟩)) (w' := w1) ?_ ?_ ?_ ?_
  · rfl
  · rfl
  · rw [hw, hp]; (go_simp; (try rfl))
  simp only [pu, sB, s0, sS]
  clear hw hp
  clear B0
  (with_reducible refine rN (v := ?_) ?_ ?_ ?_); rotate_left; (· rfl); (· go_simp; (try with_reducible rfl)); simp only [pu, sB, s0, sS]
  go_upto_region 1 with fail
  refine wp_region_lit ?_
  with_reducible refine wpList_loadS (.tmp 1) ?_ ?_ KA1.out Tryz.underlying27 ?_ (infoTRf18 (rF_sz (cellsF_size f fs))) ?_
  · rfl
  · rfl
  · rfl
  simp only [pu, sB, s0, sS]
  go_wp2_with fail
  refine (HI.out _ B1.out).mono ?_
  rintro e w2 ⟨rfl, hb⟩
  have B2 := Lib.hid (B1.out.trans (hb.mono B1.out.size))
  have KA2 := Lib.hid (KA1.out.below hb KA1.out.lt)
  clear hb
  clear B1 KA1
  go_simp
  rename_i hKK
  refine hKK _ _ ?_
  clear hKK
  try simp only [pu, sB, s0, sS]
  (with_reducible refine rN (v := .bool true) ?_ ?_ ?_); (· rfl); (· go_simp; (try with_reducible rfl)); simp only [pu, sB, s0, sS]
  go_upto_region 2 with fail
  refine wp_region_lit ?_
  (with_reducible refine rN (v := ?_) ?_ ?_ ?_); rotate_left; (· rfl); (· go_simp; (try with_reducible rfl)); simp only [pu, sB, s0, sS]
  go_wp2_with fail
  go_ret
  exact ⟨rfl, B2.out⟩

set_option maxHeartbeats 8000000 in
set_option maxRecDepth 100000 in
theorem rfTextOk (j : Nat) (n : Int) (f : Fil.Flt) (fs : ByteArray) (hd t : ByteArray) (w : World)
    (HI : Hid (∀ W, Below w.heap.size w W → Calls Tryz.prog 14 #[.agg (rF (j : Int) n (cellsF f fs)), .int .i64 4] W fun e w' => e = .returned (.bool true) ∧ Below W.heap.size W w')) (hj : j < 9) (hh : headsRC[j]? = some (.string hd)) (HT : Hid (∀ W, Below w.heap.size w W → Calls Tryz.prog 37 #[.agg (rF (j : Int) n (cellsF f fs))] W fun e w' => e = .returned (.string t) ∧ Below W.heap.size W w')) (hs : hd.size ≤ 1000) (ht : t.size ≤ 1000000) :
    Calls Tryz.prog 16 #[.agg (rF (j : Int) n (cellsF f fs))] w fun e w' => e = .returned (.string (hd ++ t)) ∧ Below w.heap.size w w' := by

  have B0 := Lib.hid (Below.refl w.heap.size w)
  go_enter Tryz.func16, Tryz.ntmps16
  go_upto_region 0 with fail
  refine wp_region_lit ?_
  obtain ⟨w1, hw⟩ : ∃ v, v = w.alloc (.cells (rF (j : Int) n (cellsF f fs)) 27) := ⟨_, rfl⟩
  obtain ⟨pA, hp⟩ : ∃ v, v = w.heap.size := ⟨_, rfl⟩
  have B1 : Hid (Below w.heap.size w w1) := Lib.hid (by rw [hw]; exact B0.out.alloc B0.out.size _)
  have LEA : Hid (w.heap.size ≤ pA) := Lib.hid (by rw [hp]; exact B0.out.size)
  have KA1 : Hid (Blk w1 pA (rF (j : Int) n (cellsF f fs)) 27) := Lib.hid (by rw [hw, hp]; exact Blk.new _ _ _)
  with_reducible refine wpList_runWV (some 1) (v := .pointer (some ⟨pA, 0, none⟩)) (w' := w1) ?_ ?_ ?_ ?_
  · rfl
  · rfl
  · rw [hw, hp]; (go_simp; (try rfl))
  simp only [pu, sB, s0, sS]
  clear hw hp
  clear B0
  (with_reducible refine rN (v := ?_) ?_ ?_ ?_); rotate_left; (· rfl); (· go_simp; (try with_reducible rfl)); simp only [pu, sB, s0, sS]
  go_upto_region 1 with fail
  refine wp_region_lit ?_
  with_reducible refine wpList_loadS (.tmp 1) ?_ ?_ KA1.out Tryz.underlying27 ?_ (infoTRf18 (rF_sz (cellsF_size f fs))) ?_
  · rfl
  · rfl
  · rfl
  simp only [pu, sB, s0, sS]
  go_wp2_with fail
  refine (HI.out _ B1.out).mono ?_
  rintro e w2 ⟨rfl, hb⟩
  have B2 := Lib.hid (B1.out.trans (hb.mono B1.out.size))
  have KA2 := Lib.hid (KA1.out.below hb KA1.out.lt)
  clear hb
  clear B1 KA1
  go_simp
  rename_i hKK
  refine hKK _ _ ?_
  clear hKK
  try simp only [pu, sB, s0, sS]
  (with_reducible refine rN (v := .bool false) ?_ ?_ ?_); (· rfl); (· go_simp; (try with_reducible rfl)); simp only [pu, sB, s0, sS]
  have h0 : (0 : Int) ≤ (j : Int) := by omega
  have h15 : (j : Int) < 9 := by omega
  go_upto_region 3 with fail
  refine wp_region_held_drew (S := (fun W : World => Blk W pA (rF (j : Int) n (cellsF f fs)) 27)) (by kernel_rfl) ?_ (fun hHeld => ?_)
  · exact KA2.out.drew
  refine take_run 1 (some 7) (v := .pointer (some ⟨pA, 0, none⟩)) rfl rfl (by kernel_rfl) (by kernel_rfl) (by kernel_rfl) (fun _ _ _ h => h) (by rfl) ?_ (by assumption) ?_
  · (intro W hSw; go_simp; (try rfl))
  simp only [pu, sB, s0, sS]
  refine take_loadV 2 (some 8) rfl rfl (by kernel_rfl) (by kernel_rfl) (by kernel_rfl) (fun _ _ _ h => h) (by rfl) (.tmp 7) rfl (b := pA) (j := 0) (cs := (rF (j : Int) n (cellsF f fs))) (v := .int .i64 (j : Int)) (by rfl) (fun W h => h) rF_0 Tryz.underlying3 rfl (by assumption) ?_
  simp only [pu, sB, s0, sS]
  refine take_loadS 5 (some 11) rfl rfl (by kernel_rfl) (by kernel_rfl) (by kernel_rfl) (fun _ _ _ h => h) (by rfl) (.tmp 1) rfl (b := pA) (cs := (rF (j : Int) n (cellsF f fs))) (by rfl) (fun W h => h) Tryz.underlying27 rfl (infoTRf18 (rF_sz (cellsF_size f fs))) (by assumption) ?_
  simp only [pu, sB, s0, sS]
  refine wpAnyH_ready (rs := [0]) (by kernel_rfl) (by simp) ?_
  refine AllReadyH.cons rfl (fun K1 hK1 => ?_) AllReadyH.nil
  go_simp
  go_at_call 36
  refine (callBase (C := w2.heap.size) (w0 := w2) (by go_grown) (Nat.le_refl _) (rfHeads _)).mono ?_
  rintro e wd1 ⟨⟨b, rfl, hbk⟩, hbd1⟩
  go_simp
  refine hK1.out _ _ ?_ (fun hHd1 => ?_)
  · exact KA2.out.below hbd1 KA2.out.lt
  clear hK1 K1 hHeld
  have hHd1x : (fun W : World => Blk W pA (rF (j : Int) n (cellsF f fs)) 27 ∧ W.cell? ⟨b, j, none⟩ = some (.string hd)) _ := ⟨KA2.out.below hbd1 KA2.out.lt, ((hbk.cell j).trans hh)⟩
  refine wpAnyH_more (S' := (fun W : World => Blk W pA (rF (j : Int) n (cellsF f fs)) 27 ∧ W.cell? ⟨b, j, none⟩ = some (.string hd))) (fun W h => h.1) _ _ _ _ ?_
  clear hHd1
  try simp only [pu, sB, s0, sS]
  refine take_run 3 (some 9) (v := .pointer (some ⟨b, j, none⟩)) rfl rfl (by kernel_rfl) (by kernel_rfl) (by kernel_rfl) (fun _ _ _ h => h) (by rfl) ?_ (by assumption) ?_
  · (intro W hSw; go_simp; (try rfl))
  simp only [pu, sB, s0, sS]
  refine take_run 4 (some 10) (v := .string hd) rfl rfl (by kernel_rfl) (by kernel_rfl) (by kernel_rfl) (fun _ _ _ h => h) (by rfl) ?_ (by assumption) ?_
  · (intro W hSw; have hc := hSw.2; go_simp; (try with_reducible rfl))
  simp only [pu, sB, s0, sS]
  refine wpAnyH_ready (rs := [6]) (by kernel_rfl) (by simp) ?_
  refine AllReadyH.cons rfl (fun K2 hK2 => ?_) AllReadyH.nil
  go_simp
  go_at_call 37
  refine (callBase (C := wd1.heap.size) (w0 := wd1) (Below.refl _ _) (Nat.le_refl _) (HT.out _ (B2.out.trans (Below.mono (hbd1 : Below w2.heap.size w2 _) B2.out.size)))).mono ?_
  rintro e wd2 ⟨rfl, hbs2⟩
  have hbd2 := hbd1.trans (hbs2.mono hbd1.size)
  go_simp
  refine hK2.out _ _ ?_ (fun hHd2 => ?_)
  · exact ⟨KA2.out.below hbd2 KA2.out.lt, (Eq.trans (hbs2.cell (p := ⟨b, j, none⟩) hbk.lt) ((hbk.cell j).trans hh))⟩
  clear hK2 K2 hHd1x
  try simp only [pu, sB, s0, sS]
  refine take_run 7 (some 13) (v := .string (hd ++ t)) rfl rfl (by kernel_rfl) (by kernel_rfl) (by kernel_rfl) (fun _ _ _ h => h) (by rfl) ?_ (by assumption) ?_
  · (intro W hSw; go_simp; omega)
  simp only [pu, sB, s0, sS]
  refine take_run 8 (some 2) (v := ?_) rfl rfl (by kernel_rfl) (by kernel_rfl) (by kernel_rfl) (fun _ _ _ h => h) (by rfl) ?_ (by assumption) ?_
  rotate_left
  · (intro W hSw; (try dsimp only at hSw); go_simp; (try with_reducible rfl))
  simp only [pu, sB, s0, sS]
  refine wpAnyH_done (by kernel_rfl) ?_ _
  have B3 := Lib.hid (B2.out.trans (hbd2.mono B2.out.size))
  have KA3 := Lib.hid (KA2.out.below hbd2 KA2.out.lt)
  go_wp2_with fail
  go_ret
  exact ⟨rfl, B3.out⟩
end Go.Proofs.YtbcgkeclmioeiaaGreatDoor
namespace Go.Proofs.YtbcgkeclmioeiaaGreatDoor
open Go.RowKit
open Wd (Bs)

set_option maxHeartbeats 8000000 in
set_option maxRecDepth 100000 in
theorem rfRdTIn (j : Nat) (r t : ByteArray) (x b4 : Int) (bd : Bool) (f : Fil.Flt) (w : World)
    (HN : Hid (∀ W, Below w.heap.size w W → Calls Tryz.prog 131 #[.string r] W fun e w' => e = .returned (.tuple #[.int .i64 x, .bool bd]) ∧ Below W.heap.size W w')) (h5 : Fil.num r.data.toList = x) (HTR : Hid (∀ W, Below w.heap.size w W → Calls Tryz.prog 133 #[.string r, .string ⟨#[41]⟩] W fun e w' => e = .returned (.string t) ∧ Below W.heap.size W w')) (HFI : Hid (∀ W, Below w.heap.size w W → Calls Tryz.prog 132 #[.string t] W fun e w' => e = .returned (.tuple #[.agg (cellsF f (fsOf f)), .int .i64 b4]) ∧ Below W.heap.size W w')) (h4 : Fil.parseV (Lib.trimSuffix r.data.toList [41]) = f) :
    Calls Tryz.prog 85 #[.int .i64 (j : Int), .string r] w fun e w' => e = .returned (.agg (cellsR (Rf.tailR j r.data.toList))) ∧ Below w.heap.size w w' := by

  have B0 := Lib.hid (Below.refl w.heap.size w)
  go_enter Tryz.func85, Tryz.ntmps85
  go_upto_region 0 with fail
  refine wp_region_lit ?_
  obtain ⟨w1, hw⟩ : ∃ v, v = w.alloc (.cells (rF 0 0 cellsZ) 27) := ⟨_, rfl⟩
  obtain ⟨pR, hp⟩ : ∃ v, v = w.heap.size := ⟨_, rfl⟩
  have B1 : Hid (Below w.heap.size w w1) := Lib.hid (by rw [hw]; exact B0.out.alloc B0.out.size _)
  have LER : Hid (w.heap.size ≤ pR) := Lib.hid (by rw [hp]; exact B0.out.size)
  have KR1 : Hid (Blk w1 pR (rF 0 0 cellsZ) 27) := Lib.hid (by rw [hw, hp]; exact Blk.new _ _ _)
  with_reducible refine wpList_runWV (some 4) (v := .pointer (some ⟨pR, 0, none⟩)) (w' := w1) ?_ ?_ ?_ ?_
  · rfl
  · rfl
  · rw [hw, hp]; (go_simp; (try rfl))
  simp only [pu, sB, s0, sS]
  clear hw hp
  clear B0
  go_upto_region 1 with fail
  refine wp_region_lit ?_
  (with_reducible refine rN (v := ?_) ?_ ?_ ?_); rotate_left; (· rfl); (· go_simp; (try with_reducible rfl)); simp only [pu, sB, s0, sS]
  (with_reducible refine rN (v := .agg (rF (j : Int) 0 cellsZ)) ?_ ?_ ?_); (· rfl); (· refine run_buildOp _ [(0, .int .i64 (j : Int))] rfl ?_ (builtR_kind (j : Int)); rfl); simp only [pu, sB, s0, sS]
  obtain ⟨w2, hw⟩ : ∃ v, v = w1.alloc (.cells (rF 0 0 cellsZ) 27) := ⟨_, rfl⟩
  obtain ⟨pM, hp⟩ : ∃ v, v = w1.heap.size := ⟨_, rfl⟩
  have B2 : Hid (Below w.heap.size w w2) := Lib.hid (by rw [hw]; exact B1.out.alloc B1.out.size _)
  have LEM : Hid (w.heap.size ≤ pM) := Lib.hid (by rw [hp]; exact B1.out.size)
  have KR2 := Lib.hid (show Blk w2 pR (rF 0 0 cellsZ) 27 by rw [hw]; exact KR1.out.alloc _)
  have NERM : Hid (pR ≠ pM) := Lib.hid (by rw [hp]; exact Nat.ne_of_lt KR1.out.lt)
  have NEMR : Hid (pM ≠ pR) := Lib.hid (Ne.symm NERM.out)
  have KM2 : Hid (Blk w2 pM (rF 0 0 cellsZ) 27) := Lib.hid (by rw [hw, hp]; exact Blk.new _ _ _)
  with_reducible refine wpList_runWV (some 5) (v := .pointer (some ⟨pM, 0, none⟩)) (w' := w2) ?_ ?_ ?_ ?_
  · rfl
  · rfl
  · rw [hw, hp]; (go_simp; (try rfl))
  simp only [pu, sB, s0, sS]
  clear hw hp
  clear B1 KR1
  have KM3 := Lib.hid (KM2.out.stored (o := 0) (vs := (rF (j : Int) 0 cellsZ).toList) (cs' := (rF (j : Int) 0 cellsZ)) (laid_all (rF_sz cellsZ_size) (rF_sz cellsZ_size)))
  have KR3 := Lib.hid (KR2.out.wholeElse ((rF (j : Int) 0 cellsZ).toList) (o := 0) NERM.out)
  have B3 := Lib.hid (below_whole ((rF (j : Int) 0 cellsZ).toList) (o := 0) B2.out LEM.out)
  with_reducible refine wpList_storeM (.tmp 5) (.tmp 7) (o := 0) (vs := (rF (j : Int) 0 cellsZ)) ?_ ?_ KM2.out ?_ (infoTRf18 (rF_sz cellsZ_size)) (rF_one cellsZ_one) ?_
  · rfl
  · rfl
  · exact (fit_2 (rF_sz cellsZ_size) (rF_sz cellsZ_size) (by decide))
  (try simp only [Act.put])
  generalize World.setCells _ _ _ _ = w3 at KR3 KM3 B3 ⊢
  clear B2 KR2 KM2
  go_upto_region 2 with fail
  refine wp_region_lit ?_
  (with_reducible refine rN (v := ?_) ?_ ?_ ?_); rotate_left; (· rfl); (· go_simp; (try with_reducible rfl)); simp only [pu, sB, s0, sS]
  by_cases e3 : j = 3
  · have ek : ((j : Int) == 3) = true := by simp; omega
    have hE := Lib.hid e3
    clear e3
    go_upto_region 3 with fail
    refine wp_region_lit ?_
    iterate 2 ((with_reducible refine rN (v := .bool true) ?_ ?_ ?_); (· rfl); (· go_simp; (try with_reducible rfl)); simp only [pu, sB, s0, sS])
    go_upto_region 5 with fail
    refine wp_region_lit ?_
    (with_reducible refine rN (v := ?_) ?_ ?_ ?_); rotate_left; (· rfl); (· go_simp; (try with_reducible rfl)); simp only [pu, sB, s0, sS]
    go_wp2_with fail
    refine (HN.out _ B3.out).mono ?_
    rintro e w4 ⟨rfl, hb⟩
    have B4 := Lib.hid (B3.out.trans (hb.mono B3.out.size))
    have KR4 := Lib.hid (KR3.out.below hb KR3.out.lt)
    have KM4 := Lib.hid (KM3.out.below hb KM3.out.lt)
    clear hb
    clear B3 KR3 KM3
    go_simp
    rename_i hKK
    refine hKK _ _ ?_
    clear hKK
    try simp only [pu, sB, s0, sS]
    iterate 3 ((with_reducible refine rN (v := ?_) ?_ ?_ ?_); rotate_left; (· rfl); (· go_simp; (try with_reducible rfl)); simp only [pu, sB, s0, sS])
    (with_reducible refine rN (v := .pointer (some ⟨pM, 1, none⟩)) ?_ ?_ ?_); (· rfl); (· go_simp; (try rfl)); simp only [pu, sB, s0, sS]
    have KM5 := Lib.hid (KM4.out.stored (o := 1) (vs := [.int .i64 x]) (cs' := (rF (j : Int) x cellsZ)) (rF_p1))
    have KR5 := Lib.hid (KR4.out.wholeElse ([.int .i64 x]) (o := 1) NERM.out)
    have B5 := Lib.hid (below_whole ([.int .i64 x]) (o := 1) B4.out LEM.out)
    with_reducible refine wpList_storeV (.tmp 17) (.tmp 15) (j := 1) (v := .int .i64 x) ?_ ?_ KM4.out ?_ (by kernel_rfl) (by simp [Value.oneCell']) ?_
    · rfl
    · rfl
    · exact (fit_1 (rF_sz cellsZ_size) (by decide))
    (try simp only [Act.put])
    generalize World.setCells _ _ _ _ = w5 at KR5 KM5 B5 ⊢
    clear B4 KR4 KM4
    go_upto_region 8 with fail
    refine wp_region_lit ?_
    with_reducible refine wpList_loadS (.tmp 5) ?_ ?_ KM5.out Tryz.underlying27 ?_ (infoTRf18 (rF_sz cellsZ_size)) ?_
    · rfl
    · rfl
    · rfl
    simp only [pu, sB, s0, sS]
    have KR6 := Lib.hid (KR5.out.stored (o := 0) (vs := (rF (j : Int) x cellsZ).toList) (cs' := (rF (j : Int) x cellsZ)) (laid_all (rF_sz cellsZ_size) (rF_sz cellsZ_size)))
    have KM6 := Lib.hid (KM5.out.wholeElse ((rF (j : Int) x cellsZ).toList) (o := 0) NEMR.out)
    have B6 := Lib.hid (below_whole ((rF (j : Int) x cellsZ).toList) (o := 0) B5.out LER.out)
    with_reducible refine wpList_storeM (.tmp 4) (.tmp 27) (o := 0) (vs := (rF (j : Int) x cellsZ)) ?_ ?_ KR5.out ?_ (infoTRf18 (rF_sz cellsZ_size)) (rF_one cellsZ_one) ?_
    · rfl
    · rfl
    · exact (fit_2 (rF_sz cellsZ_size) (rF_sz cellsZ_size) (by decide))
    (try simp only [Act.put])
    generalize World.setCells _ _ _ _ = w6 at KR6 KM6 B6 ⊢
    clear B5 KR5 KM5
    have hL := KR6.out.readS Tryz.underlying27 rfl (infoTRf18 (rF_sz cellsZ_size))
    go_wp2_with fail
    exact bodyPost_ret (v := .agg (rF (j : Int) x cellsZ)) (results_cell Tryz.results85 (by rfl) hL) rfl ⟨(by rw [Rf.tail_3 (by have h := hE.out; omega), h5]; rfl), B6.out⟩
  have n3 : ((j : Int) == 3) = false := by simp; omega
  go_upto_region 3 with fail
  refine wp_region_lit ?_
  iterate 2 ((with_reducible refine rN (v := .bool false) ?_ ?_ ?_); (· rfl); (· go_simp; (try with_reducible rfl)); simp only [pu, sB, s0, sS])
  by_cases e8 : j = 8
  · have ek : ((j : Int) == 8) = true := by simp; omega
    have hE := Lib.hid e8
    clear e8
    go_upto_region 4 with fail
    refine wp_region_lit ?_
    iterate 2 ((with_reducible refine rN (v := .bool true) ?_ ?_ ?_); (· rfl); (· go_simp; (try with_reducible rfl)); simp only [pu, sB, s0, sS])
    go_upto_region 5 with fail
    refine wp_region_lit ?_
    (with_reducible refine rN (v := ?_) ?_ ?_ ?_); rotate_left; (· rfl); (· go_simp; (try with_reducible rfl)); simp only [pu, sB, s0, sS]
    go_wp2_with fail
    refine (HN.out _ B3.out).mono ?_
    rintro e w4 ⟨rfl, hb⟩
    have B4 := Lib.hid (B3.out.trans (hb.mono B3.out.size))
    have KR4 := Lib.hid (KR3.out.below hb KR3.out.lt)
    have KM4 := Lib.hid (KM3.out.below hb KM3.out.lt)
    clear hb
    clear B3 KR3 KM3
    go_simp
    rename_i hKK
    refine hKK _ _ ?_
    clear hKK
    try simp only [pu, sB, s0, sS]
    iterate 3 ((with_reducible refine rN (v := ?_) ?_ ?_ ?_); rotate_left; (· rfl); (· go_simp; (try with_reducible rfl)); simp only [pu, sB, s0, sS])
    (with_reducible refine rN (v := .pointer (some ⟨pM, 1, none⟩)) ?_ ?_ ?_); (· rfl); (· go_simp; (try rfl)); simp only [pu, sB, s0, sS]
    have KM5 := Lib.hid (KM4.out.stored (o := 1) (vs := [.int .i64 x]) (cs' := (rF (j : Int) x cellsZ)) (rF_p1))
    have KR5 := Lib.hid (KR4.out.wholeElse ([.int .i64 x]) (o := 1) NERM.out)
    have B5 := Lib.hid (below_whole ([.int .i64 x]) (o := 1) B4.out LEM.out)
    with_reducible refine wpList_storeV (.tmp 17) (.tmp 15) (j := 1) (v := .int .i64 x) ?_ ?_ KM4.out ?_ (by kernel_rfl) (by simp [Value.oneCell']) ?_
    · rfl
    · rfl
    · exact (fit_1 (rF_sz cellsZ_size) (by decide))
    (try simp only [Act.put])
    generalize World.setCells _ _ _ _ = w5 at KR5 KM5 B5 ⊢
    clear B4 KR4 KM4
    go_upto_region 8 with fail
    refine wp_region_lit ?_
    with_reducible refine wpList_loadS (.tmp 5) ?_ ?_ KM5.out Tryz.underlying27 ?_ (infoTRf18 (rF_sz cellsZ_size)) ?_
    · rfl
    · rfl
    · rfl
    simp only [pu, sB, s0, sS]
    have KR6 := Lib.hid (KR5.out.stored (o := 0) (vs := (rF (j : Int) x cellsZ).toList) (cs' := (rF (j : Int) x cellsZ)) (laid_all (rF_sz cellsZ_size) (rF_sz cellsZ_size)))
    have KM6 := Lib.hid (KM5.out.wholeElse ((rF (j : Int) x cellsZ).toList) (o := 0) NEMR.out)
    have B6 := Lib.hid (below_whole ((rF (j : Int) x cellsZ).toList) (o := 0) B5.out LER.out)
    with_reducible refine wpList_storeM (.tmp 4) (.tmp 27) (o := 0) (vs := (rF (j : Int) x cellsZ)) ?_ ?_ KR5.out ?_ (infoTRf18 (rF_sz cellsZ_size)) (rF_one cellsZ_one) ?_
    · rfl
    · rfl
    · exact (fit_2 (rF_sz cellsZ_size) (rF_sz cellsZ_size) (by decide))
    (try simp only [Act.put])
    generalize World.setCells _ _ _ _ = w6 at KR6 KM6 B6 ⊢
    clear B5 KR5 KM5
    have hL := KR6.out.readS Tryz.underlying27 rfl (infoTRf18 (rF_sz cellsZ_size))
    go_wp2_with fail
    exact bodyPost_ret (v := .agg (rF (j : Int) x cellsZ)) (results_cell Tryz.results85 (by rfl) hL) rfl ⟨(by rw [Rf.tail_3 (by have h := hE.out; omega), h5]; rfl), B6.out⟩
  have n8 : ((j : Int) == 8) = false := by simp; omega
  go_upto_region 4 with fail
  refine wp_region_lit ?_
  iterate 2 ((with_reducible refine rN (v := .bool false) ?_ ?_ ?_); (· rfl); (· go_simp; (try with_reducible rfl)); simp only [pu, sB, s0, sS])
  by_cases e4 : j = 4
  · have ek : ((j : Int) == 4) = true := by simp; omega
    have hE := Lib.hid e4
    clear e4
    go_upto_region 6 with fail
    refine wp_region_lit ?_
    iterate 2 ((with_reducible refine rN (v := .bool true) ?_ ?_ ?_); (· rfl); (· go_simp; (try with_reducible rfl)); simp only [pu, sB, s0, sS])
    go_upto_region 7 with fail
    refine wp_region_lit ?_
    (with_reducible refine rN (v := ?_) ?_ ?_ ?_); rotate_left; (· rfl); (· go_simp; (try with_reducible rfl)); simp only [pu, sB, s0, sS]
    go_wp2_with fail
    refine (HTR.out _ B3.out).mono ?_
    rintro e w4 ⟨rfl, hb⟩
    have B4 := Lib.hid (B3.out.trans (hb.mono B3.out.size))
    have KR4 := Lib.hid (KR3.out.below hb KR3.out.lt)
    have KM4 := Lib.hid (KM3.out.below hb KM3.out.lt)
    clear hb
    clear B3 KR3 KM3
    go_simp
    rename_i hKK
    refine hKK _ _ ?_
    clear hKK
    try simp only [pu, sB, s0, sS]
    go_wp2_with fail
    refine (HFI.out _ B4.out).mono ?_
    rintro e w5 ⟨rfl, hb⟩
    have B5 := Lib.hid (B4.out.trans (hb.mono B4.out.size))
    have KR5 := Lib.hid (KR4.out.below hb KR4.out.lt)
    have KM5 := Lib.hid (KM4.out.below hb KM4.out.lt)
    clear hb
    clear B4 KR4 KM4
    go_simp
    rename_i hKK
    refine hKK _ _ ?_
    clear hKK
    try simp only [pu, sB, s0, sS]
    (with_reducible refine rN (v := ?_) ?_ ?_ ?_); rotate_left; (· rfl); (· go_simp; (try with_reducible rfl)); simp only [pu, sB, s0, sS]
    (with_reducible refine rN (v := .agg (cellsF f (fsOf f))) ?_ ?_ ?_); (· rfl); (· go_simp; (try with_reducible rfl)); simp only [pu, sB, s0, sS]
    (with_reducible refine rN (v := ?_) ?_ ?_ ?_); rotate_left; (· rfl); (· go_simp; (try with_reducible rfl)); simp only [pu, sB, s0, sS]
    (with_reducible refine rN (v := .pointer (some ⟨pM, 2, none⟩)) ?_ ?_ ?_); (· rfl); (· go_simp; (try rfl)); simp only [pu, sB, s0, sS]
    have KM6 := Lib.hid (KM5.out.stored (o := 2) (vs := (cellsF f (fsOf f)).toList) (cs' := (rF (j : Int) 0 (cellsF f (fsOf f)))) (rF_pf (Eq.trans (cellsF_size f (fsOf f)) (Eq.symm cellsZ_size))))
    have KR6 := Lib.hid (KR5.out.wholeElse ((cellsF f (fsOf f)).toList) (o := 2) NERM.out)
    have B6 := Lib.hid (below_whole ((cellsF f (fsOf f)).toList) (o := 2) B5.out LEM.out)
    with_reducible refine wpList_storeM (.tmp 26) (.tmp 24) (o := 2) (vs := (cellsF f (fsOf f))) ?_ ?_ KM5.out ?_ (infoTF16 (cellsF_size f (fsOf f))) (cellsF_one f (fsOf f)) ?_
    · rfl
    · rfl
    · exact (fit_2 (rF_sz cellsZ_size) (cellsF_size f (fsOf f)) (by decide))
    (try simp only [Act.put])
    generalize World.setCells _ _ _ _ = w6 at KR6 KM6 B6 ⊢
    clear B5 KR5 KM5
    go_upto_region 8 with fail
    refine wp_region_lit ?_
    with_reducible refine wpList_loadS (.tmp 5) ?_ ?_ KM6.out Tryz.underlying27 ?_ (infoTRf18 (rF_sz (cellsF_size f (fsOf f)))) ?_
    · rfl
    · rfl
    · rfl
    simp only [pu, sB, s0, sS]
    have KR7 := Lib.hid (KR6.out.stored (o := 0) (vs := (rF (j : Int) 0 (cellsF f (fsOf f))).toList) (cs' := (rF (j : Int) 0 (cellsF f (fsOf f)))) (laid_all (rF_sz (cellsF_size f (fsOf f))) (rF_sz cellsZ_size)))
    have KM7 := Lib.hid (KM6.out.wholeElse ((rF (j : Int) 0 (cellsF f (fsOf f))).toList) (o := 0) NEMR.out)
    have B7 := Lib.hid (below_whole ((rF (j : Int) 0 (cellsF f (fsOf f))).toList) (o := 0) B6.out LER.out)
    with_reducible refine wpList_storeM (.tmp 4) (.tmp 27) (o := 0) (vs := (rF (j : Int) 0 (cellsF f (fsOf f)))) ?_ ?_ KR6.out ?_ (infoTRf18 (rF_sz (cellsF_size f (fsOf f)))) (rF_one (cellsF_one f (fsOf f))) ?_
    · rfl
    · rfl
    · exact (fit_2 (rF_sz cellsZ_size) (rF_sz (cellsF_size f (fsOf f))) (by decide))
    (try simp only [Act.put])
    generalize World.setCells _ _ _ _ = w7 at KR7 KM7 B7 ⊢
    clear B6 KR6 KM6
    have hL := KR7.out.readS Tryz.underlying27 rfl (infoTRf18 (rF_sz (cellsF_size f (fsOf f))))
    go_wp2_with fail
    exact bodyPost_ret (v := .agg (rF (j : Int) 0 (cellsF f (fsOf f)))) (results_cell Tryz.results85 (by rfl) hL) rfl ⟨(by rw [Rf.tail_4 (by have h := hE.out; omega), h4]; rfl), B7.out⟩
  have n4 : ((j : Int) == 4) = false := by simp; omega
  go_upto_region 6 with fail
  refine wp_region_lit ?_
  iterate 2 ((with_reducible refine rN (v := .bool false) ?_ ?_ ?_); (· rfl); (· go_simp; (try with_reducible rfl)); simp only [pu, sB, s0, sS])
  go_upto_region 8 with fail
  refine wp_region_lit ?_
  with_reducible refine wpList_loadS (.tmp 5) ?_ ?_ KM3.out Tryz.underlying27 ?_ (infoTRf18 (rF_sz cellsZ_size)) ?_
  · rfl
  · rfl
  · rfl
  simp only [pu, sB, s0, sS]
  have KR4 := Lib.hid (KR3.out.stored (o := 0) (vs := (rF (j : Int) 0 cellsZ).toList) (cs' := (rF (j : Int) 0 cellsZ)) (laid_all (rF_sz cellsZ_size) (rF_sz cellsZ_size)))
  have KM4 := Lib.hid (KM3.out.wholeElse ((rF (j : Int) 0 cellsZ).toList) (o := 0) NEMR.out)
  have B4 := Lib.hid (below_whole ((rF (j : Int) 0 cellsZ).toList) (o := 0) B3.out LER.out)
  with_reducible refine wpList_storeM (.tmp 4) (.tmp 27) (o := 0) (vs := (rF (j : Int) 0 cellsZ)) ?_ ?_ KR3.out ?_ (infoTRf18 (rF_sz cellsZ_size)) (rF_one cellsZ_one) ?_
  · rfl
  · rfl
  · exact (fit_2 (rF_sz cellsZ_size) (rF_sz cellsZ_size) (by decide))
  (try simp only [Act.put])
  generalize World.setCells _ _ _ _ = w4 at KR4 KM4 B4 ⊢
  clear B3 KR3 KM3
  have hL := KR4.out.readS Tryz.underlying27 rfl (infoTRf18 (rF_sz cellsZ_size))
  go_wp2_with fail
  exact bodyPost_ret (v := .agg (rF (j : Int) 0 cellsZ)) (results_cell Tryz.results85 (by rfl) hL) rfl ⟨(by rw [Rf.tail_else (by omega) (by omega)]; rfl), B4.out⟩

theorem head_emptyR {j : Nat} {hd : ByteArray} (h : hd = ⟨(Rf.headL j).toArray⟩) {b : Bool} (hb : (!hd.toList.isEmpty) = b) : (!(Rf.headL j).isEmpty) = b := by
  rw [← hb, Lib.toList_data, h]
theorem rest_sizeR {j : Nat} {t rt : ByteArray} (h : rt = ⟨(if (Rf.headL j).isPrefixOf t.data.toList then t.data.toList.drop (Rf.headL j).length else t.data.toList).toArray⟩) (hs : t.size ≤ 1000000) : rt.size ≤ 1000000 := by
  have hsl : t.data.toList.length = t.size := Array.length_toList
  rw [h, size_of]
  split
  · rw [List.length_drop]; omega
  · omega
theorem head_tailR {j : Nat} {t rt : ByteArray} {b : Bool} (h : rt = ⟨(if (Rf.headL j).isPrefixOf t.data.toList then t.data.toList.drop (Rf.headL j).length else t.data.toList).toArray⟩) (hb : b = (Rf.headL j).isPrefixOf t.data.toList) (e : b = true := by rfl) : rt.data.toList = t.data.toList.drop (Rf.headL j).length := by
  rw [h, if_pos (by rw [← hb]; exact e)]

set_option maxHeartbeats 8000000 in
set_option maxRecDepth 100000 in
theorem rfReadW (t : ByteArray) (w : World)
    (hs : t.size ≤ 1000000) (HCP : Hid (∀ (j : Nat) W, Below w.heap.size w W → Calls Tryz.prog 84 #[.string t, .string ⟨(Rf.headL j).toArray⟩] W fun e w' => e = .returned (.tuple #[.string ⟨(if (Rf.headL j).isPrefixOf t.data.toList then t.data.toList.drop (Rf.headL j).length else t.data.toList).toArray⟩, .bool ((Rf.headL j).isPrefixOf t.data.toList)]) ∧ Below W.heap.size W w')) (HRT : Hid (∀ (j : Nat) (r : ByteArray) W, j < 9 → r.size ≤ 1000000 → Rf.NoH t.data.toList j → Rf.hitH t.data.toList j = true → r.data.toList = t.data.toList.drop (Rf.headL j).length → Below w.heap.size w W → Calls Tryz.prog 85 #[.int .i64 (j : Int), .string r] W fun e w' => e = .returned (.agg (cellsR (Rf.tailR j r.data.toList))) ∧ Below W.heap.size W w')) :
    Calls Tryz.prog 41 #[.string t] w fun e w' => e = .returned (.agg (cellsR (Rf.readR t.data.toList))) ∧ Below w.heap.size w w' := by

  have B0 := Lib.hid (Below.refl w.heap.size w)
  go_enter Tryz.func41, Tryz.ntmps41
  go_upto_region 0 with fail
  refine wp_region_lit ?_
  obtain ⟨w1, hw⟩ : ∃ v, v = w.alloc (.cells (rF 0 0 cellsZ) 27) := ⟨_, rfl⟩
  obtain ⟨pR, hp⟩ : ∃ v, v = w.heap.size := ⟨_, rfl⟩
  have B1 : Hid (Below w.heap.size w w1) := Lib.hid (by rw [hw]; exact B0.out.alloc B0.out.size _)
  have LER : Hid (w.heap.size ≤ pR) := Lib.hid (by rw [hp]; exact B0.out.size)
  have KR1 : Hid (Blk w1 pR (rF 0 0 cellsZ) 27) := Lib.hid (by rw [hw, hp]; exact Blk.new _ _ _)
  with_reducible refine wpList_runWV (some 2) (v := .pointer (some ⟨pR, 0, none⟩)) (w' := w1) ?_ ?_ ?_ ?_
  · rfl
  · rfl
  · rw [hw, hp]; (go_simp; (try rfl))
  simp only [pu, sB, s0, sS]
  clear hw hp
  clear B0
  go_upto_region 1 with fail
  go_wp2_with fail
  refine (rfHeads _).mono ?_
  rintro e w2 ⟨⟨hb, rfl, hKH⟩, hbb⟩
  have B2 := Lib.hid (B1.out.trans (hbb.mono B1.out.size))
  have KR2 := Lib.hid (KR1.out.below hbb KR1.out.lt)
  have KH := Lib.hid hKH
  clear hKH hbb B1 KR1
  go_wp2_with fail
  go_loopw [3, 4, 5, 6, 9] (fun v3 v4 v5 v6 iv wr => ∃ j : Nat, j ≤ 9 ∧ iv = .int .i64 (j : Int) ∧ Hid (Rf.NoH t.data.toList j) ∧ Hid (Blk wr hb headsRC 9) ∧ Hid (Blk wr pR (rF 0 0 cellsZ) 27) ∧ Hid (Below w.heap.size w wr)) (fun v3 v4 v5 v6 iv _ => 9 - (intOf iv).toNat)
  case atStart => exact ⟨0, by omega, rfl, Lib.hid (fun _ h => absurd h (Nat.not_lt_zero _)), KH, KR2, B2⟩
  case round =>
    obtain ⟨j, hj, rfl, HN, KH0, KR0, B0⟩ := hrel
    by_cases hlt : j < 9
    · have h15 : (j : Int) < 9 := by omega
      have h0 : (0 : Int) ≤ (j : Int) := by omega
      have hc := (KH0.out.cell j).trans (headsRC_at hlt)
      have HC := Lib.hid (HCP.out j)
      obtain ⟨hd, ehd⟩ : ∃ x : ByteArray, x = ⟨(Rf.headL j).toArray⟩ := ⟨_, rfl⟩
      rw [← ehd] at hc HC
      obtain ⟨rt, ert⟩ : ∃ x : ByteArray, x = ⟨(if (Rf.headL j).isPrefixOf t.data.toList then t.data.toList.drop (Rf.headL j).length else t.data.toList).toArray⟩ := ⟨_, rfl⟩
      rw [← ert] at HC
      obtain ⟨ok, eok⟩ : ∃ x, x = (Rf.headL j).isPrefixOf t.data.toList := ⟨_, rfl⟩
      rw [← eok] at HC
      have HOK := Lib.hid eok
      have HRT1 := Lib.hid ert
      have HHD := Lib.hid ehd
      clear eok ert ehd
      go_wp2_with fail
      refine (HC.out _ B0.out).mono ?_
      rintro e w1 ⟨rfl, hbb⟩
      have B1 := Lib.hid (B0.out.trans (hbb.mono B0.out.size))
      have KR1 := Lib.hid (KR0.out.below hbb KR0.out.lt)
      have KH1 := Lib.hid (KH0.out.below hbb KH0.out.lt)
      clear hbb B0 KR0 KH0
      obtain ⟨ne, ene⟩ : ∃ b, (!hd.toList.isEmpty) = b := ⟨_, rfl⟩
      cases ok with
      | false =>
        go_wp2_with fail
        go_roundw
        case rel => exact ⟨j + 1, by omega, by go_num, Lib.hid (HN.out.next (by unfold Rf.hitH; rw [← HOK.out]; rfl)), KH1, KR1, B1⟩
        case measure => simp [intOf]; omega
      | true =>
        cases ne with
        | false =>
          go_wp2_with fail
          go_roundw
          case rel => exact ⟨j + 1, by omega, by go_num, Lib.hid (HN.out.next (by unfold Rf.hitH; rw [head_emptyR HHD.out ene]; simp)), KH1, KR1, B1⟩
          case measure => simp [intOf]; omega
        | true =>
          have HIT : Hid (Rf.hitH t.data.toList j = true) := Lib.hid (by unfold Rf.hitH; rw [head_emptyR HHD.out ene, ← HOK.out]; rfl)
          have HSZ : Hid (rt.size ≤ 1000000) := Lib.hid (rest_sizeR HRT1.out hs)
          go_wp2_with fail
          refine (HRT.out j rt _ hlt HSZ.out HN.out HIT.out (head_tailR HRT1.out HOK.out) B1.out).mono ?_
          rintro e w2 ⟨rfl, hbb⟩
          have B2 := Lib.hid (B1.out.trans (hbb.mono B1.out.size))
          have KR2 := Lib.hid (KR1.out.below hbb KR1.out.lt)
          clear hbb B1 KR1
          go_simp
          rename_i hKK
          refine hKK _ _ ?_
          clear hKK
          try simp only [pu, sB, s0, sS]
          have KR3 := Lib.hid (KR2.out.stored (o := 0) (vs := (cellsR (Rf.tailR j rt.data.toList)).toList) (cs' := (cellsR (Rf.tailR j rt.data.toList))) (laid_all (cellsR_sz _) (rF_sz cellsZ_size)))
          have B3 := Lib.hid (below_whole ((cellsR (Rf.tailR j rt.data.toList)).toList) (o := 0) B2.out LER.out)
          with_reducible refine wpList_storeM (.tmp 2) (.tmp 27) (o := 0) (vs := (cellsR (Rf.tailR j rt.data.toList))) ?_ ?_ KR2.out ?_ (infoTRf18 (cellsR_sz _)) (cellsR_one _) ?_
          · rfl
          · rfl
          · exact (fit_2 (rF_sz cellsZ_size) (cellsR_sz _) (by decide))
          (try simp only [Act.put])
          generalize World.setCells _ _ _ _ = w3 at KR3 B3 ⊢
          clear B2 KR2
          rw [head_tailR HRT1.out HOK.out, ← Rf.read_hit hlt HN.out HIT.out] at KR3
          have hL := KR3.out.readS Tryz.underlying27 rfl (infoTRf18 (cellsR_sz _))
          go_wp2_with fail
          exact bodyPost_ret (v := .agg (cellsR (Rf.readR t.data.toList))) (results_cell Tryz.results41 (by rfl) hL) rfl ⟨rfl, B3.out⟩
    · obtain rfl : j = 9 := by omega
      have HE := Lib.hid (Rf.read_none HN.out)
      go_upto_region 8 with fail
      refine wp_region_lit ?_
      (with_reducible refine rN (v := .agg (rF 0 0 cellsZ)) ?_ ?_ ?_); (· rfl); (· go_simp; rfl); simp only [pu, sB, s0, sS]
      have KR1 := Lib.hid (KR0.out.stored (o := 0) (vs := (rF 0 0 cellsZ).toList) (cs' := (rF 0 0 cellsZ)) (laid_all (rF_sz cellsZ_size) (rF_sz cellsZ_size)))
      have B1 := Lib.hid (below_whole ((rF 0 0 cellsZ).toList) (o := 0) B0.out LER.out)
      with_reducible refine wpList_storeM (.tmp 2) (.tmp 29) (o := 0) (vs := (rF 0 0 cellsZ)) ?_ ?_ KR0.out ?_ (infoTRf18 (rF_sz cellsZ_size)) (rF_one cellsZ_one) ?_
      · rfl
      · rfl
      · exact (fit_2 (rF_sz cellsZ_size) (rF_sz cellsZ_size) (by decide))
      (try simp only [Act.put])
      generalize World.setCells _ _ _ _ = w1 at KR1 B1 ⊢
      clear B0 KR0
      rw [show (rF 0 0 cellsZ) = cellsR (Rf.readR t.data.toList) by rw [HE.out]; rfl] at KR1
      have hL := KR1.out.readS Tryz.underlying27 rfl (infoTRf18 (cellsR_sz _))
      go_wp2_with fail
      exact bodyPost_ret (v := .agg (cellsR (Rf.readR t.data.toList))) (results_cell Tryz.results41 (by rfl) hL) rfl ⟨rfl, B1.out⟩

set_option maxHeartbeats 8000000 in
set_option maxRecDepth 100000 in
theorem rfParseW (t u : ByteArray) (k n : Int) (f : Fil.Flt) (fs : ByteArray) (v q : Bool) (w : World)
    (HR : Hid (∀ W, Below w.heap.size w W → Calls Tryz.prog 41 #[.string t] W fun e w' => e = .returned (.agg (rF k n (cellsF f fs))) ∧ Below W.heap.size W w')) (HI : Hid (∀ W, Below w.heap.size w W → Calls Tryz.prog 14 #[.agg (rF k n (cellsF f fs)), .int .i64 4] W fun e w' => e = .returned (.bool v) ∧ Below W.heap.size W w')) (HT : Hid (∀ W, Below w.heap.size w W → Calls Tryz.prog 16 #[.agg (rF k n (cellsF f fs))] W fun e w' => e = .returned (.string u) ∧ Below W.heap.size W w')) (hq : (u.toList == t.toList) = q) :
    Calls Tryz.prog 18 #[.string t] w fun e w' => e = .returned (if (v && q) = true then .tuple #[.agg (rF k n (cellsF f fs)), .int .i64 0] else .tuple #[.agg (rF 0 0 cellsZ), .int .i64 3]) ∧ Below w.heap.size w w' := by

  have B0 := Lib.hid (Below.refl w.heap.size w)
  go_enter Tryz.func18, Tryz.ntmps18
  go_upto_region 0 with fail
  refine wp_region_lit ?_
  obtain ⟨w1, hw⟩ : ∃ v, v = w.alloc (.cells (rF 0 0 cellsZ) 27) := ⟨_, rfl⟩
  obtain ⟨pR, hp⟩ : ∃ v, v = w.heap.size := ⟨_, rfl⟩
  have B1 : Hid (Below w.heap.size w w1) := Lib.hid (by rw [hw]; exact B0.out.alloc B0.out.size _)
  have LER : Hid (w.heap.size ≤ pR) := Lib.hid (by rw [hp]; exact B0.out.size)
  have KR1 : Hid (Blk w1 pR (rF 0 0 cellsZ) 27) := Lib.hid (by rw [hw, hp]; exact Blk.new _ _ _)
  with_reducible refine wpList_runWV (some 2) (v := .pointer (some ⟨pR, 0, none⟩)) (w' := w1) ?_ ?_ ?_ ?_
  · rfl
  · rfl
  · rw [hw, hp]; (go_simp; (try rfl))
  simp only [pu, sB, s0, sS]
  clear hw hp
  clear B0
  (with_reducible refine rN (v := ?_) ?_ ?_ ?_); rotate_left; (· rfl); (· go_simp; (try with_reducible rfl)); simp only [pu, sB, s0, sS]
  go_upto_region 1 with fail
  refine wp_region_lit ?_
  (with_reducible refine rN (v := ?_) ?_ ?_ ?_); rotate_left; (· rfl); (· go_simp; (try with_reducible rfl)); simp only [pu, sB, s0, sS]
  go_wp2_with fail
  refine (HR.out _ B1.out).mono ?_
  rintro e w2 ⟨rfl, hb⟩
  have B2 := Lib.hid (B1.out.trans (hb.mono B1.out.size))
  have KR2 := Lib.hid (KR1.out.below hb KR1.out.lt)
  clear hb
  clear B1 KR1
  go_simp
  rename_i hKK
  refine hKK _ _ ?_
  clear hKK
  try simp only [pu, sB, s0, sS]
  obtain ⟨w3, hw⟩ : ∃ v, v = w2.alloc (.cells (rF 0 0 cellsZ) 27) := ⟨_, rfl⟩
  obtain ⟨pA, hp⟩ : ∃ v, v = w2.heap.size := ⟨_, rfl⟩
  have B3 : Hid (Below w.heap.size w w3) := Lib.hid (by rw [hw]; exact B2.out.alloc B2.out.size _)
  have LEA : Hid (w.heap.size ≤ pA) := Lib.hid (by rw [hp]; exact B2.out.size)
  have KR3 := Lib.hid (show Blk w3 pR (rF 0 0 cellsZ) 27 by rw [hw]; exact KR2.out.alloc _)
  have NERA : Hid (pR ≠ pA) := Lib.hid (by rw [hp]; exact Nat.ne_of_lt KR2.out.lt)
  have NEAR : Hid (pA ≠ pR) := Lib.hid (Ne.symm NERA.out)
  have KA3 : Hid (Blk w3 pA (rF 0 0 cellsZ) 27) := Lib.hid (by rw [hw, hp]; exact Blk.new _ _ _)
  with_reducible refine wpList_runWV (some 4) (v := .pointer (some ⟨pA, 0, none⟩)) (w' := w3) ?_ ?_ ?_ ?_
  · rfl
  · rfl
  · rw [hw, hp]; (go_simp; (try rfl))
  simp only [pu, sB, s0, sS]
  clear hw hp
  clear B2 KR2
  have KA4 := Lib.hid (KA3.out.stored (o := 0) (vs := (rF k n (cellsF f fs)).toList) (cs' := (rF k n (cellsF f fs))) (laid_all (rF_sz (cellsF_size f fs)) (rF_sz cellsZ_size)))
  have KR4 := Lib.hid (KR3.out.wholeElse ((rF k n (cellsF f fs)).toList) (o := 0) NERA.out)
  have B4 := Lib.hid (below_whole ((rF k n (cellsF f fs)).toList) (o := 0) B3.out LEA.out)
  with_reducible refine wpList_storeM (.tmp 4) (.tmp 6) (o := 0) (vs := (rF k n (cellsF f fs))) ?_ ?_ KA3.out ?_ (infoTRf18 (rF_sz (cellsF_size f fs))) (rF_one (cellsF_one f fs)) ?_
  · rfl
  · rfl
  · exact (fit_2 (rF_sz cellsZ_size) (rF_sz (cellsF_size f fs)) (by decide))
  (try simp only [Act.put])
  generalize World.setCells _ _ _ _ = w4 at KR4 KA4 B4 ⊢
  clear B3 KR3 KA3
  cases v with
  | false =>
    go_upto_region 2 with fail
    refine wp_region_lit ?_
    with_reducible refine wpList_loadS (.tmp 4) ?_ ?_ KA4.out Tryz.underlying27 ?_ (infoTRf18 (rF_sz (cellsF_size f fs))) ?_
    · rfl
    · rfl
    · rfl
    simp only [pu, sB, s0, sS]
    go_wp2_with fail
    refine (HI.out _ B4.out).mono ?_
    rintro e w5 ⟨rfl, hb⟩
    have B5 := Lib.hid (B4.out.trans (hb.mono B4.out.size))
    have KR5 := Lib.hid (KR4.out.below hb KR4.out.lt)
    have KA5 := Lib.hid (KA4.out.below hb KA4.out.lt)
    clear hb
    clear B4 KR4 KA4
    go_simp
    rename_i hKK
    refine hKK _ _ ?_
    clear hKK
    try simp only [pu, sB, s0, sS]
    iterate 2 ((with_reducible refine rN (v := .bool true) ?_ ?_ ?_); (· rfl); (· go_simp; (try with_reducible rfl)); simp only [pu, sB, s0, sS])
    iterate 4 ((with_reducible refine kN ?_ ?_); (· rfl); simp only [pu, sB, s0, sS])
    (with_reducible refine rN (v := .bool true) ?_ ?_ ?_); (· rfl); (· go_simp; (try with_reducible rfl)); simp only [pu, sB, s0, sS]
    go_upto_region 3 with fail
    refine wp_region_lit ?_
    (with_reducible refine rN (v := .agg (rF 0 0 cellsZ)) ?_ ?_ ?_); (· rfl); (· go_simp; rfl); simp only [pu, sB, s0, sS]
    have KR6 := Lib.hid (KR5.out.stored (o := 0) (vs := (rF 0 0 cellsZ).toList) (cs' := (rF 0 0 cellsZ)) (laid_all (rF_sz cellsZ_size) (rF_sz cellsZ_size)))
    have KA6 := Lib.hid (KA5.out.wholeElse ((rF 0 0 cellsZ).toList) (o := 0) NEAR.out)
    have B6 := Lib.hid (below_whole ((rF 0 0 cellsZ).toList) (o := 0) B5.out LER.out)
    with_reducible refine wpList_storeM (.tmp 2) (.tmp 16) (o := 0) (vs := (rF 0 0 cellsZ)) ?_ ?_ KR5.out ?_ (infoTRf18 (rF_sz cellsZ_size)) (rF_one cellsZ_one) ?_
    · rfl
    · rfl
    · exact (fit_2 (rF_sz cellsZ_size) (rF_sz cellsZ_size) (by decide))
    (try simp only [Act.put])
    generalize World.setCells _ _ _ _ = w6 at KR6 KA6 B6 ⊢
    clear B5 KR5 KA5
    (with_reducible refine rN (v := ?_) ?_ ?_ ?_); rotate_left; (· rfl); (· go_simp; (try with_reducible rfl)); simp only [pu, sB, s0, sS]
    have hL := KR6.out.readS Tryz.underlying27 rfl (infoTRf18 (rF_sz cellsZ_size))
    go_wp2_with fail
    exact bodyPost_ret (v := .tuple #[.agg (rF 0 0 cellsZ), .int .i64 3]) (results_cell_tmp Tryz.results18 (by rfl) (by rfl) hL) rfl ⟨rfl, B6.out⟩
  | true =>
    cases q with
    | false =>
      go_upto_region 2 with fail
      refine wp_region_lit ?_
      with_reducible refine wpList_loadS (.tmp 4) ?_ ?_ KA4.out Tryz.underlying27 ?_ (infoTRf18 (rF_sz (cellsF_size f fs))) ?_
      · rfl
      · rfl
      · rfl
      simp only [pu, sB, s0, sS]
      go_wp2_with fail
      refine (HI.out _ B4.out).mono ?_
      rintro e w5 ⟨rfl, hb⟩
      have B5 := Lib.hid (B4.out.trans (hb.mono B4.out.size))
      have KR5 := Lib.hid (KR4.out.below hb KR4.out.lt)
      have KA5 := Lib.hid (KA4.out.below hb KA4.out.lt)
      clear hb
      clear B4 KR4 KA4
      go_simp
      rename_i hKK
      refine hKK _ _ ?_
      clear hKK
      try simp only [pu, sB, s0, sS]
      iterate 2 ((with_reducible refine rN (v := .bool false) ?_ ?_ ?_); (· rfl); (· go_simp; (try with_reducible rfl)); simp only [pu, sB, s0, sS])
      with_reducible refine wpList_loadS (.tmp 4) ?_ ?_ KA5.out Tryz.underlying27 ?_ (infoTRf18 (rF_sz (cellsF_size f fs))) ?_
      · rfl
      · rfl
      · rfl
      simp only [pu, sB, s0, sS]
      go_wp2_with fail
      refine (HT.out _ B5.out).mono ?_
      rintro e w6 ⟨rfl, hb⟩
      have B6 := Lib.hid (B5.out.trans (hb.mono B5.out.size))
      have KR6 := Lib.hid (KR5.out.below hb KR5.out.lt)
      have KA6 := Lib.hid (KA5.out.below hb KA5.out.lt)
      clear hb
      clear B5 KR5 KA5
      go_simp
      rename_i hKK
      refine hKK _ _ ?_
      clear hKK
      try simp only [pu, sB, s0, sS]
      (with_reducible refine rN (v := ?_) ?_ ?_ ?_); rotate_left; (· rfl); (· go_simp; (try with_reducible rfl)); simp only [pu, sB, s0, sS]
      iterate 2 ((with_reducible refine rN (v := .bool true) ?_ ?_ ?_); (· rfl); (· go_simp; (try with_reducible rfl)); simp only [pu, sB, s0, sS])
      go_upto_region 3 with fail
      refine wp_region_lit ?_
      (with_reducible refine rN (v := .agg (rF 0 0 cellsZ)) ?_ ?_ ?_); (· rfl); (· go_simp; rfl); simp only [pu, sB, s0, sS]
      have KR7 := Lib.hid (KR6.out.stored (o := 0) (vs := (rF 0 0 cellsZ).toList) (cs' := (rF 0 0 cellsZ)) (laid_all (rF_sz cellsZ_size) (rF_sz cellsZ_size)))
      have KA7 := Lib.hid (KA6.out.wholeElse ((rF 0 0 cellsZ).toList) (o := 0) NEAR.out)
      have B7 := Lib.hid (below_whole ((rF 0 0 cellsZ).toList) (o := 0) B6.out LER.out)
      with_reducible refine wpList_storeM (.tmp 2) (.tmp 16) (o := 0) (vs := (rF 0 0 cellsZ)) ?_ ?_ KR6.out ?_ (infoTRf18 (rF_sz cellsZ_size)) (rF_one cellsZ_one) ?_
      · rfl
      · rfl
      · exact (fit_2 (rF_sz cellsZ_size) (rF_sz cellsZ_size) (by decide))
      (try simp only [Act.put])
      generalize World.setCells _ _ _ _ = w7 at KR7 KA7 B7 ⊢
      clear B6 KR6 KA6
      (with_reducible refine rN (v := ?_) ?_ ?_ ?_); rotate_left; (· rfl); (· go_simp; (try with_reducible rfl)); simp only [pu, sB, s0, sS]
      have hL := KR7.out.readS Tryz.underlying27 rfl (infoTRf18 (rF_sz cellsZ_size))
      go_wp2_with fail
      exact bodyPost_ret (v := .tuple #[.agg (rF 0 0 cellsZ), .int .i64 3]) (results_cell_tmp Tryz.results18 (by rfl) (by rfl) hL) rfl ⟨rfl, B7.out⟩
    | true =>
      go_upto_region 2 with fail
      refine wp_region_lit ?_
      with_reducible refine wpList_loadS (.tmp 4) ?_ ?_ KA4.out Tryz.underlying27 ?_ (infoTRf18 (rF_sz (cellsF_size f fs))) ?_
      · rfl
      · rfl
      · rfl
      simp only [pu, sB, s0, sS]
      go_wp2_with fail
      refine (HI.out _ B4.out).mono ?_
      rintro e w5 ⟨rfl, hb⟩
      have B5 := Lib.hid (B4.out.trans (hb.mono B4.out.size))
      have KR5 := Lib.hid (KR4.out.below hb KR4.out.lt)
      have KA5 := Lib.hid (KA4.out.below hb KA4.out.lt)
      clear hb
      clear B4 KR4 KA4
      go_simp
      rename_i hKK
      refine hKK _ _ ?_
      clear hKK
      try simp only [pu, sB, s0, sS]
      iterate 2 ((with_reducible refine rN (v := .bool false) ?_ ?_ ?_); (· rfl); (· go_simp; (try with_reducible rfl)); simp only [pu, sB, s0, sS])
      with_reducible refine wpList_loadS (.tmp 4) ?_ ?_ KA5.out Tryz.underlying27 ?_ (infoTRf18 (rF_sz (cellsF_size f fs))) ?_
      · rfl
      · rfl
      · rfl
      simp only [pu, sB, s0, sS]
      go_wp2_with fail
      refine (HT.out _ B5.out).mono ?_
      rintro e w6 ⟨rfl, hb⟩
      have B6 := Lib.hid (B5.out.trans (hb.mono B5.out.size))
      have KR6 := Lib.hid (KR5.out.below hb KR5.out.lt)
      have KA6 := Lib.hid (KA5.out.below hb KA5.out.lt)
      clear hb
      clear B5 KR5 KA5
      go_simp
      rename_i hKK
      refine hKK _ _ ?_
      clear hKK
      try simp only [pu, sB, s0, sS]
      (with_reducible refine rN (v := ?_) ?_ ?_ ?_); rotate_left; (· rfl); (· go_simp; (try with_reducible rfl)); simp only [pu, sB, s0, sS]
      iterate 2 ((with_reducible refine rN (v := .bool false) ?_ ?_ ?_); (· rfl); (· go_simp; (try with_reducible rfl)); simp only [pu, sB, s0, sS])
      go_upto_region 4 with fail
      refine wp_region_lit ?_
      with_reducible refine wpList_loadS (.tmp 4) ?_ ?_ KA6.out Tryz.underlying27 ?_ (infoTRf18 (rF_sz (cellsF_size f fs))) ?_
      · rfl
      · rfl
      · rfl
      simp only [pu, sB, s0, sS]
      have KR7 := Lib.hid (KR6.out.stored (o := 0) (vs := (rF k n (cellsF f fs)).toList) (cs' := (rF k n (cellsF f fs))) (laid_all (rF_sz (cellsF_size f fs)) (rF_sz cellsZ_size)))
      have KA7 := Lib.hid (KA6.out.wholeElse ((rF k n (cellsF f fs)).toList) (o := 0) NEAR.out)
      have B7 := Lib.hid (below_whole ((rF k n (cellsF f fs)).toList) (o := 0) B6.out LER.out)
      with_reducible refine wpList_storeM (.tmp 2) (.tmp 17) (o := 0) (vs := (rF k n (cellsF f fs))) ?_ ?_ KR6.out ?_ (infoTRf18 (rF_sz (cellsF_size f fs))) (rF_one (cellsF_one f fs)) ?_
      · rfl
      · rfl
      · exact (fit_2 (rF_sz cellsZ_size) (rF_sz (cellsF_size f fs)) (by decide))
      (try simp only [Act.put])
      generalize World.setCells _ _ _ _ = w7 at KR7 KA7 B7 ⊢
      clear B6 KR6 KA6
      (with_reducible refine rN (v := ?_) ?_ ?_ ?_); rotate_left; (· rfl); (· go_simp; (try with_reducible rfl)); simp only [pu, sB, s0, sS]
      have hL := KR7.out.readS Tryz.underlying27 rfl (infoTRf18 (rF_sz (cellsF_size f fs)))
      go_wp2_with fail
      exact bodyPost_ret (v := .tuple #[.agg (rF k n (cellsF f fs)), .int .i64 0]) (results_cell_tmp Tryz.results18 (by rfl) (by rfl) hL) rfl ⟨rfl, B7.out⟩
end Go.Proofs.YtbcgkeclmioeiaaGreatDoor
namespace Go.Proofs.YtbcgkeclmioeiaaGreatDoor
open Go.RowKit
open Wd (Bs)

theorem rsame_below {f : FuncId} {args : Array Value} {v : Value} {w : World} (h : Calls Tryz.prog f args w fun e w' => e = .returned v ∧ w' = w) : Calls Tryz.prog f args w fun e w' => e = .returned v ∧ Below w.heap.size w w' :=
  h.mono fun _ _ ⟨he, hw⟩ => ⟨he, hw ▸ Below.refl _ _⟩
theorem eqRf0 (k n : Int) (f : Fil.Flt) : eqRf ⟨k, n, f⟩ ⟨k, 0, Fil.zero⟩ = (decide (n = 0) && decide (f = Fil.zero)) := by
  rw [Bool.eq_iff_iff, eqRf_iff, Rf.Rd.mk.injEq]
  simp
set_option maxHeartbeats 1000000 in
theorem rfIs (k n : Int) (f : Fil.Flt) (fs : ByteArray) (hf : f.sub = fs.data.toList) (hs : fs.size ≤ maxLen) (sp : Int) (w : World) (hE : Env w) :
    Calls Tryz.prog 14 #[.agg (rF k n (cellsF f fs)), .int .i64 sp] w fun e w' => e = .returned (.bool (Rf.okB sp ⟨k, n, f⟩)) ∧ Below w.heap.size w w' := by
  refine rfIsIn k n f fs sp (min sp 4) (Rf.okB sp ⟨k, n, f⟩) (n == 0) (Fil.validB f) (decide (n < 1)) (decide (min sp 4 < n)) (eqRf ⟨k, 0, f⟩ ⟨k, 0, Fil.zero⟩) (eqRf ⟨k, n, f⟩ ⟨k, 0, Fil.zero⟩) w rfl (Lib.hid fun W hb => filIs f fs hf hs W (hE.below hb)) rfl rfl rfl (fun W => run_eq_ref k 0 k 0 f Fil.zero fs ⟨#[]⟩ hf rfl W) (fun W => run_eq_ref k n k 0 f Fil.zero fs ⟨#[]⟩ hf rfl W) (Lib.hid fun hk => ?_) (Lib.hid fun hk => ?_) (Lib.hid fun hk => ?_) (Lib.hid fun hk => ?_)
  · unfold Rf.okB
    rw [if_pos hk, Bool.and_comm]
    congr 1
  · unfold Rf.okB
    rw [if_neg (by simp only; omega), if_pos hk, eqRf0, Bool.eq_iff_iff]
    simp only [Bool.and_eq_true, decide_eq_true_eq, Bool.not_eq_true', decide_eq_false_iff_not]
    constructor
    · rintro ⟨⟨h1, h2⟩, h3⟩; refine ⟨by omega, by omega, ?_⟩; simp [h3]
    · rintro ⟨h1, h2, h3⟩; refine ⟨⟨by omega, by omega⟩, ?_⟩; simpa using h3
  · unfold Rf.okB
    rw [if_neg (by simp only; omega), if_neg (by simp only; omega), if_pos (by simp only; omega), eqRf0]
  · unfold Rf.okB
    rw [if_neg (by simp only; omega), if_neg (by simp only; omega), if_neg (by simp only; omega)]
theorem rf_four : ∀ k : Nat, k < 5 → (Lib.itoa (k : Int)).length ≤ 3 := by decide +kernel
theorem rawT_lenR {k n : Int} {f : Fil.Flt} (h : Rf.okB 4 ⟨k, n, f⟩ = true) : (Rf.rawT ⟨k, n, f⟩).length ≤ 5000 := by
  rcases Rf.ok_cases h with ⟨hk, hv, e⟩ | ⟨m, hk, h1, h2, _, e⟩ | ⟨hk, e⟩
  · have hl := textF_len hv
    unfold Rf.rawT
    rw [if_neg (by simp only at hk ⊢; omega), if_pos hk, List.length_append]
    simp only at hl ⊢
    simp
    omega
  · have hl := rf_four m (by omega)
    rw [Rf.Rd.mk.injEq] at e
    unfold Rf.rawT
    rw [if_pos hk]
    simp only
    rw [e.2.1]
    omega
  · unfold Rf.rawT
    simp only at hk ⊢
    rw [if_neg (by omega), if_neg (by omega)]
    simp
theorem rfTail (k n : Int) (f : Fil.Flt) (fs : ByteArray) (hf : f.sub = fs.data.toList) (hs : fs.size ≤ maxLen) (hok : Rf.okB 4 ⟨k, n, f⟩ = true) (w : World) (hE : Env w) :
    Calls Tryz.prog 37 #[.agg (rF k n (cellsF f fs))] w fun e w' => e = .returned (str (Rf.rawT ⟨k, n, f⟩)) ∧ Below w.heap.size w w' := by
  have hfl : (Fil.textF f).length ≤ 4000 := by
    cases hv : Fil.validB f with
    | true => exact textF_len hv
    | false => unfold Fil.textF; rw [hv]; simp
  have hn : 0 ≤ n ∧ n ≤ 4 := by
    rcases Rf.ok_cases hok with ⟨_, _, e⟩ | ⟨m, _, h1, h2, _, e⟩ | ⟨_, e⟩ <;> rw [Rf.Rd.mk.injEq] at e <;> omega
  refine rfTailIn k n f fs ⟨(Rf.rawT ⟨k, n, f⟩).toArray⟩ ⟨(Lib.itoa n).toArray⟩ ⟨(Fil.textF f).toArray⟩ w (Lib.hid fun W hb => numText n (by omega) (by omega) W (hE.below hb).num) (Lib.hid fun W hb => filText f fs hf hs W (hE.below hb)) (by rw [size_of]; omega) (Lib.hid fun hk => ?_) (Lib.hid fun hk => ?_) (Lib.hid fun h3 h4 => ?_)
  · unfold Rf.rawT
    rw [if_pos hk]
  · unfold Rf.rawT
    rw [if_neg (by simp only; omega), if_pos hk]
    exact bytes_one (by simp)
  · unfold Rf.rawT
    rw [if_neg h3, if_neg h4]
theorem heads_lenR : ∀ j, j < 9 → (Rf.headL j).length ≤ 9 := by decide
theorem rfText (k n : Int) (f : Fil.Flt) (fs : ByteArray) (hf : f.sub = fs.data.toList) (hs : fs.size ≤ maxLen) (w : World) (hE : Env w) :
    Calls Tryz.prog 16 #[.agg (rF k n (cellsF f fs))] w fun e w' => e = .returned (str (Rf.textR ⟨k, n, f⟩)) ∧ Below w.heap.size w w' := by
  have HI : Hid (∀ W, Below w.heap.size w W → _) := Lib.hid fun W hb => rfIs k n f fs hf hs 4 W (hE.below hb)
  cases hv : Rf.okB 4 ⟨k, n, f⟩ with
  | false =>
    rw [hv] at HI
    refine (rfTextBad k n f fs w HI).mono ?_
    rintro e w1 ⟨rfl, hb⟩
    exact ⟨by rw [Rf.textR_bad hv]; rfl, hb⟩
  | true =>
    rw [hv] at HI
    have hr := Rf.ok_range hv
    simp only at hr
    obtain ⟨j, rfl⟩ : ∃ j : Nat, k = (j : Int) := ⟨k.toNat, by omega⟩
    have hj : j < 9 := by omega
    refine (rfTextOk j n f fs ⟨(Rf.headL j).toArray⟩ ⟨(Rf.rawT ⟨j, n, f⟩).toArray⟩ w HI hj (headsRC_at hj) (Lib.hid fun W hb => rfTail j n f fs hf hs hv W (hE.below hb)) (by rw [size_of]; have := heads_lenR j hj; omega) (by rw [size_of]; have := rawT_lenR hv; omega)).mono ?_
    rintro e w1 ⟨rfl, hb⟩
    refine ⟨?_, hb⟩
    rw [Rf.textR_ok hv, str_of (l := Rf.raw ⟨j, n, f⟩) (by simp [Rf.raw])]
/-! Parse -/
theorem parseV_subR (s : Bs) : (Fil.parseV s).sub.length ≤ 32 := by
  rcases Fil.parse_cases s with ⟨h, _⟩ | ⟨g, h1, _, h3, _⟩
  · rw [h]; decide
  · rw [h3]; exact sub_len (Fil.valid_of h1).sub
theorem readR_short (s : Bs) : (Rf.readR s).f.sub.length ≤ 32 := by
  have hz : Fil.zero.sub.length ≤ 32 := by decide
  unfold Rf.readR
  split
  · unfold Rf.tailR
    split
    · exact hz
    · split
      · exact parseV_subR _
      · exact hz
  · exact hz
theorem pV_short (s : Bs) : (Rf.pV s).f.sub.length ≤ 32 := by
  unfold Rf.pV
  split
  · exact readR_short s
  · decide
theorem rfIsX (x : Rf.Rd) (h : x.f.sub.length ≤ 1000000) (sp : Int) (w : World) (hE : Env w) : Calls Tryz.prog 14 #[.agg (cellsR x), .int .i64 sp] w fun e w' => e = .returned (.bool (Rf.okB sp x)) ∧ Below w.heap.size w w' :=
  rfIs x.k x.n x.f (fsOf x.f) (fsOf_sub x.f) (by unfold fsOf; rw [size_of]; unfold maxLen; omega) sp w hE
theorem rfTextX (x : Rf.Rd) (h : x.f.sub.length ≤ 1000000) (w : World) (hE : Env w) : Calls Tryz.prog 16 #[.agg (cellsR x)] w fun e w' => e = .returned (str (Rf.textR x)) ∧ Below w.heap.size w w' :=
  rfText x.k x.n x.f (fsOf x.f) (fsOf_sub x.f) (by unfold fsOf; rw [size_of]; unfold maxLen; omega) w hE
theorem rfReadTail (j : Nat) (r : ByteArray) (hs : r.size ≤ 1000000) (w : World) (hE : Env w) :
    Calls Tryz.prog 85 #[.int .i64 (j : Int), .string r] w fun e w' => e = .returned (.agg (cellsR (Rf.tailR j r.data.toList))) ∧ Below w.heap.size w w' := by
  have hsl : r.data.toList.length = r.size := Array.length_toList
  have htl : (Lib.trimSuffix r.data.toList [41]).length ≤ 1000000 := by
    unfold Lib.trimSuffix
    split
    · rw [List.length_take]; omega
    · omega
  exact rfRdTIn j r ⟨(Lib.trimSuffix r.data.toList [41]).toArray⟩ _ _ _ _ w (Lib.hid fun W hb => numNumber r (by omega) W (hE.below hb).num) rfl
    (Lib.hid fun W _ => rsame_below (Tryz.strings_TrimSuffix r ⟨#[41]⟩ W (by omega))) (Lib.hid fun W hb => filParseM ⟨(Lib.trimSuffix r.data.toList [41]).toArray⟩ (by rw [size_of]; exact htl) W (hE.below hb)) rfl
theorem rfRead (t : ByteArray) (hs : t.size ≤ 1000000) (w : World) (hE : Env w) :
    Calls Tryz.prog 41 #[.string t] w fun e w' => e = .returned (.agg (cellsR (Rf.readR t.data.toList))) ∧ Below w.heap.size w w' :=
  rfReadW t w hs (Lib.hid fun j W _ => cutPre t ⟨(Rf.headL j).toArray⟩ W) (Lib.hid fun j r W _ hr _ _ _ hb => rfReadTail j r hr W (hE.below hb))
theorem rfParse (t : ByteArray) (hs : t.size ≤ 1000000) (w : World) (hE : Env w) :
    Calls Tryz.prog 18 #[.string t] w fun e w' => e = .returned (.tuple #[.agg (cellsR (Rf.pV t.data.toList)), .int .i64 (Rf.pE t.data.toList)]) ∧ Below w.heap.size w w' := by
  obtain ⟨x, hx⟩ : ∃ x, Rf.readR t.data.toList = x := ⟨_, rfl⟩
  have hl := readR_short t.data.toList
  rw [hx] at hl
  have HR : Hid (∀ W, Below w.heap.size w W → _) := Lib.hid fun W hb => rfRead t hs W (hE.below hb)
  obtain ⟨u, hu, eu⟩ := exists_bytes (Rf.textR x)
  rw [hx] at HR
  have HT : Hid (∀ W, Below w.heap.size w W → _) := Lib.hid fun W hb => rfTextX x (by omega) W (hE.below hb)
  rw [eu] at HT
  have HI : Hid (∀ W, Below w.heap.size w W → _) := Lib.hid fun W hb => rfIsX x (by omega) 4 W (hE.below hb)
  refine (rfParseW t u x.k x.n x.f (fsOf x.f) (Rf.okB 4 x) (Rf.textR x == t.data.toList) w HR HI HT (by rw [Lib.toList_data, Lib.toList_data, hu])).mono ?_
  rintro e w1 ⟨rfl, hb⟩
  refine ⟨?_, hb⟩
  have hp : (Rf.okB 4 x && (Rf.textR x == t.data.toList)) = Rf.pB t.data.toList := by unfold Rf.pB; rw [hx]
  rw [hp]
  cases hB : Rf.pB t.data.toList with
  | true =>
    rw [if_pos rfl, (Rf.p_yes hB).2.2.1, (Rf.p_yes hB).2.2.2, hx]
    rfl
  | false =>
    rw [if_neg (by decide), (Rf.p_no hB).1, (Rf.p_no hB).2]
    rfl
end Go.Proofs.YtbcgkeclmioeiaaGreatDoor
namespace Go.Proofs.YtbcgkeclmioeiaaGreatDoor
open Go.RowKit
open Wd (Bs)

def twoF : Fil.Flt := { Fil.zero with who := 2, types := 1 }
set_option maxHeartbeats 8000000 in
set_option maxRecDepth 100000 in
theorem aliveWalkR (w : World)
    (H1 : Hid (∀ W, Below w.heap.size w W → Calls Tryz.prog 18 #[.string ⟨#[116, 97, 114, 103, 101, 116, 49]⟩] W fun e w' => e = .returned (.tuple #[.agg (rF 3 1 cellsZ), .int .i64 0]) ∧ Below W.heap.size W w')) (H2 : Hid (∀ W, Below w.heap.size w W → Calls Tryz.prog 18 #[.string ⟨#[101, 97, 99, 104, 40, 116, 104, 101, 105, 114, 115, 32, 99, 114, 101, 97, 116, 117, 114, 101, 41]⟩] W fun e w' => e = .returned (.tuple #[.agg (rF 4 0 (cellsF twoF ⟨#[]⟩)), .int .i64 0]) ∧ Below W.heap.size W w')) (H3 : Hid (∀ W, Below w.heap.size w W → Calls Tryz.prog 18 #[.string ⟨#[116, 97, 114, 103, 101, 116, 53]⟩] W fun e w' => e = .returned (.tuple #[.agg (rF 0 0 cellsZ), .int .i64 3]) ∧ Below W.heap.size W w')) (HT : Hid (∀ W, Below w.heap.size w W → Calls Tryz.prog 16 #[.agg (rF 8 4 cellsZ)] W fun e w' => e = .returned (.string ⟨#[111, 119, 110, 101, 114, 52]⟩) ∧ Below W.heap.size W w')) (H5 : Hid (∀ W, Below w.heap.size w W → Calls Tryz.prog 14 #[.agg (rF 3 1 cellsZ), .int .i64 0] W fun e w' => e = .returned (.bool false) ∧ Below W.heap.size W w')) (H6 : Hid (∀ W, Below w.heap.size w W → Calls Tryz.prog 14 #[.agg (rF 3 1 cellsZ), .int .i64 1] W fun e w' => e = .returned (.bool true) ∧ Below W.heap.size W w')) (hq : ∀ W : World, (Op.equalIn 10000 27 (.agg (rF 3 1 cellsZ)) (.agg (rF 3 1 cellsZ))).run Tryz.prog W = .ok true W) :
    Calls Tryz.prog 13 #[] w fun e w' => e = .returned (.bool true) ∧ Below w.heap.size w w' := by

  have B0 := Lib.hid (Below.refl w.heap.size w)
  go_enter Tryz.func13, Tryz.ntmps13
  go_upto_region 0 with fail
  refine wp_region_lit ?_
  (with_reducible refine rN (v := .bool false) ?_ ?_ ?_); (· rfl); (· go_simp; (try with_reducible rfl)); simp only [pu, sB, s0]
  go_upto_region 1 with fail
  refine wp_region_lit ?_
  go_wp2_with fail
  refine (H1.out _ B0.out).mono ?_
  rintro e w1 ⟨rfl, hb⟩
  have B1 := Lib.hid (B0.out.trans (hb.mono B0.out.size))
  clear hb
  clear B0
  go_simp
  rename_i hKK
  refine hKK _ _ ?_
  clear hKK
  try simp only [pu, sB, s0, sS]
  (with_reducible refine rN (v := ?_) ?_ ?_ ?_); rotate_left; (· rfl); (· go_simp; (try with_reducible rfl)); simp only [pu, sB, s0, sS]
  (with_reducible refine rN (v := .agg (rF 3 1 cellsZ)) ?_ ?_ ?_); (· rfl); (· go_simp; (try with_reducible rfl)); simp only [pu, sB, s0, sS]
  (with_reducible refine rN (v := ?_) ?_ ?_ ?_); rotate_left; (· rfl); (· go_simp; (try with_reducible rfl)); simp only [pu, sB, s0, sS]
  obtain ⟨w2, hw⟩ : ∃ v, v = w1.alloc (.cells (rF 0 0 cellsZ) 27) := ⟨_, rfl⟩
  obtain ⟨pP, hp⟩ : ∃ v, v = w1.heap.size := ⟨_, rfl⟩
  have B2 : Hid (Below w.heap.size w w2) := Lib.hid (by rw [hw]; exact B1.out.alloc B1.out.size _)
  have LEP : Hid (w.heap.size ≤ pP) := Lib.hid (by rw [hp]; exact B1.out.size)
  have KP2 : Hid (Blk w2 pP (rF 0 0 cellsZ) 27) := Lib.hid (by rw [hw, hp]; exact Blk.new _ _ _)
  with_reducible refine wpList_runWV (some 1) (v := .pointer (some ⟨pP, 0, none⟩)) (w' := w2) ?_ ?_ ?_ ?_
  · rfl
  · rfl
  · rw [hw, hp]; (go_simp; (try rfl))
  simp only [pu, sB, s0, sS]
  clear hw hp
  clear B1
  have KP3 := Lib.hid (KP2.out.stored (o := 0) (vs := (rF 3 1 cellsZ).toList) (cs' := (rF 3 1 cellsZ)) (laid_all (rF_sz cellsZ_size) (rF_sz cellsZ_size)))
  have B3 := Lib.hid (below_whole ((rF 3 1 cellsZ).toList) (o := 0) B2.out LEP.out)
  with_reducible refine wpList_storeM (.tmp 1) (.tmp 9) (o := 0) (vs := (rF 3 1 cellsZ)) ?_ ?_ KP2.out ?_ (infoTRf18 (rF_sz cellsZ_size)) (rF_one cellsZ_one) ?_
  · rfl
  · rfl
  · exact (fit_2 (rF_sz cellsZ_size) (rF_sz cellsZ_size) (by decide))
  (try simp only [Act.put])
  generalize World.setCells _ _ _ _ = w3 at KP3 B3 ⊢
  clear B2 KP2
  (with_reducible refine rN (v := ?_) ?_ ?_ ?_); rotate_left; (· rfl); (· go_simp; (try with_reducible rfl)); simp only [pu, sB, s0, sS]
  go_upto_region 2 with fail
  refine wp_region_lit ?_
  go_wp2_with fail
  refine (H2.out _ B3.out).mono ?_
  rintro e w4 ⟨rfl, hb⟩
  have B4 := Lib.hid (B3.out.trans (hb.mono B3.out.size))
  have KP4 := Lib.hid (KP3.out.below hb KP3.out.lt)
  clear hb
  clear B3 KP3
  go_simp
  rename_i hKK
  refine hKK _ _ ?_
  clear hKK
  try simp only [pu, sB, s0, sS]
  (with_reducible refine rN (v := ?_) ?_ ?_ ?_); rotate_left; (· rfl); (· go_simp; (try with_reducible rfl)); simp only [pu, sB, s0, sS]
  (with_reducible refine rN (v := .agg (rF 4 0 (cellsF twoF ⟨#[]⟩))) ?_ ?_ ?_); (· rfl); (· go_simp; (try with_reducible rfl)); simp only [pu, sB, s0, sS]
  (with_reducible refine rN (v := ?_) ?_ ?_ ?_); rotate_left; (· rfl); (· go_simp; (try with_reducible rfl)); simp only [pu, sB, s0, sS]
  obtain ⟨w5, hw⟩ : ∃ v, v = w4.alloc (.cells (rF 0 0 cellsZ) 27) := ⟨_, rfl⟩
  obtain ⟨pQ, hp⟩ : ∃ v, v = w4.heap.size := ⟨_, rfl⟩
  have B5 : Hid (Below w.heap.size w w5) := Lib.hid (by rw [hw]; exact B4.out.alloc B4.out.size _)
  have LEQ : Hid (w.heap.size ≤ pQ) := Lib.hid (by rw [hp]; exact B4.out.size)
  have KP5 := Lib.hid (show Blk w5 pP (rF 3 1 cellsZ) 27 by rw [hw]; exact KP4.out.alloc _)
  have NEPQ : Hid (pP ≠ pQ) := Lib.hid (by rw [hp]; exact Nat.ne_of_lt KP4.out.lt)
  have NEQP : Hid (pQ ≠ pP) := Lib.hid (Ne.symm NEPQ.out)
  have KQ5 : Hid (Blk w5 pQ (rF 0 0 cellsZ) 27) := Lib.hid (by rw [hw, hp]; exact Blk.new _ _ _)
  with_reducible refine wpList_runWV (some 3) (v := .pointer (some ⟨pQ, 0, none⟩)) (w' := w5) ?_ ?_ ?_ ?_
  · rfl
  · rfl
  · rw [hw, hp]; (go_simp; (try rfl))
  simp only [pu, sB, s0, sS]
  clear hw hp
  clear B4 KP4
  have KQ6 := Lib.hid (KQ5.out.stored (o := 0) (vs := (rF 4 0 (cellsF twoF ⟨#[]⟩)).toList) (cs' := (rF 4 0 (cellsF twoF ⟨#[]⟩))) (laid_all (rF_sz (cellsF_size _ _)) (rF_sz cellsZ_size)))
  have KP6 := Lib.hid (KP5.out.wholeElse ((rF 4 0 (cellsF twoF ⟨#[]⟩)).toList) (o := 0) NEPQ.out)
  have B6 := Lib.hid (below_whole ((rF 4 0 (cellsF twoF ⟨#[]⟩)).toList) (o := 0) B5.out LEQ.out)
  with_reducible refine wpList_storeM (.tmp 3) (.tmp 13) (o := 0) (vs := (rF 4 0 (cellsF twoF ⟨#[]⟩))) ?_ ?_ KQ5.out ?_ (infoTRf18 (rF_sz (cellsF_size _ _))) (rF_one (cellsF_one _ _)) ?_
  · rfl
  · rfl
  · exact (fit_2 (rF_sz cellsZ_size) (rF_sz (cellsF_size _ _)) (by decide))
  (try simp only [Act.put])
  generalize World.setCells _ _ _ _ = w6 at KP6 KQ6 B6 ⊢
  clear B5 KP5 KQ5
  (with_reducible refine rN (v := ?_) ?_ ?_ ?_); rotate_left; (· rfl); (· go_simp; (try with_reducible rfl)); simp only [pu, sB, s0, sS]
  go_upto_region 3 with fail
  refine wp_region_lit ?_
  go_wp2_with fail
  refine (H3.out _ B6.out).mono ?_
  rintro e w7 ⟨rfl, hb⟩
  have B7 := Lib.hid (B6.out.trans (hb.mono B6.out.size))
  have KP7 := Lib.hid (KP6.out.below hb KP6.out.lt)
  have KQ7 := Lib.hid (KQ6.out.below hb KQ6.out.lt)
  clear hb
  clear B6 KP6 KQ6
  go_simp
  rename_i hKK
  refine hKK _ _ ?_
  clear hKK
  try simp only [pu, sB, s0, sS]
  (with_reducible refine rN (v := ?_) ?_ ?_ ?_); rotate_left; (· rfl); (· go_simp; (try with_reducible rfl)); simp only [pu, sB, s0, sS]
  (with_reducible refine rN (v := .agg (rF 0 0 cellsZ)) ?_ ?_ ?_); (· rfl); (· go_simp; (try with_reducible rfl)); simp only [pu, sB, s0, sS]
  (with_reducible refine rN (v := ?_) ?_ ?_ ?_); rotate_left; (· rfl); (· go_simp; (try with_reducible rfl)); simp only [pu, sB, s0, sS]
  obtain ⟨w8, hw⟩ : ∃ v, v = w7.alloc (.cells (rF 0 0 cellsZ) 27) := ⟨_, rfl⟩
  obtain ⟨pR, hp⟩ : ∃ v, v = w7.heap.size := ⟨_, rfl⟩
  have B8 : Hid (Below w.heap.size w w8) := Lib.hid (by rw [hw]; exact B7.out.alloc B7.out.size _)
  have LER : Hid (w.heap.size ≤ pR) := Lib.hid (by rw [hp]; exact B7.out.size)
  have KP8 := Lib.hid (show Blk w8 pP (rF 3 1 cellsZ) 27 by rw [hw]; exact KP7.out.alloc _)
  have NEPR : Hid (pP ≠ pR) := Lib.hid (by rw [hp]; exact Nat.ne_of_lt KP7.out.lt)
  have NERP : Hid (pR ≠ pP) := Lib.hid (Ne.symm NEPR.out)
  have KQ8 := Lib.hid (show Blk w8 pQ (rF 4 0 (cellsF twoF ⟨#[]⟩)) 27 by rw [hw]; exact KQ7.out.alloc _)
  have NEQR : Hid (pQ ≠ pR) := Lib.hid (by rw [hp]; exact Nat.ne_of_lt KQ7.out.lt)
  have NERQ : Hid (pR ≠ pQ) := Lib.hid (Ne.symm NEQR.out)
  have KR8 : Hid (Blk w8 pR (rF 0 0 cellsZ) 27) := Lib.hid (by rw [hw, hp]; exact Blk.new _ _ _)
  with_reducible refine wpList_runWV (some 5) (v := .pointer (some ⟨pR, 0, none⟩)) (w' := w8) ?_ ?_ ?_ ?_
  · rfl
  · rfl
  · rw [hw, hp]; (go_simp; (try rfl))
  simp only [pu, sB, s0, sS]
  clear hw hp
  clear B7 KP7 KQ7
  have KR9 := Lib.hid (KR8.out.stored (o := 0) (vs := (rF 0 0 cellsZ).toList) (cs' := (rF 0 0 cellsZ)) (laid_all (rF_sz cellsZ_size) (rF_sz cellsZ_size)))
  have KP9 := Lib.hid (KP8.out.wholeElse ((rF 0 0 cellsZ).toList) (o := 0) NEPR.out)
  have KQ9 := Lib.hid (KQ8.out.wholeElse ((rF 0 0 cellsZ).toList) (o := 0) NEQR.out)
  have B9 := Lib.hid (below_whole ((rF 0 0 cellsZ).toList) (o := 0) B8.out LER.out)
  with_reducible refine wpList_storeM (.tmp 5) (.tmp 17) (o := 0) (vs := (rF 0 0 cellsZ)) ?_ ?_ KR8.out ?_ (infoTRf18 (rF_sz cellsZ_size)) (rF_one cellsZ_one) ?_
  · rfl
  · rfl
  · exact (fit_2 (rF_sz cellsZ_size) (rF_sz cellsZ_size) (by decide))
  (try simp only [Act.put])
  generalize World.setCells _ _ _ _ = w9 at KP9 KQ9 KR9 B9 ⊢
  clear B8 KP8 KQ8 KR8
  (with_reducible refine rN (v := ?_) ?_ ?_ ?_); rotate_left; (· rfl); (· go_simp; (try with_reducible rfl)); simp only [pu, sB, s0, sS]
  go_upto_region 4 with fail
  refine wp_region_lit ?_
  (with_reducible refine rN (v := ?_) ?_ ?_ ?_); rotate_left; (· rfl); (· go_simp; (try with_reducible rfl)); simp only [pu, sB, s0, sS]
  iterate 2 ((with_reducible refine rN (v := .bool true) ?_ ?_ ?_); (· rfl); (· go_simp; (try with_reducible rfl)); simp only [pu, sB, s0, sS])
  with_reducible refine wpList_loadS (.tmp 1) ?_ ?_ KP9.out Tryz.underlying27 ?_ (infoTRf18 (rF_sz cellsZ_size)) ?_
  · rfl
  · rfl
  · rfl
  simp only [pu, sB, s0, sS]
  (with_reducible refine rN (v := .agg (rF 3 1 cellsZ)) ?_ ?_ ?_); (· rfl); (· refine run_buildOp _ [(0, .int .i64 3), (1, .int .i64 1)] rfl ?_ (builtR_kn 3 1); rfl); simp only [pu, sB, s0, sS]
  iterate 3 ((with_reducible refine rN (v := .bool true) ?_ ?_ ?_); (· rfl); (· go_simp; (try with_reducible rfl)); simp only [pu, sB, s0, sS])
  (with_reducible refine rN (v := ?_) ?_ ?_ ?_); rotate_left; (· rfl); (· go_simp; (try with_reducible rfl)); simp only [pu, sB, s0, sS]
  iterate 3 ((with_reducible refine rN (v := .bool true) ?_ ?_ ?_); (· rfl); (· go_simp; (try with_reducible rfl)); simp only [pu, sB, s0, sS])
  (with_reducible refine rN (v := .pointer (some ⟨pQ, 0, none⟩)) ?_ ?_ ?_); (· rfl); (· go_simp; (try rfl)); simp only [pu, sB, s0, sS]
  with_reducible refine wpList_loadV (.tmp 31) (j := 0) (v := .int .i64 4) ?_ ?_ KQ9.out ?_ Tryz.underlying3 ?_ ?_
  · rfl
  · rfl
  · exact rF_0
  · rfl
  simp only [pu, sB, s0, sS]
  iterate 3 ((with_reducible refine rN (v := .bool true) ?_ ?_ ?_); (· rfl); (· go_simp; (try with_reducible rfl)); simp only [pu, sB, s0, sS])
  (with_reducible refine rN (v := .pointer (some ⟨pQ, 2, none⟩)) ?_ ?_ ?_); (· rfl); (· go_simp; (try rfl)); simp only [pu, sB, s0, sS]
  (with_reducible refine rN (v := .pointer (some ⟨pQ, 3, none⟩)) ?_ ?_ ?_); (· rfl); (· go_simp; (try rfl)); simp only [pu, sB, s0, sS]
  with_reducible refine wpList_loadV (.tmp 37) (j := 3) (v := .int .i64 2) ?_ ?_ KQ9.out ?_ Tryz.underlying3 ?_ ?_
  · rfl
  · rfl
  · exact (rF_f 1 _ rfl)
  · rfl
  simp only [pu, sB, s0, sS]
  iterate 3 ((with_reducible refine rN (v := .bool true) ?_ ?_ ?_); (· rfl); (· go_simp; (try with_reducible rfl)); simp only [pu, sB, s0, sS])
  (with_reducible refine rN (v := ?_) ?_ ?_ ?_); rotate_left; (· rfl); (· go_simp; (try with_reducible rfl)); simp only [pu, sB, s0, sS]
  iterate 3 ((with_reducible refine rN (v := .bool true) ?_ ?_ ?_); (· rfl); (· go_simp; (try with_reducible rfl)); simp only [pu, sB, s0, sS])
  (with_reducible refine rN (v := .agg (rF 8 4 cellsZ)) ?_ ?_ ?_); (· rfl); (· refine run_buildOp _ [(0, .int .i64 8), (1, .int .i64 4)] rfl ?_ (builtR_kn 8 4); rfl); simp only [pu, sB, s0, sS]
  go_wp2_with fail
  refine (HT.out _ B9.out).mono ?_
  rintro e w10 ⟨rfl, hb⟩
  have B10 := Lib.hid (B9.out.trans (hb.mono B9.out.size))
  have KP10 := Lib.hid (KP9.out.below hb KP9.out.lt)
  have KQ10 := Lib.hid (KQ9.out.below hb KQ9.out.lt)
  have KR10 := Lib.hid (KR9.out.below hb KR9.out.lt)
  clear hb
  clear B9 KP9 KQ9 KR9
  go_simp
  rename_i hKK
  refine hKK _ _ ?_
  clear hKK
  try simp only [pu, sB, s0, sS]
  iterate 3 ((with_reducible refine rN (v := .bool true) ?_ ?_ ?_); (· rfl); (· go_simp; (try with_reducible rfl)); simp only [pu, sB, s0, sS])
  with_reducible refine wpList_loadS (.tmp 1) ?_ ?_ KP10.out Tryz.underlying27 ?_ (infoTRf18 (rF_sz cellsZ_size)) ?_
  · rfl
  · rfl
  · rfl
  simp only [pu, sB, s0, sS]
  go_wp2_with fail
  refine (H5.out _ B10.out).mono ?_
  rintro e w11 ⟨rfl, hb⟩
  have B11 := Lib.hid (B10.out.trans (hb.mono B10.out.size))
  have KP11 := Lib.hid (KP10.out.below hb KP10.out.lt)
  have KQ11 := Lib.hid (KQ10.out.below hb KQ10.out.lt)
  have KR11 := Lib.hid (KR10.out.below hb KR10.out.lt)
  clear hb
  clear B10 KP10 KQ10 KR10
  go_simp
  rename_i hKK
  refine hKK _ _ ?_
  clear hKK
  try simp only [pu, sB, s0, sS]
  iterate 3 ((with_reducible refine rN (v := .bool true) ?_ ?_ ?_); (· rfl); (· go_simp; (try with_reducible rfl)); simp only [pu, sB, s0, sS])
  with_reducible refine wpList_loadS (.tmp 1) ?_ ?_ KP11.out Tryz.underlying27 ?_ (infoTRf18 (rF_sz cellsZ_size)) ?_
  · rfl
  · rfl
  · rfl
  simp only [pu, sB, s0, sS]
  go_wp2_with fail
  refine (H6.out _ B11.out).mono ?_
  rintro e w12 ⟨rfl, hb⟩
  have B12 := Lib.hid (B11.out.trans (hb.mono B11.out.size))
  have KP12 := Lib.hid (KP11.out.below hb KP11.out.lt)
  have KQ12 := Lib.hid (KQ11.out.below hb KQ11.out.lt)
  have KR12 := Lib.hid (KR11.out.below hb KR11.out.lt)
  clear hb
  clear B11 KP11 KQ11 KR11
  go_simp
  rename_i hKK
  refine hKK _ _ ?_
  clear hKK
  try simp only [pu, sB, s0, sS]
  (with_reducible refine rN (v := .bool true) ?_ ?_ ?_); (· rfl); (· go_simp; (try with_reducible rfl)); simp only [pu, sB, s0, sS]
  (with_reducible refine rN (v := .bool true) ?_ ?_ ?_); (· rfl); (· go_simp; (try with_reducible rfl)); simp only [pu, sB, s0]
  go_wp2_with fail
  go_ret
  exact ⟨rfl, B12.out⟩
end Go.Proofs.YtbcgkeclmioeiaaGreatDoor
namespace Go.Proofs.YtbcgkeclmioeiaaGreatDoor
open Go.RowKit
open Wd (Bs)

theorem valid_twoF : Fil.validB twoF = true := by
  unfold Fil.validB
  rw [show Fil.subB twoF.sub = true from sub_nil]
  decide +kernel
theorem text_twoF : Fil.textF twoF = [116, 104, 101, 105, 114, 115, 32, 99, 114, 101, 97, 116, 117, 114, 101] := by
  rw [Fil.textF_valid valid_twoF]
  decide +kernel
theorem rok31 (sp : Int) : Rf.okB sp ⟨3, 1, Fil.zero⟩ = decide (1 ≤ sp) := by
  rw [Bool.eq_iff_iff]
  unfold Rf.okB
  rw [if_neg (by decide), if_pos (.inl rfl)]
  simp only [Bool.and_eq_true, decide_eq_true_eq]
  constructor
  · rintro ⟨⟨_, h⟩, _⟩; omega
  · intro h; exact ⟨⟨by decide, by omega⟩, trivial⟩
theorem rok84 : Rf.okB 4 ⟨8, 4, Fil.zero⟩ = true := by
  unfold Rf.okB
  rw [if_neg (by decide), if_pos (.inr rfl)]
  decide
theorem ritoa1 : Lib.itoa 1 = [49] := by decide +kernel
theorem ritoa4 : Lib.itoa 4 = [52] := by decide +kernel
theorem rtext31 : Rf.textR ⟨3, 1, Fil.zero⟩ = [116, 97, 114, 103, 101, 116, 49] := by
  rw [Rf.textR_ok (by rw [rok31]; decide)]
  simp [Rf.raw, Rf.rawT, ritoa1, Rf.headL, Rf.headsL, Rf.sTarget]
theorem rtext84 : Rf.textR ⟨8, 4, Fil.zero⟩ = [111, 119, 110, 101, 114, 52] := by
  rw [Rf.textR_ok rok84]
  simp [Rf.raw, Rf.rawT, ritoa4, Rf.headL, Rf.headsL, Rf.sOwner]
theorem rtext4 : Rf.textR ⟨4, 0, twoF⟩ = [101, 97, 99, 104, 40, 116, 104, 101, 105, 114, 115, 32, 99, 114, 101, 97, 116, 117, 114, 101, 41] := by
  rw [Rf.textR_ok (Rf.each_ok valid_twoF), Rf.each_raw, text_twoF]
  rfl
theorem rno5 : Rf.pB [116, 97, 114, 103, 101, 116, 53] = false := by
  have h1 : Rf.readR [116, 97, 114, 103, 101, 116, 53] = ⟨3, 5, Fil.zero⟩ := by
    rw [Rf.read_hit (k := 3) (by decide) (fun j hj => by
      match j, hj with
      | 0, _ => decide
      | 1, _ => decide
      | 2, _ => decide) (by decide), Rf.tail_3 (.inl rfl)]
    rw [show Fil.num (List.drop (Rf.headL 3).length [116, 97, 114, 103, 101, 116, 53]) = 5 by decide +kernel]
    rfl
  unfold Rf.pB
  rw [h1]
  have h2 : Rf.okB 4 ⟨3, 5, Fil.zero⟩ = false := by
    unfold Rf.okB
    rw [if_neg (by decide), if_pos (.inl rfl)]
    decide
  rw [h2]
  rfl
theorem rfAlive (w : World) (hE : Env w) : Calls Tryz.prog 13 #[] w fun e w' => e = .returned (.bool true) ∧ Below w.heap.size w w' := by
  have P1 := Rf.p_text (x := ⟨3, 1, Fil.zero⟩) (by rw [rok31]; decide)
  rw [rtext31] at P1
  have P2 := Rf.p_text (x := ⟨4, 0, twoF⟩) (Rf.each_ok valid_twoF)
  rw [rtext4] at P2
  have P3 := Rf.p_no rno5
  refine aliveWalkR w (Lib.hid fun W hb => ?_) (Lib.hid fun W hb => ?_) (Lib.hid fun W hb => ?_) (Lib.hid fun W hb => ?_) (Lib.hid fun W hb => ?_) (Lib.hid fun W hb => ?_) (fun W => run_eq_refS 3 1 Fil.zero ⟨#[]⟩ rfl W)
  · have := rfParse ⟨#[116, 97, 114, 103, 101, 116, 49]⟩ (by decide) W (hE.below hb)
    rw [show (ByteArray.mk #[116, 97, 114, 103, 101, 116, 49]).data.toList = [116, 97, 114, 103, 101, 116, 49] from rfl, P1.1, P1.2] at this
    exact this
  · have := rfParse ⟨#[101, 97, 99, 104, 40, 116, 104, 101, 105, 114, 115, 32, 99, 114, 101, 97, 116, 117, 114, 101, 41]⟩ (by decide) W (hE.below hb)
    rw [show (ByteArray.mk #[101, 97, 99, 104, 40, 116, 104, 101, 105, 114, 115, 32, 99, 114, 101, 97, 116, 117, 114, 101, 41]).data.toList = [101, 97, 99, 104, 40, 116, 104, 101, 105, 114, 115, 32, 99, 114, 101, 97, 116, 117, 114, 101, 41] from rfl, P2.1, P2.2] at this
    exact this
  · have := rfParse ⟨#[116, 97, 114, 103, 101, 116, 53]⟩ (by decide) W (hE.below hb)
    rw [show (ByteArray.mk #[116, 97, 114, 103, 101, 116, 53]).data.toList = [116, 97, 114, 103, 101, 116, 53] from rfl, P3.1, P3.2] at this
    exact this
  · have := rfText 8 4 Fil.zero ⟨#[]⟩ rfl (by decide) W (hE.below hb)
    rw [rtext84] at this
    exact this
  · have := rfIs 3 1 Fil.zero ⟨#[]⟩ rfl (by decide) 0 W (hE.below hb)
    rw [rok31] at this
    exact this
  · have := rfIs 3 1 Fil.zero ⟨#[]⟩ rfl (by decide) 1 W (hE.below hb)
    rw [rok31] at this
    exact this
end Go.Proofs.YtbcgkeclmioeiaaGreatDoor
