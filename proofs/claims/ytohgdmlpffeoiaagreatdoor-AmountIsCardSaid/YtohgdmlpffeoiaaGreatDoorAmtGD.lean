/-
  MERGED: AmtRIn, AmtRIsW, AmtRTxW, FilRText, AmtRef14. By an AI agent.
-/
import Derived.Test.YtohgdmlpffeoiaaGreatDoorAmtGC
import Derived.Test.YtohgdmlpffeoiaaGreatDoorAmtGA
import Derived.Test.YtohgdmlpffeoiaaGreatDoorAmtGB
import Derived.Deep.Cut
import Derived.Test.YtohgdmlpffeoiaaGreatDoorFilRefText
namespace Go.Proofs.YtohgdmlpffeoiaaGreatDoor
open Go.RowKit
open Wd (Bs)

set_option maxRecDepth 100000 in
theorem inShort (s : ByteArray) (w : World) (h1 : (s.size : Int) < 7) :
    Calls Tryz.prog 26 #[.string s, .string ⟨#[99, 111, 117, 110, 116, 40]⟩] w fun e w' => e = .returned (.tuple #[.string ⟨#[]⟩, .bool false]) ∧ Below w.heap.size w w' := by
  go_enter Tryz.func26, Tryz.ntmps26
  go_wp2_with fail
  go_ret2
  exact ⟨rfl, Below.refl _ _⟩
set_option maxRecDepth 100000 in
theorem inPre (s : ByteArray) (w : World) (h1 : ¬ (s.size : Int) < 7) (h3 : (6 : Int) ≤ (s.size : Int)) (hp : ((s.extract 0 6).toList == [99, 111, 117, 110, 116, 40]) = false) :
    Calls Tryz.prog 26 #[.string s, .string ⟨#[99, 111, 117, 110, 116, 40]⟩] w fun e w' => e = .returned (.tuple #[.string ⟨#[]⟩, .bool false]) ∧ Below w.heap.size w w' := by
  go_enter Tryz.func26, Tryz.ntmps26
  go_wp2_with fail
  go_ret2
  exact ⟨rfl, Below.refl _ _⟩
set_option maxRecDepth 100000 in
theorem inEnd (s : ByteArray) (w : World) (h1 : ¬ (s.size : Int) < 7) (h3 : (6 : Int) ≤ (s.size : Int)) (hi : s.size - 1 < s.size) (hp : ((s.extract 0 6).toList == [99, 111, 117, 110, 116, 40]) = true)
    (hx : IntKind.i64.wrap ((s.size : Int) - 1) = ((s.size - 1 : Nat) : Int)) (hb : ((s[s.size - 1].toNat : Int) == 41) = false) :
    Calls Tryz.prog 26 #[.string s, .string ⟨#[99, 111, 117, 110, 116, 40]⟩] w fun e w' => e = .returned (.tuple #[.string ⟨#[]⟩, .bool false]) ∧ Below w.heap.size w w' := by
  go_enter Tryz.func26, Tryz.ntmps26
  go_wp2_with fail
  go_ret2
  exact ⟨rfl, Below.refl _ _⟩
set_option maxRecDepth 100000 in
theorem inOk (s : ByteArray) (w : World) (h1 : ¬ (s.size : Int) < 7) (h3 : (6 : Int) ≤ (s.size : Int)) (hi : s.size - 1 < s.size) (hp : ((s.extract 0 6).toList == [99, 111, 117, 110, 116, 40]) = true)
    (hx : IntKind.i64.wrap ((s.size : Int) - 1) = ((s.size - 1 : Nat) : Int)) (hb : ((s[s.size - 1].toNat : Int) == 41) = true) :
    Calls Tryz.prog 26 #[.string s, .string ⟨#[99, 111, 117, 110, 116, 40]⟩] w fun e w' => e = .returned (.tuple #[.string (s.extract 6 (s.size - 1)), .bool true]) ∧ Below w.heap.size w w' := by
  go_enter Tryz.func26, Tryz.ntmps26
  go_wp2_with fail
  go_ret2
  exact ⟨rfl, Below.refl _ _⟩
end Go.Proofs.YtohgdmlpffeoiaaGreatDoor
namespace Go.Proofs.YtohgdmlpffeoiaaGreatDoor
open Go.RowKit
open Wd (Bs)

set_option maxHeartbeats 8000000 in
set_option maxRecDepth 100000 in
theorem rIsConst (n c : Int) (f : Fil.Flt) (fs : ByteArray) (w : World)
    (v1 v2 q : Bool) (h1 : decide (n < 0) = v1) (h2 : decide (1000000 < n) = v2) (HQ : Hid (∀ W : World, (Op.equalIn 10000 27 (.agg (cells3 0 0 c (cellsF f fs))) (.agg (cells3 0 0 0 cellsZ))).run Tryz.prog W = .ok q W)) :
    Calls Tryz.prog 10 #[.agg (cells3 0 n c (cellsF f fs))] w fun e w' => e = .returned (.bool ((!v1 && !v2) && q)) ∧ Below w.heap.size w w' := by

  have B0 := Lib.hid (Below.refl w.heap.size w)
  go_enter Tryz.func10, Tryz.ntmps10
  go_upto_region 0 with fail
  refine wp_region_lit ?_
  obtain ⟨w1, hw⟩ : ∃ v, v = w.alloc (.cells (cells3 0 n c (cellsF f fs)) 27) := ⟨_, rfl⟩
  obtain ⟨pA, hp⟩ : ∃ v, v = w.heap.size := ⟨_, rfl⟩
  have B1 : Hid (Below w.heap.size w w1) := Lib.hid (by rw [hw]; exact B0.out.alloc B0.out.size _)
  have LEA : Hid (w.heap.size ≤ pA) := Lib.hid (by rw [hp]; exact B0.out.size)
  have KA1 : Hid (Blk w1 pA (cells3 0 n c (cellsF f fs)) 27) := Lib.hid (by rw [hw, hp]; exact Blk.new _ _ _)
  with_reducible refine wpList_runWV (some 1) (v := .pointer (some ⟨pA, 0, none⟩)) (w' := w1) ?_ ?_ ?_ ?_
  · rfl
  · rfl
  · rw [hw, hp]; (go_simp; (try rfl))
  simp only [pu, sB, s0, sS]
  clear hw hp
  clear B0
  (with_reducible refine rN (v := .bool false) ?_ ?_ ?_); (· rfl); (· go_simp; (try with_reducible rfl)); simp only [pu, sB, s0, sS]
  go_upto_region 1 with fail
  refine wp_region_lit ?_
  with_reducible refine wpList_loadS (.tmp 1) ?_ ?_ KA1.out Tryz.underlying27 ?_ (infoTM19 (cells3_sz (cellsF_size f fs))) ?_
  · rfl
  · rfl
  · rfl
  simp only [pu, sB, s0, sS]
  obtain ⟨w2, hw⟩ : ∃ v, v = w1.alloc (.cells (cells3 0 0 0 cellsZ) 27) := ⟨_, rfl⟩
  obtain ⟨pU, hp⟩ : ∃ v, v = w1.heap.size := ⟨_, rfl⟩
  have B2 : Hid (Below w.heap.size w w2) := Lib.hid (by rw [hw]; exact B1.out.alloc B1.out.size _)
  have LEU : Hid (w.heap.size ≤ pU) := Lib.hid (by rw [hp]; exact B1.out.size)
  have KA2 := Lib.hid (show Blk w2 pA (cells3 0 n c (cellsF f fs)) 27 by rw [hw]; exact KA1.out.alloc _)
  have NEAU : Hid (pA ≠ pU) := Lib.hid (by rw [hp]; exact Nat.ne_of_lt KA1.out.lt)
  have NEUA : Hid (pU ≠ pA) := Lib.hid (Ne.symm NEAU.out)
  have KU2 : Hid (Blk w2 pU (cells3 0 0 0 cellsZ) 27) := Lib.hid (by rw [hw, hp]; exact Blk.new _ _ _)
  with_reducible refine wpList_runWV (some 3) (v := .pointer (some ⟨pU, 0, none⟩)) (w' := w2) ?_ ?_ ?_ ?_
  · rfl
  · rfl
  · rw [hw, hp]; (go_simp; (try rfl))
  simp only [pu, sB, s0, sS]
  clear hw hp
  clear B1 KA1
  have KU3 := Lib.hid (KU2.out.stored (o := 0) (vs := (cells3 0 n c (cellsF f fs)).toList) (laidAt_whole (Eq.trans (cells3_sz (cellsF_size f fs)) (Eq.symm (cells3_sz cellsZ_size)))))
  have KA3 := Lib.hid (KA2.out.wholeElse ((cells3 0 n c (cellsF f fs)).toList) (o := 0) NEAU.out)
  have B3 := Lib.hid (below_whole ((cells3 0 n c (cellsF f fs)).toList) (o := 0) B2.out LEU.out)
  with_reducible refine wpList_storeM (.tmp 3) (.tmp 4) (o := 0) (vs := (cells3 0 n c (cellsF f fs))) ?_ ?_ KU2.out ?_ (infoTM19 (cells3_sz (cellsF_size f fs))) (cells3_one (cellsF_one f fs)) ?_
  · rfl
  · rfl
  · exact (by have h0 : (cells3 0 0 0 cellsZ).size = 19 := (cells3_sz cellsZ_size); have h1 : (cells3 0 n c (cellsF f fs)).size = 19 := (cells3_sz (cellsF_size f fs)); omega)
  (try simp only [Act.put])
  generalize World.setCells _ _ _ _ = w3 at KA3 KU3 B3 ⊢
  clear B2 KA2 KU2
  go_upto_region 2 with fail
  refine wp_region_lit ?_
  (with_reducible refine rN (v := .pointer (some ⟨pA, 0, none⟩)) ?_ ?_ ?_); (· rfl); (· go_simp; (try rfl)); simp only [pu, sB, s0, sS]
  with_reducible refine wpList_loadV (.tmp 5) (j := 0) (v := .int .i64 0) ?_ ?_ KA3.out ?_ Tryz.underlying3 ?_ ?_
  · rfl
  · rfl
  · exact (cells3_0 ..)
  · rfl
  simp only [pu, sB, s0, sS]
  go_upto_region 3 with fail
  refine wp_region_lit ?_
  iterate 2 ((with_reducible refine rN (v := .bool true) ?_ ?_ ?_); (· rfl); (· go_simp; (try with_reducible rfl)); simp only [pu, sB, s0, sS])
  go_upto_region 4 with fail
  refine wp_region_lit ?_
  (with_reducible refine rN (v := .pointer (some ⟨pU, 1, none⟩)) ?_ ?_ ?_); (· rfl); (· go_simp; (try rfl)); simp only [pu, sB, s0, sS]
  have KU4 := Lib.hid (KU3.out.stored (o := 1) (vs := [.int .i64 0]) (cells3_put1 _ _ _ _ _))
  have KA4 := Lib.hid (KA3.out.wholeElse ([.int .i64 0]) (o := 1) NEAU.out)
  have B4 := Lib.hid (below_whole ([.int .i64 0]) (o := 1) B3.out LEU.out)
  with_reducible refine wpList_storeV (.tmp 9) (.const (.int .i64 0)) (j := 1) (v := .int .i64 0) ?_ ?_ KU3.out ?_ (by kernel_rfl) (by simp [Value.oneCell']) ?_
  · rfl
  · rfl
  · exact (by have h0 : (cells3 0 n c (cellsF f fs)).size = 19 := (cells3_sz (cellsF_size f fs)); omega)
  (try simp only [Act.put])
  generalize World.setCells _ _ _ _ = w4 at KA4 KU4 B4 ⊢
  clear B3 KA3 KU3
  cases v1 with
  | false =>
    cases v2 with
    | false =>
      go_upto_region 5 with fail
      refine wp_region_lit ?_
      (with_reducible refine rN (v := .pointer (some ⟨pA, 1, none⟩)) ?_ ?_ ?_); (· rfl); (· go_simp; (try rfl)); simp only [pu, sB, s0, sS]
      with_reducible refine wpList_loadV (.tmp 10) (j := 1) (v := .int .i64 n) ?_ ?_ KA4.out ?_ Tryz.underlying3 ?_ ?_
      · rfl
      · rfl
      · exact (cells3_1 ..)
      · rfl
      simp only [pu, sB, s0, sS]
      iterate 2 ((with_reducible refine rN (v := .bool false) ?_ ?_ ?_); (· rfl); (· go_simp; (try with_reducible rfl)); simp only [pu, sB, s0, sS])
      (with_reducible refine rN (v := .pointer (some ⟨pA, 1, none⟩)) ?_ ?_ ?_); (· rfl); (· go_simp; (try rfl)); simp only [pu, sB, s0, sS]
      with_reducible refine wpList_loadV (.tmp 14) (j := 1) (v := .int .i64 n) ?_ ?_ KA4.out ?_ Tryz.underlying3 ?_ ?_
      · rfl
      · rfl
      · exact (cells3_1 ..)
      · rfl
      simp only [pu, sB, s0, sS]
      iterate 2 ((with_reducible refine rN (v := .bool false) ?_ ?_ ?_); (· rfl); (· go_simp; (try with_reducible rfl)); simp only [pu, sB, s0, sS])
      have hq := HQ.out
      cases q with
      | false =>
        go_upto_region 16 with fail
        refine wp_region_lit ?_
        (with_reducible refine rN (v := .pointer (some ⟨pA, 0, none⟩)) ?_ ?_ ?_); (· rfl); (· go_simp; (try rfl)); simp only [pu, sB, s0, sS]
        with_reducible refine wpList_loadV (.tmp 44) (j := 0) (v := .int .i64 0) ?_ ?_ KA4.out ?_ Tryz.underlying3 ?_ ?_
        · rfl
        · rfl
        · exact (cells3_0 ..)
        · rfl
        simp only [pu, sB, s0, sS]
        iterate 2 ((with_reducible refine rN (v := .bool true) ?_ ?_ ?_); (· rfl); (· go_simp; (try with_reducible rfl)); simp only [pu, sB, s0, sS])
        (with_reducible refine rN (v := .pointer (some ⟨pA, 0, none⟩)) ?_ ?_ ?_); (· rfl); (· go_simp; (try rfl)); simp only [pu, sB, s0, sS]
        with_reducible refine wpList_loadV (.tmp 48) (j := 0) (v := .int .i64 0) ?_ ?_ KA4.out ?_ Tryz.underlying3 ?_ ?_
        · rfl
        · rfl
        · exact (cells3_0 ..)
        · rfl
        simp only [pu, sB, s0, sS]
        iterate 3 ((with_reducible refine rN (v := .bool true) ?_ ?_ ?_); (· rfl); (· go_simp; (try with_reducible rfl)); simp only [pu, sB, s0, sS])
        with_reducible refine wpList_loadS (.tmp 3) ?_ ?_ KU4.out Tryz.underlying27 ?_ (infoTM19 (cells3_sz (cellsF_size f fs))) ?_
        · rfl
        · rfl
        · rfl
        simp only [pu, sB, s0, sS]
        (with_reducible refine rN (v := .pointer (some ⟨pA, 0, none⟩)) ?_ ?_ ?_); (· rfl); (· go_simp; (try rfl)); simp only [pu, sB, s0, sS]
        with_reducible refine wpList_loadV (.tmp 54) (j := 0) (v := .int .i64 0) ?_ ?_ KA4.out ?_ Tryz.underlying3 ?_ ?_
        · rfl
        · rfl
        · exact (cells3_0 ..)
        · rfl
        simp only [pu, sB, s0, sS]
        (with_reducible refine rN (v := .agg (cells3 0 0 0 cellsZ)) ?_ ?_ ?_); (· rfl); (· go_simp; (try rfl)); simp only [pu, sB, s0, sS]
        iterate 3 ((with_reducible refine rN (v := .bool false) ?_ ?_ ?_); (· rfl); (· go_simp; (try with_reducible rfl)); simp only [pu, sB, s0, sS])
        go_wp2_with fail
        go_ret
        exact ⟨rfl, B4.out⟩
      | true =>
        go_upto_region 16 with fail
        refine wp_region_lit ?_
        (with_reducible refine rN (v := .pointer (some ⟨pA, 0, none⟩)) ?_ ?_ ?_); (· rfl); (· go_simp; (try rfl)); simp only [pu, sB, s0, sS]
        with_reducible refine wpList_loadV (.tmp 44) (j := 0) (v := .int .i64 0) ?_ ?_ KA4.out ?_ Tryz.underlying3 ?_ ?_
        · rfl
        · rfl
        · exact (cells3_0 ..)
        · rfl
        simp only [pu, sB, s0, sS]
        iterate 2 ((with_reducible refine rN (v := .bool true) ?_ ?_ ?_); (· rfl); (· go_simp; (try with_reducible rfl)); simp only [pu, sB, s0, sS])
        (with_reducible refine rN (v := .pointer (some ⟨pA, 0, none⟩)) ?_ ?_ ?_); (· rfl); (· go_simp; (try rfl)); simp only [pu, sB, s0, sS]
        with_reducible refine wpList_loadV (.tmp 48) (j := 0) (v := .int .i64 0) ?_ ?_ KA4.out ?_ Tryz.underlying3 ?_ ?_
        · rfl
        · rfl
        · exact (cells3_0 ..)
        · rfl
        simp only [pu, sB, s0, sS]
        iterate 3 ((with_reducible refine rN (v := .bool true) ?_ ?_ ?_); (· rfl); (· go_simp; (try with_reducible rfl)); simp only [pu, sB, s0, sS])
        with_reducible refine wpList_loadS (.tmp 3) ?_ ?_ KU4.out Tryz.underlying27 ?_ (infoTM19 (cells3_sz (cellsF_size f fs))) ?_
        · rfl
        · rfl
        · rfl
        simp only [pu, sB, s0, sS]
        (with_reducible refine rN (v := .pointer (some ⟨pA, 0, none⟩)) ?_ ?_ ?_); (· rfl); (· go_simp; (try rfl)); simp only [pu, sB, s0, sS]
        with_reducible refine wpList_loadV (.tmp 54) (j := 0) (v := .int .i64 0) ?_ ?_ KA4.out ?_ Tryz.underlying3 ?_ ?_
        · rfl
        · rfl
        · exact (cells3_0 ..)
        · rfl
        simp only [pu, sB, s0, sS]
        (with_reducible refine rN (v := .agg (cells3 0 0 0 cellsZ)) ?_ ?_ ?_); (· rfl); (· go_simp; (try rfl)); simp only [pu, sB, s0, sS]
        iterate 3 ((with_reducible refine rN (v := .bool true) ?_ ?_ ?_); (· rfl); (· go_simp; (try with_reducible rfl)); simp only [pu, sB, s0, sS])
        go_wp2_with fail
        go_ret
        exact ⟨rfl, B4.out⟩
    | true =>
      go_upto_region 5 with fail
      refine wp_region_lit ?_
      (with_reducible refine rN (v := .pointer (some ⟨pA, 1, none⟩)) ?_ ?_ ?_); (· rfl); (· go_simp; (try rfl)); simp only [pu, sB, s0, sS]
      with_reducible refine wpList_loadV (.tmp 10) (j := 1) (v := .int .i64 n) ?_ ?_ KA4.out ?_ Tryz.underlying3 ?_ ?_
      · rfl
      · rfl
      · exact (cells3_1 ..)
      · rfl
      simp only [pu, sB, s0, sS]
      iterate 2 ((with_reducible refine rN (v := .bool false) ?_ ?_ ?_); (· rfl); (· go_simp; (try with_reducible rfl)); simp only [pu, sB, s0, sS])
      (with_reducible refine rN (v := .pointer (some ⟨pA, 1, none⟩)) ?_ ?_ ?_); (· rfl); (· go_simp; (try rfl)); simp only [pu, sB, s0, sS]
      with_reducible refine wpList_loadV (.tmp 14) (j := 1) (v := .int .i64 n) ?_ ?_ KA4.out ?_ Tryz.underlying3 ?_ ?_
      · rfl
      · rfl
      · exact (cells3_1 ..)
      · rfl
      simp only [pu, sB, s0, sS]
      iterate 2 ((with_reducible refine rN (v := .bool true) ?_ ?_ ?_); (· rfl); (· go_simp; (try with_reducible rfl)); simp only [pu, sB, s0, sS])
      go_upto_region 6 with fail
      refine wp_region_lit ?_
      (with_reducible refine rN (v := .bool false) ?_ ?_ ?_); (· rfl); (· go_simp; (try with_reducible rfl)); simp only [pu, sB, s0, sS]
      go_wp2_with fail
      go_ret
      exact ⟨rfl, B4.out⟩
  | true =>
    go_upto_region 5 with fail
    refine wp_region_lit ?_
    (with_reducible refine rN (v := .pointer (some ⟨pA, 1, none⟩)) ?_ ?_ ?_); (· rfl); (· go_simp; (try rfl)); simp only [pu, sB, s0, sS]
    with_reducible refine wpList_loadV (.tmp 10) (j := 1) (v := .int .i64 n) ?_ ?_ KA4.out ?_ Tryz.underlying3 ?_ ?_
    · rfl
    · rfl
    · exact (cells3_1 ..)
    · rfl
    simp only [pu, sB, s0, sS]
    iterate 2 ((with_reducible refine rN (v := .bool true) ?_ ?_ ?_); (· rfl); (· go_simp; (try with_reducible rfl)); simp only [pu, sB, s0, sS])
    iterate 3 ((with_reducible refine kN ?_ ?_); (· rfl); simp only [pu, sB, s0, sS])
    (with_reducible refine rN (v := .bool true) ?_ ?_ ?_); (· rfl); (· go_simp; (try with_reducible rfl)); simp only [pu, sB, s0, sS]
    go_upto_region 6 with fail
    refine wp_region_lit ?_
    (with_reducible refine rN (v := .bool false) ?_ ?_ ?_); (· rfl); (· go_simp; (try with_reducible rfl)); simp only [pu, sB, s0, sS]
    go_wp2_with fail
    go_ret
    exact ⟨rfl, B4.out⟩

set_option maxHeartbeats 8000000 in
set_option maxRecDepth 100000 in
theorem rIsCount (n c : Int) (f : Fil.Flt) (fs : ByteArray) (w : World)
    (v1 v2 v3 q : Bool) (h1 : decide (n < 1) = v1) (h2 : decide (99 < n) = v2) (HI : Hid (∀ W, Below w.heap.size w W → Calls Tryz.prog 17 #[.agg (cellsF f fs)] W fun e w' => e = .returned (.bool v3) ∧ Below W.heap.size W w')) (HQ : Hid (∀ W : World, (Op.equalIn 10000 27 (.agg (cells3 2 0 c cellsZ)) (.agg (cells3 2 0 0 cellsZ))).run Tryz.prog W = .ok q W)) :
    Calls Tryz.prog 10 #[.agg (cells3 2 n c (cellsF f fs))] w fun e w' => e = .returned (.bool ((!v1 && (!v2 && v3)) && q)) ∧ Below w.heap.size w w' := by

  have B0 := Lib.hid (Below.refl w.heap.size w)
  go_enter Tryz.func10, Tryz.ntmps10
  go_upto_region 0 with fail
  refine wp_region_lit ?_
  obtain ⟨w1, hw⟩ : ∃ v, v = w.alloc (.cells (cells3 2 n c (cellsF f fs)) 27) := ⟨_, rfl⟩
  obtain ⟨pA, hp⟩ : ∃ v, v = w.heap.size := ⟨_, rfl⟩
  have B1 : Hid (Below w.heap.size w w1) := Lib.hid (by rw [hw]; exact B0.out.alloc B0.out.size _)
  have LEA : Hid (w.heap.size ≤ pA) := Lib.hid (by rw [hp]; exact B0.out.size)
  have KA1 : Hid (Blk w1 pA (cells3 2 n c (cellsF f fs)) 27) := Lib.hid (by rw [hw, hp]; exact Blk.new _ _ _)
  with_reducible refine wpList_runWV (some 1) (v := .pointer (some ⟨pA, 0, none⟩)) (w' := w1) ?_ ?_ ?_ ?_
  · rfl
  · rfl
  · rw [hw, hp]; (go_simp; (try rfl))
  simp only [pu, sB, s0, sS]
  clear hw hp
  clear B0
  (with_reducible refine rN (v := .bool false) ?_ ?_ ?_); (· rfl); (· go_simp; (try with_reducible rfl)); simp only [pu, sB, s0, sS]
  go_upto_region 1 with fail
  refine wp_region_lit ?_
  with_reducible refine wpList_loadS (.tmp 1) ?_ ?_ KA1.out Tryz.underlying27 ?_ (infoTM19 (cells3_sz (cellsF_size f fs))) ?_
  · rfl
  · rfl
  · rfl
  simp only [pu, sB, s0, sS]
  obtain ⟨w2, hw⟩ : ∃ v, v = w1.alloc (.cells (cells3 0 0 0 cellsZ) 27) := ⟨_, rfl⟩
  obtain ⟨pU, hp⟩ : ∃ v, v = w1.heap.size := ⟨_, rfl⟩
  have B2 : Hid (Below w.heap.size w w2) := Lib.hid (by rw [hw]; exact B1.out.alloc B1.out.size _)
  have LEU : Hid (w.heap.size ≤ pU) := Lib.hid (by rw [hp]; exact B1.out.size)
  have KA2 := Lib.hid (show Blk w2 pA (cells3 2 n c (cellsF f fs)) 27 by rw [hw]; exact KA1.out.alloc _)
  have NEAU : Hid (pA ≠ pU) := Lib.hid (by rw [hp]; exact Nat.ne_of_lt KA1.out.lt)
  have NEUA : Hid (pU ≠ pA) := Lib.hid (Ne.symm NEAU.out)
  have KU2 : Hid (Blk w2 pU (cells3 0 0 0 cellsZ) 27) := Lib.hid (by rw [hw, hp]; exact Blk.new _ _ _)
  with_reducible refine wpList_runWV (some 3) (v := .pointer (some ⟨pU, 0, none⟩)) (w' := w2) ?_ ?_ ?_ ?_
  · rfl
  · rfl
  · rw [hw, hp]; (go_simp; (try rfl))
  simp only [pu, sB, s0, sS]
  clear hw hp
  clear B1 KA1
  have KU3 := Lib.hid (KU2.out.stored (o := 0) (vs := (cells3 2 n c (cellsF f fs)).toList) (laidAt_whole (Eq.trans (cells3_sz (cellsF_size f fs)) (Eq.symm (cells3_sz cellsZ_size)))))
  have KA3 := Lib.hid (KA2.out.wholeElse ((cells3 2 n c (cellsF f fs)).toList) (o := 0) NEAU.out)
  have B3 := Lib.hid (below_whole ((cells3 2 n c (cellsF f fs)).toList) (o := 0) B2.out LEU.out)
  with_reducible refine wpList_storeM (.tmp 3) (.tmp 4) (o := 0) (vs := (cells3 2 n c (cellsF f fs))) ?_ ?_ KU2.out ?_ (infoTM19 (cells3_sz (cellsF_size f fs))) (cells3_one (cellsF_one f fs)) ?_
  · rfl
  · rfl
  · exact (by have h0 : (cells3 0 0 0 cellsZ).size = 19 := (cells3_sz cellsZ_size); have h1 : (cells3 2 n c (cellsF f fs)).size = 19 := (cells3_sz (cellsF_size f fs)); omega)
  (try simp only [Act.put])
  generalize World.setCells _ _ _ _ = w3 at KA3 KU3 B3 ⊢
  clear B2 KA2 KU2
  go_upto_region 2 with fail
  refine wp_region_lit ?_
  (with_reducible refine rN (v := .pointer (some ⟨pA, 0, none⟩)) ?_ ?_ ?_); (· rfl); (· go_simp; (try rfl)); simp only [pu, sB, s0, sS]
  with_reducible refine wpList_loadV (.tmp 5) (j := 0) (v := .int .i64 2) ?_ ?_ KA3.out ?_ Tryz.underlying3 ?_ ?_
  · rfl
  · rfl
  · exact (cells3_0 ..)
  · rfl
  simp only [pu, sB, s0, sS]
  go_upto_region 3 with fail
  refine wp_region_lit ?_
  iterate 2 ((with_reducible refine rN (v := .bool false) ?_ ?_ ?_); (· rfl); (· go_simp; (try with_reducible rfl)); simp only [pu, sB, s0, sS])
  go_upto_region 7 with fail
  refine wp_region_lit ?_
  iterate 2 ((with_reducible refine rN (v := .bool true) ?_ ?_ ?_); (· rfl); (· go_simp; (try with_reducible rfl)); simp only [pu, sB, s0, sS])
  go_upto_region 8 with fail
  refine wp_region_lit ?_
  (with_reducible refine rN (v := .pointer (some ⟨pU, 1, none⟩)) ?_ ?_ ?_); (· rfl); (· go_simp; (try rfl)); simp only [pu, sB, s0, sS]
  have KU4 := Lib.hid (KU3.out.stored (o := 1) (vs := [.int .i64 0]) (cells3_put1 _ _ _ _ _))
  have KA4 := Lib.hid (KA3.out.wholeElse ([.int .i64 0]) (o := 1) NEAU.out)
  have B4 := Lib.hid (below_whole ([.int .i64 0]) (o := 1) B3.out LEU.out)
  with_reducible refine wpList_storeV (.tmp 20) (.const (.int .i64 0)) (j := 1) (v := .int .i64 0) ?_ ?_ KU3.out ?_ (by kernel_rfl) (by simp [Value.oneCell']) ?_
  · rfl
  · rfl
  · exact (by have h0 : (cells3 2 n c (cellsF f fs)).size = 19 := (cells3_sz (cellsF_size f fs)); omega)
  (try simp only [Act.put])
  generalize World.setCells _ _ _ _ = w4 at KA4 KU4 B4 ⊢
  clear B3 KA3 KU3
  go_upto_region 9 with fail
  refine wp_region_lit ?_
  (with_reducible refine rN (v := .agg cellsZ) ?_ ?_ ?_); (· rfl); (· go_simp; rfl); simp only [pu, sB, s0, sS]
  (with_reducible refine rN (v := .pointer (some ⟨pU, 3, none⟩)) ?_ ?_ ?_); (· rfl); (· go_simp; (try rfl)); simp only [pu, sB, s0, sS]
  have KU5 := Lib.hid (KU4.out.stored (o := 3) (vs := cellsZ.toList) (cells3_laid (by rw [cellsZ_size, (cellsF_size f fs)])))
  have KA5 := Lib.hid (KA4.out.wholeElse (cellsZ.toList) (o := 3) NEAU.out)
  have B5 := Lib.hid (below_whole (cellsZ.toList) (o := 3) B4.out LEU.out)
  with_reducible refine wpList_storeM (.tmp 22) (.tmp 21) (o := 3) (vs := cellsZ) ?_ ?_ KU4.out ?_ (infoTF16 cellsZ_size) cellsZ_one ?_
  · rfl
  · rfl
  · exact (by have h0 : (cells3 2 0 c (cellsF f fs)).size = 19 := (cells3_sz (cellsF_size f fs)); have h1 : cellsZ.size = 16 := cellsZ_size; omega)
  (try simp only [Act.put])
  generalize World.setCells _ _ _ _ = w5 at KA5 KU5 B5 ⊢
  clear B4 KA4 KU4
  cases v1 with
  | false =>
    cases v2 with
    | false =>
      cases v3 with
      | false =>
        go_upto_region 10 with fail
        refine wp_region_lit ?_
        (with_reducible refine rN (v := .pointer (some ⟨pA, 1, none⟩)) ?_ ?_ ?_); (· rfl); (· go_simp; (try rfl)); simp only [pu, sB, s0, sS]
        with_reducible refine wpList_loadV (.tmp 23) (j := 1) (v := .int .i64 n) ?_ ?_ KA5.out ?_ Tryz.underlying3 ?_ ?_
        · rfl
        · rfl
        · exact (cells3_1 ..)
        · rfl
        simp only [pu, sB, s0, sS]
        iterate 2 ((with_reducible refine rN (v := .bool false) ?_ ?_ ?_); (· rfl); (· go_simp; (try with_reducible rfl)); simp only [pu, sB, s0, sS])
        (with_reducible refine rN (v := .pointer (some ⟨pA, 1, none⟩)) ?_ ?_ ?_); (· rfl); (· go_simp; (try rfl)); simp only [pu, sB, s0, sS]
        with_reducible refine wpList_loadV (.tmp 27) (j := 1) (v := .int .i64 n) ?_ ?_ KA5.out ?_ Tryz.underlying3 ?_ ?_
        · rfl
        · rfl
        · exact (cells3_1 ..)
        · rfl
        simp only [pu, sB, s0, sS]
        iterate 3 ((with_reducible refine rN (v := .bool false) ?_ ?_ ?_); (· rfl); (· go_simp; (try with_reducible rfl)); simp only [pu, sB, s0, sS])
        (with_reducible refine rN (v := .pointer (some ⟨pA, 3, none⟩)) ?_ ?_ ?_); (· rfl); (· go_simp; (try rfl)); simp only [pu, sB, s0, sS]
        with_reducible refine wpList_loadM (.tmp 32) (o := 3) (xs := (cellsF f fs)) ?_ ?_ KA5.out ?_ Tryz.underlying25 ?_ (infoTF16 (cellsF_size f fs)) ?_
        · rfl
        · rfl
        · exact cells3_part _ _ _ _
        · rfl
        simp only [pu, sB, s0, sS]
        go_wp2_with fail
        refine (HI.out _ B5.out).mono ?_
        rintro e w6 ⟨rfl, hb⟩
        have B6 := Lib.hid (B5.out.trans (hb.mono B5.out.size))
        have KA6 := Lib.hid (KA5.out.below hb KA5.out.lt)
        have KU6 := Lib.hid (KU5.out.below hb KU5.out.lt)
        clear hb
        clear B5 KA5 KU5
        go_simp
        rename_i hKK
        refine hKK _ _ ?_
        clear hKK
        try simp only [pu, sB, s0, sS]
        iterate 2 ((with_reducible refine rN (v := .bool true) ?_ ?_ ?_); (· rfl); (· go_simp; (try with_reducible rfl)); simp only [pu, sB, s0, sS])
        go_upto_region 11 with fail
        refine wp_region_lit ?_
        (with_reducible refine rN (v := .bool false) ?_ ?_ ?_); (· rfl); (· go_simp; (try with_reducible rfl)); simp only [pu, sB, s0, sS]
        go_wp2_with fail
        go_ret
        exact ⟨rfl, B6.out⟩
      | true =>
        go_upto_region 10 with fail
        refine wp_region_lit ?_
        (with_reducible refine rN (v := .pointer (some ⟨pA, 1, none⟩)) ?_ ?_ ?_); (· rfl); (· go_simp; (try rfl)); simp only [pu, sB, s0, sS]
        with_reducible refine wpList_loadV (.tmp 23) (j := 1) (v := .int .i64 n) ?_ ?_ KA5.out ?_ Tryz.underlying3 ?_ ?_
        · rfl
        · rfl
        · exact (cells3_1 ..)
        · rfl
        simp only [pu, sB, s0, sS]
        iterate 2 ((with_reducible refine rN (v := .bool false) ?_ ?_ ?_); (· rfl); (· go_simp; (try with_reducible rfl)); simp only [pu, sB, s0, sS])
        (with_reducible refine rN (v := .pointer (some ⟨pA, 1, none⟩)) ?_ ?_ ?_); (· rfl); (· go_simp; (try rfl)); simp only [pu, sB, s0, sS]
        with_reducible refine wpList_loadV (.tmp 27) (j := 1) (v := .int .i64 n) ?_ ?_ KA5.out ?_ Tryz.underlying3 ?_ ?_
        · rfl
        · rfl
        · exact (cells3_1 ..)
        · rfl
        simp only [pu, sB, s0, sS]
        iterate 3 ((with_reducible refine rN (v := .bool false) ?_ ?_ ?_); (· rfl); (· go_simp; (try with_reducible rfl)); simp only [pu, sB, s0, sS])
        (with_reducible refine rN (v := .pointer (some ⟨pA, 3, none⟩)) ?_ ?_ ?_); (· rfl); (· go_simp; (try rfl)); simp only [pu, sB, s0, sS]
        with_reducible refine wpList_loadM (.tmp 32) (o := 3) (xs := (cellsF f fs)) ?_ ?_ KA5.out ?_ Tryz.underlying25 ?_ (infoTF16 (cellsF_size f fs)) ?_
        · rfl
        · rfl
        · exact cells3_part _ _ _ _
        · rfl
        simp only [pu, sB, s0, sS]
        go_wp2_with fail
        refine (HI.out _ B5.out).mono ?_
        rintro e w6 ⟨rfl, hb⟩
        have B6 := Lib.hid (B5.out.trans (hb.mono B5.out.size))
        have KA6 := Lib.hid (KA5.out.below hb KA5.out.lt)
        have KU6 := Lib.hid (KU5.out.below hb KU5.out.lt)
        clear hb
        clear B5 KA5 KU5
        go_simp
        rename_i hKK
        refine hKK _ _ ?_
        clear hKK
        try simp only [pu, sB, s0, sS]
        iterate 2 ((with_reducible refine rN (v := .bool false) ?_ ?_ ?_); (· rfl); (· go_simp; (try with_reducible rfl)); simp only [pu, sB, s0, sS])
        have hq := HQ.out
        cases q with
        | false =>
          go_upto_region 16 with fail
          refine wp_region_lit ?_
          (with_reducible refine rN (v := .pointer (some ⟨pA, 0, none⟩)) ?_ ?_ ?_); (· rfl); (· go_simp; (try rfl)); simp only [pu, sB, s0, sS]
          with_reducible refine wpList_loadV (.tmp 44) (j := 0) (v := .int .i64 2) ?_ ?_ KA6.out ?_ Tryz.underlying3 ?_ ?_
          · rfl
          · rfl
          · exact (cells3_0 ..)
          · rfl
          simp only [pu, sB, s0, sS]
          iterate 2 ((with_reducible refine rN (v := .bool true) ?_ ?_ ?_); (· rfl); (· go_simp; (try with_reducible rfl)); simp only [pu, sB, s0, sS])
          (with_reducible refine rN (v := .pointer (some ⟨pA, 0, none⟩)) ?_ ?_ ?_); (· rfl); (· go_simp; (try rfl)); simp only [pu, sB, s0, sS]
          with_reducible refine wpList_loadV (.tmp 48) (j := 0) (v := .int .i64 2) ?_ ?_ KA6.out ?_ Tryz.underlying3 ?_ ?_
          · rfl
          · rfl
          · exact (cells3_0 ..)
          · rfl
          simp only [pu, sB, s0, sS]
          iterate 3 ((with_reducible refine rN (v := .bool true) ?_ ?_ ?_); (· rfl); (· go_simp; (try with_reducible rfl)); simp only [pu, sB, s0, sS])
          with_reducible refine wpList_loadS (.tmp 3) ?_ ?_ KU6.out Tryz.underlying27 ?_ (infoTM19 (cells3_sz cellsZ_size)) ?_
          · rfl
          · rfl
          · rfl
          simp only [pu, sB, s0, sS]
          (with_reducible refine rN (v := .pointer (some ⟨pA, 0, none⟩)) ?_ ?_ ?_); (· rfl); (· go_simp; (try rfl)); simp only [pu, sB, s0, sS]
          with_reducible refine wpList_loadV (.tmp 54) (j := 0) (v := .int .i64 2) ?_ ?_ KA6.out ?_ Tryz.underlying3 ?_ ?_
          · rfl
          · rfl
          · exact (cells3_0 ..)
          · rfl
          simp only [pu, sB, s0, sS]
          (with_reducible refine rN (v := .agg (cells3 2 0 0 cellsZ)) ?_ ?_ ?_); (· rfl); (· go_simp; (try rfl)); simp only [pu, sB, s0, sS]
          iterate 3 ((with_reducible refine rN (v := .bool false) ?_ ?_ ?_); (· rfl); (· go_simp; (try with_reducible rfl)); simp only [pu, sB, s0, sS])
          go_wp2_with fail
          go_ret
          exact ⟨rfl, B6.out⟩
        | true =>
          go_upto_region 16 with fail
          refine wp_region_lit ?_
          (with_reducible refine rN (v := .pointer (some ⟨pA, 0, none⟩)) ?_ ?_ ?_); (· rfl); (· go_simp; (try rfl)); simp only [pu, sB, s0, sS]
          with_reducible refine wpList_loadV (.tmp 44) (j := 0) (v := .int .i64 2) ?_ ?_ KA6.out ?_ Tryz.underlying3 ?_ ?_
          · rfl
          · rfl
          · exact (cells3_0 ..)
          · rfl
          simp only [pu, sB, s0, sS]
          iterate 2 ((with_reducible refine rN (v := .bool true) ?_ ?_ ?_); (· rfl); (· go_simp; (try with_reducible rfl)); simp only [pu, sB, s0, sS])
          (with_reducible refine rN (v := .pointer (some ⟨pA, 0, none⟩)) ?_ ?_ ?_); (· rfl); (· go_simp; (try rfl)); simp only [pu, sB, s0, sS]
          with_reducible refine wpList_loadV (.tmp 48) (j := 0) (v := .int .i64 2) ?_ ?_ KA6.out ?_ Tryz.underlying3 ?_ ?_
          · rfl
          · rfl
          · exact (cells3_0 ..)
          · rfl
          simp only [pu, sB, s0, sS]
          iterate 3 ((with_reducible refine rN (v := .bool true) ?_ ?_ ?_); (· rfl); (· go_simp; (try with_reducible rfl)); simp only [pu, sB, s0, sS])
          with_reducible refine wpList_loadS (.tmp 3) ?_ ?_ KU6.out Tryz.underlying27 ?_ (infoTM19 (cells3_sz cellsZ_size)) ?_
          · rfl
          · rfl
          · rfl
          simp only [pu, sB, s0, sS]
          (with_reducible refine rN (v := .pointer (some ⟨pA, 0, none⟩)) ?_ ?_ ?_); (· rfl); (· go_simp; (try rfl)); simp only [pu, sB, s0, sS]
          with_reducible refine wpList_loadV (.tmp 54) (j := 0) (v := .int .i64 2) ?_ ?_ KA6.out ?_ Tryz.underlying3 ?_ ?_
          · rfl
          · rfl
          · exact (cells3_0 ..)
          · rfl
          simp only [pu, sB, s0, sS]
          (with_reducible refine rN (v := .agg (cells3 2 0 0 cellsZ)) ?_ ?_ ?_); (· rfl); (· go_simp; (try rfl)); simp only [pu, sB, s0, sS]
          iterate 3 ((with_reducible refine rN (v := .bool true) ?_ ?_ ?_); (· rfl); (· go_simp; (try with_reducible rfl)); simp only [pu, sB, s0, sS])
          go_wp2_with fail
          go_ret
          exact ⟨rfl, B6.out⟩
    | true =>
      go_upto_region 10 with fail
      refine wp_region_lit ?_
      (with_reducible refine rN (v := .pointer (some ⟨pA, 1, none⟩)) ?_ ?_ ?_); (· rfl); (· go_simp; (try rfl)); simp only [pu, sB, s0, sS]
      with_reducible refine wpList_loadV (.tmp 23) (j := 1) (v := .int .i64 n) ?_ ?_ KA5.out ?_ Tryz.underlying3 ?_ ?_
      · rfl
      · rfl
      · exact (cells3_1 ..)
      · rfl
      simp only [pu, sB, s0, sS]
      iterate 2 ((with_reducible refine rN (v := .bool false) ?_ ?_ ?_); (· rfl); (· go_simp; (try with_reducible rfl)); simp only [pu, sB, s0, sS])
      (with_reducible refine rN (v := .pointer (some ⟨pA, 1, none⟩)) ?_ ?_ ?_); (· rfl); (· go_simp; (try rfl)); simp only [pu, sB, s0, sS]
      with_reducible refine wpList_loadV (.tmp 27) (j := 1) (v := .int .i64 n) ?_ ?_ KA5.out ?_ Tryz.underlying3 ?_ ?_
      · rfl
      · rfl
      · exact (cells3_1 ..)
      · rfl
      simp only [pu, sB, s0, sS]
      iterate 3 ((with_reducible refine rN (v := .bool true) ?_ ?_ ?_); (· rfl); (· go_simp; (try with_reducible rfl)); simp only [pu, sB, s0, sS])
      iterate 4 ((with_reducible refine kN ?_ ?_); (· rfl); simp only [pu, sB, s0, sS])
      (with_reducible refine rN (v := .bool true) ?_ ?_ ?_); (· rfl); (· go_simp; (try with_reducible rfl)); simp only [pu, sB, s0, sS]
      go_upto_region 11 with fail
      refine wp_region_lit ?_
      (with_reducible refine rN (v := .bool false) ?_ ?_ ?_); (· rfl); (· go_simp; (try with_reducible rfl)); simp only [pu, sB, s0, sS]
      go_wp2_with fail
      go_ret
      exact ⟨rfl, B5.out⟩
  | true =>
    go_upto_region 10 with fail
    refine wp_region_lit ?_
    (with_reducible refine rN (v := .pointer (some ⟨pA, 1, none⟩)) ?_ ?_ ?_); (· rfl); (· go_simp; (try rfl)); simp only [pu, sB, s0, sS]
    with_reducible refine wpList_loadV (.tmp 23) (j := 1) (v := .int .i64 n) ?_ ?_ KA5.out ?_ Tryz.underlying3 ?_ ?_
    · rfl
    · rfl
    · exact (cells3_1 ..)
    · rfl
    simp only [pu, sB, s0, sS]
    iterate 2 ((with_reducible refine rN (v := .bool true) ?_ ?_ ?_); (· rfl); (· go_simp; (try with_reducible rfl)); simp only [pu, sB, s0, sS])
    iterate 3 ((with_reducible refine kN ?_ ?_); (· rfl); simp only [pu, sB, s0, sS])
    iterate 2 ((with_reducible refine rN (v := .bool true) ?_ ?_ ?_); (· rfl); (· go_simp; (try with_reducible rfl)); simp only [pu, sB, s0, sS])
    iterate 4 ((with_reducible refine kN ?_ ?_); (· rfl); simp only [pu, sB, s0, sS])
    (with_reducible refine rN (v := .bool true) ?_ ?_ ?_); (· rfl); (· go_simp; (try with_reducible rfl)); simp only [pu, sB, s0, sS]
    go_upto_region 11 with fail
    refine wp_region_lit ?_
    (with_reducible refine rN (v := .bool false) ?_ ?_ ?_); (· rfl); (· go_simp; (try with_reducible rfl)); simp only [pu, sB, s0, sS]
    go_wp2_with fail
    go_ret
    exact ⟨rfl, B5.out⟩

set_option maxHeartbeats 8000000 in
set_option maxRecDepth 100000 in
theorem rIsCtr (n c : Int) (f : Fil.Flt) (fs : ByteArray) (t : ByteArray) (w : World)
    (v q : Bool) (hv : t.toList.isEmpty = !v) (HN : Hid (∀ W, Below w.heap.size w W → Calls Tryz.prog 18 #[.int .i64 c] W fun e w' => e = .returned (.string t) ∧ Below W.heap.size W w')) (HQ : Hid (∀ W : World, (Op.equalIn 10000 27 (.agg (cells3 4 n 0 (cellsF f fs))) (.agg (cells3 4 0 0 cellsZ))).run Tryz.prog W = .ok q W)) :
    Calls Tryz.prog 10 #[.agg (cells3 4 n c (cellsF f fs))] w fun e w' => e = .returned (.bool (v && q)) ∧ Below w.heap.size w w' := by

  have B0 := Lib.hid (Below.refl w.heap.size w)
  go_enter Tryz.func10, Tryz.ntmps10
  go_upto_region 0 with fail
  refine wp_region_lit ?_
  obtain ⟨w1, hw⟩ : ∃ v, v = w.alloc (.cells (cells3 4 n c (cellsF f fs)) 27) := ⟨_, rfl⟩
  obtain ⟨pA, hp⟩ : ∃ v, v = w.heap.size := ⟨_, rfl⟩
  have B1 : Hid (Below w.heap.size w w1) := Lib.hid (by rw [hw]; exact B0.out.alloc B0.out.size _)
  have LEA : Hid (w.heap.size ≤ pA) := Lib.hid (by rw [hp]; exact B0.out.size)
  have KA1 : Hid (Blk w1 pA (cells3 4 n c (cellsF f fs)) 27) := Lib.hid (by rw [hw, hp]; exact Blk.new _ _ _)
  with_reducible refine wpList_runWV (some 1) (v := .pointer (some ⟨pA, 0, none⟩)) (w' := w1) ?_ ?_ ?_ ?_
  · rfl
  · rfl
  · rw [hw, hp]; (go_simp; (try rfl))
  simp only [pu, sB, s0, sS]
  clear hw hp
  clear B0
  (with_reducible refine rN (v := .bool false) ?_ ?_ ?_); (· rfl); (· go_simp; (try with_reducible rfl)); simp only [pu, sB, s0, sS]
  go_upto_region 1 with fail
  refine wp_region_lit ?_
  with_reducible refine wpList_loadS (.tmp 1) ?_ ?_ KA1.out Tryz.underlying27 ?_ (infoTM19 (cells3_sz (cellsF_size f fs))) ?_
  · rfl
  · rfl
  · rfl
  simp only [pu, sB, s0, sS]
  obtain ⟨w2, hw⟩ : ∃ v, v = w1.alloc (.cells (cells3 0 0 0 cellsZ) 27) := ⟨_, rfl⟩
  obtain ⟨pU, hp⟩ : ∃ v, v = w1.heap.size := ⟨_, rfl⟩
  have B2 : Hid (Below w.heap.size w w2) := Lib.hid (by rw [hw]; exact B1.out.alloc B1.out.size _)
  have LEU : Hid (w.heap.size ≤ pU) := Lib.hid (by rw [hp]; exact B1.out.size)
  have KA2 := Lib.hid (show Blk w2 pA (cells3 4 n c (cellsF f fs)) 27 by rw [hw]; exact KA1.out.alloc _)
  have NEAU : Hid (pA ≠ pU) := Lib.hid (by rw [hp]; exact Nat.ne_of_lt KA1.out.lt)
  have NEUA : Hid (pU ≠ pA) := Lib.hid (Ne.symm NEAU.out)
  have KU2 : Hid (Blk w2 pU (cells3 0 0 0 cellsZ) 27) := Lib.hid (by rw [hw, hp]; exact Blk.new _ _ _)
  with_reducible refine wpList_runWV (some 3) (v := .pointer (some ⟨pU, 0, none⟩)) (w' := w2) ?_ ?_ ?_ ?_
  · rfl
  · rfl
  · rw [hw, hp]; (go_simp; (try rfl))
  simp only [pu, sB, s0, sS]
  clear hw hp
  clear B1 KA1
  have KU3 := Lib.hid (KU2.out.stored (o := 0) (vs := (cells3 4 n c (cellsF f fs)).toList) (laidAt_whole (Eq.trans (cells3_sz (cellsF_size f fs)) (Eq.symm (cells3_sz cellsZ_size)))))
  have KA3 := Lib.hid (KA2.out.wholeElse ((cells3 4 n c (cellsF f fs)).toList) (o := 0) NEAU.out)
  have B3 := Lib.hid (below_whole ((cells3 4 n c (cellsF f fs)).toList) (o := 0) B2.out LEU.out)
  with_reducible refine wpList_storeM (.tmp 3) (.tmp 4) (o := 0) (vs := (cells3 4 n c (cellsF f fs))) ?_ ?_ KU2.out ?_ (infoTM19 (cells3_sz (cellsF_size f fs))) (cells3_one (cellsF_one f fs)) ?_
  · rfl
  · rfl
  · exact (by have h0 : (cells3 0 0 0 cellsZ).size = 19 := (cells3_sz cellsZ_size); have h1 : (cells3 4 n c (cellsF f fs)).size = 19 := (cells3_sz (cellsF_size f fs)); omega)
  (try simp only [Act.put])
  generalize World.setCells _ _ _ _ = w3 at KA3 KU3 B3 ⊢
  clear B2 KA2 KU2
  go_upto_region 2 with fail
  refine wp_region_lit ?_
  (with_reducible refine rN (v := .pointer (some ⟨pA, 0, none⟩)) ?_ ?_ ?_); (· rfl); (· go_simp; (try rfl)); simp only [pu, sB, s0, sS]
  with_reducible refine wpList_loadV (.tmp 5) (j := 0) (v := .int .i64 4) ?_ ?_ KA3.out ?_ Tryz.underlying3 ?_ ?_
  · rfl
  · rfl
  · exact (cells3_0 ..)
  · rfl
  simp only [pu, sB, s0, sS]
  go_upto_region 3 with fail
  refine wp_region_lit ?_
  iterate 2 ((with_reducible refine rN (v := .bool false) ?_ ?_ ?_); (· rfl); (· go_simp; (try with_reducible rfl)); simp only [pu, sB, s0, sS])
  go_upto_region 7 with fail
  refine wp_region_lit ?_
  iterate 2 ((with_reducible refine rN (v := .bool false) ?_ ?_ ?_); (· rfl); (· go_simp; (try with_reducible rfl)); simp only [pu, sB, s0, sS])
  go_upto_region 12 with fail
  refine wp_region_lit ?_
  iterate 2 ((with_reducible refine rN (v := .bool true) ?_ ?_ ?_); (· rfl); (· go_simp; (try with_reducible rfl)); simp only [pu, sB, s0, sS])
  go_upto_region 13 with fail
  refine wp_region_lit ?_
  (with_reducible refine rN (v := .pointer (some ⟨pU, 2, none⟩)) ?_ ?_ ?_); (· rfl); (· go_simp; (try rfl)); simp only [pu, sB, s0, sS]
  have KU4 := Lib.hid (KU3.out.stored (o := 2) (vs := [.int .i64 0]) (cells3_put2 _ _ _ _ _))
  have KA4 := Lib.hid (KA3.out.wholeElse ([.int .i64 0]) (o := 2) NEAU.out)
  have B4 := Lib.hid (below_whole ([.int .i64 0]) (o := 2) B3.out LEU.out)
  with_reducible refine wpList_storeV (.tmp 39) (.const (.int .i64 0)) (j := 2) (v := .int .i64 0) ?_ ?_ KU3.out ?_ (by kernel_rfl) (by simp [Value.oneCell']) ?_
  · rfl
  · rfl
  · exact (by have h0 : (cells3 4 n c (cellsF f fs)).size = 19 := (cells3_sz (cellsF_size f fs)); omega)
  (try simp only [Act.put])
  generalize World.setCells _ _ _ _ = w4 at KA4 KU4 B4 ⊢
  clear B3 KA3 KU3
  cases v with
  | false =>
    go_upto_region 14 with fail
    refine wp_region_lit ?_
    (with_reducible refine rN (v := .pointer (some ⟨pA, 2, none⟩)) ?_ ?_ ?_); (· rfl); (· go_simp; (try rfl)); simp only [pu, sB, s0, sS]
    with_reducible refine wpList_loadV (.tmp 40) (j := 2) (v := .int .i64 c) ?_ ?_ KA4.out ?_ Tryz.underlying3 ?_ ?_
    · rfl
    · rfl
    · exact (cells3_2 ..)
    · rfl
    simp only [pu, sB, s0, sS]
    go_wp2_with fail
    refine (HN.out _ B4.out).mono ?_
    rintro e w5 ⟨rfl, hb⟩
    have B5 := Lib.hid (B4.out.trans (hb.mono B4.out.size))
    have KA5 := Lib.hid (KA4.out.below hb KA4.out.lt)
    have KU5 := Lib.hid (KU4.out.below hb KU4.out.lt)
    clear hb
    clear B4 KA4 KU4
    go_simp
    rename_i hKK
    refine hKK _ _ ?_
    clear hKK
    try simp only [pu, sB, s0, sS]
    (with_reducible refine rN (v := .bool true) ?_ ?_ ?_); (· rfl); (· go_simp; (try with_reducible rfl)); simp only [pu, sB, s0, sS]
    go_upto_region 15 with fail
    refine wp_region_lit ?_
    (with_reducible refine rN (v := .bool false) ?_ ?_ ?_); (· rfl); (· go_simp; (try with_reducible rfl)); simp only [pu, sB, s0, sS]
    go_wp2_with fail
    go_ret
    exact ⟨rfl, B5.out⟩
  | true =>
    go_upto_region 14 with fail
    refine wp_region_lit ?_
    (with_reducible refine rN (v := .pointer (some ⟨pA, 2, none⟩)) ?_ ?_ ?_); (· rfl); (· go_simp; (try rfl)); simp only [pu, sB, s0, sS]
    with_reducible refine wpList_loadV (.tmp 40) (j := 2) (v := .int .i64 c) ?_ ?_ KA4.out ?_ Tryz.underlying3 ?_ ?_
    · rfl
    · rfl
    · exact (cells3_2 ..)
    · rfl
    simp only [pu, sB, s0, sS]
    go_wp2_with fail
    refine (HN.out _ B4.out).mono ?_
    rintro e w5 ⟨rfl, hb⟩
    have B5 := Lib.hid (B4.out.trans (hb.mono B4.out.size))
    have KA5 := Lib.hid (KA4.out.below hb KA4.out.lt)
    have KU5 := Lib.hid (KU4.out.below hb KU4.out.lt)
    clear hb
    clear B4 KA4 KU4
    go_simp
    rename_i hKK
    refine hKK _ _ ?_
    clear hKK
    try simp only [pu, sB, s0, sS]
    (with_reducible refine rN (v := .bool false) ?_ ?_ ?_); (· rfl); (· go_simp; (try with_reducible rfl)); simp only [pu, sB, s0, sS]
    have hq := HQ.out
    cases q with
    | false =>
      go_upto_region 16 with fail
      refine wp_region_lit ?_
      (with_reducible refine rN (v := .pointer (some ⟨pA, 0, none⟩)) ?_ ?_ ?_); (· rfl); (· go_simp; (try rfl)); simp only [pu, sB, s0, sS]
      with_reducible refine wpList_loadV (.tmp 44) (j := 0) (v := .int .i64 4) ?_ ?_ KA5.out ?_ Tryz.underlying3 ?_ ?_
      · rfl
      · rfl
      · exact (cells3_0 ..)
      · rfl
      simp only [pu, sB, s0, sS]
      iterate 2 ((with_reducible refine rN (v := .bool true) ?_ ?_ ?_); (· rfl); (· go_simp; (try with_reducible rfl)); simp only [pu, sB, s0, sS])
      (with_reducible refine rN (v := .pointer (some ⟨pA, 0, none⟩)) ?_ ?_ ?_); (· rfl); (· go_simp; (try rfl)); simp only [pu, sB, s0, sS]
      with_reducible refine wpList_loadV (.tmp 48) (j := 0) (v := .int .i64 4) ?_ ?_ KA5.out ?_ Tryz.underlying3 ?_ ?_
      · rfl
      · rfl
      · exact (cells3_0 ..)
      · rfl
      simp only [pu, sB, s0, sS]
      iterate 3 ((with_reducible refine rN (v := .bool true) ?_ ?_ ?_); (· rfl); (· go_simp; (try with_reducible rfl)); simp only [pu, sB, s0, sS])
      with_reducible refine wpList_loadS (.tmp 3) ?_ ?_ KU5.out Tryz.underlying27 ?_ (infoTM19 (cells3_sz (cellsF_size f fs))) ?_
      · rfl
      · rfl
      · rfl
      simp only [pu, sB, s0, sS]
      (with_reducible refine rN (v := .pointer (some ⟨pA, 0, none⟩)) ?_ ?_ ?_); (· rfl); (· go_simp; (try rfl)); simp only [pu, sB, s0, sS]
      with_reducible refine wpList_loadV (.tmp 54) (j := 0) (v := .int .i64 4) ?_ ?_ KA5.out ?_ Tryz.underlying3 ?_ ?_
      · rfl
      · rfl
      · exact (cells3_0 ..)
      · rfl
      simp only [pu, sB, s0, sS]
      (with_reducible refine rN (v := .agg (cells3 4 0 0 cellsZ)) ?_ ?_ ?_); (· rfl); (· go_simp; (try rfl)); simp only [pu, sB, s0, sS]
      iterate 3 ((with_reducible refine rN (v := .bool false) ?_ ?_ ?_); (· rfl); (· go_simp; (try with_reducible rfl)); simp only [pu, sB, s0, sS])
      go_wp2_with fail
      go_ret
      exact ⟨rfl, B5.out⟩
    | true =>
      go_upto_region 16 with fail
      refine wp_region_lit ?_
      (with_reducible refine rN (v := .pointer (some ⟨pA, 0, none⟩)) ?_ ?_ ?_); (· rfl); (· go_simp; (try rfl)); simp only [pu, sB, s0, sS]
      with_reducible refine wpList_loadV (.tmp 44) (j := 0) (v := .int .i64 4) ?_ ?_ KA5.out ?_ Tryz.underlying3 ?_ ?_
      · rfl
      · rfl
      · exact (cells3_0 ..)
      · rfl
      simp only [pu, sB, s0, sS]
      iterate 2 ((with_reducible refine rN (v := .bool true) ?_ ?_ ?_); (· rfl); (· go_simp; (try with_reducible rfl)); simp only [pu, sB, s0, sS])
      (with_reducible refine rN (v := .pointer (some ⟨pA, 0, none⟩)) ?_ ?_ ?_); (· rfl); (· go_simp; (try rfl)); simp only [pu, sB, s0, sS]
      with_reducible refine wpList_loadV (.tmp 48) (j := 0) (v := .int .i64 4) ?_ ?_ KA5.out ?_ Tryz.underlying3 ?_ ?_
      · rfl
      · rfl
      · exact (cells3_0 ..)
      · rfl
      simp only [pu, sB, s0, sS]
      iterate 3 ((with_reducible refine rN (v := .bool true) ?_ ?_ ?_); (· rfl); (· go_simp; (try with_reducible rfl)); simp only [pu, sB, s0, sS])
      with_reducible refine wpList_loadS (.tmp 3) ?_ ?_ KU5.out Tryz.underlying27 ?_ (infoTM19 (cells3_sz (cellsF_size f fs))) ?_
      · rfl
      · rfl
      · rfl
      simp only [pu, sB, s0, sS]
      (with_reducible refine rN (v := .pointer (some ⟨pA, 0, none⟩)) ?_ ?_ ?_); (· rfl); (· go_simp; (try rfl)); simp only [pu, sB, s0, sS]
      with_reducible refine wpList_loadV (.tmp 54) (j := 0) (v := .int .i64 4) ?_ ?_ KA5.out ?_ Tryz.underlying3 ?_ ?_
      · rfl
      · rfl
      · exact (cells3_0 ..)
      · rfl
      simp only [pu, sB, s0, sS]
      (with_reducible refine rN (v := .agg (cells3 4 0 0 cellsZ)) ?_ ?_ ?_); (· rfl); (· go_simp; (try rfl)); simp only [pu, sB, s0, sS]
      iterate 3 ((with_reducible refine rN (v := .bool true) ?_ ?_ ?_); (· rfl); (· go_simp; (try with_reducible rfl)); simp only [pu, sB, s0, sS])
      go_wp2_with fail
      go_ret
      exact ⟨rfl, B5.out⟩

set_option maxHeartbeats 8000000 in
set_option maxRecDepth 100000 in
theorem rIsOther (k n c : Int) (f : Fil.Flt) (fs : ByteArray) (w : World)
    (v1 v2 q : Bool) (h0 : (k == 0) = false) (h2 : (k == 2) = false) (h4 : (k == 4) = false) (h5 : decide (0 ≤ k) = v1) (h6 : decide (k ≤ 7) = v2) (HQ : Hid (∀ W : World, (Op.equalIn 10000 27 (.agg (cells3 k n c (cellsF f fs))) (.agg (cells3 k 0 0 cellsZ))).run Tryz.prog W = .ok q W)) :
    Calls Tryz.prog 10 #[.agg (cells3 k n c (cellsF f fs))] w fun e w' => e = .returned (.bool ((v1 && v2) && q)) ∧ Below w.heap.size w w' := by

  have B0 := Lib.hid (Below.refl w.heap.size w)
  go_enter Tryz.func10, Tryz.ntmps10
  go_upto_region 0 with fail
  refine wp_region_lit ?_
  obtain ⟨w1, hw⟩ : ∃ v, v = w.alloc (.cells (cells3 k n c (cellsF f fs)) 27) := ⟨_, rfl⟩
  obtain ⟨pA, hp⟩ : ∃ v, v = w.heap.size := ⟨_, rfl⟩
  have B1 : Hid (Below w.heap.size w w1) := Lib.hid (by rw [hw]; exact B0.out.alloc B0.out.size _)
  have LEA : Hid (w.heap.size ≤ pA) := Lib.hid (by rw [hp]; exact B0.out.size)
  have KA1 : Hid (Blk w1 pA (cells3 k n c (cellsF f fs)) 27) := Lib.hid (by rw [hw, hp]; exact Blk.new _ _ _)
  with_reducible refine wpList_runWV (some 1) (v := .pointer (some ⟨pA, 0, none⟩)) (w' := w1) ?_ ?_ ?_ ?_
  · rfl
  · rfl
  · rw [hw, hp]; (go_simp; (try rfl))
  simp only [pu, sB, s0, sS]
  clear hw hp
  clear B0
  (with_reducible refine rN (v := .bool false) ?_ ?_ ?_); (· rfl); (· go_simp; (try with_reducible rfl)); simp only [pu, sB, s0, sS]
  go_upto_region 1 with fail
  refine wp_region_lit ?_
  with_reducible refine wpList_loadS (.tmp 1) ?_ ?_ KA1.out Tryz.underlying27 ?_ (infoTM19 (cells3_sz (cellsF_size f fs))) ?_
  · rfl
  · rfl
  · rfl
  simp only [pu, sB, s0, sS]
  obtain ⟨w2, hw⟩ : ∃ v, v = w1.alloc (.cells (cells3 0 0 0 cellsZ) 27) := ⟨_, rfl⟩
  obtain ⟨pU, hp⟩ : ∃ v, v = w1.heap.size := ⟨_, rfl⟩
  have B2 : Hid (Below w.heap.size w w2) := Lib.hid (by rw [hw]; exact B1.out.alloc B1.out.size _)
  have LEU : Hid (w.heap.size ≤ pU) := Lib.hid (by rw [hp]; exact B1.out.size)
  have KA2 := Lib.hid (show Blk w2 pA (cells3 k n c (cellsF f fs)) 27 by rw [hw]; exact KA1.out.alloc _)
  have NEAU : Hid (pA ≠ pU) := Lib.hid (by rw [hp]; exact Nat.ne_of_lt KA1.out.lt)
  have NEUA : Hid (pU ≠ pA) := Lib.hid (Ne.symm NEAU.out)
  have KU2 : Hid (Blk w2 pU (cells3 0 0 0 cellsZ) 27) := Lib.hid (by rw [hw, hp]; exact Blk.new _ _ _)
  with_reducible refine wpList_runWV (some 3) (v := .pointer (some ⟨pU, 0, none⟩)) (w' := w2) ?_ ?_ ?_ ?_
  · rfl
  · rfl
  · rw [hw, hp]; (go_simp; (try rfl))
  simp only [pu, sB, s0, sS]
  clear hw hp
  clear B1 KA1
  have KU3 := Lib.hid (KU2.out.stored (o := 0) (vs := (cells3 k n c (cellsF f fs)).toList) (laidAt_whole (Eq.trans (cells3_sz (cellsF_size f fs)) (Eq.symm (cells3_sz cellsZ_size)))))
  have KA3 := Lib.hid (KA2.out.wholeElse ((cells3 k n c (cellsF f fs)).toList) (o := 0) NEAU.out)
  have B3 := Lib.hid (below_whole ((cells3 k n c (cellsF f fs)).toList) (o := 0) B2.out LEU.out)
  with_reducible refine wpList_storeM (.tmp 3) (.tmp 4) (o := 0) (vs := (cells3 k n c (cellsF f fs))) ?_ ?_ KU2.out ?_ (infoTM19 (cells3_sz (cellsF_size f fs))) (cells3_one (cellsF_one f fs)) ?_
  · rfl
  · rfl
  · exact (by have h0 : (cells3 0 0 0 cellsZ).size = 19 := (cells3_sz cellsZ_size); have h1 : (cells3 k n c (cellsF f fs)).size = 19 := (cells3_sz (cellsF_size f fs)); omega)
  (try simp only [Act.put])
  generalize World.setCells _ _ _ _ = w3 at KA3 KU3 B3 ⊢
  clear B2 KA2 KU2
  go_upto_region 2 with fail
  refine wp_region_lit ?_
  (with_reducible refine rN (v := .pointer (some ⟨pA, 0, none⟩)) ?_ ?_ ?_); (· rfl); (· go_simp; (try rfl)); simp only [pu, sB, s0, sS]
  with_reducible refine wpList_loadV (.tmp 5) (j := 0) (v := .int .i64 k) ?_ ?_ KA3.out ?_ Tryz.underlying3 ?_ ?_
  · rfl
  · rfl
  · exact (cells3_0 ..)
  · rfl
  simp only [pu, sB, s0, sS]
  go_upto_region 3 with fail
  refine wp_region_lit ?_
  iterate 2 ((with_reducible refine rN (v := .bool false) ?_ ?_ ?_); (· rfl); (· go_simp; (try with_reducible rfl)); simp only [pu, sB, s0, sS])
  go_upto_region 7 with fail
  refine wp_region_lit ?_
  iterate 2 ((with_reducible refine rN (v := .bool false) ?_ ?_ ?_); (· rfl); (· go_simp; (try with_reducible rfl)); simp only [pu, sB, s0, sS])
  go_upto_region 12 with fail
  refine wp_region_lit ?_
  iterate 2 ((with_reducible refine rN (v := .bool false) ?_ ?_ ?_); (· rfl); (· go_simp; (try with_reducible rfl)); simp only [pu, sB, s0, sS])
  cases v1 with
  | false =>
    go_upto_region 16 with fail
    refine wp_region_lit ?_
    (with_reducible refine rN (v := .pointer (some ⟨pA, 0, none⟩)) ?_ ?_ ?_); (· rfl); (· go_simp; (try rfl)); simp only [pu, sB, s0, sS]
    with_reducible refine wpList_loadV (.tmp 44) (j := 0) (v := .int .i64 k) ?_ ?_ KA3.out ?_ Tryz.underlying3 ?_ ?_
    · rfl
    · rfl
    · exact (cells3_0 ..)
    · rfl
    simp only [pu, sB, s0, sS]
    iterate 2 ((with_reducible refine rN (v := .bool false) ?_ ?_ ?_); (· rfl); (· go_simp; (try with_reducible rfl)); simp only [pu, sB, s0, sS])
    iterate 3 ((with_reducible refine kN ?_ ?_); (· rfl); simp only [pu, sB, s0, sS])
    iterate 2 ((with_reducible refine rN (v := .bool false) ?_ ?_ ?_); (· rfl); (· go_simp; (try with_reducible rfl)); simp only [pu, sB, s0, sS])
    iterate 5 ((with_reducible refine kN ?_ ?_); (· rfl); simp only [pu, sB, s0, sS])
    iterate 2 ((with_reducible refine rN (v := .bool false) ?_ ?_ ?_); (· rfl); (· go_simp; (try with_reducible rfl)); simp only [pu, sB, s0, sS])
    go_wp2_with fail
    go_ret
    exact ⟨rfl, B3.out⟩
  | true =>
    cases v2 with
    | false =>
      go_upto_region 16 with fail
      refine wp_region_lit ?_
      (with_reducible refine rN (v := .pointer (some ⟨pA, 0, none⟩)) ?_ ?_ ?_); (· rfl); (· go_simp; (try rfl)); simp only [pu, sB, s0, sS]
      with_reducible refine wpList_loadV (.tmp 44) (j := 0) (v := .int .i64 k) ?_ ?_ KA3.out ?_ Tryz.underlying3 ?_ ?_
      · rfl
      · rfl
      · exact (cells3_0 ..)
      · rfl
      simp only [pu, sB, s0, sS]
      iterate 2 ((with_reducible refine rN (v := .bool true) ?_ ?_ ?_); (· rfl); (· go_simp; (try with_reducible rfl)); simp only [pu, sB, s0, sS])
      (with_reducible refine rN (v := .pointer (some ⟨pA, 0, none⟩)) ?_ ?_ ?_); (· rfl); (· go_simp; (try rfl)); simp only [pu, sB, s0, sS]
      with_reducible refine wpList_loadV (.tmp 48) (j := 0) (v := .int .i64 k) ?_ ?_ KA3.out ?_ Tryz.underlying3 ?_ ?_
      · rfl
      · rfl
      · exact (cells3_0 ..)
      · rfl
      simp only [pu, sB, s0, sS]
      iterate 3 ((with_reducible refine rN (v := .bool false) ?_ ?_ ?_); (· rfl); (· go_simp; (try with_reducible rfl)); simp only [pu, sB, s0, sS])
      iterate 5 ((with_reducible refine kN ?_ ?_); (· rfl); simp only [pu, sB, s0, sS])
      iterate 2 ((with_reducible refine rN (v := .bool false) ?_ ?_ ?_); (· rfl); (· go_simp; (try with_reducible rfl)); simp only [pu, sB, s0, sS])
      go_wp2_with fail
      go_ret
      exact ⟨rfl, B3.out⟩
    | true =>
      have hq := HQ.out
      cases q with
      | false =>
        go_upto_region 16 with fail
        refine wp_region_lit ?_
        (with_reducible refine rN (v := .pointer (some ⟨pA, 0, none⟩)) ?_ ?_ ?_); (· rfl); (· go_simp; (try rfl)); simp only [pu, sB, s0, sS]
        with_reducible refine wpList_loadV (.tmp 44) (j := 0) (v := .int .i64 k) ?_ ?_ KA3.out ?_ Tryz.underlying3 ?_ ?_
        · rfl
        · rfl
        · exact (cells3_0 ..)
        · rfl
        simp only [pu, sB, s0, sS]
        iterate 2 ((with_reducible refine rN (v := .bool true) ?_ ?_ ?_); (· rfl); (· go_simp; (try with_reducible rfl)); simp only [pu, sB, s0, sS])
        (with_reducible refine rN (v := .pointer (some ⟨pA, 0, none⟩)) ?_ ?_ ?_); (· rfl); (· go_simp; (try rfl)); simp only [pu, sB, s0, sS]
        with_reducible refine wpList_loadV (.tmp 48) (j := 0) (v := .int .i64 k) ?_ ?_ KA3.out ?_ Tryz.underlying3 ?_ ?_
        · rfl
        · rfl
        · exact (cells3_0 ..)
        · rfl
        simp only [pu, sB, s0, sS]
        iterate 3 ((with_reducible refine rN (v := .bool true) ?_ ?_ ?_); (· rfl); (· go_simp; (try with_reducible rfl)); simp only [pu, sB, s0, sS])
        with_reducible refine wpList_loadS (.tmp 3) ?_ ?_ KU3.out Tryz.underlying27 ?_ (infoTM19 (cells3_sz (cellsF_size f fs))) ?_
        · rfl
        · rfl
        · rfl
        simp only [pu, sB, s0, sS]
        (with_reducible refine rN (v := .pointer (some ⟨pA, 0, none⟩)) ?_ ?_ ?_); (· rfl); (· go_simp; (try rfl)); simp only [pu, sB, s0, sS]
        with_reducible refine wpList_loadV (.tmp 54) (j := 0) (v := .int .i64 k) ?_ ?_ KA3.out ?_ Tryz.underlying3 ?_ ?_
        · rfl
        · rfl
        · exact (cells3_0 ..)
        · rfl
        simp only [pu, sB, s0, sS]
        (with_reducible refine rN (v := .agg (cells3 k 0 0 cellsZ)) ?_ ?_ ?_); (· rfl); (· go_simp; (try rfl)); simp only [pu, sB, s0, sS]
        iterate 3 ((with_reducible refine rN (v := .bool false) ?_ ?_ ?_); (· rfl); (· go_simp; (try with_reducible rfl)); simp only [pu, sB, s0, sS])
        go_wp2_with fail
        go_ret
        exact ⟨rfl, B3.out⟩
      | true =>
        go_upto_region 16 with fail
        refine wp_region_lit ?_
        (with_reducible refine rN (v := .pointer (some ⟨pA, 0, none⟩)) ?_ ?_ ?_); (· rfl); (· go_simp; (try rfl)); simp only [pu, sB, s0, sS]
        with_reducible refine wpList_loadV (.tmp 44) (j := 0) (v := .int .i64 k) ?_ ?_ KA3.out ?_ Tryz.underlying3 ?_ ?_
        · rfl
        · rfl
        · exact (cells3_0 ..)
        · rfl
        simp only [pu, sB, s0, sS]
        iterate 2 ((with_reducible refine rN (v := .bool true) ?_ ?_ ?_); (· rfl); (· go_simp; (try with_reducible rfl)); simp only [pu, sB, s0, sS])
        (with_reducible refine rN (v := .pointer (some ⟨pA, 0, none⟩)) ?_ ?_ ?_); (· rfl); (· go_simp; (try rfl)); simp only [pu, sB, s0, sS]
        with_reducible refine wpList_loadV (.tmp 48) (j := 0) (v := .int .i64 k) ?_ ?_ KA3.out ?_ Tryz.underlying3 ?_ ?_
        · rfl
        · rfl
        · exact (cells3_0 ..)
        · rfl
        simp only [pu, sB, s0, sS]
        iterate 3 ((with_reducible refine rN (v := .bool true) ?_ ?_ ?_); (· rfl); (· go_simp; (try with_reducible rfl)); simp only [pu, sB, s0, sS])
        with_reducible refine wpList_loadS (.tmp 3) ?_ ?_ KU3.out Tryz.underlying27 ?_ (infoTM19 (cells3_sz (cellsF_size f fs))) ?_
        · rfl
        · rfl
        · rfl
        simp only [pu, sB, s0, sS]
        (with_reducible refine rN (v := .pointer (some ⟨pA, 0, none⟩)) ?_ ?_ ?_); (· rfl); (· go_simp; (try rfl)); simp only [pu, sB, s0, sS]
        with_reducible refine wpList_loadV (.tmp 54) (j := 0) (v := .int .i64 k) ?_ ?_ KA3.out ?_ Tryz.underlying3 ?_ ?_
        · rfl
        · rfl
        · exact (cells3_0 ..)
        · rfl
        simp only [pu, sB, s0, sS]
        (with_reducible refine rN (v := .agg (cells3 k 0 0 cellsZ)) ?_ ?_ ?_); (· rfl); (· go_simp; (try rfl)); simp only [pu, sB, s0, sS]
        iterate 3 ((with_reducible refine rN (v := .bool true) ?_ ?_ ?_); (· rfl); (· go_simp; (try with_reducible rfl)); simp only [pu, sB, s0, sS])
        go_wp2_with fail
        go_ret
        exact ⟨rfl, B3.out⟩
end Go.Proofs.YtohgdmlpffeoiaaGreatDoor
namespace Go.Proofs.YtohgdmlpffeoiaaGreatDoor
open Go.RowKit
open Wd (Bs)

set_option maxHeartbeats 8000000 in
set_option maxRecDepth 100000 in
theorem rTxBad (k n c : Int) (f : Fil.Flt) (fs : ByteArray) (w : World)
    (HI : Hid (∀ W, Below w.heap.size w W → Calls Tryz.prog 10 #[.agg (cells3 k n c (cellsF f fs))] W fun e w' => e = .returned (.bool false) ∧ Below W.heap.size W w')) :
    Calls Tryz.prog 12 #[.agg (cells3 k n c (cellsF f fs))] w fun e w' => e = .returned (.string ⟨#[]⟩) ∧ Below w.heap.size w w' := by

  have B0 := Lib.hid (Below.refl w.heap.size w)
  go_enter Tryz.func12, Tryz.ntmps12
  go_upto_region 0 with fail
  refine wp_region_lit ?_
  obtain ⟨w1, hw⟩ : ∃ v, v = w.alloc (.cells (cells3 k n c (cellsF f fs)) 27) := ⟨_, rfl⟩
  obtain ⟨pA, hp⟩ : ∃ v, v = w.heap.size := ⟨_, rfl⟩
  have B1 : Hid (Below w.heap.size w w1) := Lib.hid (by rw [hw]; exact B0.out.alloc B0.out.size _)
  have LEA : Hid (w.heap.size ≤ pA) := Lib.hid (by rw [hp]; exact B0.out.size)
  have KA1 : Hid (Blk w1 pA (cells3 k n c (cellsF f fs)) 27) := Lib.hid (by rw [hw, hp]; exact Blk.new _ _ _)
  with_reducible refine wpList_runWV (some 1) (v := .pointer (some ⟨pA, 0, none⟩)) (w' := w1) ?_ ?_ ?_ ?_
  · rfl
  · rfl
  · rw [hw, hp]; (go_simp; (try rfl))
  simp only [pu, sB, s0, sS]
  clear hw hp
  clear B0
  (with_reducible refine rN (v := ?_) ?_ ?_ ?_); rotate_left; (· rfl); (· go_simp; (try with_reducible rfl)); simp only [pu, sB, s0, sS]
  go_upto_region 1 with fail
  refine wp_region_lit ?_
  with_reducible refine wpList_loadS (.tmp 1) ?_ ?_ KA1.out Tryz.underlying27 ?_ (infoTM19 (cells3_sz (cellsF_size f fs))) ?_
  · rfl
  · rfl
  · rfl
  simp only [pu, sB, s0, sS]
  go_wp2_with fail
  refine (HI.out _ B1.out).mono ?_
  rintro e w2 ⟨rfl, hb⟩
  have B2 := Lib.hid (B1.out.trans (hb.mono B1.out.size))
  have KA2 := Lib.hid (KA1.out.below hb KA1.out.lt)
  clear hb
  clear B1 KA1
  go_simp
  rename_i hKK
  refine hKK _ _ ?_
  clear hKK
  try simp only [pu, sB, s0, sS]
  (with_reducible refine rN (v := .bool true) ?_ ?_ ?_); (· rfl); (· go_simp; (try with_reducible rfl)); simp only [pu, sB, s0, sS]
  go_upto_region 2 with fail
  refine wp_region_lit ?_
  (with_reducible refine rN (v := ?_) ?_ ?_ ?_); rotate_left; (· rfl); (· go_simp; (try with_reducible rfl)); simp only [pu, sB, s0, sS]
  go_wp2_with fail
  go_ret
  exact ⟨rfl, B2.out⟩

set_option maxHeartbeats 8000000 in
set_option maxRecDepth 100000 in
theorem rTxConst (n c : Int) (f : Fil.Flt) (fs : ByteArray) (t : ByteArray) (w : World)
    (HI : Hid (∀ W, Below w.heap.size w W → Calls Tryz.prog 10 #[.agg (cells3 0 n c (cellsF f fs))] W fun e w' => e = .returned (.bool true) ∧ Below W.heap.size W w')) (HN : Hid (∀ W, Below w.heap.size w W → Calls Tryz.prog 22 #[.int .i64 n] W fun e w' => e = .returned (.string t) ∧ Below W.heap.size W w')) :
    Calls Tryz.prog 12 #[.agg (cells3 0 n c (cellsF f fs))] w fun e w' => e = .returned (.string t) ∧ Below w.heap.size w w' := by

  have B0 := Lib.hid (Below.refl w.heap.size w)
  go_enter Tryz.func12, Tryz.ntmps12
  go_upto_region 0 with fail
  refine wp_region_lit ?_
  obtain ⟨w1, hw⟩ : ∃ v, v = w.alloc (.cells (cells3 0 n c (cellsF f fs)) 27) := ⟨_, rfl⟩
  obtain ⟨pA, hp⟩ : ∃ v, v = w.heap.size := ⟨_, rfl⟩
  have B1 : Hid (Below w.heap.size w w1) := Lib.hid (by rw [hw]; exact B0.out.alloc B0.out.size _)
  have LEA : Hid (w.heap.size ≤ pA) := Lib.hid (by rw [hp]; exact B0.out.size)
  have KA1 : Hid (Blk w1 pA (cells3 0 n c (cellsF f fs)) 27) := Lib.hid (by rw [hw, hp]; exact Blk.new _ _ _)
  with_reducible refine wpList_runWV (some 1) (v := .pointer (some ⟨pA, 0, none⟩)) (w' := w1) ?_ ?_ ?_ ?_
  · rfl
  · rfl
  · rw [hw, hp]; (go_simp; (try rfl))
  simp only [pu, sB, s0, sS]
  clear hw hp
  clear B0
  (with_reducible refine rN (v := ?_) ?_ ?_ ?_); rotate_left; (· rfl); (· go_simp; (try with_reducible rfl)); simp only [pu, sB, s0, sS]
  go_upto_region 1 with fail
  refine wp_region_lit ?_
  with_reducible refine wpList_loadS (.tmp 1) ?_ ?_ KA1.out Tryz.underlying27 ?_ (infoTM19 (cells3_sz (cellsF_size f fs))) ?_
  · rfl
  · rfl
  · rfl
  simp only [pu, sB, s0, sS]
  go_wp2_with fail
  refine (HI.out _ B1.out).mono ?_
  rintro e w2 ⟨rfl, hb⟩
  have B2 := Lib.hid (B1.out.trans (hb.mono B1.out.size))
  have KA2 := Lib.hid (KA1.out.below hb KA1.out.lt)
  clear hb
  clear B1 KA1
  go_simp
  rename_i hKK
  refine hKK _ _ ?_
  clear hKK
  try simp only [pu, sB, s0, sS]
  (with_reducible refine rN (v := .bool false) ?_ ?_ ?_); (· rfl); (· go_simp; (try with_reducible rfl)); simp only [pu, sB, s0, sS]
  go_upto_region 3 with fail
  refine wp_region_lit ?_
  (with_reducible refine rN (v := .pointer (some ⟨pA, 0, none⟩)) ?_ ?_ ?_); (· rfl); (· go_simp; (try rfl)); simp only [pu, sB, s0, sS]
  with_reducible refine wpList_loadV (.tmp 7) (j := 0) (v := .int .i64 0) ?_ ?_ KA2.out ?_ Tryz.underlying3 ?_ ?_
  · rfl
  · rfl
  · exact (cells3_0 ..)
  · rfl
  simp only [pu, sB, s0, sS]
  go_upto_region 4 with fail
  refine wp_region_lit ?_
  iterate 2 ((with_reducible refine rN (v := .bool true) ?_ ?_ ?_); (· rfl); (· go_simp; (try with_reducible rfl)); simp only [pu, sB, s0, sS])
  go_upto_region 5 with fail
  refine wp_region_lit ?_
  (with_reducible refine rN (v := .pointer (some ⟨pA, 1, none⟩)) ?_ ?_ ?_); (· rfl); (· go_simp; (try rfl)); simp only [pu, sB, s0, sS]
  with_reducible refine wpList_loadV (.tmp 11) (j := 1) (v := .int .i64 n) ?_ ?_ KA2.out ?_ Tryz.underlying3 ?_ ?_
  · rfl
  · rfl
  · exact (cells3_1 ..)
  · rfl
  simp only [pu, sB, s0, sS]
  go_wp2_with fail
  refine (HN.out _ B2.out).mono ?_
  rintro e w3 ⟨rfl, hb⟩
  have B3 := Lib.hid (B2.out.trans (hb.mono B2.out.size))
  have KA3 := Lib.hid (KA2.out.below hb KA2.out.lt)
  clear hb
  clear B2 KA2
  go_simp
  rename_i hKK
  refine hKK _ _ ?_
  clear hKK
  try simp only [pu, sB, s0, sS]
  (with_reducible refine rN (v := ?_) ?_ ?_ ?_); rotate_left; (· rfl); (· go_simp; (try with_reducible rfl)); simp only [pu, sB, s0, sS]
  go_wp2_with fail
  go_ret
  exact ⟨rfl, B3.out⟩

set_option maxHeartbeats 8000000 in
set_option maxRecDepth 100000 in
theorem rTxCtr (n c : Int) (f : Fil.Flt) (fs : ByteArray) (t : ByteArray) (w : World)
    (HI : Hid (∀ W, Below w.heap.size w W → Calls Tryz.prog 10 #[.agg (cells3 4 n c (cellsF f fs))] W fun e w' => e = .returned (.bool true) ∧ Below W.heap.size W w')) (HN : Hid (∀ W, Below w.heap.size w W → Calls Tryz.prog 18 #[.int .i64 c] W fun e w' => e = .returned (.string t) ∧ Below W.heap.size W w')) (ht : t.size ≤ 1000000) :
    Calls Tryz.prog 12 #[.agg (cells3 4 n c (cellsF f fs))] w fun e w' => e = .returned (.string (⟨#[99, 111, 117, 110, 116, 101, 114, 115, 40]⟩ ++ t ++ ⟨#[41]⟩)) ∧ Below w.heap.size w w' := by

  have B0 := Lib.hid (Below.refl w.heap.size w)
  go_enter Tryz.func12, Tryz.ntmps12
  go_upto_region 0 with fail
  refine wp_region_lit ?_
  obtain ⟨w1, hw⟩ : ∃ v, v = w.alloc (.cells (cells3 4 n c (cellsF f fs)) 27) := ⟨_, rfl⟩
  obtain ⟨pA, hp⟩ : ∃ v, v = w.heap.size := ⟨_, rfl⟩
  have B1 : Hid (Below w.heap.size w w1) := Lib.hid (by rw [hw]; exact B0.out.alloc B0.out.size _)
  have LEA : Hid (w.heap.size ≤ pA) := Lib.hid (by rw [hp]; exact B0.out.size)
  have KA1 : Hid (Blk w1 pA (cells3 4 n c (cellsF f fs)) 27) := Lib.hid (by rw [hw, hp]; exact Blk.new _ _ _)
  with_reducible refine wpList_runWV (some 1) (v := .pointer (some ⟨pA, 0, none⟩)) (w' := w1) ?_ ?_ ?_ ?_
  · rfl
  · rfl
  · rw [hw, hp]; (go_simp; (try rfl))
  simp only [pu, sB, s0, sS]
  clear hw hp
  clear B0
  (with_reducible refine rN (v := ?_) ?_ ?_ ?_); rotate_left; (· rfl); (· go_simp; (try with_reducible rfl)); simp only [pu, sB, s0, sS]
  go_upto_region 1 with fail
  refine wp_region_lit ?_
  with_reducible refine wpList_loadS (.tmp 1) ?_ ?_ KA1.out Tryz.underlying27 ?_ (infoTM19 (cells3_sz (cellsF_size f fs))) ?_
  · rfl
  · rfl
  · rfl
  simp only [pu, sB, s0, sS]
  go_wp2_with fail
  refine (HI.out _ B1.out).mono ?_
  rintro e w2 ⟨rfl, hb⟩
  have B2 := Lib.hid (B1.out.trans (hb.mono B1.out.size))
  have KA2 := Lib.hid (KA1.out.below hb KA1.out.lt)
  clear hb
  clear B1 KA1
  go_simp
  rename_i hKK
  refine hKK _ _ ?_
  clear hKK
  try simp only [pu, sB, s0, sS]
  (with_reducible refine rN (v := .bool false) ?_ ?_ ?_); (· rfl); (· go_simp; (try with_reducible rfl)); simp only [pu, sB, s0, sS]
  go_upto_region 3 with fail
  refine wp_region_lit ?_
  (with_reducible refine rN (v := .pointer (some ⟨pA, 0, none⟩)) ?_ ?_ ?_); (· rfl); (· go_simp; (try rfl)); simp only [pu, sB, s0, sS]
  with_reducible refine wpList_loadV (.tmp 7) (j := 0) (v := .int .i64 4) ?_ ?_ KA2.out ?_ Tryz.underlying3 ?_ ?_
  · rfl
  · rfl
  · exact (cells3_0 ..)
  · rfl
  simp only [pu, sB, s0, sS]
  go_upto_region 4 with fail
  refine wp_region_lit ?_
  iterate 2 ((with_reducible refine rN (v := .bool false) ?_ ?_ ?_); (· rfl); (· go_simp; (try with_reducible rfl)); simp only [pu, sB, s0, sS])
  go_upto_region 6 with fail
  refine wp_region_lit ?_
  iterate 2 ((with_reducible refine rN (v := .bool false) ?_ ?_ ?_); (· rfl); (· go_simp; (try with_reducible rfl)); simp only [pu, sB, s0, sS])
  go_upto_region 8 with fail
  refine wp_region_lit ?_
  iterate 2 ((with_reducible refine rN (v := .bool false) ?_ ?_ ?_); (· rfl); (· go_simp; (try with_reducible rfl)); simp only [pu, sB, s0, sS])
  go_upto_region 13 with fail
  refine wp_region_lit ?_
  iterate 2 ((with_reducible refine rN (v := .bool false) ?_ ?_ ?_); (· rfl); (· go_simp; (try with_reducible rfl)); simp only [pu, sB, s0, sS])
  go_upto_region 15 with fail
  refine wp_region_lit ?_
  iterate 2 ((with_reducible refine rN (v := .bool true) ?_ ?_ ?_); (· rfl); (· go_simp; (try with_reducible rfl)); simp only [pu, sB, s0, sS])
  go_upto_region 16 with fail
  refine wp_region_lit ?_
  (with_reducible refine rN (v := .pointer (some ⟨pA, 2, none⟩)) ?_ ?_ ?_); (· rfl); (· go_simp; (try rfl)); simp only [pu, sB, s0, sS]
  with_reducible refine wpList_loadV (.tmp 37) (j := 2) (v := .int .i64 c) ?_ ?_ KA2.out ?_ Tryz.underlying3 ?_ ?_
  · rfl
  · rfl
  · exact (cells3_2 ..)
  · rfl
  simp only [pu, sB, s0, sS]
  go_wp2_with fail
  refine (HN.out _ B2.out).mono ?_
  rintro e w3 ⟨rfl, hb⟩
  have B3 := Lib.hid (B2.out.trans (hb.mono B2.out.size))
  have KA3 := Lib.hid (KA2.out.below hb KA2.out.lt)
  clear hb
  clear B2 KA2
  go_simp
  rename_i hKK
  refine hKK _ _ ?_
  clear hKK
  try simp only [pu, sB, s0, sS]
  (with_reducible refine rN (v := .string (⟨#[99, 111, 117, 110, 116, 101, 114, 115, 40]⟩ ++ t)) ?_ ?_ ?_); (· rfl); (· go_simp; omega); simp only [pu, sB, s0, sS]
  (with_reducible refine rN (v := .string (⟨#[99, 111, 117, 110, 116, 101, 114, 115, 40]⟩ ++ t ++ ⟨#[41]⟩)) ?_ ?_ ?_); (· rfl); (· go_simp; omega); simp only [pu, sB, s0, sS]
  (with_reducible refine rN (v := ?_) ?_ ?_ ?_); rotate_left; (· rfl); (· go_simp; (try with_reducible rfl)); simp only [pu, sB, s0, sS]
  go_wp2_with fail
  go_ret
  exact ⟨rfl, B3.out⟩

set_option maxHeartbeats 8000000 in
set_option maxRecDepth 100000 in
theorem rTxCountOne (n c : Int) (f : Fil.Flt) (fs : ByteArray) (t : ByteArray) (w : World)
    (HI : Hid (∀ W, Below w.heap.size w W → Calls Tryz.prog 10 #[.agg (cells3 2 n c (cellsF f fs))] W fun e w' => e = .returned (.bool true) ∧ Below W.heap.size W w')) (HF : Hid (∀ W, Below w.heap.size w W → Calls Tryz.prog 23 #[.agg (cellsF f fs)] W fun e w' => e = .returned (.string t) ∧ Below W.heap.size W w')) (h1 : (n == 1) = true) (ht : t.size ≤ 1000000) :
    Calls Tryz.prog 12 #[.agg (cells3 2 n c (cellsF f fs))] w fun e w' => e = .returned (.string (⟨#[99, 111, 117, 110, 116, 40]⟩ ++ t ++ ⟨#[41]⟩)) ∧ Below w.heap.size w w' := by

  have B0 := Lib.hid (Below.refl w.heap.size w)
  go_enter Tryz.func12, Tryz.ntmps12
  go_upto_region 0 with fail
  refine wp_region_lit ?_
  obtain ⟨w1, hw⟩ : ∃ v, v = w.alloc (.cells (cells3 2 n c (cellsF f fs)) 27) := ⟨_, rfl⟩
  obtain ⟨pA, hp⟩ : ∃ v, v = w.heap.size := ⟨_, rfl⟩
  have B1 : Hid (Below w.heap.size w w1) := Lib.hid (by rw [hw]; exact B0.out.alloc B0.out.size _)
  have LEA : Hid (w.heap.size ≤ pA) := Lib.hid (by rw [hp]; exact B0.out.size)
  have KA1 : Hid (Blk w1 pA (cells3 2 n c (cellsF f fs)) 27) := Lib.hid (by rw [hw, hp]; exact Blk.new _ _ _)
  with_reducible refine wpList_runWV (some 1) (v := .pointer (some ⟨pA, 0, none⟩)) (w' := w1) ?_ ?_ ?_ ?_
  · rfl
  · rfl
  · rw [hw, hp]; (go_simp; (try rfl))
  simp only [pu, sB, s0, sS]
  clear hw hp
  clear B0
  (with_reducible refine rN (v := ?_) ?_ ?_ ?_); rotate_left; (· rfl); (· go_simp; (try with_reducible rfl)); simp only [pu, sB, s0, sS]
  go_upto_region 1 with fail
  refine wp_region_lit ?_
  with_reducible refine wpList_loadS (.tmp 1) ?_ ?_ KA1.out Tryz.underlying27 ?_ (infoTM19 (cells3_sz (cellsF_size f fs))) ?_
  · rfl
  · rfl
  · rfl
  simp only [pu, sB, s0, sS]
  go_wp2_with fail
  refine (HI.out _ B1.out).mono ?_
  rintro e w2 ⟨rfl, hb⟩
  have B2 := Lib.hid (B1.out.trans (hb.mono B1.out.size))
  have KA2 := Lib.hid (KA1.out.below hb KA1.out.lt)
  clear hb
  clear B1 KA1
  go_simp
  rename_i hKK
  refine hKK _ _ ?_
  clear hKK
  try simp only [pu, sB, s0, sS]
  (with_reducible refine rN (v := .bool false) ?_ ?_ ?_); (· rfl); (· go_simp; (try with_reducible rfl)); simp only [pu, sB, s0, sS]
  go_upto_region 3 with fail
  refine wp_region_lit ?_
  (with_reducible refine rN (v := .pointer (some ⟨pA, 0, none⟩)) ?_ ?_ ?_); (· rfl); (· go_simp; (try rfl)); simp only [pu, sB, s0, sS]
  with_reducible refine wpList_loadV (.tmp 7) (j := 0) (v := .int .i64 2) ?_ ?_ KA2.out ?_ Tryz.underlying3 ?_ ?_
  · rfl
  · rfl
  · exact (cells3_0 ..)
  · rfl
  simp only [pu, sB, s0, sS]
  go_upto_region 4 with fail
  refine wp_region_lit ?_
  iterate 2 ((with_reducible refine rN (v := .bool false) ?_ ?_ ?_); (· rfl); (· go_simp; (try with_reducible rfl)); simp only [pu, sB, s0, sS])
  go_upto_region 6 with fail
  refine wp_region_lit ?_
  iterate 2 ((with_reducible refine rN (v := .bool false) ?_ ?_ ?_); (· rfl); (· go_simp; (try with_reducible rfl)); simp only [pu, sB, s0, sS])
  go_upto_region 8 with fail
  refine wp_region_lit ?_
  iterate 2 ((with_reducible refine rN (v := .bool true) ?_ ?_ ?_); (· rfl); (· go_simp; (try with_reducible rfl)); simp only [pu, sB, s0, sS])
  go_upto_region 9 with fail
  refine wp_region_lit ?_
  (with_reducible refine rN (v := .pointer (some ⟨pA, 3, none⟩)) ?_ ?_ ?_); (· rfl); (· go_simp; (try rfl)); simp only [pu, sB, s0, sS]
  with_reducible refine wpList_loadM (.tmp 18) (o := 3) (xs := (cellsF f fs)) ?_ ?_ KA2.out ?_ Tryz.underlying25 ?_ (infoTF16 (cellsF_size f fs)) ?_
  · rfl
  · rfl
  · exact cells3_part _ _ _ _
  · rfl
  simp only [pu, sB, s0, sS]
  go_wp2_with fail
  refine (HF.out _ B2.out).mono ?_
  rintro e w3 ⟨rfl, hb⟩
  have B3 := Lib.hid (B2.out.trans (hb.mono B2.out.size))
  have KA3 := Lib.hid (KA2.out.below hb KA2.out.lt)
  clear hb
  clear B2 KA2
  go_simp
  rename_i hKK
  refine hKK _ _ ?_
  clear hKK
  try simp only [pu, sB, s0, sS]
  (with_reducible refine rN (v := .string (⟨#[99, 111, 117, 110, 116, 40]⟩ ++ t)) ?_ ?_ ?_); (· rfl); (· go_simp; omega); simp only [pu, sB, s0, sS]
  (with_reducible refine rN (v := .string (⟨#[99, 111, 117, 110, 116, 40]⟩ ++ t ++ ⟨#[41]⟩)) ?_ ?_ ?_); (· rfl); (· go_simp; omega); simp only [pu, sB, s0, sS]
  (with_reducible refine rN (v := ?_) ?_ ?_ ?_); rotate_left; (· rfl); (· go_simp; (try with_reducible rfl)); simp only [pu, sB, s0, sS]
  go_upto_region 10 with fail
  refine wp_region_lit ?_
  (with_reducible refine rN (v := .pointer (some ⟨pA, 1, none⟩)) ?_ ?_ ?_); (· rfl); (· go_simp; (try rfl)); simp only [pu, sB, s0, sS]
  with_reducible refine wpList_loadV (.tmp 23) (j := 1) (v := .int .i64 n) ?_ ?_ KA3.out ?_ Tryz.underlying3 ?_ ?_
  · rfl
  · rfl
  · exact (cells3_1 ..)
  · rfl
  simp only [pu, sB, s0, sS]
  (with_reducible refine rN (v := .bool true) ?_ ?_ ?_); (· rfl); (· go_simp; (try with_reducible rfl)); simp only [pu, sB, s0, sS]
  go_upto_region 11 with fail
  refine wp_region_lit ?_
  iterate 2 ((with_reducible refine rN (v := ?_) ?_ ?_ ?_); rotate_left; (· rfl); (· go_simp; (try with_reducible rfl)); simp only [pu, sB, s0, sS])
  go_wp2_with fail
  go_ret
  exact ⟨rfl, B3.out⟩

set_option maxHeartbeats 8000000 in
set_option maxRecDepth 100000 in
theorem rTxCount (n c : Int) (f : Fil.Flt) (fs : ByteArray) (t u : ByteArray) (w : World)
    (HI : Hid (∀ W, Below w.heap.size w W → Calls Tryz.prog 10 #[.agg (cells3 2 n c (cellsF f fs))] W fun e w' => e = .returned (.bool true) ∧ Below W.heap.size W w')) (HF : Hid (∀ W, Below w.heap.size w W → Calls Tryz.prog 23 #[.agg (cellsF f fs)] W fun e w' => e = .returned (.string t) ∧ Below W.heap.size W w')) (h1 : (n == 1) = false) (ht : t.size ≤ 1000000) (HN : Hid (∀ W, Below w.heap.size w W → Calls Tryz.prog 22 #[.int .i64 n] W fun e w' => e = .returned (.string u) ∧ Below W.heap.size W w')) (hu : u.size ≤ 1000000) :
    Calls Tryz.prog 12 #[.agg (cells3 2 n c (cellsF f fs))] w fun e w' => e = .returned (.string (u ++ ⟨#[42]⟩ ++ (⟨#[99, 111, 117, 110, 116, 40]⟩ ++ t ++ ⟨#[41]⟩))) ∧ Below w.heap.size w w' := by

  have B0 := Lib.hid (Below.refl w.heap.size w)
  go_enter Tryz.func12, Tryz.ntmps12
  go_upto_region 0 with fail
  refine wp_region_lit ?_
  obtain ⟨w1, hw⟩ : ∃ v, v = w.alloc (.cells (cells3 2 n c (cellsF f fs)) 27) := ⟨_, rfl⟩
  obtain ⟨pA, hp⟩ : ∃ v, v = w.heap.size := ⟨_, rfl⟩
  have B1 : Hid (Below w.heap.size w w1) := Lib.hid (by rw [hw]; exact B0.out.alloc B0.out.size _)
  have LEA : Hid (w.heap.size ≤ pA) := Lib.hid (by rw [hp]; exact B0.out.size)
  have KA1 : Hid (Blk w1 pA (cells3 2 n c (cellsF f fs)) 27) := Lib.hid (by rw [hw, hp]; exact Blk.new _ _ _)
  with_reducible refine wpList_runWV (some 1) (v := .pointer (some ⟨pA, 0, none⟩)) (w' := w1) ?_ ?_ ?_ ?_
  · rfl
  · rfl
  · rw [hw, hp]; (go_simp; (try rfl))
  simp only [pu, sB, s0, sS]
  clear hw hp
  clear B0
  (with_reducible refine rN (v := ?_) ?_ ?_ ?_); rotate_left; (· rfl); (· go_simp; (try with_reducible rfl)); simp only [pu, sB, s0, sS]
  go_upto_region 1 with fail
  refine wp_region_lit ?_
  with_reducible refine wpList_loadS (.tmp 1) ?_ ?_ KA1.out Tryz.underlying27 ?_ (infoTM19 (cells3_sz (cellsF_size f fs))) ?_
  · rfl
  · rfl
  · rfl
  simp only [pu, sB, s0, sS]
  go_wp2_with fail
  refine (HI.out _ B1.out).mono ?_
  rintro e w2 ⟨rfl, hb⟩
  have B2 := Lib.hid (B1.out.trans (hb.mono B1.out.size))
  have KA2 := Lib.hid (KA1.out.below hb KA1.out.lt)
  clear hb
  clear B1 KA1
  go_simp
  rename_i hKK
  refine hKK _ _ ?_
  clear hKK
  try simp only [pu, sB, s0, sS]
  (with_reducible refine rN (v := .bool false) ?_ ?_ ?_); (· rfl); (· go_simp; (try with_reducible rfl)); simp only [pu, sB, s0, sS]
  go_upto_region 3 with fail
  refine wp_region_lit ?_
  (with_reducible refine rN (v := .pointer (some ⟨pA, 0, none⟩)) ?_ ?_ ?_); (· rfl); (· go_simp; (try rfl)); simp only [pu, sB, s0, sS]
  with_reducible refine wpList_loadV (.tmp 7) (j := 0) (v := .int .i64 2) ?_ ?_ KA2.out ?_ Tryz.underlying3 ?_ ?_
  · rfl
  · rfl
  · exact (cells3_0 ..)
  · rfl
  simp only [pu, sB, s0, sS]
  go_upto_region 4 with fail
  refine wp_region_lit ?_
  iterate 2 ((with_reducible refine rN (v := .bool false) ?_ ?_ ?_); (· rfl); (· go_simp; (try with_reducible rfl)); simp only [pu, sB, s0, sS])
  go_upto_region 6 with fail
  refine wp_region_lit ?_
  iterate 2 ((with_reducible refine rN (v := .bool false) ?_ ?_ ?_); (· rfl); (· go_simp; (try with_reducible rfl)); simp only [pu, sB, s0, sS])
  go_upto_region 8 with fail
  refine wp_region_lit ?_
  iterate 2 ((with_reducible refine rN (v := .bool true) ?_ ?_ ?_); (· rfl); (· go_simp; (try with_reducible rfl)); simp only [pu, sB, s0, sS])
  go_upto_region 9 with fail
  refine wp_region_lit ?_
  (with_reducible refine rN (v := .pointer (some ⟨pA, 3, none⟩)) ?_ ?_ ?_); (· rfl); (· go_simp; (try rfl)); simp only [pu, sB, s0, sS]
  with_reducible refine wpList_loadM (.tmp 18) (o := 3) (xs := (cellsF f fs)) ?_ ?_ KA2.out ?_ Tryz.underlying25 ?_ (infoTF16 (cellsF_size f fs)) ?_
  · rfl
  · rfl
  · exact cells3_part _ _ _ _
  · rfl
  simp only [pu, sB, s0, sS]
  go_wp2_with fail
  refine (HF.out _ B2.out).mono ?_
  rintro e w3 ⟨rfl, hb⟩
  have B3 := Lib.hid (B2.out.trans (hb.mono B2.out.size))
  have KA3 := Lib.hid (KA2.out.below hb KA2.out.lt)
  clear hb
  clear B2 KA2
  go_simp
  rename_i hKK
  refine hKK _ _ ?_
  clear hKK
  try simp only [pu, sB, s0, sS]
  (with_reducible refine rN (v := .string (⟨#[99, 111, 117, 110, 116, 40]⟩ ++ t)) ?_ ?_ ?_); (· rfl); (· go_simp; omega); simp only [pu, sB, s0, sS]
  (with_reducible refine rN (v := .string (⟨#[99, 111, 117, 110, 116, 40]⟩ ++ t ++ ⟨#[41]⟩)) ?_ ?_ ?_); (· rfl); (· go_simp; omega); simp only [pu, sB, s0, sS]
  (with_reducible refine rN (v := ?_) ?_ ?_ ?_); rotate_left; (· rfl); (· go_simp; (try with_reducible rfl)); simp only [pu, sB, s0, sS]
  go_upto_region 10 with fail
  refine wp_region_lit ?_
  (with_reducible refine rN (v := .pointer (some ⟨pA, 1, none⟩)) ?_ ?_ ?_); (· rfl); (· go_simp; (try rfl)); simp only [pu, sB, s0, sS]
  with_reducible refine wpList_loadV (.tmp 23) (j := 1) (v := .int .i64 n) ?_ ?_ KA3.out ?_ Tryz.underlying3 ?_ ?_
  · rfl
  · rfl
  · exact (cells3_1 ..)
  · rfl
  simp only [pu, sB, s0, sS]
  (with_reducible refine rN (v := .bool false) ?_ ?_ ?_); (· rfl); (· go_simp; (try with_reducible rfl)); simp only [pu, sB, s0, sS]
  go_upto_region 12 with fail
  refine wp_region_lit ?_
  (with_reducible refine rN (v := .pointer (some ⟨pA, 1, none⟩)) ?_ ?_ ?_); (· rfl); (· go_simp; (try rfl)); simp only [pu, sB, s0, sS]
  with_reducible refine wpList_loadV (.tmp 27) (j := 1) (v := .int .i64 n) ?_ ?_ KA3.out ?_ Tryz.underlying3 ?_ ?_
  · rfl
  · rfl
  · exact (cells3_1 ..)
  · rfl
  simp only [pu, sB, s0, sS]
  go_wp2_with fail
  refine (HN.out _ B3.out).mono ?_
  rintro e w4 ⟨rfl, hb⟩
  have B4 := Lib.hid (B3.out.trans (hb.mono B3.out.size))
  have KA4 := Lib.hid (KA3.out.below hb KA3.out.lt)
  clear hb
  clear B3 KA3
  go_simp
  rename_i hKK
  refine hKK _ _ ?_
  clear hKK
  try simp only [pu, sB, s0, sS]
  (with_reducible refine rN (v := .string (u ++ ⟨#[42]⟩)) ?_ ?_ ?_); (· rfl); (· go_simp; omega); simp only [pu, sB, s0, sS]
  (with_reducible refine rN (v := ?_) ?_ ?_ ?_); rotate_left; (· rfl); (· go_simp; (try with_reducible rfl)); simp only [pu, sB, s0, sS]
  (with_reducible refine rN (v := .string (u ++ ⟨#[42]⟩ ++ (⟨#[99, 111, 117, 110, 116, 40]⟩ ++ t ++ ⟨#[41]⟩))) ?_ ?_ ?_); (· rfl); (· go_simp; omega); simp only [pu, sB, s0, sS]
  (with_reducible refine rN (v := ?_) ?_ ?_ ?_); rotate_left; (· rfl); (· go_simp; (try with_reducible rfl)); simp only [pu, sB, s0, sS]
  go_wp2_with fail
  go_ret
  exact ⟨rfl, B4.out⟩

set_option maxHeartbeats 8000000 in
set_option maxRecDepth 100000 in
theorem rTxWord1 (n c : Int) (f : Fil.Flt) (fs : ByteArray) (w : World)
    (HI : Hid (∀ W, Below w.heap.size w W → Calls Tryz.prog 10 #[.agg (cells3 1 n c (cellsF f fs))] W fun e w' => e = .returned (.bool true) ∧ Below W.heap.size W w')) :
    Calls Tryz.prog 12 #[.agg (cells3 1 n c (cellsF f fs))] w fun e w' => e = .returned (.string ⟨#[120]⟩) ∧ Below w.heap.size w w' := by

  have B0 := Lib.hid (Below.refl w.heap.size w)
  go_enter Tryz.func12, Tryz.ntmps12
  go_upto_region 0 with fail
  refine wp_region_lit ?_
  obtain ⟨w1, hw⟩ : ∃ v, v = w.alloc (.cells (cells3 1 n c (cellsF f fs)) 27) := ⟨_, rfl⟩
  obtain ⟨pA, hp⟩ : ∃ v, v = w.heap.size := ⟨_, rfl⟩
  have B1 : Hid (Below w.heap.size w w1) := Lib.hid (by rw [hw]; exact B0.out.alloc B0.out.size _)
  have LEA : Hid (w.heap.size ≤ pA) := Lib.hid (by rw [hp]; exact B0.out.size)
  have KA1 : Hid (Blk w1 pA (cells3 1 n c (cellsF f fs)) 27) := Lib.hid (by rw [hw, hp]; exact Blk.new _ _ _)
  with_reducible refine wpList_runWV (some 1) (v := .pointer (some ⟨pA, 0, none⟩)) (w' := w1) ?_ ?_ ?_ ?_
  · rfl
  · rfl
  · rw [hw, hp]; (go_simp; (try rfl))
  simp only [pu, sB, s0, sS]
  clear hw hp
  clear B0
  (with_reducible refine rN (v := ?_) ?_ ?_ ?_); rotate_left; (· rfl); (· go_simp; (try with_reducible rfl)); simp only [pu, sB, s0, sS]
  go_upto_region 1 with fail
  refine wp_region_lit ?_
  with_reducible refine wpList_loadS (.tmp 1) ?_ ?_ KA1.out Tryz.underlying27 ?_ (infoTM19 (cells3_sz (cellsF_size f fs))) ?_
  · rfl
  · rfl
  · rfl
  simp only [pu, sB, s0, sS]
  go_wp2_with fail
  refine (HI.out _ B1.out).mono ?_
  rintro e w2 ⟨rfl, hb⟩
  have B2 := Lib.hid (B1.out.trans (hb.mono B1.out.size))
  have KA2 := Lib.hid (KA1.out.below hb KA1.out.lt)
  clear hb
  clear B1 KA1
  go_simp
  rename_i hKK
  refine hKK _ _ ?_
  clear hKK
  try simp only [pu, sB, s0, sS]
  (with_reducible refine rN (v := .bool false) ?_ ?_ ?_); (· rfl); (· go_simp; (try with_reducible rfl)); simp only [pu, sB, s0, sS]
  go_upto_region 3 with fail
  refine wp_region_lit ?_
  (with_reducible refine rN (v := .pointer (some ⟨pA, 0, none⟩)) ?_ ?_ ?_); (· rfl); (· go_simp; (try rfl)); simp only [pu, sB, s0, sS]
  with_reducible refine wpList_loadV (.tmp 7) (j := 0) (v := .int .i64 1) ?_ ?_ KA2.out ?_ Tryz.underlying3 ?_ ?_
  · rfl
  · rfl
  · exact (cells3_0 ..)
  · rfl
  simp only [pu, sB, s0, sS]
  go_upto_region 4 with fail
  refine wp_region_lit ?_
  iterate 2 ((with_reducible refine rN (v := .bool false) ?_ ?_ ?_); (· rfl); (· go_simp; (try with_reducible rfl)); simp only [pu, sB, s0, sS])
  go_upto_region 6 with fail
  refine wp_region_lit ?_
  iterate 2 ((with_reducible refine rN (v := .bool true) ?_ ?_ ?_); (· rfl); (· go_simp; (try with_reducible rfl)); simp only [pu, sB, s0, sS])
  go_upto_region 7 with fail
  refine wp_region_lit ?_
  (with_reducible refine rN (v := ?_) ?_ ?_ ?_); rotate_left; (· rfl); (· go_simp; (try with_reducible rfl)); simp only [pu, sB, s0, sS]
  go_wp2_with fail
  go_ret
  exact ⟨rfl, B2.out⟩

set_option maxHeartbeats 8000000 in
set_option maxRecDepth 100000 in
theorem rTxWord3 (n c : Int) (f : Fil.Flt) (fs : ByteArray) (w : World)
    (HI : Hid (∀ W, Below w.heap.size w W → Calls Tryz.prog 10 #[.agg (cells3 3 n c (cellsF f fs))] W fun e w' => e = .returned (.bool true) ∧ Below W.heap.size W w')) :
    Calls Tryz.prog 12 #[.agg (cells3 3 n c (cellsF f fs))] w fun e w' => e = .returned (.string ⟨#[112, 111, 119, 101, 114]⟩) ∧ Below w.heap.size w w' := by

  have B0 := Lib.hid (Below.refl w.heap.size w)
  go_enter Tryz.func12, Tryz.ntmps12
  go_upto_region 0 with fail
  refine wp_region_lit ?_
  obtain ⟨w1, hw⟩ : ∃ v, v = w.alloc (.cells (cells3 3 n c (cellsF f fs)) 27) := ⟨_, rfl⟩
  obtain ⟨pA, hp⟩ : ∃ v, v = w.heap.size := ⟨_, rfl⟩
  have B1 : Hid (Below w.heap.size w w1) := Lib.hid (by rw [hw]; exact B0.out.alloc B0.out.size _)
  have LEA : Hid (w.heap.size ≤ pA) := Lib.hid (by rw [hp]; exact B0.out.size)
  have KA1 : Hid (Blk w1 pA (cells3 3 n c (cellsF f fs)) 27) := Lib.hid (by rw [hw, hp]; exact Blk.new _ _ _)
  with_reducible refine wpList_runWV (some 1) (v := .pointer (some ⟨pA, 0, none⟩)) (w' := w1) ?_ ?_ ?_ ?_
  · rfl
  · rfl
  · rw [hw, hp]; (go_simp; (try rfl))
  simp only [pu, sB, s0, sS]
  clear hw hp
  clear B0
  (with_reducible refine rN (v := ?_) ?_ ?_ ?_); rotate_left; (· rfl); (· go_simp; (try with_reducible rfl)); simp only [pu, sB, s0, sS]
  go_upto_region 1 with fail
  refine wp_region_lit ?_
  with_reducible refine wpList_loadS (.tmp 1) ?_ ?_ KA1.out Tryz.underlying27 ?_ (infoTM19 (cells3_sz (cellsF_size f fs))) ?_
  · rfl
  · rfl
  · rfl
  simp only [pu, sB, s0, sS]
  go_wp2_with fail
  refine (HI.out _ B1.out).mono ?_
  rintro e w2 ⟨rfl, hb⟩
  have B2 := Lib.hid (B1.out.trans (hb.mono B1.out.size))
  have KA2 := Lib.hid (KA1.out.below hb KA1.out.lt)
  clear hb
  clear B1 KA1
  go_simp
  rename_i hKK
  refine hKK _ _ ?_
  clear hKK
  try simp only [pu, sB, s0, sS]
  (with_reducible refine rN (v := .bool false) ?_ ?_ ?_); (· rfl); (· go_simp; (try with_reducible rfl)); simp only [pu, sB, s0, sS]
  go_upto_region 3 with fail
  refine wp_region_lit ?_
  (with_reducible refine rN (v := .pointer (some ⟨pA, 0, none⟩)) ?_ ?_ ?_); (· rfl); (· go_simp; (try rfl)); simp only [pu, sB, s0, sS]
  with_reducible refine wpList_loadV (.tmp 7) (j := 0) (v := .int .i64 3) ?_ ?_ KA2.out ?_ Tryz.underlying3 ?_ ?_
  · rfl
  · rfl
  · exact (cells3_0 ..)
  · rfl
  simp only [pu, sB, s0, sS]
  go_upto_region 4 with fail
  refine wp_region_lit ?_
  iterate 2 ((with_reducible refine rN (v := .bool false) ?_ ?_ ?_); (· rfl); (· go_simp; (try with_reducible rfl)); simp only [pu, sB, s0, sS])
  go_upto_region 6 with fail
  refine wp_region_lit ?_
  iterate 2 ((with_reducible refine rN (v := .bool false) ?_ ?_ ?_); (· rfl); (· go_simp; (try with_reducible rfl)); simp only [pu, sB, s0, sS])
  go_upto_region 8 with fail
  refine wp_region_lit ?_
  iterate 2 ((with_reducible refine rN (v := .bool false) ?_ ?_ ?_); (· rfl); (· go_simp; (try with_reducible rfl)); simp only [pu, sB, s0, sS])
  go_upto_region 13 with fail
  refine wp_region_lit ?_
  iterate 2 ((with_reducible refine rN (v := .bool true) ?_ ?_ ?_); (· rfl); (· go_simp; (try with_reducible rfl)); simp only [pu, sB, s0, sS])
  go_upto_region 14 with fail
  refine wp_region_lit ?_
  (with_reducible refine rN (v := ?_) ?_ ?_ ?_); rotate_left; (· rfl); (· go_simp; (try with_reducible rfl)); simp only [pu, sB, s0, sS]
  go_wp2_with fail
  go_ret
  exact ⟨rfl, B2.out⟩

set_option maxHeartbeats 8000000 in
set_option maxRecDepth 100000 in
theorem rTxWord5 (n c : Int) (f : Fil.Flt) (fs : ByteArray) (w : World)
    (HI : Hid (∀ W, Below w.heap.size w W → Calls Tryz.prog 10 #[.agg (cells3 5 n c (cellsF f fs))] W fun e w' => e = .returned (.bool true) ∧ Below W.heap.size W w')) :
    Calls Tryz.prog 12 #[.agg (cells3 5 n c (cellsF f fs))] w fun e w' => e = .returned (.string ⟨#[108, 105, 102, 101]⟩) ∧ Below w.heap.size w w' := by

  have B0 := Lib.hid (Below.refl w.heap.size w)
  go_enter Tryz.func12, Tryz.ntmps12
  go_upto_region 0 with fail
  refine wp_region_lit ?_
  obtain ⟨w1, hw⟩ : ∃ v, v = w.alloc (.cells (cells3 5 n c (cellsF f fs)) 27) := ⟨_, rfl⟩
  obtain ⟨pA, hp⟩ : ∃ v, v = w.heap.size := ⟨_, rfl⟩
  have B1 : Hid (Below w.heap.size w w1) := Lib.hid (by rw [hw]; exact B0.out.alloc B0.out.size _)
  have LEA : Hid (w.heap.size ≤ pA) := Lib.hid (by rw [hp]; exact B0.out.size)
  have KA1 : Hid (Blk w1 pA (cells3 5 n c (cellsF f fs)) 27) := Lib.hid (by rw [hw, hp]; exact Blk.new _ _ _)
  with_reducible refine wpList_runWV (some 1) (v := .pointer (some ⟨pA, 0, none⟩)) (w' := w1) ?_ ?_ ?_ ?_
  · rfl
  · rfl
  · rw [hw, hp]; (go_simp; (try rfl))
  simp only [pu, sB, s0, sS]
  clear hw hp
  clear B0
  (with_reducible refine rN (v := ?_) ?_ ?_ ?_); rotate_left; (· rfl); (· go_simp; (try with_reducible rfl)); simp only [pu, sB, s0, sS]
  go_upto_region 1 with fail
  refine wp_region_lit ?_
  with_reducible refine wpList_loadS (.tmp 1) ?_ ?_ KA1.out Tryz.underlying27 ?_ (infoTM19 (cells3_sz (cellsF_size f fs))) ?_
  · rfl
  · rfl
  · rfl
  simp only [pu, sB, s0, sS]
  go_wp2_with fail
  refine (HI.out _ B1.out).mono ?_
  rintro e w2 ⟨rfl, hb⟩
  have B2 := Lib.hid (B1.out.trans (hb.mono B1.out.size))
  have KA2 := Lib.hid (KA1.out.below hb KA1.out.lt)
  clear hb
  clear B1 KA1
  go_simp
  rename_i hKK
  refine hKK _ _ ?_
  clear hKK
  try simp only [pu, sB, s0, sS]
  (with_reducible refine rN (v := .bool false) ?_ ?_ ?_); (· rfl); (· go_simp; (try with_reducible rfl)); simp only [pu, sB, s0, sS]
  go_upto_region 3 with fail
  refine wp_region_lit ?_
  (with_reducible refine rN (v := .pointer (some ⟨pA, 0, none⟩)) ?_ ?_ ?_); (· rfl); (· go_simp; (try rfl)); simp only [pu, sB, s0, sS]
  with_reducible refine wpList_loadV (.tmp 7) (j := 0) (v := .int .i64 5) ?_ ?_ KA2.out ?_ Tryz.underlying3 ?_ ?_
  · rfl
  · rfl
  · exact (cells3_0 ..)
  · rfl
  simp only [pu, sB, s0, sS]
  go_upto_region 4 with fail
  refine wp_region_lit ?_
  iterate 2 ((with_reducible refine rN (v := .bool false) ?_ ?_ ?_); (· rfl); (· go_simp; (try with_reducible rfl)); simp only [pu, sB, s0, sS])
  go_upto_region 6 with fail
  refine wp_region_lit ?_
  iterate 2 ((with_reducible refine rN (v := .bool false) ?_ ?_ ?_); (· rfl); (· go_simp; (try with_reducible rfl)); simp only [pu, sB, s0, sS])
  go_upto_region 8 with fail
  refine wp_region_lit ?_
  iterate 2 ((with_reducible refine rN (v := .bool false) ?_ ?_ ?_); (· rfl); (· go_simp; (try with_reducible rfl)); simp only [pu, sB, s0, sS])
  go_upto_region 13 with fail
  refine wp_region_lit ?_
  iterate 2 ((with_reducible refine rN (v := .bool false) ?_ ?_ ?_); (· rfl); (· go_simp; (try with_reducible rfl)); simp only [pu, sB, s0, sS])
  go_upto_region 15 with fail
  refine wp_region_lit ?_
  iterate 2 ((with_reducible refine rN (v := .bool false) ?_ ?_ ?_); (· rfl); (· go_simp; (try with_reducible rfl)); simp only [pu, sB, s0, sS])
  go_upto_region 17 with fail
  refine wp_region_lit ?_
  iterate 2 ((with_reducible refine rN (v := .bool true) ?_ ?_ ?_); (· rfl); (· go_simp; (try with_reducible rfl)); simp only [pu, sB, s0, sS])
  go_upto_region 18 with fail
  refine wp_region_lit ?_
  (with_reducible refine rN (v := ?_) ?_ ?_ ?_); rotate_left; (· rfl); (· go_simp; (try with_reducible rfl)); simp only [pu, sB, s0, sS]
  go_wp2_with fail
  go_ret
  exact ⟨rfl, B2.out⟩

set_option maxHeartbeats 8000000 in
set_option maxRecDepth 100000 in
theorem rTxWord6 (n c : Int) (f : Fil.Flt) (fs : ByteArray) (w : World)
    (HI : Hid (∀ W, Below w.heap.size w W → Calls Tryz.prog 10 #[.agg (cells3 6 n c (cellsF f fs))] W fun e w' => e = .returned (.bool true) ∧ Below W.heap.size W w')) :
    Calls Tryz.prog 12 #[.agg (cells3 6 n c (cellsF f fs))] w fun e w' => e = .returned (.string ⟨#[104, 97, 110, 100]⟩) ∧ Below w.heap.size w w' := by

  have B0 := Lib.hid (Below.refl w.heap.size w)
  go_enter Tryz.func12, Tryz.ntmps12
  go_upto_region 0 with fail
  refine wp_region_lit ?_
  obtain ⟨w1, hw⟩ : ∃ v, v = w.alloc (.cells (cells3 6 n c (cellsF f fs)) 27) := ⟨_, rfl⟩
  obtain ⟨pA, hp⟩ : ∃ v, v = w.heap.size := ⟨_, rfl⟩
  have B1 : Hid (Below w.heap.size w w1) := Lib.hid (by rw [hw]; exact B0.out.alloc B0.out.size _)
  have LEA : Hid (w.heap.size ≤ pA) := Lib.hid (by rw [hp]; exact B0.out.size)
  have KA1 : Hid (Blk w1 pA (cells3 6 n c (cellsF f fs)) 27) := Lib.hid (by rw [hw, hp]; exact Blk.new _ _ _)
  with_reducible refine wpList_runWV (some 1) (v := .pointer (some ⟨pA, 0, none⟩)) (w' := w1) ?_ ?_ ?_ ?_
  · rfl
  · rfl
  · rw [hw, hp]; (go_simp; (try rfl))
  simp only [pu, sB, s0, sS]
  clear hw hp
  clear B0
  (with_reducible refine rN (v := ?_) ?_ ?_ ?_); rotate_left; (· rfl); (· go_simp; (try with_reducible rfl)); simp only [pu, sB, s0, sS]
  go_upto_region 1 with fail
  refine wp_region_lit ?_
  with_reducible refine wpList_loadS (.tmp 1) ?_ ?_ KA1.out Tryz.underlying27 ?_ (infoTM19 (cells3_sz (cellsF_size f fs))) ?_
  · rfl
  · rfl
  · rfl
  simp only [pu, sB, s0, sS]
  go_wp2_with fail
  refine (HI.out _ B1.out).mono ?_
  rintro e w2 ⟨rfl, hb⟩
  have B2 := Lib.hid (B1.out.trans (hb.mono B1.out.size))
  have KA2 := Lib.hid (KA1.out.below hb KA1.out.lt)
  clear hb
  clear B1 KA1
  go_simp
  rename_i hKK
  refine hKK _ _ ?_
  clear hKK
  try simp only [pu, sB, s0, sS]
  (with_reducible refine rN (v := .bool false) ?_ ?_ ?_); (· rfl); (· go_simp; (try with_reducible rfl)); simp only [pu, sB, s0, sS]
  go_upto_region 3 with fail
  refine wp_region_lit ?_
  (with_reducible refine rN (v := .pointer (some ⟨pA, 0, none⟩)) ?_ ?_ ?_); (· rfl); (· go_simp; (try rfl)); simp only [pu, sB, s0, sS]
  with_reducible refine wpList_loadV (.tmp 7) (j := 0) (v := .int .i64 6) ?_ ?_ KA2.out ?_ Tryz.underlying3 ?_ ?_
  · rfl
  · rfl
  · exact (cells3_0 ..)
  · rfl
  simp only [pu, sB, s0, sS]
  go_upto_region 4 with fail
  refine wp_region_lit ?_
  iterate 2 ((with_reducible refine rN (v := .bool false) ?_ ?_ ?_); (· rfl); (· go_simp; (try with_reducible rfl)); simp only [pu, sB, s0, sS])
  go_upto_region 6 with fail
  refine wp_region_lit ?_
  iterate 2 ((with_reducible refine rN (v := .bool false) ?_ ?_ ?_); (· rfl); (· go_simp; (try with_reducible rfl)); simp only [pu, sB, s0, sS])
  go_upto_region 8 with fail
  refine wp_region_lit ?_
  iterate 2 ((with_reducible refine rN (v := .bool false) ?_ ?_ ?_); (· rfl); (· go_simp; (try with_reducible rfl)); simp only [pu, sB, s0, sS])
  go_upto_region 13 with fail
  refine wp_region_lit ?_
  iterate 2 ((with_reducible refine rN (v := .bool false) ?_ ?_ ?_); (· rfl); (· go_simp; (try with_reducible rfl)); simp only [pu, sB, s0, sS])
  go_upto_region 15 with fail
  refine wp_region_lit ?_
  iterate 2 ((with_reducible refine rN (v := .bool false) ?_ ?_ ?_); (· rfl); (· go_simp; (try with_reducible rfl)); simp only [pu, sB, s0, sS])
  go_upto_region 17 with fail
  refine wp_region_lit ?_
  iterate 2 ((with_reducible refine rN (v := .bool false) ?_ ?_ ?_); (· rfl); (· go_simp; (try with_reducible rfl)); simp only [pu, sB, s0, sS])
  go_upto_region 19 with fail
  refine wp_region_lit ?_
  iterate 2 ((with_reducible refine rN (v := .bool true) ?_ ?_ ?_); (· rfl); (· go_simp; (try with_reducible rfl)); simp only [pu, sB, s0, sS])
  go_upto_region 20 with fail
  refine wp_region_lit ?_
  (with_reducible refine rN (v := ?_) ?_ ?_ ?_); rotate_left; (· rfl); (· go_simp; (try with_reducible rfl)); simp only [pu, sB, s0, sS]
  go_wp2_with fail
  go_ret
  exact ⟨rfl, B2.out⟩

set_option maxHeartbeats 8000000 in
set_option maxRecDepth 100000 in
theorem rTxWord7 (n c : Int) (f : Fil.Flt) (fs : ByteArray) (w : World)
    (HI : Hid (∀ W, Below w.heap.size w W → Calls Tryz.prog 10 #[.agg (cells3 7 n c (cellsF f fs))] W fun e w' => e = .returned (.bool true) ∧ Below W.heap.size W w')) :
    Calls Tryz.prog 12 #[.agg (cells3 7 n c (cellsF f fs))] w fun e w' => e = .returned (.string ⟨#[116, 104, 97, 116]⟩) ∧ Below w.heap.size w w' := by

  have B0 := Lib.hid (Below.refl w.heap.size w)
  go_enter Tryz.func12, Tryz.ntmps12
  go_upto_region 0 with fail
  refine wp_region_lit ?_
  obtain ⟨w1, hw⟩ : ∃ v, v = w.alloc (.cells (cells3 7 n c (cellsF f fs)) 27) := ⟨_, rfl⟩
  obtain ⟨pA, hp⟩ : ∃ v, v = w.heap.size := ⟨_, rfl⟩
  have B1 : Hid (Below w.heap.size w w1) := Lib.hid (by rw [hw]; exact B0.out.alloc B0.out.size _)
  have LEA : Hid (w.heap.size ≤ pA) := Lib.hid (by rw [hp]; exact B0.out.size)
  have KA1 : Hid (Blk w1 pA (cells3 7 n c (cellsF f fs)) 27) := Lib.hid (by rw [hw, hp]; exact Blk.new _ _ _)
  with_reducible refine wpList_runWV (some 1) (v := .pointer (some ⟨pA, 0, none⟩)) (w' := w1) ?_ ?_ ?_ ?_
  · rfl
  · rfl
  · rw [hw, hp]; (go_simp; (try rfl))
  simp only [pu, sB, s0, sS]
  clear hw hp
  clear B0
  (with_reducible refine rN (v := ?_) ?_ ?_ ?_); rotate_left; (· rfl); (· go_simp; (try with_reducible rfl)); simp only [pu, sB, s0, sS]
  go_upto_region 1 with fail
  refine wp_region_lit ?_
  with_reducible refine wpList_loadS (.tmp 1) ?_ ?_ KA1.out Tryz.underlying27 ?_ (infoTM19 (cells3_sz (cellsF_size f fs))) ?_
  · rfl
  · rfl
  · rfl
  simp only [pu, sB, s0, sS]
  go_wp2_with fail
  refine (HI.out _ B1.out).mono ?_
  rintro e w2 ⟨rfl, hb⟩
  have B2 := Lib.hid (B1.out.trans (hb.mono B1.out.size))
  have KA2 := Lib.hid (KA1.out.below hb KA1.out.lt)
  clear hb
  clear B1 KA1
  go_simp
  rename_i hKK
  refine hKK _ _ ?_
  clear hKK
  try simp only [pu, sB, s0, sS]
  (with_reducible refine rN (v := .bool false) ?_ ?_ ?_); (· rfl); (· go_simp; (try with_reducible rfl)); simp only [pu, sB, s0, sS]
  go_upto_region 3 with fail
  refine wp_region_lit ?_
  (with_reducible refine rN (v := .pointer (some ⟨pA, 0, none⟩)) ?_ ?_ ?_); (· rfl); (· go_simp; (try rfl)); simp only [pu, sB, s0, sS]
  with_reducible refine wpList_loadV (.tmp 7) (j := 0) (v := .int .i64 7) ?_ ?_ KA2.out ?_ Tryz.underlying3 ?_ ?_
  · rfl
  · rfl
  · exact (cells3_0 ..)
  · rfl
  simp only [pu, sB, s0, sS]
  go_upto_region 4 with fail
  refine wp_region_lit ?_
  iterate 2 ((with_reducible refine rN (v := .bool false) ?_ ?_ ?_); (· rfl); (· go_simp; (try with_reducible rfl)); simp only [pu, sB, s0, sS])
  go_upto_region 6 with fail
  refine wp_region_lit ?_
  iterate 2 ((with_reducible refine rN (v := .bool false) ?_ ?_ ?_); (· rfl); (· go_simp; (try with_reducible rfl)); simp only [pu, sB, s0, sS])
  go_upto_region 8 with fail
  refine wp_region_lit ?_
  iterate 2 ((with_reducible refine rN (v := .bool false) ?_ ?_ ?_); (· rfl); (· go_simp; (try with_reducible rfl)); simp only [pu, sB, s0, sS])
  go_upto_region 13 with fail
  refine wp_region_lit ?_
  iterate 2 ((with_reducible refine rN (v := .bool false) ?_ ?_ ?_); (· rfl); (· go_simp; (try with_reducible rfl)); simp only [pu, sB, s0, sS])
  go_upto_region 15 with fail
  refine wp_region_lit ?_
  iterate 2 ((with_reducible refine rN (v := .bool false) ?_ ?_ ?_); (· rfl); (· go_simp; (try with_reducible rfl)); simp only [pu, sB, s0, sS])
  go_upto_region 17 with fail
  refine wp_region_lit ?_
  iterate 2 ((with_reducible refine rN (v := .bool false) ?_ ?_ ?_); (· rfl); (· go_simp; (try with_reducible rfl)); simp only [pu, sB, s0, sS])
  go_upto_region 19 with fail
  refine wp_region_lit ?_
  iterate 2 ((with_reducible refine rN (v := .bool false) ?_ ?_ ?_); (· rfl); (· go_simp; (try with_reducible rfl)); simp only [pu, sB, s0, sS])
  go_upto_region 21 with fail
  refine wp_region_lit ?_
  (with_reducible refine rN (v := ?_) ?_ ?_ ?_); rotate_left; (· rfl); (· go_simp; (try with_reducible rfl)); simp only [pu, sB, s0, sS]
  go_wp2_with fail
  go_ret
  exact ⟨rfl, B2.out⟩
end Go.Proofs.YtohgdmlpffeoiaaGreatDoor
namespace Go.Proofs.YtohgdmlpffeoiaaGreatDoor
open Go.RowKit
open Wd (Bs)

set_option maxRecDepth 100000 in
/-- the reference's Text of any filter -/
theorem refText13 (f : Fil.Flt) (fs : ByteArray) (hf : f.sub = fs.data.toList) (hs : fs.size ≤ maxLen) (w : World) :
    Calls Tryz.prog 23 #[.agg #[.int .i64 f.zone, .int .i64 f.who, .int .i64 f.self, .int .i64 f.types, .int .i64 f.ntypes, .int .i64 f.colors, .int .i64 f.ncolors, .string fs, .int .i64 f.keys, .int .i64 f.tap, .int .i64 f.pow.kind, .int .i64 f.pow.n, .int .i64 f.tough.kind, .int .i64 f.tough.n, .int .i64 f.val.kind, .int .i64 f.val.n]] w fun e w' => e = .returned (str (Fil.textF f)) ∧ Below w.heap.size w w' := by
  cases hvb : Fil.validB f with
  | true =>
    obtain ⟨a, rfl⟩ := acc_of hvb
    exact refTextA a fs hf hvb w
  | false =>
    have HC := Lib.hid (fun W => refIs13 f fs hf hs W)
    have HVB := Lib.hid hvb
    have HT := Lib.hid (Fil.textF_bad hvb)
    have HB : Hid (Below w.heap.size w (w.alloc (.cells #[.int .i64 f.zone, .int .i64 f.who, .int .i64 f.self, .int .i64 f.types, .int .i64 f.ntypes, .int .i64 f.colors, .int .i64 f.ncolors, .string fs, .int .i64 f.keys, .int .i64 f.tap, .int .i64 f.pow.kind, .int .i64 f.pow.n, .int .i64 f.tough.kind, .int .i64 f.tough.n, .int .i64 f.val.kind, .int .i64 f.val.n] 25))) := Lib.hid ((Below.refl _ _).alloc (Nat.le_refl _) _)
    clear hvb hf hs
    go_enter Tryz.func23, Tryz.ntmps23
    go_wp2_with fail
    refine (HC.out _).mono ?_
    rw [HVB.out]
    rintro e w1 ⟨rfl, hb1⟩
    go_wp2_with fail
    go_ret
    exact ⟨by rw [HT.out]; rfl, HB.out.trans (hb1.mono HB.out.size)⟩
end Go.Proofs.YtohgdmlpffeoiaaGreatDoor
namespace Go.Proofs.YtohgdmlpffeoiaaGreatDoor
open Go.RowKit
open Wd (Bs)

theorem eqM_bareK (k n c : Int) (f : Fil.Flt) : eqM ⟨k, n, c, f⟩ ⟨k, 0, 0, Fil.zero⟩ = Amt.bareB n c f := by
  rw [Bool.eq_iff_iff, eqM_iff, Amt.bare_iff, Amt.Amt.mk.injEq]
  simp
set_option maxHeartbeats 2000000 in
theorem refIs14 (k n c : Int) (f : Fil.Flt) (fs : ByteArray) (hf : f.sub = fs.data.toList) (hs : fs.size ≤ maxLen) (w : World) :
    Calls Tryz.prog 10 #[.agg (cells3 k n c (cellsF f fs))] w fun e w' => e = .returned (.bool (Amt.okB ⟨k, n, c, f⟩)) ∧ Below w.heap.size w w' := by
  by_cases h0 : k = 0
  · subst h0
    refine (rIsConst n c f fs w _ _ (Amt.bareB 0 c f) rfl rfl (Lib.hid fun W => by rw [← eqM_bareK 0]; exact run_eq_amt 0 0 c 0 0 0 f Fil.zero fs ⟨#[]⟩ hf rfl W)).mono ?_
    rintro e w1 ⟨rfl, hb⟩
    refine ⟨?_, hb⟩
    have : (!decide (n < 0) && !decide (1000000 < n)) = Fil.within n 1000000 := by rw [Bool.eq_iff_iff, Fil.within_iff]; simp
    rw [this]
    simp [Amt.okB]
  by_cases h2 : k = 2
  · subst h2
    refine (rIsCount n c f fs w _ _ (Fil.validB f) (Amt.bareB 0 c Fil.zero) rfl rfl (Lib.hid fun W _ => refIs13 f fs hf hs W) (Lib.hid fun W => by rw [← eqM_bareK 2]; exact run_eq_amt 2 0 c 2 0 0 Fil.zero Fil.zero ⟨#[]⟩ ⟨#[]⟩ rfl rfl W)).mono ?_
    rintro e w1 ⟨rfl, hb⟩
    refine ⟨?_, hb⟩
    have h1 : (!decide (n < 1)) = decide (1 ≤ n) := by rw [Bool.eq_iff_iff]; simp
    have h2 : (!decide (99 < n)) = decide (n ≤ 99) := by rw [Bool.eq_iff_iff]; simp
    rw [h1, h2]
    simp [Amt.okB, Bool.and_assoc]
  by_cases h4 : k = 4
  · subst h4
    refine (rIsCtr n c f fs ⟨(Ctr.nameI c).toArray⟩ w (decide (Ctr.nameI c ≠ [])) (Amt.bareB n 0 f) ?_ (Lib.hid fun W _ => below_same (refName12 c W)) (Lib.hid fun W => by rw [← eqM_bareK 4]; exact run_eq_amt 4 n 0 4 0 0 f Fil.zero fs ⟨#[]⟩ hf rfl W)).mono ?_
    · rw [Lib.toList_data]
      cases Ctr.nameI c <;> simp
    rintro e w1 ⟨rfl, hb⟩
    exact ⟨by simp [Amt.okB], hb⟩
  refine (rIsOther k n c f fs w _ _ (Amt.bareB n c f) (by simpa using h0) (by simpa using h2) (by simpa using h4) rfl rfl (Lib.hid fun W => by rw [← eqM_bareK k]; exact run_eq_amt k n c k 0 0 f Fil.zero fs ⟨#[]⟩ hf rfl W)).mono ?_
  rintro e w1 ⟨rfl, hb⟩
  refine ⟨?_, hb⟩
  have : decide (0 ≤ k) = decide (1 ≤ k) := by rw [Bool.eq_iff_iff]; simp; omega
  rw [this]
  simp [Amt.okB, h0, h2, h4]
set_option maxHeartbeats 2000000 in
theorem refText14 (k n c : Int) (f : Fil.Flt) (fs : ByteArray) (hf : f.sub = fs.data.toList) (hs : fs.size ≤ maxLen) (w : World) :
    Calls Tryz.prog 12 #[.agg (cells3 k n c (cellsF f fs))] w fun e w' => e = .returned (str (Amt.textA ⟨k, n, c, f⟩)) ∧ Below w.heap.size w w' := by
  have HI : Hid (∀ W, Below w.heap.size w W → Calls Tryz.prog 10 #[.agg (cells3 k n c (cellsF f fs))] W fun e w' => e = .returned (.bool (Amt.okB ⟨k, n, c, f⟩)) ∧ Below W.heap.size W w') :=
    Lib.hid fun W _ => refIs14 k n c f fs hf hs W
  cases hv : Amt.okB ⟨k, n, c, f⟩ with
  | false =>
    rw [hv] at HI
    refine (rTxBad k n c f fs w HI).mono ?_
    rintro e w1 ⟨rfl, hb⟩
    exact ⟨by rw [Amt.textA_bad hv]; rfl, hb⟩
  | true =>
    rw [hv] at HI
    rw [Amt.textA_ok hv]
    rcases Amt.ok_cases hv with ⟨m, h1, h⟩ | ⟨m, h0, h1, hvf, h⟩ | ⟨m, h1, h⟩ | ⟨m, h1, h⟩
    · rw [Amt.Amt.mk.injEq] at h
      obtain ⟨rfl, rfl, rfl, rfl⟩ := h
      rw [Amt.raw_const]
      refine (rTxConst m 0 Fil.zero fs ⟨(Lib.itoa m).toArray⟩ w HI (Lib.hid fun W _ => refText m (by omega) (by omega) W)).mono ?_
      rintro e w1 ⟨rfl, hb⟩
      exact ⟨rfl, hb⟩
    · rw [Amt.Amt.mk.injEq] at h
      obtain ⟨rfl, rfl, rfl, _⟩ := h
      simp only at hvf
      rw [Amt.raw_count]
      have hl := textF_len hvf
      have HF : Hid (∀ W, Below w.heap.size w W → Calls Tryz.prog 23 #[.agg (cellsF f fs)] W fun e w' => e = .returned (.string ⟨(Fil.textF f).toArray⟩) ∧ Below W.heap.size W w') :=
        Lib.hid fun W _ => refText13 f fs hf hs W
      by_cases e1 : (m : Int) = 1
      · rw [if_pos e1]
        refine (rTxCountOne m 0 f fs ⟨(Fil.textF f).toArray⟩ w HI HF (by simpa using e1) (by rw [size_of]; omega)).mono ?_
        rintro e w1 ⟨rfl, hb⟩
        exact ⟨by rw [str_of (l := Amt.cnt f) (by simp [Amt.cnt, Amt.sCount])], hb⟩
      · rw [if_neg e1]
        have hl2 := itoa_len (n := (m : Int)) (by omega) (by omega)
        refine (rTxCount m 0 f fs ⟨(Fil.textF f).toArray⟩ ⟨(Lib.itoa m).toArray⟩ w HI HF (by simpa using e1) (by rw [size_of]; omega) (Lib.hid fun W _ => refText m (by omega) (by omega) W) (by rw [size_of]; omega)).mono ?_
        rintro e w1 ⟨rfl, hb⟩
        exact ⟨by rw [str_of (l := Lib.itoa m ++ [42] ++ Amt.cnt f) (by simp [Amt.cnt, Amt.sCount])], hb⟩
    · rw [Amt.Amt.mk.injEq] at h
      obtain ⟨rfl, rfl, rfl, rfl⟩ := h
      rw [Amt.raw_ctr]
      have hl := ctr_len m h1
      refine (rTxCtr 0 m Fil.zero fs ⟨(Ctr.nameI m).toArray⟩ w HI (Lib.hid fun W _ => below_same (refName12 m W)) (by rw [size_of]; omega)).mono ?_
      rintro e w1 ⟨rfl, hb⟩
      exact ⟨by rw [str_of (l := Amt.sCtrs ++ Ctr.nameI m ++ [41]) (by simp [Amt.sCtrs])], hb⟩
    · rw [Amt.Amt.mk.injEq] at h
      obtain ⟨rfl, rfl, rfl, rfl⟩ := h
      rw [Amt.raw_word h1]
      rcases h1 with rfl | rfl | rfl | rfl | rfl
      · exact rTxWord1 0 0 Fil.zero fs w HI
      · exact rTxWord3 0 0 Fil.zero fs w HI
      · exact rTxWord5 0 0 Fil.zero fs w HI
      · exact rTxWord6 0 0 Fil.zero fs w HI
      · exact rTxWord7 0 0 Fil.zero fs w HI
end Go.Proofs.YtohgdmlpffeoiaaGreatDoor
