/-
  MERGED: ApW, ModApply. By an AI agent.
-/
import Derived.Test.YtbcgkeclmioeiaaGreatDoorSwGF
import Derived.Deep.CutBlock
import Derived.Deep.DeepCutAuto
import Derived.Deep.Cut
import Derived.StillTailTactics
namespace Go.Proofs.YtbcgkeclmioeiaaGreatDoor
open Go.RowKit
open Wd (Bs)

theorem modT_co {x : TrD} {m : Mo.Md} {you n : Int} (h : Part 50 7 x.co) : Part 50 7 (modT x m you n).co := by
  have e : (modT x m you n).co = x.co := by
    simp only [modT, apply_ite TrD.co, ite_self]
  rw [e]
  exact h

set_option maxHeartbeats 16000000 in
set_option maxRecDepth 100000 in
theorem applyNo (x : TrD) (sv av : Value) (ok : TrOk x) (k n m : Int) (s : ByteArray) (f : Fil.Flt) (fs : ByteArray) (you cnt : Int) (w : World) (hs : Strs w sv x.subs) (ha : AbRow none w av x.abs)
    (HI : Hid (∀ W, Below w.heap.size w W → Calls Tryz.prog 32 #[.agg (mO k n m s (cellsF f fs))] W fun e w' => e = .returned (.bool false) ∧ Below W.heap.size W w')) :
    Calls Tryz.prog 30 #[.agg (trV x sv av), .agg (mO k n m s (cellsF f fs)), .int .i64 you, .int .i64 cnt] w fun e w' => (∃ s2 a2, e = .returned (.agg (trV x s2 a2)) ∧ OwnStrs w.heap.size w' s2 x.subs ∧ AbRow (some w.heap.size) w' a2 x.abs) ∧ Below w.heap.size w w' := by

  have B0 := Lib.hid (Below.refl w.heap.size w)
  go_enter Tryz.func30, Tryz.ntmps30
  go_upto_region 0 with fail
  refine wp_region_lit ?_
  obtain ⟨w1, hw⟩ : ∃ v, v = w.alloc (.cells (trV x sv av) 56) := ⟨_, rfl⟩
  obtain ⟨pT, hp⟩ : ∃ v, v = w.heap.size := ⟨_, rfl⟩
  have B1 : Hid (Below w.heap.size w w1) := Lib.hid (by rw [hw]; exact B0.out.alloc B0.out.size _)
  have LET : Hid (w.heap.size ≤ pT) := Lib.hid (by rw [hp]; exact B0.out.size)
  have KT1 : Hid (Blk w1 pT (trV x sv av) 56) := Lib.hid (by rw [hw, hp]; exact Blk.new _ _ _)
  with_reducible refine wpList_runWV (some 4) (v := .pointer (some ⟨pT, 0, none⟩)) (w' := w1) ?_ ?_ ?_ ?_
  · rfl
  · rfl
  · rw [hw, hp]; (go_simp; (try rfl))
  simp only [pu, sB, s0, sS]
  clear hw hp
  clear B0
  obtain ⟨w2, hw⟩ : ∃ v, v = w1.alloc (.cells (mO k n m s (cellsF f fs)) 39) := ⟨_, rfl⟩
  obtain ⟨pM, hp⟩ : ∃ v, v = w1.heap.size := ⟨_, rfl⟩
  have B2 : Hid (Below w.heap.size w w2) := Lib.hid (by rw [hw]; exact B1.out.alloc B1.out.size _)
  have LEM : Hid (w.heap.size ≤ pM) := Lib.hid (by rw [hp]; exact B1.out.size)
  have KT2 := Lib.hid (show Blk w2 pT (trV x sv av) 56 by rw [hw]; exact KT1.out.alloc _)
  have NETM : Hid (pT ≠ pM) := Lib.hid (by rw [hp]; exact Nat.ne_of_lt KT1.out.lt)
  have NEMT : Hid (pM ≠ pT) := Lib.hid (Ne.symm NETM.out)
  have KM2 : Hid (Blk w2 pM (mO k n m s (cellsF f fs)) 39) := Lib.hid (by rw [hw, hp]; exact Blk.new _ _ _)
  with_reducible refine wpList_runWV (some 5) (v := .pointer (some ⟨pM, 0, none⟩)) (w' := w2) ?_ ?_ ?_ ?_
  · rfl
  · rfl
  · rw [hw, hp]; (go_simp; (try rfl))
  simp only [pu, sB, s0, sS]
  clear hw hp
  clear B1 KT1
  obtain ⟨w3, hw⟩ : ∃ v, v = w2.alloc (.cells zTr.cells 56) := ⟨_, rfl⟩
  obtain ⟨pR, hp⟩ : ∃ v, v = w2.heap.size := ⟨_, rfl⟩
  have B3 : Hid (Below w.heap.size w w3) := Lib.hid (by rw [hw]; exact B2.out.alloc B2.out.size _)
  have LER : Hid (w.heap.size ≤ pR) := Lib.hid (by rw [hp]; exact B2.out.size)
  have KT3 := Lib.hid (show Blk w3 pT (trV x sv av) 56 by rw [hw]; exact KT2.out.alloc _)
  have NETR : Hid (pT ≠ pR) := Lib.hid (by rw [hp]; exact Nat.ne_of_lt KT2.out.lt)
  have NERT : Hid (pR ≠ pT) := Lib.hid (Ne.symm NETR.out)
  have KM3 := Lib.hid (show Blk w3 pM (mO k n m s (cellsF f fs)) 39 by rw [hw]; exact KM2.out.alloc _)
  have NEMR : Hid (pM ≠ pR) := Lib.hid (by rw [hp]; exact Nat.ne_of_lt KM2.out.lt)
  have NERM : Hid (pR ≠ pM) := Lib.hid (Ne.symm NEMR.out)
  have KR3 : Hid (Blk w3 pR zTr.cells 56) := Lib.hid (by rw [hw, hp]; exact Blk.new _ _ _)
  with_reducible refine wpList_runWV (some 8) (v := .pointer (some ⟨pR, 0, none⟩)) (w' := w3) ?_ ?_ ?_ ?_
  · rfl
  · rfl
  · rw [hw, hp]; exact run_allocOp rfl infoTr zeroTr
  simp only [pu, sB, s0, sS]
  clear hw hp
  clear B2 KT2 KM2
  go_upto_region 1 with fail
  refine wp_region_lit ?_
  with_reducible refine wpList_loadS (.tmp 4) ?_ ?_ KT3.out Tryz.underlying56 ?_ (szTr (trV_sz ok.co)) ?_
  · rfl
  · rfl
  · rfl
  simp only [pu, sB, s0, sS]
  go_wp2_with fail
  refine (cloneTraits x sv av ok _ (hs.below B3.out (Nat.le_refl _)) (ha.below B3.out (Nat.le_refl _))).mono ?_
  rintro e w4 ⟨⟨s2, a2, rfl, hO1, hO2⟩, hb⟩
  obtain ⟨ad2, cap2, ev2⟩ := hO1.strs.slice
  subst ev2
  obtain ⟨bd2, bcap2, ev2⟩ := hO2.slice
  subst ev2
  unfold trV
  have B4 := Lib.hid (B3.out.trans (hb.mono B3.out.size))
  have KT4 := Lib.hid (KT3.out.below hb KT3.out.lt)
  have KM4 := Lib.hid (KM3.out.below hb KM3.out.lt)
  have KR4 := Lib.hid (KR3.out.below hb KR3.out.lt)
  have HN4 : Hid (OwnStrs w.heap.size w4 (.slice ad2 x.subs.length cap2) x.subs) := Lib.hid (hO1.mono B3.out.size)
  have HA4 : Hid (AbRow (some w.heap.size) w4 (.slice bd2 x.abs.length bcap2) x.abs) := Lib.hid (hO2.mono B3.out.size)
  clear hb
  clear B3 KT3 KM3 KR3
  go_simp
  rename_i hKK
  refine hKK _ _ ?_
  clear hKK
  try simp only [pu, sB, s0, sS]
  have KT5 := Lib.hid (KT4.out.stored (o := 0) (vs := (trC x.nm x.co x.c x.a x.b (.slice ad2 x.subs.length cap2) x.p x.t x.k (.slice bd2 x.abs.length bcap2) x.u).toList) (cs' := (trC x.nm x.co x.c x.a x.b (.slice ad2 x.subs.length cap2) x.p x.t x.k (.slice bd2 x.abs.length bcap2) x.u)) (laid_all (trC_sz ok.co) (trV_sz ok.co)))
  have KM5 := Lib.hid (KM4.out.wholeElse ((trC x.nm x.co x.c x.a x.b (.slice ad2 x.subs.length cap2) x.p x.t x.k (.slice bd2 x.abs.length bcap2) x.u).toList) (o := 0) NEMT.out)
  have KR5 := Lib.hid (KR4.out.wholeElse ((trC x.nm x.co x.c x.a x.b (.slice ad2 x.subs.length cap2) x.p x.t x.k (.slice bd2 x.abs.length bcap2) x.u).toList) (o := 0) NERT.out)
  have B5 := Lib.hid (below_whole ((trC x.nm x.co x.c x.a x.b (.slice ad2 x.subs.length cap2) x.p x.t x.k (.slice bd2 x.abs.length bcap2) x.u).toList) (o := 0) B4.out LET.out)
  have HN5 := Lib.hid (HN4.out.keep (KeepT.stored KT4.out 0 ((trC x.nm x.co x.c x.a x.b (.slice ad2 x.subs.length cap2) x.p x.t x.k (.slice bd2 x.abs.length bcap2) x.u).toList)) (by decide))
  have HA5 := Lib.hid (HA4.out.keep (KeepT.stored KT4.out 0 ((trC x.nm x.co x.c x.a x.b (.slice ad2 x.subs.length cap2) x.p x.t x.k (.slice bd2 x.abs.length bcap2) x.u).toList)) (by decide))
  with_reducible refine wpList_storeM (.tmp 4) (.tmp 10) (o := 0) (vs := (trC x.nm x.co x.c x.a x.b (.slice ad2 x.subs.length cap2) x.p x.t x.k (.slice bd2 x.abs.length bcap2) x.u)) ?_ ?_ KT4.out ?_ (szTr (trC_sz ok.co)) (trC_one ok.co rfl rfl) ?_
  · rfl
  · rfl
  · exact (fit_2 (trV_sz ok.co) (trC_sz ok.co) (by decide))
  (try simp only [Act.put])
  generalize World.setCells _ _ _ _ = w5 at KT5 KM5 KR5 B5 HN5 HA5 ⊢
  clear B4 KT4 KM4 KR4 HN4 HA4
  go_upto_region 2 with fail
  refine wp_region_lit ?_
  with_reducible refine wpList_loadS (.tmp 5) ?_ ?_ KM5.out Tryz.underlying39 ?_ (infoTMo20 (mO_sz (cellsF_size f fs))) ?_
  · rfl
  · rfl
  · rfl
  simp only [pu, sB, s0, sS]
  go_wp2_with fail
  refine (HI.out _ B5.out).mono ?_
  rintro e w6 ⟨rfl, hb⟩
  have B6 := Lib.hid (B5.out.trans (hb.mono B5.out.size))
  have KT6 := Lib.hid (KT5.out.below hb KT5.out.lt)
  have KM6 := Lib.hid (KM5.out.below hb KM5.out.lt)
  have KR6 := Lib.hid (KR5.out.below hb KR5.out.lt)
  have HN6 := Lib.hid (HN5.out.below hb (Nat.le_refl _))
  have HA6 := Lib.hid (HA5.out.below hb (Nat.le_refl _))
  clear hb
  clear B5 KT5 KM5 KR5 HN5 HA5
  go_simp
  rename_i hKK
  refine hKK _ _ ?_
  clear hKK
  try simp only [pu, sB, s0, sS]
  (with_reducible refine rN (v := .bool true) ?_ ?_ ?_); (· rfl); (· go_simp; (try with_reducible rfl)); simp only [pu, sB, s0, sS]
  go_upto_region 3 with fail
  refine wp_region_lit ?_
  with_reducible refine wpList_loadS (.tmp 4) ?_ ?_ KT6.out Tryz.underlying56 ?_ (szTr (trC_sz ok.co)) ?_
  · rfl
  · rfl
  · rfl
  simp only [pu, sB, s0, sS]
  have KR7 := Lib.hid (KR6.out.stored (o := 0) (vs := (trC x.nm x.co x.c x.a x.b (.slice ad2 x.subs.length cap2) x.p x.t x.k (.slice bd2 x.abs.length bcap2) x.u).toList) (cs' := (trC x.nm x.co x.c x.a x.b (.slice ad2 x.subs.length cap2) x.p x.t x.k (.slice bd2 x.abs.length bcap2) x.u)) (laid_all (trC_sz ok.co) zTr_cells))
  have KT7 := Lib.hid (KT6.out.wholeElse ((trC x.nm x.co x.c x.a x.b (.slice ad2 x.subs.length cap2) x.p x.t x.k (.slice bd2 x.abs.length bcap2) x.u).toList) (o := 0) NETR.out)
  have KM7 := Lib.hid (KM6.out.wholeElse ((trC x.nm x.co x.c x.a x.b (.slice ad2 x.subs.length cap2) x.p x.t x.k (.slice bd2 x.abs.length bcap2) x.u).toList) (o := 0) NEMR.out)
  have B7 := Lib.hid (below_whole ((trC x.nm x.co x.c x.a x.b (.slice ad2 x.subs.length cap2) x.p x.t x.k (.slice bd2 x.abs.length bcap2) x.u).toList) (o := 0) B6.out LER.out)
  have HN7 := Lib.hid (HN6.out.keep (KeepT.stored KR6.out 0 ((trC x.nm x.co x.c x.a x.b (.slice ad2 x.subs.length cap2) x.p x.t x.k (.slice bd2 x.abs.length bcap2) x.u).toList)) (by decide))
  have HA7 := Lib.hid (HA6.out.keep (KeepT.stored KR6.out 0 ((trC x.nm x.co x.c x.a x.b (.slice ad2 x.subs.length cap2) x.p x.t x.k (.slice bd2 x.abs.length bcap2) x.u).toList)) (by decide))
  with_reducible refine wpList_storeM (.tmp 8) (.tmp 14) (o := 0) (vs := (trC x.nm x.co x.c x.a x.b (.slice ad2 x.subs.length cap2) x.p x.t x.k (.slice bd2 x.abs.length bcap2) x.u)) ?_ ?_ KR6.out ?_ (szTr (trC_sz ok.co)) (trC_one ok.co rfl rfl) ?_
  · rfl
  · rfl
  · exact (fit_2 zTr_cells (trC_sz ok.co) (by decide))
  (try simp only [Act.put])
  generalize World.setCells _ _ _ _ = w7 at KT7 KM7 KR7 B7 HN7 HA7 ⊢
  clear B6 KT6 KM6 KR6 HN6 HA6
  have hL := KR7.out.readS Tryz.underlying56 rfl (szTr (trC_sz ok.co))
  go_wp2_with fail
  exact bodyPost_ret (v := .agg (trC x.nm x.co x.c x.a x.b (.slice ad2 x.subs.length cap2) x.p x.t x.k (.slice bd2 x.abs.length bcap2) x.u)) (results_cell Tryz.results30 (by rfl) hL) rfl ⟨⟨_, _, rfl, HN7.out, HA7.out⟩, B7.out⟩

set_option maxHeartbeats 16000000 in
set_option maxRecDepth 100000 in
theorem applyYes (x : TrD) (sv av : Value) (ok : TrOk x) (k n m : Int) (s : ByteArray) (f : Fil.Flt) (fs : ByteArray) (you cnt : Int) (w : World) (hs : Strs w sv x.subs) (ha : AbRow none w av x.abs)
    (HI : Hid (∀ W, Below w.heap.size w W → Calls Tryz.prog 32 #[.agg (mO k n m s (cellsF f fs))] W fun e w' => e = .returned (.bool true) ∧ Below W.heap.size W w')) (hk : Mo.isKind k = true) (HC : Hid (∀ W, Calls Tryz.prog 55 #[.int .i64 cnt] W fun e w' => e = .returned (.int .i64 (Num.clampI cnt)) ∧ Below W.heap.size W w')) (HA1 : Hid (∀ W, Calls Tryz.prog 56 #[.int .i64 x.p, .int .i64 n] W fun e w' => e = .returned (.int .i64 (Num.clampI (Num.clampI x.p + Num.clampI n))) ∧ W = w')) (HA2 : Hid (∀ W, Calls Tryz.prog 56 #[.int .i64 x.t, .int .i64 m] W fun e w' => e = .returned (.int .i64 (Num.clampI (Num.clampI x.t + Num.clampI m))) ∧ W = w')) (HLA : Hid (∀ W v', Below w.heap.size w W → Strs W v' x.subs → Calls Tryz.prog 54 #[.agg (liC x.a x.b v'), .string s] W (AddRes x.a x.b x.subs s.data.toList W))) :
    Calls Tryz.prog 30 #[.agg (trV x sv av), .agg (mO k n m s (cellsF f fs)), .int .i64 you, .int .i64 cnt] w fun e w' => (∃ s2 a2, e = .returned (.agg (trV (modT x ⟨k, n, m, s.data.toList, f⟩ you cnt) s2 a2)) ∧ OwnStrs w.heap.size w' s2 (modT x ⟨k, n, m, s.data.toList, f⟩ you cnt).subs ∧ AbRow (some w.heap.size) w' a2 (modT x ⟨k, n, m, s.data.toList, f⟩ you cnt).abs) ∧ Below w.heap.size w w' := by

  have B0 := Lib.hid (Below.refl w.heap.size w)
  go_enter Tryz.func30, Tryz.ntmps30
  go_upto_region 0 with fail
  refine wp_region_lit ?_
  obtain ⟨w1, hw⟩ : ∃ v, v = w.alloc (.cells (trV x sv av) 56) := ⟨_, rfl⟩
  obtain ⟨pT, hp⟩ : ∃ v, v = w.heap.size := ⟨_, rfl⟩
  have B1 : Hid (Below w.heap.size w w1) := Lib.hid (by rw [hw]; exact B0.out.alloc B0.out.size _)
  have LET : Hid (w.heap.size ≤ pT) := Lib.hid (by rw [hp]; exact B0.out.size)
  have KT1 : Hid (Blk w1 pT (trV x sv av) 56) := Lib.hid (by rw [hw, hp]; exact Blk.new _ _ _)
  with_reducible refine wpList_runWV (some 4) (v := .pointer (some ⟨pT, 0, none⟩)) (w' := w1) ?_ ?_ ?_ ?_
  · rfl
  · rfl
  · rw [hw, hp]; (go_simp; (try rfl))
  simp only [pu, sB, s0, sS]
  clear hw hp
  clear B0
  obtain ⟨w2, hw⟩ : ∃ v, v = w1.alloc (.cells (mO k n m s (cellsF f fs)) 39) := ⟨_, rfl⟩
  obtain ⟨pM, hp⟩ : ∃ v, v = w1.heap.size := ⟨_, rfl⟩
  have B2 : Hid (Below w.heap.size w w2) := Lib.hid (by rw [hw]; exact B1.out.alloc B1.out.size _)
  have LEM : Hid (w.heap.size ≤ pM) := Lib.hid (by rw [hp]; exact B1.out.size)
  have KT2 := Lib.hid (show Blk w2 pT (trV x sv av) 56 by rw [hw]; exact KT1.out.alloc _)
  have NETM : Hid (pT ≠ pM) := Lib.hid (by rw [hp]; exact Nat.ne_of_lt KT1.out.lt)
  have NEMT : Hid (pM ≠ pT) := Lib.hid (Ne.symm NETM.out)
  have KM2 : Hid (Blk w2 pM (mO k n m s (cellsF f fs)) 39) := Lib.hid (by rw [hw, hp]; exact Blk.new _ _ _)
  with_reducible refine wpList_runWV (some 5) (v := .pointer (some ⟨pM, 0, none⟩)) (w' := w2) ?_ ?_ ?_ ?_
  · rfl
  · rfl
  · rw [hw, hp]; (go_simp; (try rfl))
  simp only [pu, sB, s0, sS]
  clear hw hp
  clear B1 KT1
  obtain ⟨w3, hw⟩ : ∃ v, v = w2.alloc (.cells zTr.cells 56) := ⟨_, rfl⟩
  obtain ⟨pR, hp⟩ : ∃ v, v = w2.heap.size := ⟨_, rfl⟩
  have B3 : Hid (Below w.heap.size w w3) := Lib.hid (by rw [hw]; exact B2.out.alloc B2.out.size _)
  have LER : Hid (w.heap.size ≤ pR) := Lib.hid (by rw [hp]; exact B2.out.size)
  have KT3 := Lib.hid (show Blk w3 pT (trV x sv av) 56 by rw [hw]; exact KT2.out.alloc _)
  have NETR : Hid (pT ≠ pR) := Lib.hid (by rw [hp]; exact Nat.ne_of_lt KT2.out.lt)
  have NERT : Hid (pR ≠ pT) := Lib.hid (Ne.symm NETR.out)
  have KM3 := Lib.hid (show Blk w3 pM (mO k n m s (cellsF f fs)) 39 by rw [hw]; exact KM2.out.alloc _)
  have NEMR : Hid (pM ≠ pR) := Lib.hid (by rw [hp]; exact Nat.ne_of_lt KM2.out.lt)
  have NERM : Hid (pR ≠ pM) := Lib.hid (Ne.symm NEMR.out)
  have KR3 : Hid (Blk w3 pR zTr.cells 56) := Lib.hid (by rw [hw, hp]; exact Blk.new _ _ _)
  with_reducible refine wpList_runWV (some 8) (v := .pointer (some ⟨pR, 0, none⟩)) (w' := w3) ?_ ?_ ?_ ?_
  · rfl
  · rfl
  · rw [hw, hp]; exact run_allocOp rfl infoTr zeroTr
  simp only [pu, sB, s0, sS]
  clear hw hp
  clear B2 KT2 KM2
  go_upto_region 1 with fail
  refine wp_region_lit ?_
  with_reducible refine wpList_loadS (.tmp 4) ?_ ?_ KT3.out Tryz.underlying56 ?_ (szTr (trV_sz ok.co)) ?_
  · rfl
  · rfl
  · rfl
  simp only [pu, sB, s0, sS]
  go_wp2_with fail
  refine (cloneTraits x sv av ok _ (hs.below B3.out (Nat.le_refl _)) (ha.below B3.out (Nat.le_refl _))).mono ?_
  rintro e w4 ⟨⟨s2, a2, rfl, hO1, hO2⟩, hb⟩
  obtain ⟨ad2, cap2, ev2⟩ := hO1.strs.slice
  subst ev2
  obtain ⟨bd2, bcap2, ev2⟩ := hO2.slice
  subst ev2
  unfold trV
  have B4 := Lib.hid (B3.out.trans (hb.mono B3.out.size))
  have KT4 := Lib.hid (KT3.out.below hb KT3.out.lt)
  have KM4 := Lib.hid (KM3.out.below hb KM3.out.lt)
  have KR4 := Lib.hid (KR3.out.below hb KR3.out.lt)
  have HN4 : Hid (OwnStrs w.heap.size w4 (.slice ad2 x.subs.length cap2) x.subs) := Lib.hid (hO1.mono B3.out.size)
  have HA4 : Hid (AbRow (some w.heap.size) w4 (.slice bd2 x.abs.length bcap2) x.abs) := Lib.hid (hO2.mono B3.out.size)
  clear hb
  clear B3 KT3 KM3 KR3
  go_simp
  rename_i hKK
  refine hKK _ _ ?_
  clear hKK
  try simp only [pu, sB, s0, sS]
  have KT5 := Lib.hid (KT4.out.stored (o := 0) (vs := (trC x.nm x.co x.c x.a x.b (.slice ad2 x.subs.length cap2) x.p x.t x.k (.slice bd2 x.abs.length bcap2) x.u).toList) (cs' := (trC x.nm x.co x.c x.a x.b (.slice ad2 x.subs.length cap2) x.p x.t x.k (.slice bd2 x.abs.length bcap2) x.u)) (laid_all (trC_sz ok.co) (trV_sz ok.co)))
  have KM5 := Lib.hid (KM4.out.wholeElse ((trC x.nm x.co x.c x.a x.b (.slice ad2 x.subs.length cap2) x.p x.t x.k (.slice bd2 x.abs.length bcap2) x.u).toList) (o := 0) NEMT.out)
  have KR5 := Lib.hid (KR4.out.wholeElse ((trC x.nm x.co x.c x.a x.b (.slice ad2 x.subs.length cap2) x.p x.t x.k (.slice bd2 x.abs.length bcap2) x.u).toList) (o := 0) NERT.out)
  have B5 := Lib.hid (below_whole ((trC x.nm x.co x.c x.a x.b (.slice ad2 x.subs.length cap2) x.p x.t x.k (.slice bd2 x.abs.length bcap2) x.u).toList) (o := 0) B4.out LET.out)
  have HN5 := Lib.hid (HN4.out.keep (KeepT.stored KT4.out 0 ((trC x.nm x.co x.c x.a x.b (.slice ad2 x.subs.length cap2) x.p x.t x.k (.slice bd2 x.abs.length bcap2) x.u).toList)) (by decide))
  have HA5 := Lib.hid (HA4.out.keep (KeepT.stored KT4.out 0 ((trC x.nm x.co x.c x.a x.b (.slice ad2 x.subs.length cap2) x.p x.t x.k (.slice bd2 x.abs.length bcap2) x.u).toList)) (by decide))
  with_reducible refine wpList_storeM (.tmp 4) (.tmp 10) (o := 0) (vs := (trC x.nm x.co x.c x.a x.b (.slice ad2 x.subs.length cap2) x.p x.t x.k (.slice bd2 x.abs.length bcap2) x.u)) ?_ ?_ KT4.out ?_ (szTr (trC_sz ok.co)) (trC_one ok.co rfl rfl) ?_
  · rfl
  · rfl
  · exact (fit_2 (trV_sz ok.co) (trC_sz ok.co) (by decide))
  (try simp only [Act.put])
  generalize World.setCells _ _ _ _ = w5 at KT5 KM5 KR5 B5 HN5 HA5 ⊢
  clear B4 KT4 KM4 KR4 HN4 HA4
  go_upto_region 2 with fail
  refine wp_region_lit ?_
  with_reducible refine wpList_loadS (.tmp 5) ?_ ?_ KM5.out Tryz.underlying39 ?_ (infoTMo20 (mO_sz (cellsF_size f fs))) ?_
  · rfl
  · rfl
  · rfl
  simp only [pu, sB, s0, sS]
  go_wp2_with fail
  refine (HI.out _ B5.out).mono ?_
  rintro e w6 ⟨rfl, hb⟩
  have B6 := Lib.hid (B5.out.trans (hb.mono B5.out.size))
  have KT6 := Lib.hid (KT5.out.below hb KT5.out.lt)
  have KM6 := Lib.hid (KM5.out.below hb KM5.out.lt)
  have KR6 := Lib.hid (KR5.out.below hb KR5.out.lt)
  have HN6 := Lib.hid (HN5.out.below hb (Nat.le_refl _))
  have HA6 := Lib.hid (HA5.out.below hb (Nat.le_refl _))
  clear hb
  clear B5 KT5 KM5 KR5 HN5 HA5
  go_simp
  rename_i hKK
  refine hKK _ _ ?_
  clear hKK
  try simp only [pu, sB, s0, sS]
  (with_reducible refine rN (v := .bool false) ?_ ?_ ?_); (· rfl); (· go_simp; (try with_reducible rfl)); simp only [pu, sB, s0, sS]
  go_upto_region 4 with fail
  refine wp_region_lit ?_
  (with_reducible refine rN (v := .pointer (some ⟨pM, 0, none⟩)) ?_ ?_ ?_); (· rfl); (· go_simp; (try rfl)); simp only [pu, sB, s0, sS]
  with_reducible refine wpList_loadV (.tmp 15) (j := 0) (v := .int .i64 k) ?_ ?_ KM6.out ?_ Tryz.underlying3 ?_ ?_
  · rfl
  · rfl
  · exact mO_0
  · rfl
  simp only [pu, sB, s0, sS]
  go_upto_block 0 with fail
  go_cut [] (fun wx => ∃ s2 a2, Hid (s2.oneCell' = true) ∧ Hid (a2.oneCell' = true) ∧ Hid (Blk wx pT (trV (modT x ⟨k, n, m, s.data.toList, f⟩ you cnt) s2 a2) 56) ∧ Hid (OwnStrs w.heap.size wx s2 (modT x ⟨k, n, m, s.data.toList, f⟩ you cnt).subs) ∧ Hid (AbRow (some w.heap.size) wx a2 (modT x ⟨k, n, m, s.data.toList, f⟩ you cnt).abs) ∧ Hid (Blk wx pR zTr.cells 56) ∧ Hid (Below w.heap.size w wx))
  case first =>
    by_cases e1 : k = 1
    · have ek : (k == 1) = true := by simpa using e1
      have hE := Lib.hid e1
      clear e1
      go_upto_region 5 with fail
      refine wp_region_lit ?_
      iterate 2 ((with_reducible refine rN (v := .bool true) ?_ ?_ ?_); (· rfl); (· go_simp; (try with_reducible rfl)); simp only [pu, sB, s0, sS])
      go_upto_region 6 with fail
      refine wp_region_lit ?_
      (with_reducible refine rN (v := ?_) ?_ ?_ ?_); rotate_left; (· rfl); (· go_simp; (try with_reducible rfl)); simp only [pu, sB, s0, sS]
      (with_reducible refine rN (v := .pointer (some ⟨pT, 16, none⟩)) ?_ ?_ ?_); (· rfl); (· go_simp; (try rfl)); simp only [pu, sB, s0, sS]
      have KT7 := Lib.hid (KT6.out.stored (o := 16) (vs := [.int .i64 you]) (cs' := (trC x.nm x.co x.c x.a x.b (.slice ad2 x.subs.length cap2) x.p x.t x.k (.slice bd2 x.abs.length bcap2) you)) (trC_p16 ok.co))
      have KM7 := Lib.hid (KM6.out.wholeElse ([.int .i64 you]) (o := 16) NEMT.out)
      have KR7 := Lib.hid (KR6.out.wholeElse ([.int .i64 you]) (o := 16) NERT.out)
      have B7 := Lib.hid (below_whole ([.int .i64 you]) (o := 16) B6.out LET.out)
      have HN7 := Lib.hid (HN6.out.keep (KeepT.stored KT6.out 16 ([.int .i64 you])) (by decide))
      have HA7 := Lib.hid (HA6.out.keep (KeepT.stored KT6.out 16 ([.int .i64 you])) (by decide))
      with_reducible refine wpList_storeV (.tmp 20) (.tmp 19) (j := 16) (v := .int .i64 you) ?_ ?_ KT6.out ?_ (by kernel_rfl) (by simp [Value.oneCell']) ?_
      · rfl
      · rfl
      · exact (fit_1 (trC_sz ok.co) (by decide))
      (try simp only [Act.put])
      generalize World.setCells _ _ _ _ = w7 at KT7 KM7 KR7 B7 HN7 HA7 ⊢
      clear B6 KT6 KM6 KR6 HN6 HA6
      go_wp2_with fail
      go_meet
      exact ⟨_, _, Lib.hid rfl, Lib.hid rfl, Lib.hid (by rw [modT_1 (by exact hE.out)]; exact KT7.out), Lib.hid (by rw [modT_1 (by exact hE.out)]; exact HN7.out), Lib.hid (by rw [modT_1 (by exact hE.out)]; exact HA7.out), KR7, B7⟩
    have n1 : (k == 1) = false := by simpa using e1
    go_upto_region 5 with fail
    refine wp_region_lit ?_
    iterate 2 ((with_reducible refine rN (v := .bool false) ?_ ?_ ?_); (· rfl); (· go_simp; (try with_reducible rfl)); simp only [pu, sB, s0, sS])
    by_cases e2 : k = 2
    · have ek : (k == 2) = true := by simpa using e2
      have hE := Lib.hid e2
      clear e2
      go_upto_region 7 with fail
      refine wp_region_lit ?_
      iterate 2 ((with_reducible refine rN (v := .bool true) ?_ ?_ ?_); (· rfl); (· go_simp; (try with_reducible rfl)); simp only [pu, sB, s0, sS])
      go_upto_region 8 with fail
      refine wp_region_lit ?_
      (with_reducible refine rN (v := .pointer (some ⟨pM, 1, none⟩)) ?_ ?_ ?_); (· rfl); (· go_simp; (try rfl)); simp only [pu, sB, s0, sS]
      with_reducible refine wpList_loadV (.tmp 23) (j := 1) (v := .int .i64 n) ?_ ?_ KM6.out ?_ Tryz.underlying3 ?_ ?_
      · rfl
      · rfl
      · exact mO_1
      · rfl
      simp only [pu, sB, s0, sS]
      (with_reducible refine rN (v := .pointer (some ⟨pT, 9, none⟩)) ?_ ?_ ?_); (· rfl); (· go_simp; (try rfl)); simp only [pu, sB, s0, sS]
      (with_reducible refine rN (v := .pointer (some ⟨pT, 10, none⟩)) ?_ ?_ ?_); (· rfl); (· go_simp; (try rfl)); simp only [pu, sB, s0, sS]
      have KT7 := Lib.hid (KT6.out.stored (o := 10) (vs := [.int .i64 n]) (cs' := (trC x.nm x.co x.c x.a n (.slice ad2 x.subs.length cap2) x.p x.t x.k (.slice bd2 x.abs.length bcap2) x.u)) (trC_p10 ok.co))
      have KM7 := Lib.hid (KM6.out.wholeElse ([.int .i64 n]) (o := 10) NEMT.out)
      have KR7 := Lib.hid (KR6.out.wholeElse ([.int .i64 n]) (o := 10) NERT.out)
      have B7 := Lib.hid (below_whole ([.int .i64 n]) (o := 10) B6.out LET.out)
      have HN7 := Lib.hid (HN6.out.keep (KeepT.stored KT6.out 10 ([.int .i64 n])) (by decide))
      have HA7 := Lib.hid (HA6.out.keep (KeepT.stored KT6.out 10 ([.int .i64 n])) (by decide))
      with_reducible refine wpList_storeV (.tmp 26) (.tmp 24) (j := 10) (v := .int .i64 n) ?_ ?_ KT6.out ?_ (by kernel_rfl) (by simp [Value.oneCell']) ?_
      · rfl
      · rfl
      · exact (fit_1 (trC_sz ok.co) (by decide))
      (try simp only [Act.put])
      generalize World.setCells _ _ _ _ = w7 at KT7 KM7 KR7 B7 HN7 HA7 ⊢
      clear B6 KT6 KM6 KR6 HN6 HA6
      go_wp2_with fail
      go_meet
      exact ⟨_, _, Lib.hid rfl, Lib.hid rfl, Lib.hid (by rw [modT_2 (by exact hE.out)]; exact KT7.out), Lib.hid (by rw [modT_2 (by exact hE.out)]; exact HN7.out), Lib.hid (by rw [modT_2 (by exact hE.out)]; exact HA7.out), KR7, B7⟩
    have n2 : (k == 2) = false := by simpa using e2
    go_upto_region 7 with fail
    refine wp_region_lit ?_
    iterate 2 ((with_reducible refine rN (v := .bool false) ?_ ?_ ?_); (· rfl); (· go_simp; (try with_reducible rfl)); simp only [pu, sB, s0, sS])
    by_cases e3 : k = 3
    · have ek : (k == 3) = true := by simpa using e3
      have hE := Lib.hid e3
      clear e3
      go_upto_region 9 with fail
      refine wp_region_lit ?_
      iterate 2 ((with_reducible refine rN (v := .bool true) ?_ ?_ ?_); (· rfl); (· go_simp; (try with_reducible rfl)); simp only [pu, sB, s0, sS])
      go_upto_region 10 with fail
      refine wp_region_lit ?_
      (with_reducible refine rN (v := .pointer (some ⟨pT, 9, none⟩)) ?_ ?_ ?_); (· rfl); (· go_simp; (try rfl)); simp only [pu, sB, s0, sS]
      (with_reducible refine rN (v := .pointer (some ⟨pT, 10, none⟩)) ?_ ?_ ?_); (· rfl); (· go_simp; (try rfl)); simp only [pu, sB, s0, sS]
      with_reducible refine wpList_loadV (.tmp 30) (j := 10) (v := .int .i64 x.b) ?_ ?_ KT6.out ?_ Tryz.underlying3 ?_ ?_
      · rfl
      · rfl
      · exact trC_10 ok.co
      · rfl
      simp only [pu, sB, s0, sS]
      (with_reducible refine rN (v := .pointer (some ⟨pM, 1, none⟩)) ?_ ?_ ?_); (· rfl); (· go_simp; (try rfl)); simp only [pu, sB, s0, sS]
      with_reducible refine wpList_loadV (.tmp 32) (j := 1) (v := .int .i64 n) ?_ ?_ KM6.out ?_ Tryz.underlying3 ?_ ?_
      · rfl
      · rfl
      · exact mO_1
      · rfl
      simp only [pu, sB, s0, sS]
      (with_reducible refine rN (v := .int .i64 (bits .or .i64 x.b n)) ?_ ?_ ?_); (· rfl); (· go_simp; (try with_reducible rfl)); simp only [pu, sB, s0, sS]
      (with_reducible refine rN (v := .pointer (some ⟨pT, 9, none⟩)) ?_ ?_ ?_); (· rfl); (· go_simp; (try rfl)); simp only [pu, sB, s0, sS]
      (with_reducible refine rN (v := .pointer (some ⟨pT, 10, none⟩)) ?_ ?_ ?_); (· rfl); (· go_simp; (try rfl)); simp only [pu, sB, s0, sS]
      have KT7 := Lib.hid (KT6.out.stored (o := 10) (vs := [.int .i64 (bits .or .i64 x.b n)]) (cs' := (trC x.nm x.co x.c x.a (bits .or .i64 x.b n) (.slice ad2 x.subs.length cap2) x.p x.t x.k (.slice bd2 x.abs.length bcap2) x.u)) (trC_p10 ok.co))
      have KM7 := Lib.hid (KM6.out.wholeElse ([.int .i64 (bits .or .i64 x.b n)]) (o := 10) NEMT.out)
      have KR7 := Lib.hid (KR6.out.wholeElse ([.int .i64 (bits .or .i64 x.b n)]) (o := 10) NERT.out)
      have B7 := Lib.hid (below_whole ([.int .i64 (bits .or .i64 x.b n)]) (o := 10) B6.out LET.out)
      have HN7 := Lib.hid (HN6.out.keep (KeepT.stored KT6.out 10 ([.int .i64 (bits .or .i64 x.b n)])) (by decide))
      have HA7 := Lib.hid (HA6.out.keep (KeepT.stored KT6.out 10 ([.int .i64 (bits .or .i64 x.b n)])) (by decide))
      with_reducible refine wpList_storeV (.tmp 36) (.tmp 34) (j := 10) (v := .int .i64 (bits .or .i64 x.b n)) ?_ ?_ KT6.out ?_ (by kernel_rfl) (by simp [Value.oneCell']) ?_
      · rfl
      · rfl
      · exact (fit_1 (trC_sz ok.co) (by decide))
      (try simp only [Act.put])
      generalize World.setCells _ _ _ _ = w7 at KT7 KM7 KR7 B7 HN7 HA7 ⊢
      clear B6 KT6 KM6 KR6 HN6 HA6
      go_wp2_with fail
      go_meet
      exact ⟨_, _, Lib.hid rfl, Lib.hid rfl, Lib.hid (by rw [modT_3 (by exact hE.out)]; exact KT7.out), Lib.hid (by rw [modT_3 (by exact hE.out)]; exact HN7.out), Lib.hid (by rw [modT_3 (by exact hE.out)]; exact HA7.out), KR7, B7⟩
    have n3 : (k == 3) = false := by simpa using e3
    go_upto_region 9 with fail
    refine wp_region_lit ?_
    iterate 2 ((with_reducible refine rN (v := .bool false) ?_ ?_ ?_); (· rfl); (· go_simp; (try with_reducible rfl)); simp only [pu, sB, s0, sS])
    by_cases e4 : k = 4
    · have ek : (k == 4) = true := by simpa using e4
      have hE := Lib.hid e4
      clear e4
      go_upto_region 11 with fail
      refine wp_region_lit ?_
      iterate 2 ((with_reducible refine rN (v := .bool true) ?_ ?_ ?_); (· rfl); (· go_simp; (try with_reducible rfl)); simp only [pu, sB, s0, sS])
      go_upto_region 12 with fail
      refine wp_region_lit ?_
      (with_reducible refine rN (v := .pointer (some ⟨pM, 3, none⟩)) ?_ ?_ ?_); (· rfl); (· go_simp; (try rfl)); simp only [pu, sB, s0, sS]
      with_reducible refine wpList_loadV (.tmp 39) (j := 3) (v := .string s) ?_ ?_ KM6.out ?_ Tryz.underlying9 ?_ ?_
      · rfl
      · rfl
      · exact mO_3
      · rfl
      simp only [pu, sB, s0, sS]
      obtain ⟨w7, hw⟩ : ∃ v, v = w6.alloc (.cells #[.string s] 9) := ⟨_, rfl⟩
      obtain ⟨pN, hp⟩ : ∃ v, v = w6.heap.size := ⟨_, rfl⟩
      have B7 : Hid (Below w.heap.size w w7) := Lib.hid (by rw [hw]; exact B6.out.alloc B6.out.size _)
      have LEN : Hid (w.heap.size ≤ pN) := Lib.hid (by rw [hp]; exact B6.out.size)
      have KT7 := Lib.hid (show Blk w7 pT (trC x.nm x.co x.c x.a x.b (.slice ad2 x.subs.length cap2) x.p x.t x.k (.slice bd2 x.abs.length bcap2) x.u) 56 by rw [hw]; exact KT6.out.alloc _)
      have NETN : Hid (pT ≠ pN) := Lib.hid (by rw [hp]; exact Nat.ne_of_lt KT6.out.lt)
      have NENT : Hid (pN ≠ pT) := Lib.hid (Ne.symm NETN.out)
      have KM7 := Lib.hid (show Blk w7 pM (mO k n m s (cellsF f fs)) 39 by rw [hw]; exact KM6.out.alloc _)
      have NEMN : Hid (pM ≠ pN) := Lib.hid (by rw [hp]; exact Nat.ne_of_lt KM6.out.lt)
      have NENM : Hid (pN ≠ pM) := Lib.hid (Ne.symm NEMN.out)
      have KR7 := Lib.hid (show Blk w7 pR zTr.cells 56 by rw [hw]; exact KR6.out.alloc _)
      have NERN : Hid (pR ≠ pN) := Lib.hid (by rw [hp]; exact Nat.ne_of_lt KR6.out.lt)
      have NENR : Hid (pN ≠ pR) := Lib.hid (Ne.symm NERN.out)
      have KN7 : Hid (Blk w7 pN #[.string s] 9) := Lib.hid (by rw [hw, hp]; exact Blk.new _ _ _)
      have HN7 := Lib.hid (show OwnStrs w.heap.size w7 (.slice ad2 x.subs.length cap2) x.subs by rw [hw]; exact HN6.out.below ((Below.refl _ _).alloc (Nat.le_refl _) _) (Nat.le_refl _))
      have HA7 := Lib.hid (show AbRow (some w.heap.size) w7 (.slice bd2 x.abs.length bcap2) x.abs by rw [hw]; exact HA6.out.below ((Below.refl _ _).alloc (Nat.le_refl _) _) (Nat.le_refl _))
      with_reducible refine wpList_runWV (some 41) (v := .slice (some ⟨pN, 0, none⟩) 1 1) (w' := w7) ?_ ?_ ?_ ?_
      · rfl
      · rfl
      · rw [hw, hp]; (go_simp; (try rfl))
      simp only [pu, sB, s0, sS]
      clear hw hp
      clear B6 KT6 KM6 KR6 HN6 HA6
      (with_reducible refine rN (v := .pointer (some ⟨pT, 9, none⟩)) ?_ ?_ ?_); (· rfl); (· go_simp; (try rfl)); simp only [pu, sB, s0, sS]
      (with_reducible refine rN (v := .pointer (some ⟨pT, 11, none⟩)) ?_ ?_ ?_); (· rfl); (· go_simp; (try rfl)); simp only [pu, sB, s0, sS]
      have KT8 := Lib.hid (KT7.out.stored (o := 11) (vs := [.slice (some ⟨pN, 0, none⟩) 1 1]) (cs' := (trC x.nm x.co x.c x.a x.b (.slice (some ⟨pN, 0, none⟩) 1 1) x.p x.t x.k (.slice bd2 x.abs.length bcap2) x.u)) (trC_p11 ok.co))
      have KM8 := Lib.hid (KM7.out.wholeElse ([.slice (some ⟨pN, 0, none⟩) 1 1]) (o := 11) NEMT.out)
      have KR8 := Lib.hid (KR7.out.wholeElse ([.slice (some ⟨pN, 0, none⟩) 1 1]) (o := 11) NERT.out)
      have KN8 := Lib.hid (KN7.out.wholeElse ([.slice (some ⟨pN, 0, none⟩) 1 1]) (o := 11) NENT.out)
      have B8 := Lib.hid (below_whole ([.slice (some ⟨pN, 0, none⟩) 1 1]) (o := 11) B7.out LET.out)
      have HN8 := Lib.hid (HN7.out.keep (KeepT.stored KT7.out 11 ([.slice (some ⟨pN, 0, none⟩) 1 1])) (by decide))
      have HA8 := Lib.hid (HA7.out.keep (KeepT.stored KT7.out 11 ([.slice (some ⟨pN, 0, none⟩) 1 1])) (by decide))
      with_reducible refine wpList_storeV (.tmp 43) (.tmp 41) (j := 11) (v := .slice (some ⟨pN, 0, none⟩) 1 1) ?_ ?_ KT7.out ?_ (by kernel_rfl) (by simp [Value.oneCell']) ?_
      · rfl
      · rfl
      · exact (fit_1 (trC_sz ok.co) (by decide))
      (try simp only [Act.put])
      generalize World.setCells _ _ _ _ = w8 at KT8 KM8 KR8 KN8 B8 HN8 HA8 ⊢
      clear B7 KT7 KM7 KR7 KN7 HN7 HA7
      go_wp2_with fail
      go_meet
      exact ⟨_, _, Lib.hid rfl, Lib.hid rfl, Lib.hid (by rw [modT_4 (by exact hE.out)]; exact KT8.out), Lib.hid (by rw [modT_4 (by exact hE.out)]; exact own_one KN8.out LEN.out), Lib.hid (by rw [modT_4 (by exact hE.out)]; exact HA8.out), KR8, B8⟩
    have n4 : (k == 4) = false := by simpa using e4
    go_upto_region 11 with fail
    refine wp_region_lit ?_
    iterate 2 ((with_reducible refine rN (v := .bool false) ?_ ?_ ?_); (· rfl); (· go_simp; (try with_reducible rfl)); simp only [pu, sB, s0, sS])
    by_cases e5 : k = 5
    · have ek : (k == 5) = true := by simpa using e5
      have hE := Lib.hid e5
      clear e5
      go_upto_region 13 with fail
      refine wp_region_lit ?_
      iterate 2 ((with_reducible refine rN (v := .bool true) ?_ ?_ ?_); (· rfl); (· go_simp; (try with_reducible rfl)); simp only [pu, sB, s0, sS])
      go_upto_region 14 with fail
      refine wp_region_lit ?_
      (with_reducible refine rN (v := .pointer (some ⟨pT, 9, none⟩)) ?_ ?_ ?_); (· rfl); (· go_simp; (try rfl)); simp only [pu, sB, s0, sS]
      with_reducible refine wpList_loadM (.tmp 46) (o := 9) (xs := (liC x.a x.b (.slice ad2 x.subs.length cap2))) ?_ ?_ KT6.out ?_ Tryz.underlying53 ?_ (szL liC_sz) ?_
      · rfl
      · rfl
      · exact trC_li ok.co
      · rfl
      simp only [pu, sB, s0, sS]
      (with_reducible refine rN (v := .pointer (some ⟨pM, 3, none⟩)) ?_ ?_ ?_); (· rfl); (· go_simp; (try rfl)); simp only [pu, sB, s0, sS]
      with_reducible refine wpList_loadV (.tmp 48) (j := 3) (v := .string s) ?_ ?_ KM6.out ?_ Tryz.underlying9 ?_ ?_
      · rfl
      · rfl
      · exact mO_3
      · rfl
      simp only [pu, sB, s0, sS]
      go_wp2_with fail
      refine (HLA.out _ _ B6.out HN6.out.strs).mono ?_
      rintro e w7 ⟨v2, rfl, hO, hb⟩
      obtain ⟨ad3, cap3, ev2⟩ := hO.strs.slice
      subst ev2
      have B7 := Lib.hid (B6.out.trans (hb.mono B6.out.size))
      have KT7 := Lib.hid (KT6.out.below hb KT6.out.lt)
      have KM7 := Lib.hid (KM6.out.below hb KM6.out.lt)
      have KR7 := Lib.hid (KR6.out.below hb KR6.out.lt)
      have HN7 := Lib.hid (HN6.out.below hb (Nat.le_refl _))
      have HA7 := Lib.hid (HA6.out.below hb (Nat.le_refl _))
      have HP7 : Hid (OwnStrs w.heap.size w7 (.slice ad3 (addL ⟨x.a, x.b, x.subs⟩ s.data.toList).subs.length cap3) (addL ⟨x.a, x.b, x.subs⟩ s.data.toList).subs) := Lib.hid (hO.mono B6.out.size)
      clear hb
      clear B6 KT6 KM6 KR6 HN6 HA6
      go_simp
      rename_i hKK
      refine hKK _ _ ?_
      clear hKK
      try simp only [pu, sB, s0, sS]
      (with_reducible refine rN (v := .pointer (some ⟨pT, 9, none⟩)) ?_ ?_ ?_); (· rfl); (· go_simp; (try rfl)); simp only [pu, sB, s0, sS]
      have KT8 := Lib.hid (KT7.out.stored (o := 9) (vs := (liC x.a x.b (.slice ad3 (addL ⟨x.a, x.b, x.subs⟩ s.data.toList).subs.length cap3)).toList) (cs' := (trC x.nm x.co x.c x.a x.b (.slice ad3 (addL ⟨x.a, x.b, x.subs⟩ s.data.toList).subs.length cap3) x.p x.t x.k (.slice bd2 x.abs.length bcap2) x.u)) (trC_pli ok.co))
      have KM8 := Lib.hid (KM7.out.wholeElse ((liC x.a x.b (.slice ad3 (addL ⟨x.a, x.b, x.subs⟩ s.data.toList).subs.length cap3)).toList) (o := 9) NEMT.out)
      have KR8 := Lib.hid (KR7.out.wholeElse ((liC x.a x.b (.slice ad3 (addL ⟨x.a, x.b, x.subs⟩ s.data.toList).subs.length cap3)).toList) (o := 9) NERT.out)
      have B8 := Lib.hid (below_whole ((liC x.a x.b (.slice ad3 (addL ⟨x.a, x.b, x.subs⟩ s.data.toList).subs.length cap3)).toList) (o := 9) B7.out LET.out)
      have HN8 := Lib.hid (HN7.out.keep (KeepT.stored KT7.out 9 ((liC x.a x.b (.slice ad3 (addL ⟨x.a, x.b, x.subs⟩ s.data.toList).subs.length cap3)).toList)) (by decide))
      have HA8 := Lib.hid (HA7.out.keep (KeepT.stored KT7.out 9 ((liC x.a x.b (.slice ad3 (addL ⟨x.a, x.b, x.subs⟩ s.data.toList).subs.length cap3)).toList)) (by decide))
      have HP8 := Lib.hid (HP7.out.keep (KeepT.stored KT7.out 9 ((liC x.a x.b (.slice ad3 (addL ⟨x.a, x.b, x.subs⟩ s.data.toList).subs.length cap3)).toList)) (by decide))
      with_reducible refine wpList_storeM (.tmp 51) (.tmp 50) (o := 9) (vs := (liC x.a x.b (.slice ad3 (addL ⟨x.a, x.b, x.subs⟩ s.data.toList).subs.length cap3))) ?_ ?_ KT7.out ?_ (szL liC_sz) (liC_one rfl) ?_
      · rfl
      · rfl
      · exact (fit_2 (trC_sz ok.co) liC_sz (by decide))
      (try simp only [Act.put])
      generalize World.setCells _ _ _ _ = w8 at KT8 KM8 KR8 B8 HN8 HA8 HP8 ⊢
      clear B7 KT7 KM7 KR7 HN7 HA7 HP7
      go_wp2_with fail
      go_meet
      exact ⟨_, _, Lib.hid rfl, Lib.hid rfl, Lib.hid (by rw [modT_5 (by exact hE.out)]; exact KT8.out), Lib.hid (by rw [modT_5 (by exact hE.out)]; exact HP8.out), Lib.hid (by rw [modT_5 (by exact hE.out)]; exact HA8.out), KR8, B8⟩
    have n5 : (k == 5) = false := by simpa using e5
    go_upto_region 13 with fail
    refine wp_region_lit ?_
    iterate 2 ((with_reducible refine rN (v := .bool false) ?_ ?_ ?_); (· rfl); (· go_simp; (try with_reducible rfl)); simp only [pu, sB, s0, sS])
    by_cases e6 : k = 6
    · have ek : (k == 6) = true := by simpa using e6
      have hE := Lib.hid e6
      clear e6
      go_upto_region 15 with fail
      refine wp_region_lit ?_
      iterate 2 ((with_reducible refine rN (v := .bool true) ?_ ?_ ?_); (· rfl); (· go_simp; (try with_reducible rfl)); simp only [pu, sB, s0, sS])
      go_upto_region 16 with fail
      refine wp_region_lit ?_
      (with_reducible refine rN (v := .pointer (some ⟨pM, 1, none⟩)) ?_ ?_ ?_); (· rfl); (· go_simp; (try rfl)); simp only [pu, sB, s0, sS]
      with_reducible refine wpList_loadV (.tmp 54) (j := 1) (v := .int .i64 n) ?_ ?_ KM6.out ?_ Tryz.underlying3 ?_ ?_
      · rfl
      · rfl
      · exact mO_1
      · rfl
      simp only [pu, sB, s0, sS]
      (with_reducible refine rN (v := .pointer (some ⟨pT, 8, none⟩)) ?_ ?_ ?_); (· rfl); (· go_simp; (try rfl)); simp only [pu, sB, s0, sS]
      have KT7 := Lib.hid (KT6.out.stored (o := 8) (vs := [.int .i64 n]) (cs' := (trC x.nm x.co n x.a x.b (.slice ad2 x.subs.length cap2) x.p x.t x.k (.slice bd2 x.abs.length bcap2) x.u)) (trC_p8 ok.co))
      have KM7 := Lib.hid (KM6.out.wholeElse ([.int .i64 n]) (o := 8) NEMT.out)
      have KR7 := Lib.hid (KR6.out.wholeElse ([.int .i64 n]) (o := 8) NERT.out)
      have B7 := Lib.hid (below_whole ([.int .i64 n]) (o := 8) B6.out LET.out)
      have HN7 := Lib.hid (HN6.out.keep (KeepT.stored KT6.out 8 ([.int .i64 n])) (by decide))
      have HA7 := Lib.hid (HA6.out.keep (KeepT.stored KT6.out 8 ([.int .i64 n])) (by decide))
      with_reducible refine wpList_storeV (.tmp 56) (.tmp 55) (j := 8) (v := .int .i64 n) ?_ ?_ KT6.out ?_ (by kernel_rfl) (by simp [Value.oneCell']) ?_
      · rfl
      · rfl
      · exact (fit_1 (trC_sz ok.co) (by decide))
      (try simp only [Act.put])
      generalize World.setCells _ _ _ _ = w7 at KT7 KM7 KR7 B7 HN7 HA7 ⊢
      clear B6 KT6 KM6 KR6 HN6 HA6
      go_wp2_with fail
      go_meet
      exact ⟨_, _, Lib.hid rfl, Lib.hid rfl, Lib.hid (by rw [modT_6 (by exact hE.out)]; exact KT7.out), Lib.hid (by rw [modT_6 (by exact hE.out)]; exact HN7.out), Lib.hid (by rw [modT_6 (by exact hE.out)]; exact HA7.out), KR7, B7⟩
    have n6 : (k == 6) = false := by simpa using e6
    go_upto_region 15 with fail
    refine wp_region_lit ?_
    iterate 2 ((with_reducible refine rN (v := .bool false) ?_ ?_ ?_); (· rfl); (· go_simp; (try with_reducible rfl)); simp only [pu, sB, s0, sS])
    by_cases e7 : k = 7
    · have ek : (k == 7) = true := by simpa using e7
      have hE := Lib.hid e7
      clear e7
      go_upto_region 17 with fail
      refine wp_region_lit ?_
      iterate 2 ((with_reducible refine rN (v := .bool true) ?_ ?_ ?_); (· rfl); (· go_simp; (try with_reducible rfl)); simp only [pu, sB, s0, sS])
      go_upto_region 18 with fail
      refine wp_region_lit ?_
      (with_reducible refine rN (v := .pointer (some ⟨pT, 8, none⟩)) ?_ ?_ ?_); (· rfl); (· go_simp; (try rfl)); simp only [pu, sB, s0, sS]
      with_reducible refine wpList_loadV (.tmp 59) (j := 8) (v := .int .i64 x.c) ?_ ?_ KT6.out ?_ Tryz.underlying3 ?_ ?_
      · rfl
      · rfl
      · exact trC_8 ok.co
      · rfl
      simp only [pu, sB, s0, sS]
      (with_reducible refine rN (v := .pointer (some ⟨pM, 1, none⟩)) ?_ ?_ ?_); (· rfl); (· go_simp; (try rfl)); simp only [pu, sB, s0, sS]
      with_reducible refine wpList_loadV (.tmp 61) (j := 1) (v := .int .i64 n) ?_ ?_ KM6.out ?_ Tryz.underlying3 ?_ ?_
      · rfl
      · rfl
      · exact mO_1
      · rfl
      simp only [pu, sB, s0, sS]
      (with_reducible refine rN (v := .int .i64 (bits .or .i64 x.c n)) ?_ ?_ ?_); (· rfl); (· go_simp; (try with_reducible rfl)); simp only [pu, sB, s0, sS]
      (with_reducible refine rN (v := .pointer (some ⟨pT, 8, none⟩)) ?_ ?_ ?_); (· rfl); (· go_simp; (try rfl)); simp only [pu, sB, s0, sS]
      have KT7 := Lib.hid (KT6.out.stored (o := 8) (vs := [.int .i64 (bits .or .i64 x.c n)]) (cs' := (trC x.nm x.co (bits .or .i64 x.c n) x.a x.b (.slice ad2 x.subs.length cap2) x.p x.t x.k (.slice bd2 x.abs.length bcap2) x.u)) (trC_p8 ok.co))
      have KM7 := Lib.hid (KM6.out.wholeElse ([.int .i64 (bits .or .i64 x.c n)]) (o := 8) NEMT.out)
      have KR7 := Lib.hid (KR6.out.wholeElse ([.int .i64 (bits .or .i64 x.c n)]) (o := 8) NERT.out)
      have B7 := Lib.hid (below_whole ([.int .i64 (bits .or .i64 x.c n)]) (o := 8) B6.out LET.out)
      have HN7 := Lib.hid (HN6.out.keep (KeepT.stored KT6.out 8 ([.int .i64 (bits .or .i64 x.c n)])) (by decide))
      have HA7 := Lib.hid (HA6.out.keep (KeepT.stored KT6.out 8 ([.int .i64 (bits .or .i64 x.c n)])) (by decide))
      with_reducible refine wpList_storeV (.tmp 64) (.tmp 63) (j := 8) (v := .int .i64 (bits .or .i64 x.c n)) ?_ ?_ KT6.out ?_ (by kernel_rfl) (by simp [Value.oneCell']) ?_
      · rfl
      · rfl
      · exact (fit_1 (trC_sz ok.co) (by decide))
      (try simp only [Act.put])
      generalize World.setCells _ _ _ _ = w7 at KT7 KM7 KR7 B7 HN7 HA7 ⊢
      clear B6 KT6 KM6 KR6 HN6 HA6
      go_wp2_with fail
      go_meet
      exact ⟨_, _, Lib.hid rfl, Lib.hid rfl, Lib.hid (by rw [modT_7 (by exact hE.out)]; exact KT7.out), Lib.hid (by rw [modT_7 (by exact hE.out)]; exact HN7.out), Lib.hid (by rw [modT_7 (by exact hE.out)]; exact HA7.out), KR7, B7⟩
    have n7 : (k == 7) = false := by simpa using e7
    go_upto_region 17 with fail
    refine wp_region_lit ?_
    iterate 2 ((with_reducible refine rN (v := .bool false) ?_ ?_ ?_); (· rfl); (· go_simp; (try with_reducible rfl)); simp only [pu, sB, s0, sS])
    by_cases e8 : k = 8
    · have ek : (k == 8) = true := by simpa using e8
      have hE := Lib.hid e8
      clear e8
      go_upto_region 19 with fail
      refine wp_region_lit ?_
      iterate 2 ((with_reducible refine rN (v := .bool true) ?_ ?_ ?_); (· rfl); (· go_simp; (try with_reducible rfl)); simp only [pu, sB, s0, sS])
      go_upto_region 20 with fail
      refine wp_region_lit ?_
      (with_reducible refine rN (v := .pointer (some ⟨pT, 14, none⟩)) ?_ ?_ ?_); (· rfl); (· go_simp; (try rfl)); simp only [pu, sB, s0, sS]
      with_reducible refine wpList_loadV (.tmp 67) (j := 14) (v := .int .i64 x.k) ?_ ?_ KT6.out ?_ Tryz.underlying3 ?_ ?_
      · rfl
      · rfl
      · exact trC_14 ok.co
      · rfl
      simp only [pu, sB, s0, sS]
      (with_reducible refine rN (v := .pointer (some ⟨pM, 1, none⟩)) ?_ ?_ ?_); (· rfl); (· go_simp; (try rfl)); simp only [pu, sB, s0, sS]
      with_reducible refine wpList_loadV (.tmp 69) (j := 1) (v := .int .i64 n) ?_ ?_ KM6.out ?_ Tryz.underlying3 ?_ ?_
      · rfl
      · rfl
      · exact mO_1
      · rfl
      simp only [pu, sB, s0, sS]
      (with_reducible refine rN (v := .int .i64 (bits .or .i64 x.k n)) ?_ ?_ ?_); (· rfl); (· go_simp; (try with_reducible rfl)); simp only [pu, sB, s0, sS]
      (with_reducible refine rN (v := .pointer (some ⟨pT, 14, none⟩)) ?_ ?_ ?_); (· rfl); (· go_simp; (try rfl)); simp only [pu, sB, s0, sS]
      have KT7 := Lib.hid (KT6.out.stored (o := 14) (vs := [.int .i64 (bits .or .i64 x.k n)]) (cs' := (trC x.nm x.co x.c x.a x.b (.slice ad2 x.subs.length cap2) x.p x.t (bits .or .i64 x.k n) (.slice bd2 x.abs.length bcap2) x.u)) (trC_p14 ok.co))
      have KM7 := Lib.hid (KM6.out.wholeElse ([.int .i64 (bits .or .i64 x.k n)]) (o := 14) NEMT.out)
      have KR7 := Lib.hid (KR6.out.wholeElse ([.int .i64 (bits .or .i64 x.k n)]) (o := 14) NERT.out)
      have B7 := Lib.hid (below_whole ([.int .i64 (bits .or .i64 x.k n)]) (o := 14) B6.out LET.out)
      have HN7 := Lib.hid (HN6.out.keep (KeepT.stored KT6.out 14 ([.int .i64 (bits .or .i64 x.k n)])) (by decide))
      have HA7 := Lib.hid (HA6.out.keep (KeepT.stored KT6.out 14 ([.int .i64 (bits .or .i64 x.k n)])) (by decide))
      with_reducible refine wpList_storeV (.tmp 72) (.tmp 71) (j := 14) (v := .int .i64 (bits .or .i64 x.k n)) ?_ ?_ KT6.out ?_ (by kernel_rfl) (by simp [Value.oneCell']) ?_
      · rfl
      · rfl
      · exact (fit_1 (trC_sz ok.co) (by decide))
      (try simp only [Act.put])
      generalize World.setCells _ _ _ _ = w7 at KT7 KM7 KR7 B7 HN7 HA7 ⊢
      clear B6 KT6 KM6 KR6 HN6 HA6
      go_wp2_with fail
      go_meet
      exact ⟨_, _, Lib.hid rfl, Lib.hid rfl, Lib.hid (by rw [modT_8 (by exact hE.out)]; exact KT7.out), Lib.hid (by rw [modT_8 (by exact hE.out)]; exact HN7.out), Lib.hid (by rw [modT_8 (by exact hE.out)]; exact HA7.out), KR7, B7⟩
    have n8 : (k == 8) = false := by simpa using e8
    go_upto_region 19 with fail
    refine wp_region_lit ?_
    iterate 2 ((with_reducible refine rN (v := .bool false) ?_ ?_ ?_); (· rfl); (· go_simp; (try with_reducible rfl)); simp only [pu, sB, s0, sS])
    by_cases e9 : k = 9
    · have ek : (k == 9) = true := by simpa using e9
      have hE := Lib.hid e9
      clear e9
      go_upto_region 21 with fail
      refine wp_region_lit ?_
      iterate 2 ((with_reducible refine rN (v := .bool true) ?_ ?_ ?_); (· rfl); (· go_simp; (try with_reducible rfl)); simp only [pu, sB, s0, sS])
      go_upto_region 22 with fail
      refine wp_region_lit ?_
      (with_reducible refine rN (v := .pointer (some ⟨pT, 14, none⟩)) ?_ ?_ ?_); (· rfl); (· go_simp; (try rfl)); simp only [pu, sB, s0, sS]
      with_reducible refine wpList_loadV (.tmp 75) (j := 14) (v := .int .i64 x.k) ?_ ?_ KT6.out ?_ Tryz.underlying3 ?_ ?_
      · rfl
      · rfl
      · exact trC_14 ok.co
      · rfl
      simp only [pu, sB, s0, sS]
      (with_reducible refine rN (v := .pointer (some ⟨pM, 1, none⟩)) ?_ ?_ ?_); (· rfl); (· go_simp; (try rfl)); simp only [pu, sB, s0, sS]
      with_reducible refine wpList_loadV (.tmp 77) (j := 1) (v := .int .i64 n) ?_ ?_ KM6.out ?_ Tryz.underlying3 ?_ ?_
      · rfl
      · rfl
      · exact mO_1
      · rfl
      simp only [pu, sB, s0, sS]
      (with_reducible refine rN (v := .int .i64 (bits .andNot .i64 x.k n)) ?_ ?_ ?_); (· rfl); (· go_simp; (try with_reducible rfl)); simp only [pu, sB, s0, sS]
      (with_reducible refine rN (v := .pointer (some ⟨pT, 14, none⟩)) ?_ ?_ ?_); (· rfl); (· go_simp; (try rfl)); simp only [pu, sB, s0, sS]
      have KT7 := Lib.hid (KT6.out.stored (o := 14) (vs := [.int .i64 (bits .andNot .i64 x.k n)]) (cs' := (trC x.nm x.co x.c x.a x.b (.slice ad2 x.subs.length cap2) x.p x.t (bits .andNot .i64 x.k n) (.slice bd2 x.abs.length bcap2) x.u)) (trC_p14 ok.co))
      have KM7 := Lib.hid (KM6.out.wholeElse ([.int .i64 (bits .andNot .i64 x.k n)]) (o := 14) NEMT.out)
      have KR7 := Lib.hid (KR6.out.wholeElse ([.int .i64 (bits .andNot .i64 x.k n)]) (o := 14) NERT.out)
      have B7 := Lib.hid (below_whole ([.int .i64 (bits .andNot .i64 x.k n)]) (o := 14) B6.out LET.out)
      have HN7 := Lib.hid (HN6.out.keep (KeepT.stored KT6.out 14 ([.int .i64 (bits .andNot .i64 x.k n)])) (by decide))
      have HA7 := Lib.hid (HA6.out.keep (KeepT.stored KT6.out 14 ([.int .i64 (bits .andNot .i64 x.k n)])) (by decide))
      with_reducible refine wpList_storeV (.tmp 80) (.tmp 79) (j := 14) (v := .int .i64 (bits .andNot .i64 x.k n)) ?_ ?_ KT6.out ?_ (by kernel_rfl) (by simp [Value.oneCell']) ?_
      · rfl
      · rfl
      · exact (fit_1 (trC_sz ok.co) (by decide))
      (try simp only [Act.put])
      generalize World.setCells _ _ _ _ = w7 at KT7 KM7 KR7 B7 HN7 HA7 ⊢
      clear B6 KT6 KM6 KR6 HN6 HA6
      go_wp2_with fail
      go_meet
      exact ⟨_, _, Lib.hid rfl, Lib.hid rfl, Lib.hid (by rw [modT_9 (by exact hE.out)]; exact KT7.out), Lib.hid (by rw [modT_9 (by exact hE.out)]; exact HN7.out), Lib.hid (by rw [modT_9 (by exact hE.out)]; exact HA7.out), KR7, B7⟩
    have n9 : (k == 9) = false := by simpa using e9
    go_upto_region 21 with fail
    refine wp_region_lit ?_
    iterate 2 ((with_reducible refine rN (v := .bool false) ?_ ?_ ?_); (· rfl); (· go_simp; (try with_reducible rfl)); simp only [pu, sB, s0, sS])
    by_cases e10 : k = 10
    · have ek : (k == 10) = true := by simpa using e10
      have hE := Lib.hid e10
      clear e10
      go_upto_region 23 with fail
      refine wp_region_lit ?_
      iterate 2 ((with_reducible refine rN (v := .bool true) ?_ ?_ ?_); (· rfl); (· go_simp; (try with_reducible rfl)); simp only [pu, sB, s0, sS])
      go_upto_region 24 with fail
      refine wp_region_lit ?_
      (with_reducible refine rN (v := .pointer (some ⟨pT, 14, none⟩)) ?_ ?_ ?_); (· rfl); (· go_simp; (try rfl)); simp only [pu, sB, s0, sS]
      have KT7 := Lib.hid (KT6.out.stored (o := 14) (vs := [.int .i64 0]) (cs' := (trC x.nm x.co x.c x.a x.b (.slice ad2 x.subs.length cap2) x.p x.t 0 (.slice bd2 x.abs.length bcap2) x.u)) (trC_p14 ok.co))
      have KM7 := Lib.hid (KM6.out.wholeElse ([.int .i64 0]) (o := 14) NEMT.out)
      have KR7 := Lib.hid (KR6.out.wholeElse ([.int .i64 0]) (o := 14) NERT.out)
      have B7 := Lib.hid (below_whole ([.int .i64 0]) (o := 14) B6.out LET.out)
      have HN7 := Lib.hid (HN6.out.keep (KeepT.stored KT6.out 14 ([.int .i64 0])) (by decide))
      have HA7 := Lib.hid (HA6.out.keep (KeepT.stored KT6.out 14 ([.int .i64 0])) (by decide))
      with_reducible refine wpList_storeV (.tmp 83) (.const (.int .i64 0)) (j := 14) (v := .int .i64 0) ?_ ?_ KT6.out ?_ (by kernel_rfl) (by simp [Value.oneCell']) ?_
      · rfl
      · rfl
      · exact (fit_1 (trC_sz ok.co) (by decide))
      (try simp only [Act.put])
      generalize World.setCells _ _ _ _ = w7 at KT7 KM7 KR7 B7 HN7 HA7 ⊢
      clear B6 KT6 KM6 KR6 HN6 HA6
      (with_reducible refine rN (v := .pointer (some ⟨pT, 15, none⟩)) ?_ ?_ ?_); (· rfl); (· go_simp; (try rfl)); simp only [pu, sB, s0, sS]
      have KT8 := Lib.hid (KT7.out.stored (o := 15) (vs := [.slice none 0 0]) (cs' := (trC x.nm x.co x.c x.a x.b (.slice ad2 x.subs.length cap2) x.p x.t 0 (.slice none 0 0) x.u)) (trC_p15 ok.co))
      have KM8 := Lib.hid (KM7.out.wholeElse ([.slice none 0 0]) (o := 15) NEMT.out)
      have KR8 := Lib.hid (KR7.out.wholeElse ([.slice none 0 0]) (o := 15) NERT.out)
      have B8 := Lib.hid (below_whole ([.slice none 0 0]) (o := 15) B7.out LET.out)
      have HN8 := Lib.hid (HN7.out.keep (KeepT.stored KT7.out 15 ([.slice none 0 0])) (by decide))
      have HA8 := Lib.hid (HA7.out.keep (KeepT.stored KT7.out 15 ([.slice none 0 0])) (by decide))
      with_reducible refine wpList_storeV (.tmp 84) (.const (.slice none 0 0)) (j := 15) (v := .slice none 0 0) ?_ ?_ KT7.out ?_ (by kernel_rfl) (by simp [Value.oneCell']) ?_
      · rfl
      · rfl
      · exact (fit_1 (trC_sz ok.co) (by decide))
      (try simp only [Act.put])
      generalize World.setCells _ _ _ _ = w8 at KT8 KM8 KR8 B8 HN8 HA8 ⊢
      clear B7 KT7 KM7 KR7 HN7 HA7
      go_wp2_with fail
      go_meet
      exact ⟨_, _, Lib.hid rfl, Lib.hid rfl, Lib.hid (by rw [modT_10 (by exact hE.out)]; exact KT8.out), Lib.hid (by rw [modT_10 (by exact hE.out)]; exact HN8.out), Lib.hid (by rw [modT_10 (by exact hE.out)]; exact AbRow.nil _ _), KR8, B8⟩
    have n10 : (k == 10) = false := by simpa using e10
    go_upto_region 23 with fail
    refine wp_region_lit ?_
    iterate 2 ((with_reducible refine rN (v := .bool false) ?_ ?_ ?_); (· rfl); (· go_simp; (try with_reducible rfl)); simp only [pu, sB, s0, sS])
    by_cases e11 : k = 11
    · have ek : (k == 11) = true := by simpa using e11
      have hE := Lib.hid e11
      clear e11
      go_upto_region 25 with fail
      refine wp_region_lit ?_
      iterate 2 ((with_reducible refine rN (v := .bool true) ?_ ?_ ?_); (· rfl); (· go_simp; (try with_reducible rfl)); simp only [pu, sB, s0, sS])
      go_upto_region 26 with fail
      refine wp_region_lit ?_
      (with_reducible refine rN (v := ?_) ?_ ?_ ?_); rotate_left; (· rfl); (· go_simp; (try with_reducible rfl)); simp only [pu, sB, s0, sS]
      go_wp2_with fail
      refine (HC.out _).mono ?_
      rintro e w7 ⟨rfl, hb⟩
      have B7 := Lib.hid (B6.out.trans (hb.mono B6.out.size))
      have KT7 := Lib.hid (KT6.out.below hb KT6.out.lt)
      have KM7 := Lib.hid (KM6.out.below hb KM6.out.lt)
      have KR7 := Lib.hid (KR6.out.below hb KR6.out.lt)
      have HN7 := Lib.hid (HN6.out.below hb (Nat.le_refl _))
      have HA7 := Lib.hid (HA6.out.below hb (Nat.le_refl _))
      clear hb
      clear B6 KT6 KM6 KR6 HN6 HA6
      go_simp
      rename_i hKK
      refine hKK _ _ ?_
      clear hKK
      try simp only [pu, sB, s0, sS]
      (with_reducible refine rN (v := ?_) ?_ ?_ ?_); rotate_left; (· rfl); (· go_simp; (try with_reducible rfl)); simp only [pu, sB, s0, sS]
      go_wp2_with fail
      refine (HC.out _).mono ?_
      rintro e w8 ⟨rfl, hb⟩
      have B8 := Lib.hid (B7.out.trans (hb.mono B7.out.size))
      have KT8 := Lib.hid (KT7.out.below hb KT7.out.lt)
      have KM8 := Lib.hid (KM7.out.below hb KM7.out.lt)
      have KR8 := Lib.hid (KR7.out.below hb KR7.out.lt)
      have HN8 := Lib.hid (HN7.out.below hb (Nat.le_refl _))
      have HA8 := Lib.hid (HA7.out.below hb (Nat.le_refl _))
      clear hb
      clear B7 KT7 KM7 KR7 HN7 HA7
      go_simp
      rename_i hKK
      refine hKK _ _ ?_
      clear hKK
      try simp only [pu, sB, s0, sS]
      (with_reducible refine rN (v := .pointer (some ⟨pT, 12, none⟩)) ?_ ?_ ?_); (· rfl); (· go_simp; (try rfl)); simp only [pu, sB, s0, sS]
      have KT9 := Lib.hid (KT8.out.stored (o := 12) (vs := [.int .i64 (Num.clampI cnt)]) (cs' := (trC x.nm x.co x.c x.a x.b (.slice ad2 x.subs.length cap2) (Num.clampI cnt) x.t x.k (.slice bd2 x.abs.length bcap2) x.u)) (trC_p12 ok.co))
      have KM9 := Lib.hid (KM8.out.wholeElse ([.int .i64 (Num.clampI cnt)]) (o := 12) NEMT.out)
      have KR9 := Lib.hid (KR8.out.wholeElse ([.int .i64 (Num.clampI cnt)]) (o := 12) NERT.out)
      have B9 := Lib.hid (below_whole ([.int .i64 (Num.clampI cnt)]) (o := 12) B8.out LET.out)
      have HN9 := Lib.hid (HN8.out.keep (KeepT.stored KT8.out 12 ([.int .i64 (Num.clampI cnt)])) (by decide))
      have HA9 := Lib.hid (HA8.out.keep (KeepT.stored KT8.out 12 ([.int .i64 (Num.clampI cnt)])) (by decide))
      with_reducible refine wpList_storeV (.tmp 91) (.tmp 88) (j := 12) (v := .int .i64 (Num.clampI cnt)) ?_ ?_ KT8.out ?_ (by kernel_rfl) (by simp [Value.oneCell']) ?_
      · rfl
      · rfl
      · exact (fit_1 (trC_sz ok.co) (by decide))
      (try simp only [Act.put])
      generalize World.setCells _ _ _ _ = w9 at KT9 KM9 KR9 B9 HN9 HA9 ⊢
      clear B8 KT8 KM8 KR8 HN8 HA8
      (with_reducible refine rN (v := .pointer (some ⟨pT, 13, none⟩)) ?_ ?_ ?_); (· rfl); (· go_simp; (try rfl)); simp only [pu, sB, s0, sS]
      have KT10 := Lib.hid (KT9.out.stored (o := 13) (vs := [.int .i64 (Num.clampI cnt)]) (cs' := (trC x.nm x.co x.c x.a x.b (.slice ad2 x.subs.length cap2) (Num.clampI cnt) (Num.clampI cnt) x.k (.slice bd2 x.abs.length bcap2) x.u)) (trC_p13 ok.co))
      have KM10 := Lib.hid (KM9.out.wholeElse ([.int .i64 (Num.clampI cnt)]) (o := 13) NEMT.out)
      have KR10 := Lib.hid (KR9.out.wholeElse ([.int .i64 (Num.clampI cnt)]) (o := 13) NERT.out)
      have B10 := Lib.hid (below_whole ([.int .i64 (Num.clampI cnt)]) (o := 13) B9.out LET.out)
      have HN10 := Lib.hid (HN9.out.keep (KeepT.stored KT9.out 13 ([.int .i64 (Num.clampI cnt)])) (by decide))
      have HA10 := Lib.hid (HA9.out.keep (KeepT.stored KT9.out 13 ([.int .i64 (Num.clampI cnt)])) (by decide))
      with_reducible refine wpList_storeV (.tmp 92) (.tmp 90) (j := 13) (v := .int .i64 (Num.clampI cnt)) ?_ ?_ KT9.out ?_ (by kernel_rfl) (by simp [Value.oneCell']) ?_
      · rfl
      · rfl
      · exact (fit_1 (trC_sz ok.co) (by decide))
      (try simp only [Act.put])
      generalize World.setCells _ _ _ _ = w10 at KT10 KM10 KR10 B10 HN10 HA10 ⊢
      clear B9 KT9 KM9 KR9 HN9 HA9
      go_wp2_with fail
      go_meet
      exact ⟨_, _, Lib.hid rfl, Lib.hid rfl, Lib.hid (by rw [modT_11 (by exact hE.out)]; exact KT10.out), Lib.hid (by rw [modT_11 (by exact hE.out)]; exact HN10.out), Lib.hid (by rw [modT_11 (by exact hE.out)]; exact HA10.out), KR10, B10⟩
    have n11 : (k == 11) = false := by simpa using e11
    go_upto_region 25 with fail
    refine wp_region_lit ?_
    iterate 2 ((with_reducible refine rN (v := .bool false) ?_ ?_ ?_); (· rfl); (· go_simp; (try with_reducible rfl)); simp only [pu, sB, s0, sS])
    by_cases e12 : k = 12
    · have ek : (k == 12) = true := by simpa using e12
      have hE := Lib.hid e12
      clear e12
      go_upto_region 27 with fail
      refine wp_region_lit ?_
      iterate 2 ((with_reducible refine rN (v := .bool true) ?_ ?_ ?_); (· rfl); (· go_simp; (try with_reducible rfl)); simp only [pu, sB, s0, sS])
      go_upto_region 28 with fail
      have B7 := Lib.hid (B6.out.drew)
      have KT7 := Lib.hid (KT6.out.drew)
      have KM7 := Lib.hid (KM6.out.drew)
      have KR7 := Lib.hid (KR6.out.drew)
      have HN7 := Lib.hid (HN6.out.below ((Below.refl _ _).drew) (Nat.le_refl _))
      have HA7 := Lib.hid (HA6.out.below ((Below.refl _ _).drew) (Nat.le_refl _))
      refine wp_region_held_drew (S := (fun W : World => Blk W pM (mO k n m s (cellsF f fs)) 39 ∧ Blk W pR zTr.cells 56)) (by kernel_rfl) ?_ (fun hHeld => ?_)
      · exact ⟨KM7.out, KR7.out⟩
      generalize World.drew _ = w7 at KT7 KM7 KR7 hHeld B7 HN7 HA7 ⊢
      clear B6 KT6 KM6 KR6 HN6 HA6
      refine take_run 0 (some 95) (v := .pointer (some ⟨pM, 1, none⟩)) rfl rfl (by kernel_rfl) (by kernel_rfl) (by kernel_rfl) (fun _ _ _ h => h) (by rfl) ?_ (by assumption) ?_
      · (intro W hSw; go_simp; (try rfl))
      simp only [pu, sB, s0, sS]
      refine take_loadV 1 (some 96) rfl rfl (by kernel_rfl) (by kernel_rfl) (by kernel_rfl) (fun _ _ _ h => h) (by rfl) (.tmp 95) rfl (b := pM) (j := 1) (cs := (mO k n m s (cellsF f fs))) (v := .int .i64 n) (by rfl) (fun W h => h.1) mO_1 Tryz.underlying3 rfl (by assumption) ?_
      simp only [pu, sB, s0, sS]
      refine take_run 2 (some 97) (v := .pointer (some ⟨pM, 2, none⟩)) rfl rfl (by kernel_rfl) (by kernel_rfl) (by kernel_rfl) (fun _ _ _ h => h) (by rfl) ?_ (by assumption) ?_
      · (intro W hSw; go_simp; (try rfl))
      simp only [pu, sB, s0, sS]
      refine take_loadV 3 (some 98) rfl rfl (by kernel_rfl) (by kernel_rfl) (by kernel_rfl) (fun _ _ _ h => h) (by rfl) (.tmp 97) rfl (b := pM) (j := 2) (cs := (mO k n m s (cellsF f fs))) (v := .int .i64 m) (by rfl) (fun W h => h.1) mO_2 Tryz.underlying3 rfl (by assumption) ?_
      simp only [pu, sB, s0, sS]
      refine take_run 4 (some 99) (v := .pointer (some ⟨pT, 12, none⟩)) rfl rfl (by kernel_rfl) (by kernel_rfl) (by kernel_rfl) (fun _ _ _ h => h) (by rfl) ?_ (by assumption) ?_
      · (intro W hSw; go_simp; (try rfl))
      simp only [pu, sB, s0, sS]
      refine wpAnyH_ready (rs := [5]) (by kernel_rfl) (by simp) ?_
      refine AllReadyH.cons rfl (fun Q1 hQ1 => ?_) AllReadyH.nil
      have KT8 := Lib.hid (KT7.out.stored (o := 12) (vs := [.int .i64 n]) (cs' := (trC x.nm x.co x.c x.a x.b (.slice ad2 x.subs.length cap2) n x.t x.k (.slice bd2 x.abs.length bcap2) x.u)) (trC_p12 ok.co))
      have KM8 := Lib.hid (KM7.out.wholeElse ([.int .i64 n]) (o := 12) NEMT.out)
      have KR8 := Lib.hid (KR7.out.wholeElse ([.int .i64 n]) (o := 12) NERT.out)
      have B8 := Lib.hid (below_whole ([.int .i64 n]) (o := 12) B7.out LET.out)
      have HN8 := Lib.hid (HN7.out.keep (KeepT.stored KT7.out 12 ([.int .i64 n])) (by decide))
      have HA8 := Lib.hid (HA7.out.keep (KeepT.stored KT7.out 12 ([.int .i64 n])) (by decide))
      refine step_storeV rfl rfl (.tmp 99) (.tmp 96) rfl (b := pT) (j := 12) (v := .int .i64 n) rfl rfl KT7.out (fit_1 (trC_sz ok.co) (by decide)) (by kernel_rfl) (by simp [Value.oneCell']) ?_
      generalize World.setCells _ _ _ _ = w8 at KT8 KM8 KR8 B8 HN8 HA8 ⊢
      clear B7 KT7 KM7 KR7 HN7 HA7
      refine hQ1.out _ _ ?_ (fun hHd1 => ?_)
      · exact ⟨KM8.out, KR8.out⟩
      clear hQ1 Q1 hHeld
      refine take_run 6 (some 100) (v := .pointer (some ⟨pT, 13, none⟩)) rfl rfl (by kernel_rfl) (by kernel_rfl) (by kernel_rfl) (fun _ _ _ h => h) (by rfl) ?_ (by assumption) ?_
      · (intro W hSw; go_simp; (try rfl))
      simp only [pu, sB, s0, sS]
      refine wpAnyH_ready (rs := [7]) (by kernel_rfl) (by simp) ?_
      refine AllReadyH.cons rfl (fun Q2 hQ2 => ?_) AllReadyH.nil
      have KT9 := Lib.hid (KT8.out.stored (o := 13) (vs := [.int .i64 m]) (cs' := (trC x.nm x.co x.c x.a x.b (.slice ad2 x.subs.length cap2) n m x.k (.slice bd2 x.abs.length bcap2) x.u)) (trC_p13 ok.co))
      have KM9 := Lib.hid (KM8.out.wholeElse ([.int .i64 m]) (o := 13) NEMT.out)
      have KR9 := Lib.hid (KR8.out.wholeElse ([.int .i64 m]) (o := 13) NERT.out)
      have B9 := Lib.hid (below_whole ([.int .i64 m]) (o := 13) B8.out LET.out)
      have HN9 := Lib.hid (HN8.out.keep (KeepT.stored KT8.out 13 ([.int .i64 m])) (by decide))
      have HA9 := Lib.hid (HA8.out.keep (KeepT.stored KT8.out 13 ([.int .i64 m])) (by decide))
      refine step_storeV rfl rfl (.tmp 100) (.tmp 98) rfl (b := pT) (j := 13) (v := .int .i64 m) rfl rfl KT8.out (fit_1 (trC_sz ok.co) (by decide)) (by kernel_rfl) (by simp [Value.oneCell']) ?_
      generalize World.setCells _ _ _ _ = w9 at KT9 KM9 KR9 B9 HN9 HA9 ⊢
      clear B8 KT8 KM8 KR8 HN8 HA8
      refine hQ2.out _ _ ?_ (fun hHd2 => ?_)
      · exact ⟨KM9.out, KR9.out⟩
      clear hQ2 Q2 hHd1
      refine wpAnyH_done (by kernel_rfl) ?_ _
      go_wp2_with fail
      go_meet
      exact ⟨_, _, Lib.hid rfl, Lib.hid rfl, Lib.hid (by rw [modT_12 (by exact hE.out)]; exact KT9.out), Lib.hid (by rw [modT_12 (by exact hE.out)]; exact HN9.out), Lib.hid (by rw [modT_12 (by exact hE.out)]; exact HA9.out), KR9, B9⟩
    have n12 : (k == 12) = false := by simpa using e12
    go_upto_region 27 with fail
    refine wp_region_lit ?_
    iterate 2 ((with_reducible refine rN (v := .bool false) ?_ ?_ ?_); (· rfl); (· go_simp; (try with_reducible rfl)); simp only [pu, sB, s0, sS])
    by_cases e13 : k = 13
    · have ek : (k == 13) = true := by simpa using e13
      have hE := Lib.hid e13
      clear e13
      go_upto_region 29 with fail
      refine wp_region_lit ?_
      iterate 2 ((with_reducible refine rN (v := .bool true) ?_ ?_ ?_); (· rfl); (· go_simp; (try with_reducible rfl)); simp only [pu, sB, s0, sS])
      go_upto_region 30 with fail
      have f0 : w6.cell? ⟨pT, 12, none⟩ = some (.int .i64 x.p) := (KT6.out.cell 12).trans (trC_12 ok.co)
      have f1 : w6.cell? ⟨pM, 1, none⟩ = some (.int .i64 n) := (KM6.out.cell 1).trans (mO_1)
      have f2 : w6.cell? ⟨pT, 13, none⟩ = some (.int .i64 x.t) := (KT6.out.cell 13).trans (trC_13 ok.co)
      have f3 : w6.cell? ⟨pM, 2, none⟩ = some (.int .i64 m) := (KM6.out.cell 2).trans (mO_2)
      refine wp_region_still_tail 11 (by kernel_rfl) (by kernel_rfl) ?_
      simp only [List.take_succ_cons, List.take_zero, List.drop_succ_cons, List.drop_zero]
      still_step
      still_step
      still_step
      still_step
      still_call ((HA1.out _).mono (fun _ _ h => ⟨h.1, h.2.symm⟩))
      still_step
      still_step
      still_step
      still_step
      still_call ((HA2.out _).mono (fun _ _ h => ⟨h.1, h.2.symm⟩))
      still_step
      refine wpStill_nil ?_
      change wpList _ _ _ _ _ w6.drew
      have B7 := Lib.hid (B6.out.drew)
      have KT7 := Lib.hid (KT6.out.drew)
      have KM7 := Lib.hid (KM6.out.drew)
      have KR7 := Lib.hid (KR6.out.drew)
      have HN7 := Lib.hid (HN6.out.below ((Below.refl _ _).drew) (Nat.le_refl _))
      have HA7 := Lib.hid (HA6.out.below ((Below.refl _ _).drew) (Nat.le_refl _))
      clear f0 f1 f2 f3
      generalize World.drew _ = w7 at KT7 KM7 KR7 B7 HN7 HA7 ⊢
      clear B6 KT6 KM6 KR6 HN6 HA6
      try simp only [pu, sB, s0, sS]
      have KT8 := Lib.hid (KT7.out.stored (o := 12) (vs := [.int .i64 (Num.clampI (Num.clampI x.p + Num.clampI n))]) (cs' := (trC x.nm x.co x.c x.a x.b (.slice ad2 x.subs.length cap2) (Num.clampI (Num.clampI x.p + Num.clampI n)) x.t x.k (.slice bd2 x.abs.length bcap2) x.u)) (trC_p12 ok.co))
      have KM8 := Lib.hid (KM7.out.wholeElse ([.int .i64 (Num.clampI (Num.clampI x.p + Num.clampI n))]) (o := 12) NEMT.out)
      have KR8 := Lib.hid (KR7.out.wholeElse ([.int .i64 (Num.clampI (Num.clampI x.p + Num.clampI n))]) (o := 12) NERT.out)
      have B8 := Lib.hid (below_whole ([.int .i64 (Num.clampI (Num.clampI x.p + Num.clampI n))]) (o := 12) B7.out LET.out)
      have HN8 := Lib.hid (HN7.out.keep (KeepT.stored KT7.out 12 ([.int .i64 (Num.clampI (Num.clampI x.p + Num.clampI n))])) (by decide))
      have HA8 := Lib.hid (HA7.out.keep (KeepT.stored KT7.out 12 ([.int .i64 (Num.clampI (Num.clampI x.p + Num.clampI n))])) (by decide))
      with_reducible refine wpList_storeV (.tmp 113) (.tmp 107) (j := 12) (v := .int .i64 (Num.clampI (Num.clampI x.p + Num.clampI n))) ?_ ?_ KT7.out ?_ (by kernel_rfl) (by simp [Value.oneCell']) ?_
      · rfl
      · rfl
      · exact (fit_1 (trC_sz ok.co) (by decide))
      (try simp only [Act.put])
      generalize World.setCells _ _ _ _ = w8 at KT8 KM8 KR8 B8 HN8 HA8 ⊢
      clear B7 KT7 KM7 KR7 HN7 HA7
      (with_reducible refine rN (v := .pointer (some ⟨pT, 13, none⟩)) ?_ ?_ ?_); (· rfl); (· go_simp; (try rfl)); simp only [pu, sB, s0, sS]
      have KT9 := Lib.hid (KT8.out.stored (o := 13) (vs := [.int .i64 (Num.clampI (Num.clampI x.t + Num.clampI m))]) (cs' := (trC x.nm x.co x.c x.a x.b (.slice ad2 x.subs.length cap2) (Num.clampI (Num.clampI x.p + Num.clampI n)) (Num.clampI (Num.clampI x.t + Num.clampI m)) x.k (.slice bd2 x.abs.length bcap2) x.u)) (trC_p13 ok.co))
      have KM9 := Lib.hid (KM8.out.wholeElse ([.int .i64 (Num.clampI (Num.clampI x.t + Num.clampI m))]) (o := 13) NEMT.out)
      have KR9 := Lib.hid (KR8.out.wholeElse ([.int .i64 (Num.clampI (Num.clampI x.t + Num.clampI m))]) (o := 13) NERT.out)
      have B9 := Lib.hid (below_whole ([.int .i64 (Num.clampI (Num.clampI x.t + Num.clampI m))]) (o := 13) B8.out LET.out)
      have HN9 := Lib.hid (HN8.out.keep (KeepT.stored KT8.out 13 ([.int .i64 (Num.clampI (Num.clampI x.t + Num.clampI m))])) (by decide))
      have HA9 := Lib.hid (HA8.out.keep (KeepT.stored KT8.out 13 ([.int .i64 (Num.clampI (Num.clampI x.t + Num.clampI m))])) (by decide))
      with_reducible refine wpList_storeV (.tmp 114) (.tmp 112) (j := 13) (v := .int .i64 (Num.clampI (Num.clampI x.t + Num.clampI m))) ?_ ?_ KT8.out ?_ (by kernel_rfl) (by simp [Value.oneCell']) ?_
      · rfl
      · rfl
      · exact (fit_1 (trC_sz ok.co) (by decide))
      (try simp only [Act.put])
      generalize World.setCells _ _ _ _ = w9 at KT9 KM9 KR9 B9 HN9 HA9 ⊢
      clear B8 KT8 KM8 KR8 HN8 HA8
      go_wp2_with fail
      go_meet
      exact ⟨_, _, Lib.hid rfl, Lib.hid rfl, Lib.hid (by rw [modT_13 (by exact hE.out)]; exact KT9.out), Lib.hid (by rw [modT_13 (by exact hE.out)]; exact HN9.out), Lib.hid (by rw [modT_13 (by exact hE.out)]; exact HA9.out), KR9, B9⟩
    have n13 : (k == 13) = false := by simpa using e13
    go_upto_region 29 with fail
    refine wp_region_lit ?_
    iterate 2 ((with_reducible refine rN (v := .bool false) ?_ ?_ ?_); (· rfl); (· go_simp; (try with_reducible rfl)); simp only [pu, sB, s0, sS])
    by_cases e14 : k = 14
    · have ek : (k == 14) = true := by simpa using e14
      have hE := Lib.hid e14
      clear e14
      go_upto_region 31 with fail
      refine wp_region_lit ?_
      iterate 2 ((with_reducible refine rN (v := .bool true) ?_ ?_ ?_); (· rfl); (· go_simp; (try with_reducible rfl)); simp only [pu, sB, s0, sS])
      go_upto_region 32 with fail
      refine wp_region_lit ?_
      (with_reducible refine rN (v := .pointer (some ⟨pT, 13, none⟩)) ?_ ?_ ?_); (· rfl); (· go_simp; (try rfl)); simp only [pu, sB, s0, sS]
      with_reducible refine wpList_loadV (.tmp 117) (j := 13) (v := .int .i64 x.t) ?_ ?_ KT6.out ?_ Tryz.underlying3 ?_ ?_
      · rfl
      · rfl
      · exact trC_13 ok.co
      · rfl
      simp only [pu, sB, s0, sS]
      (with_reducible refine rN (v := .pointer (some ⟨pT, 12, none⟩)) ?_ ?_ ?_); (· rfl); (· go_simp; (try rfl)); simp only [pu, sB, s0, sS]
      with_reducible refine wpList_loadV (.tmp 119) (j := 12) (v := .int .i64 x.p) ?_ ?_ KT6.out ?_ Tryz.underlying3 ?_ ?_
      · rfl
      · rfl
      · exact trC_12 ok.co
      · rfl
      simp only [pu, sB, s0, sS]
      (with_reducible refine rN (v := .pointer (some ⟨pT, 12, none⟩)) ?_ ?_ ?_); (· rfl); (· go_simp; (try rfl)); simp only [pu, sB, s0, sS]
      have KT7 := Lib.hid (KT6.out.stored (o := 12) (vs := [.int .i64 x.t]) (cs' := (trC x.nm x.co x.c x.a x.b (.slice ad2 x.subs.length cap2) x.t x.t x.k (.slice bd2 x.abs.length bcap2) x.u)) (trC_p12 ok.co))
      have KM7 := Lib.hid (KM6.out.wholeElse ([.int .i64 x.t]) (o := 12) NEMT.out)
      have KR7 := Lib.hid (KR6.out.wholeElse ([.int .i64 x.t]) (o := 12) NERT.out)
      have B7 := Lib.hid (below_whole ([.int .i64 x.t]) (o := 12) B6.out LET.out)
      have HN7 := Lib.hid (HN6.out.keep (KeepT.stored KT6.out 12 ([.int .i64 x.t])) (by decide))
      have HA7 := Lib.hid (HA6.out.keep (KeepT.stored KT6.out 12 ([.int .i64 x.t])) (by decide))
      with_reducible refine wpList_storeV (.tmp 121) (.tmp 118) (j := 12) (v := .int .i64 x.t) ?_ ?_ KT6.out ?_ (by kernel_rfl) (by simp [Value.oneCell']) ?_
      · rfl
      · rfl
      · exact (fit_1 (trC_sz ok.co) (by decide))
      (try simp only [Act.put])
      generalize World.setCells _ _ _ _ = w7 at KT7 KM7 KR7 B7 HN7 HA7 ⊢
      clear B6 KT6 KM6 KR6 HN6 HA6
      (with_reducible refine rN (v := .pointer (some ⟨pT, 13, none⟩)) ?_ ?_ ?_); (· rfl); (· go_simp; (try rfl)); simp only [pu, sB, s0, sS]
      have KT8 := Lib.hid (KT7.out.stored (o := 13) (vs := [.int .i64 x.p]) (cs' := (trC x.nm x.co x.c x.a x.b (.slice ad2 x.subs.length cap2) x.t x.p x.k (.slice bd2 x.abs.length bcap2) x.u)) (trC_p13 ok.co))
      have KM8 := Lib.hid (KM7.out.wholeElse ([.int .i64 x.p]) (o := 13) NEMT.out)
      have KR8 := Lib.hid (KR7.out.wholeElse ([.int .i64 x.p]) (o := 13) NERT.out)
      have B8 := Lib.hid (below_whole ([.int .i64 x.p]) (o := 13) B7.out LET.out)
      have HN8 := Lib.hid (HN7.out.keep (KeepT.stored KT7.out 13 ([.int .i64 x.p])) (by decide))
      have HA8 := Lib.hid (HA7.out.keep (KeepT.stored KT7.out 13 ([.int .i64 x.p])) (by decide))
      with_reducible refine wpList_storeV (.tmp 122) (.tmp 120) (j := 13) (v := .int .i64 x.p) ?_ ?_ KT7.out ?_ (by kernel_rfl) (by simp [Value.oneCell']) ?_
      · rfl
      · rfl
      · exact (fit_1 (trC_sz ok.co) (by decide))
      (try simp only [Act.put])
      generalize World.setCells _ _ _ _ = w8 at KT8 KM8 KR8 B8 HN8 HA8 ⊢
      clear B7 KT7 KM7 KR7 HN7 HA7
      go_wp2_with fail
      go_meet
      exact ⟨_, _, Lib.hid rfl, Lib.hid rfl, Lib.hid (by rw [modT_14 (by exact hE.out)]; exact KT8.out), Lib.hid (by rw [modT_14 (by exact hE.out)]; exact HN8.out), Lib.hid (by rw [modT_14 (by exact hE.out)]; exact HA8.out), KR8, B8⟩
    have n14 : (k == 14) = false := by simpa using e14
    exact absurd hk (by simp [Mo.isKind, e1, e2, e3, e4, e5, e6, e7, e8, e9, e10, e11, e12, e13, e14])
  case rest =>
    obtain ⟨s2, a2, hs2, ha2, KT90, HN90, HA90, KR90, B90⟩ := hcut
    have hco : Part 50 7 (modT x ⟨k, n, m, s.data.toList, f⟩ you cnt).co := modT_co ok.co
    go_upto_region 33 with fail
    refine wp_region_lit ?_
    with_reducible refine wpList_loadS (.tmp 4) ?_ ?_ KT90.out Tryz.underlying56 ?_ (szTr (trV_sz hco)) ?_
    · rfl
    · rfl
    · rfl
    simp only [pu, sB, s0, sS]
    have KR91 := Lib.hid (KR90.out.stored (o := 0) (vs := (trV (modT x ⟨k, n, m, s.data.toList, f⟩ you cnt) s2 a2).toList) (cs' := (trV (modT x ⟨k, n, m, s.data.toList, f⟩ you cnt) s2 a2)) (laid_all (trV_sz hco) zTr_cells))
    have KT91 := Lib.hid (KT90.out.wholeElse ((trV (modT x ⟨k, n, m, s.data.toList, f⟩ you cnt) s2 a2).toList) (o := 0) NETR.out)
    have B91 := Lib.hid (below_whole ((trV (modT x ⟨k, n, m, s.data.toList, f⟩ you cnt) s2 a2).toList) (o := 0) B90.out LER.out)
    have HN91 := Lib.hid (HN90.out.keep (KeepT.stored KR90.out 0 ((trV (modT x ⟨k, n, m, s.data.toList, f⟩ you cnt) s2 a2).toList)) (by decide))
    have HA91 := Lib.hid (HA90.out.keep (KeepT.stored KR90.out 0 ((trV (modT x ⟨k, n, m, s.data.toList, f⟩ you cnt) s2 a2).toList)) (by decide))
    with_reducible refine wpList_storeM (.tmp 8) (.tmp 123) (o := 0) (vs := (trV (modT x ⟨k, n, m, s.data.toList, f⟩ you cnt) s2 a2)) ?_ ?_ KR90.out ?_ (szTr (trV_sz hco)) (trV_one hco hs2.out ha2.out) ?_
    · rfl
    · rfl
    · exact (fit_2 zTr_cells (trV_sz hco) (by decide))
    (try simp only [Act.put])
    generalize World.setCells _ _ _ _ = w91 at KR91 KT91 B91 HN91 HA91 ⊢
    clear B90 KR90 KT90 HN90 HA90
    have hL := KR91.out.readS Tryz.underlying56 rfl (szTr (trV_sz hco))
    go_wp2_with fail
    exact bodyPost_ret (v := .agg (trV (modT x ⟨k, n, m, s.data.toList, f⟩ you cnt) s2 a2)) (results_cell Tryz.results30 (by rfl) hL) rfl ⟨⟨_, _, rfl, HN91.out, HA91.out⟩, B91.out⟩
end Go.Proofs.YtbcgkeclmioeiaaGreatDoor
namespace Go.Proofs.YtbcgkeclmioeiaaGreatDoor
open Go.RowKit
open Wd (Bs)

def ApplyRes (x : TrD) (w : World) (e : Ending) (w' : World) : Prop := (∃ s2 a2, e = .returned (.agg (trV x s2 a2)) ∧ OwnStrs w.heap.size w' s2 x.subs ∧ AbRow (some w.heap.size) w' a2 x.abs) ∧ Below w.heap.size w w'
set_option maxHeartbeats 1000000 in
theorem modApply (x : TrD) (sv av : Value) (ok : TrOk x) (k n m : Int) (s : ByteArray) (f : Fil.Flt) (fs : ByteArray) (you cnt : Int) (hf : f.sub = fs.data.toList) (hss : s.size ≤ 1000000) (hfs : fs.size ≤ 1000000) (w : World) (hE : Env w) (hs : Strs w sv x.subs) (ha : AbRow none w av x.abs) :
    Calls Tryz.prog 30 #[.agg (trV x sv av), .agg (mO k n m s (cellsF f fs)), .int .i64 you, .int .i64 cnt] w (ApplyRes (applyT x ⟨k, n, m, s.data.toList, f⟩ you cnt) w) := by
  have HI : Hid (∀ W, Below w.heap.size w W → _) := Lib.hid fun W hb => modIs k n m s f fs hf (by unfold maxLen; omega) (by unfold maxLen; omega) W (hE.below hb)
  unfold applyT
  cases hv : Mo.okB ⟨k, n, m, s.data.toList, f⟩ with
  | false =>
    rw [hv] at HI
    rw [if_neg (by decide)]
    exact applyNo x sv av ok k n m s f fs you cnt w hs ha HI
  | true =>
    rw [hv] at HI
    rw [if_pos rfl]
    have hk : Mo.isKind k = true := by
      cases hk : Mo.isKind k with
      | true => rfl
      | false => rw [Mo.ok_not (x := ⟨k, n, m, s.data.toList, f⟩) hk] at hv; cases hv
    have hl := ok.subs
    exact applyYes x sv av ok k n m s f fs you cnt w hs ha HI hk (Lib.hid fun W => same_below (numClamp cnt W)) (Lib.hid fun W => numAdd x.p n W) (Lib.hid fun W => numAdd x.t m W)
      (Lib.hid fun W v' hb hv' => lineAdd x.a x.b v' x.subs s W (hE.below hb).line hv' (by omega) (by unfold maxLen; omega))
end Go.Proofs.YtbcgkeclmioeiaaGreatDoor
