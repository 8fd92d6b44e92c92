/-
  CONTRACT OF LAYER 15 (mod): Is, by a walk. By an AI agent.
-/
import Derived.Test.YtbcgkeclmioeiaaGreatDoorSwGA
import Derived.Deep.CutBlock
import Derived.Deep.DeepCutAuto
import Derived.Deep.Cut
namespace Go.Proofs.YtbcgkeclmioeiaaGreatDoor
open Go.RowKit
open Wd (Bs)

/-- where the kinds' ways meet: what the kind asks, and whether the other fields are zero -/
def IsMid (k n m : Int) (s : ByteArray) (f : Fil.Flt) (fs : ByteArray) (ok : Bool) (U : Array Value) : Prop := ∃ q, (ok && q) = Mo.okB ⟨k, n, m, s.data.toList, f⟩ ∧ ∀ W : World, (Op.equalIn 10000 39 (.agg (mO k n m s (cellsF f fs))) (.agg U)).run Tryz.prog W = .ok q W
theorem IsMid.of {k n m : Int} {s : ByteArray} {f : Fil.Flt} {fs : ByteArray} {ok : Bool} {n' m' : Int} {s' : ByteArray} {g : Fil.Flt} {gs : ByteArray} (hf : f.sub = fs.data.toList) (hg : g.sub = gs.data.toList) (h : Mo.okB ⟨k, n, m, s.data.toList, f⟩ = (ok && eqMo ⟨k, n, m, s.data.toList, f⟩ ⟨k, n', m', s'.data.toList, g⟩)) : IsMid k n m s f fs ok (mO k n' m' s' (cellsF g gs)) :=
  ⟨_, h.symm, fun W => run_eq_mod k n m k n' m' s s' f g fs gs hf hg W⟩

set_option maxHeartbeats 8000000 in
set_option maxRecDepth 100000 in
theorem modIsIn (k n m : Int) (s : ByteArray) (f : Fil.Flt) (fs : ByteArray) (z : Int) (v1 v2 v4 v6 vp v8 v11 va vb vc vd : Bool) (w : World)
    (hf : f.sub = fs.data.toList) (H1 : Hid (∀ W, Below w.heap.size w W → Calls Tryz.prog 60 #[.int .i64 n, .int .i64 1, .int .i64 63] W fun e w' => e = .returned (.bool v1) ∧ Below W.heap.size W w')) (hz : bits .and .i64 n 6 = z) (h2 : (z == 0) = v2) (hT : Mo.typesB n = (v1 && v2)) (H4 : Hid (∀ W, Below w.heap.size w W → Calls Tryz.prog 61 #[.string s] W fun e w' => e = .returned (.bool v4) ∧ Below W.heap.size W w')) (hS : Ln.isSub s.data.toList = v4) (H6 : Hid (∀ W, Below w.heap.size w W → Calls Tryz.prog 62 #[.int .i64 n] W fun e w' => e = .returned (.bool v6) ∧ Below W.heap.size W w')) (hp : decide (0 < n) = vp) (hC : Mo.inB 0 31 n = v6) (hC7 : Mo.inB 1 31 n = (v6 && vp)) (H8 : Hid (∀ W, Below w.heap.size w W → Calls Tryz.prog 63 #[.int .i64 n] W fun e w' => e = .returned (.bool v8) ∧ Below W.heap.size W w')) (hK : Mo.inB 1 131071 n = (v8 && vp)) (H11 : Hid (∀ W, Below w.heap.size w W → Calls Tryz.prog 33 #[.agg (cellsF f fs)] W fun e w' => e = .returned (.bool v11) ∧ Below W.heap.size W w')) (hF : Fil.validB f = v11) (Ha : Hid (∀ W, Below w.heap.size w W → Calls Tryz.prog 60 #[.int .i64 n, .int .i64 0, .int .i64 99] W fun e w' => e = .returned (.bool va) ∧ Below W.heap.size W w')) (ha : Mo.inB 0 99 n = va) (Hb : Hid (∀ W, Below w.heap.size w W → Calls Tryz.prog 60 #[.int .i64 m, .int .i64 0, .int .i64 99] W fun e w' => e = .returned (.bool vb) ∧ Below W.heap.size W w')) (hb99 : Mo.inB 0 99 m = vb) (Hc : Hid (∀ W, Below w.heap.size w W → Calls Tryz.prog 60 #[.int .i64 n, .int .i64 (-99), .int .i64 99] W fun e w' => e = .returned (.bool vc) ∧ Below W.heap.size W w')) (hc : Mo.inB (-99) 99 n = vc) (Hd : Hid (∀ W, Below w.heap.size w W → Calls Tryz.prog 60 #[.int .i64 m, .int .i64 (-99), .int .i64 99] W fun e w' => e = .returned (.bool vd) ∧ Below W.heap.size W w')) (hd : Mo.inB (-99) 99 m = vd)
    (hk14 : Mo.isKind k = true) :
    Calls Tryz.prog 32 #[.agg (mO k n m s (cellsF f fs))] w fun e w' => e = .returned (.bool (Mo.okB ⟨k, n, m, s.data.toList, f⟩)) ∧ Below w.heap.size w w' := by

  have B0 := Lib.hid (Below.refl w.heap.size w)
  go_enter Tryz.func32, Tryz.ntmps32
  go_upto_region 0 with fail
  refine wp_region_lit ?_
  obtain ⟨w1, hw⟩ : ∃ v, v = w.alloc (.cells (mO k n m s (cellsF f fs)) 39) := ⟨_, rfl⟩
  obtain ⟨pA, hp⟩ : ∃ v, v = w.heap.size := ⟨_, rfl⟩
  have B1 : Hid (Below w.heap.size w w1) := Lib.hid (by rw [hw]; exact B0.out.alloc B0.out.size _)
  have LEA : Hid (w.heap.size ≤ pA) := Lib.hid (by rw [hp]; exact B0.out.size)
  have KA1 : Hid (Blk w1 pA (mO k n m s (cellsF f fs)) 39) := Lib.hid (by rw [hw, hp]; exact Blk.new _ _ _)
  with_reducible refine wpList_runWV (some 1) (v := .pointer (some ⟨pA, 0, none⟩)) (w' := w1) ?_ ?_ ?_ ?_
  · rfl
  · rfl
  · rw [hw, hp]; (go_simp; (try rfl))
  simp only [pu, sB, s0, sS]
  clear hw hp
  clear B0
  (with_reducible refine rN (v := .bool false) ?_ ?_ ?_); (· rfl); (· go_simp; (try with_reducible rfl)); simp only [pu, sB, s0, sS]
  go_upto_region 1 with fail
  refine wp_region_lit ?_
  (with_reducible refine rN (v := .bool true) ?_ ?_ ?_); (· rfl); (· go_simp; (try with_reducible rfl)); simp only [pu, sB, s0, sS]
  go_upto_region 2 with fail
  refine wp_region_lit ?_
  (with_reducible refine rN (v := .pointer (some ⟨pA, 0, none⟩)) ?_ ?_ ?_); (· rfl); (· go_simp; (try rfl)); simp only [pu, sB, s0, sS]
  with_reducible refine wpList_loadV (.tmp 5) (j := 0) (v := .int .i64 k) ?_ ?_ KA1.out ?_ Tryz.underlying3 ?_ ?_
  · rfl
  · rfl
  · exact mO_0
  · rfl
  simp only [pu, sB, s0, sS]
  (with_reducible refine rN (v := .agg (mO k 0 0 ⟨#[]⟩ cellsZ)) ?_ ?_ ?_); (· rfl); (· refine run_buildOp _ [(0, .int .i64 k)] rfl ?_ (built_kind k); rfl); simp only [pu, sB, s0, sS]
  obtain ⟨w2, hw⟩ : ∃ v, v = w1.alloc (.cells (mO 0 0 0 ⟨#[]⟩ cellsZ) 39) := ⟨_, rfl⟩
  obtain ⟨pU, hp⟩ : ∃ v, v = w1.heap.size := ⟨_, rfl⟩
  have B2 : Hid (Below w.heap.size w w2) := Lib.hid (by rw [hw]; exact B1.out.alloc B1.out.size _)
  have LEU : Hid (w.heap.size ≤ pU) := Lib.hid (by rw [hp]; exact B1.out.size)
  have KA2 := Lib.hid (show Blk w2 pA (mO k n m s (cellsF f fs)) 39 by rw [hw]; exact KA1.out.alloc _)
  have NEAU : Hid (pA ≠ pU) := Lib.hid (by rw [hp]; exact Nat.ne_of_lt KA1.out.lt)
  have NEUA : Hid (pU ≠ pA) := Lib.hid (Ne.symm NEAU.out)
  have KU2 : Hid (Blk w2 pU (mO 0 0 0 ⟨#[]⟩ cellsZ) 39) := Lib.hid (by rw [hw, hp]; exact Blk.new _ _ _)
  with_reducible refine wpList_runWV (some 4) (v := .pointer (some ⟨pU, 0, none⟩)) (w' := w2) ?_ ?_ ?_ ?_
  · rfl
  · rfl
  · rw [hw, hp]; (go_simp; (try rfl))
  simp only [pu, sB, s0, sS]
  clear hw hp
  clear B1 KA1
  have KU3 := Lib.hid (KU2.out.stored (o := 0) (vs := (mO k 0 0 ⟨#[]⟩ cellsZ).toList) (cs' := (mO k 0 0 ⟨#[]⟩ cellsZ)) (laid_all (mO_sz cellsZ_size) (mO_sz cellsZ_size)))
  have KA3 := Lib.hid (KA2.out.wholeElse ((mO k 0 0 ⟨#[]⟩ cellsZ).toList) (o := 0) NEAU.out)
  have B3 := Lib.hid (below_whole ((mO k 0 0 ⟨#[]⟩ cellsZ).toList) (o := 0) B2.out LEU.out)
  with_reducible refine wpList_storeM (.tmp 4) (.tmp 7) (o := 0) (vs := (mO k 0 0 ⟨#[]⟩ cellsZ)) ?_ ?_ KU2.out ?_ (infoTMo20 (mO_sz cellsZ_size)) (mO_one cellsZ_one) ?_
  · rfl
  · rfl
  · exact (fit_2 (mO_sz cellsZ_size) (mO_sz cellsZ_size) (by decide))
  (try simp only [Act.put])
  generalize World.setCells _ _ _ _ = w3 at KA3 KU3 B3 ⊢
  clear B2 KA2 KU2
  go_upto_region 3 with fail
  refine wp_region_lit ?_
  (with_reducible refine rN (v := .pointer (some ⟨pA, 0, none⟩)) ?_ ?_ ?_); (· rfl); (· go_simp; (try rfl)); simp only [pu, sB, s0, sS]
  with_reducible refine wpList_loadV (.tmp 8) (j := 0) (v := .int .i64 k) ?_ ?_ KA3.out ?_ Tryz.underlying3 ?_ ?_
  · rfl
  · rfl
  · exact mO_0
  · rfl
  simp only [pu, sB, s0, sS]
  go_upto_block 0 with fail
  go_cut [3] (fun v wx => ∃ ok U, v = .bool ok ∧ U.size = 20 ∧ Hid (IsMid k n m s f fs ok U) ∧ Hid (Blk wx pU U 39) ∧ Hid (Blk wx pA (mO k n m s (cellsF f fs)) 39) ∧ Hid (Below w.heap.size w wx))
  case first =>
    by_cases e1 : k = 1
    · have ek : (k == 1) = true := by simpa using e1
      have hE := Lib.hid e1
      clear e1
      go_upto_region 5 with fail
      refine wp_region_lit ?_
      iterate 2 ((with_reducible refine rN (v := .bool true) ?_ ?_ ?_); (· rfl); (· go_simp; (try with_reducible rfl)); simp only [pu, sB, s0, sS])
      go_wp2_with fail
      go_meet
      exact ⟨true, _, rfl, (mO_sz cellsZ_size), Lib.hid (IsMid.of (g := Fil.zero) (gs := ⟨#[]⟩) hf rfl (Mo.ok_1 (by have h := hE.out; omega))), KU3, KA3, B3⟩
    have n1 : (k == 1) = false := by simpa using e1
    go_upto_region 5 with fail
    refine wp_region_lit ?_
    iterate 2 ((with_reducible refine rN (v := .bool false) ?_ ?_ ?_); (· rfl); (· go_simp; (try with_reducible rfl)); simp only [pu, sB, s0, sS])
    by_cases e10 : k = 10
    · have ek : (k == 10) = true := by simpa using e10
      have hE := Lib.hid e10
      clear e10
      go_upto_region 6 with fail
      refine wp_region_lit ?_
      iterate 2 ((with_reducible refine rN (v := .bool true) ?_ ?_ ?_); (· rfl); (· go_simp; (try with_reducible rfl)); simp only [pu, sB, s0, sS])
      go_wp2_with fail
      go_meet
      exact ⟨true, _, rfl, (mO_sz cellsZ_size), Lib.hid (IsMid.of (g := Fil.zero) (gs := ⟨#[]⟩) hf rfl (Mo.ok_1 (by have h := hE.out; omega))), KU3, KA3, B3⟩
    have n10 : (k == 10) = false := by simpa using e10
    go_upto_region 6 with fail
    refine wp_region_lit ?_
    iterate 2 ((with_reducible refine rN (v := .bool false) ?_ ?_ ?_); (· rfl); (· go_simp; (try with_reducible rfl)); simp only [pu, sB, s0, sS])
    by_cases e14 : k = 14
    · have ek : (k == 14) = true := by simpa using e14
      have hE := Lib.hid e14
      clear e14
      go_upto_region 7 with fail
      refine wp_region_lit ?_
      iterate 2 ((with_reducible refine rN (v := .bool true) ?_ ?_ ?_); (· rfl); (· go_simp; (try with_reducible rfl)); simp only [pu, sB, s0, sS])
      go_wp2_with fail
      go_meet
      exact ⟨true, _, rfl, (mO_sz cellsZ_size), Lib.hid (IsMid.of (g := Fil.zero) (gs := ⟨#[]⟩) hf rfl (Mo.ok_1 (by have h := hE.out; omega))), KU3, KA3, B3⟩
    have n14 : (k == 14) = false := by simpa using e14
    go_upto_region 7 with fail
    refine wp_region_lit ?_
    iterate 2 ((with_reducible refine rN (v := .bool false) ?_ ?_ ?_); (· rfl); (· go_simp; (try with_reducible rfl)); simp only [pu, sB, s0, sS])
    by_cases e2 : k = 2
    · have ek : (k == 2) = true := by simpa using e2
      have hE := Lib.hid e2
      clear e2
      go_upto_region 8 with fail
      refine wp_region_lit ?_
      iterate 2 ((with_reducible refine rN (v := .bool true) ?_ ?_ ?_); (· rfl); (· go_simp; (try with_reducible rfl)); simp only [pu, sB, s0, sS])
      cases v1 with
      | false =>
        go_upto_region 10 with fail
        refine wp_region_lit ?_
        (with_reducible refine rN (v := .pointer (some ⟨pA, 1, none⟩)) ?_ ?_ ?_); (· rfl); (· go_simp; (try rfl)); simp only [pu, sB, s0, sS]
        with_reducible refine wpList_loadV (.tmp 17) (j := 1) (v := .int .i64 n) ?_ ?_ KA3.out ?_ Tryz.underlying3 ?_ ?_
        · rfl
        · rfl
        · exact mO_1
        · rfl
        simp only [pu, sB, s0, sS]
        go_wp2_with fail
        refine (H1.out _ B3.out).mono ?_
        rintro e w4 ⟨rfl, hb⟩
        have B4 := Lib.hid (B3.out.trans (hb.mono B3.out.size))
        have KA4 := Lib.hid (KA3.out.below hb KA3.out.lt)
        have KU4 := Lib.hid (KU3.out.below hb KU3.out.lt)
        clear hb
        clear B3 KA3 KU3
        go_simp
        rename_i hKK
        refine hKK _ _ ?_
        clear hKK
        try simp only [pu, sB, s0, sS]
        (with_reducible refine rN (v := .bool false) ?_ ?_ ?_); (· rfl); (· go_simp; (try with_reducible rfl)); simp only [pu, sB, s0, sS]
        iterate 4 ((with_reducible refine kN ?_ ?_); (· rfl); simp only [pu, sB, s0, sS])
        iterate 2 ((with_reducible refine rN (v := .bool false) ?_ ?_ ?_); (· rfl); (· go_simp; (try with_reducible rfl)); simp only [pu, sB, s0, sS])
        go_upto_region 11 with fail
        refine wp_region_lit ?_
        (with_reducible refine rN (v := .pointer (some ⟨pA, 1, none⟩)) ?_ ?_ ?_); (· rfl); (· go_simp; (try rfl)); simp only [pu, sB, s0, sS]
        with_reducible refine wpList_loadV (.tmp 26) (j := 1) (v := .int .i64 n) ?_ ?_ KA4.out ?_ Tryz.underlying3 ?_ ?_
        · rfl
        · rfl
        · exact mO_1
        · rfl
        simp only [pu, sB, s0, sS]
        (with_reducible refine rN (v := .pointer (some ⟨pU, 1, none⟩)) ?_ ?_ ?_); (· rfl); (· go_simp; (try rfl)); simp only [pu, sB, s0, sS]
        have KU5 := Lib.hid (KU4.out.stored (o := 1) (vs := [.int .i64 n]) (cs' := (mO k n 0 ⟨#[]⟩ cellsZ)) (mO_p1))
        have KA5 := Lib.hid (KA4.out.wholeElse ([.int .i64 n]) (o := 1) NEAU.out)
        have B5 := Lib.hid (below_whole ([.int .i64 n]) (o := 1) B4.out LEU.out)
        with_reducible refine wpList_storeV (.tmp 28) (.tmp 27) (j := 1) (v := .int .i64 n) ?_ ?_ KU4.out ?_ (by kernel_rfl) (by simp [Value.oneCell']) ?_
        · rfl
        · rfl
        · exact (fit_1 (mO_sz cellsZ_size) (by decide))
        (try simp only [Act.put])
        generalize World.setCells _ _ _ _ = w5 at KA5 KU5 B5 ⊢
        clear B4 KA4 KU4
        go_wp2_with fail
        go_meet
        exact ⟨false, _, rfl, (mO_sz cellsZ_size), Lib.hid (IsMid.of (g := Fil.zero) (gs := ⟨#[]⟩) hf rfl (Mo.ok_2 (by have h := hE.out; omega) hT)), KU5, KA5, B5⟩
      | true =>
        cases v2 with
        | false =>
          go_upto_region 10 with fail
          refine wp_region_lit ?_
          (with_reducible refine rN (v := .pointer (some ⟨pA, 1, none⟩)) ?_ ?_ ?_); (· rfl); (· go_simp; (try rfl)); simp only [pu, sB, s0, sS]
          with_reducible refine wpList_loadV (.tmp 17) (j := 1) (v := .int .i64 n) ?_ ?_ KA3.out ?_ Tryz.underlying3 ?_ ?_
          · rfl
          · rfl
          · exact mO_1
          · rfl
          simp only [pu, sB, s0, sS]
          go_wp2_with fail
          refine (H1.out _ B3.out).mono ?_
          rintro e w4 ⟨rfl, hb⟩
          have B4 := Lib.hid (B3.out.trans (hb.mono B3.out.size))
          have KA4 := Lib.hid (KA3.out.below hb KA3.out.lt)
          have KU4 := Lib.hid (KU3.out.below hb KU3.out.lt)
          clear hb
          clear B3 KA3 KU3
          go_simp
          rename_i hKK
          refine hKK _ _ ?_
          clear hKK
          try simp only [pu, sB, s0, sS]
          (with_reducible refine rN (v := .bool true) ?_ ?_ ?_); (· rfl); (· go_simp; (try with_reducible rfl)); simp only [pu, sB, s0, sS]
          (with_reducible refine rN (v := .pointer (some ⟨pA, 1, none⟩)) ?_ ?_ ?_); (· rfl); (· go_simp; (try rfl)); simp only [pu, sB, s0, sS]
          with_reducible refine wpList_loadV (.tmp 21) (j := 1) (v := .int .i64 n) ?_ ?_ KA4.out ?_ Tryz.underlying3 ?_ ?_
          · rfl
          · rfl
          · exact mO_1
          · rfl
          simp only [pu, sB, s0, sS]
          (with_reducible refine rN (v := .int .i64 z) ?_ ?_ ?_); (· rfl); (· go_simp; (try with_reducible rfl)); simp only [pu, sB, s0, sS]
          iterate 3 ((with_reducible refine rN (v := .bool false) ?_ ?_ ?_); (· rfl); (· go_simp; (try with_reducible rfl)); simp only [pu, sB, s0, sS])
          go_upto_region 11 with fail
          refine wp_region_lit ?_
          (with_reducible refine rN (v := .pointer (some ⟨pA, 1, none⟩)) ?_ ?_ ?_); (· rfl); (· go_simp; (try rfl)); simp only [pu, sB, s0, sS]
          with_reducible refine wpList_loadV (.tmp 26) (j := 1) (v := .int .i64 n) ?_ ?_ KA4.out ?_ Tryz.underlying3 ?_ ?_
          · rfl
          · rfl
          · exact mO_1
          · rfl
          simp only [pu, sB, s0, sS]
          (with_reducible refine rN (v := .pointer (some ⟨pU, 1, none⟩)) ?_ ?_ ?_); (· rfl); (· go_simp; (try rfl)); simp only [pu, sB, s0, sS]
          have KU5 := Lib.hid (KU4.out.stored (o := 1) (vs := [.int .i64 n]) (cs' := (mO k n 0 ⟨#[]⟩ cellsZ)) (mO_p1))
          have KA5 := Lib.hid (KA4.out.wholeElse ([.int .i64 n]) (o := 1) NEAU.out)
          have B5 := Lib.hid (below_whole ([.int .i64 n]) (o := 1) B4.out LEU.out)
          with_reducible refine wpList_storeV (.tmp 28) (.tmp 27) (j := 1) (v := .int .i64 n) ?_ ?_ KU4.out ?_ (by kernel_rfl) (by simp [Value.oneCell']) ?_
          · rfl
          · rfl
          · exact (fit_1 (mO_sz cellsZ_size) (by decide))
          (try simp only [Act.put])
          generalize World.setCells _ _ _ _ = w5 at KA5 KU5 B5 ⊢
          clear B4 KA4 KU4
          go_wp2_with fail
          go_meet
          exact ⟨false, _, rfl, (mO_sz cellsZ_size), Lib.hid (IsMid.of (g := Fil.zero) (gs := ⟨#[]⟩) hf rfl (Mo.ok_2 (by have h := hE.out; omega) hT)), KU5, KA5, B5⟩
        | true =>
          go_upto_region 10 with fail
          refine wp_region_lit ?_
          (with_reducible refine rN (v := .pointer (some ⟨pA, 1, none⟩)) ?_ ?_ ?_); (· rfl); (· go_simp; (try rfl)); simp only [pu, sB, s0, sS]
          with_reducible refine wpList_loadV (.tmp 17) (j := 1) (v := .int .i64 n) ?_ ?_ KA3.out ?_ Tryz.underlying3 ?_ ?_
          · rfl
          · rfl
          · exact mO_1
          · rfl
          simp only [pu, sB, s0, sS]
          go_wp2_with fail
          refine (H1.out _ B3.out).mono ?_
          rintro e w4 ⟨rfl, hb⟩
          have B4 := Lib.hid (B3.out.trans (hb.mono B3.out.size))
          have KA4 := Lib.hid (KA3.out.below hb KA3.out.lt)
          have KU4 := Lib.hid (KU3.out.below hb KU3.out.lt)
          clear hb
          clear B3 KA3 KU3
          go_simp
          rename_i hKK
          refine hKK _ _ ?_
          clear hKK
          try simp only [pu, sB, s0, sS]
          (with_reducible refine rN (v := .bool true) ?_ ?_ ?_); (· rfl); (· go_simp; (try with_reducible rfl)); simp only [pu, sB, s0, sS]
          (with_reducible refine rN (v := .pointer (some ⟨pA, 1, none⟩)) ?_ ?_ ?_); (· rfl); (· go_simp; (try rfl)); simp only [pu, sB, s0, sS]
          with_reducible refine wpList_loadV (.tmp 21) (j := 1) (v := .int .i64 n) ?_ ?_ KA4.out ?_ Tryz.underlying3 ?_ ?_
          · rfl
          · rfl
          · exact mO_1
          · rfl
          simp only [pu, sB, s0, sS]
          (with_reducible refine rN (v := .int .i64 z) ?_ ?_ ?_); (· rfl); (· go_simp; (try with_reducible rfl)); simp only [pu, sB, s0, sS]
          iterate 3 ((with_reducible refine rN (v := .bool true) ?_ ?_ ?_); (· rfl); (· go_simp; (try with_reducible rfl)); simp only [pu, sB, s0, sS])
          go_upto_region 11 with fail
          refine wp_region_lit ?_
          (with_reducible refine rN (v := .pointer (some ⟨pA, 1, none⟩)) ?_ ?_ ?_); (· rfl); (· go_simp; (try rfl)); simp only [pu, sB, s0, sS]
          with_reducible refine wpList_loadV (.tmp 26) (j := 1) (v := .int .i64 n) ?_ ?_ KA4.out ?_ Tryz.underlying3 ?_ ?_
          · rfl
          · rfl
          · exact mO_1
          · rfl
          simp only [pu, sB, s0, sS]
          (with_reducible refine rN (v := .pointer (some ⟨pU, 1, none⟩)) ?_ ?_ ?_); (· rfl); (· go_simp; (try rfl)); simp only [pu, sB, s0, sS]
          have KU5 := Lib.hid (KU4.out.stored (o := 1) (vs := [.int .i64 n]) (cs' := (mO k n 0 ⟨#[]⟩ cellsZ)) (mO_p1))
          have KA5 := Lib.hid (KA4.out.wholeElse ([.int .i64 n]) (o := 1) NEAU.out)
          have B5 := Lib.hid (below_whole ([.int .i64 n]) (o := 1) B4.out LEU.out)
          with_reducible refine wpList_storeV (.tmp 28) (.tmp 27) (j := 1) (v := .int .i64 n) ?_ ?_ KU4.out ?_ (by kernel_rfl) (by simp [Value.oneCell']) ?_
          · rfl
          · rfl
          · exact (fit_1 (mO_sz cellsZ_size) (by decide))
          (try simp only [Act.put])
          generalize World.setCells _ _ _ _ = w5 at KA5 KU5 B5 ⊢
          clear B4 KA4 KU4
          go_wp2_with fail
          go_meet
          exact ⟨true, _, rfl, (mO_sz cellsZ_size), Lib.hid (IsMid.of (g := Fil.zero) (gs := ⟨#[]⟩) hf rfl (Mo.ok_2 (by have h := hE.out; omega) hT)), KU5, KA5, B5⟩
    have n2 : (k == 2) = false := by simpa using e2
    go_upto_region 8 with fail
    refine wp_region_lit ?_
    iterate 2 ((with_reducible refine rN (v := .bool false) ?_ ?_ ?_); (· rfl); (· go_simp; (try with_reducible rfl)); simp only [pu, sB, s0, sS])
    by_cases e3 : k = 3
    · have ek : (k == 3) = true := by simpa using e3
      have hE := Lib.hid e3
      clear e3
      go_upto_region 9 with fail
      refine wp_region_lit ?_
      iterate 2 ((with_reducible refine rN (v := .bool true) ?_ ?_ ?_); (· rfl); (· go_simp; (try with_reducible rfl)); simp only [pu, sB, s0, sS])
      cases v1 with
      | false =>
        go_upto_region 10 with fail
        refine wp_region_lit ?_
        (with_reducible refine rN (v := .pointer (some ⟨pA, 1, none⟩)) ?_ ?_ ?_); (· rfl); (· go_simp; (try rfl)); simp only [pu, sB, s0, sS]
        with_reducible refine wpList_loadV (.tmp 17) (j := 1) (v := .int .i64 n) ?_ ?_ KA3.out ?_ Tryz.underlying3 ?_ ?_
        · rfl
        · rfl
        · exact mO_1
        · rfl
        simp only [pu, sB, s0, sS]
        go_wp2_with fail
        refine (H1.out _ B3.out).mono ?_
        rintro e w4 ⟨rfl, hb⟩
        have B4 := Lib.hid (B3.out.trans (hb.mono B3.out.size))
        have KA4 := Lib.hid (KA3.out.below hb KA3.out.lt)
        have KU4 := Lib.hid (KU3.out.below hb KU3.out.lt)
        clear hb
        clear B3 KA3 KU3
        go_simp
        rename_i hKK
        refine hKK _ _ ?_
        clear hKK
        try simp only [pu, sB, s0, sS]
        (with_reducible refine rN (v := .bool false) ?_ ?_ ?_); (· rfl); (· go_simp; (try with_reducible rfl)); simp only [pu, sB, s0, sS]
        iterate 4 ((with_reducible refine kN ?_ ?_); (· rfl); simp only [pu, sB, s0, sS])
        iterate 2 ((with_reducible refine rN (v := .bool false) ?_ ?_ ?_); (· rfl); (· go_simp; (try with_reducible rfl)); simp only [pu, sB, s0, sS])
        go_upto_region 11 with fail
        refine wp_region_lit ?_
        (with_reducible refine rN (v := .pointer (some ⟨pA, 1, none⟩)) ?_ ?_ ?_); (· rfl); (· go_simp; (try rfl)); simp only [pu, sB, s0, sS]
        with_reducible refine wpList_loadV (.tmp 26) (j := 1) (v := .int .i64 n) ?_ ?_ KA4.out ?_ Tryz.underlying3 ?_ ?_
        · rfl
        · rfl
        · exact mO_1
        · rfl
        simp only [pu, sB, s0, sS]
        (with_reducible refine rN (v := .pointer (some ⟨pU, 1, none⟩)) ?_ ?_ ?_); (· rfl); (· go_simp; (try rfl)); simp only [pu, sB, s0, sS]
        have KU5 := Lib.hid (KU4.out.stored (o := 1) (vs := [.int .i64 n]) (cs' := (mO k n 0 ⟨#[]⟩ cellsZ)) (mO_p1))
        have KA5 := Lib.hid (KA4.out.wholeElse ([.int .i64 n]) (o := 1) NEAU.out)
        have B5 := Lib.hid (below_whole ([.int .i64 n]) (o := 1) B4.out LEU.out)
        with_reducible refine wpList_storeV (.tmp 28) (.tmp 27) (j := 1) (v := .int .i64 n) ?_ ?_ KU4.out ?_ (by kernel_rfl) (by simp [Value.oneCell']) ?_
        · rfl
        · rfl
        · exact (fit_1 (mO_sz cellsZ_size) (by decide))
        (try simp only [Act.put])
        generalize World.setCells _ _ _ _ = w5 at KA5 KU5 B5 ⊢
        clear B4 KA4 KU4
        go_wp2_with fail
        go_meet
        exact ⟨false, _, rfl, (mO_sz cellsZ_size), Lib.hid (IsMid.of (g := Fil.zero) (gs := ⟨#[]⟩) hf rfl (Mo.ok_2 (by have h := hE.out; omega) hT)), KU5, KA5, B5⟩
      | true =>
        cases v2 with
        | false =>
          go_upto_region 10 with fail
          refine wp_region_lit ?_
          (with_reducible refine rN (v := .pointer (some ⟨pA, 1, none⟩)) ?_ ?_ ?_); (· rfl); (· go_simp; (try rfl)); simp only [pu, sB, s0, sS]
          with_reducible refine wpList_loadV (.tmp 17) (j := 1) (v := .int .i64 n) ?_ ?_ KA3.out ?_ Tryz.underlying3 ?_ ?_
          · rfl
          · rfl
          · exact mO_1
          · rfl
          simp only [pu, sB, s0, sS]
          go_wp2_with fail
          refine (H1.out _ B3.out).mono ?_
          rintro e w4 ⟨rfl, hb⟩
          have B4 := Lib.hid (B3.out.trans (hb.mono B3.out.size))
          have KA4 := Lib.hid (KA3.out.below hb KA3.out.lt)
          have KU4 := Lib.hid (KU3.out.below hb KU3.out.lt)
          clear hb
          clear B3 KA3 KU3
          go_simp
          rename_i hKK
          refine hKK _ _ ?_
          clear hKK
          try simp only [pu, sB, s0, sS]
          (with_reducible refine rN (v := .bool true) ?_ ?_ ?_); (· rfl); (· go_simp; (try with_reducible rfl)); simp only [pu, sB, s0, sS]
          (with_reducible refine rN (v := .pointer (some ⟨pA, 1, none⟩)) ?_ ?_ ?_); (· rfl); (· go_simp; (try rfl)); simp only [pu, sB, s0, sS]
          with_reducible refine wpList_loadV (.tmp 21) (j := 1) (v := .int .i64 n) ?_ ?_ KA4.out ?_ Tryz.underlying3 ?_ ?_
          · rfl
          · rfl
          · exact mO_1
          · rfl
          simp only [pu, sB, s0, sS]
          (with_reducible refine rN (v := .int .i64 z) ?_ ?_ ?_); (· rfl); (· go_simp; (try with_reducible rfl)); simp only [pu, sB, s0, sS]
          iterate 3 ((with_reducible refine rN (v := .bool false) ?_ ?_ ?_); (· rfl); (· go_simp; (try with_reducible rfl)); simp only [pu, sB, s0, sS])
          go_upto_region 11 with fail
          refine wp_region_lit ?_
          (with_reducible refine rN (v := .pointer (some ⟨pA, 1, none⟩)) ?_ ?_ ?_); (· rfl); (· go_simp; (try rfl)); simp only [pu, sB, s0, sS]
          with_reducible refine wpList_loadV (.tmp 26) (j := 1) (v := .int .i64 n) ?_ ?_ KA4.out ?_ Tryz.underlying3 ?_ ?_
          · rfl
          · rfl
          · exact mO_1
          · rfl
          simp only [pu, sB, s0, sS]
          (with_reducible refine rN (v := .pointer (some ⟨pU, 1, none⟩)) ?_ ?_ ?_); (· rfl); (· go_simp; (try rfl)); simp only [pu, sB, s0, sS]
          have KU5 := Lib.hid (KU4.out.stored (o := 1) (vs := [.int .i64 n]) (cs' := (mO k n 0 ⟨#[]⟩ cellsZ)) (mO_p1))
          have KA5 := Lib.hid (KA4.out.wholeElse ([.int .i64 n]) (o := 1) NEAU.out)
          have B5 := Lib.hid (below_whole ([.int .i64 n]) (o := 1) B4.out LEU.out)
          with_reducible refine wpList_storeV (.tmp 28) (.tmp 27) (j := 1) (v := .int .i64 n) ?_ ?_ KU4.out ?_ (by kernel_rfl) (by simp [Value.oneCell']) ?_
          · rfl
          · rfl
          · exact (fit_1 (mO_sz cellsZ_size) (by decide))
          (try simp only [Act.put])
          generalize World.setCells _ _ _ _ = w5 at KA5 KU5 B5 ⊢
          clear B4 KA4 KU4
          go_wp2_with fail
          go_meet
          exact ⟨false, _, rfl, (mO_sz cellsZ_size), Lib.hid (IsMid.of (g := Fil.zero) (gs := ⟨#[]⟩) hf rfl (Mo.ok_2 (by have h := hE.out; omega) hT)), KU5, KA5, B5⟩
        | true =>
          go_upto_region 10 with fail
          refine wp_region_lit ?_
          (with_reducible refine rN (v := .pointer (some ⟨pA, 1, none⟩)) ?_ ?_ ?_); (· rfl); (· go_simp; (try rfl)); simp only [pu, sB, s0, sS]
          with_reducible refine wpList_loadV (.tmp 17) (j := 1) (v := .int .i64 n) ?_ ?_ KA3.out ?_ Tryz.underlying3 ?_ ?_
          · rfl
          · rfl
          · exact mO_1
          · rfl
          simp only [pu, sB, s0, sS]
          go_wp2_with fail
          refine (H1.out _ B3.out).mono ?_
          rintro e w4 ⟨rfl, hb⟩
          have B4 := Lib.hid (B3.out.trans (hb.mono B3.out.size))
          have KA4 := Lib.hid (KA3.out.below hb KA3.out.lt)
          have KU4 := Lib.hid (KU3.out.below hb KU3.out.lt)
          clear hb
          clear B3 KA3 KU3
          go_simp
          rename_i hKK
          refine hKK _ _ ?_
          clear hKK
          try simp only [pu, sB, s0, sS]
          (with_reducible refine rN (v := .bool true) ?_ ?_ ?_); (· rfl); (· go_simp; (try with_reducible rfl)); simp only [pu, sB, s0, sS]
          (with_reducible refine rN (v := .pointer (some ⟨pA, 1, none⟩)) ?_ ?_ ?_); (· rfl); (· go_simp; (try rfl)); simp only [pu, sB, s0, sS]
          with_reducible refine wpList_loadV (.tmp 21) (j := 1) (v := .int .i64 n) ?_ ?_ KA4.out ?_ Tryz.underlying3 ?_ ?_
          · rfl
          · rfl
          · exact mO_1
          · rfl
          simp only [pu, sB, s0, sS]
          (with_reducible refine rN (v := .int .i64 z) ?_ ?_ ?_); (· rfl); (· go_simp; (try with_reducible rfl)); simp only [pu, sB, s0, sS]
          iterate 3 ((with_reducible refine rN (v := .bool true) ?_ ?_ ?_); (· rfl); (· go_simp; (try with_reducible rfl)); simp only [pu, sB, s0, sS])
          go_upto_region 11 with fail
          refine wp_region_lit ?_
          (with_reducible refine rN (v := .pointer (some ⟨pA, 1, none⟩)) ?_ ?_ ?_); (· rfl); (· go_simp; (try rfl)); simp only [pu, sB, s0, sS]
          with_reducible refine wpList_loadV (.tmp 26) (j := 1) (v := .int .i64 n) ?_ ?_ KA4.out ?_ Tryz.underlying3 ?_ ?_
          · rfl
          · rfl
          · exact mO_1
          · rfl
          simp only [pu, sB, s0, sS]
          (with_reducible refine rN (v := .pointer (some ⟨pU, 1, none⟩)) ?_ ?_ ?_); (· rfl); (· go_simp; (try rfl)); simp only [pu, sB, s0, sS]
          have KU5 := Lib.hid (KU4.out.stored (o := 1) (vs := [.int .i64 n]) (cs' := (mO k n 0 ⟨#[]⟩ cellsZ)) (mO_p1))
          have KA5 := Lib.hid (KA4.out.wholeElse ([.int .i64 n]) (o := 1) NEAU.out)
          have B5 := Lib.hid (below_whole ([.int .i64 n]) (o := 1) B4.out LEU.out)
          with_reducible refine wpList_storeV (.tmp 28) (.tmp 27) (j := 1) (v := .int .i64 n) ?_ ?_ KU4.out ?_ (by kernel_rfl) (by simp [Value.oneCell']) ?_
          · rfl
          · rfl
          · exact (fit_1 (mO_sz cellsZ_size) (by decide))
          (try simp only [Act.put])
          generalize World.setCells _ _ _ _ = w5 at KA5 KU5 B5 ⊢
          clear B4 KA4 KU4
          go_wp2_with fail
          go_meet
          exact ⟨true, _, rfl, (mO_sz cellsZ_size), Lib.hid (IsMid.of (g := Fil.zero) (gs := ⟨#[]⟩) hf rfl (Mo.ok_2 (by have h := hE.out; omega) hT)), KU5, KA5, B5⟩
    have n3 : (k == 3) = false := by simpa using e3
    go_upto_region 9 with fail
    refine wp_region_lit ?_
    iterate 2 ((with_reducible refine rN (v := .bool false) ?_ ?_ ?_); (· rfl); (· go_simp; (try with_reducible rfl)); simp only [pu, sB, s0, sS])
    by_cases e4 : k = 4
    · have ek : (k == 4) = true := by simpa using e4
      have hE := Lib.hid e4
      clear e4
      go_upto_region 12 with fail
      refine wp_region_lit ?_
      iterate 2 ((with_reducible refine rN (v := .bool true) ?_ ?_ ?_); (· rfl); (· go_simp; (try with_reducible rfl)); simp only [pu, sB, s0, sS])
      cases v4 with
      | false =>
        go_upto_region 14 with fail
        refine wp_region_lit ?_
        (with_reducible refine rN (v := .pointer (some ⟨pA, 3, none⟩)) ?_ ?_ ?_); (· rfl); (· go_simp; (try rfl)); simp only [pu, sB, s0, sS]
        with_reducible refine wpList_loadV (.tmp 32) (j := 3) (v := .string s) ?_ ?_ KA3.out ?_ Tryz.underlying9 ?_ ?_
        · rfl
        · rfl
        · exact mO_3
        · rfl
        simp only [pu, sB, s0, sS]
        go_wp2_with fail
        refine (H4.out _ B3.out).mono ?_
        rintro e w4 ⟨rfl, hb⟩
        have B4 := Lib.hid (B3.out.trans (hb.mono B3.out.size))
        have KA4 := Lib.hid (KA3.out.below hb KA3.out.lt)
        have KU4 := Lib.hid (KU3.out.below hb KU3.out.lt)
        clear hb
        clear B3 KA3 KU3
        go_simp
        rename_i hKK
        refine hKK _ _ ?_
        clear hKK
        try simp only [pu, sB, s0, sS]
        (with_reducible refine rN (v := .bool false) ?_ ?_ ?_); (· rfl); (· go_simp; (try with_reducible rfl)); simp only [pu, sB, s0, sS]
        go_upto_region 15 with fail
        refine wp_region_lit ?_
        (with_reducible refine rN (v := .pointer (some ⟨pA, 3, none⟩)) ?_ ?_ ?_); (· rfl); (· go_simp; (try rfl)); simp only [pu, sB, s0, sS]
        with_reducible refine wpList_loadV (.tmp 35) (j := 3) (v := .string s) ?_ ?_ KA4.out ?_ Tryz.underlying9 ?_ ?_
        · rfl
        · rfl
        · exact mO_3
        · rfl
        simp only [pu, sB, s0, sS]
        (with_reducible refine rN (v := .pointer (some ⟨pU, 3, none⟩)) ?_ ?_ ?_); (· rfl); (· go_simp; (try rfl)); simp only [pu, sB, s0, sS]
        have KU5 := Lib.hid (KU4.out.stored (o := 3) (vs := [.string s]) (cs' := (mO k 0 0 s cellsZ)) (mO_p3))
        have KA5 := Lib.hid (KA4.out.wholeElse ([.string s]) (o := 3) NEAU.out)
        have B5 := Lib.hid (below_whole ([.string s]) (o := 3) B4.out LEU.out)
        with_reducible refine wpList_storeV (.tmp 37) (.tmp 36) (j := 3) (v := .string s) ?_ ?_ KU4.out ?_ (by kernel_rfl) (by simp [Value.oneCell']) ?_
        · rfl
        · rfl
        · exact (fit_1 (mO_sz cellsZ_size) (by decide))
        (try simp only [Act.put])
        generalize World.setCells _ _ _ _ = w5 at KA5 KU5 B5 ⊢
        clear B4 KA4 KU4
        go_wp2_with fail
        go_meet
        exact ⟨false, _, rfl, (mO_sz cellsZ_size), Lib.hid (IsMid.of (g := Fil.zero) (gs := ⟨#[]⟩) hf rfl (Mo.ok_4 (by have h := hE.out; omega) hS)), KU5, KA5, B5⟩
      | true =>
        go_upto_region 14 with fail
        refine wp_region_lit ?_
        (with_reducible refine rN (v := .pointer (some ⟨pA, 3, none⟩)) ?_ ?_ ?_); (· rfl); (· go_simp; (try rfl)); simp only [pu, sB, s0, sS]
        with_reducible refine wpList_loadV (.tmp 32) (j := 3) (v := .string s) ?_ ?_ KA3.out ?_ Tryz.underlying9 ?_ ?_
        · rfl
        · rfl
        · exact mO_3
        · rfl
        simp only [pu, sB, s0, sS]
        go_wp2_with fail
        refine (H4.out _ B3.out).mono ?_
        rintro e w4 ⟨rfl, hb⟩
        have B4 := Lib.hid (B3.out.trans (hb.mono B3.out.size))
        have KA4 := Lib.hid (KA3.out.below hb KA3.out.lt)
        have KU4 := Lib.hid (KU3.out.below hb KU3.out.lt)
        clear hb
        clear B3 KA3 KU3
        go_simp
        rename_i hKK
        refine hKK _ _ ?_
        clear hKK
        try simp only [pu, sB, s0, sS]
        (with_reducible refine rN (v := .bool true) ?_ ?_ ?_); (· rfl); (· go_simp; (try with_reducible rfl)); simp only [pu, sB, s0, sS]
        go_upto_region 15 with fail
        refine wp_region_lit ?_
        (with_reducible refine rN (v := .pointer (some ⟨pA, 3, none⟩)) ?_ ?_ ?_); (· rfl); (· go_simp; (try rfl)); simp only [pu, sB, s0, sS]
        with_reducible refine wpList_loadV (.tmp 35) (j := 3) (v := .string s) ?_ ?_ KA4.out ?_ Tryz.underlying9 ?_ ?_
        · rfl
        · rfl
        · exact mO_3
        · rfl
        simp only [pu, sB, s0, sS]
        (with_reducible refine rN (v := .pointer (some ⟨pU, 3, none⟩)) ?_ ?_ ?_); (· rfl); (· go_simp; (try rfl)); simp only [pu, sB, s0, sS]
        have KU5 := Lib.hid (KU4.out.stored (o := 3) (vs := [.string s]) (cs' := (mO k 0 0 s cellsZ)) (mO_p3))
        have KA5 := Lib.hid (KA4.out.wholeElse ([.string s]) (o := 3) NEAU.out)
        have B5 := Lib.hid (below_whole ([.string s]) (o := 3) B4.out LEU.out)
        with_reducible refine wpList_storeV (.tmp 37) (.tmp 36) (j := 3) (v := .string s) ?_ ?_ KU4.out ?_ (by kernel_rfl) (by simp [Value.oneCell']) ?_
        · rfl
        · rfl
        · exact (fit_1 (mO_sz cellsZ_size) (by decide))
        (try simp only [Act.put])
        generalize World.setCells _ _ _ _ = w5 at KA5 KU5 B5 ⊢
        clear B4 KA4 KU4
        go_wp2_with fail
        go_meet
        exact ⟨true, _, rfl, (mO_sz cellsZ_size), Lib.hid (IsMid.of (g := Fil.zero) (gs := ⟨#[]⟩) hf rfl (Mo.ok_4 (by have h := hE.out; omega) hS)), KU5, KA5, B5⟩
    have n4 : (k == 4) = false := by simpa using e4
    go_upto_region 12 with fail
    refine wp_region_lit ?_
    iterate 2 ((with_reducible refine rN (v := .bool false) ?_ ?_ ?_); (· rfl); (· go_simp; (try with_reducible rfl)); simp only [pu, sB, s0, sS])
    by_cases e5 : k = 5
    · have ek : (k == 5) = true := by simpa using e5
      have hE := Lib.hid e5
      clear e5
      go_upto_region 13 with fail
      refine wp_region_lit ?_
      iterate 2 ((with_reducible refine rN (v := .bool true) ?_ ?_ ?_); (· rfl); (· go_simp; (try with_reducible rfl)); simp only [pu, sB, s0, sS])
      cases v4 with
      | false =>
        go_upto_region 14 with fail
        refine wp_region_lit ?_
        (with_reducible refine rN (v := .pointer (some ⟨pA, 3, none⟩)) ?_ ?_ ?_); (· rfl); (· go_simp; (try rfl)); simp only [pu, sB, s0, sS]
        with_reducible refine wpList_loadV (.tmp 32) (j := 3) (v := .string s) ?_ ?_ KA3.out ?_ Tryz.underlying9 ?_ ?_
        · rfl
        · rfl
        · exact mO_3
        · rfl
        simp only [pu, sB, s0, sS]
        go_wp2_with fail
        refine (H4.out _ B3.out).mono ?_
        rintro e w4 ⟨rfl, hb⟩
        have B4 := Lib.hid (B3.out.trans (hb.mono B3.out.size))
        have KA4 := Lib.hid (KA3.out.below hb KA3.out.lt)
        have KU4 := Lib.hid (KU3.out.below hb KU3.out.lt)
        clear hb
        clear B3 KA3 KU3
        go_simp
        rename_i hKK
        refine hKK _ _ ?_
        clear hKK
        try simp only [pu, sB, s0, sS]
        (with_reducible refine rN (v := .bool false) ?_ ?_ ?_); (· rfl); (· go_simp; (try with_reducible rfl)); simp only [pu, sB, s0, sS]
        go_upto_region 15 with fail
        refine wp_region_lit ?_
        (with_reducible refine rN (v := .pointer (some ⟨pA, 3, none⟩)) ?_ ?_ ?_); (· rfl); (· go_simp; (try rfl)); simp only [pu, sB, s0, sS]
        with_reducible refine wpList_loadV (.tmp 35) (j := 3) (v := .string s) ?_ ?_ KA4.out ?_ Tryz.underlying9 ?_ ?_
        · rfl
        · rfl
        · exact mO_3
        · rfl
        simp only [pu, sB, s0, sS]
        (with_reducible refine rN (v := .pointer (some ⟨pU, 3, none⟩)) ?_ ?_ ?_); (· rfl); (· go_simp; (try rfl)); simp only [pu, sB, s0, sS]
        have KU5 := Lib.hid (KU4.out.stored (o := 3) (vs := [.string s]) (cs' := (mO k 0 0 s cellsZ)) (mO_p3))
        have KA5 := Lib.hid (KA4.out.wholeElse ([.string s]) (o := 3) NEAU.out)
        have B5 := Lib.hid (below_whole ([.string s]) (o := 3) B4.out LEU.out)
        with_reducible refine wpList_storeV (.tmp 37) (.tmp 36) (j := 3) (v := .string s) ?_ ?_ KU4.out ?_ (by kernel_rfl) (by simp [Value.oneCell']) ?_
        · rfl
        · rfl
        · exact (fit_1 (mO_sz cellsZ_size) (by decide))
        (try simp only [Act.put])
        generalize World.setCells _ _ _ _ = w5 at KA5 KU5 B5 ⊢
        clear B4 KA4 KU4
        go_wp2_with fail
        go_meet
        exact ⟨false, _, rfl, (mO_sz cellsZ_size), Lib.hid (IsMid.of (g := Fil.zero) (gs := ⟨#[]⟩) hf rfl (Mo.ok_4 (by have h := hE.out; omega) hS)), KU5, KA5, B5⟩
      | true =>
        go_upto_region 14 with fail
        refine wp_region_lit ?_
        (with_reducible refine rN (v := .pointer (some ⟨pA, 3, none⟩)) ?_ ?_ ?_); (· rfl); (· go_simp; (try rfl)); simp only [pu, sB, s0, sS]
        with_reducible refine wpList_loadV (.tmp 32) (j := 3) (v := .string s) ?_ ?_ KA3.out ?_ Tryz.underlying9 ?_ ?_
        · rfl
        · rfl
        · exact mO_3
        · rfl
        simp only [pu, sB, s0, sS]
        go_wp2_with fail
        refine (H4.out _ B3.out).mono ?_
        rintro e w4 ⟨rfl, hb⟩
        have B4 := Lib.hid (B3.out.trans (hb.mono B3.out.size))
        have KA4 := Lib.hid (KA3.out.below hb KA3.out.lt)
        have KU4 := Lib.hid (KU3.out.below hb KU3.out.lt)
        clear hb
        clear B3 KA3 KU3
        go_simp
        rename_i hKK
        refine hKK _ _ ?_
        clear hKK
        try simp only [pu, sB, s0, sS]
        (with_reducible refine rN (v := .bool true) ?_ ?_ ?_); (· rfl); (· go_simp; (try with_reducible rfl)); simp only [pu, sB, s0, sS]
        go_upto_region 15 with fail
        refine wp_region_lit ?_
        (with_reducible refine rN (v := .pointer (some ⟨pA, 3, none⟩)) ?_ ?_ ?_); (· rfl); (· go_simp; (try rfl)); simp only [pu, sB, s0, sS]
        with_reducible refine wpList_loadV (.tmp 35) (j := 3) (v := .string s) ?_ ?_ KA4.out ?_ Tryz.underlying9 ?_ ?_
        · rfl
        · rfl
        · exact mO_3
        · rfl
        simp only [pu, sB, s0, sS]
        (with_reducible refine rN (v := .pointer (some ⟨pU, 3, none⟩)) ?_ ?_ ?_); (· rfl); (· go_simp; (try rfl)); simp only [pu, sB, s0, sS]
        have KU5 := Lib.hid (KU4.out.stored (o := 3) (vs := [.string s]) (cs' := (mO k 0 0 s cellsZ)) (mO_p3))
        have KA5 := Lib.hid (KA4.out.wholeElse ([.string s]) (o := 3) NEAU.out)
        have B5 := Lib.hid (below_whole ([.string s]) (o := 3) B4.out LEU.out)
        with_reducible refine wpList_storeV (.tmp 37) (.tmp 36) (j := 3) (v := .string s) ?_ ?_ KU4.out ?_ (by kernel_rfl) (by simp [Value.oneCell']) ?_
        · rfl
        · rfl
        · exact (fit_1 (mO_sz cellsZ_size) (by decide))
        (try simp only [Act.put])
        generalize World.setCells _ _ _ _ = w5 at KA5 KU5 B5 ⊢
        clear B4 KA4 KU4
        go_wp2_with fail
        go_meet
        exact ⟨true, _, rfl, (mO_sz cellsZ_size), Lib.hid (IsMid.of (g := Fil.zero) (gs := ⟨#[]⟩) hf rfl (Mo.ok_4 (by have h := hE.out; omega) hS)), KU5, KA5, B5⟩
    have n5 : (k == 5) = false := by simpa using e5
    go_upto_region 13 with fail
    refine wp_region_lit ?_
    iterate 2 ((with_reducible refine rN (v := .bool false) ?_ ?_ ?_); (· rfl); (· go_simp; (try with_reducible rfl)); simp only [pu, sB, s0, sS])
    by_cases e6 : k = 6
    · have ek : (k == 6) = true := by simpa using e6
      have hE := Lib.hid e6
      clear e6
      go_upto_region 16 with fail
      refine wp_region_lit ?_
      iterate 2 ((with_reducible refine rN (v := .bool true) ?_ ?_ ?_); (· rfl); (· go_simp; (try with_reducible rfl)); simp only [pu, sB, s0, sS])
      have e6 : (k == 6) = true := ek
      cases v6 with
      | false =>
        go_upto_region 18 with fail
        refine wp_region_lit ?_
        (with_reducible refine rN (v := .pointer (some ⟨pA, 1, none⟩)) ?_ ?_ ?_); (· rfl); (· go_simp; (try rfl)); simp only [pu, sB, s0, sS]
        with_reducible refine wpList_loadV (.tmp 41) (j := 1) (v := .int .i64 n) ?_ ?_ KA3.out ?_ Tryz.underlying3 ?_ ?_
        · rfl
        · rfl
        · exact mO_1
        · rfl
        simp only [pu, sB, s0, sS]
        go_wp2_with fail
        refine (H6.out _ B3.out).mono ?_
        rintro e w4 ⟨rfl, hb⟩
        have B4 := Lib.hid (B3.out.trans (hb.mono B3.out.size))
        have KA4 := Lib.hid (KA3.out.below hb KA3.out.lt)
        have KU4 := Lib.hid (KU3.out.below hb KU3.out.lt)
        clear hb
        clear B3 KA3 KU3
        go_simp
        rename_i hKK
        refine hKK _ _ ?_
        clear hKK
        try simp only [pu, sB, s0, sS]
        (with_reducible refine rN (v := .bool false) ?_ ?_ ?_); (· rfl); (· go_simp; (try with_reducible rfl)); simp only [pu, sB, s0, sS]
        iterate 8 ((with_reducible refine kN ?_ ?_); (· rfl); simp only [pu, sB, s0, sS])
        iterate 2 ((with_reducible refine rN (v := .bool false) ?_ ?_ ?_); (· rfl); (· go_simp; (try with_reducible rfl)); simp only [pu, sB, s0, sS])
        go_upto_region 19 with fail
        refine wp_region_lit ?_
        (with_reducible refine rN (v := .pointer (some ⟨pA, 1, none⟩)) ?_ ?_ ?_); (· rfl); (· go_simp; (try rfl)); simp only [pu, sB, s0, sS]
        with_reducible refine wpList_loadV (.tmp 54) (j := 1) (v := .int .i64 n) ?_ ?_ KA4.out ?_ Tryz.underlying3 ?_ ?_
        · rfl
        · rfl
        · exact mO_1
        · rfl
        simp only [pu, sB, s0, sS]
        (with_reducible refine rN (v := .pointer (some ⟨pU, 1, none⟩)) ?_ ?_ ?_); (· rfl); (· go_simp; (try rfl)); simp only [pu, sB, s0, sS]
        have KU5 := Lib.hid (KU4.out.stored (o := 1) (vs := [.int .i64 n]) (cs' := (mO k n 0 ⟨#[]⟩ cellsZ)) (mO_p1))
        have KA5 := Lib.hid (KA4.out.wholeElse ([.int .i64 n]) (o := 1) NEAU.out)
        have B5 := Lib.hid (below_whole ([.int .i64 n]) (o := 1) B4.out LEU.out)
        with_reducible refine wpList_storeV (.tmp 56) (.tmp 55) (j := 1) (v := .int .i64 n) ?_ ?_ KU4.out ?_ (by kernel_rfl) (by simp [Value.oneCell']) ?_
        · rfl
        · rfl
        · exact (fit_1 (mO_sz cellsZ_size) (by decide))
        (try simp only [Act.put])
        generalize World.setCells _ _ _ _ = w5 at KA5 KU5 B5 ⊢
        clear B4 KA4 KU4
        go_wp2_with fail
        go_meet
        exact ⟨false, _, rfl, (mO_sz cellsZ_size), Lib.hid (IsMid.of (g := Fil.zero) (gs := ⟨#[]⟩) hf rfl (Mo.ok_6 hE.out hC)), KU5, KA5, B5⟩
      | true =>
        cases vp with
        | false =>
          go_upto_region 18 with fail
          refine wp_region_lit ?_
          (with_reducible refine rN (v := .pointer (some ⟨pA, 1, none⟩)) ?_ ?_ ?_); (· rfl); (· go_simp; (try rfl)); simp only [pu, sB, s0, sS]
          with_reducible refine wpList_loadV (.tmp 41) (j := 1) (v := .int .i64 n) ?_ ?_ KA3.out ?_ Tryz.underlying3 ?_ ?_
          · rfl
          · rfl
          · exact mO_1
          · rfl
          simp only [pu, sB, s0, sS]
          go_wp2_with fail
          refine (H6.out _ B3.out).mono ?_
          rintro e w4 ⟨rfl, hb⟩
          have B4 := Lib.hid (B3.out.trans (hb.mono B3.out.size))
          have KA4 := Lib.hid (KA3.out.below hb KA3.out.lt)
          have KU4 := Lib.hid (KU3.out.below hb KU3.out.lt)
          clear hb
          clear B3 KA3 KU3
          go_simp
          rename_i hKK
          refine hKK _ _ ?_
          clear hKK
          try simp only [pu, sB, s0, sS]
          (with_reducible refine rN (v := .bool true) ?_ ?_ ?_); (· rfl); (· go_simp; (try with_reducible rfl)); simp only [pu, sB, s0, sS]
          (with_reducible refine rN (v := .pointer (some ⟨pA, 1, none⟩)) ?_ ?_ ?_); (· rfl); (· go_simp; (try rfl)); simp only [pu, sB, s0, sS]
          with_reducible refine wpList_loadV (.tmp 45) (j := 1) (v := .int .i64 n) ?_ ?_ KA4.out ?_ Tryz.underlying3 ?_ ?_
          · rfl
          · rfl
          · exact mO_1
          · rfl
          simp only [pu, sB, s0, sS]
          iterate 2 ((with_reducible refine rN (v := .bool false) ?_ ?_ ?_); (· rfl); (· go_simp; (try with_reducible rfl)); simp only [pu, sB, s0, sS])
          (with_reducible refine rN (v := .pointer (some ⟨pA, 0, none⟩)) ?_ ?_ ?_); (· rfl); (· go_simp; (try rfl)); simp only [pu, sB, s0, sS]
          with_reducible refine wpList_loadV (.tmp 49) (j := 0) (v := .int .i64 k) ?_ ?_ KA4.out ?_ Tryz.underlying3 ?_ ?_
          · rfl
          · rfl
          · exact mO_0
          · rfl
          simp only [pu, sB, s0, sS]
          iterate 4 ((with_reducible refine rN (v := .bool true) ?_ ?_ ?_); (· rfl); (· go_simp; (try with_reducible rfl)); simp only [pu, sB, s0, sS])
          go_upto_region 19 with fail
          refine wp_region_lit ?_
          (with_reducible refine rN (v := .pointer (some ⟨pA, 1, none⟩)) ?_ ?_ ?_); (· rfl); (· go_simp; (try rfl)); simp only [pu, sB, s0, sS]
          with_reducible refine wpList_loadV (.tmp 54) (j := 1) (v := .int .i64 n) ?_ ?_ KA4.out ?_ Tryz.underlying3 ?_ ?_
          · rfl
          · rfl
          · exact mO_1
          · rfl
          simp only [pu, sB, s0, sS]
          (with_reducible refine rN (v := .pointer (some ⟨pU, 1, none⟩)) ?_ ?_ ?_); (· rfl); (· go_simp; (try rfl)); simp only [pu, sB, s0, sS]
          have KU5 := Lib.hid (KU4.out.stored (o := 1) (vs := [.int .i64 n]) (cs' := (mO k n 0 ⟨#[]⟩ cellsZ)) (mO_p1))
          have KA5 := Lib.hid (KA4.out.wholeElse ([.int .i64 n]) (o := 1) NEAU.out)
          have B5 := Lib.hid (below_whole ([.int .i64 n]) (o := 1) B4.out LEU.out)
          with_reducible refine wpList_storeV (.tmp 56) (.tmp 55) (j := 1) (v := .int .i64 n) ?_ ?_ KU4.out ?_ (by kernel_rfl) (by simp [Value.oneCell']) ?_
          · rfl
          · rfl
          · exact (fit_1 (mO_sz cellsZ_size) (by decide))
          (try simp only [Act.put])
          generalize World.setCells _ _ _ _ = w5 at KA5 KU5 B5 ⊢
          clear B4 KA4 KU4
          go_wp2_with fail
          go_meet
          exact ⟨true, _, rfl, (mO_sz cellsZ_size), Lib.hid (IsMid.of (g := Fil.zero) (gs := ⟨#[]⟩) hf rfl (Mo.ok_6 hE.out hC)), KU5, KA5, B5⟩
        | true =>
          go_upto_region 18 with fail
          refine wp_region_lit ?_
          (with_reducible refine rN (v := .pointer (some ⟨pA, 1, none⟩)) ?_ ?_ ?_); (· rfl); (· go_simp; (try rfl)); simp only [pu, sB, s0, sS]
          with_reducible refine wpList_loadV (.tmp 41) (j := 1) (v := .int .i64 n) ?_ ?_ KA3.out ?_ Tryz.underlying3 ?_ ?_
          · rfl
          · rfl
          · exact mO_1
          · rfl
          simp only [pu, sB, s0, sS]
          go_wp2_with fail
          refine (H6.out _ B3.out).mono ?_
          rintro e w4 ⟨rfl, hb⟩
          have B4 := Lib.hid (B3.out.trans (hb.mono B3.out.size))
          have KA4 := Lib.hid (KA3.out.below hb KA3.out.lt)
          have KU4 := Lib.hid (KU3.out.below hb KU3.out.lt)
          clear hb
          clear B3 KA3 KU3
          go_simp
          rename_i hKK
          refine hKK _ _ ?_
          clear hKK
          try simp only [pu, sB, s0, sS]
          (with_reducible refine rN (v := .bool true) ?_ ?_ ?_); (· rfl); (· go_simp; (try with_reducible rfl)); simp only [pu, sB, s0, sS]
          (with_reducible refine rN (v := .pointer (some ⟨pA, 1, none⟩)) ?_ ?_ ?_); (· rfl); (· go_simp; (try rfl)); simp only [pu, sB, s0, sS]
          with_reducible refine wpList_loadV (.tmp 45) (j := 1) (v := .int .i64 n) ?_ ?_ KA4.out ?_ Tryz.underlying3 ?_ ?_
          · rfl
          · rfl
          · exact mO_1
          · rfl
          simp only [pu, sB, s0, sS]
          iterate 2 ((with_reducible refine rN (v := .bool true) ?_ ?_ ?_); (· rfl); (· go_simp; (try with_reducible rfl)); simp only [pu, sB, s0, sS])
          iterate 3 ((with_reducible refine kN ?_ ?_); (· rfl); simp only [pu, sB, s0, sS])
          iterate 3 ((with_reducible refine rN (v := .bool true) ?_ ?_ ?_); (· rfl); (· go_simp; (try with_reducible rfl)); simp only [pu, sB, s0, sS])
          go_upto_region 19 with fail
          refine wp_region_lit ?_
          (with_reducible refine rN (v := .pointer (some ⟨pA, 1, none⟩)) ?_ ?_ ?_); (· rfl); (· go_simp; (try rfl)); simp only [pu, sB, s0, sS]
          with_reducible refine wpList_loadV (.tmp 54) (j := 1) (v := .int .i64 n) ?_ ?_ KA4.out ?_ Tryz.underlying3 ?_ ?_
          · rfl
          · rfl
          · exact mO_1
          · rfl
          simp only [pu, sB, s0, sS]
          (with_reducible refine rN (v := .pointer (some ⟨pU, 1, none⟩)) ?_ ?_ ?_); (· rfl); (· go_simp; (try rfl)); simp only [pu, sB, s0, sS]
          have KU5 := Lib.hid (KU4.out.stored (o := 1) (vs := [.int .i64 n]) (cs' := (mO k n 0 ⟨#[]⟩ cellsZ)) (mO_p1))
          have KA5 := Lib.hid (KA4.out.wholeElse ([.int .i64 n]) (o := 1) NEAU.out)
          have B5 := Lib.hid (below_whole ([.int .i64 n]) (o := 1) B4.out LEU.out)
          with_reducible refine wpList_storeV (.tmp 56) (.tmp 55) (j := 1) (v := .int .i64 n) ?_ ?_ KU4.out ?_ (by kernel_rfl) (by simp [Value.oneCell']) ?_
          · rfl
          · rfl
          · exact (fit_1 (mO_sz cellsZ_size) (by decide))
          (try simp only [Act.put])
          generalize World.setCells _ _ _ _ = w5 at KA5 KU5 B5 ⊢
          clear B4 KA4 KU4
          go_wp2_with fail
          go_meet
          exact ⟨true, _, rfl, (mO_sz cellsZ_size), Lib.hid (IsMid.of (g := Fil.zero) (gs := ⟨#[]⟩) hf rfl (Mo.ok_6 hE.out hC)), KU5, KA5, B5⟩
    have n6 : (k == 6) = false := by simpa using e6
    go_upto_region 16 with fail
    refine wp_region_lit ?_
    iterate 2 ((with_reducible refine rN (v := .bool false) ?_ ?_ ?_); (· rfl); (· go_simp; (try with_reducible rfl)); simp only [pu, sB, s0, sS])
    by_cases e7 : k = 7
    · have ek : (k == 7) = true := by simpa using e7
      have hE := Lib.hid e7
      clear e7
      go_upto_region 17 with fail
      refine wp_region_lit ?_
      iterate 2 ((with_reducible refine rN (v := .bool true) ?_ ?_ ?_); (· rfl); (· go_simp; (try with_reducible rfl)); simp only [pu, sB, s0, sS])
      have e6 : (k == 6) = false := by simpa using e6
      cases v6 with
      | false =>
        go_upto_region 18 with fail
        refine wp_region_lit ?_
        (with_reducible refine rN (v := .pointer (some ⟨pA, 1, none⟩)) ?_ ?_ ?_); (· rfl); (· go_simp; (try rfl)); simp only [pu, sB, s0, sS]
        with_reducible refine wpList_loadV (.tmp 41) (j := 1) (v := .int .i64 n) ?_ ?_ KA3.out ?_ Tryz.underlying3 ?_ ?_
        · rfl
        · rfl
        · exact mO_1
        · rfl
        simp only [pu, sB, s0, sS]
        go_wp2_with fail
        refine (H6.out _ B3.out).mono ?_
        rintro e w4 ⟨rfl, hb⟩
        have B4 := Lib.hid (B3.out.trans (hb.mono B3.out.size))
        have KA4 := Lib.hid (KA3.out.below hb KA3.out.lt)
        have KU4 := Lib.hid (KU3.out.below hb KU3.out.lt)
        clear hb
        clear B3 KA3 KU3
        go_simp
        rename_i hKK
        refine hKK _ _ ?_
        clear hKK
        try simp only [pu, sB, s0, sS]
        (with_reducible refine rN (v := .bool false) ?_ ?_ ?_); (· rfl); (· go_simp; (try with_reducible rfl)); simp only [pu, sB, s0, sS]
        iterate 8 ((with_reducible refine kN ?_ ?_); (· rfl); simp only [pu, sB, s0, sS])
        iterate 2 ((with_reducible refine rN (v := .bool false) ?_ ?_ ?_); (· rfl); (· go_simp; (try with_reducible rfl)); simp only [pu, sB, s0, sS])
        go_upto_region 19 with fail
        refine wp_region_lit ?_
        (with_reducible refine rN (v := .pointer (some ⟨pA, 1, none⟩)) ?_ ?_ ?_); (· rfl); (· go_simp; (try rfl)); simp only [pu, sB, s0, sS]
        with_reducible refine wpList_loadV (.tmp 54) (j := 1) (v := .int .i64 n) ?_ ?_ KA4.out ?_ Tryz.underlying3 ?_ ?_
        · rfl
        · rfl
        · exact mO_1
        · rfl
        simp only [pu, sB, s0, sS]
        (with_reducible refine rN (v := .pointer (some ⟨pU, 1, none⟩)) ?_ ?_ ?_); (· rfl); (· go_simp; (try rfl)); simp only [pu, sB, s0, sS]
        have KU5 := Lib.hid (KU4.out.stored (o := 1) (vs := [.int .i64 n]) (cs' := (mO k n 0 ⟨#[]⟩ cellsZ)) (mO_p1))
        have KA5 := Lib.hid (KA4.out.wholeElse ([.int .i64 n]) (o := 1) NEAU.out)
        have B5 := Lib.hid (below_whole ([.int .i64 n]) (o := 1) B4.out LEU.out)
        with_reducible refine wpList_storeV (.tmp 56) (.tmp 55) (j := 1) (v := .int .i64 n) ?_ ?_ KU4.out ?_ (by kernel_rfl) (by simp [Value.oneCell']) ?_
        · rfl
        · rfl
        · exact (fit_1 (mO_sz cellsZ_size) (by decide))
        (try simp only [Act.put])
        generalize World.setCells _ _ _ _ = w5 at KA5 KU5 B5 ⊢
        clear B4 KA4 KU4
        go_wp2_with fail
        go_meet
        exact ⟨false, _, rfl, (mO_sz cellsZ_size), Lib.hid (IsMid.of (g := Fil.zero) (gs := ⟨#[]⟩) hf rfl (Mo.ok_7 (by have h := hE.out; omega) hC7)), KU5, KA5, B5⟩
      | true =>
        cases vp with
        | false =>
          go_upto_region 18 with fail
          refine wp_region_lit ?_
          (with_reducible refine rN (v := .pointer (some ⟨pA, 1, none⟩)) ?_ ?_ ?_); (· rfl); (· go_simp; (try rfl)); simp only [pu, sB, s0, sS]
          with_reducible refine wpList_loadV (.tmp 41) (j := 1) (v := .int .i64 n) ?_ ?_ KA3.out ?_ Tryz.underlying3 ?_ ?_
          · rfl
          · rfl
          · exact mO_1
          · rfl
          simp only [pu, sB, s0, sS]
          go_wp2_with fail
          refine (H6.out _ B3.out).mono ?_
          rintro e w4 ⟨rfl, hb⟩
          have B4 := Lib.hid (B3.out.trans (hb.mono B3.out.size))
          have KA4 := Lib.hid (KA3.out.below hb KA3.out.lt)
          have KU4 := Lib.hid (KU3.out.below hb KU3.out.lt)
          clear hb
          clear B3 KA3 KU3
          go_simp
          rename_i hKK
          refine hKK _ _ ?_
          clear hKK
          try simp only [pu, sB, s0, sS]
          (with_reducible refine rN (v := .bool true) ?_ ?_ ?_); (· rfl); (· go_simp; (try with_reducible rfl)); simp only [pu, sB, s0, sS]
          (with_reducible refine rN (v := .pointer (some ⟨pA, 1, none⟩)) ?_ ?_ ?_); (· rfl); (· go_simp; (try rfl)); simp only [pu, sB, s0, sS]
          with_reducible refine wpList_loadV (.tmp 45) (j := 1) (v := .int .i64 n) ?_ ?_ KA4.out ?_ Tryz.underlying3 ?_ ?_
          · rfl
          · rfl
          · exact mO_1
          · rfl
          simp only [pu, sB, s0, sS]
          iterate 2 ((with_reducible refine rN (v := .bool false) ?_ ?_ ?_); (· rfl); (· go_simp; (try with_reducible rfl)); simp only [pu, sB, s0, sS])
          (with_reducible refine rN (v := .pointer (some ⟨pA, 0, none⟩)) ?_ ?_ ?_); (· rfl); (· go_simp; (try rfl)); simp only [pu, sB, s0, sS]
          with_reducible refine wpList_loadV (.tmp 49) (j := 0) (v := .int .i64 k) ?_ ?_ KA4.out ?_ Tryz.underlying3 ?_ ?_
          · rfl
          · rfl
          · exact mO_0
          · rfl
          simp only [pu, sB, s0, sS]
          iterate 4 ((with_reducible refine rN (v := .bool false) ?_ ?_ ?_); (· rfl); (· go_simp; (try with_reducible rfl)); simp only [pu, sB, s0, sS])
          go_upto_region 19 with fail
          refine wp_region_lit ?_
          (with_reducible refine rN (v := .pointer (some ⟨pA, 1, none⟩)) ?_ ?_ ?_); (· rfl); (· go_simp; (try rfl)); simp only [pu, sB, s0, sS]
          with_reducible refine wpList_loadV (.tmp 54) (j := 1) (v := .int .i64 n) ?_ ?_ KA4.out ?_ Tryz.underlying3 ?_ ?_
          · rfl
          · rfl
          · exact mO_1
          · rfl
          simp only [pu, sB, s0, sS]
          (with_reducible refine rN (v := .pointer (some ⟨pU, 1, none⟩)) ?_ ?_ ?_); (· rfl); (· go_simp; (try rfl)); simp only [pu, sB, s0, sS]
          have KU5 := Lib.hid (KU4.out.stored (o := 1) (vs := [.int .i64 n]) (cs' := (mO k n 0 ⟨#[]⟩ cellsZ)) (mO_p1))
          have KA5 := Lib.hid (KA4.out.wholeElse ([.int .i64 n]) (o := 1) NEAU.out)
          have B5 := Lib.hid (below_whole ([.int .i64 n]) (o := 1) B4.out LEU.out)
          with_reducible refine wpList_storeV (.tmp 56) (.tmp 55) (j := 1) (v := .int .i64 n) ?_ ?_ KU4.out ?_ (by kernel_rfl) (by simp [Value.oneCell']) ?_
          · rfl
          · rfl
          · exact (fit_1 (mO_sz cellsZ_size) (by decide))
          (try simp only [Act.put])
          generalize World.setCells _ _ _ _ = w5 at KA5 KU5 B5 ⊢
          clear B4 KA4 KU4
          go_wp2_with fail
          go_meet
          exact ⟨false, _, rfl, (mO_sz cellsZ_size), Lib.hid (IsMid.of (g := Fil.zero) (gs := ⟨#[]⟩) hf rfl (Mo.ok_7 (by have h := hE.out; omega) hC7)), KU5, KA5, B5⟩
        | true =>
          go_upto_region 18 with fail
          refine wp_region_lit ?_
          (with_reducible refine rN (v := .pointer (some ⟨pA, 1, none⟩)) ?_ ?_ ?_); (· rfl); (· go_simp; (try rfl)); simp only [pu, sB, s0, sS]
          with_reducible refine wpList_loadV (.tmp 41) (j := 1) (v := .int .i64 n) ?_ ?_ KA3.out ?_ Tryz.underlying3 ?_ ?_
          · rfl
          · rfl
          · exact mO_1
          · rfl
          simp only [pu, sB, s0, sS]
          go_wp2_with fail
          refine (H6.out _ B3.out).mono ?_
          rintro e w4 ⟨rfl, hb⟩
          have B4 := Lib.hid (B3.out.trans (hb.mono B3.out.size))
          have KA4 := Lib.hid (KA3.out.below hb KA3.out.lt)
          have KU4 := Lib.hid (KU3.out.below hb KU3.out.lt)
          clear hb
          clear B3 KA3 KU3
          go_simp
          rename_i hKK
          refine hKK _ _ ?_
          clear hKK
          try simp only [pu, sB, s0, sS]
          (with_reducible refine rN (v := .bool true) ?_ ?_ ?_); (· rfl); (· go_simp; (try with_reducible rfl)); simp only [pu, sB, s0, sS]
          (with_reducible refine rN (v := .pointer (some ⟨pA, 1, none⟩)) ?_ ?_ ?_); (· rfl); (· go_simp; (try rfl)); simp only [pu, sB, s0, sS]
          with_reducible refine wpList_loadV (.tmp 45) (j := 1) (v := .int .i64 n) ?_ ?_ KA4.out ?_ Tryz.underlying3 ?_ ?_
          · rfl
          · rfl
          · exact mO_1
          · rfl
          simp only [pu, sB, s0, sS]
          iterate 2 ((with_reducible refine rN (v := .bool true) ?_ ?_ ?_); (· rfl); (· go_simp; (try with_reducible rfl)); simp only [pu, sB, s0, sS])
          iterate 3 ((with_reducible refine kN ?_ ?_); (· rfl); simp only [pu, sB, s0, sS])
          iterate 3 ((with_reducible refine rN (v := .bool true) ?_ ?_ ?_); (· rfl); (· go_simp; (try with_reducible rfl)); simp only [pu, sB, s0, sS])
          go_upto_region 19 with fail
          refine wp_region_lit ?_
          (with_reducible refine rN (v := .pointer (some ⟨pA, 1, none⟩)) ?_ ?_ ?_); (· rfl); (· go_simp; (try rfl)); simp only [pu, sB, s0, sS]
          with_reducible refine wpList_loadV (.tmp 54) (j := 1) (v := .int .i64 n) ?_ ?_ KA4.out ?_ Tryz.underlying3 ?_ ?_
          · rfl
          · rfl
          · exact mO_1
          · rfl
          simp only [pu, sB, s0, sS]
          (with_reducible refine rN (v := .pointer (some ⟨pU, 1, none⟩)) ?_ ?_ ?_); (· rfl); (· go_simp; (try rfl)); simp only [pu, sB, s0, sS]
          have KU5 := Lib.hid (KU4.out.stored (o := 1) (vs := [.int .i64 n]) (cs' := (mO k n 0 ⟨#[]⟩ cellsZ)) (mO_p1))
          have KA5 := Lib.hid (KA4.out.wholeElse ([.int .i64 n]) (o := 1) NEAU.out)
          have B5 := Lib.hid (below_whole ([.int .i64 n]) (o := 1) B4.out LEU.out)
          with_reducible refine wpList_storeV (.tmp 56) (.tmp 55) (j := 1) (v := .int .i64 n) ?_ ?_ KU4.out ?_ (by kernel_rfl) (by simp [Value.oneCell']) ?_
          · rfl
          · rfl
          · exact (fit_1 (mO_sz cellsZ_size) (by decide))
          (try simp only [Act.put])
          generalize World.setCells _ _ _ _ = w5 at KA5 KU5 B5 ⊢
          clear B4 KA4 KU4
          go_wp2_with fail
          go_meet
          exact ⟨true, _, rfl, (mO_sz cellsZ_size), Lib.hid (IsMid.of (g := Fil.zero) (gs := ⟨#[]⟩) hf rfl (Mo.ok_7 (by have h := hE.out; omega) hC7)), KU5, KA5, B5⟩
    have n7 : (k == 7) = false := by simpa using e7
    go_upto_region 17 with fail
    refine wp_region_lit ?_
    iterate 2 ((with_reducible refine rN (v := .bool false) ?_ ?_ ?_); (· rfl); (· go_simp; (try with_reducible rfl)); simp only [pu, sB, s0, sS])
    by_cases e8 : k = 8
    · have ek : (k == 8) = true := by simpa using e8
      have hE := Lib.hid e8
      clear e8
      go_upto_region 20 with fail
      refine wp_region_lit ?_
      iterate 2 ((with_reducible refine rN (v := .bool true) ?_ ?_ ?_); (· rfl); (· go_simp; (try with_reducible rfl)); simp only [pu, sB, s0, sS])
      cases v8 with
      | false =>
        go_upto_region 22 with fail
        refine wp_region_lit ?_
        (with_reducible refine rN (v := .pointer (some ⟨pA, 1, none⟩)) ?_ ?_ ?_); (· rfl); (· go_simp; (try rfl)); simp only [pu, sB, s0, sS]
        with_reducible refine wpList_loadV (.tmp 60) (j := 1) (v := .int .i64 n) ?_ ?_ KA3.out ?_ Tryz.underlying3 ?_ ?_
        · rfl
        · rfl
        · exact mO_1
        · rfl
        simp only [pu, sB, s0, sS]
        go_wp2_with fail
        refine (H8.out _ B3.out).mono ?_
        rintro e w4 ⟨rfl, hb⟩
        have B4 := Lib.hid (B3.out.trans (hb.mono B3.out.size))
        have KA4 := Lib.hid (KA3.out.below hb KA3.out.lt)
        have KU4 := Lib.hid (KU3.out.below hb KU3.out.lt)
        clear hb
        clear B3 KA3 KU3
        go_simp
        rename_i hKK
        refine hKK _ _ ?_
        clear hKK
        try simp only [pu, sB, s0, sS]
        (with_reducible refine rN (v := .bool false) ?_ ?_ ?_); (· rfl); (· go_simp; (try with_reducible rfl)); simp only [pu, sB, s0, sS]
        iterate 3 ((with_reducible refine kN ?_ ?_); (· rfl); simp only [pu, sB, s0, sS])
        iterate 2 ((with_reducible refine rN (v := .bool false) ?_ ?_ ?_); (· rfl); (· go_simp; (try with_reducible rfl)); simp only [pu, sB, s0, sS])
        go_upto_region 23 with fail
        refine wp_region_lit ?_
        (with_reducible refine rN (v := .pointer (some ⟨pA, 1, none⟩)) ?_ ?_ ?_); (· rfl); (· go_simp; (try rfl)); simp only [pu, sB, s0, sS]
        with_reducible refine wpList_loadV (.tmp 68) (j := 1) (v := .int .i64 n) ?_ ?_ KA4.out ?_ Tryz.underlying3 ?_ ?_
        · rfl
        · rfl
        · exact mO_1
        · rfl
        simp only [pu, sB, s0, sS]
        (with_reducible refine rN (v := .pointer (some ⟨pU, 1, none⟩)) ?_ ?_ ?_); (· rfl); (· go_simp; (try rfl)); simp only [pu, sB, s0, sS]
        have KU5 := Lib.hid (KU4.out.stored (o := 1) (vs := [.int .i64 n]) (cs' := (mO k n 0 ⟨#[]⟩ cellsZ)) (mO_p1))
        have KA5 := Lib.hid (KA4.out.wholeElse ([.int .i64 n]) (o := 1) NEAU.out)
        have B5 := Lib.hid (below_whole ([.int .i64 n]) (o := 1) B4.out LEU.out)
        with_reducible refine wpList_storeV (.tmp 70) (.tmp 69) (j := 1) (v := .int .i64 n) ?_ ?_ KU4.out ?_ (by kernel_rfl) (by simp [Value.oneCell']) ?_
        · rfl
        · rfl
        · exact (fit_1 (mO_sz cellsZ_size) (by decide))
        (try simp only [Act.put])
        generalize World.setCells _ _ _ _ = w5 at KA5 KU5 B5 ⊢
        clear B4 KA4 KU4
        go_wp2_with fail
        go_meet
        exact ⟨false, _, rfl, (mO_sz cellsZ_size), Lib.hid (IsMid.of (g := Fil.zero) (gs := ⟨#[]⟩) hf rfl (Mo.ok_8 (by have h := hE.out; omega) hK)), KU5, KA5, B5⟩
      | true =>
        cases vp with
        | false =>
          go_upto_region 22 with fail
          refine wp_region_lit ?_
          (with_reducible refine rN (v := .pointer (some ⟨pA, 1, none⟩)) ?_ ?_ ?_); (· rfl); (· go_simp; (try rfl)); simp only [pu, sB, s0, sS]
          with_reducible refine wpList_loadV (.tmp 60) (j := 1) (v := .int .i64 n) ?_ ?_ KA3.out ?_ Tryz.underlying3 ?_ ?_
          · rfl
          · rfl
          · exact mO_1
          · rfl
          simp only [pu, sB, s0, sS]
          go_wp2_with fail
          refine (H8.out _ B3.out).mono ?_
          rintro e w4 ⟨rfl, hb⟩
          have B4 := Lib.hid (B3.out.trans (hb.mono B3.out.size))
          have KA4 := Lib.hid (KA3.out.below hb KA3.out.lt)
          have KU4 := Lib.hid (KU3.out.below hb KU3.out.lt)
          clear hb
          clear B3 KA3 KU3
          go_simp
          rename_i hKK
          refine hKK _ _ ?_
          clear hKK
          try simp only [pu, sB, s0, sS]
          (with_reducible refine rN (v := .bool true) ?_ ?_ ?_); (· rfl); (· go_simp; (try with_reducible rfl)); simp only [pu, sB, s0, sS]
          (with_reducible refine rN (v := .pointer (some ⟨pA, 1, none⟩)) ?_ ?_ ?_); (· rfl); (· go_simp; (try rfl)); simp only [pu, sB, s0, sS]
          with_reducible refine wpList_loadV (.tmp 64) (j := 1) (v := .int .i64 n) ?_ ?_ KA4.out ?_ Tryz.underlying3 ?_ ?_
          · rfl
          · rfl
          · exact mO_1
          · rfl
          simp only [pu, sB, s0, sS]
          iterate 3 ((with_reducible refine rN (v := .bool false) ?_ ?_ ?_); (· rfl); (· go_simp; (try with_reducible rfl)); simp only [pu, sB, s0, sS])
          go_upto_region 23 with fail
          refine wp_region_lit ?_
          (with_reducible refine rN (v := .pointer (some ⟨pA, 1, none⟩)) ?_ ?_ ?_); (· rfl); (· go_simp; (try rfl)); simp only [pu, sB, s0, sS]
          with_reducible refine wpList_loadV (.tmp 68) (j := 1) (v := .int .i64 n) ?_ ?_ KA4.out ?_ Tryz.underlying3 ?_ ?_
          · rfl
          · rfl
          · exact mO_1
          · rfl
          simp only [pu, sB, s0, sS]
          (with_reducible refine rN (v := .pointer (some ⟨pU, 1, none⟩)) ?_ ?_ ?_); (· rfl); (· go_simp; (try rfl)); simp only [pu, sB, s0, sS]
          have KU5 := Lib.hid (KU4.out.stored (o := 1) (vs := [.int .i64 n]) (cs' := (mO k n 0 ⟨#[]⟩ cellsZ)) (mO_p1))
          have KA5 := Lib.hid (KA4.out.wholeElse ([.int .i64 n]) (o := 1) NEAU.out)
          have B5 := Lib.hid (below_whole ([.int .i64 n]) (o := 1) B4.out LEU.out)
          with_reducible refine wpList_storeV (.tmp 70) (.tmp 69) (j := 1) (v := .int .i64 n) ?_ ?_ KU4.out ?_ (by kernel_rfl) (by simp [Value.oneCell']) ?_
          · rfl
          · rfl
          · exact (fit_1 (mO_sz cellsZ_size) (by decide))
          (try simp only [Act.put])
          generalize World.setCells _ _ _ _ = w5 at KA5 KU5 B5 ⊢
          clear B4 KA4 KU4
          go_wp2_with fail
          go_meet
          exact ⟨false, _, rfl, (mO_sz cellsZ_size), Lib.hid (IsMid.of (g := Fil.zero) (gs := ⟨#[]⟩) hf rfl (Mo.ok_8 (by have h := hE.out; omega) hK)), KU5, KA5, B5⟩
        | true =>
          go_upto_region 22 with fail
          refine wp_region_lit ?_
          (with_reducible refine rN (v := .pointer (some ⟨pA, 1, none⟩)) ?_ ?_ ?_); (· rfl); (· go_simp; (try rfl)); simp only [pu, sB, s0, sS]
          with_reducible refine wpList_loadV (.tmp 60) (j := 1) (v := .int .i64 n) ?_ ?_ KA3.out ?_ Tryz.underlying3 ?_ ?_
          · rfl
          · rfl
          · exact mO_1
          · rfl
          simp only [pu, sB, s0, sS]
          go_wp2_with fail
          refine (H8.out _ B3.out).mono ?_
          rintro e w4 ⟨rfl, hb⟩
          have B4 := Lib.hid (B3.out.trans (hb.mono B3.out.size))
          have KA4 := Lib.hid (KA3.out.below hb KA3.out.lt)
          have KU4 := Lib.hid (KU3.out.below hb KU3.out.lt)
          clear hb
          clear B3 KA3 KU3
          go_simp
          rename_i hKK
          refine hKK _ _ ?_
          clear hKK
          try simp only [pu, sB, s0, sS]
          (with_reducible refine rN (v := .bool true) ?_ ?_ ?_); (· rfl); (· go_simp; (try with_reducible rfl)); simp only [pu, sB, s0, sS]
          (with_reducible refine rN (v := .pointer (some ⟨pA, 1, none⟩)) ?_ ?_ ?_); (· rfl); (· go_simp; (try rfl)); simp only [pu, sB, s0, sS]
          with_reducible refine wpList_loadV (.tmp 64) (j := 1) (v := .int .i64 n) ?_ ?_ KA4.out ?_ Tryz.underlying3 ?_ ?_
          · rfl
          · rfl
          · exact mO_1
          · rfl
          simp only [pu, sB, s0, sS]
          iterate 3 ((with_reducible refine rN (v := .bool true) ?_ ?_ ?_); (· rfl); (· go_simp; (try with_reducible rfl)); simp only [pu, sB, s0, sS])
          go_upto_region 23 with fail
          refine wp_region_lit ?_
          (with_reducible refine rN (v := .pointer (some ⟨pA, 1, none⟩)) ?_ ?_ ?_); (· rfl); (· go_simp; (try rfl)); simp only [pu, sB, s0, sS]
          with_reducible refine wpList_loadV (.tmp 68) (j := 1) (v := .int .i64 n) ?_ ?_ KA4.out ?_ Tryz.underlying3 ?_ ?_
          · rfl
          · rfl
          · exact mO_1
          · rfl
          simp only [pu, sB, s0, sS]
          (with_reducible refine rN (v := .pointer (some ⟨pU, 1, none⟩)) ?_ ?_ ?_); (· rfl); (· go_simp; (try rfl)); simp only [pu, sB, s0, sS]
          have KU5 := Lib.hid (KU4.out.stored (o := 1) (vs := [.int .i64 n]) (cs' := (mO k n 0 ⟨#[]⟩ cellsZ)) (mO_p1))
          have KA5 := Lib.hid (KA4.out.wholeElse ([.int .i64 n]) (o := 1) NEAU.out)
          have B5 := Lib.hid (below_whole ([.int .i64 n]) (o := 1) B4.out LEU.out)
          with_reducible refine wpList_storeV (.tmp 70) (.tmp 69) (j := 1) (v := .int .i64 n) ?_ ?_ KU4.out ?_ (by kernel_rfl) (by simp [Value.oneCell']) ?_
          · rfl
          · rfl
          · exact (fit_1 (mO_sz cellsZ_size) (by decide))
          (try simp only [Act.put])
          generalize World.setCells _ _ _ _ = w5 at KA5 KU5 B5 ⊢
          clear B4 KA4 KU4
          go_wp2_with fail
          go_meet
          exact ⟨true, _, rfl, (mO_sz cellsZ_size), Lib.hid (IsMid.of (g := Fil.zero) (gs := ⟨#[]⟩) hf rfl (Mo.ok_8 (by have h := hE.out; omega) hK)), KU5, KA5, B5⟩
    have n8 : (k == 8) = false := by simpa using e8
    go_upto_region 20 with fail
    refine wp_region_lit ?_
    iterate 2 ((with_reducible refine rN (v := .bool false) ?_ ?_ ?_); (· rfl); (· go_simp; (try with_reducible rfl)); simp only [pu, sB, s0, sS])
    by_cases e9 : k = 9
    · have ek : (k == 9) = true := by simpa using e9
      have hE := Lib.hid e9
      clear e9
      go_upto_region 21 with fail
      refine wp_region_lit ?_
      iterate 2 ((with_reducible refine rN (v := .bool true) ?_ ?_ ?_); (· rfl); (· go_simp; (try with_reducible rfl)); simp only [pu, sB, s0, sS])
      cases v8 with
      | false =>
        go_upto_region 22 with fail
        refine wp_region_lit ?_
        (with_reducible refine rN (v := .pointer (some ⟨pA, 1, none⟩)) ?_ ?_ ?_); (· rfl); (· go_simp; (try rfl)); simp only [pu, sB, s0, sS]
        with_reducible refine wpList_loadV (.tmp 60) (j := 1) (v := .int .i64 n) ?_ ?_ KA3.out ?_ Tryz.underlying3 ?_ ?_
        · rfl
        · rfl
        · exact mO_1
        · rfl
        simp only [pu, sB, s0, sS]
        go_wp2_with fail
        refine (H8.out _ B3.out).mono ?_
        rintro e w4 ⟨rfl, hb⟩
        have B4 := Lib.hid (B3.out.trans (hb.mono B3.out.size))
        have KA4 := Lib.hid (KA3.out.below hb KA3.out.lt)
        have KU4 := Lib.hid (KU3.out.below hb KU3.out.lt)
        clear hb
        clear B3 KA3 KU3
        go_simp
        rename_i hKK
        refine hKK _ _ ?_
        clear hKK
        try simp only [pu, sB, s0, sS]
        (with_reducible refine rN (v := .bool false) ?_ ?_ ?_); (· rfl); (· go_simp; (try with_reducible rfl)); simp only [pu, sB, s0, sS]
        iterate 3 ((with_reducible refine kN ?_ ?_); (· rfl); simp only [pu, sB, s0, sS])
        iterate 2 ((with_reducible refine rN (v := .bool false) ?_ ?_ ?_); (· rfl); (· go_simp; (try with_reducible rfl)); simp only [pu, sB, s0, sS])
        go_upto_region 23 with fail
        refine wp_region_lit ?_
        (with_reducible refine rN (v := .pointer (some ⟨pA, 1, none⟩)) ?_ ?_ ?_); (· rfl); (· go_simp; (try rfl)); simp only [pu, sB, s0, sS]
        with_reducible refine wpList_loadV (.tmp 68) (j := 1) (v := .int .i64 n) ?_ ?_ KA4.out ?_ Tryz.underlying3 ?_ ?_
        · rfl
        · rfl
        · exact mO_1
        · rfl
        simp only [pu, sB, s0, sS]
        (with_reducible refine rN (v := .pointer (some ⟨pU, 1, none⟩)) ?_ ?_ ?_); (· rfl); (· go_simp; (try rfl)); simp only [pu, sB, s0, sS]
        have KU5 := Lib.hid (KU4.out.stored (o := 1) (vs := [.int .i64 n]) (cs' := (mO k n 0 ⟨#[]⟩ cellsZ)) (mO_p1))
        have KA5 := Lib.hid (KA4.out.wholeElse ([.int .i64 n]) (o := 1) NEAU.out)
        have B5 := Lib.hid (below_whole ([.int .i64 n]) (o := 1) B4.out LEU.out)
        with_reducible refine wpList_storeV (.tmp 70) (.tmp 69) (j := 1) (v := .int .i64 n) ?_ ?_ KU4.out ?_ (by kernel_rfl) (by simp [Value.oneCell']) ?_
        · rfl
        · rfl
        · exact (fit_1 (mO_sz cellsZ_size) (by decide))
        (try simp only [Act.put])
        generalize World.setCells _ _ _ _ = w5 at KA5 KU5 B5 ⊢
        clear B4 KA4 KU4
        go_wp2_with fail
        go_meet
        exact ⟨false, _, rfl, (mO_sz cellsZ_size), Lib.hid (IsMid.of (g := Fil.zero) (gs := ⟨#[]⟩) hf rfl (Mo.ok_8 (by have h := hE.out; omega) hK)), KU5, KA5, B5⟩
      | true =>
        cases vp with
        | false =>
          go_upto_region 22 with fail
          refine wp_region_lit ?_
          (with_reducible refine rN (v := .pointer (some ⟨pA, 1, none⟩)) ?_ ?_ ?_); (· rfl); (· go_simp; (try rfl)); simp only [pu, sB, s0, sS]
          with_reducible refine wpList_loadV (.tmp 60) (j := 1) (v := .int .i64 n) ?_ ?_ KA3.out ?_ Tryz.underlying3 ?_ ?_
          · rfl
          · rfl
          · exact mO_1
          · rfl
          simp only [pu, sB, s0, sS]
          go_wp2_with fail
          refine (H8.out _ B3.out).mono ?_
          rintro e w4 ⟨rfl, hb⟩
          have B4 := Lib.hid (B3.out.trans (hb.mono B3.out.size))
          have KA4 := Lib.hid (KA3.out.below hb KA3.out.lt)
          have KU4 := Lib.hid (KU3.out.below hb KU3.out.lt)
          clear hb
          clear B3 KA3 KU3
          go_simp
          rename_i hKK
          refine hKK _ _ ?_
          clear hKK
          try simp only [pu, sB, s0, sS]
          (with_reducible refine rN (v := .bool true) ?_ ?_ ?_); (· rfl); (· go_simp; (try with_reducible rfl)); simp only [pu, sB, s0, sS]
          (with_reducible refine rN (v := .pointer (some ⟨pA, 1, none⟩)) ?_ ?_ ?_); (· rfl); (· go_simp; (try rfl)); simp only [pu, sB, s0, sS]
          with_reducible refine wpList_loadV (.tmp 64) (j := 1) (v := .int .i64 n) ?_ ?_ KA4.out ?_ Tryz.underlying3 ?_ ?_
          · rfl
          · rfl
          · exact mO_1
          · rfl
          simp only [pu, sB, s0, sS]
          iterate 3 ((with_reducible refine rN (v := .bool false) ?_ ?_ ?_); (· rfl); (· go_simp; (try with_reducible rfl)); simp only [pu, sB, s0, sS])
          go_upto_region 23 with fail
          refine wp_region_lit ?_
          (with_reducible refine rN (v := .pointer (some ⟨pA, 1, none⟩)) ?_ ?_ ?_); (· rfl); (· go_simp; (try rfl)); simp only [pu, sB, s0, sS]
          with_reducible refine wpList_loadV (.tmp 68) (j := 1) (v := .int .i64 n) ?_ ?_ KA4.out ?_ Tryz.underlying3 ?_ ?_
          · rfl
          · rfl
          · exact mO_1
          · rfl
          simp only [pu, sB, s0, sS]
          (with_reducible refine rN (v := .pointer (some ⟨pU, 1, none⟩)) ?_ ?_ ?_); (· rfl); (· go_simp; (try rfl)); simp only [pu, sB, s0, sS]
          have KU5 := Lib.hid (KU4.out.stored (o := 1) (vs := [.int .i64 n]) (cs' := (mO k n 0 ⟨#[]⟩ cellsZ)) (mO_p1))
          have KA5 := Lib.hid (KA4.out.wholeElse ([.int .i64 n]) (o := 1) NEAU.out)
          have B5 := Lib.hid (below_whole ([.int .i64 n]) (o := 1) B4.out LEU.out)
          with_reducible refine wpList_storeV (.tmp 70) (.tmp 69) (j := 1) (v := .int .i64 n) ?_ ?_ KU4.out ?_ (by kernel_rfl) (by simp [Value.oneCell']) ?_
          · rfl
          · rfl
          · exact (fit_1 (mO_sz cellsZ_size) (by decide))
          (try simp only [Act.put])
          generalize World.setCells _ _ _ _ = w5 at KA5 KU5 B5 ⊢
          clear B4 KA4 KU4
          go_wp2_with fail
          go_meet
          exact ⟨false, _, rfl, (mO_sz cellsZ_size), Lib.hid (IsMid.of (g := Fil.zero) (gs := ⟨#[]⟩) hf rfl (Mo.ok_8 (by have h := hE.out; omega) hK)), KU5, KA5, B5⟩
        | true =>
          go_upto_region 22 with fail
          refine wp_region_lit ?_
          (with_reducible refine rN (v := .pointer (some ⟨pA, 1, none⟩)) ?_ ?_ ?_); (· rfl); (· go_simp; (try rfl)); simp only [pu, sB, s0, sS]
          with_reducible refine wpList_loadV (.tmp 60) (j := 1) (v := .int .i64 n) ?_ ?_ KA3.out ?_ Tryz.underlying3 ?_ ?_
          · rfl
          · rfl
          · exact mO_1
          · rfl
          simp only [pu, sB, s0, sS]
          go_wp2_with fail
          refine (H8.out _ B3.out).mono ?_
          rintro e w4 ⟨rfl, hb⟩
          have B4 := Lib.hid (B3.out.trans (hb.mono B3.out.size))
          have KA4 := Lib.hid (KA3.out.below hb KA3.out.lt)
          have KU4 := Lib.hid (KU3.out.below hb KU3.out.lt)
          clear hb
          clear B3 KA3 KU3
          go_simp
          rename_i hKK
          refine hKK _ _ ?_
          clear hKK
          try simp only [pu, sB, s0, sS]
          (with_reducible refine rN (v := .bool true) ?_ ?_ ?_); (· rfl); (· go_simp; (try with_reducible rfl)); simp only [pu, sB, s0, sS]
          (with_reducible refine rN (v := .pointer (some ⟨pA, 1, none⟩)) ?_ ?_ ?_); (· rfl); (· go_simp; (try rfl)); simp only [pu, sB, s0, sS]
          with_reducible refine wpList_loadV (.tmp 64) (j := 1) (v := .int .i64 n) ?_ ?_ KA4.out ?_ Tryz.underlying3 ?_ ?_
          · rfl
          · rfl
          · exact mO_1
          · rfl
          simp only [pu, sB, s0, sS]
          iterate 3 ((with_reducible refine rN (v := .bool true) ?_ ?_ ?_); (· rfl); (· go_simp; (try with_reducible rfl)); simp only [pu, sB, s0, sS])
          go_upto_region 23 with fail
          refine wp_region_lit ?_
          (with_reducible refine rN (v := .pointer (some ⟨pA, 1, none⟩)) ?_ ?_ ?_); (· rfl); (· go_simp; (try rfl)); simp only [pu, sB, s0, sS]
          with_reducible refine wpList_loadV (.tmp 68) (j := 1) (v := .int .i64 n) ?_ ?_ KA4.out ?_ Tryz.underlying3 ?_ ?_
          · rfl
          · rfl
          · exact mO_1
          · rfl
          simp only [pu, sB, s0, sS]
          (with_reducible refine rN (v := .pointer (some ⟨pU, 1, none⟩)) ?_ ?_ ?_); (· rfl); (· go_simp; (try rfl)); simp only [pu, sB, s0, sS]
          have KU5 := Lib.hid (KU4.out.stored (o := 1) (vs := [.int .i64 n]) (cs' := (mO k n 0 ⟨#[]⟩ cellsZ)) (mO_p1))
          have KA5 := Lib.hid (KA4.out.wholeElse ([.int .i64 n]) (o := 1) NEAU.out)
          have B5 := Lib.hid (below_whole ([.int .i64 n]) (o := 1) B4.out LEU.out)
          with_reducible refine wpList_storeV (.tmp 70) (.tmp 69) (j := 1) (v := .int .i64 n) ?_ ?_ KU4.out ?_ (by kernel_rfl) (by simp [Value.oneCell']) ?_
          · rfl
          · rfl
          · exact (fit_1 (mO_sz cellsZ_size) (by decide))
          (try simp only [Act.put])
          generalize World.setCells _ _ _ _ = w5 at KA5 KU5 B5 ⊢
          clear B4 KA4 KU4
          go_wp2_with fail
          go_meet
          exact ⟨true, _, rfl, (mO_sz cellsZ_size), Lib.hid (IsMid.of (g := Fil.zero) (gs := ⟨#[]⟩) hf rfl (Mo.ok_8 (by have h := hE.out; omega) hK)), KU5, KA5, B5⟩
    have n9 : (k == 9) = false := by simpa using e9
    go_upto_region 21 with fail
    refine wp_region_lit ?_
    iterate 2 ((with_reducible refine rN (v := .bool false) ?_ ?_ ?_); (· rfl); (· go_simp; (try with_reducible rfl)); simp only [pu, sB, s0, sS])
    by_cases e11 : k = 11
    · have ek : (k == 11) = true := by simpa using e11
      have hE := Lib.hid e11
      clear e11
      go_upto_region 24 with fail
      refine wp_region_lit ?_
      iterate 2 ((with_reducible refine rN (v := .bool true) ?_ ?_ ?_); (· rfl); (· go_simp; (try with_reducible rfl)); simp only [pu, sB, s0, sS])
      cases v11 with
      | false =>
        go_upto_region 25 with fail
        refine wp_region_lit ?_
        (with_reducible refine rN (v := .pointer (some ⟨pA, 4, none⟩)) ?_ ?_ ?_); (· rfl); (· go_simp; (try rfl)); simp only [pu, sB, s0, sS]
        with_reducible refine wpList_loadM (.tmp 73) (o := 4) (xs := (cellsF f fs)) ?_ ?_ KA3.out ?_ Tryz.underlying25 ?_ (infoTF16 (cellsF_size f fs)) ?_
        · rfl
        · rfl
        · exact mO_f
        · rfl
        simp only [pu, sB, s0, sS]
        go_wp2_with fail
        refine (H11.out _ B3.out).mono ?_
        rintro e w4 ⟨rfl, hb⟩
        have B4 := Lib.hid (B3.out.trans (hb.mono B3.out.size))
        have KA4 := Lib.hid (KA3.out.below hb KA3.out.lt)
        have KU4 := Lib.hid (KU3.out.below hb KU3.out.lt)
        clear hb
        clear B3 KA3 KU3
        go_simp
        rename_i hKK
        refine hKK _ _ ?_
        clear hKK
        try simp only [pu, sB, s0, sS]
        (with_reducible refine rN (v := .bool false) ?_ ?_ ?_); (· rfl); (· go_simp; (try with_reducible rfl)); simp only [pu, sB, s0, sS]
        go_upto_region 26 with fail
        refine wp_region_lit ?_
        (with_reducible refine rN (v := .pointer (some ⟨pA, 4, none⟩)) ?_ ?_ ?_); (· rfl); (· go_simp; (try rfl)); simp only [pu, sB, s0, sS]
        with_reducible refine wpList_loadM (.tmp 76) (o := 4) (xs := (cellsF f fs)) ?_ ?_ KA4.out ?_ Tryz.underlying25 ?_ (infoTF16 (cellsF_size f fs)) ?_
        · rfl
        · rfl
        · exact mO_f
        · rfl
        simp only [pu, sB, s0, sS]
        (with_reducible refine rN (v := .pointer (some ⟨pU, 4, none⟩)) ?_ ?_ ?_); (· rfl); (· go_simp; (try rfl)); simp only [pu, sB, s0, sS]
        have KU5 := Lib.hid (KU4.out.stored (o := 4) (vs := (cellsF f fs).toList) (cs' := (mO k 0 0 ⟨#[]⟩ (cellsF f fs))) (mO_pf (Eq.trans (cellsF_size f fs) (Eq.symm cellsZ_size))))
        have KA5 := Lib.hid (KA4.out.wholeElse ((cellsF f fs).toList) (o := 4) NEAU.out)
        have B5 := Lib.hid (below_whole ((cellsF f fs).toList) (o := 4) B4.out LEU.out)
        with_reducible refine wpList_storeM (.tmp 78) (.tmp 77) (o := 4) (vs := (cellsF f fs)) ?_ ?_ KU4.out ?_ (infoTF16 (cellsF_size f fs)) (cellsF_one f fs) ?_
        · rfl
        · rfl
        · exact (fit_2 (mO_sz cellsZ_size) (cellsF_size f fs) (by decide))
        (try simp only [Act.put])
        generalize World.setCells _ _ _ _ = w5 at KA5 KU5 B5 ⊢
        clear B4 KA4 KU4
        go_wp2_with fail
        go_meet
        exact ⟨false, _, rfl, (mO_sz (cellsF_size f fs)), Lib.hid (IsMid.of (g := f) (gs := fs) hf hf (Mo.ok_11 (by have h := hE.out; omega) hF)), KU5, KA5, B5⟩
      | true =>
        go_upto_region 25 with fail
        refine wp_region_lit ?_
        (with_reducible refine rN (v := .pointer (some ⟨pA, 4, none⟩)) ?_ ?_ ?_); (· rfl); (· go_simp; (try rfl)); simp only [pu, sB, s0, sS]
        with_reducible refine wpList_loadM (.tmp 73) (o := 4) (xs := (cellsF f fs)) ?_ ?_ KA3.out ?_ Tryz.underlying25 ?_ (infoTF16 (cellsF_size f fs)) ?_
        · rfl
        · rfl
        · exact mO_f
        · rfl
        simp only [pu, sB, s0, sS]
        go_wp2_with fail
        refine (H11.out _ B3.out).mono ?_
        rintro e w4 ⟨rfl, hb⟩
        have B4 := Lib.hid (B3.out.trans (hb.mono B3.out.size))
        have KA4 := Lib.hid (KA3.out.below hb KA3.out.lt)
        have KU4 := Lib.hid (KU3.out.below hb KU3.out.lt)
        clear hb
        clear B3 KA3 KU3
        go_simp
        rename_i hKK
        refine hKK _ _ ?_
        clear hKK
        try simp only [pu, sB, s0, sS]
        (with_reducible refine rN (v := .bool true) ?_ ?_ ?_); (· rfl); (· go_simp; (try with_reducible rfl)); simp only [pu, sB, s0, sS]
        go_upto_region 26 with fail
        refine wp_region_lit ?_
        (with_reducible refine rN (v := .pointer (some ⟨pA, 4, none⟩)) ?_ ?_ ?_); (· rfl); (· go_simp; (try rfl)); simp only [pu, sB, s0, sS]
        with_reducible refine wpList_loadM (.tmp 76) (o := 4) (xs := (cellsF f fs)) ?_ ?_ KA4.out ?_ Tryz.underlying25 ?_ (infoTF16 (cellsF_size f fs)) ?_
        · rfl
        · rfl
        · exact mO_f
        · rfl
        simp only [pu, sB, s0, sS]
        (with_reducible refine rN (v := .pointer (some ⟨pU, 4, none⟩)) ?_ ?_ ?_); (· rfl); (· go_simp; (try rfl)); simp only [pu, sB, s0, sS]
        have KU5 := Lib.hid (KU4.out.stored (o := 4) (vs := (cellsF f fs).toList) (cs' := (mO k 0 0 ⟨#[]⟩ (cellsF f fs))) (mO_pf (Eq.trans (cellsF_size f fs) (Eq.symm cellsZ_size))))
        have KA5 := Lib.hid (KA4.out.wholeElse ((cellsF f fs).toList) (o := 4) NEAU.out)
        have B5 := Lib.hid (below_whole ((cellsF f fs).toList) (o := 4) B4.out LEU.out)
        with_reducible refine wpList_storeM (.tmp 78) (.tmp 77) (o := 4) (vs := (cellsF f fs)) ?_ ?_ KU4.out ?_ (infoTF16 (cellsF_size f fs)) (cellsF_one f fs) ?_
        · rfl
        · rfl
        · exact (fit_2 (mO_sz cellsZ_size) (cellsF_size f fs) (by decide))
        (try simp only [Act.put])
        generalize World.setCells _ _ _ _ = w5 at KA5 KU5 B5 ⊢
        clear B4 KA4 KU4
        go_wp2_with fail
        go_meet
        exact ⟨true, _, rfl, (mO_sz (cellsF_size f fs)), Lib.hid (IsMid.of (g := f) (gs := fs) hf hf (Mo.ok_11 (by have h := hE.out; omega) hF)), KU5, KA5, B5⟩
    have n11 : (k == 11) = false := by simpa using e11
    go_upto_region 24 with fail
    refine wp_region_lit ?_
    iterate 2 ((with_reducible refine rN (v := .bool false) ?_ ?_ ?_); (· rfl); (· go_simp; (try with_reducible rfl)); simp only [pu, sB, s0, sS])
    by_cases e12 : k = 12
    · have ek : (k == 12) = true := by simpa using e12
      have hE := Lib.hid e12
      clear e12
      go_upto_region 27 with fail
      refine wp_region_lit ?_
      iterate 2 ((with_reducible refine rN (v := .bool true) ?_ ?_ ?_); (· rfl); (· go_simp; (try with_reducible rfl)); simp only [pu, sB, s0, sS])
      cases va with
      | false =>
        go_upto_region 28 with fail
        refine wp_region_lit ?_
        (with_reducible refine rN (v := .pointer (some ⟨pA, 1, none⟩)) ?_ ?_ ?_); (· rfl); (· go_simp; (try rfl)); simp only [pu, sB, s0, sS]
        with_reducible refine wpList_loadV (.tmp 81) (j := 1) (v := .int .i64 n) ?_ ?_ KA3.out ?_ Tryz.underlying3 ?_ ?_
        · rfl
        · rfl
        · exact mO_1
        · rfl
        simp only [pu, sB, s0, sS]
        go_wp2_with fail
        refine (Ha.out _ B3.out).mono ?_
        rintro e w4 ⟨rfl, hb⟩
        have B4 := Lib.hid (B3.out.trans (hb.mono B3.out.size))
        have KA4 := Lib.hid (KA3.out.below hb KA3.out.lt)
        have KU4 := Lib.hid (KU3.out.below hb KU3.out.lt)
        clear hb
        clear B3 KA3 KU3
        go_simp
        rename_i hKK
        refine hKK _ _ ?_
        clear hKK
        try simp only [pu, sB, s0, sS]
        (with_reducible refine rN (v := .bool false) ?_ ?_ ?_); (· rfl); (· go_simp; (try with_reducible rfl)); simp only [pu, sB, s0, sS]
        iterate 3 ((with_reducible refine kN ?_ ?_); (· rfl); simp only [pu, sB, s0, sS])
        iterate 2 ((with_reducible refine rN (v := .bool false) ?_ ?_ ?_); (· rfl); (· go_simp; (try with_reducible rfl)); simp only [pu, sB, s0, sS])
        go_upto_region 29 with fail
        have B5 := Lib.hid (B4.out.drew)
        have KA5 := Lib.hid (KA4.out.drew)
        have KU5 := Lib.hid (KU4.out.drew)
        refine wp_region_held_drew (S := (fun W : World => Blk W pA (mO k n m s (cellsF f fs)) 39)) (by kernel_rfl) ?_ (fun hHeld => ?_)
        · exact KA5.out
        generalize World.drew _ = w5 at KA5 KU5 hHeld B5 ⊢
        clear B4 KA4 KU4
        refine take_run 0 (some 89) (v := .pointer (some ⟨pA, 1, none⟩)) rfl rfl (by kernel_rfl) (by kernel_rfl) (by kernel_rfl) (fun _ _ _ h => h) (by rfl) ?_ (by assumption) ?_
        · (intro W hSw; go_simp; (try rfl))
        simp only [pu, sB, s0, sS]
        refine take_loadV 1 (some 90) rfl rfl (by kernel_rfl) (by kernel_rfl) (by kernel_rfl) (fun _ _ _ h => h) (by rfl) (.tmp 89) rfl (b := pA) (j := 1) (cs := (mO k n m s (cellsF f fs))) (v := .int .i64 n) (by rfl) (fun W h => h) mO_1 Tryz.underlying3 rfl (by assumption) ?_
        simp only [pu, sB, s0, sS]
        refine take_run 2 (some 91) (v := .pointer (some ⟨pA, 2, none⟩)) rfl rfl (by kernel_rfl) (by kernel_rfl) (by kernel_rfl) (fun _ _ _ h => h) (by rfl) ?_ (by assumption) ?_
        · (intro W hSw; go_simp; (try rfl))
        simp only [pu, sB, s0, sS]
        refine take_loadV 3 (some 92) rfl rfl (by kernel_rfl) (by kernel_rfl) (by kernel_rfl) (fun _ _ _ h => h) (by rfl) (.tmp 91) rfl (b := pA) (j := 2) (cs := (mO k n m s (cellsF f fs))) (v := .int .i64 m) (by rfl) (fun W h => h) mO_2 Tryz.underlying3 rfl (by assumption) ?_
        simp only [pu, sB, s0, sS]
        refine take_run 4 (some 93) (v := .pointer (some ⟨pU, 1, none⟩)) rfl rfl (by kernel_rfl) (by kernel_rfl) (by kernel_rfl) (fun _ _ _ h => h) (by rfl) ?_ (by assumption) ?_
        · (intro W hSw; go_simp; (try rfl))
        simp only [pu, sB, s0, sS]
        refine wpAnyH_ready (rs := [5]) (by kernel_rfl) (by simp) ?_
        refine AllReadyH.cons rfl (fun Q1 hQ1 => ?_) AllReadyH.nil
        have KU6 := Lib.hid (KU5.out.stored (o := 1) (vs := [.int .i64 n]) (cs' := (mO k n 0 ⟨#[]⟩ cellsZ)) (mO_p1))
        have KA6 := Lib.hid (KA5.out.wholeElse ([.int .i64 n]) (o := 1) NEAU.out)
        have B6 := Lib.hid (below_whole ([.int .i64 n]) (o := 1) B5.out LEU.out)
        refine step_storeV rfl rfl (.tmp 93) (.tmp 90) rfl (b := pU) (j := 1) (v := .int .i64 n) rfl rfl KU5.out (fit_1 (mO_sz cellsZ_size) (by decide)) (by kernel_rfl) (by simp [Value.oneCell']) ?_
        generalize World.setCells _ _ _ _ = w6 at KA6 KU6 B6 ⊢
        clear B5 KA5 KU5
        refine hQ1.out _ _ ?_ (fun hHd1 => ?_)
        · exact KA6.out
        clear hQ1 Q1 hHeld
        refine take_run 6 (some 94) (v := .pointer (some ⟨pU, 2, none⟩)) rfl rfl (by kernel_rfl) (by kernel_rfl) (by kernel_rfl) (fun _ _ _ h => h) (by rfl) ?_ (by assumption) ?_
        · (intro W hSw; go_simp; (try rfl))
        simp only [pu, sB, s0, sS]
        refine wpAnyH_ready (rs := [7]) (by kernel_rfl) (by simp) ?_
        refine AllReadyH.cons rfl (fun Q2 hQ2 => ?_) AllReadyH.nil
        have KU7 := Lib.hid (KU6.out.stored (o := 2) (vs := [.int .i64 m]) (cs' := (mO k n m ⟨#[]⟩ cellsZ)) (mO_p2))
        have KA7 := Lib.hid (KA6.out.wholeElse ([.int .i64 m]) (o := 2) NEAU.out)
        have B7 := Lib.hid (below_whole ([.int .i64 m]) (o := 2) B6.out LEU.out)
        refine step_storeV rfl rfl (.tmp 94) (.tmp 92) rfl (b := pU) (j := 2) (v := .int .i64 m) rfl rfl KU6.out (fit_1 (mO_sz cellsZ_size) (by decide)) (by kernel_rfl) (by simp [Value.oneCell']) ?_
        generalize World.setCells _ _ _ _ = w7 at KA7 KU7 B7 ⊢
        clear B6 KA6 KU6
        refine hQ2.out _ _ ?_ (fun hHd2 => ?_)
        · exact KA7.out
        clear hQ2 Q2 hHd1
        refine wpAnyH_done (by kernel_rfl) ?_ _
        go_wp2_with fail
        go_meet
        exact ⟨false, _, rfl, (mO_sz cellsZ_size), Lib.hid (IsMid.of (g := Fil.zero) (gs := ⟨#[]⟩) hf rfl (Mo.ok_12 (by have h := hE.out; omega) ha hb99)), KU7, KA7, B7⟩
      | true =>
        cases vb with
        | false =>
          go_upto_region 28 with fail
          refine wp_region_lit ?_
          (with_reducible refine rN (v := .pointer (some ⟨pA, 1, none⟩)) ?_ ?_ ?_); (· rfl); (· go_simp; (try rfl)); simp only [pu, sB, s0, sS]
          with_reducible refine wpList_loadV (.tmp 81) (j := 1) (v := .int .i64 n) ?_ ?_ KA3.out ?_ Tryz.underlying3 ?_ ?_
          · rfl
          · rfl
          · exact mO_1
          · rfl
          simp only [pu, sB, s0, sS]
          go_wp2_with fail
          refine (Ha.out _ B3.out).mono ?_
          rintro e w4 ⟨rfl, hb⟩
          have B4 := Lib.hid (B3.out.trans (hb.mono B3.out.size))
          have KA4 := Lib.hid (KA3.out.below hb KA3.out.lt)
          have KU4 := Lib.hid (KU3.out.below hb KU3.out.lt)
          clear hb
          clear B3 KA3 KU3
          go_simp
          rename_i hKK
          refine hKK _ _ ?_
          clear hKK
          try simp only [pu, sB, s0, sS]
          (with_reducible refine rN (v := .bool true) ?_ ?_ ?_); (· rfl); (· go_simp; (try with_reducible rfl)); simp only [pu, sB, s0, sS]
          (with_reducible refine rN (v := .pointer (some ⟨pA, 2, none⟩)) ?_ ?_ ?_); (· rfl); (· go_simp; (try rfl)); simp only [pu, sB, s0, sS]
          with_reducible refine wpList_loadV (.tmp 85) (j := 2) (v := .int .i64 m) ?_ ?_ KA4.out ?_ Tryz.underlying3 ?_ ?_
          · rfl
          · rfl
          · exact mO_2
          · rfl
          simp only [pu, sB, s0, sS]
          go_wp2_with fail
          refine (Hb.out _ B4.out).mono ?_
          rintro e w5 ⟨rfl, hb⟩
          have B5 := Lib.hid (B4.out.trans (hb.mono B4.out.size))
          have KA5 := Lib.hid (KA4.out.below hb KA4.out.lt)
          have KU5 := Lib.hid (KU4.out.below hb KU4.out.lt)
          clear hb
          clear B4 KA4 KU4
          go_simp
          rename_i hKK
          refine hKK _ _ ?_
          clear hKK
          try simp only [pu, sB, s0, sS]
          iterate 2 ((with_reducible refine rN (v := .bool false) ?_ ?_ ?_); (· rfl); (· go_simp; (try with_reducible rfl)); simp only [pu, sB, s0, sS])
          go_upto_region 29 with fail
          have B6 := Lib.hid (B5.out.drew)
          have KA6 := Lib.hid (KA5.out.drew)
          have KU6 := Lib.hid (KU5.out.drew)
          refine wp_region_held_drew (S := (fun W : World => Blk W pA (mO k n m s (cellsF f fs)) 39)) (by kernel_rfl) ?_ (fun hHeld => ?_)
          · exact KA6.out
          generalize World.drew _ = w6 at KA6 KU6 hHeld B6 ⊢
          clear B5 KA5 KU5
          refine take_run 0 (some 89) (v := .pointer (some ⟨pA, 1, none⟩)) rfl rfl (by kernel_rfl) (by kernel_rfl) (by kernel_rfl) (fun _ _ _ h => h) (by rfl) ?_ (by assumption) ?_
          · (intro W hSw; go_simp; (try rfl))
          simp only [pu, sB, s0, sS]
          refine take_loadV 1 (some 90) rfl rfl (by kernel_rfl) (by kernel_rfl) (by kernel_rfl) (fun _ _ _ h => h) (by rfl) (.tmp 89) rfl (b := pA) (j := 1) (cs := (mO k n m s (cellsF f fs))) (v := .int .i64 n) (by rfl) (fun W h => h) mO_1 Tryz.underlying3 rfl (by assumption) ?_
          simp only [pu, sB, s0, sS]
          refine take_run 2 (some 91) (v := .pointer (some ⟨pA, 2, none⟩)) rfl rfl (by kernel_rfl) (by kernel_rfl) (by kernel_rfl) (fun _ _ _ h => h) (by rfl) ?_ (by assumption) ?_
          · (intro W hSw; go_simp; (try rfl))
          simp only [pu, sB, s0, sS]
          refine take_loadV 3 (some 92) rfl rfl (by kernel_rfl) (by kernel_rfl) (by kernel_rfl) (fun _ _ _ h => h) (by rfl) (.tmp 91) rfl (b := pA) (j := 2) (cs := (mO k n m s (cellsF f fs))) (v := .int .i64 m) (by rfl) (fun W h => h) mO_2 Tryz.underlying3 rfl (by assumption) ?_
          simp only [pu, sB, s0, sS]
          refine take_run 4 (some 93) (v := .pointer (some ⟨pU, 1, none⟩)) rfl rfl (by kernel_rfl) (by kernel_rfl) (by kernel_rfl) (fun _ _ _ h => h) (by rfl) ?_ (by assumption) ?_
          · (intro W hSw; go_simp; (try rfl))
          simp only [pu, sB, s0, sS]
          refine wpAnyH_ready (rs := [5]) (by kernel_rfl) (by simp) ?_
          refine AllReadyH.cons rfl (fun Q1 hQ1 => ?_) AllReadyH.nil
          have KU7 := Lib.hid (KU6.out.stored (o := 1) (vs := [.int .i64 n]) (cs' := (mO k n 0 ⟨#[]⟩ cellsZ)) (mO_p1))
          have KA7 := Lib.hid (KA6.out.wholeElse ([.int .i64 n]) (o := 1) NEAU.out)
          have B7 := Lib.hid (below_whole ([.int .i64 n]) (o := 1) B6.out LEU.out)
          refine step_storeV rfl rfl (.tmp 93) (.tmp 90) rfl (b := pU) (j := 1) (v := .int .i64 n) rfl rfl KU6.out (fit_1 (mO_sz cellsZ_size) (by decide)) (by kernel_rfl) (by simp [Value.oneCell']) ?_
          generalize World.setCells _ _ _ _ = w7 at KA7 KU7 B7 ⊢
          clear B6 KA6 KU6
          refine hQ1.out _ _ ?_ (fun hHd1 => ?_)
          · exact KA7.out
          clear hQ1 Q1 hHeld
          refine take_run 6 (some 94) (v := .pointer (some ⟨pU, 2, none⟩)) rfl rfl (by kernel_rfl) (by kernel_rfl) (by kernel_rfl) (fun _ _ _ h => h) (by rfl) ?_ (by assumption) ?_
          · (intro W hSw; go_simp; (try rfl))
          simp only [pu, sB, s0, sS]
          refine wpAnyH_ready (rs := [7]) (by kernel_rfl) (by simp) ?_
          refine AllReadyH.cons rfl (fun Q2 hQ2 => ?_) AllReadyH.nil
          have KU8 := Lib.hid (KU7.out.stored (o := 2) (vs := [.int .i64 m]) (cs' := (mO k n m ⟨#[]⟩ cellsZ)) (mO_p2))
          have KA8 := Lib.hid (KA7.out.wholeElse ([.int .i64 m]) (o := 2) NEAU.out)
          have B8 := Lib.hid (below_whole ([.int .i64 m]) (o := 2) B7.out LEU.out)
          refine step_storeV rfl rfl (.tmp 94) (.tmp 92) rfl (b := pU) (j := 2) (v := .int .i64 m) rfl rfl KU7.out (fit_1 (mO_sz cellsZ_size) (by decide)) (by kernel_rfl) (by simp [Value.oneCell']) ?_
          generalize World.setCells _ _ _ _ = w8 at KA8 KU8 B8 ⊢
          clear B7 KA7 KU7
          refine hQ2.out _ _ ?_ (fun hHd2 => ?_)
          · exact KA8.out
          clear hQ2 Q2 hHd1
          refine wpAnyH_done (by kernel_rfl) ?_ _
          go_wp2_with fail
          go_meet
          exact ⟨false, _, rfl, (mO_sz cellsZ_size), Lib.hid (IsMid.of (g := Fil.zero) (gs := ⟨#[]⟩) hf rfl (Mo.ok_12 (by have h := hE.out; omega) ha hb99)), KU8, KA8, B8⟩
        | true =>
          go_upto_region 28 with fail
          refine wp_region_lit ?_
          (with_reducible refine rN (v := .pointer (some ⟨pA, 1, none⟩)) ?_ ?_ ?_); (· rfl); (· go_simp; (try rfl)); simp only [pu, sB, s0, sS]
          with_reducible refine wpList_loadV (.tmp 81) (j := 1) (v := .int .i64 n) ?_ ?_ KA3.out ?_ Tryz.underlying3 ?_ ?_
          · rfl
          · rfl
          · exact mO_1
          · rfl
          simp only [pu, sB, s0, sS]
          go_wp2_with fail
          refine (Ha.out _ B3.out).mono ?_
          rintro e w4 ⟨rfl, hb⟩
          have B4 := Lib.hid (B3.out.trans (hb.mono B3.out.size))
          have KA4 := Lib.hid (KA3.out.below hb KA3.out.lt)
          have KU4 := Lib.hid (KU3.out.below hb KU3.out.lt)
          clear hb
          clear B3 KA3 KU3
          go_simp
          rename_i hKK
          refine hKK _ _ ?_
          clear hKK
          try simp only [pu, sB, s0, sS]
          (with_reducible refine rN (v := .bool true) ?_ ?_ ?_); (· rfl); (· go_simp; (try with_reducible rfl)); simp only [pu, sB, s0, sS]
          (with_reducible refine rN (v := .pointer (some ⟨pA, 2, none⟩)) ?_ ?_ ?_); (· rfl); (· go_simp; (try rfl)); simp only [pu, sB, s0, sS]
          with_reducible refine wpList_loadV (.tmp 85) (j := 2) (v := .int .i64 m) ?_ ?_ KA4.out ?_ Tryz.underlying3 ?_ ?_
          · rfl
          · rfl
          · exact mO_2
          · rfl
          simp only [pu, sB, s0, sS]
          go_wp2_with fail
          refine (Hb.out _ B4.out).mono ?_
          rintro e w5 ⟨rfl, hb⟩
          have B5 := Lib.hid (B4.out.trans (hb.mono B4.out.size))
          have KA5 := Lib.hid (KA4.out.below hb KA4.out.lt)
          have KU5 := Lib.hid (KU4.out.below hb KU4.out.lt)
          clear hb
          clear B4 KA4 KU4
          go_simp
          rename_i hKK
          refine hKK _ _ ?_
          clear hKK
          try simp only [pu, sB, s0, sS]
          iterate 2 ((with_reducible refine rN (v := .bool true) ?_ ?_ ?_); (· rfl); (· go_simp; (try with_reducible rfl)); simp only [pu, sB, s0, sS])
          go_upto_region 29 with fail
          have B6 := Lib.hid (B5.out.drew)
          have KA6 := Lib.hid (KA5.out.drew)
          have KU6 := Lib.hid (KU5.out.drew)
          refine wp_region_held_drew (S := (fun W : World => Blk W pA (mO k n m s (cellsF f fs)) 39)) (by kernel_rfl) ?_ (fun hHeld => ?_)
          · exact KA6.out
          generalize World.drew _ = w6 at KA6 KU6 hHeld B6 ⊢
          clear B5 KA5 KU5
          refine take_run 0 (some 89) (v := .pointer (some ⟨pA, 1, none⟩)) rfl rfl (by kernel_rfl) (by kernel_rfl) (by kernel_rfl) (fun _ _ _ h => h) (by rfl) ?_ (by assumption) ?_
          · (intro W hSw; go_simp; (try rfl))
          simp only [pu, sB, s0, sS]
          refine take_loadV 1 (some 90) rfl rfl (by kernel_rfl) (by kernel_rfl) (by kernel_rfl) (fun _ _ _ h => h) (by rfl) (.tmp 89) rfl (b := pA) (j := 1) (cs := (mO k n m s (cellsF f fs))) (v := .int .i64 n) (by rfl) (fun W h => h) mO_1 Tryz.underlying3 rfl (by assumption) ?_
          simp only [pu, sB, s0, sS]
          refine take_run 2 (some 91) (v := .pointer (some ⟨pA, 2, none⟩)) rfl rfl (by kernel_rfl) (by kernel_rfl) (by kernel_rfl) (fun _ _ _ h => h) (by rfl) ?_ (by assumption) ?_
          · (intro W hSw; go_simp; (try rfl))
          simp only [pu, sB, s0, sS]
          refine take_loadV 3 (some 92) rfl rfl (by kernel_rfl) (by kernel_rfl) (by kernel_rfl) (fun _ _ _ h => h) (by rfl) (.tmp 91) rfl (b := pA) (j := 2) (cs := (mO k n m s (cellsF f fs))) (v := .int .i64 m) (by rfl) (fun W h => h) mO_2 Tryz.underlying3 rfl (by assumption) ?_
          simp only [pu, sB, s0, sS]
          refine take_run 4 (some 93) (v := .pointer (some ⟨pU, 1, none⟩)) rfl rfl (by kernel_rfl) (by kernel_rfl) (by kernel_rfl) (fun _ _ _ h => h) (by rfl) ?_ (by assumption) ?_
          · (intro W hSw; go_simp; (try rfl))
          simp only [pu, sB, s0, sS]
          refine wpAnyH_ready (rs := [5]) (by kernel_rfl) (by simp) ?_
          refine AllReadyH.cons rfl (fun Q1 hQ1 => ?_) AllReadyH.nil
          have KU7 := Lib.hid (KU6.out.stored (o := 1) (vs := [.int .i64 n]) (cs' := (mO k n 0 ⟨#[]⟩ cellsZ)) (mO_p1))
          have KA7 := Lib.hid (KA6.out.wholeElse ([.int .i64 n]) (o := 1) NEAU.out)
          have B7 := Lib.hid (below_whole ([.int .i64 n]) (o := 1) B6.out LEU.out)
          refine step_storeV rfl rfl (.tmp 93) (.tmp 90) rfl (b := pU) (j := 1) (v := .int .i64 n) rfl rfl KU6.out (fit_1 (mO_sz cellsZ_size) (by decide)) (by kernel_rfl) (by simp [Value.oneCell']) ?_
          generalize World.setCells _ _ _ _ = w7 at KA7 KU7 B7 ⊢
          clear B6 KA6 KU6
          refine hQ1.out _ _ ?_ (fun hHd1 => ?_)
          · exact KA7.out
          clear hQ1 Q1 hHeld
          refine take_run 6 (some 94) (v := .pointer (some ⟨pU, 2, none⟩)) rfl rfl (by kernel_rfl) (by kernel_rfl) (by kernel_rfl) (fun _ _ _ h => h) (by rfl) ?_ (by assumption) ?_
          · (intro W hSw; go_simp; (try rfl))
          simp only [pu, sB, s0, sS]
          refine wpAnyH_ready (rs := [7]) (by kernel_rfl) (by simp) ?_
          refine AllReadyH.cons rfl (fun Q2 hQ2 => ?_) AllReadyH.nil
          have KU8 := Lib.hid (KU7.out.stored (o := 2) (vs := [.int .i64 m]) (cs' := (mO k n m ⟨#[]⟩ cellsZ)) (mO_p2))
          have KA8 := Lib.hid (KA7.out.wholeElse ([.int .i64 m]) (o := 2) NEAU.out)
          have B8 := Lib.hid (below_whole ([.int .i64 m]) (o := 2) B7.out LEU.out)
          refine step_storeV rfl rfl (.tmp 94) (.tmp 92) rfl (b := pU) (j := 2) (v := .int .i64 m) rfl rfl KU7.out (fit_1 (mO_sz cellsZ_size) (by decide)) (by kernel_rfl) (by simp [Value.oneCell']) ?_
          generalize World.setCells _ _ _ _ = w8 at KA8 KU8 B8 ⊢
          clear B7 KA7 KU7
          refine hQ2.out _ _ ?_ (fun hHd2 => ?_)
          · exact KA8.out
          clear hQ2 Q2 hHd1
          refine wpAnyH_done (by kernel_rfl) ?_ _
          go_wp2_with fail
          go_meet
          exact ⟨true, _, rfl, (mO_sz cellsZ_size), Lib.hid (IsMid.of (g := Fil.zero) (gs := ⟨#[]⟩) hf rfl (Mo.ok_12 (by have h := hE.out; omega) ha hb99)), KU8, KA8, B8⟩
    have n12 : (k == 12) = false := by simpa using e12
    go_upto_region 27 with fail
    refine wp_region_lit ?_
    iterate 2 ((with_reducible refine rN (v := .bool false) ?_ ?_ ?_); (· rfl); (· go_simp; (try with_reducible rfl)); simp only [pu, sB, s0, sS])
    by_cases e13 : k = 13
    · have ek : (k == 13) = true := by simpa using e13
      have hE := Lib.hid e13
      clear e13
      go_upto_region 30 with fail
      refine wp_region_lit ?_
      iterate 2 ((with_reducible refine rN (v := .bool true) ?_ ?_ ?_); (· rfl); (· go_simp; (try with_reducible rfl)); simp only [pu, sB, s0, sS])
      cases vc with
      | false =>
        go_upto_region 31 with fail
        refine wp_region_lit ?_
        (with_reducible refine rN (v := .pointer (some ⟨pA, 1, none⟩)) ?_ ?_ ?_); (· rfl); (· go_simp; (try rfl)); simp only [pu, sB, s0, sS]
        with_reducible refine wpList_loadV (.tmp 97) (j := 1) (v := .int .i64 n) ?_ ?_ KA3.out ?_ Tryz.underlying3 ?_ ?_
        · rfl
        · rfl
        · exact mO_1
        · rfl
        simp only [pu, sB, s0, sS]
        go_wp2_with fail
        refine (Hc.out _ B3.out).mono ?_
        rintro e w4 ⟨rfl, hb⟩
        have B4 := Lib.hid (B3.out.trans (hb.mono B3.out.size))
        have KA4 := Lib.hid (KA3.out.below hb KA3.out.lt)
        have KU4 := Lib.hid (KU3.out.below hb KU3.out.lt)
        clear hb
        clear B3 KA3 KU3
        go_simp
        rename_i hKK
        refine hKK _ _ ?_
        clear hKK
        try simp only [pu, sB, s0, sS]
        (with_reducible refine rN (v := .bool false) ?_ ?_ ?_); (· rfl); (· go_simp; (try with_reducible rfl)); simp only [pu, sB, s0, sS]
        iterate 3 ((with_reducible refine kN ?_ ?_); (· rfl); simp only [pu, sB, s0, sS])
        iterate 2 ((with_reducible refine rN (v := .bool false) ?_ ?_ ?_); (· rfl); (· go_simp; (try with_reducible rfl)); simp only [pu, sB, s0, sS])
        go_upto_region 32 with fail
        have B5 := Lib.hid (B4.out.drew)
        have KA5 := Lib.hid (KA4.out.drew)
        have KU5 := Lib.hid (KU4.out.drew)
        refine wp_region_held_drew (S := (fun W : World => Blk W pA (mO k n m s (cellsF f fs)) 39)) (by kernel_rfl) ?_ (fun hHeld => ?_)
        · exact KA5.out
        generalize World.drew _ = w5 at KA5 KU5 hHeld B5 ⊢
        clear B4 KA4 KU4
        refine take_run 0 (some 105) (v := .pointer (some ⟨pA, 1, none⟩)) rfl rfl (by kernel_rfl) (by kernel_rfl) (by kernel_rfl) (fun _ _ _ h => h) (by rfl) ?_ (by assumption) ?_
        · (intro W hSw; go_simp; (try rfl))
        simp only [pu, sB, s0, sS]
        refine take_loadV 1 (some 106) rfl rfl (by kernel_rfl) (by kernel_rfl) (by kernel_rfl) (fun _ _ _ h => h) (by rfl) (.tmp 105) rfl (b := pA) (j := 1) (cs := (mO k n m s (cellsF f fs))) (v := .int .i64 n) (by rfl) (fun W h => h) mO_1 Tryz.underlying3 rfl (by assumption) ?_
        simp only [pu, sB, s0, sS]
        refine take_run 2 (some 107) (v := .pointer (some ⟨pA, 2, none⟩)) rfl rfl (by kernel_rfl) (by kernel_rfl) (by kernel_rfl) (fun _ _ _ h => h) (by rfl) ?_ (by assumption) ?_
        · (intro W hSw; go_simp; (try rfl))
        simp only [pu, sB, s0, sS]
        refine take_loadV 3 (some 108) rfl rfl (by kernel_rfl) (by kernel_rfl) (by kernel_rfl) (fun _ _ _ h => h) (by rfl) (.tmp 107) rfl (b := pA) (j := 2) (cs := (mO k n m s (cellsF f fs))) (v := .int .i64 m) (by rfl) (fun W h => h) mO_2 Tryz.underlying3 rfl (by assumption) ?_
        simp only [pu, sB, s0, sS]
        refine take_run 4 (some 109) (v := .pointer (some ⟨pU, 1, none⟩)) rfl rfl (by kernel_rfl) (by kernel_rfl) (by kernel_rfl) (fun _ _ _ h => h) (by rfl) ?_ (by assumption) ?_
        · (intro W hSw; go_simp; (try rfl))
        simp only [pu, sB, s0, sS]
        refine wpAnyH_ready (rs := [5]) (by kernel_rfl) (by simp) ?_
        refine AllReadyH.cons rfl (fun Q1 hQ1 => ?_) AllReadyH.nil
        have KU6 := Lib.hid (KU5.out.stored (o := 1) (vs := [.int .i64 n]) (cs' := (mO k n 0 ⟨#[]⟩ cellsZ)) (mO_p1))
        have KA6 := Lib.hid (KA5.out.wholeElse ([.int .i64 n]) (o := 1) NEAU.out)
        have B6 := Lib.hid (below_whole ([.int .i64 n]) (o := 1) B5.out LEU.out)
        refine step_storeV rfl rfl (.tmp 109) (.tmp 106) rfl (b := pU) (j := 1) (v := .int .i64 n) rfl rfl KU5.out (fit_1 (mO_sz cellsZ_size) (by decide)) (by kernel_rfl) (by simp [Value.oneCell']) ?_
        generalize World.setCells _ _ _ _ = w6 at KA6 KU6 B6 ⊢
        clear B5 KA5 KU5
        refine hQ1.out _ _ ?_ (fun hHd1 => ?_)
        · exact KA6.out
        clear hQ1 Q1 hHeld
        refine take_run 6 (some 110) (v := .pointer (some ⟨pU, 2, none⟩)) rfl rfl (by kernel_rfl) (by kernel_rfl) (by kernel_rfl) (fun _ _ _ h => h) (by rfl) ?_ (by assumption) ?_
        · (intro W hSw; go_simp; (try rfl))
        simp only [pu, sB, s0, sS]
        refine wpAnyH_ready (rs := [7]) (by kernel_rfl) (by simp) ?_
        refine AllReadyH.cons rfl (fun Q2 hQ2 => ?_) AllReadyH.nil
        have KU7 := Lib.hid (KU6.out.stored (o := 2) (vs := [.int .i64 m]) (cs' := (mO k n m ⟨#[]⟩ cellsZ)) (mO_p2))
        have KA7 := Lib.hid (KA6.out.wholeElse ([.int .i64 m]) (o := 2) NEAU.out)
        have B7 := Lib.hid (below_whole ([.int .i64 m]) (o := 2) B6.out LEU.out)
        refine step_storeV rfl rfl (.tmp 110) (.tmp 108) rfl (b := pU) (j := 2) (v := .int .i64 m) rfl rfl KU6.out (fit_1 (mO_sz cellsZ_size) (by decide)) (by kernel_rfl) (by simp [Value.oneCell']) ?_
        generalize World.setCells _ _ _ _ = w7 at KA7 KU7 B7 ⊢
        clear B6 KA6 KU6
        refine hQ2.out _ _ ?_ (fun hHd2 => ?_)
        · exact KA7.out
        clear hQ2 Q2 hHd1
        refine wpAnyH_done (by kernel_rfl) ?_ _
        go_wp2_with fail
        go_meet
        exact ⟨false, _, rfl, (mO_sz cellsZ_size), Lib.hid (IsMid.of (g := Fil.zero) (gs := ⟨#[]⟩) hf rfl (Mo.ok_13 (by have h := hE.out; omega) hc hd)), KU7, KA7, B7⟩
      | true =>
        cases vd with
        | false =>
          go_upto_region 31 with fail
          refine wp_region_lit ?_
          (with_reducible refine rN (v := .pointer (some ⟨pA, 1, none⟩)) ?_ ?_ ?_); (· rfl); (· go_simp; (try rfl)); simp only [pu, sB, s0, sS]
          with_reducible refine wpList_loadV (.tmp 97) (j := 1) (v := .int .i64 n) ?_ ?_ KA3.out ?_ Tryz.underlying3 ?_ ?_
          · rfl
          · rfl
          · exact mO_1
          · rfl
          simp only [pu, sB, s0, sS]
          go_wp2_with fail
          refine (Hc.out _ B3.out).mono ?_
          rintro e w4 ⟨rfl, hb⟩
          have B4 := Lib.hid (B3.out.trans (hb.mono B3.out.size))
          have KA4 := Lib.hid (KA3.out.below hb KA3.out.lt)
          have KU4 := Lib.hid (KU3.out.below hb KU3.out.lt)
          clear hb
          clear B3 KA3 KU3
          go_simp
          rename_i hKK
          refine hKK _ _ ?_
          clear hKK
          try simp only [pu, sB, s0, sS]
          (with_reducible refine rN (v := .bool true) ?_ ?_ ?_); (· rfl); (· go_simp; (try with_reducible rfl)); simp only [pu, sB, s0, sS]
          (with_reducible refine rN (v := .pointer (some ⟨pA, 2, none⟩)) ?_ ?_ ?_); (· rfl); (· go_simp; (try rfl)); simp only [pu, sB, s0, sS]
          with_reducible refine wpList_loadV (.tmp 101) (j := 2) (v := .int .i64 m) ?_ ?_ KA4.out ?_ Tryz.underlying3 ?_ ?_
          · rfl
          · rfl
          · exact mO_2
          · rfl
          simp only [pu, sB, s0, sS]
          go_wp2_with fail
          refine (Hd.out _ B4.out).mono ?_
          rintro e w5 ⟨rfl, hb⟩
          have B5 := Lib.hid (B4.out.trans (hb.mono B4.out.size))
          have KA5 := Lib.hid (KA4.out.below hb KA4.out.lt)
          have KU5 := Lib.hid (KU4.out.below hb KU4.out.lt)
          clear hb
          clear B4 KA4 KU4
          go_simp
          rename_i hKK
          refine hKK _ _ ?_
          clear hKK
          try simp only [pu, sB, s0, sS]
          iterate 2 ((with_reducible refine rN (v := .bool false) ?_ ?_ ?_); (· rfl); (· go_simp; (try with_reducible rfl)); simp only [pu, sB, s0, sS])
          go_upto_region 32 with fail
          have B6 := Lib.hid (B5.out.drew)
          have KA6 := Lib.hid (KA5.out.drew)
          have KU6 := Lib.hid (KU5.out.drew)
          refine wp_region_held_drew (S := (fun W : World => Blk W pA (mO k n m s (cellsF f fs)) 39)) (by kernel_rfl) ?_ (fun hHeld => ?_)
          · exact KA6.out
          generalize World.drew _ = w6 at KA6 KU6 hHeld B6 ⊢
          clear B5 KA5 KU5
          refine take_run 0 (some 105) (v := .pointer (some ⟨pA, 1, none⟩)) rfl rfl (by kernel_rfl) (by kernel_rfl) (by kernel_rfl) (fun _ _ _ h => h) (by rfl) ?_ (by assumption) ?_
          · (intro W hSw; go_simp; (try rfl))
          simp only [pu, sB, s0, sS]
          refine take_loadV 1 (some 106) rfl rfl (by kernel_rfl) (by kernel_rfl) (by kernel_rfl) (fun _ _ _ h => h) (by rfl) (.tmp 105) rfl (b := pA) (j := 1) (cs := (mO k n m s (cellsF f fs))) (v := .int .i64 n) (by rfl) (fun W h => h) mO_1 Tryz.underlying3 rfl (by assumption) ?_
          simp only [pu, sB, s0, sS]
          refine take_run 2 (some 107) (v := .pointer (some ⟨pA, 2, none⟩)) rfl rfl (by kernel_rfl) (by kernel_rfl) (by kernel_rfl) (fun _ _ _ h => h) (by rfl) ?_ (by assumption) ?_
          · (intro W hSw; go_simp; (try rfl))
          simp only [pu, sB, s0, sS]
          refine take_loadV 3 (some 108) rfl rfl (by kernel_rfl) (by kernel_rfl) (by kernel_rfl) (fun _ _ _ h => h) (by rfl) (.tmp 107) rfl (b := pA) (j := 2) (cs := (mO k n m s (cellsF f fs))) (v := .int .i64 m) (by rfl) (fun W h => h) mO_2 Tryz.underlying3 rfl (by assumption) ?_
          simp only [pu, sB, s0, sS]
          refine take_run 4 (some 109) (v := .pointer (some ⟨pU, 1, none⟩)) rfl rfl (by kernel_rfl) (by kernel_rfl) (by kernel_rfl) (fun _ _ _ h => h) (by rfl) ?_ (by assumption) ?_
          · (intro W hSw; go_simp; (try rfl))
          simp only [pu, sB, s0, sS]
          refine wpAnyH_ready (rs := [5]) (by kernel_rfl) (by simp) ?_
          refine AllReadyH.cons rfl (fun Q1 hQ1 => ?_) AllReadyH.nil
          have KU7 := Lib.hid (KU6.out.stored (o := 1) (vs := [.int .i64 n]) (cs' := (mO k n 0 ⟨#[]⟩ cellsZ)) (mO_p1))
          have KA7 := Lib.hid (KA6.out.wholeElse ([.int .i64 n]) (o := 1) NEAU.out)
          have B7 := Lib.hid (below_whole ([.int .i64 n]) (o := 1) B6.out LEU.out)
          refine step_storeV rfl rfl (.tmp 109) (.tmp 106) rfl (b := pU) (j := 1) (v := .int .i64 n) rfl rfl KU6.out (fit_1 (mO_sz cellsZ_size) (by decide)) (by kernel_rfl) (by simp [Value.oneCell']) ?_
          generalize World.setCells _ _ _ _ = w7 at KA7 KU7 B7 ⊢
          clear B6 KA6 KU6
          refine hQ1.out _ _ ?_ (fun hHd1 => ?_)
          · exact KA7.out
          clear hQ1 Q1 hHeld
          refine take_run 6 (some 110) (v := .pointer (some ⟨pU, 2, none⟩)) rfl rfl (by kernel_rfl) (by kernel_rfl) (by kernel_rfl) (fun _ _ _ h => h) (by rfl) ?_ (by assumption) ?_
          · (intro W hSw; go_simp; (try rfl))
          simp only [pu, sB, s0, sS]
          refine wpAnyH_ready (rs := [7]) (by kernel_rfl) (by simp) ?_
          refine AllReadyH.cons rfl (fun Q2 hQ2 => ?_) AllReadyH.nil
          have KU8 := Lib.hid (KU7.out.stored (o := 2) (vs := [.int .i64 m]) (cs' := (mO k n m ⟨#[]⟩ cellsZ)) (mO_p2))
          have KA8 := Lib.hid (KA7.out.wholeElse ([.int .i64 m]) (o := 2) NEAU.out)
          have B8 := Lib.hid (below_whole ([.int .i64 m]) (o := 2) B7.out LEU.out)
          refine step_storeV rfl rfl (.tmp 110) (.tmp 108) rfl (b := pU) (j := 2) (v := .int .i64 m) rfl rfl KU7.out (fit_1 (mO_sz cellsZ_size) (by decide)) (by kernel_rfl) (by simp [Value.oneCell']) ?_
          generalize World.setCells _ _ _ _ = w8 at KA8 KU8 B8 ⊢
          clear B7 KA7 KU7
          refine hQ2.out _ _ ?_ (fun hHd2 => ?_)
          · exact KA8.out
          clear hQ2 Q2 hHd1
          refine wpAnyH_done (by kernel_rfl) ?_ _
          go_wp2_with fail
          go_meet
          exact ⟨false, _, rfl, (mO_sz cellsZ_size), Lib.hid (IsMid.of (g := Fil.zero) (gs := ⟨#[]⟩) hf rfl (Mo.ok_13 (by have h := hE.out; omega) hc hd)), KU8, KA8, B8⟩
        | true =>
          go_upto_region 31 with fail
          refine wp_region_lit ?_
          (with_reducible refine rN (v := .pointer (some ⟨pA, 1, none⟩)) ?_ ?_ ?_); (· rfl); (· go_simp; (try rfl)); simp only [pu, sB, s0, sS]
          with_reducible refine wpList_loadV (.tmp 97) (j := 1) (v := .int .i64 n) ?_ ?_ KA3.out ?_ Tryz.underlying3 ?_ ?_
          · rfl
          · rfl
          · exact mO_1
          · rfl
          simp only [pu, sB, s0, sS]
          go_wp2_with fail
          refine (Hc.out _ B3.out).mono ?_
          rintro e w4 ⟨rfl, hb⟩
          have B4 := Lib.hid (B3.out.trans (hb.mono B3.out.size))
          have KA4 := Lib.hid (KA3.out.below hb KA3.out.lt)
          have KU4 := Lib.hid (KU3.out.below hb KU3.out.lt)
          clear hb
          clear B3 KA3 KU3
          go_simp
          rename_i hKK
          refine hKK _ _ ?_
          clear hKK
          try simp only [pu, sB, s0, sS]
          (with_reducible refine rN (v := .bool true) ?_ ?_ ?_); (· rfl); (· go_simp; (try with_reducible rfl)); simp only [pu, sB, s0, sS]
          (with_reducible refine rN (v := .pointer (some ⟨pA, 2, none⟩)) ?_ ?_ ?_); (· rfl); (· go_simp; (try rfl)); simp only [pu, sB, s0, sS]
          with_reducible refine wpList_loadV (.tmp 101) (j := 2) (v := .int .i64 m) ?_ ?_ KA4.out ?_ Tryz.underlying3 ?_ ?_
          · rfl
          · rfl
          · exact mO_2
          · rfl
          simp only [pu, sB, s0, sS]
          go_wp2_with fail
          refine (Hd.out _ B4.out).mono ?_
          rintro e w5 ⟨rfl, hb⟩
          have B5 := Lib.hid (B4.out.trans (hb.mono B4.out.size))
          have KA5 := Lib.hid (KA4.out.below hb KA4.out.lt)
          have KU5 := Lib.hid (KU4.out.below hb KU4.out.lt)
          clear hb
          clear B4 KA4 KU4
          go_simp
          rename_i hKK
          refine hKK _ _ ?_
          clear hKK
          try simp only [pu, sB, s0, sS]
          iterate 2 ((with_reducible refine rN (v := .bool true) ?_ ?_ ?_); (· rfl); (· go_simp; (try with_reducible rfl)); simp only [pu, sB, s0, sS])
          go_upto_region 32 with fail
          have B6 := Lib.hid (B5.out.drew)
          have KA6 := Lib.hid (KA5.out.drew)
          have KU6 := Lib.hid (KU5.out.drew)
          refine wp_region_held_drew (S := (fun W : World => Blk W pA (mO k n m s (cellsF f fs)) 39)) (by kernel_rfl) ?_ (fun hHeld => ?_)
          · exact KA6.out
          generalize World.drew _ = w6 at KA6 KU6 hHeld B6 ⊢
          clear B5 KA5 KU5
          refine take_run 0 (some 105) (v := .pointer (some ⟨pA, 1, none⟩)) rfl rfl (by kernel_rfl) (by kernel_rfl) (by kernel_rfl) (fun _ _ _ h => h) (by rfl) ?_ (by assumption) ?_
          · (intro W hSw; go_simp; (try rfl))
          simp only [pu, sB, s0, sS]
          refine take_loadV 1 (some 106) rfl rfl (by kernel_rfl) (by kernel_rfl) (by kernel_rfl) (fun _ _ _ h => h) (by rfl) (.tmp 105) rfl (b := pA) (j := 1) (cs := (mO k n m s (cellsF f fs))) (v := .int .i64 n) (by rfl) (fun W h => h) mO_1 Tryz.underlying3 rfl (by assumption) ?_
          simp only [pu, sB, s0, sS]
          refine take_run 2 (some 107) (v := .pointer (some ⟨pA, 2, none⟩)) rfl rfl (by kernel_rfl) (by kernel_rfl) (by kernel_rfl) (fun _ _ _ h => h) (by rfl) ?_ (by assumption) ?_
          · (intro W hSw; go_simp; (try rfl))
          simp only [pu, sB, s0, sS]
          refine take_loadV 3 (some 108) rfl rfl (by kernel_rfl) (by kernel_rfl) (by kernel_rfl) (fun _ _ _ h => h) (by rfl) (.tmp 107) rfl (b := pA) (j := 2) (cs := (mO k n m s (cellsF f fs))) (v := .int .i64 m) (by rfl) (fun W h => h) mO_2 Tryz.underlying3 rfl (by assumption) ?_
          simp only [pu, sB, s0, sS]
          refine take_run 4 (some 109) (v := .pointer (some ⟨pU, 1, none⟩)) rfl rfl (by kernel_rfl) (by kernel_rfl) (by kernel_rfl) (fun _ _ _ h => h) (by rfl) ?_ (by assumption) ?_
          · (intro W hSw; go_simp; (try rfl))
          simp only [pu, sB, s0, sS]
          refine wpAnyH_ready (rs := [5]) (by kernel_rfl) (by simp) ?_
          refine AllReadyH.cons rfl (fun Q1 hQ1 => ?_) AllReadyH.nil
          have KU7 := Lib.hid (KU6.out.stored (o := 1) (vs := [.int .i64 n]) (cs' := (mO k n 0 ⟨#[]⟩ cellsZ)) (mO_p1))
          have KA7 := Lib.hid (KA6.out.wholeElse ([.int .i64 n]) (o := 1) NEAU.out)
          have B7 := Lib.hid (below_whole ([.int .i64 n]) (o := 1) B6.out LEU.out)
          refine step_storeV rfl rfl (.tmp 109) (.tmp 106) rfl (b := pU) (j := 1) (v := .int .i64 n) rfl rfl KU6.out (fit_1 (mO_sz cellsZ_size) (by decide)) (by kernel_rfl) (by simp [Value.oneCell']) ?_
          generalize World.setCells _ _ _ _ = w7 at KA7 KU7 B7 ⊢
          clear B6 KA6 KU6
          refine hQ1.out _ _ ?_ (fun hHd1 => ?_)
          · exact KA7.out
          clear hQ1 Q1 hHeld
          refine take_run 6 (some 110) (v := .pointer (some ⟨pU, 2, none⟩)) rfl rfl (by kernel_rfl) (by kernel_rfl) (by kernel_rfl) (fun _ _ _ h => h) (by rfl) ?_ (by assumption) ?_
          · (intro W hSw; go_simp; (try rfl))
          simp only [pu, sB, s0, sS]
          refine wpAnyH_ready (rs := [7]) (by kernel_rfl) (by simp) ?_
          refine AllReadyH.cons rfl (fun Q2 hQ2 => ?_) AllReadyH.nil
          have KU8 := Lib.hid (KU7.out.stored (o := 2) (vs := [.int .i64 m]) (cs' := (mO k n m ⟨#[]⟩ cellsZ)) (mO_p2))
          have KA8 := Lib.hid (KA7.out.wholeElse ([.int .i64 m]) (o := 2) NEAU.out)
          have B8 := Lib.hid (below_whole ([.int .i64 m]) (o := 2) B7.out LEU.out)
          refine step_storeV rfl rfl (.tmp 110) (.tmp 108) rfl (b := pU) (j := 2) (v := .int .i64 m) rfl rfl KU7.out (fit_1 (mO_sz cellsZ_size) (by decide)) (by kernel_rfl) (by simp [Value.oneCell']) ?_
          generalize World.setCells _ _ _ _ = w8 at KA8 KU8 B8 ⊢
          clear B7 KA7 KU7
          refine hQ2.out _ _ ?_ (fun hHd2 => ?_)
          · exact KA8.out
          clear hQ2 Q2 hHd1
          refine wpAnyH_done (by kernel_rfl) ?_ _
          go_wp2_with fail
          go_meet
          exact ⟨true, _, rfl, (mO_sz cellsZ_size), Lib.hid (IsMid.of (g := Fil.zero) (gs := ⟨#[]⟩) hf rfl (Mo.ok_13 (by have h := hE.out; omega) hc hd)), KU8, KA8, B8⟩
    exact absurd hk14 (by simp [Mo.isKind, e1, e10, e14, e2, e3, e4, e5, e6, e7, e8, e9, e11, e12, e13])
  case rest =>
    obtain ⟨ok, U, rfl, hU, HM, KU90, KA90, B90⟩ := hcut
    obtain ⟨q, hok, hq⟩ := HM.out
    cases ok with
    | false =>
      go_upto_region 33 with fail
      refine wp_region_lit ?_
      iterate 2 ((with_reducible refine rN (v := .bool false) ?_ ?_ ?_); (· rfl); (· go_simp; (try with_reducible rfl)); simp only [pu, sB, s0, sS])
      iterate 3 ((with_reducible refine kN ?_ ?_); (· rfl); simp only [pu, sB, s0, sS])
      iterate 2 ((with_reducible refine rN (v := .bool false) ?_ ?_ ?_); (· rfl); (· go_simp; (try with_reducible rfl)); simp only [pu, sB, s0, sS])
      go_wp2_with fail
      go_ret
      exact ⟨by rw [← hok]; rfl, B90.out⟩
    | true =>
      cases q with
      | false =>
        go_upto_region 33 with fail
        refine wp_region_lit ?_
        iterate 2 ((with_reducible refine rN (v := .bool true) ?_ ?_ ?_); (· rfl); (· go_simp; (try with_reducible rfl)); simp only [pu, sB, s0, sS])
        with_reducible refine wpList_loadS (.tmp 1) ?_ ?_ KA90.out Tryz.underlying39 ?_ (infoTMo20 (mO_sz (cellsF_size f fs))) ?_
        · rfl
        · rfl
        · rfl
        simp only [pu, sB, s0, sS]
        with_reducible refine wpList_loadS (.tmp 4) ?_ ?_ KU90.out Tryz.underlying39 ?_ (infoTMo20 hU) ?_
        · rfl
        · rfl
        · rfl
        simp only [pu, sB, s0, sS]
        iterate 3 ((with_reducible refine rN (v := .bool false) ?_ ?_ ?_); (· rfl); (· go_simp; (try with_reducible rfl)); simp only [pu, sB, s0, sS])
        go_wp2_with fail
        go_ret
        exact ⟨by rw [← hok]; rfl, B90.out⟩
      | true =>
        go_upto_region 33 with fail
        refine wp_region_lit ?_
        iterate 2 ((with_reducible refine rN (v := .bool true) ?_ ?_ ?_); (· rfl); (· go_simp; (try with_reducible rfl)); simp only [pu, sB, s0, sS])
        with_reducible refine wpList_loadS (.tmp 1) ?_ ?_ KA90.out Tryz.underlying39 ?_ (infoTMo20 (mO_sz (cellsF_size f fs))) ?_
        · rfl
        · rfl
        · rfl
        simp only [pu, sB, s0, sS]
        with_reducible refine wpList_loadS (.tmp 4) ?_ ?_ KU90.out Tryz.underlying39 ?_ (infoTMo20 hU) ?_
        · rfl
        · rfl
        · rfl
        simp only [pu, sB, s0, sS]
        iterate 3 ((with_reducible refine rN (v := .bool true) ?_ ?_ ?_); (· rfl); (· go_simp; (try with_reducible rfl)); simp only [pu, sB, s0, sS])
        go_wp2_with fail
        go_ret
        exact ⟨by rw [← hok]; rfl, B90.out⟩

set_option maxHeartbeats 8000000 in
set_option maxRecDepth 100000 in
theorem mIsOther (k n m : Int) (s : ByteArray) (f : Fil.Flt) (fs : ByteArray) (w : World)
    (n1 : (k == 1) = false) (n10 : (k == 10) = false) (n14 : (k == 14) = false) (n2 : (k == 2) = false) (n3 : (k == 3) = false) (n4 : (k == 4) = false) (n5 : (k == 5) = false) (n6 : (k == 6) = false) (n7 : (k == 7) = false) (n8 : (k == 8) = false) (n9 : (k == 9) = false) (n11 : (k == 11) = false) (n12 : (k == 12) = false) (n13 : (k == 13) = false) :
    Calls Tryz.prog 32 #[.agg (mO k n m s (cellsF f fs))] w fun e w' => e = .returned (.bool false) ∧ Below w.heap.size w w' := by

  have B0 := Lib.hid (Below.refl w.heap.size w)
  go_enter Tryz.func32, Tryz.ntmps32
  go_upto_region 0 with fail
  refine wp_region_lit ?_
  obtain ⟨w1, hw⟩ : ∃ v, v = w.alloc (.cells (mO k n m s (cellsF f fs)) 39) := ⟨_, rfl⟩
  obtain ⟨pA, hp⟩ : ∃ v, v = w.heap.size := ⟨_, rfl⟩
  have B1 : Hid (Below w.heap.size w w1) := Lib.hid (by rw [hw]; exact B0.out.alloc B0.out.size _)
  have LEA : Hid (w.heap.size ≤ pA) := Lib.hid (by rw [hp]; exact B0.out.size)
  have KA1 : Hid (Blk w1 pA (mO k n m s (cellsF f fs)) 39) := Lib.hid (by rw [hw, hp]; exact Blk.new _ _ _)
  with_reducible refine wpList_runWV (some 1) (v := .pointer (some ⟨pA, 0, none⟩)) (w' := w1) ?_ ?_ ?_ ?_
  · rfl
  · rfl
  · rw [hw, hp]; (go_simp; (try rfl))
  simp only [pu, sB, s0, sS]
  clear hw hp
  clear B0
  (with_reducible refine rN (v := .bool false) ?_ ?_ ?_); (· rfl); (· go_simp; (try with_reducible rfl)); simp only [pu, sB, s0, sS]
  go_upto_region 1 with fail
  refine wp_region_lit ?_
  (with_reducible refine rN (v := .bool true) ?_ ?_ ?_); (· rfl); (· go_simp; (try with_reducible rfl)); simp only [pu, sB, s0, sS]
  go_upto_region 2 with fail
  refine wp_region_lit ?_
  (with_reducible refine rN (v := .pointer (some ⟨pA, 0, none⟩)) ?_ ?_ ?_); (· rfl); (· go_simp; (try rfl)); simp only [pu, sB, s0, sS]
  with_reducible refine wpList_loadV (.tmp 5) (j := 0) (v := .int .i64 k) ?_ ?_ KA1.out ?_ Tryz.underlying3 ?_ ?_
  · rfl
  · rfl
  · exact mO_0
  · rfl
  simp only [pu, sB, s0, sS]
  (with_reducible refine rN (v := .agg (mO k 0 0 ⟨#[]⟩ cellsZ)) ?_ ?_ ?_); (· rfl); (· refine run_buildOp _ [(0, .int .i64 k)] rfl ?_ (built_kind k); rfl); simp only [pu, sB, s0, sS]
  obtain ⟨w2, hw⟩ : ∃ v, v = w1.alloc (.cells (mO 0 0 0 ⟨#[]⟩ cellsZ) 39) := ⟨_, rfl⟩
  obtain ⟨pU, hp⟩ : ∃ v, v = w1.heap.size := ⟨_, rfl⟩
  have B2 : Hid (Below w.heap.size w w2) := Lib.hid (by rw [hw]; exact B1.out.alloc B1.out.size _)
  have LEU : Hid (w.heap.size ≤ pU) := Lib.hid (by rw [hp]; exact B1.out.size)
  have KA2 := Lib.hid (show Blk w2 pA (mO k n m s (cellsF f fs)) 39 by rw [hw]; exact KA1.out.alloc _)
  have NEAU : Hid (pA ≠ pU) := Lib.hid (by rw [hp]; exact Nat.ne_of_lt KA1.out.lt)
  have NEUA : Hid (pU ≠ pA) := Lib.hid (Ne.symm NEAU.out)
  have KU2 : Hid (Blk w2 pU (mO 0 0 0 ⟨#[]⟩ cellsZ) 39) := Lib.hid (by rw [hw, hp]; exact Blk.new _ _ _)
  with_reducible refine wpList_runWV (some 4) (v := .pointer (some ⟨pU, 0, none⟩)) (w' := w2) ?_ ?_ ?_ ?_
  · rfl
  · rfl
  · rw [hw, hp]; (go_simp; (try rfl))
  simp only [pu, sB, s0, sS]
  clear hw hp
  clear B1 KA1
  have KU3 := Lib.hid (KU2.out.stored (o := 0) (vs := (mO k 0 0 ⟨#[]⟩ cellsZ).toList) (cs' := (mO k 0 0 ⟨#[]⟩ cellsZ)) (laid_all (mO_sz cellsZ_size) (mO_sz cellsZ_size)))
  have KA3 := Lib.hid (KA2.out.wholeElse ((mO k 0 0 ⟨#[]⟩ cellsZ).toList) (o := 0) NEAU.out)
  have B3 := Lib.hid (below_whole ((mO k 0 0 ⟨#[]⟩ cellsZ).toList) (o := 0) B2.out LEU.out)
  with_reducible refine wpList_storeM (.tmp 4) (.tmp 7) (o := 0) (vs := (mO k 0 0 ⟨#[]⟩ cellsZ)) ?_ ?_ KU2.out ?_ (infoTMo20 (mO_sz cellsZ_size)) (mO_one cellsZ_one) ?_
  · rfl
  · rfl
  · exact (fit_2 (mO_sz cellsZ_size) (mO_sz cellsZ_size) (by decide))
  (try simp only [Act.put])
  generalize World.setCells _ _ _ _ = w3 at KA3 KU3 B3 ⊢
  clear B2 KA2 KU2
  go_upto_region 3 with fail
  refine wp_region_lit ?_
  (with_reducible refine rN (v := .pointer (some ⟨pA, 0, none⟩)) ?_ ?_ ?_); (· rfl); (· go_simp; (try rfl)); simp only [pu, sB, s0, sS]
  with_reducible refine wpList_loadV (.tmp 8) (j := 0) (v := .int .i64 k) ?_ ?_ KA3.out ?_ Tryz.underlying3 ?_ ?_
  · rfl
  · rfl
  · exact mO_0
  · rfl
  simp only [pu, sB, s0, sS]
  go_upto_region 5 with fail
  refine wp_region_lit ?_
  iterate 2 ((with_reducible refine rN (v := .bool false) ?_ ?_ ?_); (· rfl); (· go_simp; (try with_reducible rfl)); simp only [pu, sB, s0, sS])
  go_upto_region 6 with fail
  refine wp_region_lit ?_
  iterate 2 ((with_reducible refine rN (v := .bool false) ?_ ?_ ?_); (· rfl); (· go_simp; (try with_reducible rfl)); simp only [pu, sB, s0, sS])
  go_upto_region 7 with fail
  refine wp_region_lit ?_
  iterate 2 ((with_reducible refine rN (v := .bool false) ?_ ?_ ?_); (· rfl); (· go_simp; (try with_reducible rfl)); simp only [pu, sB, s0, sS])
  go_upto_region 8 with fail
  refine wp_region_lit ?_
  iterate 2 ((with_reducible refine rN (v := .bool false) ?_ ?_ ?_); (· rfl); (· go_simp; (try with_reducible rfl)); simp only [pu, sB, s0, sS])
  go_upto_region 9 with fail
  refine wp_region_lit ?_
  iterate 2 ((with_reducible refine rN (v := .bool false) ?_ ?_ ?_); (· rfl); (· go_simp; (try with_reducible rfl)); simp only [pu, sB, s0, sS])
  go_upto_region 12 with fail
  refine wp_region_lit ?_
  iterate 2 ((with_reducible refine rN (v := .bool false) ?_ ?_ ?_); (· rfl); (· go_simp; (try with_reducible rfl)); simp only [pu, sB, s0, sS])
  go_upto_region 13 with fail
  refine wp_region_lit ?_
  iterate 2 ((with_reducible refine rN (v := .bool false) ?_ ?_ ?_); (· rfl); (· go_simp; (try with_reducible rfl)); simp only [pu, sB, s0, sS])
  go_upto_region 16 with fail
  refine wp_region_lit ?_
  iterate 2 ((with_reducible refine rN (v := .bool false) ?_ ?_ ?_); (· rfl); (· go_simp; (try with_reducible rfl)); simp only [pu, sB, s0, sS])
  go_upto_region 17 with fail
  refine wp_region_lit ?_
  iterate 2 ((with_reducible refine rN (v := .bool false) ?_ ?_ ?_); (· rfl); (· go_simp; (try with_reducible rfl)); simp only [pu, sB, s0, sS])
  go_upto_region 20 with fail
  refine wp_region_lit ?_
  iterate 2 ((with_reducible refine rN (v := .bool false) ?_ ?_ ?_); (· rfl); (· go_simp; (try with_reducible rfl)); simp only [pu, sB, s0, sS])
  go_upto_region 21 with fail
  refine wp_region_lit ?_
  iterate 2 ((with_reducible refine rN (v := .bool false) ?_ ?_ ?_); (· rfl); (· go_simp; (try with_reducible rfl)); simp only [pu, sB, s0, sS])
  go_upto_region 24 with fail
  refine wp_region_lit ?_
  iterate 2 ((with_reducible refine rN (v := .bool false) ?_ ?_ ?_); (· rfl); (· go_simp; (try with_reducible rfl)); simp only [pu, sB, s0, sS])
  go_upto_region 27 with fail
  refine wp_region_lit ?_
  iterate 2 ((with_reducible refine rN (v := .bool false) ?_ ?_ ?_); (· rfl); (· go_simp; (try with_reducible rfl)); simp only [pu, sB, s0, sS])
  go_upto_region 30 with fail
  refine wp_region_lit ?_
  iterate 2 ((with_reducible refine rN (v := .bool false) ?_ ?_ ?_); (· rfl); (· go_simp; (try with_reducible rfl)); simp only [pu, sB, s0, sS])
  go_upto_region 4 with fail
  refine wp_region_lit ?_
  (with_reducible refine rN (v := .bool false) ?_ ?_ ?_); (· rfl); (· go_simp; (try with_reducible rfl)); simp only [pu, sB, s0, sS]
  go_wp2_with fail
  go_ret
  exact ⟨rfl, B3.out⟩
end Go.Proofs.YtbcgkeclmioeiaaGreatDoor
