/-
  CONTRACT OF LAYER 15 (mod): Is, by a walk. By an AI agent.
-/
import Derived.Test.YtbcgkeclmioeiaaGreatDoorSwGA
import Derived.Test.YtbcgkeclmioeiaaGreatDoorSwGC
import Derived.Deep.CutBlock
import Derived.Deep.DeepCutAuto
import Derived.Deep.Cut
namespace Go.Proofs.YtbcgkeclmioeiaaGreatDoor
open Go.RowKit
open Wd (Bs)

/-- where the kinds' ways meet: what the kind asks, and whether the other fields are zero -/
def IsMid (k n m : Int) (s : ByteArray) (f : Fil.Flt) (fs : ByteArray) (ok : Bool) (U : Array Value) : Prop := ∃ q, (ok && q) = Mo.okB ⟨k, n, m, s.data.toList, f⟩ ∧ ∀ W : World, (Op.equalIn 10000 39 (.agg (mO k n m s (cellsF f fs))) (.agg U)).run Tryz.prog W = .ok q W
theorem IsMid.of {k n m : Int} {s : ByteArray} {f : Fil.Flt} {fs : ByteArray} {ok : Bool} {n' m' : Int} {s' : ByteArray} {g : Fil.Flt} {gs : ByteArray} (hf : f.sub = fs.data.toList) (hg : g.sub = gs.data.toList) (h : Mo.okB ⟨k, n, m, s.data.toList, f⟩ = (ok && eqMo ⟨k, n, m, s.data.toList, f⟩ ⟨k, n', m', s'.data.toList, g⟩)) : IsMid k n m s f fs ok (mO k n' m' s' (cellsF g gs)) :=
  ⟨_, h.symm, fun W => run_eq_mod k n m k n' m' s s' f g fs gs hf hg W⟩

set_option maxHeartbeats 8000000 in
set_option maxRecDepth 100000 in
theorem modIsIn (k n m : Int) (s : ByteArray) (f : Fil.Flt) (fs : ByteArray) (z : Int) (v1 v2 v4 v6 vp v8 v11 va vb vc vd : Bool) (w : World)
    (hf : f.sub = fs.data.toList) (H1 : Hid (∀ W, Below w.heap.size w W → Calls Tryz.prog 60 #[.int .i64 n, .int .i64 1, .int .i64 63] W fun e w' => e = .returned (.bool v1) ∧ Below W.heap.size W w')) (hz : bits .and .i64 n 6 = z) (h2 : (z == 0) = v2) (hT : Mo.typesB n = (v1 && v2)) (H4 : Hid (∀ W, Below w.heap.size w W → Calls Tryz.prog 61 #[.string s] W fun e w' => e = .returned (.bool v4) ∧ Below W.heap.size W w')) (hS : Ln.isSub s.data.toList = v4) (H6 : Hid (∀ W, Below w.heap.size w W → Calls Tryz.prog 62 #[.int .i64 n] W fun e w' => e = .returned (.bool v6) ∧ Below W.heap.size W w')) (hp : decide (0 < n) = vp) (hC : Mo.inB 0 31 n = v6) (hC7 : Mo.inB 1 31 n = (v6 && vp)) (H8 : Hid (∀ W, Below w.heap.size w W → Calls Tryz.prog 63 #[.int .i64 n] W fun e w' => e = .returned (.bool v8) ∧ Below W.heap.size W w')) (hK : Mo.inB 1 131071 n = (v8 && vp)) (H11 : Hid (∀ W, Below w.heap.size w W → Calls Tryz.prog 33 #[.agg (cellsF f fs)] W fun e w' => e = .returned (.bool v11) ∧ Below W.heap.size W w')) (hF : Fil.validB f = v11) (Ha : Hid (∀ W, Below w.heap.size w W → Calls Tryz.prog 60 #[.int .i64 n, .int .i64 0, .int .i64 99] W fun e w' => e = .returned (.bool va) ∧ Below W.heap.size W w')) (ha : Mo.inB 0 99 n = va) (Hb : Hid (∀ W, Below w.heap.size w W → Calls Tryz.prog 60 #[.int .i64 m, .int .i64 0, .int .i64 99] W fun e w' => e = .returned (.bool vb) ∧ Below W.heap.size W w')) (hb99 : Mo.inB 0 99 m = vb) (Hc : Hid (∀ W, Below w.heap.size w W → Calls Tryz.prog 60 #[.int .i64 n, .int .i64 (-99), .int .i64 99] W fun e w' => e = .returned (.bool vc) ∧ Below W.heap.size W w')) (hc : Mo.inB (-99) 99 n = vc) (Hd : Hid (∀ W, Below w.heap.size w W → Calls Tryz.prog 60 #[.int .i64 m, .int .i64 (-99), .int .i64 99] W fun e w' => e = .returned (.bool vd) ∧ Below W.heap.size W w')) (hd : Mo.inB (-99) 99 m = vd)
    (hk14 : Mo.isKind k = true) :
    Calls Tryz.prog 32 #[.agg (mO k n m s (cellsF f fs))] w fun e w' => e = .returned (.bool (Mo.okB ⟨k, n, m, s.data.toList, f⟩)) ∧ Below w.heap.size w w' := by

  have M := Mm.nil w
  go_enter Tryz.func32, Tryz.ntmps32
  go_upto_region 0 with fail
  refine wp_region_lit ?_
  with_reducible refine wA (mO k n m s (cellsF f fs)) M ?_; clear M; intro pA u M; refine ⟨_, by (simp only [pu, sB, s0, sS]; rfl), ?_⟩
  with_reducible refine rA ?_
  go_upto_region 1 with fail
  refine wp_region_lit ?_
  with_reducible refine rA ?_
  go_upto_region 2 with fail
  refine wp_region_lit ?_
  with_reducible refine rA ?_
  with_reducible refine wLv 0 M mO_0 Tryz.underlying3 ?_
  (with_reducible refine rB (.agg (mO k 0 0 ⟨#[]⟩ cellsZ)) ?_ ?_); (· refine run_buildOp _ [(0, .int .i64 k)] rfl ?_ (built_kind k); rfl)
  with_reducible refine wA (mO 0 0 0 ⟨#[]⟩ cellsZ) M ?_; clear M; intro pU u M; refine ⟨_, by (simp only [pu, sB, s0, sS]; rfl), ?_⟩
  with_reducible refine wS 1 M (laid_all (mO_sz cellsZ_size) (mO_sz cellsZ_size)) (infoTMo20 (mO_sz cellsZ_size)) (mO_one cellsZ_one) (fit_2 (mO_sz cellsZ_size) (mO_sz cellsZ_size) (by decide)) ?_; clear M; intro u M
  go_upto_region 3 with fail
  refine wp_region_lit ?_
  with_reducible refine rA ?_
  with_reducible refine wLv 0 M mO_0 Tryz.underlying3 ?_
  go_upto_block 0 with fail
  go_cut [3] (fun v wx => ∃ ok U, v = .bool ok ∧ U.size = 20 ∧ Hid (IsMid k n m s f fs ok U) ∧ Mm w wx [(pA, (mO k n m s (cellsF f fs)), 39), (pU, U, 39)])
  case first =>
    by_cases e1 : k = 1
    · have ek : (k == 1) = true := by simpa using e1
      have hE := Lib.hid e1
      clear e1
      go_upto_region 5 with fail
      refine wp_region_lit ?_
      iterate 2 (with_reducible refine rA ?_)
      go_wp2_with fail
      go_meet
      exact ⟨true, _, rfl, (mO_sz cellsZ_size), Lib.hid (IsMid.of (g := Fil.zero) (gs := ⟨#[]⟩) hf rfl (Mo.ok_1 (by have h := hE.out; omega))), M⟩
    have n1 : (k == 1) = false := by simpa using e1
    go_upto_region 5 with fail
    refine wp_region_lit ?_
    iterate 2 (with_reducible refine rA ?_)
    by_cases e10 : k = 10
    · have ek : (k == 10) = true := by simpa using e10
      have hE := Lib.hid e10
      clear e10
      go_upto_region 6 with fail
      refine wp_region_lit ?_
      iterate 2 (with_reducible refine rA ?_)
      go_wp2_with fail
      go_meet
      exact ⟨true, _, rfl, (mO_sz cellsZ_size), Lib.hid (IsMid.of (g := Fil.zero) (gs := ⟨#[]⟩) hf rfl (Mo.ok_1 (by have h := hE.out; omega))), M⟩
    have n10 : (k == 10) = false := by simpa using e10
    go_upto_region 6 with fail
    refine wp_region_lit ?_
    iterate 2 (with_reducible refine rA ?_)
    by_cases e14 : k = 14
    · have ek : (k == 14) = true := by simpa using e14
      have hE := Lib.hid e14
      clear e14
      go_upto_region 7 with fail
      refine wp_region_lit ?_
      iterate 2 (with_reducible refine rA ?_)
      go_wp2_with fail
      go_meet
      exact ⟨true, _, rfl, (mO_sz cellsZ_size), Lib.hid (IsMid.of (g := Fil.zero) (gs := ⟨#[]⟩) hf rfl (Mo.ok_1 (by have h := hE.out; omega))), M⟩
    have n14 : (k == 14) = false := by simpa using e14
    go_upto_region 7 with fail
    refine wp_region_lit ?_
    iterate 2 (with_reducible refine rA ?_)
    by_cases e2 : k = 2
    · have ek : (k == 2) = true := by simpa using e2
      have hE := Lib.hid e2
      clear e2
      go_upto_region 8 with fail
      refine wp_region_lit ?_
      iterate 2 (with_reducible refine rA ?_)
      cases v1 with
      | false =>
        go_upto_region 10 with fail
        refine wp_region_lit ?_
        with_reducible refine rA ?_
        with_reducible refine wLv 0 M mO_1 Tryz.underlying3 ?_
        with_reducible refine wC M (H1.out _ M.b) ?_; clear M; intro u M
        with_reducible refine rA ?_
        iterate 4 (with_reducible refine kA ?_)
        iterate 2 (with_reducible refine rA ?_)
        go_upto_region 11 with fail
        refine wp_region_lit ?_
        with_reducible refine rA ?_
        with_reducible refine wLv 0 M mO_1 Tryz.underlying3 ?_
        with_reducible refine rA ?_
        with_reducible refine wV 1 M (mO_p1) (fit_1 (mO_sz cellsZ_size) (by decide)) ?_; clear M; intro u M
        go_wp2_with fail
        go_meet
        exact ⟨false, _, rfl, (mO_sz cellsZ_size), Lib.hid (IsMid.of (g := Fil.zero) (gs := ⟨#[]⟩) hf rfl (Mo.ok_2 (by have h := hE.out; omega) hT)), M⟩
      | true =>
        cases v2 with
        | false =>
          go_upto_region 10 with fail
          refine wp_region_lit ?_
          with_reducible refine rA ?_
          with_reducible refine wLv 0 M mO_1 Tryz.underlying3 ?_
          with_reducible refine wC M (H1.out _ M.b) ?_; clear M; intro u M
          iterate 2 (with_reducible refine rA ?_)
          with_reducible refine wLv 0 M mO_1 Tryz.underlying3 ?_
          (with_reducible refine rB (.int .i64 z) ?_ ?_); (· go_simp; (try with_reducible rfl))
          iterate 3 (with_reducible refine rA ?_)
          go_upto_region 11 with fail
          refine wp_region_lit ?_
          with_reducible refine rA ?_
          with_reducible refine wLv 0 M mO_1 Tryz.underlying3 ?_
          with_reducible refine rA ?_
          with_reducible refine wV 1 M (mO_p1) (fit_1 (mO_sz cellsZ_size) (by decide)) ?_; clear M; intro u M
          go_wp2_with fail
          go_meet
          exact ⟨false, _, rfl, (mO_sz cellsZ_size), Lib.hid (IsMid.of (g := Fil.zero) (gs := ⟨#[]⟩) hf rfl (Mo.ok_2 (by have h := hE.out; omega) hT)), M⟩
        | true =>
          go_upto_region 10 with fail
          refine wp_region_lit ?_
          with_reducible refine rA ?_
          with_reducible refine wLv 0 M mO_1 Tryz.underlying3 ?_
          with_reducible refine wC M (H1.out _ M.b) ?_; clear M; intro u M
          iterate 2 (with_reducible refine rA ?_)
          with_reducible refine wLv 0 M mO_1 Tryz.underlying3 ?_
          (with_reducible refine rB (.int .i64 z) ?_ ?_); (· go_simp; (try with_reducible rfl))
          iterate 3 (with_reducible refine rA ?_)
          go_upto_region 11 with fail
          refine wp_region_lit ?_
          with_reducible refine rA ?_
          with_reducible refine wLv 0 M mO_1 Tryz.underlying3 ?_
          with_reducible refine rA ?_
          with_reducible refine wV 1 M (mO_p1) (fit_1 (mO_sz cellsZ_size) (by decide)) ?_; clear M; intro u M
          go_wp2_with fail
          go_meet
          exact ⟨true, _, rfl, (mO_sz cellsZ_size), Lib.hid (IsMid.of (g := Fil.zero) (gs := ⟨#[]⟩) hf rfl (Mo.ok_2 (by have h := hE.out; omega) hT)), M⟩
    have n2 : (k == 2) = false := by simpa using e2
    go_upto_region 8 with fail
    refine wp_region_lit ?_
    iterate 2 (with_reducible refine rA ?_)
    by_cases e3 : k = 3
    · have ek : (k == 3) = true := by simpa using e3
      have hE := Lib.hid e3
      clear e3
      go_upto_region 9 with fail
      refine wp_region_lit ?_
      iterate 2 (with_reducible refine rA ?_)
      cases v1 with
      | false =>
        go_upto_region 10 with fail
        refine wp_region_lit ?_
        with_reducible refine rA ?_
        with_reducible refine wLv 0 M mO_1 Tryz.underlying3 ?_
        with_reducible refine wC M (H1.out _ M.b) ?_; clear M; intro u M
        with_reducible refine rA ?_
        iterate 4 (with_reducible refine kA ?_)
        iterate 2 (with_reducible refine rA ?_)
        go_upto_region 11 with fail
        refine wp_region_lit ?_
        with_reducible refine rA ?_
        with_reducible refine wLv 0 M mO_1 Tryz.underlying3 ?_
        with_reducible refine rA ?_
        with_reducible refine wV 1 M (mO_p1) (fit_1 (mO_sz cellsZ_size) (by decide)) ?_; clear M; intro u M
        go_wp2_with fail
        go_meet
        exact ⟨false, _, rfl, (mO_sz cellsZ_size), Lib.hid (IsMid.of (g := Fil.zero) (gs := ⟨#[]⟩) hf rfl (Mo.ok_2 (by have h := hE.out; omega) hT)), M⟩
      | true =>
        cases v2 with
        | false =>
          go_upto_region 10 with fail
          refine wp_region_lit ?_
          with_reducible refine rA ?_
          with_reducible refine wLv 0 M mO_1 Tryz.underlying3 ?_
          with_reducible refine wC M (H1.out _ M.b) ?_; clear M; intro u M
          iterate 2 (with_reducible refine rA ?_)
          with_reducible refine wLv 0 M mO_1 Tryz.underlying3 ?_
          (with_reducible refine rB (.int .i64 z) ?_ ?_); (· go_simp; (try with_reducible rfl))
          iterate 3 (with_reducible refine rA ?_)
          go_upto_region 11 with fail
          refine wp_region_lit ?_
          with_reducible refine rA ?_
          with_reducible refine wLv 0 M mO_1 Tryz.underlying3 ?_
          with_reducible refine rA ?_
          with_reducible refine wV 1 M (mO_p1) (fit_1 (mO_sz cellsZ_size) (by decide)) ?_; clear M; intro u M
          go_wp2_with fail
          go_meet
          exact ⟨false, _, rfl, (mO_sz cellsZ_size), Lib.hid (IsMid.of (g := Fil.zero) (gs := ⟨#[]⟩) hf rfl (Mo.ok_2 (by have h := hE.out; omega) hT)), M⟩
        | true =>
          go_upto_region 10 with fail
          refine wp_region_lit ?_
          with_reducible refine rA ?_
          with_reducible refine wLv 0 M mO_1 Tryz.underlying3 ?_
          with_reducible refine wC M (H1.out _ M.b) ?_; clear M; intro u M
          iterate 2 (with_reducible refine rA ?_)
          with_reducible refine wLv 0 M mO_1 Tryz.underlying3 ?_
          (with_reducible refine rB (.int .i64 z) ?_ ?_); (· go_simp; (try with_reducible rfl))
          iterate 3 (with_reducible refine rA ?_)
          go_upto_region 11 with fail
          refine wp_region_lit ?_
          with_reducible refine rA ?_
          with_reducible refine wLv 0 M mO_1 Tryz.underlying3 ?_
          with_reducible refine rA ?_
          with_reducible refine wV 1 M (mO_p1) (fit_1 (mO_sz cellsZ_size) (by decide)) ?_; clear M; intro u M
          go_wp2_with fail
          go_meet
          exact ⟨true, _, rfl, (mO_sz cellsZ_size), Lib.hid (IsMid.of (g := Fil.zero) (gs := ⟨#[]⟩) hf rfl (Mo.ok_2 (by have h := hE.out; omega) hT)), M⟩
    have n3 : (k == 3) = false := by simpa using e3
    go_upto_region 9 with fail
    refine wp_region_lit ?_
    iterate 2 (with_reducible refine rA ?_)
    by_cases e4 : k = 4
    · have ek : (k == 4) = true := by simpa using e4
      have hE := Lib.hid e4
      clear e4
      go_upto_region 12 with fail
      refine wp_region_lit ?_
      iterate 2 (with_reducible refine rA ?_)
      cases v4 with
      | false =>
        go_upto_region 14 with fail
        refine wp_region_lit ?_
        with_reducible refine rA ?_
        with_reducible refine wLv 0 M mO_3 Tryz.underlying9 ?_
        with_reducible refine wC M (H4.out _ M.b) ?_; clear M; intro u M
        with_reducible refine rA ?_
        go_upto_region 15 with fail
        refine wp_region_lit ?_
        with_reducible refine rA ?_
        with_reducible refine wLv 0 M mO_3 Tryz.underlying9 ?_
        with_reducible refine rA ?_
        with_reducible refine wV 1 M (mO_p3) (fit_1 (mO_sz cellsZ_size) (by decide)) ?_; clear M; intro u M
        go_wp2_with fail
        go_meet
        exact ⟨false, _, rfl, (mO_sz cellsZ_size), Lib.hid (IsMid.of (g := Fil.zero) (gs := ⟨#[]⟩) hf rfl (Mo.ok_4 (by have h := hE.out; omega) hS)), M⟩
      | true =>
        go_upto_region 14 with fail
        refine wp_region_lit ?_
        with_reducible refine rA ?_
        with_reducible refine wLv 0 M mO_3 Tryz.underlying9 ?_
        with_reducible refine wC M (H4.out _ M.b) ?_; clear M; intro u M
        with_reducible refine rA ?_
        go_upto_region 15 with fail
        refine wp_region_lit ?_
        with_reducible refine rA ?_
        with_reducible refine wLv 0 M mO_3 Tryz.underlying9 ?_
        with_reducible refine rA ?_
        with_reducible refine wV 1 M (mO_p3) (fit_1 (mO_sz cellsZ_size) (by decide)) ?_; clear M; intro u M
        go_wp2_with fail
        go_meet
        exact ⟨true, _, rfl, (mO_sz cellsZ_size), Lib.hid (IsMid.of (g := Fil.zero) (gs := ⟨#[]⟩) hf rfl (Mo.ok_4 (by have h := hE.out; omega) hS)), M⟩
    have n4 : (k == 4) = false := by simpa using e4
    go_upto_region 12 with fail
    refine wp_region_lit ?_
    iterate 2 (with_reducible refine rA ?_)
    by_cases e5 : k = 5
    · have ek : (k == 5) = true := by simpa using e5
      have hE := Lib.hid e5
      clear e5
      go_upto_region 13 with fail
      refine wp_region_lit ?_
      iterate 2 (with_reducible refine rA ?_)
      cases v4 with
      | false =>
        go_upto_region 14 with fail
        refine wp_region_lit ?_
        with_reducible refine rA ?_
        with_reducible refine wLv 0 M mO_3 Tryz.underlying9 ?_
        with_reducible refine wC M (H4.out _ M.b) ?_; clear M; intro u M
        with_reducible refine rA ?_
        go_upto_region 15 with fail
        refine wp_region_lit ?_
        with_reducible refine rA ?_
        with_reducible refine wLv 0 M mO_3 Tryz.underlying9 ?_
        with_reducible refine rA ?_
        with_reducible refine wV 1 M (mO_p3) (fit_1 (mO_sz cellsZ_size) (by decide)) ?_; clear M; intro u M
        go_wp2_with fail
        go_meet
        exact ⟨false, _, rfl, (mO_sz cellsZ_size), Lib.hid (IsMid.of (g := Fil.zero) (gs := ⟨#[]⟩) hf rfl (Mo.ok_4 (by have h := hE.out; omega) hS)), M⟩
      | true =>
        go_upto_region 14 with fail
        refine wp_region_lit ?_
        with_reducible refine rA ?_
        with_reducible refine wLv 0 M mO_3 Tryz.underlying9 ?_
        with_reducible refine wC M (H4.out _ M.b) ?_; clear M; intro u M
        with_reducible refine rA ?_
        go_upto_region 15 with fail
        refine wp_region_lit ?_
        with_reducible refine rA ?_
        with_reducible refine wLv 0 M mO_3 Tryz.underlying9 ?_
        with_reducible refine rA ?_
        with_reducible refine wV 1 M (mO_p3) (fit_1 (mO_sz cellsZ_size) (by decide)) ?_; clear M; intro u M
        go_wp2_with fail
        go_meet
        exact ⟨true, _, rfl, (mO_sz cellsZ_size), Lib.hid (IsMid.of (g := Fil.zero) (gs := ⟨#[]⟩) hf rfl (Mo.ok_4 (by have h := hE.out; omega) hS)), M⟩
    have n5 : (k == 5) = false := by simpa using e5
    go_upto_region 13 with fail
    refine wp_region_lit ?_
    iterate 2 (with_reducible refine rA ?_)
    by_cases e6 : k = 6
    · have ek : (k == 6) = true := by simpa using e6
      have hE := Lib.hid e6
      clear e6
      go_upto_region 16 with fail
      refine wp_region_lit ?_
      iterate 2 (with_reducible refine rA ?_)
      have e6 : (k == 6) = true := ek
      cases v6 with
      | false =>
        go_upto_region 18 with fail
        refine wp_region_lit ?_
        with_reducible refine rA ?_
        with_reducible refine wLv 0 M mO_1 Tryz.underlying3 ?_
        with_reducible refine wC M (H6.out _ M.b) ?_; clear M; intro u M
        with_reducible refine rA ?_
        iterate 8 (with_reducible refine kA ?_)
        iterate 2 (with_reducible refine rA ?_)
        go_upto_region 19 with fail
        refine wp_region_lit ?_
        with_reducible refine rA ?_
        with_reducible refine wLv 0 M mO_1 Tryz.underlying3 ?_
        with_reducible refine rA ?_
        with_reducible refine wV 1 M (mO_p1) (fit_1 (mO_sz cellsZ_size) (by decide)) ?_; clear M; intro u M
        go_wp2_with fail
        go_meet
        exact ⟨false, _, rfl, (mO_sz cellsZ_size), Lib.hid (IsMid.of (g := Fil.zero) (gs := ⟨#[]⟩) hf rfl (Mo.ok_6 hE.out hC)), M⟩
      | true =>
        cases vp with
        | false =>
          go_upto_region 18 with fail
          refine wp_region_lit ?_
          with_reducible refine rA ?_
          with_reducible refine wLv 0 M mO_1 Tryz.underlying3 ?_
          with_reducible refine wC M (H6.out _ M.b) ?_; clear M; intro u M
          iterate 2 (with_reducible refine rA ?_)
          with_reducible refine wLv 0 M mO_1 Tryz.underlying3 ?_
          iterate 3 (with_reducible refine rA ?_)
          with_reducible refine wLv 0 M mO_0 Tryz.underlying3 ?_
          iterate 4 (with_reducible refine rA ?_)
          go_upto_region 19 with fail
          refine wp_region_lit ?_
          with_reducible refine rA ?_
          with_reducible refine wLv 0 M mO_1 Tryz.underlying3 ?_
          with_reducible refine rA ?_
          with_reducible refine wV 1 M (mO_p1) (fit_1 (mO_sz cellsZ_size) (by decide)) ?_; clear M; intro u M
          go_wp2_with fail
          go_meet
          exact ⟨true, _, rfl, (mO_sz cellsZ_size), Lib.hid (IsMid.of (g := Fil.zero) (gs := ⟨#[]⟩) hf rfl (Mo.ok_6 hE.out hC)), M⟩
        | true =>
          go_upto_region 18 with fail
          refine wp_region_lit ?_
          with_reducible refine rA ?_
          with_reducible refine wLv 0 M mO_1 Tryz.underlying3 ?_
          with_reducible refine wC M (H6.out _ M.b) ?_; clear M; intro u M
          iterate 2 (with_reducible refine rA ?_)
          with_reducible refine wLv 0 M mO_1 Tryz.underlying3 ?_
          iterate 2 (with_reducible refine rA ?_)
          iterate 3 (with_reducible refine kA ?_)
          iterate 3 (with_reducible refine rA ?_)
          go_upto_region 19 with fail
          refine wp_region_lit ?_
          with_reducible refine rA ?_
          with_reducible refine wLv 0 M mO_1 Tryz.underlying3 ?_
          with_reducible refine rA ?_
          with_reducible refine wV 1 M (mO_p1) (fit_1 (mO_sz cellsZ_size) (by decide)) ?_; clear M; intro u M
          go_wp2_with fail
          go_meet
          exact ⟨true, _, rfl, (mO_sz cellsZ_size), Lib.hid (IsMid.of (g := Fil.zero) (gs := ⟨#[]⟩) hf rfl (Mo.ok_6 hE.out hC)), M⟩
    have n6 : (k == 6) = false := by simpa using e6
    go_upto_region 16 with fail
    refine wp_region_lit ?_
    iterate 2 (with_reducible refine rA ?_)
    by_cases e7 : k = 7
    · have ek : (k == 7) = true := by simpa using e7
      have hE := Lib.hid e7
      clear e7
      go_upto_region 17 with fail
      refine wp_region_lit ?_
      iterate 2 (with_reducible refine rA ?_)
      have e6 : (k == 6) = false := by simpa using e6
      cases v6 with
      | false =>
        go_upto_region 18 with fail
        refine wp_region_lit ?_
        with_reducible refine rA ?_
        with_reducible refine wLv 0 M mO_1 Tryz.underlying3 ?_
        with_reducible refine wC M (H6.out _ M.b) ?_; clear M; intro u M
        with_reducible refine rA ?_
        iterate 8 (with_reducible refine kA ?_)
        iterate 2 (with_reducible refine rA ?_)
        go_upto_region 19 with fail
        refine wp_region_lit ?_
        with_reducible refine rA ?_
        with_reducible refine wLv 0 M mO_1 Tryz.underlying3 ?_
        with_reducible refine rA ?_
        with_reducible refine wV 1 M (mO_p1) (fit_1 (mO_sz cellsZ_size) (by decide)) ?_; clear M; intro u M
        go_wp2_with fail
        go_meet
        exact ⟨false, _, rfl, (mO_sz cellsZ_size), Lib.hid (IsMid.of (g := Fil.zero) (gs := ⟨#[]⟩) hf rfl (Mo.ok_7 (by have h := hE.out; omega) hC7)), M⟩
      | true =>
        cases vp with
        | false =>
          go_upto_region 18 with fail
          refine wp_region_lit ?_
          with_reducible refine rA ?_
          with_reducible refine wLv 0 M mO_1 Tryz.underlying3 ?_
          with_reducible refine wC M (H6.out _ M.b) ?_; clear M; intro u M
          iterate 2 (with_reducible refine rA ?_)
          with_reducible refine wLv 0 M mO_1 Tryz.underlying3 ?_
          iterate 3 (with_reducible refine rA ?_)
          with_reducible refine wLv 0 M mO_0 Tryz.underlying3 ?_
          iterate 4 (with_reducible refine rA ?_)
          go_upto_region 19 with fail
          refine wp_region_lit ?_
          with_reducible refine rA ?_
          with_reducible refine wLv 0 M mO_1 Tryz.underlying3 ?_
          with_reducible refine rA ?_
          with_reducible refine wV 1 M (mO_p1) (fit_1 (mO_sz cellsZ_size) (by decide)) ?_; clear M; intro u M
          go_wp2_with fail
          go_meet
          exact ⟨false, _, rfl, (mO_sz cellsZ_size), Lib.hid (IsMid.of (g := Fil.zero) (gs := ⟨#[]⟩) hf rfl (Mo.ok_7 (by have h := hE.out; omega) hC7)), M⟩
        | true =>
          go_upto_region 18 with fail
          refine wp_region_lit ?_
          with_reducible refine rA ?_
          with_reducible refine wLv 0 M mO_1 Tryz.underlying3 ?_
          with_reducible refine wC M (H6.out _ M.b) ?_; clear M; intro u M
          iterate 2 (with_reducible refine rA ?_)
          with_reducible refine wLv 0 M mO_1 Tryz.underlying3 ?_
          iterate 2 (with_reducible refine rA ?_)
          iterate 3 (with_reducible refine kA ?_)
          iterate 3 (with_reducible refine rA ?_)
          go_upto_region 19 with fail
          refine wp_region_lit ?_
          with_reducible refine rA ?_
          with_reducible refine wLv 0 M mO_1 Tryz.underlying3 ?_
          with_reducible refine rA ?_
          with_reducible refine wV 1 M (mO_p1) (fit_1 (mO_sz cellsZ_size) (by decide)) ?_; clear M; intro u M
          go_wp2_with fail
          go_meet
          exact ⟨true, _, rfl, (mO_sz cellsZ_size), Lib.hid (IsMid.of (g := Fil.zero) (gs := ⟨#[]⟩) hf rfl (Mo.ok_7 (by have h := hE.out; omega) hC7)), M⟩
    have n7 : (k == 7) = false := by simpa using e7
    go_upto_region 17 with fail
    refine wp_region_lit ?_
    iterate 2 (with_reducible refine rA ?_)
    by_cases e8 : k = 8
    · have ek : (k == 8) = true := by simpa using e8
      have hE := Lib.hid e8
      clear e8
      go_upto_region 20 with fail
      refine wp_region_lit ?_
      iterate 2 (with_reducible refine rA ?_)
      cases v8 with
      | false =>
        go_upto_region 22 with fail
        refine wp_region_lit ?_
        with_reducible refine rA ?_
        with_reducible refine wLv 0 M mO_1 Tryz.underlying3 ?_
        with_reducible refine wC M (H8.out _ M.b) ?_; clear M; intro u M
        with_reducible refine rA ?_
        iterate 3 (with_reducible refine kA ?_)
        iterate 2 (with_reducible refine rA ?_)
        go_upto_region 23 with fail
        refine wp_region_lit ?_
        with_reducible refine rA ?_
        with_reducible refine wLv 0 M mO_1 Tryz.underlying3 ?_
        with_reducible refine rA ?_
        with_reducible refine wV 1 M (mO_p1) (fit_1 (mO_sz cellsZ_size) (by decide)) ?_; clear M; intro u M
        go_wp2_with fail
        go_meet
        exact ⟨false, _, rfl, (mO_sz cellsZ_size), Lib.hid (IsMid.of (g := Fil.zero) (gs := ⟨#[]⟩) hf rfl (Mo.ok_8 (by have h := hE.out; omega) hK)), M⟩
      | true =>
        cases vp with
        | false =>
          go_upto_region 22 with fail
          refine wp_region_lit ?_
          with_reducible refine rA ?_
          with_reducible refine wLv 0 M mO_1 Tryz.underlying3 ?_
          with_reducible refine wC M (H8.out _ M.b) ?_; clear M; intro u M
          iterate 2 (with_reducible refine rA ?_)
          with_reducible refine wLv 0 M mO_1 Tryz.underlying3 ?_
          iterate 3 (with_reducible refine rA ?_)
          go_upto_region 23 with fail
          refine wp_region_lit ?_
          with_reducible refine rA ?_
          with_reducible refine wLv 0 M mO_1 Tryz.underlying3 ?_
          with_reducible refine rA ?_
          with_reducible refine wV 1 M (mO_p1) (fit_1 (mO_sz cellsZ_size) (by decide)) ?_; clear M; intro u M
          go_wp2_with fail
          go_meet
          exact ⟨false, _, rfl, (mO_sz cellsZ_size), Lib.hid (IsMid.of (g := Fil.zero) (gs := ⟨#[]⟩) hf rfl (Mo.ok_8 (by have h := hE.out; omega) hK)), M⟩
        | true =>
          go_upto_region 22 with fail
          refine wp_region_lit ?_
          with_reducible refine rA ?_
          with_reducible refine wLv 0 M mO_1 Tryz.underlying3 ?_
          with_reducible refine wC M (H8.out _ M.b) ?_; clear M; intro u M
          iterate 2 (with_reducible refine rA ?_)
          with_reducible refine wLv 0 M mO_1 Tryz.underlying3 ?_
          iterate 3 (with_reducible refine rA ?_)
          go_upto_region 23 with fail
          refine wp_region_lit ?_
          with_reducible refine rA ?_
          with_reducible refine wLv 0 M mO_1 Tryz.underlying3 ?_
          with_reducible refine rA ?_
          with_reducible refine wV 1 M (mO_p1) (fit_1 (mO_sz cellsZ_size) (by decide)) ?_; clear M; intro u M
          go_wp2_with fail
          go_meet
          exact ⟨true, _, rfl, (mO_sz cellsZ_size), Lib.hid (IsMid.of (g := Fil.zero) (gs := ⟨#[]⟩) hf rfl (Mo.ok_8 (by have h := hE.out; omega) hK)), M⟩
    have n8 : (k == 8) = false := by simpa using e8
    go_upto_region 20 with fail
    refine wp_region_lit ?_
    iterate 2 (with_reducible refine rA ?_)
    by_cases e9 : k = 9
    · have ek : (k == 9) = true := by simpa using e9
      have hE := Lib.hid e9
      clear e9
      go_upto_region 21 with fail
      refine wp_region_lit ?_
      iterate 2 (with_reducible refine rA ?_)
      cases v8 with
      | false =>
        go_upto_region 22 with fail
        refine wp_region_lit ?_
        with_reducible refine rA ?_
        with_reducible refine wLv 0 M mO_1 Tryz.underlying3 ?_
        with_reducible refine wC M (H8.out _ M.b) ?_; clear M; intro u M
        with_reducible refine rA ?_
        iterate 3 (with_reducible refine kA ?_)
        iterate 2 (with_reducible refine rA ?_)
        go_upto_region 23 with fail
        refine wp_region_lit ?_
        with_reducible refine rA ?_
        with_reducible refine wLv 0 M mO_1 Tryz.underlying3 ?_
        with_reducible refine rA ?_
        with_reducible refine wV 1 M (mO_p1) (fit_1 (mO_sz cellsZ_size) (by decide)) ?_; clear M; intro u M
        go_wp2_with fail
        go_meet
        exact ⟨false, _, rfl, (mO_sz cellsZ_size), Lib.hid (IsMid.of (g := Fil.zero) (gs := ⟨#[]⟩) hf rfl (Mo.ok_8 (by have h := hE.out; omega) hK)), M⟩
      | true =>
        cases vp with
        | false =>
          go_upto_region 22 with fail
          refine wp_region_lit ?_
          with_reducible refine rA ?_
          with_reducible refine wLv 0 M mO_1 Tryz.underlying3 ?_
          with_reducible refine wC M (H8.out _ M.b) ?_; clear M; intro u M
          iterate 2 (with_reducible refine rA ?_)
          with_reducible refine wLv 0 M mO_1 Tryz.underlying3 ?_
          iterate 3 (with_reducible refine rA ?_)
          go_upto_region 23 with fail
          refine wp_region_lit ?_
          with_reducible refine rA ?_
          with_reducible refine wLv 0 M mO_1 Tryz.underlying3 ?_
          with_reducible refine rA ?_
          with_reducible refine wV 1 M (mO_p1) (fit_1 (mO_sz cellsZ_size) (by decide)) ?_; clear M; intro u M
          go_wp2_with fail
          go_meet
          exact ⟨false, _, rfl, (mO_sz cellsZ_size), Lib.hid (IsMid.of (g := Fil.zero) (gs := ⟨#[]⟩) hf rfl (Mo.ok_8 (by have h := hE.out; omega) hK)), M⟩
        | true =>
          go_upto_region 22 with fail
          refine wp_region_lit ?_
          with_reducible refine rA ?_
          with_reducible refine wLv 0 M mO_1 Tryz.underlying3 ?_
          with_reducible refine wC M (H8.out _ M.b) ?_; clear M; intro u M
          iterate 2 (with_reducible refine rA ?_)
          with_reducible refine wLv 0 M mO_1 Tryz.underlying3 ?_
          iterate 3 (with_reducible refine rA ?_)
          go_upto_region 23 with fail
          refine wp_region_lit ?_
          with_reducible refine rA ?_
          with_reducible refine wLv 0 M mO_1 Tryz.underlying3 ?_
          with_reducible refine rA ?_
          with_reducible refine wV 1 M (mO_p1) (fit_1 (mO_sz cellsZ_size) (by decide)) ?_; clear M; intro u M
          go_wp2_with fail
          go_meet
          exact ⟨true, _, rfl, (mO_sz cellsZ_size), Lib.hid (IsMid.of (g := Fil.zero) (gs := ⟨#[]⟩) hf rfl (Mo.ok_8 (by have h := hE.out; omega) hK)), M⟩
    have n9 : (k == 9) = false := by simpa using e9
    go_upto_region 21 with fail
    refine wp_region_lit ?_
    iterate 2 (with_reducible refine rA ?_)
    by_cases e11 : k = 11
    · have ek : (k == 11) = true := by simpa using e11
      have hE := Lib.hid e11
      clear e11
      go_upto_region 24 with fail
      refine wp_region_lit ?_
      iterate 2 (with_reducible refine rA ?_)
      cases v11 with
      | false =>
        go_upto_region 25 with fail
        refine wp_region_lit ?_
        with_reducible refine rA ?_
        with_reducible refine wL 0 M mO_f Tryz.underlying25 (infoTF16 (cellsF_size f fs)) ?_
        with_reducible refine wC M (H11.out _ M.b) ?_; clear M; intro u M
        with_reducible refine rA ?_
        go_upto_region 26 with fail
        refine wp_region_lit ?_
        with_reducible refine rA ?_
        with_reducible refine wL 0 M mO_f Tryz.underlying25 (infoTF16 (cellsF_size f fs)) ?_
        with_reducible refine rA ?_
        with_reducible refine wS 1 M (mO_pf (Eq.trans (cellsF_size f fs) (Eq.symm cellsZ_size))) (infoTF16 (cellsF_size f fs)) (cellsF_one f fs) (fit_2 (mO_sz cellsZ_size) (cellsF_size f fs) (by decide)) ?_; clear M; intro u M
        go_wp2_with fail
        go_meet
        exact ⟨false, _, rfl, (mO_sz (cellsF_size f fs)), Lib.hid (IsMid.of (g := f) (gs := fs) hf hf (Mo.ok_11 (by have h := hE.out; omega) hF)), M⟩
      | true =>
        go_upto_region 25 with fail
        refine wp_region_lit ?_
        with_reducible refine rA ?_
        with_reducible refine wL 0 M mO_f Tryz.underlying25 (infoTF16 (cellsF_size f fs)) ?_
        with_reducible refine wC M (H11.out _ M.b) ?_; clear M; intro u M
        with_reducible refine rA ?_
        go_upto_region 26 with fail
        refine wp_region_lit ?_
        with_reducible refine rA ?_
        with_reducible refine wL 0 M mO_f Tryz.underlying25 (infoTF16 (cellsF_size f fs)) ?_
        with_reducible refine rA ?_
        with_reducible refine wS 1 M (mO_pf (Eq.trans (cellsF_size f fs) (Eq.symm cellsZ_size))) (infoTF16 (cellsF_size f fs)) (cellsF_one f fs) (fit_2 (mO_sz cellsZ_size) (cellsF_size f fs) (by decide)) ?_; clear M; intro u M
        go_wp2_with fail
        go_meet
        exact ⟨true, _, rfl, (mO_sz (cellsF_size f fs)), Lib.hid (IsMid.of (g := f) (gs := fs) hf hf (Mo.ok_11 (by have h := hE.out; omega) hF)), M⟩
    have n11 : (k == 11) = false := by simpa using e11
    go_upto_region 24 with fail
    refine wp_region_lit ?_
    iterate 2 (with_reducible refine rA ?_)
    by_cases e12 : k = 12
    · have ek : (k == 12) = true := by simpa using e12
      have hE := Lib.hid e12
      clear e12
      go_upto_region 27 with fail
      refine wp_region_lit ?_
      iterate 2 (with_reducible refine rA ?_)
      cases va with
      | false =>
        go_upto_region 28 with fail
        refine wp_region_lit ?_
        with_reducible refine rA ?_
        with_reducible refine wLv 0 M mO_1 Tryz.underlying3 ?_
        with_reducible refine wC M (Ha.out _ M.b) ?_; clear M; intro u M
        with_reducible refine rA ?_
        iterate 3 (with_reducible refine kA ?_)
        iterate 2 (with_reducible refine rA ?_)
        go_upto_region 29 with fail
        replace M := M.drew
        refine wp_region_held_drew (S := fun W => Mm w W [(pA, (mO k n m s (cellsF f fs)), 39)]) (by kernel_rfl) (M.take 1) (fun _ => ?_)
        generalize World.drew _ = u at M ⊢
        refine tA 0 (some 89) rfl rfl (M.take 1) ?_
        refine tB 1 (some 90) rfl rfl (.int .i64 n) (fun W h => runLv rfl rfl (h.at 0 rfl) (mO_1) Tryz.underlying3 rfl) (M.take 1) ?_
        refine tA 2 (some 91) rfl rfl (M.take 1) ?_
        refine tB 3 (some 92) rfl rfl (.int .i64 m) (fun W h => runLv rfl rfl (h.at 0 rfl) (mO_2) Tryz.underlying3 rfl) (M.take 1) ?_
        refine tA 4 (some 93) rfl rfl (M.take 1) ?_
        refine wpAnyH_ready (rs := [5]) (by kernel_rfl) (by simp) ?_
        refine rdV (k := 1) (v := .int .i64 n) rfl rfl rfl rfl M rfl rfl rfl (mO_p1) (fit_1 (mO_sz cellsZ_size) (by decide)) (by kernel_rfl) (by simp [Value.oneCell']) (fun u M => ⟨(M.take 1), ?_⟩)
        refine tA 6 (some 94) rfl rfl (M.take 1) ?_
        refine wpAnyH_ready (rs := [7]) (by kernel_rfl) (by simp) ?_
        refine rdV (k := 1) (v := .int .i64 m) rfl rfl rfl rfl M rfl rfl rfl (mO_p2) (fit_1 (mO_sz cellsZ_size) (by decide)) (by kernel_rfl) (by simp [Value.oneCell']) (fun u M => ⟨(M.take 1), ?_⟩)
        refine wpAnyH_done (by kernel_rfl) ?_ _
        go_wp2_with fail
        go_meet
        exact ⟨false, _, rfl, (mO_sz cellsZ_size), Lib.hid (IsMid.of (g := Fil.zero) (gs := ⟨#[]⟩) hf rfl (Mo.ok_12 (by have h := hE.out; omega) ha hb99)), M⟩
      | true =>
        cases vb with
        | false =>
          go_upto_region 28 with fail
          refine wp_region_lit ?_
          with_reducible refine rA ?_
          with_reducible refine wLv 0 M mO_1 Tryz.underlying3 ?_
          with_reducible refine wC M (Ha.out _ M.b) ?_; clear M; intro u M
          iterate 2 (with_reducible refine rA ?_)
          with_reducible refine wLv 0 M mO_2 Tryz.underlying3 ?_
          with_reducible refine wC M (Hb.out _ M.b) ?_; clear M; intro u M
          iterate 2 (with_reducible refine rA ?_)
          go_upto_region 29 with fail
          replace M := M.drew
          refine wp_region_held_drew (S := fun W => Mm w W [(pA, (mO k n m s (cellsF f fs)), 39)]) (by kernel_rfl) (M.take 1) (fun _ => ?_)
          generalize World.drew _ = u at M ⊢
          refine tA 0 (some 89) rfl rfl (M.take 1) ?_
          refine tB 1 (some 90) rfl rfl (.int .i64 n) (fun W h => runLv rfl rfl (h.at 0 rfl) (mO_1) Tryz.underlying3 rfl) (M.take 1) ?_
          refine tA 2 (some 91) rfl rfl (M.take 1) ?_
          refine tB 3 (some 92) rfl rfl (.int .i64 m) (fun W h => runLv rfl rfl (h.at 0 rfl) (mO_2) Tryz.underlying3 rfl) (M.take 1) ?_
          refine tA 4 (some 93) rfl rfl (M.take 1) ?_
          refine wpAnyH_ready (rs := [5]) (by kernel_rfl) (by simp) ?_
          refine rdV (k := 1) (v := .int .i64 n) rfl rfl rfl rfl M rfl rfl rfl (mO_p1) (fit_1 (mO_sz cellsZ_size) (by decide)) (by kernel_rfl) (by simp [Value.oneCell']) (fun u M => ⟨(M.take 1), ?_⟩)
          refine tA 6 (some 94) rfl rfl (M.take 1) ?_
          refine wpAnyH_ready (rs := [7]) (by kernel_rfl) (by simp) ?_
          refine rdV (k := 1) (v := .int .i64 m) rfl rfl rfl rfl M rfl rfl rfl (mO_p2) (fit_1 (mO_sz cellsZ_size) (by decide)) (by kernel_rfl) (by simp [Value.oneCell']) (fun u M => ⟨(M.take 1), ?_⟩)
          refine wpAnyH_done (by kernel_rfl) ?_ _
          go_wp2_with fail
          go_meet
          exact ⟨false, _, rfl, (mO_sz cellsZ_size), Lib.hid (IsMid.of (g := Fil.zero) (gs := ⟨#[]⟩) hf rfl (Mo.ok_12 (by have h := hE.out; omega) ha hb99)), M⟩
        | true =>
          go_upto_region 28 with fail
          refine wp_region_lit ?_
          with_reducible refine rA ?_
          with_reducible refine wLv 0 M mO_1 Tryz.underlying3 ?_
          with_reducible refine wC M (Ha.out _ M.b) ?_; clear M; intro u M
          iterate 2 (with_reducible refine rA ?_)
          with_reducible refine wLv 0 M mO_2 Tryz.underlying3 ?_
          with_reducible refine wC M (Hb.out _ M.b) ?_; clear M; intro u M
          iterate 2 (with_reducible refine rA ?_)
          go_upto_region 29 with fail
          replace M := M.drew
          refine wp_region_held_drew (S := fun W => Mm w W [(pA, (mO k n m s (cellsF f fs)), 39)]) (by kernel_rfl) (M.take 1) (fun _ => ?_)
          generalize World.drew _ = u at M ⊢
          refine tA 0 (some 89) rfl rfl (M.take 1) ?_
          refine tB 1 (some 90) rfl rfl (.int .i64 n) (fun W h => runLv rfl rfl (h.at 0 rfl) (mO_1) Tryz.underlying3 rfl) (M.take 1) ?_
          refine tA 2 (some 91) rfl rfl (M.take 1) ?_
          refine tB 3 (some 92) rfl rfl (.int .i64 m) (fun W h => runLv rfl rfl (h.at 0 rfl) (mO_2) Tryz.underlying3 rfl) (M.take 1) ?_
          refine tA 4 (some 93) rfl rfl (M.take 1) ?_
          refine wpAnyH_ready (rs := [5]) (by kernel_rfl) (by simp) ?_
          refine rdV (k := 1) (v := .int .i64 n) rfl rfl rfl rfl M rfl rfl rfl (mO_p1) (fit_1 (mO_sz cellsZ_size) (by decide)) (by kernel_rfl) (by simp [Value.oneCell']) (fun u M => ⟨(M.take 1), ?_⟩)
          refine tA 6 (some 94) rfl rfl (M.take 1) ?_
          refine wpAnyH_ready (rs := [7]) (by kernel_rfl) (by simp) ?_
          refine rdV (k := 1) (v := .int .i64 m) rfl rfl rfl rfl M rfl rfl rfl (mO_p2) (fit_1 (mO_sz cellsZ_size) (by decide)) (by kernel_rfl) (by simp [Value.oneCell']) (fun u M => ⟨(M.take 1), ?_⟩)
          refine wpAnyH_done (by kernel_rfl) ?_ _
          go_wp2_with fail
          go_meet
          exact ⟨true, _, rfl, (mO_sz cellsZ_size), Lib.hid (IsMid.of (g := Fil.zero) (gs := ⟨#[]⟩) hf rfl (Mo.ok_12 (by have h := hE.out; omega) ha hb99)), M⟩
    have n12 : (k == 12) = false := by simpa using e12
    go_upto_region 27 with fail
    refine wp_region_lit ?_
    iterate 2 (with_reducible refine rA ?_)
    by_cases e13 : k = 13
    · have ek : (k == 13) = true := by simpa using e13
      have hE := Lib.hid e13
      clear e13
      go_upto_region 30 with fail
      refine wp_region_lit ?_
      iterate 2 (with_reducible refine rA ?_)
      cases vc with
      | false =>
        go_upto_region 31 with fail
        refine wp_region_lit ?_
        with_reducible refine rA ?_
        with_reducible refine wLv 0 M mO_1 Tryz.underlying3 ?_
        with_reducible refine wC M (Hc.out _ M.b) ?_; clear M; intro u M
        with_reducible refine rA ?_
        iterate 3 (with_reducible refine kA ?_)
        iterate 2 (with_reducible refine rA ?_)
        go_upto_region 32 with fail
        replace M := M.drew
        refine wp_region_held_drew (S := fun W => Mm w W [(pA, (mO k n m s (cellsF f fs)), 39)]) (by kernel_rfl) (M.take 1) (fun _ => ?_)
        generalize World.drew _ = u at M ⊢
        refine tA 0 (some 105) rfl rfl (M.take 1) ?_
        refine tB 1 (some 106) rfl rfl (.int .i64 n) (fun W h => runLv rfl rfl (h.at 0 rfl) (mO_1) Tryz.underlying3 rfl) (M.take 1) ?_
        refine tA 2 (some 107) rfl rfl (M.take 1) ?_
        refine tB 3 (some 108) rfl rfl (.int .i64 m) (fun W h => runLv rfl rfl (h.at 0 rfl) (mO_2) Tryz.underlying3 rfl) (M.take 1) ?_
        refine tA 4 (some 109) rfl rfl (M.take 1) ?_
        refine wpAnyH_ready (rs := [5]) (by kernel_rfl) (by simp) ?_
        refine rdV (k := 1) (v := .int .i64 n) rfl rfl rfl rfl M rfl rfl rfl (mO_p1) (fit_1 (mO_sz cellsZ_size) (by decide)) (by kernel_rfl) (by simp [Value.oneCell']) (fun u M => ⟨(M.take 1), ?_⟩)
        refine tA 6 (some 110) rfl rfl (M.take 1) ?_
        refine wpAnyH_ready (rs := [7]) (by kernel_rfl) (by simp) ?_
        refine rdV (k := 1) (v := .int .i64 m) rfl rfl rfl rfl M rfl rfl rfl (mO_p2) (fit_1 (mO_sz cellsZ_size) (by decide)) (by kernel_rfl) (by simp [Value.oneCell']) (fun u M => ⟨(M.take 1), ?_⟩)
        refine wpAnyH_done (by kernel_rfl) ?_ _
        go_wp2_with fail
        go_meet
        exact ⟨false, _, rfl, (mO_sz cellsZ_size), Lib.hid (IsMid.of (g := Fil.zero) (gs := ⟨#[]⟩) hf rfl (Mo.ok_13 (by have h := hE.out; omega) hc hd)), M⟩
      | true =>
        cases vd with
        | false =>
          go_upto_region 31 with fail
          refine wp_region_lit ?_
          with_reducible refine rA ?_
          with_reducible refine wLv 0 M mO_1 Tryz.underlying3 ?_
          with_reducible refine wC M (Hc.out _ M.b) ?_; clear M; intro u M
          iterate 2 (with_reducible refine rA ?_)
          with_reducible refine wLv 0 M mO_2 Tryz.underlying3 ?_
          with_reducible refine wC M (Hd.out _ M.b) ?_; clear M; intro u M
          iterate 2 (with_reducible refine rA ?_)
          go_upto_region 32 with fail
          replace M := M.drew
          refine wp_region_held_drew (S := fun W => Mm w W [(pA, (mO k n m s (cellsF f fs)), 39)]) (by kernel_rfl) (M.take 1) (fun _ => ?_)
          generalize World.drew _ = u at M ⊢
          refine tA 0 (some 105) rfl rfl (M.take 1) ?_
          refine tB 1 (some 106) rfl rfl (.int .i64 n) (fun W h => runLv rfl rfl (h.at 0 rfl) (mO_1) Tryz.underlying3 rfl) (M.take 1) ?_
          refine tA 2 (some 107) rfl rfl (M.take 1) ?_
          refine tB 3 (some 108) rfl rfl (.int .i64 m) (fun W h => runLv rfl rfl (h.at 0 rfl) (mO_2) Tryz.underlying3 rfl) (M.take 1) ?_
          refine tA 4 (some 109) rfl rfl (M.take 1) ?_
          refine wpAnyH_ready (rs := [5]) (by kernel_rfl) (by simp) ?_
          refine rdV (k := 1) (v := .int .i64 n) rfl rfl rfl rfl M rfl rfl rfl (mO_p1) (fit_1 (mO_sz cellsZ_size) (by decide)) (by kernel_rfl) (by simp [Value.oneCell']) (fun u M => ⟨(M.take 1), ?_⟩)
          refine tA 6 (some 110) rfl rfl (M.take 1) ?_
          refine wpAnyH_ready (rs := [7]) (by kernel_rfl) (by simp) ?_
          refine rdV (k := 1) (v := .int .i64 m) rfl rfl rfl rfl M rfl rfl rfl (mO_p2) (fit_1 (mO_sz cellsZ_size) (by decide)) (by kernel_rfl) (by simp [Value.oneCell']) (fun u M => ⟨(M.take 1), ?_⟩)
          refine wpAnyH_done (by kernel_rfl) ?_ _
          go_wp2_with fail
          go_meet
          exact ⟨false, _, rfl, (mO_sz cellsZ_size), Lib.hid (IsMid.of (g := Fil.zero) (gs := ⟨#[]⟩) hf rfl (Mo.ok_13 (by have h := hE.out; omega) hc hd)), M⟩
        | true =>
          go_upto_region 31 with fail
          refine wp_region_lit ?_
          with_reducible refine rA ?_
          with_reducible refine wLv 0 M mO_1 Tryz.underlying3 ?_
          with_reducible refine wC M (Hc.out _ M.b) ?_; clear M; intro u M
          iterate 2 (with_reducible refine rA ?_)
          with_reducible refine wLv 0 M mO_2 Tryz.underlying3 ?_
          with_reducible refine wC M (Hd.out _ M.b) ?_; clear M; intro u M
          iterate 2 (with_reducible refine rA ?_)
          go_upto_region 32 with fail
          replace M := M.drew
          refine wp_region_held_drew (S := fun W => Mm w W [(pA, (mO k n m s (cellsF f fs)), 39)]) (by kernel_rfl) (M.take 1) (fun _ => ?_)
          generalize World.drew _ = u at M ⊢
          refine tA 0 (some 105) rfl rfl (M.take 1) ?_
          refine tB 1 (some 106) rfl rfl (.int .i64 n) (fun W h => runLv rfl rfl (h.at 0 rfl) (mO_1) Tryz.underlying3 rfl) (M.take 1) ?_
          refine tA 2 (some 107) rfl rfl (M.take 1) ?_
          refine tB 3 (some 108) rfl rfl (.int .i64 m) (fun W h => runLv rfl rfl (h.at 0 rfl) (mO_2) Tryz.underlying3 rfl) (M.take 1) ?_
          refine tA 4 (some 109) rfl rfl (M.take 1) ?_
          refine wpAnyH_ready (rs := [5]) (by kernel_rfl) (by simp) ?_
          refine rdV (k := 1) (v := .int .i64 n) rfl rfl rfl rfl M rfl rfl rfl (mO_p1) (fit_1 (mO_sz cellsZ_size) (by decide)) (by kernel_rfl) (by simp [Value.oneCell']) (fun u M => ⟨(M.take 1), ?_⟩)
          refine tA 6 (some 110) rfl rfl (M.take 1) ?_
          refine wpAnyH_ready (rs := [7]) (by kernel_rfl) (by simp) ?_
          refine rdV (k := 1) (v := .int .i64 m) rfl rfl rfl rfl M rfl rfl rfl (mO_p2) (fit_1 (mO_sz cellsZ_size) (by decide)) (by kernel_rfl) (by simp [Value.oneCell']) (fun u M => ⟨(M.take 1), ?_⟩)
          refine wpAnyH_done (by kernel_rfl) ?_ _
          go_wp2_with fail
          go_meet
          exact ⟨true, _, rfl, (mO_sz cellsZ_size), Lib.hid (IsMid.of (g := Fil.zero) (gs := ⟨#[]⟩) hf rfl (Mo.ok_13 (by have h := hE.out; omega) hc hd)), M⟩
    exact absurd hk14 (by simp [Mo.isKind, e1, e10, e14, e2, e3, e4, e5, e6, e7, e8, e9, e11, e12, e13])
  case rest =>
    obtain ⟨ok, U, rfl, hU, HM, M⟩ := hcut
    obtain ⟨q, hok, hq⟩ := HM.out
    cases ok with
    | false =>
      go_upto_region 33 with fail
      refine wp_region_lit ?_
      iterate 2 (with_reducible refine rA ?_)
      iterate 3 (with_reducible refine kA ?_)
      iterate 2 (with_reducible refine rA ?_)
      go_wp2_with fail
      go_ret
      exact ⟨by rw [← hok]; rfl, M.b⟩
    | true =>
      cases q with
      | false =>
        go_upto_region 33 with fail
        refine wp_region_lit ?_
        iterate 2 (with_reducible refine rA ?_)
        with_reducible refine wL 0 M whole_part Tryz.underlying39 (infoTMo20 (mO_sz (cellsF_size f fs))) ?_
        with_reducible refine wL 1 M whole_part Tryz.underlying39 (infoTMo20 hU) ?_
        iterate 3 (with_reducible refine rA ?_)
        go_wp2_with fail
        go_ret
        exact ⟨by rw [← hok]; rfl, M.b⟩
      | true =>
        go_upto_region 33 with fail
        refine wp_region_lit ?_
        iterate 2 (with_reducible refine rA ?_)
        with_reducible refine wL 0 M whole_part Tryz.underlying39 (infoTMo20 (mO_sz (cellsF_size f fs))) ?_
        with_reducible refine wL 1 M whole_part Tryz.underlying39 (infoTMo20 hU) ?_
        iterate 3 (with_reducible refine rA ?_)
        go_wp2_with fail
        go_ret
        exact ⟨by rw [← hok]; rfl, M.b⟩

set_option maxHeartbeats 8000000 in
set_option maxRecDepth 100000 in
theorem mIsOther (k n m : Int) (s : ByteArray) (f : Fil.Flt) (fs : ByteArray) (w : World)
    (n1 : (k == 1) = false) (n10 : (k == 10) = false) (n14 : (k == 14) = false) (n2 : (k == 2) = false) (n3 : (k == 3) = false) (n4 : (k == 4) = false) (n5 : (k == 5) = false) (n6 : (k == 6) = false) (n7 : (k == 7) = false) (n8 : (k == 8) = false) (n9 : (k == 9) = false) (n11 : (k == 11) = false) (n12 : (k == 12) = false) (n13 : (k == 13) = false) :
    Calls Tryz.prog 32 #[.agg (mO k n m s (cellsF f fs))] w fun e w' => e = .returned (.bool false) ∧ Below w.heap.size w w' := by

  have M := Mm.nil w
  go_enter Tryz.func32, Tryz.ntmps32
  go_upto_region 0 with fail
  refine wp_region_lit ?_
  with_reducible refine wA (mO k n m s (cellsF f fs)) M ?_; clear M; intro pA u M; refine ⟨_, by (simp only [pu, sB, s0, sS]; rfl), ?_⟩
  with_reducible refine rA ?_
  go_upto_region 1 with fail
  refine wp_region_lit ?_
  with_reducible refine rA ?_
  go_upto_region 2 with fail
  refine wp_region_lit ?_
  with_reducible refine rA ?_
  with_reducible refine wLv 0 M mO_0 Tryz.underlying3 ?_
  (with_reducible refine rB (.agg (mO k 0 0 ⟨#[]⟩ cellsZ)) ?_ ?_); (· refine run_buildOp _ [(0, .int .i64 k)] rfl ?_ (built_kind k); rfl)
  with_reducible refine wA (mO 0 0 0 ⟨#[]⟩ cellsZ) M ?_; clear M; intro pU u M; refine ⟨_, by (simp only [pu, sB, s0, sS]; rfl), ?_⟩
  with_reducible refine wS 1 M (laid_all (mO_sz cellsZ_size) (mO_sz cellsZ_size)) (infoTMo20 (mO_sz cellsZ_size)) (mO_one cellsZ_one) (fit_2 (mO_sz cellsZ_size) (mO_sz cellsZ_size) (by decide)) ?_; clear M; intro u M
  go_upto_region 3 with fail
  refine wp_region_lit ?_
  with_reducible refine rA ?_
  with_reducible refine wLv 0 M mO_0 Tryz.underlying3 ?_
  go_upto_region 5 with fail
  refine wp_region_lit ?_
  iterate 2 (with_reducible refine rA ?_)
  go_upto_region 6 with fail
  refine wp_region_lit ?_
  iterate 2 (with_reducible refine rA ?_)
  go_upto_region 7 with fail
  refine wp_region_lit ?_
  iterate 2 (with_reducible refine rA ?_)
  go_upto_region 8 with fail
  refine wp_region_lit ?_
  iterate 2 (with_reducible refine rA ?_)
  go_upto_region 9 with fail
  refine wp_region_lit ?_
  iterate 2 (with_reducible refine rA ?_)
  go_upto_region 12 with fail
  refine wp_region_lit ?_
  iterate 2 (with_reducible refine rA ?_)
  go_upto_region 13 with fail
  refine wp_region_lit ?_
  iterate 2 (with_reducible refine rA ?_)
  go_upto_region 16 with fail
  refine wp_region_lit ?_
  iterate 2 (with_reducible refine rA ?_)
  go_upto_region 17 with fail
  refine wp_region_lit ?_
  iterate 2 (with_reducible refine rA ?_)
  go_upto_region 20 with fail
  refine wp_region_lit ?_
  iterate 2 (with_reducible refine rA ?_)
  go_upto_region 21 with fail
  refine wp_region_lit ?_
  iterate 2 (with_reducible refine rA ?_)
  go_upto_region 24 with fail
  refine wp_region_lit ?_
  iterate 2 (with_reducible refine rA ?_)
  go_upto_region 27 with fail
  refine wp_region_lit ?_
  iterate 2 (with_reducible refine rA ?_)
  go_upto_region 30 with fail
  refine wp_region_lit ?_
  iterate 2 (with_reducible refine rA ?_)
  go_upto_region 4 with fail
  refine wp_region_lit ?_
  with_reducible refine rA ?_
  go_wp2_with fail
  go_ret
  exact ⟨rfl, M.b⟩
end Go.Proofs.YtbcgkeclmioeiaaGreatDoor
