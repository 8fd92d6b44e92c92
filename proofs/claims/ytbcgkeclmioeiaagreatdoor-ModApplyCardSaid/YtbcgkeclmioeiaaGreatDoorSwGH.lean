/-
 MERGED: EqAb, EqSm. By an AI agent.
-/
import Derived.Test.YtbcgkeclmioeiaaGreatDoorSwGC
import Derived.Deep.Cut
import Derived.Test.YtbcgkeclmioeiaaGreatDoorSwGD
import Derived.Test.YtbcgkeclmioeiaaGreatDoorSwGF
namespace Go.Proofs.YtbcgkeclmioeiaaGreatDoor
open Go.RowKit
open Wd (Bs)

theorem infoPrice {xs : Array Value} (h : xs.size = 10) : (Tryz.prog.info? 63).map (·.size) = some xs.size := by rw [h]; kernel_rfl
theorem infoTrig {xs : Array Value} (h : xs.size = 18) : (Tryz.prog.info? 65).map (·.size) = some xs.size := by rw [h]; kernel_rfl
theorem infoRepl {xs : Array Value} (h : xs.size = 22) : (Tryz.prog.info? 69).map (·.size) = some xs.size := by rw [h]; kernel_rfl
theorem infoRef {xs : Array Value} (h : xs.size = 18) : (Tryz.prog.info? 27).map (·.size) = some xs.size := by rw [h]; kernel_rfl
theorem infoAm {xs : Array Value} (h : xs.size = 19) : (Tryz.prog.info? 73).map (·.size) = some xs.size := by rw [h]; kernel_rfl
theorem infoPool {xs : Array Value} (h : xs.size = 6) : (Tryz.prog.info? 75).map (·.size) = some xs.size := by rw [h]; kernel_rfl
theorem infoCost {xs : Array Value} (h : xs.size = 7) : (Tryz.prog.info? 50).map (·.size) = some xs.size := by rw [h]; kernel_rfl
theorem pair_at {ps qs : List EfP} (h : ps.map (·.1) = qs.map (·.1)) {j : Nat} {e : EfD} {x : Value} (hx : ps[j]? = some (e, x)) : ∃ y, qs[j]? = some (e, y) := by
 have h1 : (qs.map (·.1))[j]? = some e := by rw [← h, List.getElem?_map, hx]; rfl
 rw [List.getElem?_map] at h1
 cases hq : qs[j]? with
 | none => rw [hq] at h1; cases h1
 | some q =>
  rw [hq] at h1
  obtain ⟨e', y⟩ := q
  simp at h1
  subst h1
  exact ⟨y, rfl⟩
set_option maxHeartbeats 16000000 in
set_option maxRecDepth 100000 in
theorem lawAbilities (d : AbD) (v1 v2 v3 u1 u2 u3 : Value) (w : World) (ok : AbOk d) (ha : AbIn none w (d, v1, v2, v3)) (hb : AbIn none w (d, u1, u2, u3)) :
  Calls Tryz.prog 52 #[.agg (abC d v1 v2 v3), .agg (abC d u1 u2 u3)] w fun e w' => e = .returned (.bool true) ∧ Below w.heap.size w w' := by
 have hs1 : RowS 18 w v2 d.specs := ha.specs
 have hs2 : RowS 18 w u2 d.specs := hb.specs
 obtain ⟨a2, c2, rfl⟩ := hs1.slice
 obtain ⟨b2, k2, rfl⟩ := hs2.slice
 obtain ⟨ps, hps, hp1, hp2⟩ := ha.effs
 obtain ⟨qs, hqs, hq1, hq2⟩ := hb.effs
 simp only at hps hqs hp1 hq1
 have hp1' : RowS 64 w v3 (ps.map efP) := hp1
 have hq1' : RowS 64 w u3 (qs.map efP) := hq1
 obtain ⟨a3, c3, rfl⟩ := hp1'.slice
 obtain ⟨b3, k3, rfl⟩ := hq1'.slice
 have hpq : ps.map (·.1) = qs.map (·.1) := hps.trans hqs.symm
 have hl : qs.length = ps.length := by have := congrArg List.length hpq; simpa using this.symm
 have hfew := ok.few
 have hpl : ps.length ≤ 1000 := by have := congrArg List.length hps; simp only [List.length_map] at this; omega
 have HM1 := Lib.hid (show RowS 20 w v1 d.mods from ha.mods)
 have HM2 := Lib.hid (show RowS 20 w u1 d.mods from hb.mods)
 have HS1 := Lib.hid hs1
 have HS2 := Lib.hid hs2
 have HE1 := Lib.hid hp1'
 have HE2 := Lib.hid hq1'
 have HP2 := Lib.hid hp2
 have HQ2 := Lib.hid hq2
 have HPQ := Lib.hid hpq
 have HPS := Lib.hid hps
 have HOK := Lib.hid ok
 rw [List.length_map, List.length_map, hl] at *
 have v1o : v1.oneCell' = true := HM1.out.oneCell
 have u1o : u1.oneCell' = true := HM2.out.oneCell
 have q1 := ok.fl.eq
 have q2 := ok.price.eq
 have q3 := ok.trig.eq
 have q4 := ok.repl.eq
 clear hs1 hs2 hp1 hq1 hp1' hq1' hp2 hq2 hps hqs hpq ha hb hl

 have M := Mm.nil w
 go_enter Tryz.func52, Tryz.ntmps52
 go_upto_region 0 with fail
 refine wp_region_lit ?_
 with_reducible refine wA (abC d (v1) (.slice a2 d.specs.length c2) (.slice a3 ps.length c3)) M ?_; clear M; intro pA u M; refine ⟨_, by (simp only [pu, sB, s0, sS]; rfl), ?_⟩
 with_reducible refine wA (abC d (u1) (.slice b2 d.specs.length k2) (.slice b3 ps.length k3)) M ?_; clear M; intro pB u M; refine ⟨_, by (simp only [pu, sB, s0, sS]; rfl), ?_⟩
 with_reducible refine rA ?_
 go_upto_region 1 with fail
 refine wp_region_lit ?_
 try simp only [List.append_eq, List.cons_append, List.nil_append]
 with_reducible refine rA ?_
 with_reducible refine wLv 0 M (show ((abC d (v1) (.slice a2 d.specs.length c2) (.slice a3 ps.length c3)))[0]? = some (.int .i64 d.kind) from abC_0 ok) Tryz.underlying3 ?_
 with_reducible refine rA ?_
 with_reducible refine wLv 1 M (show ((abC d (u1) (.slice b2 d.specs.length k2) (.slice b3 ps.length k3)))[0]? = some (.int .i64 d.kind) from abC_0 ok) Tryz.underlying3 ?_
 iterate 3 (with_reducible refine rA ?_)
 with_reducible refine wL 0 M (abC_f1 ok) Tryz.underlying25 (infoTF16 ok.fl.size) ?_
 with_reducible refine rA ?_
 with_reducible refine wL 1 M (abC_f1 ok) Tryz.underlying25 (infoTF16 ok.fl.size) ?_
 iterate 4 (with_reducible refine rA ?_)
 with_reducible refine wLv 0 M (show ((abC d (v1) (.slice a2 d.specs.length c2) (.slice a3 ps.length c3)))[17]? = some (v1) from abC_17 ok) Tryz.underlying42 ?_
 with_reducible refine rA ?_
 with_reducible refine wLv 1 M (show ((abC d (u1) (.slice b2 d.specs.length k2) (.slice b3 ps.length k3)))[17]? = some (u1) from abC_17 ok) Tryz.underlying42 ?_
 with_reducible refine wC M (lawMods v1 u1 d.mods _ (HM1.out.below M.b (Nat.le_refl _)) (HM2.out.below M.b (Nat.le_refl _)) HOK.out.mods) ?_; clear M; intro u M
 iterate 4 (with_reducible refine rA ?_)
 with_reducible refine wL 0 M (abC_f18 ok) Tryz.underlying63 (infoPrice ok.price.size) ?_
 with_reducible refine rA ?_
 with_reducible refine wL 1 M (abC_f18 ok) Tryz.underlying63 (infoPrice ok.price.size) ?_
 iterate 4 (with_reducible refine rA ?_)
 with_reducible refine wLv 0 M (show ((abC d (v1) (.slice a2 d.specs.length c2) (.slice a3 ps.length c3)))[28]? = some (.bool d.slow) from abC_28 ok) Tryz.underlying4 ?_
 with_reducible refine rA ?_
 with_reducible refine wLv 1 M (show ((abC d (u1) (.slice b2 d.specs.length k2) (.slice b3 ps.length k3)))[28]? = some (.bool d.slow) from abC_28 ok) Tryz.underlying4 ?_
 iterate 4 (with_reducible refine rA ?_)
 with_reducible refine wL 0 M (abC_f29 ok) Tryz.underlying65 (infoTrig ok.trig.size) ?_
 with_reducible refine rA ?_
 with_reducible refine wL 1 M (abC_f29 ok) Tryz.underlying65 (infoTrig ok.trig.size) ?_
 iterate 4 (with_reducible refine rA ?_)
 with_reducible refine wLv 0 M (show ((abC d (v1) (.slice a2 d.specs.length c2) (.slice a3 ps.length c3)))[47]? = some (.bool d.may) from abC_47 ok) Tryz.underlying4 ?_
 with_reducible refine rA ?_
 with_reducible refine wLv 1 M (show ((abC d (u1) (.slice b2 d.specs.length k2) (.slice b3 ps.length k3)))[47]? = some (.bool d.may) from abC_47 ok) Tryz.underlying4 ?_
 iterate 4 (with_reducible refine rA ?_)
 with_reducible refine wL 0 M (abC_f50 ok) Tryz.underlying69 (infoRepl ok.repl.size) ?_
 with_reducible refine rA ?_
 with_reducible refine wL 1 M (abC_f50 ok) Tryz.underlying69 (infoRepl ok.repl.size) ?_
 iterate 4 (with_reducible refine rA ?_)
 with_reducible refine wLv 0 M (show ((abC d (v1) (.slice a2 d.specs.length c2) (.slice a3 ps.length c3)))[48]? = some (.slice a2 d.specs.length c2) from abC_48 ok) Tryz.underlying66 ?_
 iterate 2 (with_reducible refine rA ?_)
 with_reducible refine wLv 1 M (show ((abC d (u1) (.slice b2 d.specs.length k2) (.slice b3 ps.length k3)))[48]? = some (.slice b2 d.specs.length k2) from abC_48 ok) Tryz.underlying66 ?_
 iterate 5 (with_reducible refine rA ?_)
 with_reducible refine wLv 0 M (show ((abC d (v1) (.slice a2 d.specs.length c2) (.slice a3 ps.length c3)))[49]? = some (.slice a3 ps.length c3) from abC_49 ok) Tryz.underlying67 ?_
 iterate 2 (with_reducible refine rA ?_)
 with_reducible refine wLv 1 M (show ((abC d (u1) (.slice b2 d.specs.length k2) (.slice b3 ps.length k3)))[49]? = some (.slice b3 ps.length k3) from abC_49 ok) Tryz.underlying67 ?_
 iterate 3 (with_reducible refine rA ?_)
 go_upto_region 3 with fail
 refine wp_region_lit ?_
 with_reducible refine rA ?_
 go_wp2_with fail
 go_loopw [5] (fun iv wr => ∃ i : Nat, i ≤ d.specs.length ∧ iv = .int .i64 (i : Int) ∧ Mm w wr [(pA, (abC d (v1) (.slice a2 d.specs.length c2) (.slice a3 ps.length c3)), 71), (pB, (abC d (u1) (.slice b2 d.specs.length k2) (.slice b3 ps.length k3)), 71)]) (fun iv _ => d.specs.length - (intOf iv).toNat)
 case atStart => exact ⟨0, Nat.zero_le _, rfl, M⟩
 case round =>
  clear M
  obtain ⟨i, hi, rfl, M⟩ := hrel
  by_cases hlt : i < d.specs.length
  ·have h1 : (i : Int) < (d.specs.length : Int) := by omega
   have h0 : (0 : Int) ≤ (i : Int) := by omega
   obtain ⟨x, hx⟩ : ∃ x, d.specs[i]? = some x := ⟨_, List.getElem?_eq_getElem hlt⟩
   have HX := Lib.hid (HOK.out.specs x (List.mem_of_getElem? hx))
   have hq := HX.out.eq
   obtain ⟨g1, o1, rfl, _⟩ := HS1.out.get hx
   obtain ⟨g2, o2, rfl, _⟩ := HS2.out.get hx
   have HXI := Lib.hid hx
   clear hx
   go_upto_region 4 with fail
   refine wp_region_lit ?_
   iterate 2 (with_reducible refine rA ?_)
   with_reducible refine wLv 0 M (show ((abC d (v1) (.slice (some ⟨g1, o1, none⟩) d.specs.length c2) (.slice a3 ps.length c3)))[48]? = some (.slice (some ⟨g1, o1, none⟩) d.specs.length c2) from abC_48 ok) Tryz.underlying66 ?_
   iterate 2 (with_reducible refine rA ?_)
   go_upto_region 6 with fail
   refine wp_region_still_tail 10 (by kernel_rfl) (by kernel_rfl) ?_
   simp only [List.take_succ_cons, List.take_zero, List.drop_succ_cons, List.drop_zero]
   replace M := M.drew
   change wpStill _ _ (World.drew _) (fun a' => wpList _ _ _ _ a' (World.drew _)) _ _
   generalize World.drew _ = u at M ⊢
   with_reducible refine sA ?_
   with_reducible refine sLv 0 M (abC_48 ok) Tryz.underlying66 ?_
   with_reducible refine sA ?_
   (with_reducible refine sBt (.pointer (some ⟨g1, o1 + i * 18, none⟩)) ?_ ?_); (· go_simp; (try rfl))
   with_reducible refine sR (rowAt (HS1.out.below M.b (Nat.le_refl _)) HXI.out) Tryz.underlying119 (infoSp18 HX.out.size) ?_
   with_reducible refine sA ?_
   with_reducible refine sLv 1 M (abC_48 ok) Tryz.underlying66 ?_
   with_reducible refine sA ?_
   (with_reducible refine sBt (.pointer (some ⟨g2, o2 + i * 18, none⟩)) ?_ ?_); (· go_simp; (try rfl))
   with_reducible refine sR (rowAt (HS2.out.below M.b (Nat.le_refl _)) HXI.out) Tryz.underlying119 (infoSp18 HX.out.size) ?_
   refine sEnd ?_
   show wpList _ _ _ _ _ u
   with_reducible refine rA ?_
   go_upto_region 5 with fail
   refine wp_region_lit ?_
   with_reducible refine rA ?_
   (with_reducible refine rB (.int .i64 ((i + 1 : Nat) : Int)) ?_ ?_); (· go_simp; (try exact IntWalk.i64_in _ (by omega)))
   with_reducible refine rA ?_
   go_wp2_with fail
   go_roundw
   case rel => exact ⟨i + 1, by omega, rfl, M⟩
   case measure => simp [intOf]; omega
  ·have h1 : ¬ (i : Int) < (d.specs.length : Int) := by omega
   clear hi hlt
   go_upto_region 4 with fail
   refine wp_region_lit ?_
   iterate 2 (with_reducible refine rA ?_)
   with_reducible refine wLv 0 M (show ((abC d (v1) (.slice a2 d.specs.length c2) (.slice a3 ps.length c3)))[48]? = some (.slice a2 d.specs.length c2) from abC_48 ok) Tryz.underlying66 ?_
   iterate 2 (with_reducible refine rA ?_)
   go_upto_region 8 with fail
   refine wp_region_lit ?_
   with_reducible refine rA ?_
   have M0 := M
   clear M
   revert wr
   intro u0 M
   go_wp2_with fail
   go_loopw [6, 7, 8] (fun iv v7 v8 wr => ∃ i : Nat, i ≤ ps.length ∧ iv = .int .i64 (i : Int) ∧ Mm w wr [(pA, (abC d (v1) (.slice a2 d.specs.length c2) (.slice a3 ps.length c3)), 71), (pB, (abC d (u1) (.slice b2 d.specs.length k2) (.slice b3 ps.length k3)), 71)]) (fun iv _ _ _ => ps.length - (intOf iv).toNat)
   case atStart => exact ⟨0, Nat.zero_le _, rfl, M⟩
   case round =>
    clear M
    obtain ⟨j, hj, rfl, M⟩ := hrel
    by_cases hlt : j < ps.length
    ·have h2 : (j : Int) < (ps.length : Int) := by omega
     have h0 : (0 : Int) ≤ (j : Int) := by omega
     obtain ⟨⟨ef, x1⟩, hx⟩ : ∃ x, ps[j]? = some x := ⟨_, List.getElem?_eq_getElem hlt⟩
     obtain ⟨x2, hy⟩ := pair_at HPQ.out hx
     have HEO := Lib.hid (HOK.out.effs ef (by rw [← HPS.out]; exact List.mem_map.2 ⟨_, List.mem_of_getElem? hx, rfl⟩))
     have eo := HEO.out
     have X1 := Lib.hid (show RowS 20 w x1 ef.mods from HP2.out _ (List.mem_of_getElem? hx))
     have X2 := Lib.hid (show RowS 20 w x2 ef.mods from HQ2.out _ (List.mem_of_getElem? hy))
     have x1o : x1.oneCell' = true := X1.out.oneCell
     have x2o : x2.oneCell' = true := X2.out.oneCell
     have HX := Lib.hid (show (ps.map efP)[j]? = some (efC ef x1) by rw [List.getElem?_map, hx]; rfl)
     have HY := Lib.hid (show (qs.map efP)[j]? = some (efC ef x2) by rw [List.getElem?_map, hy]; rfl)
     have r1 := eo.ref.eq
     have r2 := eo.am.eq
     have r3 := eo.fl.eq
     have r4 := eo.pool.eq
     obtain ⟨g1, o1, rfl, _⟩ := HE1.out.get HX.out
     obtain ⟨g2, o2, rfl, _⟩ := HE2.out.get HY.out
     clear hx hy
     go_upto_region 9 with fail
     refine wp_region_lit ?_
     iterate 2 (with_reducible refine rA ?_)
     with_reducible refine wLv 0 M (show ((abC d (v1) (.slice a2 d.specs.length c2) (.slice (some ⟨g1, o1, none⟩) ps.length c3)))[49]? = some (.slice (some ⟨g1, o1, none⟩) ps.length c3) from abC_49 ok) Tryz.underlying67 ?_
     iterate 2 (with_reducible refine rA ?_)
     go_upto_region 11 with fail
     refine wp_region_held_drew (S := fun W => Mm w W [(pA, (abC d (v1) (.slice a2 d.specs.length c2) (.slice (some ⟨g1, o1, none⟩) ps.length c3)), 71), (pB, (abC d (u1) (.slice b2 d.specs.length k2) (.slice (some ⟨g2, o2, none⟩) ps.length k3)), 71)]) (by kernel_rfl) M.drew (fun M => ?_)
     generalize World.drew _ = u at M ⊢
     refine tA 0 (some 107) rfl rfl M ?_
     refine tB 1 (some 108) rfl rfl (.slice (some ⟨g1, o1, none⟩) ps.length c3) (fun W h => runLv rfl rfl (h.at 0 rfl) (abC_49 ok) Tryz.underlying67 rfl) M ?_
     refine tA 2 (some 109) rfl rfl M ?_
     refine tB 3 (some 110) rfl rfl (.pointer (some ⟨g1, o1 + j * 64, none⟩)) (fun W h => ?_) M ?_
     ·go_simp; (try rfl)
     refine tB 4 (some 111) rfl rfl (.agg (efC ef (x1))) (fun W h => runR rfl rfl (rowAt (HE1.out.below h.b (Nat.le_refl _)) HX.out) Tryz.underlying77 (szEf (efC_sz eo)) rfl) M ?_
     refine tA 5 (some 112) rfl rfl M ?_
     refine tB 6 (some 113) rfl rfl (.slice (some ⟨g2, o2, none⟩) ps.length k3) (fun W h => runLv rfl rfl (h.at 1 rfl) (abC_49 ok) Tryz.underlying67 rfl) M ?_
     refine tA 7 (some 114) rfl rfl M ?_
     refine tB 8 (some 115) rfl rfl (.pointer (some ⟨g2, o2 + j * 64, none⟩)) (fun W h => ?_) M ?_
     ·go_simp; (try rfl)
     refine tB 9 (some 116) rfl rfl (.agg (efC ef (x2))) (fun W h => runR rfl rfl (rowAt (HE2.out.below h.b (Nat.le_refl _)) HY.out) Tryz.underlying77 (szEf (efC_sz eo)) rfl) M ?_
     refine wpAnyH_ready (rs := [10, 11]) (by kernel_rfl) (by simp) ?_
     refine rdA (cs := zEf.cells) (T := 77) (some 7) rfl rfl rfl M (by exact run_allocOp rfl infoEf zeroEf) (fun pX u M => ⟨_, by (simp only [pu, sB, s0, sS]; rfl), M.take 2, ?_⟩) (rdA (cs := zEf.cells) (T := 77) (some 8) rfl rfl rfl M (by exact run_allocOp rfl infoEf zeroEf) (fun pY u M => ⟨_, by (simp only [pu, sB, s0, sS]; rfl), M.take 2, ?_⟩) AllReadyH.nil)
     ·refine wpAnyH_ready (rs := [11]) (by kernel_rfl) (by simp) ?_
      refine rdA (cs := zEf.cells) (T := 77) (some 8) rfl rfl rfl M (by exact run_allocOp rfl infoEf zeroEf) (fun pY u M => ⟨_, by (simp only [pu, sB, s0, sS]; rfl), M.take 2, ?_⟩) AllReadyH.nil
      refine wpAnyH_ready (rs := [12]) (by kernel_rfl) (by simp) ?_
      refine rdS (k := 2) rfl rfl rfl rfl M rfl rfl rfl (Eq.trans ((efC_sz eo)) (Eq.symm (zEf_cells))) (szEf (efC_sz eo)) (efC_one eo x1o) (fun u M => ⟨M.take 2, ?_⟩)
      refine wpAnyH_ready (rs := [13]) (by kernel_rfl) (by simp) ?_
      refine rdS (k := 3) rfl rfl rfl rfl M rfl rfl rfl (Eq.trans ((efC_sz eo)) (Eq.symm (zEf_cells))) (szEf (efC_sz eo)) (efC_one eo x2o) (fun u M => ⟨M.take 2, ?_⟩)
      refine wpAnyH_done (by kernel_rfl) ?_ _
      go_upto_region 12 with fail
      refine wp_region_lit ?_
      try simp only [List.append_eq, List.cons_append, List.nil_append]
      with_reducible refine rA ?_
      with_reducible refine wLv 2 M (show ((efC ef (x1)))[0]? = some (.int .i64 ef.op) from efC_0 eo) Tryz.underlying3 ?_
      with_reducible refine rA ?_
      with_reducible refine wLv 3 M (show ((efC ef (x2)))[0]? = some (.int .i64 ef.op) from efC_0 eo) Tryz.underlying3 ?_
      iterate 3 (with_reducible refine rA ?_)
      with_reducible refine wL 2 M (efC_f1 eo) Tryz.underlying27 (infoRef eo.ref.size) ?_
      with_reducible refine rA ?_
      with_reducible refine wL 3 M (efC_f1 eo) Tryz.underlying27 (infoRef eo.ref.size) ?_
      iterate 4 (with_reducible refine rA ?_)
      with_reducible refine wL 2 M (efC_f19 eo) Tryz.underlying73 (infoAm eo.am.size) ?_
      with_reducible refine rA ?_
      with_reducible refine wL 3 M (efC_f19 eo) Tryz.underlying73 (infoAm eo.am.size) ?_
      iterate 4 (with_reducible refine rA ?_)
      with_reducible refine wLv 2 M (show ((efC ef (x1)))[38]? = some (.int .i64 ef.ctr) from efC_38 eo) Tryz.underlying3 ?_
      with_reducible refine rA ?_
      with_reducible refine wLv 3 M (show ((efC ef (x2)))[38]? = some (.int .i64 ef.ctr) from efC_38 eo) Tryz.underlying3 ?_
      iterate 4 (with_reducible refine rA ?_)
      with_reducible refine wLv 2 M (show ((efC ef (x1)))[39]? = some (.int .i64 ef.zone) from efC_39 eo) Tryz.underlying3 ?_
      with_reducible refine rA ?_
      with_reducible refine wLv 3 M (show ((efC ef (x2)))[39]? = some (.int .i64 ef.zone) from efC_39 eo) Tryz.underlying3 ?_
      iterate 4 (with_reducible refine rA ?_)
      with_reducible refine wLv 2 M (show ((efC ef (x1)))[40]? = some (.string ef.card) from efC_40 eo) Tryz.underlying9 ?_
      with_reducible refine rA ?_
      with_reducible refine wLv 3 M (show ((efC ef (x2)))[40]? = some (.string ef.card) from efC_40 eo) Tryz.underlying9 ?_
      iterate 4 (with_reducible refine rA ?_)
      with_reducible refine wL 2 M (efC_f41 eo) Tryz.underlying25 (infoTF16 eo.fl.size) ?_
      with_reducible refine rA ?_
      with_reducible refine wL 3 M (efC_f41 eo) Tryz.underlying25 (infoTF16 eo.fl.size) ?_
      iterate 4 (with_reducible refine rA ?_)
      with_reducible refine wL 2 M (efC_f57 eo) Tryz.underlying75 (infoPool eo.pool.size) ?_
      with_reducible refine rA ?_
      with_reducible refine wL 3 M (efC_f57 eo) Tryz.underlying75 (infoPool eo.pool.size) ?_
      iterate 4 (with_reducible refine rA ?_)
      with_reducible refine wLv 2 M (show ((efC ef (x1)))[63]? = some (x1) from efC_63 eo) Tryz.underlying42 ?_
      with_reducible refine rA ?_
      with_reducible refine wLv 3 M (show ((efC ef (x2)))[63]? = some (x2) from efC_63 eo) Tryz.underlying42 ?_
      with_reducible refine wC M (lawMods x1 x2 ef.mods _ (X1.out.below M.b (Nat.le_refl _)) (X2.out.below M.b (Nat.le_refl _)) HEO.out.mods) ?_; clear M; intro u M
      iterate 2 (with_reducible refine rA ?_)
      go_upto_region 10 with fail
      refine wp_region_lit ?_
      with_reducible refine rA ?_
      (with_reducible refine rB (.int .i64 ((j + 1 : Nat) : Int)) ?_ ?_); (· go_simp; (try exact IntWalk.i64_in _ (by omega)))
      with_reducible refine rA ?_
      go_wp2_with fail
      go_roundw
      case rel => exact ⟨j + 1, by omega, rfl, M.take 2⟩
      case measure => simp [intOf]; omega
     ·refine wpAnyH_ready (rs := [10]) (by kernel_rfl) (by simp) ?_
      refine rdA (cs := zEf.cells) (T := 77) (some 7) rfl rfl rfl M (by exact run_allocOp rfl infoEf zeroEf) (fun pX u M => ⟨_, by (simp only [pu, sB, s0, sS]; rfl), M.take 2, ?_⟩) AllReadyH.nil
      refine wpAnyH_ready (rs := [12]) (by kernel_rfl) (by simp) ?_
      refine rdS (k := 3) rfl rfl rfl rfl M rfl rfl rfl (Eq.trans ((efC_sz eo)) (Eq.symm (zEf_cells))) (szEf (efC_sz eo)) (efC_one eo x1o) (fun u M => ⟨M.take 2, ?_⟩)
      refine wpAnyH_ready (rs := [13]) (by kernel_rfl) (by simp) ?_
      refine rdS (k := 2) rfl rfl rfl rfl M rfl rfl rfl (Eq.trans ((efC_sz eo)) (Eq.symm (zEf_cells))) (szEf (efC_sz eo)) (efC_one eo x2o) (fun u M => ⟨M.take 2, ?_⟩)
      refine wpAnyH_done (by kernel_rfl) ?_ _
      go_upto_region 12 with fail
      refine wp_region_lit ?_
      try simp only [List.append_eq, List.cons_append, List.nil_append]
      with_reducible refine rA ?_
      with_reducible refine wLv 3 M (show ((efC ef (x1)))[0]? = some (.int .i64 ef.op) from efC_0 eo) Tryz.underlying3 ?_
      with_reducible refine rA ?_
      with_reducible refine wLv 2 M (show ((efC ef (x2)))[0]? = some (.int .i64 ef.op) from efC_0 eo) Tryz.underlying3 ?_
      iterate 3 (with_reducible refine rA ?_)
      with_reducible refine wL 3 M (efC_f1 eo) Tryz.underlying27 (infoRef eo.ref.size) ?_
      with_reducible refine rA ?_
      with_reducible refine wL 2 M (efC_f1 eo) Tryz.underlying27 (infoRef eo.ref.size) ?_
      iterate 4 (with_reducible refine rA ?_)
      with_reducible refine wL 3 M (efC_f19 eo) Tryz.underlying73 (infoAm eo.am.size) ?_
      with_reducible refine rA ?_
      with_reducible refine wL 2 M (efC_f19 eo) Tryz.underlying73 (infoAm eo.am.size) ?_
      iterate 4 (with_reducible refine rA ?_)
      with_reducible refine wLv 3 M (show ((efC ef (x1)))[38]? = some (.int .i64 ef.ctr) from efC_38 eo) Tryz.underlying3 ?_
      with_reducible refine rA ?_
      with_reducible refine wLv 2 M (show ((efC ef (x2)))[38]? = some (.int .i64 ef.ctr) from efC_38 eo) Tryz.underlying3 ?_
      iterate 4 (with_reducible refine rA ?_)
      with_reducible refine wLv 3 M (show ((efC ef (x1)))[39]? = some (.int .i64 ef.zone) from efC_39 eo) Tryz.underlying3 ?_
      with_reducible refine rA ?_
      with_reducible refine wLv 2 M (show ((efC ef (x2)))[39]? = some (.int .i64 ef.zone) from efC_39 eo) Tryz.underlying3 ?_
      iterate 4 (with_reducible refine rA ?_)
      with_reducible refine wLv 3 M (show ((efC ef (x1)))[40]? = some (.string ef.card) from efC_40 eo) Tryz.underlying9 ?_
      with_reducible refine rA ?_
      with_reducible refine wLv 2 M (show ((efC ef (x2)))[40]? = some (.string ef.card) from efC_40 eo) Tryz.underlying9 ?_
      iterate 4 (with_reducible refine rA ?_)
      with_reducible refine wL 3 M (efC_f41 eo) Tryz.underlying25 (infoTF16 eo.fl.size) ?_
      with_reducible refine rA ?_
      with_reducible refine wL 2 M (efC_f41 eo) Tryz.underlying25 (infoTF16 eo.fl.size) ?_
      iterate 4 (with_reducible refine rA ?_)
      with_reducible refine wL 3 M (efC_f57 eo) Tryz.underlying75 (infoPool eo.pool.size) ?_
      with_reducible refine rA ?_
      with_reducible refine wL 2 M (efC_f57 eo) Tryz.underlying75 (infoPool eo.pool.size) ?_
      iterate 4 (with_reducible refine rA ?_)
      with_reducible refine wLv 3 M (show ((efC ef (x1)))[63]? = some (x1) from efC_63 eo) Tryz.underlying42 ?_
      with_reducible refine rA ?_
      with_reducible refine wLv 2 M (show ((efC ef (x2)))[63]? = some (x2) from efC_63 eo) Tryz.underlying42 ?_
      with_reducible refine wC M (lawMods x1 x2 ef.mods _ (X1.out.below M.b (Nat.le_refl _)) (X2.out.below M.b (Nat.le_refl _)) HEO.out.mods) ?_; clear M; intro u M
      iterate 2 (with_reducible refine rA ?_)
      go_upto_region 10 with fail
      refine wp_region_lit ?_
      with_reducible refine rA ?_
      (with_reducible refine rB (.int .i64 ((j + 1 : Nat) : Int)) ?_ ?_); (· go_simp; (try exact IntWalk.i64_in _ (by omega)))
      with_reducible refine rA ?_
      go_wp2_with fail
      go_roundw
      case rel => exact ⟨j + 1, by omega, rfl, M.take 2⟩
      case measure => simp [intOf]; omega
    ·have h2 : ¬ (j : Int) < (ps.length : Int) := by omega
     go_upto_region 9 with fail
     refine wp_region_lit ?_
     iterate 2 (with_reducible refine rA ?_)
     with_reducible refine wLv 0 M (show ((abC d (v1) (.slice a2 d.specs.length c2) (.slice a3 ps.length c3)))[49]? = some (.slice a3 ps.length c3) from abC_49 ok) Tryz.underlying67 ?_
     iterate 2 (with_reducible refine rA ?_)
     go_upto_region 14 with fail
     refine wp_region_lit ?_
     with_reducible refine rA ?_
     go_wp2_with fail
     go_ret
     exact ⟨rfl, M.b⟩
end Go.Proofs.YtbcgkeclmioeiaaGreatDoor
namespace Go.Proofs.YtbcgkeclmioeiaaGreatDoor
open Go.RowKit
open Wd (Bs)

theorem pairAt {α β : Type} {ps qs : List (α × β)} (h : ps.map (·.1) = qs.map (·.1)) {j : Nat} {e : α} {x : β} (hx : ps[j]? = some (e, x)) : ∃ y, qs[j]? = some (e, y) := by
 have h1 : (qs.map (·.1))[j]? = some e := by rw [← h, List.getElem?_map, hx]; rfl
 rw [List.getElem?_map] at h1
 cases hq : qs[j]? with
 | none => rw [hq] at h1; cases h1
 | some q =>
  rw [hq] at h1
  obtain ⟨e', y⟩ := q
  simp at h1
  subst h1
  exact ⟨y, rfl⟩
theorem Strs.oneCell {w : World} {v : Value} {l : List Bs} (h : Strs w v l) : v.oneCell' = true := by
 obtain ⟨ad, cap, rfl⟩ := h.slice
 rfl
theorem refSameT (a b : Int) (v1 v2 : Value) (l : List Bs) (w : World) (s1 : Strs w v1 l) (s2 : Strs w v2 l) :
  Calls Tryz.prog 51 #[.agg (liC a b v1), .agg (liC a b v2)] w fun e w' => e = .returned (.bool true) ∧ Below w.heap.size w w' := by
 have := refSame10 a b a b v1 v2 l l w s1 s2
 rw [show sameB ⟨a, b, l⟩ ⟨a, b, l⟩ = true by simp [sameB]] at this
 exact this
set_option maxHeartbeats 16000000 in
set_option maxRecDepth 100000 in
theorem lawSame (x : TrD) (sv av tv bv : Value) (w : World) (ok : Part 50 7 x.co) (oka : ∀ d ∈ x.abs, AbOk d) (hs1 : Strs w sv x.subs) (hs2 : Strs w tv x.subs) (ha : AbRow none w av x.abs) (hb : AbRow none w bv x.abs) :
  Calls Tryz.prog 29 #[.agg (trC x.nm x.co x.c x.a x.b sv x.p x.t x.k av x.u), .agg (trC x.nm x.co x.c x.a x.b tv x.p x.t x.k bv x.u)] w fun e w' => e = .returned (.bool true) ∧ Below w.heap.size w w' := by
 obtain ⟨ps, hps, hp1, hp2⟩ := ha
 obtain ⟨qs, hqs, hq1, hq2⟩ := hb
 have hp1' : RowS 72 w av (ps.map abP) := hp1
 have hq1' : RowS 72 w bv (qs.map abP) := hq1
 obtain ⟨a1, c1, rfl⟩ := hp1'.slice
 obtain ⟨b1, k1, rfl⟩ := hq1'.slice
 have hpq : ps.map (·.1) = qs.map (·.1) := hps.trans hqs.symm
 have hl : qs.length = ps.length := by have := congrArg List.length hpq; simpa using this.symm
 have hlen := hp1'.len
 unfold maxLen at hlen
 have HS1 := Lib.hid hs1
 have HS2 := Lib.hid hs2
 have HE1 := Lib.hid hp1'
 have HE2 := Lib.hid hq1'
 have HP2 := Lib.hid hp2
 have HQ2 := Lib.hid hq2
 have HPQ := Lib.hid hpq
 have HPS := Lib.hid hps
 have HOK := Lib.hid oka
 rw [List.length_map, List.length_map, hl] at *
 have svo : sv.oneCell' = true := HS1.out.oneCell
 have tvo : tv.oneCell' = true := HS2.out.oneCell
 have q1 := ok.eq
 have qn : (x.nm.toList == x.nm.toList) = true := by simp
 clear hs1 hs2 hp1 hq1 hp1' hq1' hp2 hq2 hps hqs hpq oka hl

 have M := Mm.nil w
 go_enter Tryz.func29, Tryz.ntmps29
 go_upto_region 0 with fail
 refine wp_region_lit ?_
 with_reducible refine wA (trC x.nm x.co x.c x.a x.b sv x.p x.t x.k (.slice a1 ps.length c1) x.u) M ?_; clear M; intro pA u M; refine ⟨_, by (simp only [pu, sB, s0, sS]; rfl), ?_⟩
 with_reducible refine wA (trC x.nm x.co x.c x.a x.b tv x.p x.t x.k (.slice b1 ps.length k1) x.u) M ?_; clear M; intro pB u M; refine ⟨_, by (simp only [pu, sB, s0, sS]; rfl), ?_⟩
 with_reducible refine rA ?_
 go_upto_region 1 with fail
 refine wp_region_lit ?_
 try simp only [List.append_eq, List.cons_append, List.nil_append]
 with_reducible refine rA ?_
 with_reducible refine wLv 0 M (show ((trC x.nm x.co x.c x.a x.b sv x.p x.t x.k (.slice a1 ps.length c1) x.u))[0]? = some (.string x.nm) from trC_0 ok) Tryz.underlying9 ?_
 with_reducible refine rA ?_
 with_reducible refine wLv 1 M (show ((trC x.nm x.co x.c x.a x.b tv x.p x.t x.k (.slice b1 ps.length k1) x.u))[0]? = some (.string x.nm) from trC_0 ok) Tryz.underlying9 ?_
 iterate 3 (with_reducible refine rA ?_)
 with_reducible refine wL 0 M (trC_f1 ok) Tryz.underlying50 (infoCost ok.size) ?_
 with_reducible refine rA ?_
 with_reducible refine wL 1 M (trC_f1 ok) Tryz.underlying50 (infoCost ok.size) ?_
 iterate 4 (with_reducible refine rA ?_)
 with_reducible refine wLv 0 M (show ((trC x.nm x.co x.c x.a x.b sv x.p x.t x.k (.slice a1 ps.length c1) x.u))[8]? = some (.int .i64 x.c) from trC_8 ok) Tryz.underlying3 ?_
 with_reducible refine rA ?_
 with_reducible refine wLv 1 M (show ((trC x.nm x.co x.c x.a x.b tv x.p x.t x.k (.slice b1 ps.length k1) x.u))[8]? = some (.int .i64 x.c) from trC_8 ok) Tryz.underlying3 ?_
 iterate 4 (with_reducible refine rA ?_)
 with_reducible refine wL 0 M (trC_li ok) Tryz.underlying53 (szL liC_sz) ?_
 with_reducible refine rA ?_
 with_reducible refine wL 1 M (trC_li ok) Tryz.underlying53 (szL liC_sz) ?_
 with_reducible refine wC M (refSameT x.a x.b sv tv x.subs _ (HS1.out.below M.b (Nat.le_refl _)) (HS2.out.below M.b (Nat.le_refl _))) ?_; clear M; intro u M
 iterate 4 (with_reducible refine rA ?_)
 with_reducible refine wLv 0 M (show ((trC x.nm x.co x.c x.a x.b sv x.p x.t x.k (.slice a1 ps.length c1) x.u))[12]? = some (.int .i64 x.p) from trC_12 ok) Tryz.underlying3 ?_
 with_reducible refine rA ?_
 with_reducible refine wLv 1 M (show ((trC x.nm x.co x.c x.a x.b tv x.p x.t x.k (.slice b1 ps.length k1) x.u))[12]? = some (.int .i64 x.p) from trC_12 ok) Tryz.underlying3 ?_
 iterate 4 (with_reducible refine rA ?_)
 with_reducible refine wLv 0 M (show ((trC x.nm x.co x.c x.a x.b sv x.p x.t x.k (.slice a1 ps.length c1) x.u))[13]? = some (.int .i64 x.t) from trC_13 ok) Tryz.underlying3 ?_
 with_reducible refine rA ?_
 with_reducible refine wLv 1 M (show ((trC x.nm x.co x.c x.a x.b tv x.p x.t x.k (.slice b1 ps.length k1) x.u))[13]? = some (.int .i64 x.t) from trC_13 ok) Tryz.underlying3 ?_
 iterate 4 (with_reducible refine rA ?_)
 with_reducible refine wLv 0 M (show ((trC x.nm x.co x.c x.a x.b sv x.p x.t x.k (.slice a1 ps.length c1) x.u))[14]? = some (.int .i64 x.k) from trC_14 ok) Tryz.underlying3 ?_
 with_reducible refine rA ?_
 with_reducible refine wLv 1 M (show ((trC x.nm x.co x.c x.a x.b tv x.p x.t x.k (.slice b1 ps.length k1) x.u))[14]? = some (.int .i64 x.k) from trC_14 ok) Tryz.underlying3 ?_
 iterate 4 (with_reducible refine rA ?_)
 with_reducible refine wLv 0 M (show ((trC x.nm x.co x.c x.a x.b sv x.p x.t x.k (.slice a1 ps.length c1) x.u))[16]? = some (.int .i64 x.u) from trC_16 ok) Tryz.underlying3 ?_
 with_reducible refine rA ?_
 with_reducible refine wLv 1 M (show ((trC x.nm x.co x.c x.a x.b tv x.p x.t x.k (.slice b1 ps.length k1) x.u))[16]? = some (.int .i64 x.u) from trC_16 ok) Tryz.underlying3 ?_
 iterate 4 (with_reducible refine rA ?_)
 with_reducible refine wLv 0 M (show ((trC x.nm x.co x.c x.a x.b sv x.p x.t x.k (.slice a1 ps.length c1) x.u))[15]? = some (.slice a1 ps.length c1) from trC_15 ok) Tryz.underlying54 ?_
 iterate 2 (with_reducible refine rA ?_)
 with_reducible refine wLv 1 M (show ((trC x.nm x.co x.c x.a x.b tv x.p x.t x.k (.slice b1 ps.length k1) x.u))[15]? = some (.slice b1 ps.length k1) from trC_15 ok) Tryz.underlying54 ?_
 iterate 3 (with_reducible refine rA ?_)
 go_upto_region 3 with fail
 refine wp_region_lit ?_
 with_reducible refine rA ?_
 go_wp2_with fail
 go_loopw [5] (fun iv wr => ∃ i : Nat, i ≤ ps.length ∧ iv = .int .i64 (i : Int) ∧ Mm w wr [(pA, (trC x.nm x.co x.c x.a x.b sv x.p x.t x.k (.slice a1 ps.length c1) x.u), 56), (pB, (trC x.nm x.co x.c x.a x.b tv x.p x.t x.k (.slice b1 ps.length k1) x.u), 56)]) (fun iv _ => ps.length - (intOf iv).toNat)
 case atStart => exact ⟨0, Nat.zero_le _, rfl, M⟩
 case round =>
  clear M
  obtain ⟨j, hj, rfl, M⟩ := hrel
  by_cases hlt : j < ps.length
  ·have h2 : (j : Int) < (ps.length : Int) := by omega
   have h0 : (0 : Int) ≤ (j : Int) := by omega
   obtain ⟨⟨d, v1, v2, v3⟩, hx⟩ : ∃ x, ps[j]? = some x := ⟨_, List.getElem?_eq_getElem hlt⟩
   obtain ⟨⟨u1, u2, u3⟩, hy⟩ := pairAt HPQ.out hx
   have HEO := Lib.hid (HOK.out d (by rw [← HPS.out]; exact List.mem_map.2 ⟨_, List.mem_of_getElem? hx, rfl⟩))
   have X1 := Lib.hid (HP2.out _ (List.mem_of_getElem? hx))
   have X2 := Lib.hid (HQ2.out _ (List.mem_of_getElem? hy))
   have HX := Lib.hid (show (ps.map abP)[j]? = some (abC d v1 v2 v3) by rw [List.getElem?_map, hx]; rfl)
   have HY := Lib.hid (show (qs.map abP)[j]? = some (abC d u1 u2 u3) by rw [List.getElem?_map, hy]; rfl)
   obtain ⟨g1, o1, rfl, _⟩ := HE1.out.get HX.out
   obtain ⟨g2, o2, rfl, _⟩ := HE2.out.get HY.out
   clear hx hy
   go_upto_region 4 with fail
   refine wp_region_lit ?_
   iterate 2 (with_reducible refine rA ?_)
   with_reducible refine wLv 0 M (show ((trC x.nm x.co x.c x.a x.b sv x.p x.t x.k (.slice (some ⟨g1, o1, none⟩) ps.length c1) x.u))[15]? = some (.slice (some ⟨g1, o1, none⟩) ps.length c1) from trC_15 ok) Tryz.underlying54 ?_
   iterate 2 (with_reducible refine rA ?_)
   go_upto_region 6 with fail
   refine wp_region_still_tail 10 (by kernel_rfl) (by kernel_rfl) ?_
   simp only [List.take_succ_cons, List.take_zero, List.drop_succ_cons, List.drop_zero]
   replace M := M.drew
   change wpStill _ _ (World.drew _) (fun a' => wpList _ _ _ _ a' (World.drew _)) _ _
   generalize World.drew _ = u at M ⊢
   with_reducible refine sA ?_
   with_reducible refine sLv 0 M (trC_15 ok) Tryz.underlying54 ?_
   with_reducible refine sA ?_
   (with_reducible refine sBt (.pointer (some ⟨g1, o1 + j * 72, none⟩)) ?_ ?_); (· go_simp; (try rfl))
   with_reducible refine sR (rowAt (HE1.out.below M.b (Nat.le_refl _)) HX.out) Tryz.underlying71 (szAb (abC_sz HEO.out)) ?_
   with_reducible refine sA ?_
   with_reducible refine sLv 1 M (trC_15 ok) Tryz.underlying54 ?_
   with_reducible refine sA ?_
   (with_reducible refine sBt (.pointer (some ⟨g2, o2 + j * 72, none⟩)) ?_ ?_); (· go_simp; (try rfl))
   with_reducible refine sR (rowAt (HE2.out.below M.b (Nat.le_refl _)) HY.out) Tryz.underlying71 (szAb (abC_sz HEO.out)) ?_
   refine sEnd ?_
   show wpList _ _ _ _ _ u
   with_reducible refine wC M (lawAbilities d v1 v2 v3 u1 u2 u3 _ HEO.out (X1.out.below M.b (Nat.le_refl _)) (X2.out.below M.b (Nat.le_refl _))) ?_; clear M; intro u M
   with_reducible refine rA ?_
   go_upto_region 5 with fail
   refine wp_region_lit ?_
   with_reducible refine rA ?_
   (with_reducible refine rB (.int .i64 ((j + 1 : Nat) : Int)) ?_ ?_); (· go_simp; (try exact IntWalk.i64_in _ (by omega)))
   with_reducible refine rA ?_
   go_wp2_with fail
   go_roundw
   case rel => exact ⟨j + 1, by omega, rfl, M⟩
   case measure => simp [intOf]; omega
  ·have h2 : ¬ (j : Int) < (ps.length : Int) := by omega
   go_upto_region 4 with fail
   refine wp_region_lit ?_
   iterate 2 (with_reducible refine rA ?_)
   with_reducible refine wLv 0 M (show ((trC x.nm x.co x.c x.a x.b sv x.p x.t x.k (.slice a1 ps.length c1) x.u))[15]? = some (.slice a1 ps.length c1) from trC_15 ok) Tryz.underlying54 ?_
   iterate 2 (with_reducible refine rA ?_)
   go_upto_region 8 with fail
   refine wp_region_lit ?_
   with_reducible refine rA ?_
   go_wp2_with fail
   go_ret
   exact ⟨rfl, M.b⟩
end Go.Proofs.YtbcgkeclmioeiaaGreatDoor
