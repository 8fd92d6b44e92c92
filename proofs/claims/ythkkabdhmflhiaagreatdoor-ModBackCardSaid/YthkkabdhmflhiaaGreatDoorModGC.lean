/-
  MERGED: CloneEf, CloneA, CloneAb. By an AI agent.
-/
import Derived.Test.YthkkabdhmflhiaaGreatDoorModGB
import Derived.Deep.Cut
namespace Go.Proofs.YthkkabdhmflhiaaGreatDoor
open Go.RowKit
open Wd (Bs)

set_option maxHeartbeats 4000000 in
set_option maxRecDepth 100000 in
theorem cloneEffect (d : EfD) (v : Value) (ok : EfOk d) (w : World) (hv : RowS 20 w v d.mods) :
    Calls Tryz.prog 145 #[.agg (efC d v)] w fun e w' => (∃ v', e = .returned (.agg (efC d v')) ∧ OwnRowS 27 20 w.heap.size w' v' d.mods) ∧ Below w.heap.size w w' := by
  obtain ⟨ad, cap, ev⟩ := hv.slice
  subst ev

  have B0 := Lib.hid (Below.refl w.heap.size w)
  go_enter Tryz.func145, Tryz.ntmps145
  go_upto_region 0 with fail
  refine wp_region_lit ?_
  obtain ⟨w1, hw⟩ : ∃ v, v = w.alloc (.cells (efC d (.slice ad d.mods.length cap)) 73) := ⟨_, rfl⟩
  obtain ⟨pE, hp⟩ : ∃ v, v = w.heap.size := ⟨_, rfl⟩
  have B1 : Hid (Below w.heap.size w w1) := Lib.hid (by rw [hw]; exact B0.out.alloc B0.out.size _)
  have LEE : Hid (w.heap.size ≤ pE) := Lib.hid (by rw [hp]; exact B0.out.size)
  have KE1 : Hid (Blk w1 pE (efC d (.slice ad d.mods.length cap)) 73) := Lib.hid (by rw [hw, hp]; exact Blk.new _ _ _)
  with_reducible refine wpList_runWV (some 1) (v := .pointer (some ⟨pE, 0, none⟩)) (w' := w1) ?_ ?_ ?_ ?_
  · rfl
  · rfl
  · rw [hw, hp]; (go_simp; (try rfl))
  simp only [pu, sB, s0, sS]
  clear hw hp
  clear B0
  obtain ⟨w2, hw⟩ : ∃ v, v = w1.alloc (.cells zEf.cells 73) := ⟨_, rfl⟩
  obtain ⟨pR, hp⟩ : ∃ v, v = w1.heap.size := ⟨_, rfl⟩
  have B2 : Hid (Below w.heap.size w w2) := Lib.hid (by rw [hw]; exact B1.out.alloc B1.out.size _)
  have LER : Hid (w.heap.size ≤ pR) := Lib.hid (by rw [hp]; exact B1.out.size)
  have KE2 := Lib.hid (show Blk w2 pE (efC d (.slice ad d.mods.length cap)) 73 by rw [hw]; exact KE1.out.alloc _)
  have NEER : Hid (pE ≠ pR) := Lib.hid (by rw [hp]; exact Nat.ne_of_lt KE1.out.lt)
  have NERE : Hid (pR ≠ pE) := Lib.hid (Ne.symm NEER.out)
  have KR2 : Hid (Blk w2 pR zEf.cells 73) := Lib.hid (by rw [hw, hp]; exact Blk.new _ _ _)
  with_reducible refine wpList_runWV (some 2) (v := .pointer (some ⟨pR, 0, none⟩)) (w' := w2) ?_ ?_ ?_ ?_
  · rfl
  · rfl
  · rw [hw, hp]; exact run_allocOp rfl infoEf zeroEf
  simp only [pu, sB, s0, sS]
  clear hw hp
  clear B1 KE1
  go_upto_region 1 with fail
  refine wp_region_lit ?_
  (with_reducible refine rN (v := .pointer (some ⟨pE, 63, none⟩)) ?_ ?_ ?_); (· rfl); (· go_simp; (try rfl)); simp only [pu, sB, s0, sS]
  with_reducible refine wpList_loadV (.tmp 3) (j := 63) (v := .slice ad d.mods.length cap) ?_ ?_ KE2.out ?_ Tryz.underlying37 ?_ ?_
  · rfl
  · rfl
  · exact efC_63 ok
  · rfl
  simp only [pu, sB, s0, sS]
  go_wp2_with fail
  refine (cloneMo _ d.mods _ (hv.below B2.out (Nat.le_refl _)) ok.few (fun x hx => (ok.mods x hx).one)).mono ?_
  rintro e w3 ⟨⟨v2, rfl, hO⟩, hb⟩
  obtain ⟨ad2, cap2, ev2⟩ := hO.row.slice
  subst ev2
  have B3 := Lib.hid (B2.out.trans (hb.mono B2.out.size))
  have KE3 := Lib.hid (KE2.out.below hb KE2.out.lt)
  have KR3 := Lib.hid (KR2.out.below hb KR2.out.lt)
  have HM3 : Hid (OwnRowS 27 20 w.heap.size w3 (.slice ad2 d.mods.length cap2) d.mods) := Lib.hid (hO.mono B2.out.size)
  clear hb
  clear B2 KE2 KR2
  go_simp
  rename_i hKK
  refine hKK _ _ ?_
  clear hKK
  try simp only [pu, sB, s0, sS]
  (with_reducible refine rN (v := .pointer (some ⟨pE, 63, none⟩)) ?_ ?_ ?_); (· rfl); (· go_simp; (try rfl)); simp only [pu, sB, s0, sS]
  have KE4 := Lib.hid (KE3.out.stored (o := 63) (vs := [.slice ad2 d.mods.length cap2]) (cs' := (efC d (.slice ad2 d.mods.length cap2))) (efC_p63 ok))
  have KR4 := Lib.hid (KR3.out.wholeElse ([.slice ad2 d.mods.length cap2]) (o := 63) NERE.out)
  have B4 := Lib.hid (below_whole ([.slice ad2 d.mods.length cap2]) (o := 63) B3.out LEE.out)
  have HM4 := Lib.hid (HM3.out.keep (KeepT.stored KE3.out 63 ([.slice ad2 d.mods.length cap2])) (by decide))
  with_reducible refine wpList_storeV (.tmp 6) (.tmp 5) (j := 63) (v := .slice ad2 d.mods.length cap2) ?_ ?_ KE3.out ?_ (by kernel_rfl) (by simp [Value.oneCell']) ?_
  · rfl
  · rfl
  · exact (fit_1 (efC_sz ok) (by decide))
  (try simp only [Act.put])
  generalize World.setCells _ _ _ _ = w4 at KE4 KR4 B4 HM4 ⊢
  clear B3 KE3 KR3 HM3
  go_upto_region 2 with fail
  refine wp_region_lit ?_
  with_reducible refine wpList_loadS (.tmp 1) ?_ ?_ KE4.out Tryz.underlying73 ?_ (szEf (efC_sz ok)) ?_
  · rfl
  · rfl
  · rfl
  simp only [pu, sB, s0, sS]
  have KR5 := Lib.hid (KR4.out.stored (o := 0) (vs := (efC d (.slice ad2 d.mods.length cap2)).toList) (cs' := (efC d (.slice ad2 d.mods.length cap2))) (laid_all (efC_sz ok) zEf_cells))
  have KE5 := Lib.hid (KE4.out.wholeElse ((efC d (.slice ad2 d.mods.length cap2)).toList) (o := 0) NEER.out)
  have B5 := Lib.hid (below_whole ((efC d (.slice ad2 d.mods.length cap2)).toList) (o := 0) B4.out LER.out)
  have HM5 := Lib.hid (HM4.out.keep (KeepT.stored KR4.out 0 ((efC d (.slice ad2 d.mods.length cap2)).toList)) (by decide))
  with_reducible refine wpList_storeM (.tmp 2) (.tmp 7) (o := 0) (vs := (efC d (.slice ad2 d.mods.length cap2))) ?_ ?_ KR4.out ?_ (szEf (efC_sz ok)) (efC_one ok rfl) ?_
  · rfl
  · rfl
  · exact (fit_2 zEf_cells (efC_sz ok) (by decide))
  (try simp only [Act.put])
  generalize World.setCells _ _ _ _ = w5 at KE5 KR5 B5 HM5 ⊢
  clear B4 KE4 KR4 HM4
  have hL := KR5.out.readS Tryz.underlying73 rfl (szEf (efC_sz ok))
  go_wp2_with fail
  exact bodyPost_ret (v := .agg (efC d (.slice ad2 d.mods.length cap2))) (results_cell Tryz.results145 (by rfl) hL) rfl ⟨⟨_, rfl, HM5.out⟩, B5.out⟩

set_option maxHeartbeats 4000000 in
set_option maxRecDepth 100000 in
theorem eachEf (v : Value) (l : List EfD) (w : World) (hv : EfRow none w v l) (hok : ∀ d ∈ l, EfOk d) (hl : l.length ≤ 1000) :
    Calls Tryz.prog 144 #[v, .func (.func 145) #[] #[]] w fun e w' => (∃ v', e = .returned v' ∧ EfRow (some w.heap.size) w' v' l) ∧ Below w.heap.size w w' := by
  obtain ⟨ps, hps, hr, hm⟩ := hv
  have hr0 : RowS 64 w v (ps.map efP) := hr
  have hln : ps.length ≤ 1000 := by have := congrArg List.length hps; rw [List.length_map] at this; omega
  have HOK : Hid (∀ p ∈ ps, EfOk p.1) := Lib.hid fun p hp => hok p.1 (by rw [← hps]; exact List.mem_map.2 ⟨p, hp, rfl⟩)
  have hone : ∀ x ∈ ps.map efP, x.all (·.oneCell') = true := fun x hx => by
    obtain ⟨p, hp, rfl⟩ := List.mem_map.1 hx
    exact efC_one (HOK.out p hp) (hm p hp).row.oneCell
  have HM := Lib.hid hm
  have eg : ∀ args w, (callFunc 145 args).run Tryz.prog w = .ok (.enter 145 args) w := enters_of Tryz.func145 (by kernel_rfl) rfl
  have HPS := Lib.hid hps
  have hlm : (ps.map efP).length ≤ 1000 := by rw [List.length_map]; exact hln
  have hc := Lib.hid (cloneEf v _ w hr0 hlm hone)
  clear hlm
  clear hr hr0 hone hm hok hps

  have B0 := Lib.hid (Below.refl w.heap.size w)
  go_enter Tryz.func144, Tryz.ntmps144
  go_upto_region 0 with fail
  refine wp_region_lit ?_
  (with_reducible refine rN (v := ?_) ?_ ?_ ?_); rotate_left; (· rfl); (· go_simp; (try with_reducible rfl)); simp only [pu, sB, s0, sS]
  go_upto_region 1 with fail
  refine wp_region_lit ?_
  (with_reducible refine rN (v := ?_) ?_ ?_ ?_); rotate_left; (· rfl); (· go_simp; (try with_reducible rfl)); simp only [pu, sB, s0, sS]
  go_wp2_with fail
  refine (hc.out).mono ?_
  rintro e w1 ⟨⟨v0, rfl, hO⟩, hb⟩
  obtain ⟨ad0, cap0, ev0⟩ := hO.row.slice
  rw [List.length_map] at ev0
  subst ev0
  have B1 := Lib.hid (B0.out.trans (hb.mono B0.out.size))
  have HO1 : Hid (OwnRowS 73 64 w.heap.size w1 (.slice ad0 ps.length cap0) (ps.map efP)) := Lib.hid (hO)
  clear hb
  clear B0
  go_simp
  rename_i hKK
  refine hKK _ _ ?_
  clear hKK
  try simp only [pu, sB, s0, sS]
  (with_reducible refine rN (v := ?_) ?_ ?_ ?_); rotate_left; (· rfl); (· go_simp; (try with_reducible rfl)); simp only [pu, sB, s0]
  go_upto_region 2 with fail
  refine wp_region_lit ?_
  iterate 3 ((with_reducible refine rN (v := ?_) ?_ ?_ ?_); rotate_left; (· rfl); (· go_simp; (try with_reducible rfl)); simp only [pu, sB, s0, sS])
  go_wp2_with fail
  go_loopw [5, 6, 11] (fun v5 v6 iv wr => ∃ (i : Nat) (qs : List EfP), i ≤ ps.length ∧ iv = .int .i64 (i : Int) ∧ Hid (EachAt 73 64 w.heap.size efP (fun p => p.1) (fun w' q => OwnRowS 27 20 w.heap.size w' q.2 q.1.mods) wr ps qs i ad0 cap0) ∧ Hid (Below w.heap.size w wr)) (fun v5 v6 iv _ => ps.length - (intOf iv).toNat)
  case atStart => exact ⟨0, ps, by omega, rfl, Lib.hid (EachAt.start HO1.out), B1⟩
  case round =>
    obtain ⟨i, qs, hi, rfl, HE, HB⟩ := hrel
    clear B1 HO1
    have B0 := Lib.hid (Below.refl wr.heap.size wr)
    by_cases hlt : i < ps.length
    · obtain ⟨p, g, hp, rfl, hBg, hr⟩ := HE.out.at hlt
      have HR := Lib.hid hr
      have HP := Lib.hid hp
      have HBG := Lib.hid hBg
      have HMP := Lib.hid (HM.out p (List.mem_of_getElem? hp))
      have ok := HOK.out p (List.mem_of_getElem? hp)
      clear hp hr hBg
      have hi0 : (0 : Int) ≤ (i : Int) := by omega
      have hil : (i : Int) < (ps.length : Int) := by omega
      go_upto_region 3 with fail
      refine wp_region_lit ?_
      (with_reducible refine rN (v := .bool true) ?_ ?_ ?_); (· rfl); (· go_simp; (try with_reducible rfl)); simp only [pu, sB, s0, sS]
      go_upto_region 4 with fail
      refine wp_region_lit ?_
      (with_reducible refine rN (v := ?_) ?_ ?_ ?_); rotate_left; (· rfl); (· go_simp; (try with_reducible rfl)); simp only [pu, sB, s0, sS]
      (with_reducible refine rN (v := .pointer (some ⟨g, i * 64, none⟩)) ?_ ?_ ?_); (· rfl); (· go_simp; (try rfl)); simp only [pu, sB, s0, sS]
      with_reducible refine wpList_loadR (.tmp 14) (o := i * 64) (xs := (efC p.1 (p.2))) ?_ ?_ HR.out Tryz.underlying73 ?_ (szEf (efC_sz ok)) ?_
      · rfl
      · rfl
      · rfl
      simp only [pu, sB, s0, sS]
      obtain ⟨w1, hw⟩ : ∃ v, v = wr.alloc (.cells zEf.cells 73) := ⟨_, rfl⟩
      obtain ⟨pX, hp⟩ : ∃ v, v = wr.heap.size := ⟨_, rfl⟩
      have B1 : Hid (Below wr.heap.size wr w1) := Lib.hid (by rw [hw]; exact B0.out.alloc B0.out.size _)
      have LEX : Hid (wr.heap.size ≤ pX) := Lib.hid (by rw [hp]; exact B0.out.size)
      have KX1 : Hid (Blk w1 pX zEf.cells 73) := Lib.hid (by rw [hw, hp]; exact Blk.new _ _ _)
      with_reducible refine wpList_runWV (some 6) (v := .pointer (some ⟨pX, 0, none⟩)) (w' := w1) ?_ ?_ ?_ ?_
      · rfl
      · rfl
      · rw [hw, hp]; exact run_allocOp rfl infoEf zeroEf
      simp only [pu, sB, s0, sS]
      clear hw hp
      clear B0
      (with_reducible refine rN (v := ?_) ?_ ?_ ?_); rotate_left; (· rfl); (· go_simp; (try with_reducible rfl)); simp only [pu, sB, s0, sS]
      have KX2 := Lib.hid (KX1.out.stored (o := 0) (vs := (efC p.1 (p.2)).toList) (cs' := (efC p.1 (p.2))) (laid_all (efC_sz ok) zEf_cells))
      have B2 := Lib.hid (below_whole ((efC p.1 (p.2)).toList) (o := 0) B1.out LEX.out)
      with_reducible refine wpList_storeM (.tmp 6) (.tmp 15) (o := 0) (vs := (efC p.1 (p.2))) ?_ ?_ KX1.out ?_ (szEf (efC_sz ok)) (efC_one ok HMP.out.row.oneCell) ?_
      · rfl
      · rfl
      · exact (fit_2 zEf_cells (efC_sz ok) (by decide))
      (try simp only [Act.put])
      generalize World.setCells _ _ _ _ = w2 at KX2 B2 ⊢
      clear B1 KX1
      go_upto_region 5 with fail
      refine wp_region_lit ?_
      iterate 3 ((with_reducible refine rN (v := ?_) ?_ ?_ ?_); rotate_left; (· rfl); (· go_simp; (try with_reducible rfl)); simp only [pu, sB, s0, sS])
      with_reducible refine wpList_loadS (.tmp 6) ?_ ?_ KX2.out Tryz.underlying73 ?_ (szEf (efC_sz ok)) ?_
      · rfl
      · rfl
      · rfl
      simp only [pu, sB, s0, sS]
      go_wp2_with fail
      refine (cloneEffect p.1 p.2 ok _ (HMP.out.row.below (HB.out.trans (B2.out.mono HB.out.size)) (Nat.le_refl _))).mono ?_
      rintro e wz ⟨⟨v2, rfl, hO⟩, hb⟩
      have BZ := Lib.hid (B2.out.trans (hb.mono B2.out.size))
      have HB2 := Lib.hid (HB.out.trans (BZ.out.mono HB.out.size))
      have HEZ := Lib.hid (HE.out.below BZ.out (fun q hq => hq.below BZ.out (Nat.le_refl _)))
      have HN := Lib.hid (HEZ.out.next (by decide) hlt HP.out (q := (p.1, v2)) rfl (efC_sz ok) (hO.mono (Nat.le_trans HB.out.size B2.out.size)) (fun w' q hk hq => hq.keep hk (by decide)))
      clear hb
      go_simp
      rename_i hKK
      refine hKK _ _ ?_
      clear hKK
      try simp only [pu, sB, s0, sS]
      (with_reducible refine rN (v := .pointer (some ⟨g, i * 64, none⟩)) ?_ ?_ ?_); (· rfl); (· go_simp; (try rfl)); simp only [pu, sB, s0, sS]
      refine wpList_store_mid rfl 73 (.tmp 21) (.tmp 20) rfl g (i * 64) (efC p.1 (v2)) rfl rfl (by rw [(efC_sz ok)]; exact HN.out.1) (szEf (efC_sz ok)) (efC_one ok hO.row.oneCell) ?_
      have HB3 := Lib.hid (below_whole ((efC p.1 (v2)).toList) (o := i * 64) HB2.out HBG.out)
      go_wp2_with fail
      go_roundw
      case rel => exact ⟨i + 1, _, by omega, by go_num, Lib.hid HN.out.2, HB3⟩
      case measure => simp [intOf]; omega
    obtain rfl : i = ps.length := by omega
    have hil : ¬ (ps.length : Int) < (ps.length : Int) := by omega
    go_upto_region 3 with fail
    refine wp_region_lit ?_
    (with_reducible refine rN (v := .bool false) ?_ ?_ ?_); (· rfl); (· go_simp; (try with_reducible rfl)); simp only [pu, sB, s0, sS]
    go_upto_region 7 with fail
    refine wp_region_lit ?_
    iterate 2 ((with_reducible refine rN (v := ?_) ?_ ?_ ?_); rotate_left; (· rfl); (· go_simp; (try with_reducible rfl)); simp only [pu, sB, s0, sS])
    go_wp2_with fail
    go_ret
    obtain ⟨rs, h1, h2, h3⟩ := HE.out.fin (Nat.le_refl _)
    exact ⟨⟨_, rfl, rs, by rw [h1, HPS.out], h2, h3⟩, HB.out⟩
end Go.Proofs.YthkkabdhmflhiaaGreatDoor
namespace Go.Proofs.YthkkabdhmflhiaaGreatDoor
open Go.RowKit
open Wd (Bs)

set_option maxHeartbeats 4000000 in
set_option maxRecDepth 100000 in
theorem cloneAbility (d : AbD) (v1 v2 v3 : Value) (ok : AbOk d) (w : World) (hv : AbIn none w (d, v1, v2, v3)) :
    Calls Tryz.prog 101 #[.agg (abC d v1 v2 v3)] w fun e w' => (∃ a2 b2 c2, e = .returned (.agg (abC d a2 b2 c2)) ∧ AbIn (some w.heap.size) w' (d, a2, b2, c2)) ∧ Below w.heap.size w w' := by
  have hv1 : RowS 20 w v1 d.mods := hv.mods
  have hv2 : RowS 18 w v2 d.specs := hv.specs
  have hv3 : EfRow none w v3 d.effs := hv.effs
  obtain ⟨ad, cap, ev⟩ := hv1.slice
  subst ev
  obtain ⟨bd, bcap, ev⟩ := hv2.slice
  subst ev
  obtain ⟨cd, ccap, ev⟩ := hv3.slice
  subst ev
  have HV1 := Lib.hid hv1
  have HV2 := Lib.hid hv2
  have HV3 := Lib.hid hv3
  clear hv hv1 hv2 hv3

  have B0 := Lib.hid (Below.refl w.heap.size w)
  go_enter Tryz.func101, Tryz.ntmps101
  go_upto_region 0 with fail
  refine wp_region_lit ?_
  obtain ⟨w1, hw⟩ : ∃ v, v = w.alloc (.cells (abC d (.slice ad d.mods.length cap) (.slice bd d.specs.length bcap) (.slice cd d.effs.length ccap)) 65) := ⟨_, rfl⟩
  obtain ⟨pE, hp⟩ : ∃ v, v = w.heap.size := ⟨_, rfl⟩
  have B1 : Hid (Below w.heap.size w w1) := Lib.hid (by rw [hw]; exact B0.out.alloc B0.out.size _)
  have LEE : Hid (w.heap.size ≤ pE) := Lib.hid (by rw [hp]; exact B0.out.size)
  have KE1 : Hid (Blk w1 pE (abC d (.slice ad d.mods.length cap) (.slice bd d.specs.length bcap) (.slice cd d.effs.length ccap)) 65) := Lib.hid (by rw [hw, hp]; exact Blk.new _ _ _)
  with_reducible refine wpList_runWV (some 1) (v := .pointer (some ⟨pE, 0, none⟩)) (w' := w1) ?_ ?_ ?_ ?_
  · rfl
  · rfl
  · rw [hw, hp]; (go_simp; (try rfl))
  simp only [pu, sB, s0, sS]
  clear hw hp
  clear B0
  obtain ⟨w2, hw⟩ : ∃ v, v = w1.alloc (.cells zAb.cells 65) := ⟨_, rfl⟩
  obtain ⟨pR, hp⟩ : ∃ v, v = w1.heap.size := ⟨_, rfl⟩
  have B2 : Hid (Below w.heap.size w w2) := Lib.hid (by rw [hw]; exact B1.out.alloc B1.out.size _)
  have LER : Hid (w.heap.size ≤ pR) := Lib.hid (by rw [hp]; exact B1.out.size)
  have KE2 := Lib.hid (show Blk w2 pE (abC d (.slice ad d.mods.length cap) (.slice bd d.specs.length bcap) (.slice cd d.effs.length ccap)) 65 by rw [hw]; exact KE1.out.alloc _)
  have NEER : Hid (pE ≠ pR) := Lib.hid (by rw [hp]; exact Nat.ne_of_lt KE1.out.lt)
  have NERE : Hid (pR ≠ pE) := Lib.hid (Ne.symm NEER.out)
  have KR2 : Hid (Blk w2 pR zAb.cells 65) := Lib.hid (by rw [hw, hp]; exact Blk.new _ _ _)
  with_reducible refine wpList_runWV (some 2) (v := .pointer (some ⟨pR, 0, none⟩)) (w' := w2) ?_ ?_ ?_ ?_
  · rfl
  · rfl
  · rw [hw, hp]; exact run_allocOp rfl infoAb zeroAb
  simp only [pu, sB, s0, sS]
  clear hw hp
  clear B1 KE1
  go_upto_region 1 with fail
  refine wp_region_lit ?_
  (with_reducible refine rN (v := .pointer (some ⟨pE, 17, none⟩)) ?_ ?_ ?_); (· rfl); (· go_simp; (try rfl)); simp only [pu, sB, s0, sS]
  with_reducible refine wpList_loadV (.tmp 3) (j := 17) (v := .slice ad d.mods.length cap) ?_ ?_ KE2.out ?_ Tryz.underlying37 ?_ ?_
  · rfl
  · rfl
  · exact abC_17 ok
  · rfl
  simp only [pu, sB, s0, sS]
  go_wp2_with fail
  refine (cloneMo _ d.mods _ (HV1.out.below B2.out (Nat.le_refl _)) ok.few.1 (fun x hx => (ok.mods x hx).one)).mono ?_
  rintro e w3 ⟨⟨v2, rfl, hO⟩, hb⟩
  obtain ⟨ad2, cap2, ev2⟩ := hO.row.slice
  subst ev2
  have B3 := Lib.hid (B2.out.trans (hb.mono B2.out.size))
  have KE3 := Lib.hid (KE2.out.below hb KE2.out.lt)
  have KR3 := Lib.hid (KR2.out.below hb KR2.out.lt)
  have HM3 : Hid (OwnRowS 27 20 w.heap.size w3 (.slice ad2 d.mods.length cap2) d.mods) := Lib.hid (hO.mono B2.out.size)
  clear hb
  clear B2 KE2 KR2
  go_simp
  rename_i hKK
  refine hKK _ _ ?_
  clear hKK
  try simp only [pu, sB, s0, sS]
  (with_reducible refine rN (v := .pointer (some ⟨pE, 17, none⟩)) ?_ ?_ ?_); (· rfl); (· go_simp; (try rfl)); simp only [pu, sB, s0, sS]
  have KE4 := Lib.hid (KE3.out.stored (o := 17) (vs := [.slice ad2 d.mods.length cap2]) (cs' := (abC d (.slice ad2 d.mods.length cap2) (.slice bd d.specs.length bcap) (.slice cd d.effs.length ccap))) (abC_p17 ok))
  have KR4 := Lib.hid (KR3.out.wholeElse ([.slice ad2 d.mods.length cap2]) (o := 17) NERE.out)
  have B4 := Lib.hid (below_whole ([.slice ad2 d.mods.length cap2]) (o := 17) B3.out LEE.out)
  have HM4 := Lib.hid (HM3.out.keep (KeepT.stored KE3.out 17 ([.slice ad2 d.mods.length cap2])) (by decide))
  with_reducible refine wpList_storeV (.tmp 6) (.tmp 5) (j := 17) (v := .slice ad2 d.mods.length cap2) ?_ ?_ KE3.out ?_ (by kernel_rfl) (by simp [Value.oneCell']) ?_
  · rfl
  · rfl
  · exact (fit_1 (abC_sz ok) (by decide))
  (try simp only [Act.put])
  generalize World.setCells _ _ _ _ = w4 at KE4 KR4 B4 HM4 ⊢
  clear B3 KE3 KR3 HM3
  go_upto_region 2 with fail
  refine wp_region_lit ?_
  (with_reducible refine rN (v := .pointer (some ⟨pE, 48, none⟩)) ?_ ?_ ?_); (· rfl); (· go_simp; (try rfl)); simp only [pu, sB, s0, sS]
  with_reducible refine wpList_loadV (.tmp 7) (j := 48) (v := .slice bd d.specs.length bcap) ?_ ?_ KE4.out ?_ Tryz.underlying60 ?_ ?_
  · rfl
  · rfl
  · exact abC_48 ok
  · rfl
  simp only [pu, sB, s0, sS]
  go_wp2_with fail
  refine (cloneSp _ d.specs _ (HV2.out.below B4.out (Nat.le_refl _)) ok.few.2.1 (fun x hx => (ok.specs x hx).one)).mono ?_
  rintro e w5 ⟨⟨v2, rfl, hO⟩, hb⟩
  obtain ⟨bd2, bcap2, ev2⟩ := hO.row.slice
  subst ev2
  have B5 := Lib.hid (B4.out.trans (hb.mono B4.out.size))
  have KE5 := Lib.hid (KE4.out.below hb KE4.out.lt)
  have KR5 := Lib.hid (KR4.out.below hb KR4.out.lt)
  have HM5 := Lib.hid (HM4.out.below hb (Nat.le_refl _))
  have HS5 : Hid (OwnRowS 112 18 w.heap.size w5 (.slice bd2 d.specs.length bcap2) d.specs) := Lib.hid (hO.mono B4.out.size)
  clear hb
  clear B4 KE4 KR4 HM4
  go_simp
  rename_i hKK
  refine hKK _ _ ?_
  clear hKK
  try simp only [pu, sB, s0, sS]
  (with_reducible refine rN (v := .pointer (some ⟨pE, 48, none⟩)) ?_ ?_ ?_); (· rfl); (· go_simp; (try rfl)); simp only [pu, sB, s0, sS]
  have KE6 := Lib.hid (KE5.out.stored (o := 48) (vs := [.slice bd2 d.specs.length bcap2]) (cs' := (abC d (.slice ad2 d.mods.length cap2) (.slice bd2 d.specs.length bcap2) (.slice cd d.effs.length ccap))) (abC_p48 ok))
  have KR6 := Lib.hid (KR5.out.wholeElse ([.slice bd2 d.specs.length bcap2]) (o := 48) NERE.out)
  have B6 := Lib.hid (below_whole ([.slice bd2 d.specs.length bcap2]) (o := 48) B5.out LEE.out)
  have HM6 := Lib.hid (HM5.out.keep (KeepT.stored KE5.out 48 ([.slice bd2 d.specs.length bcap2])) (by decide))
  have HS6 := Lib.hid (HS5.out.keep (KeepT.stored KE5.out 48 ([.slice bd2 d.specs.length bcap2])) (by decide))
  with_reducible refine wpList_storeV (.tmp 10) (.tmp 9) (j := 48) (v := .slice bd2 d.specs.length bcap2) ?_ ?_ KE5.out ?_ (by kernel_rfl) (by simp [Value.oneCell']) ?_
  · rfl
  · rfl
  · exact (fit_1 (abC_sz ok) (by decide))
  (try simp only [Act.put])
  generalize World.setCells _ _ _ _ = w6 at KE6 KR6 B6 HM6 HS6 ⊢
  clear B5 KE5 KR5 HM5 HS5
  go_upto_region 3 with fail
  refine wp_region_lit ?_
  (with_reducible refine rN (v := .pointer (some ⟨pE, 49, none⟩)) ?_ ?_ ?_); (· rfl); (· go_simp; (try rfl)); simp only [pu, sB, s0, sS]
  with_reducible refine wpList_loadV (.tmp 11) (j := 49) (v := .slice cd d.effs.length ccap) ?_ ?_ KE6.out ?_ Tryz.underlying61 ?_ ?_
  · rfl
  · rfl
  · exact abC_49 ok
  · rfl
  simp only [pu, sB, s0, sS]
  go_wp2_with fail
  refine (eachEf _ d.effs _ (HV3.out.below B6.out (Nat.le_refl _)) ok.effs ok.few.2.2).mono ?_
  rintro e w7 ⟨⟨v2, rfl, hO⟩, hb⟩
  obtain ⟨cd2, ccap2, ev2⟩ := hO.slice
  subst ev2
  have B7 := Lib.hid (B6.out.trans (hb.mono B6.out.size))
  have KE7 := Lib.hid (KE6.out.below hb KE6.out.lt)
  have KR7 := Lib.hid (KR6.out.below hb KR6.out.lt)
  have HM7 := Lib.hid (HM6.out.below hb (Nat.le_refl _))
  have HS7 := Lib.hid (HS6.out.below hb (Nat.le_refl _))
  have HF7 : Hid (EfRow (some w.heap.size) w7 (.slice cd2 d.effs.length ccap2) d.effs) := Lib.hid (hO.mono B6.out.size)
  clear hb
  clear B6 KE6 KR6 HM6 HS6
  go_simp
  rename_i hKK
  refine hKK _ _ ?_
  clear hKK
  try simp only [pu, sB, s0, sS]
  (with_reducible refine rN (v := .pointer (some ⟨pE, 49, none⟩)) ?_ ?_ ?_); (· rfl); (· go_simp; (try rfl)); simp only [pu, sB, s0, sS]
  have KE8 := Lib.hid (KE7.out.stored (o := 49) (vs := [.slice cd2 d.effs.length ccap2]) (cs' := (abC d (.slice ad2 d.mods.length cap2) (.slice bd2 d.specs.length bcap2) (.slice cd2 d.effs.length ccap2))) (abC_p49 ok))
  have KR8 := Lib.hid (KR7.out.wholeElse ([.slice cd2 d.effs.length ccap2]) (o := 49) NERE.out)
  have B8 := Lib.hid (below_whole ([.slice cd2 d.effs.length ccap2]) (o := 49) B7.out LEE.out)
  have HM8 := Lib.hid (HM7.out.keep (KeepT.stored KE7.out 49 ([.slice cd2 d.effs.length ccap2])) (by decide))
  have HS8 := Lib.hid (HS7.out.keep (KeepT.stored KE7.out 49 ([.slice cd2 d.effs.length ccap2])) (by decide))
  have HF8 := Lib.hid (HF7.out.keep (KeepT.stored KE7.out 49 ([.slice cd2 d.effs.length ccap2])) (by decide))
  with_reducible refine wpList_storeV (.tmp 14) (.tmp 13) (j := 49) (v := .slice cd2 d.effs.length ccap2) ?_ ?_ KE7.out ?_ (by kernel_rfl) (by simp [Value.oneCell']) ?_
  · rfl
  · rfl
  · exact (fit_1 (abC_sz ok) (by decide))
  (try simp only [Act.put])
  generalize World.setCells _ _ _ _ = w8 at KE8 KR8 B8 HM8 HS8 HF8 ⊢
  clear B7 KE7 KR7 HM7 HS7 HF7
  go_upto_region 4 with fail
  refine wp_region_lit ?_
  with_reducible refine wpList_loadS (.tmp 1) ?_ ?_ KE8.out Tryz.underlying65 ?_ (szAb (abC_sz ok)) ?_
  · rfl
  · rfl
  · rfl
  simp only [pu, sB, s0, sS]
  have KR9 := Lib.hid (KR8.out.stored (o := 0) (vs := (abC d (.slice ad2 d.mods.length cap2) (.slice bd2 d.specs.length bcap2) (.slice cd2 d.effs.length ccap2)).toList) (cs' := (abC d (.slice ad2 d.mods.length cap2) (.slice bd2 d.specs.length bcap2) (.slice cd2 d.effs.length ccap2))) (laid_all (abC_sz ok) zAb_cells))
  have KE9 := Lib.hid (KE8.out.wholeElse ((abC d (.slice ad2 d.mods.length cap2) (.slice bd2 d.specs.length bcap2) (.slice cd2 d.effs.length ccap2)).toList) (o := 0) NEER.out)
  have B9 := Lib.hid (below_whole ((abC d (.slice ad2 d.mods.length cap2) (.slice bd2 d.specs.length bcap2) (.slice cd2 d.effs.length ccap2)).toList) (o := 0) B8.out LER.out)
  have HM9 := Lib.hid (HM8.out.keep (KeepT.stored KR8.out 0 ((abC d (.slice ad2 d.mods.length cap2) (.slice bd2 d.specs.length bcap2) (.slice cd2 d.effs.length ccap2)).toList)) (by decide))
  have HS9 := Lib.hid (HS8.out.keep (KeepT.stored KR8.out 0 ((abC d (.slice ad2 d.mods.length cap2) (.slice bd2 d.specs.length bcap2) (.slice cd2 d.effs.length ccap2)).toList)) (by decide))
  have HF9 := Lib.hid (HF8.out.keep (KeepT.stored KR8.out 0 ((abC d (.slice ad2 d.mods.length cap2) (.slice bd2 d.specs.length bcap2) (.slice cd2 d.effs.length ccap2)).toList)) (by decide))
  with_reducible refine wpList_storeM (.tmp 2) (.tmp 15) (o := 0) (vs := (abC d (.slice ad2 d.mods.length cap2) (.slice bd2 d.specs.length bcap2) (.slice cd2 d.effs.length ccap2))) ?_ ?_ KR8.out ?_ (szAb (abC_sz ok)) (abC_one ok rfl rfl rfl) ?_
  · rfl
  · rfl
  · exact (fit_2 zAb_cells (abC_sz ok) (by decide))
  (try simp only [Act.put])
  generalize World.setCells _ _ _ _ = w9 at KE9 KR9 B9 HM9 HS9 HF9 ⊢
  clear B8 KE8 KR8 HM8 HS8 HF8
  have hL := KR9.out.readS Tryz.underlying65 rfl (szAb (abC_sz ok))
  go_wp2_with fail
  exact bodyPost_ret (v := .agg (abC d (.slice ad2 d.mods.length cap2) (.slice bd2 d.specs.length bcap2) (.slice cd2 d.effs.length ccap2))) (results_cell Tryz.results101 (by rfl) hL) rfl ⟨⟨_, _, _, rfl, HM9.out, HS9.out, HF9.out⟩, B9.out⟩
end Go.Proofs.YthkkabdhmflhiaaGreatDoor
namespace Go.Proofs.YthkkabdhmflhiaaGreatDoor
open Go.RowKit
open Wd (Bs)

set_option maxHeartbeats 4000000 in
set_option maxRecDepth 100000 in
theorem eachAb (v : Value) (l : List AbD) (w : World) (hv : AbRow none w v l) (hok : ∀ d ∈ l, AbOk d) (hl : l.length ≤ 1000) :
    Calls Tryz.prog 100 #[v, .func (.func 101) #[] #[]] w fun e w' => (∃ v', e = .returned v' ∧ AbRow (some w.heap.size) w' v' l) ∧ Below w.heap.size w w' := by
  obtain ⟨ps, hps, hr, hm⟩ := hv
  have hr0 : RowS 72 w v (ps.map abP) := hr
  have hln : ps.length ≤ 1000 := by have := congrArg List.length hps; rw [List.length_map] at this; omega
  have HOK : Hid (∀ p ∈ ps, AbOk p.1) := Lib.hid fun p hp => hok p.1 (by rw [← hps]; exact List.mem_map.2 ⟨p, hp, rfl⟩)
  have hone : ∀ x ∈ ps.map abP, x.all (·.oneCell') = true := fun x hx => by
    obtain ⟨p, hp, rfl⟩ := List.mem_map.1 hx
    exact abC_one (HOK.out p hp) (hm p hp).mods.row.oneCell (hm p hp).specs.row.oneCell (hm p hp).effs.oneCell
  have HM := Lib.hid hm
  have eg : ∀ args w, (callFunc 101 args).run Tryz.prog w = .ok (.enter 101 args) w := enters_of Tryz.func101 (by kernel_rfl) rfl
  have HPS := Lib.hid hps
  have hlm : (ps.map abP).length ≤ 1000 := by rw [List.length_map]; exact hln
  have hc := Lib.hid (cloneAb v _ w hr0 hlm hone)
  clear hlm
  clear hr hr0 hone hm hok hps

  have B0 := Lib.hid (Below.refl w.heap.size w)
  go_enter Tryz.func100, Tryz.ntmps100
  go_upto_region 0 with fail
  refine wp_region_lit ?_
  (with_reducible refine rN (v := ?_) ?_ ?_ ?_); rotate_left; (· rfl); (· go_simp; (try with_reducible rfl)); simp only [pu, sB, s0, sS]
  go_upto_region 1 with fail
  refine wp_region_lit ?_
  (with_reducible refine rN (v := ?_) ?_ ?_ ?_); rotate_left; (· rfl); (· go_simp; (try with_reducible rfl)); simp only [pu, sB, s0, sS]
  go_wp2_with fail
  refine (hc.out).mono ?_
  rintro e w1 ⟨⟨v0, rfl, hO⟩, hb⟩
  obtain ⟨ad0, cap0, ev0⟩ := hO.row.slice
  rw [List.length_map] at ev0
  subst ev0
  have B1 := Lib.hid (B0.out.trans (hb.mono B0.out.size))
  have HO1 : Hid (OwnRowS 65 72 w.heap.size w1 (.slice ad0 ps.length cap0) (ps.map abP)) := Lib.hid (hO)
  clear hb
  clear B0
  go_simp
  rename_i hKK
  refine hKK _ _ ?_
  clear hKK
  try simp only [pu, sB, s0, sS]
  (with_reducible refine rN (v := ?_) ?_ ?_ ?_); rotate_left; (· rfl); (· go_simp; (try with_reducible rfl)); simp only [pu, sB, s0]
  go_upto_region 2 with fail
  refine wp_region_lit ?_
  iterate 3 ((with_reducible refine rN (v := ?_) ?_ ?_ ?_); rotate_left; (· rfl); (· go_simp; (try with_reducible rfl)); simp only [pu, sB, s0, sS])
  go_wp2_with fail
  go_loopw [5, 6, 11] (fun v5 v6 iv wr => ∃ (i : Nat) (qs : List AbP), i ≤ ps.length ∧ iv = .int .i64 (i : Int) ∧ Hid (EachAt 65 72 w.heap.size abP (fun p => p.1) (fun w' q => AbIn (some w.heap.size) w' q) wr ps qs i ad0 cap0) ∧ Hid (Below w.heap.size w wr)) (fun v5 v6 iv _ => ps.length - (intOf iv).toNat)
  case atStart => exact ⟨0, ps, by omega, rfl, Lib.hid (EachAt.start HO1.out), B1⟩
  case round =>
    obtain ⟨i, qs, hi, rfl, HE, HB⟩ := hrel
    clear B1 HO1
    have B0 := Lib.hid (Below.refl wr.heap.size wr)
    by_cases hlt : i < ps.length
    · obtain ⟨p, g, hp, rfl, hBg, hr⟩ := HE.out.at hlt
      have HR := Lib.hid hr
      have HP := Lib.hid hp
      have HBG := Lib.hid hBg
      have HMP := Lib.hid (HM.out p (List.mem_of_getElem? hp))
      have ok := HOK.out p (List.mem_of_getElem? hp)
      clear hp hr hBg
      have hi0 : (0 : Int) ≤ (i : Int) := by omega
      have hil : (i : Int) < (ps.length : Int) := by omega
      go_upto_region 3 with fail
      refine wp_region_lit ?_
      (with_reducible refine rN (v := .bool true) ?_ ?_ ?_); (· rfl); (· go_simp; (try with_reducible rfl)); simp only [pu, sB, s0, sS]
      go_upto_region 4 with fail
      refine wp_region_lit ?_
      (with_reducible refine rN (v := ?_) ?_ ?_ ?_); rotate_left; (· rfl); (· go_simp; (try with_reducible rfl)); simp only [pu, sB, s0, sS]
      (with_reducible refine rN (v := .pointer (some ⟨g, i * 72, none⟩)) ?_ ?_ ?_); (· rfl); (· go_simp; (try rfl)); simp only [pu, sB, s0, sS]
      with_reducible refine wpList_loadR (.tmp 14) (o := i * 72) (xs := (abC p.1 (p.2.1) (p.2.2.1) (p.2.2.2))) ?_ ?_ HR.out Tryz.underlying65 ?_ (szAb (abC_sz ok)) ?_
      · rfl
      · rfl
      · rfl
      simp only [pu, sB, s0, sS]
      obtain ⟨w1, hw⟩ : ∃ v, v = wr.alloc (.cells zAb.cells 65) := ⟨_, rfl⟩
      obtain ⟨pX, hp⟩ : ∃ v, v = wr.heap.size := ⟨_, rfl⟩
      have B1 : Hid (Below wr.heap.size wr w1) := Lib.hid (by rw [hw]; exact B0.out.alloc B0.out.size _)
      have LEX : Hid (wr.heap.size ≤ pX) := Lib.hid (by rw [hp]; exact B0.out.size)
      have KX1 : Hid (Blk w1 pX zAb.cells 65) := Lib.hid (by rw [hw, hp]; exact Blk.new _ _ _)
      with_reducible refine wpList_runWV (some 6) (v := .pointer (some ⟨pX, 0, none⟩)) (w' := w1) ?_ ?_ ?_ ?_
      · rfl
      · rfl
      · rw [hw, hp]; exact run_allocOp rfl infoAb zeroAb
      simp only [pu, sB, s0, sS]
      clear hw hp
      clear B0
      (with_reducible refine rN (v := ?_) ?_ ?_ ?_); rotate_left; (· rfl); (· go_simp; (try with_reducible rfl)); simp only [pu, sB, s0, sS]
      have KX2 := Lib.hid (KX1.out.stored (o := 0) (vs := (abC p.1 (p.2.1) (p.2.2.1) (p.2.2.2)).toList) (cs' := (abC p.1 (p.2.1) (p.2.2.1) (p.2.2.2))) (laid_all (abC_sz ok) zAb_cells))
      have B2 := Lib.hid (below_whole ((abC p.1 (p.2.1) (p.2.2.1) (p.2.2.2)).toList) (o := 0) B1.out LEX.out)
      with_reducible refine wpList_storeM (.tmp 6) (.tmp 15) (o := 0) (vs := (abC p.1 (p.2.1) (p.2.2.1) (p.2.2.2))) ?_ ?_ KX1.out ?_ (szAb (abC_sz ok)) (abC_one ok HMP.out.mods.row.oneCell HMP.out.specs.row.oneCell HMP.out.effs.oneCell) ?_
      · rfl
      · rfl
      · exact (fit_2 zAb_cells (abC_sz ok) (by decide))
      (try simp only [Act.put])
      generalize World.setCells _ _ _ _ = w2 at KX2 B2 ⊢
      clear B1 KX1
      go_upto_region 5 with fail
      refine wp_region_lit ?_
      iterate 3 ((with_reducible refine rN (v := ?_) ?_ ?_ ?_); rotate_left; (· rfl); (· go_simp; (try with_reducible rfl)); simp only [pu, sB, s0, sS])
      with_reducible refine wpList_loadS (.tmp 6) ?_ ?_ KX2.out Tryz.underlying65 ?_ (szAb (abC_sz ok)) ?_
      · rfl
      · rfl
      · rfl
      simp only [pu, sB, s0, sS]
      go_wp2_with fail
      refine (cloneAbility p.1 p.2.1 p.2.2.1 p.2.2.2 ok _ (HMP.out.below (HB.out.trans (B2.out.mono HB.out.size)) (Nat.le_refl _))).mono ?_
      rintro e wz ⟨⟨a2, b2, c2, rfl, hO⟩, hb⟩
      have BZ := Lib.hid (B2.out.trans (hb.mono B2.out.size))
      have HB2 := Lib.hid (HB.out.trans (BZ.out.mono HB.out.size))
      have HEZ := Lib.hid (HE.out.below BZ.out (fun q hq => hq.below BZ.out (Nat.le_refl _)))
      have HN := Lib.hid (HEZ.out.next (by decide) hlt HP.out (q := (p.1, a2, b2, c2)) rfl (abC_sz ok) (hO.mono (Nat.le_trans HB.out.size B2.out.size)) (fun w' q hk hq => hq.keep hk))
      clear hb
      go_simp
      rename_i hKK
      refine hKK _ _ ?_
      clear hKK
      try simp only [pu, sB, s0, sS]
      (with_reducible refine rN (v := .pointer (some ⟨g, i * 72, none⟩)) ?_ ?_ ?_); (· rfl); (· go_simp; (try rfl)); simp only [pu, sB, s0, sS]
      refine wpList_store_mid rfl 65 (.tmp 21) (.tmp 20) rfl g (i * 72) (abC p.1 (a2) (b2) (c2)) rfl rfl (by rw [(abC_sz ok)]; exact HN.out.1) (szAb (abC_sz ok)) (abC_one ok hO.mods.row.oneCell hO.specs.row.oneCell hO.effs.oneCell) ?_
      have HB3 := Lib.hid (below_whole ((abC p.1 (a2) (b2) (c2)).toList) (o := i * 72) HB2.out HBG.out)
      go_wp2_with fail
      go_roundw
      case rel => exact ⟨i + 1, _, by omega, by go_num, Lib.hid HN.out.2, HB3⟩
      case measure => simp [intOf]; omega
    obtain rfl : i = ps.length := by omega
    have hil : ¬ (ps.length : Int) < (ps.length : Int) := by omega
    go_upto_region 3 with fail
    refine wp_region_lit ?_
    (with_reducible refine rN (v := .bool false) ?_ ?_ ?_); (· rfl); (· go_simp; (try with_reducible rfl)); simp only [pu, sB, s0, sS]
    go_upto_region 7 with fail
    refine wp_region_lit ?_
    iterate 2 ((with_reducible refine rN (v := ?_) ?_ ?_ ?_); rotate_left; (· rfl); (· go_simp; (try with_reducible rfl)); simp only [pu, sB, s0, sS])
    go_wp2_with fail
    go_ret
    obtain ⟨rs, h1, h2, h3⟩ := HE.out.fin (Nat.le_refl _)
    exact ⟨⟨_, rfl, rs, by rw [h1, HPS.out], h2, h3⟩, HB.out⟩
end Go.Proofs.YthkkabdhmflhiaaGreatDoor
