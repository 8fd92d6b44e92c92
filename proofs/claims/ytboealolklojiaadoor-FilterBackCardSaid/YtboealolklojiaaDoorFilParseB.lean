/-
  CONTRACT OF LAYER 13 (filter): Parse, all ways (a filter's cells a letter). By an AI agent.
-/
import Derived.Test.YtboealolklojiaaDoorFilCell
import Derived.Deep.Cut
namespace Go.Proofs.YtboealolklojiaaDoor
open Go.RowKit
open Wd (Bs)

set_option maxHeartbeats 8000000 in
set_option maxRecDepth 100000 in
theorem parseWalk (s : ByteArray) (w : World) (hE : Env w) (a : Fil.Acc) (fs : ByteArray) (v q : Bool) (tx : ByteArray) (hq : (tx.toList == s.toList) = q)
    (HRD : Hid (∀ W, Env W → Calls Tryd.prog 22 #[.string s] W fun e w' => e = .returned (.agg #[.int .i64 (a.zone : Int), .int .i64 (a.who : Int), .int .i64 (a.self : Int), .int .i64 (a.types : Int), .int .i64 (a.ntypes : Int), .int .i64 (a.colors : Int), .int .i64 (a.ncolors : Int), .string fs, .int .i64 (a.keys : Int), .int .i64 (a.tap : Int), .int .i64 a.pow.kind, .int .i64 a.pow.n, .int .i64 a.tough.kind, .int .i64 a.tough.n, .int .i64 a.val.kind, .int .i64 a.val.n]) ∧ Below W.heap.size W w'))
    (HIS : Hid (∀ W, Env W → Calls Tryd.prog 9 #[.agg (cellsA a fs)] W fun e w' => e = .returned (.bool v) ∧ Below W.heap.size W w'))
    (HTX : Hid (∀ W, Env W → Calls Tryd.prog 7 #[.agg (cellsA a fs)] W fun e w' => e = .returned (.string tx) ∧ Below W.heap.size W w')) :
    Calls Tryd.prog 8 #[.string s] w fun e w' => e = .returned (if (v && q) = true then .tuple #[.agg (cellsA a fs), .int .i64 0] else .tuple #[.agg cellsZ, .int .i64 3]) ∧ Below w.heap.size w w' := by
  obtain ⟨w0, hw0⟩ : ∃ w0, w0 = w.alloc (.cells cellsZ 25) := ⟨_, rfl⟩
  have hb0 : Below w.heap.size w w0 := by rw [hw0]; exact (Below.refl _ _).alloc (Nat.le_refl _) _
  have HR0 : Hid (Blk w0 w.heap.size cellsZ 25) := Lib.hid (by rw [hw0]; exact Blk.new w _ _)
  have HE := Lib.hid (fun (W : World) (hb : Below w.heap.size w W) => hE.below hb)
  have HB0 := Lib.hid hb0
  have HQ := Lib.hid hq
  clear hE hb0 hq
  go_enter Tryd.func8, Tryd.ntmps8
  go_wp2_with fail
  rw [show w.alloc (.cells #[.int .i64 0, .int .i64 0, .int .i64 0, .int .i64 0, .int .i64 0, .int .i64 0, .int .i64 0, .string ⟨#[]⟩, .int .i64 0, .int .i64 0, .int .i64 0, .int .i64 0, .int .i64 0, .int .i64 0, .int .i64 0, .int .i64 0] 25) = w0 from hw0.symm]
  clear hw0
  refine (HRD.out _ (HE.out _ HB0.out)).mono ?_
  rintro e w1 ⟨rfl, hb⟩
  have HB : Hid (Below w.heap.size w (w1.alloc (.cells (cellsA a fs) 25))) := Lib.hid ((HB0.out.trans (hb.mono HB0.out.size)).alloc (Nat.le_trans HB0.out.size hb.size) _)
  have HR : Hid (Blk (w1.alloc (.cells (cellsA a fs) 25)) w.heap.size cellsZ 25) := Lib.hid ((HR0.out.below hb HR0.out.lt).alloc _)
  have HK : Hid (Blk (w1.alloc (.cells (cellsA a fs) 25)) w1.heap.size (cellsA a fs) 25) := Lib.hid (Blk.new w1 _ _)
  clear hb HR0 HB0
  go_upto_region 2 with fail
  obtain ⟨w2, hw2⟩ : ∃ v, v = w1.alloc (.cells (cellsA a fs) 25) := ⟨_, rfl⟩
  obtain ⟨F, hF⟩ : ∃ v, v = w1.heap.size := ⟨_, rfl⟩
  rw [← hw2] at HB HR HK
  rw [← hF] at HK
  rw [show w1.alloc (.cells #[.int .i64 (a.zone : Int), .int .i64 (a.who : Int), .int .i64 (a.self : Int), .int .i64 (a.types : Int), .int .i64 (a.ntypes : Int), .int .i64 (a.colors : Int), .int .i64 (a.ncolors : Int), .string fs, .int .i64 (a.keys : Int), .int .i64 (a.tap : Int), .int .i64 a.pow.kind, .int .i64 a.pow.n, .int .i64 a.tough.kind, .int .i64 a.tough.n, .int .i64 a.val.kind, .int .i64 a.val.n] 25) = w2 from hw2.symm, ← hF]
  clear hw2 hF
  generalize Value.agg #[.int .i64 (a.zone : Int), .int .i64 (a.who : Int), .int .i64 (a.self : Int), .int .i64 (a.types : Int), .int .i64 (a.ntypes : Int), .int .i64 (a.colors : Int), .int .i64 (a.ncolors : Int), .string fs, .int .i64 (a.keys : Int), .int .i64 (a.tap : Int), .int .i64 a.pow.kind, .int .i64 a.pow.n, .int .i64 a.tough.kind, .int .i64 a.tough.n, .int .i64 a.val.kind, .int .i64 a.val.n] = vA
  have hq : (tx.toList == s.toList) = q := HQ.out
  refine wp_region_lit ?_
  refine wpList_loadS (.tmp 4) (by rfl) rfl HK.out Tryd.underlying25 rfl (infoTF _ _) ?_
  simp only [Act.put, List.setIfInBounds_toArray, List.set_cons_zero, List.set_cons_succ]
  go_wp2_with fail
  refine (HIS.out _ (HE.out _ HB.out)).mono ?_
  rintro e wi ⟨rfl, hb⟩
  have HKI := Lib.hid (HK.out.below hb HK.out.lt)
  have HRI := Lib.hid (HR.out.below hb HR.out.lt)
  have HBI := Lib.hid (HB.out.trans (hb.mono HB.out.size))
  clear hb HK HR HB
  go_simp
  rename_i hKK
  refine hKK _ _ ?_
  clear hKK
  try simp only [Act.put, List.setIfInBounds_toArray, List.set_cons_zero, List.set_cons_succ]
  cases v with
  | false =>
    refine wpList_runV (some 9) (v := ?_) rfl (by rfl) ?_ ?_
    rotate_left
    · (go_simp; (try with_reducible rfl))
    simp only [Act.put, List.setIfInBounds_toArray, List.set_cons_zero, List.set_cons_succ]
    refine wpList_runV (some 10) (v := ?_) rfl (by rfl) ?_ ?_
    rotate_left
    · (go_simp; (try with_reducible rfl))
    simp only [Act.put, List.setIfInBounds_toArray, List.set_cons_zero, List.set_cons_succ]
    refine wpList_skipV (some 11) rfl (by rfl) ?_
    simp only [Act.put, List.setIfInBounds_toArray, List.set_cons_zero, List.set_cons_succ]
    refine wpList_skipV (some 12) rfl (by rfl) ?_
    simp only [Act.put, List.setIfInBounds_toArray, List.set_cons_zero, List.set_cons_succ]
    refine wpList_skipV (some 13) rfl (by rfl) ?_
    simp only [Act.put, List.setIfInBounds_toArray, List.set_cons_zero, List.set_cons_succ]
    refine wpList_skipV (some 14) rfl (by rfl) ?_
    simp only [Act.put, List.setIfInBounds_toArray, List.set_cons_zero, List.set_cons_succ]
    refine wpList_runV (some 15) (v := ?_) rfl (by rfl) ?_ ?_
    rotate_left
    · (go_simp; (try with_reducible rfl))
    simp only [Act.put, List.setIfInBounds_toArray, List.set_cons_zero, List.set_cons_succ]
    go_upto_region 3 with fail
    refine wp_region_lit ?_
    refine wpList_runV (some 16) (v := .agg cellsZ) rfl (by rfl) (by go_simp; rfl) ?_
    simp only [Act.put, List.setIfInBounds_toArray, List.set_cons_zero, List.set_cons_succ]
    refine wpList_storeS (.tmp 2) (.tmp 16) rfl rfl HRI.out rfl infoTFZ cellsZ_one ?_
    have HRF := Lib.hid (HRI.out.whole cellsZ rfl)
    have HBF := Lib.hid (below_whole cellsZ.toList (o := 0) HBI.out (Nat.le_refl _))
    generalize World.setCells _ _ _ _ = wf at HRF HBF ⊢
    have hL := readZ HRF.out
    go_wp2_with fail
    exact bodyPost_ret (v := .tuple #[.agg cellsZ, .int .i64 3]) (results_cell_tmp Tryd.results8 (by rfl) (by rfl) hL) rfl ⟨rfl, HBF.out⟩
  | true =>
    refine wpList_runV (some 9) (v := ?_) rfl (by rfl) ?_ ?_
    rotate_left
    · (go_simp; (try with_reducible rfl))
    simp only [Act.put, List.setIfInBounds_toArray, List.set_cons_zero, List.set_cons_succ]
    refine wpList_runV (some 10) (v := ?_) rfl (by rfl) ?_ ?_
    rotate_left
    · (go_simp; (try with_reducible rfl))
    simp only [Act.put, List.setIfInBounds_toArray, List.set_cons_zero, List.set_cons_succ]
    refine wpList_loadS (.tmp 4) (by rfl) rfl HKI.out Tryd.underlying25 rfl (infoTF _ _) ?_
    simp only [Act.put, List.setIfInBounds_toArray, List.set_cons_zero, List.set_cons_succ]
    go_wp2_with fail
    refine (HTX.out _ (HE.out _ HBI.out)).mono ?_
    rintro e wt ⟨rfl, hb⟩
    have HKT := Lib.hid (HKI.out.below hb HKI.out.lt)
    have HRT := Lib.hid (HRI.out.below hb HRI.out.lt)
    have HBT := Lib.hid (HBI.out.trans (hb.mono HBI.out.size))
    clear hb HKI HRI HBI
    go_simp
    rename_i hKK
    refine hKK _ _ ?_
    clear hKK
    try simp only [Act.put, List.setIfInBounds_toArray, List.set_cons_zero, List.set_cons_succ]
    cases q with
    | false =>
      refine wpList_runV (some 13) (v := ?_) rfl (by rfl) ?_ ?_
      rotate_left
      · (go_simp; (try with_reducible rfl))
      simp only [Act.put, List.setIfInBounds_toArray, List.set_cons_zero, List.set_cons_succ]
      refine wpList_runV (some 14) (v := .bool true) rfl (by rfl) ?_ ?_
      · (go_simp; (try with_reducible rfl))
      simp only [Act.put, List.setIfInBounds_toArray, List.set_cons_zero, List.set_cons_succ]
      refine wpList_runV (some 15) (v := ?_) rfl (by rfl) ?_ ?_
      rotate_left
      · (go_simp; (try with_reducible rfl))
      simp only [Act.put, List.setIfInBounds_toArray, List.set_cons_zero, List.set_cons_succ]
      go_upto_region 3 with fail
      refine wp_region_lit ?_
      refine wpList_runV (some 16) (v := .agg cellsZ) rfl (by rfl) (by go_simp; rfl) ?_
      simp only [Act.put, List.setIfInBounds_toArray, List.set_cons_zero, List.set_cons_succ]
      refine wpList_storeS (.tmp 2) (.tmp 16) rfl rfl HRT.out rfl infoTFZ cellsZ_one ?_
      have HRF := Lib.hid (HRT.out.whole cellsZ rfl)
      have HBF := Lib.hid (below_whole cellsZ.toList (o := 0) HBT.out (Nat.le_refl _))
      generalize World.setCells _ _ _ _ = wf at HRF HBF ⊢
      have hL := readZ HRF.out
      go_wp2_with fail
      exact bodyPost_ret (v := .tuple #[.agg cellsZ, .int .i64 3]) (results_cell_tmp Tryd.results8 (by rfl) (by rfl) hL) rfl ⟨rfl, HBF.out⟩
    | true =>
      refine wpList_runV (some 13) (v := ?_) rfl (by rfl) ?_ ?_
      rotate_left
      · (go_simp; (try with_reducible rfl))
      simp only [Act.put, List.setIfInBounds_toArray, List.set_cons_zero, List.set_cons_succ]
      refine wpList_runV (some 14) (v := .bool false) rfl (by rfl) ?_ ?_
      · (go_simp; (try with_reducible rfl))
      simp only [Act.put, List.setIfInBounds_toArray, List.set_cons_zero, List.set_cons_succ]
      refine wpList_runV (some 15) (v := ?_) rfl (by rfl) ?_ ?_
      rotate_left
      · (go_simp; (try with_reducible rfl))
      simp only [Act.put, List.setIfInBounds_toArray, List.set_cons_zero, List.set_cons_succ]
      go_upto_region 4 with fail
      refine wp_region_lit ?_
      refine wpList_loadS (.tmp 4) (by rfl) rfl HKT.out Tryd.underlying25 rfl (infoTF _ _) ?_
      simp only [Act.put, List.setIfInBounds_toArray, List.set_cons_zero, List.set_cons_succ]
      refine wpList_storeS (.tmp 2) (.tmp 17) rfl rfl HRT.out rfl (infoTF _ _) (cellsA_one _ _) ?_
      have HRF := Lib.hid (HRT.out.whole (cellsA a fs) rfl)
      have HBF := Lib.hid (below_whole (cellsA a fs).toList (o := 0) HBT.out (Nat.le_refl _))
      generalize World.setCells _ _ _ _ = wf at HRF HBF ⊢
      have hL := readA HRF.out
      go_wp2_with fail
      exact bodyPost_ret (v := .tuple #[.agg (cellsA a fs), .int .i64 0]) (results_cell_tmp Tryd.results8 (by rfl) (by rfl) hL) rfl ⟨rfl, HBF.out⟩
end Go.Proofs.YtboealolklojiaaDoor
