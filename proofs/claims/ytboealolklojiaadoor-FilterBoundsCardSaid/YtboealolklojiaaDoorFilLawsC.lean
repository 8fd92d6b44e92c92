/-
  THE LAWS OF LAYER 13: Bounds. By an AI agent.
-/
import Derived.Test.YtboealolklojiaaDoorFilAlive
import Derived.Test.YtboealolklojiaaDoorFilHand
import Derived.Deep.Cut
import Derived.Deep.DeepCutAuto
import Derived.Deep.CutRange
namespace Go.Proofs.YtboealolklojiaaDoor
open Go.RowKit
open Wd (Bs)

/-- a bound's ways -/
theorem bd_eq (k n : Int) : Fil.bdB ⟨k, n⟩ = decide ((0 ≤ k ∧ k ≤ 3) ∧ (0 ≤ n ∧ n ≤ 1000000) ∧ (k ≠ 0 ∨ n = 0)) := by
  rw [Bool.eq_iff_iff]
  simp only [Fil.bdB, Fil.within, Bool.and_eq_true, Bool.or_eq_true, decide_eq_true_eq]
  omega
theorem bd_waysA (k n : Int) (h : (k == 0) = false) : (k < 0 ∧ Fil.bdB ⟨k, n⟩ = false) ∨ (0 ≤ k ∧ 3 < k ∧ Fil.bdB ⟨k, n⟩ = false) ∨ (0 ≤ k ∧ k ≤ 3 ∧ n < 0 ∧ Fil.bdB ⟨k, n⟩ = false) ∨ (0 ≤ k ∧ k ≤ 3 ∧ 0 ≤ n ∧ 1000000 < n ∧ Fil.bdB ⟨k, n⟩ = false) ∨
    (0 ≤ k ∧ k ≤ 3 ∧ 0 ≤ n ∧ n ≤ 1000000 ∧ Fil.bdB ⟨k, n⟩ = true) := by
  rw [bd_eq]
  simp only [decide_eq_true_eq, decide_eq_false_iff_not, beq_eq_false_iff_ne] at *
  omega
theorem bd_waysB (n : Int) (h : (n == 0) = false) : (n < 0 ∧ Fil.bdB ⟨0, n⟩ = false) ∨ (0 ≤ n ∧ 1000000 < n ∧ Fil.bdB ⟨0, n⟩ = false) ∨ (0 ≤ n ∧ n ≤ 1000000 ∧ Fil.bdB ⟨0, n⟩ = false) := by
  rw [bd_eq]
  simp only [decide_eq_false_iff_not, beq_eq_false_iff_ne] at *
  omega
theorem zero_pow (b : Fil.Bd) : Fil.validB { Fil.zero with pow := b } = Fil.bdB b := by
  unfold Fil.validB
  rw [show Fil.subB ({ Fil.zero with pow := b } : Fil.Flt).sub = true from sub_nil]
  show (Fil.within 0 5 && Fil.within 0 2 && Fil.within 0 2 && Fil.within 0 2 && Fil.masksB 0 0 63 && Fil.masksB 0 0 31 && true && Kw.validB 0 && Fil.bdB b && Fil.bdB Fil.zeroB && Fil.bdB Fil.zeroB) = _
  rw [show Fil.bdB Fil.zeroB = true by decide, show Fil.within 0 5 = true by decide, show Fil.within 0 2 = true by decide, show Fil.masksB 0 0 63 = true by decide, show Fil.masksB 0 0 31 = true by decide, show Kw.validB 0 = true by decide]
  simp
theorem zero_tough (b : Fil.Bd) : Fil.validB { Fil.zero with tough := b } = Fil.bdB b := by
  unfold Fil.validB
  rw [show Fil.subB ({ Fil.zero with tough := b } : Fil.Flt).sub = true from sub_nil]
  show (Fil.within 0 5 && Fil.within 0 2 && Fil.within 0 2 && Fil.within 0 2 && Fil.masksB 0 0 63 && Fil.masksB 0 0 31 && true && Kw.validB 0 && Fil.bdB Fil.zeroB && Fil.bdB b && Fil.bdB Fil.zeroB) = _
  rw [show Fil.bdB Fil.zeroB = true by decide, show Fil.within 0 5 = true by decide, show Fil.within 0 2 = true by decide, show Fil.masksB 0 0 63 = true by decide, show Fil.masksB 0 0 31 = true by decide, show Kw.validB 0 = true by decide]
  simp
theorem zero_val (b : Fil.Bd) : Fil.validB { Fil.zero with val := b } = Fil.bdB b := by
  unfold Fil.validB
  rw [show Fil.subB ({ Fil.zero with val := b } : Fil.Flt).sub = true from sub_nil]
  show (Fil.within 0 5 && Fil.within 0 2 && Fil.within 0 2 && Fil.within 0 2 && Fil.masksB 0 0 63 && Fil.masksB 0 0 31 && true && Kw.validB 0 && Fil.bdB Fil.zeroB && Fil.bdB Fil.zeroB && Fil.bdB b) = _
  rw [show Fil.bdB Fil.zeroB = true by decide, show Fil.within 0 5 = true by decide, show Fil.within 0 2 = true by decide, show Fil.masksB 0 0 63 = true by decide, show Fil.masksB 0 0 31 = true by decide, show Kw.validB 0 = true by decide]
  simp
set_option maxHeartbeats 8000000 in
set_option maxRecDepth 100000 in
theorem bounds_powA (k n x : Int) (hk0 : (k == 0) = false) (hx : x = 0) (w : World) (hE : Env w) :
    Calls Tryd.prog 5 #[.agg #[.int .i64 k, .int .i64 n], .int .i64 x] w fun e w' => e = .returned (.bool true) ∧ Below w.heap.size w w' := by
  obtain ⟨w0, hw0⟩ : ∃ w0, w0 = (w.alloc (.cells #[.int .i64 k, .int .i64 n] 23)).alloc (.cells #[.int .i64 0, .int .i64 0, .int .i64 0, .int .i64 0, .int .i64 0, .int .i64 0, .int .i64 0, .string ⟨#[]⟩, .int .i64 0, .int .i64 0, .int .i64 k, .int .i64 n, .int .i64 0, .int .i64 0, .int .i64 0, .int .i64 0] 25) := ⟨_, rfl⟩
  obtain ⟨B, hB⟩ : ∃ B, B = w.heap.size + 1 := ⟨_, rfl⟩
  have hb0 : Below w.heap.size w w0 := by rw [hw0]; exact ((Below.refl _ _).alloc (Nat.le_refl _) _).alloc (by simp) _
  have K0 : Hid (Blk w0 w.heap.size #[.int .i64 k, .int .i64 n] 23) := Lib.hid (by rw [hw0]; exact (Blk.new w _ _).alloc _)
  have J0 : Hid (Blk w0 B #[.int .i64 0, .int .i64 0, .int .i64 0, .int .i64 0, .int .i64 0, .int .i64 0, .int .i64 0, .string ⟨#[]⟩, .int .i64 0, .int .i64 0, .int .i64 k, .int .i64 n, .int .i64 0, .int .i64 0, .int .i64 0, .int .i64 0] 25) := Lib.hid (by
    have h := Blk.new (w.alloc (.cells #[.int .i64 k, .int .i64 n] 23)) #[.int .i64 0, .int .i64 0, .int .i64 0, .int .i64 0, .int .i64 0, .int .i64 0, .int .i64 0, .string ⟨#[]⟩, .int .i64 0, .int .i64 0, .int .i64 k, .int .i64 n, .int .i64 0, .int .i64 0, .int .i64 0, .int .i64 0] 25
    rw [hw0, hB]; simpa using h)
  have HE := Lib.hid (fun (W : World) (hb : Below w0.heap.size w0 W) => (hE.below hb0).below hb)
  have HB := Lib.hid hb0
  obtain ⟨bb, hbb⟩ : ∃ bb, bb = Fil.bdB ⟨k, n⟩ := ⟨_, rfl⟩
  have HBB := Lib.hid hbb
  have G1 : Hid (∀ W, Env W → Calls Tryd.prog 9 #[.agg #[.int .i64 0, .int .i64 0, .int .i64 0, .int .i64 0, .int .i64 0, .int .i64 0, .int .i64 0, .string ⟨#[]⟩, .int .i64 0, .int .i64 0, .int .i64 k, .int .i64 n, .int .i64 0, .int .i64 0, .int .i64 0, .int .i64 0]] W fun e w' => e = .returned (.bool bb) ∧ Below W.heap.size W w') := Lib.hid (fun W hW => by
    have h := filIs { Fil.zero with pow := ⟨k, n⟩ } ⟨#[]⟩ rfl (by decide) W hW
    rw [zero_pow, ← hbb] at h
    exact h)
  have e7 : (bb == bb) = true := by simp
  clear hE hb0 hbb
  have hx0 : (x == 0) = true := by simp [hx]
  clear hx
  go_enter Tryd.func5, Tryd.ntmps5
  go_upto_region 8 with fail
  rw [← hw0, ← hB]
  clear hw0 hB
  go_cut [6] (fun v wx => v = .bool bb ∧ w0 = wx)
  case first =>
    have c0 : w0.cell? ⟨w.heap.size, 0, none⟩ = some (.int .i64 k) := K0.out.cell 0
    have c1 : w0.cell? ⟨w.heap.size, 1, none⟩ = some (.int .i64 n) := K0.out.cell 1
    have hkn : ¬ k = 0 := by intro h; rw [h] at hk0; simp at hk0
    have hk9 : (k == 0) = false := by simp [hkn]
    rcases bd_waysA k n hk0 with ⟨h1, hv⟩ | ⟨h1, h2, hv⟩ | ⟨h1, h2, h3, hv⟩ | ⟨h1, h2, h3, h4, hv⟩ | ⟨h1, h2, h3, h4, hv⟩
    all_goals
      have HV := Lib.hid hv
      clear hv
      go_wp2_with fail
      go_meet
      refine ⟨?_, rfl⟩
      first | (rw [HBB.out, HV.out]; done) | (rw [HBB.out, HV.out]; simp_all)
  case rest =>
    obtain ⟨rfl, rfl⟩ := hcut
    go_wp2_with fail
    refine (fromBase (C := w0.heap.size) (w0 := w0) (Below.refl _ _) (Nat.le_refl _) (filAlive _ (HE.out _ (Below.refl _ _)))).mono ?_
    rintro e w1 ⟨rfl, hb1⟩
    have j1 := J0.out.below hb1 J0.out.lt
    have y0 : w1.cell? ⟨B, 0, none⟩ = some (.int .i64 0) := j1.cell 0
    have y1 : w1.cell? ⟨B, 1, none⟩ = some (.int .i64 0) := j1.cell 1
    have y2 : w1.cell? ⟨B, 2, none⟩ = some (.int .i64 0) := j1.cell 2
    have y3 : w1.cell? ⟨B, 3, none⟩ = some (.int .i64 0) := j1.cell 3
    have y4 : w1.cell? ⟨B, 4, none⟩ = some (.int .i64 0) := j1.cell 4
    have y5 : w1.cell? ⟨B, 5, none⟩ = some (.int .i64 0) := j1.cell 5
    have y6 : w1.cell? ⟨B, 6, none⟩ = some (.int .i64 0) := j1.cell 6
    have y7 : w1.cell? ⟨B, 7, none⟩ = some (.string ⟨#[]⟩) := j1.cell 7
    have y8 : w1.cell? ⟨B, 8, none⟩ = some (.int .i64 0) := j1.cell 8
    have y9 : w1.cell? ⟨B, 9, none⟩ = some (.int .i64 0) := j1.cell 9
    have y10 : w1.cell? ⟨B, 10, none⟩ = some (.int .i64 k) := j1.cell 10
    have y11 : w1.cell? ⟨B, 11, none⟩ = some (.int .i64 n) := j1.cell 11
    have y12 : w1.cell? ⟨B, 12, none⟩ = some (.int .i64 0) := j1.cell 12
    have y13 : w1.cell? ⟨B, 13, none⟩ = some (.int .i64 0) := j1.cell 13
    have y14 : w1.cell? ⟨B, 14, none⟩ = some (.int .i64 0) := j1.cell 14
    have y15 : w1.cell? ⟨B, 15, none⟩ = some (.int .i64 0) := j1.cell 15
    have B1 := Lib.hid hb1
    clear j1 hb1
    go_wp2_with fail
    clear y0 y1 y2 y3 y4 y5 y6 y7 y8 y9 y10 y11 y12 y13 y14 y15
    refine (fromBase (C := w0.heap.size) (w0 := w0) B1.out (Nat.le_refl _) (G1.out _ (HE.out _ B1.out))).mono ?_
    rintro e w2 ⟨rfl, hb2⟩
    go_wp2_with fail
    go_ret
    exact ⟨rfl, HB.out.trans (hb2.mono HB.out.size)⟩
set_option maxHeartbeats 8000000 in
set_option maxRecDepth 100000 in
theorem bounds_powB (n x : Int) (hn0 : (n == 0) = false) (hx : x = 0) (w : World) (hE : Env w) :
    Calls Tryd.prog 5 #[.agg #[.int .i64 0, .int .i64 n], .int .i64 x] w fun e w' => e = .returned (.bool true) ∧ Below w.heap.size w w' := by
  obtain ⟨w0, hw0⟩ : ∃ w0, w0 = (w.alloc (.cells #[.int .i64 0, .int .i64 n] 23)).alloc (.cells #[.int .i64 0, .int .i64 0, .int .i64 0, .int .i64 0, .int .i64 0, .int .i64 0, .int .i64 0, .string ⟨#[]⟩, .int .i64 0, .int .i64 0, .int .i64 0, .int .i64 n, .int .i64 0, .int .i64 0, .int .i64 0, .int .i64 0] 25) := ⟨_, rfl⟩
  obtain ⟨B, hB⟩ : ∃ B, B = w.heap.size + 1 := ⟨_, rfl⟩
  have hb0 : Below w.heap.size w w0 := by rw [hw0]; exact ((Below.refl _ _).alloc (Nat.le_refl _) _).alloc (by simp) _
  have K0 : Hid (Blk w0 w.heap.size #[.int .i64 0, .int .i64 n] 23) := Lib.hid (by rw [hw0]; exact (Blk.new w _ _).alloc _)
  have J0 : Hid (Blk w0 B #[.int .i64 0, .int .i64 0, .int .i64 0, .int .i64 0, .int .i64 0, .int .i64 0, .int .i64 0, .string ⟨#[]⟩, .int .i64 0, .int .i64 0, .int .i64 0, .int .i64 n, .int .i64 0, .int .i64 0, .int .i64 0, .int .i64 0] 25) := Lib.hid (by
    have h := Blk.new (w.alloc (.cells #[.int .i64 0, .int .i64 n] 23)) #[.int .i64 0, .int .i64 0, .int .i64 0, .int .i64 0, .int .i64 0, .int .i64 0, .int .i64 0, .string ⟨#[]⟩, .int .i64 0, .int .i64 0, .int .i64 0, .int .i64 n, .int .i64 0, .int .i64 0, .int .i64 0, .int .i64 0] 25
    rw [hw0, hB]; simpa using h)
  have HE := Lib.hid (fun (W : World) (hb : Below w0.heap.size w0 W) => (hE.below hb0).below hb)
  have HB := Lib.hid hb0
  obtain ⟨bb, hbb⟩ : ∃ bb, bb = Fil.bdB ⟨0, n⟩ := ⟨_, rfl⟩
  have HBB := Lib.hid hbb
  have G1 : Hid (∀ W, Env W → Calls Tryd.prog 9 #[.agg #[.int .i64 0, .int .i64 0, .int .i64 0, .int .i64 0, .int .i64 0, .int .i64 0, .int .i64 0, .string ⟨#[]⟩, .int .i64 0, .int .i64 0, .int .i64 0, .int .i64 n, .int .i64 0, .int .i64 0, .int .i64 0, .int .i64 0]] W fun e w' => e = .returned (.bool bb) ∧ Below W.heap.size W w') := Lib.hid (fun W hW => by
    have h := filIs { Fil.zero with pow := ⟨0, n⟩ } ⟨#[]⟩ rfl (by decide) W hW
    rw [zero_pow, ← hbb] at h
    exact h)
  have e7 : (bb == bb) = true := by simp
  clear hE hb0 hbb
  have hx0 : (x == 0) = true := by simp [hx]
  clear hx
  go_enter Tryd.func5, Tryd.ntmps5
  go_upto_region 8 with fail
  rw [← hw0, ← hB]
  clear hw0 hB
  go_cut [6] (fun v wx => v = .bool bb ∧ w0 = wx)
  case first =>
    have c0 : w0.cell? ⟨w.heap.size, 0, none⟩ = some (.int .i64 0) := K0.out.cell 0
    have c1 : w0.cell? ⟨w.heap.size, 1, none⟩ = some (.int .i64 n) := K0.out.cell 1
    rcases bd_waysB n hn0 with ⟨h1, hv⟩ | ⟨h1, h2, hv⟩ | ⟨h1, h2, hv⟩
    all_goals
      have HV := Lib.hid hv
      clear hv
      go_wp2_with fail
      go_meet
      refine ⟨?_, rfl⟩
      first | (rw [HBB.out, HV.out]; done) | (rw [HBB.out, HV.out]; simp_all)
  case rest =>
    obtain ⟨rfl, rfl⟩ := hcut
    go_wp2_with fail
    refine (fromBase (C := w0.heap.size) (w0 := w0) (Below.refl _ _) (Nat.le_refl _) (filAlive _ (HE.out _ (Below.refl _ _)))).mono ?_
    rintro e w1 ⟨rfl, hb1⟩
    have j1 := J0.out.below hb1 J0.out.lt
    have y0 : w1.cell? ⟨B, 0, none⟩ = some (.int .i64 0) := j1.cell 0
    have y1 : w1.cell? ⟨B, 1, none⟩ = some (.int .i64 0) := j1.cell 1
    have y2 : w1.cell? ⟨B, 2, none⟩ = some (.int .i64 0) := j1.cell 2
    have y3 : w1.cell? ⟨B, 3, none⟩ = some (.int .i64 0) := j1.cell 3
    have y4 : w1.cell? ⟨B, 4, none⟩ = some (.int .i64 0) := j1.cell 4
    have y5 : w1.cell? ⟨B, 5, none⟩ = some (.int .i64 0) := j1.cell 5
    have y6 : w1.cell? ⟨B, 6, none⟩ = some (.int .i64 0) := j1.cell 6
    have y7 : w1.cell? ⟨B, 7, none⟩ = some (.string ⟨#[]⟩) := j1.cell 7
    have y8 : w1.cell? ⟨B, 8, none⟩ = some (.int .i64 0) := j1.cell 8
    have y9 : w1.cell? ⟨B, 9, none⟩ = some (.int .i64 0) := j1.cell 9
    have y10 : w1.cell? ⟨B, 10, none⟩ = some (.int .i64 0) := j1.cell 10
    have y11 : w1.cell? ⟨B, 11, none⟩ = some (.int .i64 n) := j1.cell 11
    have y12 : w1.cell? ⟨B, 12, none⟩ = some (.int .i64 0) := j1.cell 12
    have y13 : w1.cell? ⟨B, 13, none⟩ = some (.int .i64 0) := j1.cell 13
    have y14 : w1.cell? ⟨B, 14, none⟩ = some (.int .i64 0) := j1.cell 14
    have y15 : w1.cell? ⟨B, 15, none⟩ = some (.int .i64 0) := j1.cell 15
    have B1 := Lib.hid hb1
    clear j1 hb1
    go_wp2_with fail
    clear y0 y1 y2 y3 y4 y5 y6 y7 y8 y9 y10 y11 y12 y13 y14 y15
    refine (fromBase (C := w0.heap.size) (w0 := w0) B1.out (Nat.le_refl _) (G1.out _ (HE.out _ B1.out))).mono ?_
    rintro e w2 ⟨rfl, hb2⟩
    go_wp2_with fail
    go_ret
    exact ⟨rfl, HB.out.trans (hb2.mono HB.out.size)⟩
set_option maxHeartbeats 8000000 in
set_option maxRecDepth 100000 in
theorem bounds_powC (x : Int) (hx : x = 0) (w : World) (hE : Env w) :
    Calls Tryd.prog 5 #[.agg #[.int .i64 0, .int .i64 0], .int .i64 x] w fun e w' => e = .returned (.bool true) ∧ Below w.heap.size w w' := by
  obtain ⟨w0, hw0⟩ : ∃ w0, w0 = (w.alloc (.cells #[.int .i64 0, .int .i64 0] 23)).alloc (.cells #[.int .i64 0, .int .i64 0, .int .i64 0, .int .i64 0, .int .i64 0, .int .i64 0, .int .i64 0, .string ⟨#[]⟩, .int .i64 0, .int .i64 0, .int .i64 0, .int .i64 0, .int .i64 0, .int .i64 0, .int .i64 0, .int .i64 0] 25) := ⟨_, rfl⟩
  obtain ⟨B, hB⟩ : ∃ B, B = w.heap.size + 1 := ⟨_, rfl⟩
  have hb0 : Below w.heap.size w w0 := by rw [hw0]; exact ((Below.refl _ _).alloc (Nat.le_refl _) _).alloc (by simp) _
  have K0 : Hid (Blk w0 w.heap.size #[.int .i64 0, .int .i64 0] 23) := Lib.hid (by rw [hw0]; exact (Blk.new w _ _).alloc _)
  have J0 : Hid (Blk w0 B #[.int .i64 0, .int .i64 0, .int .i64 0, .int .i64 0, .int .i64 0, .int .i64 0, .int .i64 0, .string ⟨#[]⟩, .int .i64 0, .int .i64 0, .int .i64 0, .int .i64 0, .int .i64 0, .int .i64 0, .int .i64 0, .int .i64 0] 25) := Lib.hid (by
    have h := Blk.new (w.alloc (.cells #[.int .i64 0, .int .i64 0] 23)) #[.int .i64 0, .int .i64 0, .int .i64 0, .int .i64 0, .int .i64 0, .int .i64 0, .int .i64 0, .string ⟨#[]⟩, .int .i64 0, .int .i64 0, .int .i64 0, .int .i64 0, .int .i64 0, .int .i64 0, .int .i64 0, .int .i64 0] 25
    rw [hw0, hB]; simpa using h)
  have HE := Lib.hid (fun (W : World) (hb : Below w0.heap.size w0 W) => (hE.below hb0).below hb)
  have HB := Lib.hid hb0
  obtain ⟨bb, hbb⟩ : ∃ bb, bb = Fil.bdB ⟨0, 0⟩ := ⟨_, rfl⟩
  have HBB := Lib.hid hbb
  have G1 : Hid (∀ W, Env W → Calls Tryd.prog 9 #[.agg #[.int .i64 0, .int .i64 0, .int .i64 0, .int .i64 0, .int .i64 0, .int .i64 0, .int .i64 0, .string ⟨#[]⟩, .int .i64 0, .int .i64 0, .int .i64 0, .int .i64 0, .int .i64 0, .int .i64 0, .int .i64 0, .int .i64 0]] W fun e w' => e = .returned (.bool bb) ∧ Below W.heap.size W w') := Lib.hid (fun W hW => by
    have h := filIs { Fil.zero with pow := ⟨0, 0⟩ } ⟨#[]⟩ rfl (by decide) W hW
    rw [zero_pow, ← hbb] at h
    exact h)
  have e7 : (bb == bb) = true := by simp
  clear hE hb0 hbb
  have hx0 : (x == 0) = true := by simp [hx]
  clear hx
  go_enter Tryd.func5, Tryd.ntmps5
  go_upto_region 8 with fail
  rw [← hw0, ← hB]
  clear hw0 hB
  go_cut [6] (fun v wx => v = .bool bb ∧ w0 = wx)
  case first =>
    have c0 : w0.cell? ⟨w.heap.size, 0, none⟩ = some (.int .i64 0) := K0.out.cell 0
    have c1 : w0.cell? ⟨w.heap.size, 1, none⟩ = some (.int .i64 0) := K0.out.cell 1
    have hv : Fil.bdB ⟨0, 0⟩ = true := by decide
    all_goals
      have HV := Lib.hid hv
      clear hv
      go_wp2_with fail
      go_meet
      refine ⟨?_, rfl⟩
      first | (rw [HBB.out, HV.out]; done) | (rw [HBB.out, HV.out]; simp_all)
  case rest =>
    obtain ⟨rfl, rfl⟩ := hcut
    go_wp2_with fail
    refine (fromBase (C := w0.heap.size) (w0 := w0) (Below.refl _ _) (Nat.le_refl _) (filAlive _ (HE.out _ (Below.refl _ _)))).mono ?_
    rintro e w1 ⟨rfl, hb1⟩
    have j1 := J0.out.below hb1 J0.out.lt
    have y0 : w1.cell? ⟨B, 0, none⟩ = some (.int .i64 0) := j1.cell 0
    have y1 : w1.cell? ⟨B, 1, none⟩ = some (.int .i64 0) := j1.cell 1
    have y2 : w1.cell? ⟨B, 2, none⟩ = some (.int .i64 0) := j1.cell 2
    have y3 : w1.cell? ⟨B, 3, none⟩ = some (.int .i64 0) := j1.cell 3
    have y4 : w1.cell? ⟨B, 4, none⟩ = some (.int .i64 0) := j1.cell 4
    have y5 : w1.cell? ⟨B, 5, none⟩ = some (.int .i64 0) := j1.cell 5
    have y6 : w1.cell? ⟨B, 6, none⟩ = some (.int .i64 0) := j1.cell 6
    have y7 : w1.cell? ⟨B, 7, none⟩ = some (.string ⟨#[]⟩) := j1.cell 7
    have y8 : w1.cell? ⟨B, 8, none⟩ = some (.int .i64 0) := j1.cell 8
    have y9 : w1.cell? ⟨B, 9, none⟩ = some (.int .i64 0) := j1.cell 9
    have y10 : w1.cell? ⟨B, 10, none⟩ = some (.int .i64 0) := j1.cell 10
    have y11 : w1.cell? ⟨B, 11, none⟩ = some (.int .i64 0) := j1.cell 11
    have y12 : w1.cell? ⟨B, 12, none⟩ = some (.int .i64 0) := j1.cell 12
    have y13 : w1.cell? ⟨B, 13, none⟩ = some (.int .i64 0) := j1.cell 13
    have y14 : w1.cell? ⟨B, 14, none⟩ = some (.int .i64 0) := j1.cell 14
    have y15 : w1.cell? ⟨B, 15, none⟩ = some (.int .i64 0) := j1.cell 15
    have B1 := Lib.hid hb1
    clear j1 hb1
    go_wp2_with fail
    clear y0 y1 y2 y3 y4 y5 y6 y7 y8 y9 y10 y11 y12 y13 y14 y15
    refine (fromBase (C := w0.heap.size) (w0 := w0) B1.out (Nat.le_refl _) (G1.out _ (HE.out _ B1.out))).mono ?_
    rintro e w2 ⟨rfl, hb2⟩
    go_wp2_with fail
    go_ret
    exact ⟨rfl, HB.out.trans (hb2.mono HB.out.size)⟩
set_option maxHeartbeats 8000000 in
set_option maxRecDepth 100000 in
theorem bounds_toughA (k n x : Int) (hk0 : (k == 0) = false) (hx : x = 1) (w : World) (hE : Env w) :
    Calls Tryd.prog 5 #[.agg #[.int .i64 k, .int .i64 n], .int .i64 x] w fun e w' => e = .returned (.bool true) ∧ Below w.heap.size w w' := by
  obtain ⟨w0, hw0⟩ : ∃ w0, w0 = (w.alloc (.cells #[.int .i64 k, .int .i64 n] 23)).alloc (.cells #[.int .i64 0, .int .i64 0, .int .i64 0, .int .i64 0, .int .i64 0, .int .i64 0, .int .i64 0, .string ⟨#[]⟩, .int .i64 0, .int .i64 0, .int .i64 0, .int .i64 0, .int .i64 k, .int .i64 n, .int .i64 0, .int .i64 0] 25) := ⟨_, rfl⟩
  obtain ⟨B, hB⟩ : ∃ B, B = w.heap.size + 1 := ⟨_, rfl⟩
  have hb0 : Below w.heap.size w w0 := by rw [hw0]; exact ((Below.refl _ _).alloc (Nat.le_refl _) _).alloc (by simp) _
  have K0 : Hid (Blk w0 w.heap.size #[.int .i64 k, .int .i64 n] 23) := Lib.hid (by rw [hw0]; exact (Blk.new w _ _).alloc _)
  have J0 : Hid (Blk w0 B #[.int .i64 0, .int .i64 0, .int .i64 0, .int .i64 0, .int .i64 0, .int .i64 0, .int .i64 0, .string ⟨#[]⟩, .int .i64 0, .int .i64 0, .int .i64 0, .int .i64 0, .int .i64 k, .int .i64 n, .int .i64 0, .int .i64 0] 25) := Lib.hid (by
    have h := Blk.new (w.alloc (.cells #[.int .i64 k, .int .i64 n] 23)) #[.int .i64 0, .int .i64 0, .int .i64 0, .int .i64 0, .int .i64 0, .int .i64 0, .int .i64 0, .string ⟨#[]⟩, .int .i64 0, .int .i64 0, .int .i64 0, .int .i64 0, .int .i64 k, .int .i64 n, .int .i64 0, .int .i64 0] 25
    rw [hw0, hB]; simpa using h)
  have HE := Lib.hid (fun (W : World) (hb : Below w0.heap.size w0 W) => (hE.below hb0).below hb)
  have HB := Lib.hid hb0
  obtain ⟨bb, hbb⟩ : ∃ bb, bb = Fil.bdB ⟨k, n⟩ := ⟨_, rfl⟩
  have HBB := Lib.hid hbb
  have G1 : Hid (∀ W, Env W → Calls Tryd.prog 9 #[.agg #[.int .i64 0, .int .i64 0, .int .i64 0, .int .i64 0, .int .i64 0, .int .i64 0, .int .i64 0, .string ⟨#[]⟩, .int .i64 0, .int .i64 0, .int .i64 0, .int .i64 0, .int .i64 k, .int .i64 n, .int .i64 0, .int .i64 0]] W fun e w' => e = .returned (.bool bb) ∧ Below W.heap.size W w') := Lib.hid (fun W hW => by
    have h := filIs { Fil.zero with tough := ⟨k, n⟩ } ⟨#[]⟩ rfl (by decide) W hW
    rw [zero_tough, ← hbb] at h
    exact h)
  have e7 : (bb == bb) = true := by simp
  clear hE hb0 hbb
  have hx0 : (x == 0) = false := by simp [hx]
  have hx1 : (x == 1) = true := by simp [hx]
  clear hx
  go_enter Tryd.func5, Tryd.ntmps5
  go_upto_region 8 with fail
  rw [← hw0, ← hB]
  clear hw0 hB
  go_cut [6] (fun v wx => v = .bool bb ∧ w0 = wx)
  case first =>
    have c0 : w0.cell? ⟨w.heap.size, 0, none⟩ = some (.int .i64 k) := K0.out.cell 0
    have c1 : w0.cell? ⟨w.heap.size, 1, none⟩ = some (.int .i64 n) := K0.out.cell 1
    have hkn : ¬ k = 0 := by intro h; rw [h] at hk0; simp at hk0
    have hk9 : (k == 0) = false := by simp [hkn]
    rcases bd_waysA k n hk0 with ⟨h1, hv⟩ | ⟨h1, h2, hv⟩ | ⟨h1, h2, h3, hv⟩ | ⟨h1, h2, h3, h4, hv⟩ | ⟨h1, h2, h3, h4, hv⟩
    all_goals
      have HV := Lib.hid hv
      clear hv
      go_wp2_with fail
      go_meet
      refine ⟨?_, rfl⟩
      first | (rw [HBB.out, HV.out]; done) | (rw [HBB.out, HV.out]; simp_all)
  case rest =>
    obtain ⟨rfl, rfl⟩ := hcut
    go_wp2_with fail
    refine (fromBase (C := w0.heap.size) (w0 := w0) (Below.refl _ _) (Nat.le_refl _) (filAlive _ (HE.out _ (Below.refl _ _)))).mono ?_
    rintro e w1 ⟨rfl, hb1⟩
    have j1 := J0.out.below hb1 J0.out.lt
    have y0 : w1.cell? ⟨B, 0, none⟩ = some (.int .i64 0) := j1.cell 0
    have y1 : w1.cell? ⟨B, 1, none⟩ = some (.int .i64 0) := j1.cell 1
    have y2 : w1.cell? ⟨B, 2, none⟩ = some (.int .i64 0) := j1.cell 2
    have y3 : w1.cell? ⟨B, 3, none⟩ = some (.int .i64 0) := j1.cell 3
    have y4 : w1.cell? ⟨B, 4, none⟩ = some (.int .i64 0) := j1.cell 4
    have y5 : w1.cell? ⟨B, 5, none⟩ = some (.int .i64 0) := j1.cell 5
    have y6 : w1.cell? ⟨B, 6, none⟩ = some (.int .i64 0) := j1.cell 6
    have y7 : w1.cell? ⟨B, 7, none⟩ = some (.string ⟨#[]⟩) := j1.cell 7
    have y8 : w1.cell? ⟨B, 8, none⟩ = some (.int .i64 0) := j1.cell 8
    have y9 : w1.cell? ⟨B, 9, none⟩ = some (.int .i64 0) := j1.cell 9
    have y10 : w1.cell? ⟨B, 10, none⟩ = some (.int .i64 0) := j1.cell 10
    have y11 : w1.cell? ⟨B, 11, none⟩ = some (.int .i64 0) := j1.cell 11
    have y12 : w1.cell? ⟨B, 12, none⟩ = some (.int .i64 k) := j1.cell 12
    have y13 : w1.cell? ⟨B, 13, none⟩ = some (.int .i64 n) := j1.cell 13
    have y14 : w1.cell? ⟨B, 14, none⟩ = some (.int .i64 0) := j1.cell 14
    have y15 : w1.cell? ⟨B, 15, none⟩ = some (.int .i64 0) := j1.cell 15
    have B1 := Lib.hid hb1
    clear j1 hb1
    go_wp2_with fail
    clear y0 y1 y2 y3 y4 y5 y6 y7 y8 y9 y10 y11 y12 y13 y14 y15
    refine (fromBase (C := w0.heap.size) (w0 := w0) B1.out (Nat.le_refl _) (G1.out _ (HE.out _ B1.out))).mono ?_
    rintro e w2 ⟨rfl, hb2⟩
    go_wp2_with fail
    go_ret
    exact ⟨rfl, HB.out.trans (hb2.mono HB.out.size)⟩
set_option maxHeartbeats 8000000 in
set_option maxRecDepth 100000 in
theorem bounds_toughB (n x : Int) (hn0 : (n == 0) = false) (hx : x = 1) (w : World) (hE : Env w) :
    Calls Tryd.prog 5 #[.agg #[.int .i64 0, .int .i64 n], .int .i64 x] w fun e w' => e = .returned (.bool true) ∧ Below w.heap.size w w' := by
  obtain ⟨w0, hw0⟩ : ∃ w0, w0 = (w.alloc (.cells #[.int .i64 0, .int .i64 n] 23)).alloc (.cells #[.int .i64 0, .int .i64 0, .int .i64 0, .int .i64 0, .int .i64 0, .int .i64 0, .int .i64 0, .string ⟨#[]⟩, .int .i64 0, .int .i64 0, .int .i64 0, .int .i64 0, .int .i64 0, .int .i64 n, .int .i64 0, .int .i64 0] 25) := ⟨_, rfl⟩
  obtain ⟨B, hB⟩ : ∃ B, B = w.heap.size + 1 := ⟨_, rfl⟩
  have hb0 : Below w.heap.size w w0 := by rw [hw0]; exact ((Below.refl _ _).alloc (Nat.le_refl _) _).alloc (by simp) _
  have K0 : Hid (Blk w0 w.heap.size #[.int .i64 0, .int .i64 n] 23) := Lib.hid (by rw [hw0]; exact (Blk.new w _ _).alloc _)
  have J0 : Hid (Blk w0 B #[.int .i64 0, .int .i64 0, .int .i64 0, .int .i64 0, .int .i64 0, .int .i64 0, .int .i64 0, .string ⟨#[]⟩, .int .i64 0, .int .i64 0, .int .i64 0, .int .i64 0, .int .i64 0, .int .i64 n, .int .i64 0, .int .i64 0] 25) := Lib.hid (by
    have h := Blk.new (w.alloc (.cells #[.int .i64 0, .int .i64 n] 23)) #[.int .i64 0, .int .i64 0, .int .i64 0, .int .i64 0, .int .i64 0, .int .i64 0, .int .i64 0, .string ⟨#[]⟩, .int .i64 0, .int .i64 0, .int .i64 0, .int .i64 0, .int .i64 0, .int .i64 n, .int .i64 0, .int .i64 0] 25
    rw [hw0, hB]; simpa using h)
  have HE := Lib.hid (fun (W : World) (hb : Below w0.heap.size w0 W) => (hE.below hb0).below hb)
  have HB := Lib.hid hb0
  obtain ⟨bb, hbb⟩ : ∃ bb, bb = Fil.bdB ⟨0, n⟩ := ⟨_, rfl⟩
  have HBB := Lib.hid hbb
  have G1 : Hid (∀ W, Env W → Calls Tryd.prog 9 #[.agg #[.int .i64 0, .int .i64 0, .int .i64 0, .int .i64 0, .int .i64 0, .int .i64 0, .int .i64 0, .string ⟨#[]⟩, .int .i64 0, .int .i64 0, .int .i64 0, .int .i64 0, .int .i64 0, .int .i64 n, .int .i64 0, .int .i64 0]] W fun e w' => e = .returned (.bool bb) ∧ Below W.heap.size W w') := Lib.hid (fun W hW => by
    have h := filIs { Fil.zero with tough := ⟨0, n⟩ } ⟨#[]⟩ rfl (by decide) W hW
    rw [zero_tough, ← hbb] at h
    exact h)
  have e7 : (bb == bb) = true := by simp
  clear hE hb0 hbb
  have hx0 : (x == 0) = false := by simp [hx]
  have hx1 : (x == 1) = true := by simp [hx]
  clear hx
  go_enter Tryd.func5, Tryd.ntmps5
  go_upto_region 8 with fail
  rw [← hw0, ← hB]
  clear hw0 hB
  go_cut [6] (fun v wx => v = .bool bb ∧ w0 = wx)
  case first =>
    have c0 : w0.cell? ⟨w.heap.size, 0, none⟩ = some (.int .i64 0) := K0.out.cell 0
    have c1 : w0.cell? ⟨w.heap.size, 1, none⟩ = some (.int .i64 n) := K0.out.cell 1
    rcases bd_waysB n hn0 with ⟨h1, hv⟩ | ⟨h1, h2, hv⟩ | ⟨h1, h2, hv⟩
    all_goals
      have HV := Lib.hid hv
      clear hv
      go_wp2_with fail
      go_meet
      refine ⟨?_, rfl⟩
      first | (rw [HBB.out, HV.out]; done) | (rw [HBB.out, HV.out]; simp_all)
  case rest =>
    obtain ⟨rfl, rfl⟩ := hcut
    go_wp2_with fail
    refine (fromBase (C := w0.heap.size) (w0 := w0) (Below.refl _ _) (Nat.le_refl _) (filAlive _ (HE.out _ (Below.refl _ _)))).mono ?_
    rintro e w1 ⟨rfl, hb1⟩
    have j1 := J0.out.below hb1 J0.out.lt
    have y0 : w1.cell? ⟨B, 0, none⟩ = some (.int .i64 0) := j1.cell 0
    have y1 : w1.cell? ⟨B, 1, none⟩ = some (.int .i64 0) := j1.cell 1
    have y2 : w1.cell? ⟨B, 2, none⟩ = some (.int .i64 0) := j1.cell 2
    have y3 : w1.cell? ⟨B, 3, none⟩ = some (.int .i64 0) := j1.cell 3
    have y4 : w1.cell? ⟨B, 4, none⟩ = some (.int .i64 0) := j1.cell 4
    have y5 : w1.cell? ⟨B, 5, none⟩ = some (.int .i64 0) := j1.cell 5
    have y6 : w1.cell? ⟨B, 6, none⟩ = some (.int .i64 0) := j1.cell 6
    have y7 : w1.cell? ⟨B, 7, none⟩ = some (.string ⟨#[]⟩) := j1.cell 7
    have y8 : w1.cell? ⟨B, 8, none⟩ = some (.int .i64 0) := j1.cell 8
    have y9 : w1.cell? ⟨B, 9, none⟩ = some (.int .i64 0) := j1.cell 9
    have y10 : w1.cell? ⟨B, 10, none⟩ = some (.int .i64 0) := j1.cell 10
    have y11 : w1.cell? ⟨B, 11, none⟩ = some (.int .i64 0) := j1.cell 11
    have y12 : w1.cell? ⟨B, 12, none⟩ = some (.int .i64 0) := j1.cell 12
    have y13 : w1.cell? ⟨B, 13, none⟩ = some (.int .i64 n) := j1.cell 13
    have y14 : w1.cell? ⟨B, 14, none⟩ = some (.int .i64 0) := j1.cell 14
    have y15 : w1.cell? ⟨B, 15, none⟩ = some (.int .i64 0) := j1.cell 15
    have B1 := Lib.hid hb1
    clear j1 hb1
    go_wp2_with fail
    clear y0 y1 y2 y3 y4 y5 y6 y7 y8 y9 y10 y11 y12 y13 y14 y15
    refine (fromBase (C := w0.heap.size) (w0 := w0) B1.out (Nat.le_refl _) (G1.out _ (HE.out _ B1.out))).mono ?_
    rintro e w2 ⟨rfl, hb2⟩
    go_wp2_with fail
    go_ret
    exact ⟨rfl, HB.out.trans (hb2.mono HB.out.size)⟩
set_option maxHeartbeats 8000000 in
set_option maxRecDepth 100000 in
theorem bounds_toughC (x : Int) (hx : x = 1) (w : World) (hE : Env w) :
    Calls Tryd.prog 5 #[.agg #[.int .i64 0, .int .i64 0], .int .i64 x] w fun e w' => e = .returned (.bool true) ∧ Below w.heap.size w w' := by
  obtain ⟨w0, hw0⟩ : ∃ w0, w0 = (w.alloc (.cells #[.int .i64 0, .int .i64 0] 23)).alloc (.cells #[.int .i64 0, .int .i64 0, .int .i64 0, .int .i64 0, .int .i64 0, .int .i64 0, .int .i64 0, .string ⟨#[]⟩, .int .i64 0, .int .i64 0, .int .i64 0, .int .i64 0, .int .i64 0, .int .i64 0, .int .i64 0, .int .i64 0] 25) := ⟨_, rfl⟩
  obtain ⟨B, hB⟩ : ∃ B, B = w.heap.size + 1 := ⟨_, rfl⟩
  have hb0 : Below w.heap.size w w0 := by rw [hw0]; exact ((Below.refl _ _).alloc (Nat.le_refl _) _).alloc (by simp) _
  have K0 : Hid (Blk w0 w.heap.size #[.int .i64 0, .int .i64 0] 23) := Lib.hid (by rw [hw0]; exact (Blk.new w _ _).alloc _)
  have J0 : Hid (Blk w0 B #[.int .i64 0, .int .i64 0, .int .i64 0, .int .i64 0, .int .i64 0, .int .i64 0, .int .i64 0, .string ⟨#[]⟩, .int .i64 0, .int .i64 0, .int .i64 0, .int .i64 0, .int .i64 0, .int .i64 0, .int .i64 0, .int .i64 0] 25) := Lib.hid (by
    have h := Blk.new (w.alloc (.cells #[.int .i64 0, .int .i64 0] 23)) #[.int .i64 0, .int .i64 0, .int .i64 0, .int .i64 0, .int .i64 0, .int .i64 0, .int .i64 0, .string ⟨#[]⟩, .int .i64 0, .int .i64 0, .int .i64 0, .int .i64 0, .int .i64 0, .int .i64 0, .int .i64 0, .int .i64 0] 25
    rw [hw0, hB]; simpa using h)
  have HE := Lib.hid (fun (W : World) (hb : Below w0.heap.size w0 W) => (hE.below hb0).below hb)
  have HB := Lib.hid hb0
  obtain ⟨bb, hbb⟩ : ∃ bb, bb = Fil.bdB ⟨0, 0⟩ := ⟨_, rfl⟩
  have HBB := Lib.hid hbb
  have G1 : Hid (∀ W, Env W → Calls Tryd.prog 9 #[.agg #[.int .i64 0, .int .i64 0, .int .i64 0, .int .i64 0, .int .i64 0, .int .i64 0, .int .i64 0, .string ⟨#[]⟩, .int .i64 0, .int .i64 0, .int .i64 0, .int .i64 0, .int .i64 0, .int .i64 0, .int .i64 0, .int .i64 0]] W fun e w' => e = .returned (.bool bb) ∧ Below W.heap.size W w') := Lib.hid (fun W hW => by
    have h := filIs { Fil.zero with tough := ⟨0, 0⟩ } ⟨#[]⟩ rfl (by decide) W hW
    rw [zero_tough, ← hbb] at h
    exact h)
  have e7 : (bb == bb) = true := by simp
  clear hE hb0 hbb
  have hx0 : (x == 0) = false := by simp [hx]
  have hx1 : (x == 1) = true := by simp [hx]
  clear hx
  go_enter Tryd.func5, Tryd.ntmps5
  go_upto_region 8 with fail
  rw [← hw0, ← hB]
  clear hw0 hB
  go_cut [6] (fun v wx => v = .bool bb ∧ w0 = wx)
  case first =>
    have c0 : w0.cell? ⟨w.heap.size, 0, none⟩ = some (.int .i64 0) := K0.out.cell 0
    have c1 : w0.cell? ⟨w.heap.size, 1, none⟩ = some (.int .i64 0) := K0.out.cell 1
    have hv : Fil.bdB ⟨0, 0⟩ = true := by decide
    all_goals
      have HV := Lib.hid hv
      clear hv
      go_wp2_with fail
      go_meet
      refine ⟨?_, rfl⟩
      first | (rw [HBB.out, HV.out]; done) | (rw [HBB.out, HV.out]; simp_all)
  case rest =>
    obtain ⟨rfl, rfl⟩ := hcut
    go_wp2_with fail
    refine (fromBase (C := w0.heap.size) (w0 := w0) (Below.refl _ _) (Nat.le_refl _) (filAlive _ (HE.out _ (Below.refl _ _)))).mono ?_
    rintro e w1 ⟨rfl, hb1⟩
    have j1 := J0.out.below hb1 J0.out.lt
    have y0 : w1.cell? ⟨B, 0, none⟩ = some (.int .i64 0) := j1.cell 0
    have y1 : w1.cell? ⟨B, 1, none⟩ = some (.int .i64 0) := j1.cell 1
    have y2 : w1.cell? ⟨B, 2, none⟩ = some (.int .i64 0) := j1.cell 2
    have y3 : w1.cell? ⟨B, 3, none⟩ = some (.int .i64 0) := j1.cell 3
    have y4 : w1.cell? ⟨B, 4, none⟩ = some (.int .i64 0) := j1.cell 4
    have y5 : w1.cell? ⟨B, 5, none⟩ = some (.int .i64 0) := j1.cell 5
    have y6 : w1.cell? ⟨B, 6, none⟩ = some (.int .i64 0) := j1.cell 6
    have y7 : w1.cell? ⟨B, 7, none⟩ = some (.string ⟨#[]⟩) := j1.cell 7
    have y8 : w1.cell? ⟨B, 8, none⟩ = some (.int .i64 0) := j1.cell 8
    have y9 : w1.cell? ⟨B, 9, none⟩ = some (.int .i64 0) := j1.cell 9
    have y10 : w1.cell? ⟨B, 10, none⟩ = some (.int .i64 0) := j1.cell 10
    have y11 : w1.cell? ⟨B, 11, none⟩ = some (.int .i64 0) := j1.cell 11
    have y12 : w1.cell? ⟨B, 12, none⟩ = some (.int .i64 0) := j1.cell 12
    have y13 : w1.cell? ⟨B, 13, none⟩ = some (.int .i64 0) := j1.cell 13
    have y14 : w1.cell? ⟨B, 14, none⟩ = some (.int .i64 0) := j1.cell 14
    have y15 : w1.cell? ⟨B, 15, none⟩ = some (.int .i64 0) := j1.cell 15
    have B1 := Lib.hid hb1
    clear j1 hb1
    go_wp2_with fail
    clear y0 y1 y2 y3 y4 y5 y6 y7 y8 y9 y10 y11 y12 y13 y14 y15
    refine (fromBase (C := w0.heap.size) (w0 := w0) B1.out (Nat.le_refl _) (G1.out _ (HE.out _ B1.out))).mono ?_
    rintro e w2 ⟨rfl, hb2⟩
    go_wp2_with fail
    go_ret
    exact ⟨rfl, HB.out.trans (hb2.mono HB.out.size)⟩
set_option maxHeartbeats 8000000 in
set_option maxRecDepth 100000 in
theorem bounds_valA (k n x : Int) (hk0 : (k == 0) = false) (hx : x ≠ 0) (hx1 : x ≠ 1) (w : World) (hE : Env w) :
    Calls Tryd.prog 5 #[.agg #[.int .i64 k, .int .i64 n], .int .i64 x] w fun e w' => e = .returned (.bool true) ∧ Below w.heap.size w w' := by
  obtain ⟨w0, hw0⟩ : ∃ w0, w0 = (w.alloc (.cells #[.int .i64 k, .int .i64 n] 23)).alloc (.cells #[.int .i64 0, .int .i64 0, .int .i64 0, .int .i64 0, .int .i64 0, .int .i64 0, .int .i64 0, .string ⟨#[]⟩, .int .i64 0, .int .i64 0, .int .i64 0, .int .i64 0, .int .i64 0, .int .i64 0, .int .i64 k, .int .i64 n] 25) := ⟨_, rfl⟩
  obtain ⟨B, hB⟩ : ∃ B, B = w.heap.size + 1 := ⟨_, rfl⟩
  have hb0 : Below w.heap.size w w0 := by rw [hw0]; exact ((Below.refl _ _).alloc (Nat.le_refl _) _).alloc (by simp) _
  have K0 : Hid (Blk w0 w.heap.size #[.int .i64 k, .int .i64 n] 23) := Lib.hid (by rw [hw0]; exact (Blk.new w _ _).alloc _)
  have J0 : Hid (Blk w0 B #[.int .i64 0, .int .i64 0, .int .i64 0, .int .i64 0, .int .i64 0, .int .i64 0, .int .i64 0, .string ⟨#[]⟩, .int .i64 0, .int .i64 0, .int .i64 0, .int .i64 0, .int .i64 0, .int .i64 0, .int .i64 k, .int .i64 n] 25) := Lib.hid (by
    have h := Blk.new (w.alloc (.cells #[.int .i64 k, .int .i64 n] 23)) #[.int .i64 0, .int .i64 0, .int .i64 0, .int .i64 0, .int .i64 0, .int .i64 0, .int .i64 0, .string ⟨#[]⟩, .int .i64 0, .int .i64 0, .int .i64 0, .int .i64 0, .int .i64 0, .int .i64 0, .int .i64 k, .int .i64 n] 25
    rw [hw0, hB]; simpa using h)
  have HE := Lib.hid (fun (W : World) (hb : Below w0.heap.size w0 W) => (hE.below hb0).below hb)
  have HB := Lib.hid hb0
  obtain ⟨bb, hbb⟩ : ∃ bb, bb = Fil.bdB ⟨k, n⟩ := ⟨_, rfl⟩
  have HBB := Lib.hid hbb
  have G1 : Hid (∀ W, Env W → Calls Tryd.prog 9 #[.agg #[.int .i64 0, .int .i64 0, .int .i64 0, .int .i64 0, .int .i64 0, .int .i64 0, .int .i64 0, .string ⟨#[]⟩, .int .i64 0, .int .i64 0, .int .i64 0, .int .i64 0, .int .i64 0, .int .i64 0, .int .i64 k, .int .i64 n]] W fun e w' => e = .returned (.bool bb) ∧ Below W.heap.size W w') := Lib.hid (fun W hW => by
    have h := filIs { Fil.zero with val := ⟨k, n⟩ } ⟨#[]⟩ rfl (by decide) W hW
    rw [zero_val, ← hbb] at h
    exact h)
  have e7 : (bb == bb) = true := by simp
  clear hE hb0 hbb
  have hx0 : (x == 0) = false := by simp [hx]
  have hx2 : (x == 1) = false := by simp [hx1]
  clear hx hx1
  go_enter Tryd.func5, Tryd.ntmps5
  go_upto_region 8 with fail
  rw [← hw0, ← hB]
  clear hw0 hB
  go_cut [6] (fun v wx => v = .bool bb ∧ w0 = wx)
  case first =>
    have c0 : w0.cell? ⟨w.heap.size, 0, none⟩ = some (.int .i64 k) := K0.out.cell 0
    have c1 : w0.cell? ⟨w.heap.size, 1, none⟩ = some (.int .i64 n) := K0.out.cell 1
    have hkn : ¬ k = 0 := by intro h; rw [h] at hk0; simp at hk0
    have hk9 : (k == 0) = false := by simp [hkn]
    rcases bd_waysA k n hk0 with ⟨h1, hv⟩ | ⟨h1, h2, hv⟩ | ⟨h1, h2, h3, hv⟩ | ⟨h1, h2, h3, h4, hv⟩ | ⟨h1, h2, h3, h4, hv⟩
    all_goals
      have HV := Lib.hid hv
      clear hv
      go_wp2_with fail
      go_meet
      refine ⟨?_, rfl⟩
      first | (rw [HBB.out, HV.out]; done) | (rw [HBB.out, HV.out]; simp_all)
  case rest =>
    obtain ⟨rfl, rfl⟩ := hcut
    go_wp2_with fail
    refine (fromBase (C := w0.heap.size) (w0 := w0) (Below.refl _ _) (Nat.le_refl _) (filAlive _ (HE.out _ (Below.refl _ _)))).mono ?_
    rintro e w1 ⟨rfl, hb1⟩
    have j1 := J0.out.below hb1 J0.out.lt
    have y0 : w1.cell? ⟨B, 0, none⟩ = some (.int .i64 0) := j1.cell 0
    have y1 : w1.cell? ⟨B, 1, none⟩ = some (.int .i64 0) := j1.cell 1
    have y2 : w1.cell? ⟨B, 2, none⟩ = some (.int .i64 0) := j1.cell 2
    have y3 : w1.cell? ⟨B, 3, none⟩ = some (.int .i64 0) := j1.cell 3
    have y4 : w1.cell? ⟨B, 4, none⟩ = some (.int .i64 0) := j1.cell 4
    have y5 : w1.cell? ⟨B, 5, none⟩ = some (.int .i64 0) := j1.cell 5
    have y6 : w1.cell? ⟨B, 6, none⟩ = some (.int .i64 0) := j1.cell 6
    have y7 : w1.cell? ⟨B, 7, none⟩ = some (.string ⟨#[]⟩) := j1.cell 7
    have y8 : w1.cell? ⟨B, 8, none⟩ = some (.int .i64 0) := j1.cell 8
    have y9 : w1.cell? ⟨B, 9, none⟩ = some (.int .i64 0) := j1.cell 9
    have y10 : w1.cell? ⟨B, 10, none⟩ = some (.int .i64 0) := j1.cell 10
    have y11 : w1.cell? ⟨B, 11, none⟩ = some (.int .i64 0) := j1.cell 11
    have y12 : w1.cell? ⟨B, 12, none⟩ = some (.int .i64 0) := j1.cell 12
    have y13 : w1.cell? ⟨B, 13, none⟩ = some (.int .i64 0) := j1.cell 13
    have y14 : w1.cell? ⟨B, 14, none⟩ = some (.int .i64 k) := j1.cell 14
    have y15 : w1.cell? ⟨B, 15, none⟩ = some (.int .i64 n) := j1.cell 15
    have B1 := Lib.hid hb1
    clear j1 hb1
    go_wp2_with fail
    clear y0 y1 y2 y3 y4 y5 y6 y7 y8 y9 y10 y11 y12 y13 y14 y15
    refine (fromBase (C := w0.heap.size) (w0 := w0) B1.out (Nat.le_refl _) (G1.out _ (HE.out _ B1.out))).mono ?_
    rintro e w2 ⟨rfl, hb2⟩
    go_wp2_with fail
    go_ret
    exact ⟨rfl, HB.out.trans (hb2.mono HB.out.size)⟩
set_option maxHeartbeats 8000000 in
set_option maxRecDepth 100000 in
theorem bounds_valB (n x : Int) (hn0 : (n == 0) = false) (hx : x ≠ 0) (hx1 : x ≠ 1) (w : World) (hE : Env w) :
    Calls Tryd.prog 5 #[.agg #[.int .i64 0, .int .i64 n], .int .i64 x] w fun e w' => e = .returned (.bool true) ∧ Below w.heap.size w w' := by
  obtain ⟨w0, hw0⟩ : ∃ w0, w0 = (w.alloc (.cells #[.int .i64 0, .int .i64 n] 23)).alloc (.cells #[.int .i64 0, .int .i64 0, .int .i64 0, .int .i64 0, .int .i64 0, .int .i64 0, .int .i64 0, .string ⟨#[]⟩, .int .i64 0, .int .i64 0, .int .i64 0, .int .i64 0, .int .i64 0, .int .i64 0, .int .i64 0, .int .i64 n] 25) := ⟨_, rfl⟩
  obtain ⟨B, hB⟩ : ∃ B, B = w.heap.size + 1 := ⟨_, rfl⟩
  have hb0 : Below w.heap.size w w0 := by rw [hw0]; exact ((Below.refl _ _).alloc (Nat.le_refl _) _).alloc (by simp) _
  have K0 : Hid (Blk w0 w.heap.size #[.int .i64 0, .int .i64 n] 23) := Lib.hid (by rw [hw0]; exact (Blk.new w _ _).alloc _)
  have J0 : Hid (Blk w0 B #[.int .i64 0, .int .i64 0, .int .i64 0, .int .i64 0, .int .i64 0, .int .i64 0, .int .i64 0, .string ⟨#[]⟩, .int .i64 0, .int .i64 0, .int .i64 0, .int .i64 0, .int .i64 0, .int .i64 0, .int .i64 0, .int .i64 n] 25) := Lib.hid (by
    have h := Blk.new (w.alloc (.cells #[.int .i64 0, .int .i64 n] 23)) #[.int .i64 0, .int .i64 0, .int .i64 0, .int .i64 0, .int .i64 0, .int .i64 0, .int .i64 0, .string ⟨#[]⟩, .int .i64 0, .int .i64 0, .int .i64 0, .int .i64 0, .int .i64 0, .int .i64 0, .int .i64 0, .int .i64 n] 25
    rw [hw0, hB]; simpa using h)
  have HE := Lib.hid (fun (W : World) (hb : Below w0.heap.size w0 W) => (hE.below hb0).below hb)
  have HB := Lib.hid hb0
  obtain ⟨bb, hbb⟩ : ∃ bb, bb = Fil.bdB ⟨0, n⟩ := ⟨_, rfl⟩
  have HBB := Lib.hid hbb
  have G1 : Hid (∀ W, Env W → Calls Tryd.prog 9 #[.agg #[.int .i64 0, .int .i64 0, .int .i64 0, .int .i64 0, .int .i64 0, .int .i64 0, .int .i64 0, .string ⟨#[]⟩, .int .i64 0, .int .i64 0, .int .i64 0, .int .i64 0, .int .i64 0, .int .i64 0, .int .i64 0, .int .i64 n]] W fun e w' => e = .returned (.bool bb) ∧ Below W.heap.size W w') := Lib.hid (fun W hW => by
    have h := filIs { Fil.zero with val := ⟨0, n⟩ } ⟨#[]⟩ rfl (by decide) W hW
    rw [zero_val, ← hbb] at h
    exact h)
  have e7 : (bb == bb) = true := by simp
  clear hE hb0 hbb
  have hx0 : (x == 0) = false := by simp [hx]
  have hx2 : (x == 1) = false := by simp [hx1]
  clear hx hx1
  go_enter Tryd.func5, Tryd.ntmps5
  go_upto_region 8 with fail
  rw [← hw0, ← hB]
  clear hw0 hB
  go_cut [6] (fun v wx => v = .bool bb ∧ w0 = wx)
  case first =>
    have c0 : w0.cell? ⟨w.heap.size, 0, none⟩ = some (.int .i64 0) := K0.out.cell 0
    have c1 : w0.cell? ⟨w.heap.size, 1, none⟩ = some (.int .i64 n) := K0.out.cell 1
    rcases bd_waysB n hn0 with ⟨h1, hv⟩ | ⟨h1, h2, hv⟩ | ⟨h1, h2, hv⟩
    all_goals
      have HV := Lib.hid hv
      clear hv
      go_wp2_with fail
      go_meet
      refine ⟨?_, rfl⟩
      first | (rw [HBB.out, HV.out]; done) | (rw [HBB.out, HV.out]; simp_all)
  case rest =>
    obtain ⟨rfl, rfl⟩ := hcut
    go_wp2_with fail
    refine (fromBase (C := w0.heap.size) (w0 := w0) (Below.refl _ _) (Nat.le_refl _) (filAlive _ (HE.out _ (Below.refl _ _)))).mono ?_
    rintro e w1 ⟨rfl, hb1⟩
    have j1 := J0.out.below hb1 J0.out.lt
    have y0 : w1.cell? ⟨B, 0, none⟩ = some (.int .i64 0) := j1.cell 0
    have y1 : w1.cell? ⟨B, 1, none⟩ = some (.int .i64 0) := j1.cell 1
    have y2 : w1.cell? ⟨B, 2, none⟩ = some (.int .i64 0) := j1.cell 2
    have y3 : w1.cell? ⟨B, 3, none⟩ = some (.int .i64 0) := j1.cell 3
    have y4 : w1.cell? ⟨B, 4, none⟩ = some (.int .i64 0) := j1.cell 4
    have y5 : w1.cell? ⟨B, 5, none⟩ = some (.int .i64 0) := j1.cell 5
    have y6 : w1.cell? ⟨B, 6, none⟩ = some (.int .i64 0) := j1.cell 6
    have y7 : w1.cell? ⟨B, 7, none⟩ = some (.string ⟨#[]⟩) := j1.cell 7
    have y8 : w1.cell? ⟨B, 8, none⟩ = some (.int .i64 0) := j1.cell 8
    have y9 : w1.cell? ⟨B, 9, none⟩ = some (.int .i64 0) := j1.cell 9
    have y10 : w1.cell? ⟨B, 10, none⟩ = some (.int .i64 0) := j1.cell 10
    have y11 : w1.cell? ⟨B, 11, none⟩ = some (.int .i64 0) := j1.cell 11
    have y12 : w1.cell? ⟨B, 12, none⟩ = some (.int .i64 0) := j1.cell 12
    have y13 : w1.cell? ⟨B, 13, none⟩ = some (.int .i64 0) := j1.cell 13
    have y14 : w1.cell? ⟨B, 14, none⟩ = some (.int .i64 0) := j1.cell 14
    have y15 : w1.cell? ⟨B, 15, none⟩ = some (.int .i64 n) := j1.cell 15
    have B1 := Lib.hid hb1
    clear j1 hb1
    go_wp2_with fail
    clear y0 y1 y2 y3 y4 y5 y6 y7 y8 y9 y10 y11 y12 y13 y14 y15
    refine (fromBase (C := w0.heap.size) (w0 := w0) B1.out (Nat.le_refl _) (G1.out _ (HE.out _ B1.out))).mono ?_
    rintro e w2 ⟨rfl, hb2⟩
    go_wp2_with fail
    go_ret
    exact ⟨rfl, HB.out.trans (hb2.mono HB.out.size)⟩
set_option maxHeartbeats 8000000 in
set_option maxRecDepth 100000 in
theorem bounds_valC (x : Int) (hx : x ≠ 0) (hx1 : x ≠ 1) (w : World) (hE : Env w) :
    Calls Tryd.prog 5 #[.agg #[.int .i64 0, .int .i64 0], .int .i64 x] w fun e w' => e = .returned (.bool true) ∧ Below w.heap.size w w' := by
  obtain ⟨w0, hw0⟩ : ∃ w0, w0 = (w.alloc (.cells #[.int .i64 0, .int .i64 0] 23)).alloc (.cells #[.int .i64 0, .int .i64 0, .int .i64 0, .int .i64 0, .int .i64 0, .int .i64 0, .int .i64 0, .string ⟨#[]⟩, .int .i64 0, .int .i64 0, .int .i64 0, .int .i64 0, .int .i64 0, .int .i64 0, .int .i64 0, .int .i64 0] 25) := ⟨_, rfl⟩
  obtain ⟨B, hB⟩ : ∃ B, B = w.heap.size + 1 := ⟨_, rfl⟩
  have hb0 : Below w.heap.size w w0 := by rw [hw0]; exact ((Below.refl _ _).alloc (Nat.le_refl _) _).alloc (by simp) _
  have K0 : Hid (Blk w0 w.heap.size #[.int .i64 0, .int .i64 0] 23) := Lib.hid (by rw [hw0]; exact (Blk.new w _ _).alloc _)
  have J0 : Hid (Blk w0 B #[.int .i64 0, .int .i64 0, .int .i64 0, .int .i64 0, .int .i64 0, .int .i64 0, .int .i64 0, .string ⟨#[]⟩, .int .i64 0, .int .i64 0, .int .i64 0, .int .i64 0, .int .i64 0, .int .i64 0, .int .i64 0, .int .i64 0] 25) := Lib.hid (by
    have h := Blk.new (w.alloc (.cells #[.int .i64 0, .int .i64 0] 23)) #[.int .i64 0, .int .i64 0, .int .i64 0, .int .i64 0, .int .i64 0, .int .i64 0, .int .i64 0, .string ⟨#[]⟩, .int .i64 0, .int .i64 0, .int .i64 0, .int .i64 0, .int .i64 0, .int .i64 0, .int .i64 0, .int .i64 0] 25
    rw [hw0, hB]; simpa using h)
  have HE := Lib.hid (fun (W : World) (hb : Below w0.heap.size w0 W) => (hE.below hb0).below hb)
  have HB := Lib.hid hb0
  obtain ⟨bb, hbb⟩ : ∃ bb, bb = Fil.bdB ⟨0, 0⟩ := ⟨_, rfl⟩
  have HBB := Lib.hid hbb
  have G1 : Hid (∀ W, Env W → Calls Tryd.prog 9 #[.agg #[.int .i64 0, .int .i64 0, .int .i64 0, .int .i64 0, .int .i64 0, .int .i64 0, .int .i64 0, .string ⟨#[]⟩, .int .i64 0, .int .i64 0, .int .i64 0, .int .i64 0, .int .i64 0, .int .i64 0, .int .i64 0, .int .i64 0]] W fun e w' => e = .returned (.bool bb) ∧ Below W.heap.size W w') := Lib.hid (fun W hW => by
    have h := filIs { Fil.zero with val := ⟨0, 0⟩ } ⟨#[]⟩ rfl (by decide) W hW
    rw [zero_val, ← hbb] at h
    exact h)
  have e7 : (bb == bb) = true := by simp
  clear hE hb0 hbb
  have hx0 : (x == 0) = false := by simp [hx]
  have hx2 : (x == 1) = false := by simp [hx1]
  clear hx hx1
  go_enter Tryd.func5, Tryd.ntmps5
  go_upto_region 8 with fail
  rw [← hw0, ← hB]
  clear hw0 hB
  go_cut [6] (fun v wx => v = .bool bb ∧ w0 = wx)
  case first =>
    have c0 : w0.cell? ⟨w.heap.size, 0, none⟩ = some (.int .i64 0) := K0.out.cell 0
    have c1 : w0.cell? ⟨w.heap.size, 1, none⟩ = some (.int .i64 0) := K0.out.cell 1
    have hv : Fil.bdB ⟨0, 0⟩ = true := by decide
    all_goals
      have HV := Lib.hid hv
      clear hv
      go_wp2_with fail
      go_meet
      refine ⟨?_, rfl⟩
      first | (rw [HBB.out, HV.out]; done) | (rw [HBB.out, HV.out]; simp_all)
  case rest =>
    obtain ⟨rfl, rfl⟩ := hcut
    go_wp2_with fail
    refine (fromBase (C := w0.heap.size) (w0 := w0) (Below.refl _ _) (Nat.le_refl _) (filAlive _ (HE.out _ (Below.refl _ _)))).mono ?_
    rintro e w1 ⟨rfl, hb1⟩
    have j1 := J0.out.below hb1 J0.out.lt
    have y0 : w1.cell? ⟨B, 0, none⟩ = some (.int .i64 0) := j1.cell 0
    have y1 : w1.cell? ⟨B, 1, none⟩ = some (.int .i64 0) := j1.cell 1
    have y2 : w1.cell? ⟨B, 2, none⟩ = some (.int .i64 0) := j1.cell 2
    have y3 : w1.cell? ⟨B, 3, none⟩ = some (.int .i64 0) := j1.cell 3
    have y4 : w1.cell? ⟨B, 4, none⟩ = some (.int .i64 0) := j1.cell 4
    have y5 : w1.cell? ⟨B, 5, none⟩ = some (.int .i64 0) := j1.cell 5
    have y6 : w1.cell? ⟨B, 6, none⟩ = some (.int .i64 0) := j1.cell 6
    have y7 : w1.cell? ⟨B, 7, none⟩ = some (.string ⟨#[]⟩) := j1.cell 7
    have y8 : w1.cell? ⟨B, 8, none⟩ = some (.int .i64 0) := j1.cell 8
    have y9 : w1.cell? ⟨B, 9, none⟩ = some (.int .i64 0) := j1.cell 9
    have y10 : w1.cell? ⟨B, 10, none⟩ = some (.int .i64 0) := j1.cell 10
    have y11 : w1.cell? ⟨B, 11, none⟩ = some (.int .i64 0) := j1.cell 11
    have y12 : w1.cell? ⟨B, 12, none⟩ = some (.int .i64 0) := j1.cell 12
    have y13 : w1.cell? ⟨B, 13, none⟩ = some (.int .i64 0) := j1.cell 13
    have y14 : w1.cell? ⟨B, 14, none⟩ = some (.int .i64 0) := j1.cell 14
    have y15 : w1.cell? ⟨B, 15, none⟩ = some (.int .i64 0) := j1.cell 15
    have B1 := Lib.hid hb1
    clear j1 hb1
    go_wp2_with fail
    clear y0 y1 y2 y3 y4 y5 y6 y7 y8 y9 y10 y11 y12 y13 y14 y15
    refine (fromBase (C := w0.heap.size) (w0 := w0) B1.out (Nat.le_refl _) (G1.out _ (HE.out _ B1.out))).mono ?_
    rintro e w2 ⟨rfl, hb2⟩
    go_wp2_with fail
    go_ret
    exact ⟨rfl, HB.out.trans (hb2.mono HB.out.size)⟩
theorem lawFilterBounds (b : Fil.Bd) (x : Int) (w : World) (hE : Env w) :
    Calls Tryd.prog 5 #[.agg #[.int .i64 b.kind, .int .i64 b.n], .int .i64 x] w fun e w' => e = .returned (.bool true) ∧ Below w.heap.size w w' := by
  obtain ⟨k, n⟩ := b
  show Calls Tryd.prog 5 #[.agg #[.int .i64 k, .int .i64 n], .int .i64 x] w _
  by_cases hk : k = 0
  · subst hk
    by_cases hn : n = 0
    · subst hn
      by_cases h0 : x = 0
      · exact bounds_powC x h0 w hE
      · by_cases h1 : x = 1
        · exact bounds_toughC x h1 w hE
        · exact bounds_valC x h0 h1 w hE
    · have hn0 : (n == 0) = false := by simp [hn]
      by_cases h0 : x = 0
      · exact bounds_powB n x hn0 h0 w hE
      · by_cases h1 : x = 1
        · exact bounds_toughB n x hn0 h1 w hE
        · exact bounds_valB n x hn0 h0 h1 w hE
  · have hk0 : (k == 0) = false := by simp [hk]
    by_cases h0 : x = 0
    · exact bounds_powA k n x hk0 h0 w hE
    · by_cases h1 : x = 1
      · exact bounds_toughA k n x hk0 h1 w hE
      · exact bounds_valA k n x hk0 h0 h1 w hE
end Go.Proofs.YtboealolklojiaaDoor
