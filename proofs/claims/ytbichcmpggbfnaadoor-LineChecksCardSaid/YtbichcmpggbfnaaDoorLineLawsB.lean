/-
  THE LAWS OF LAYER 10: checks. By an AI agent.
-/
import Derived.Test.YtbichcmpggbfnaaDoorLineIn
import Derived.Deep.RegionHeld3
namespace Go.Proofs.YtbichcmpggbfnaaDoor
open Go.RowKit
open Wd (Bs)

set_option maxHeartbeats 4000000 in
set_option maxRecDepth 100000 in
theorem lawLineChecks (a1 t1 a2 t2 : Int) (v1 v2 : Value) (l1 l2 : List Bs) (s : ByteArray) (w : World) (h1 : LineIn w v1 l1) (h2 : LineIn w v2 l2) (hi1 : t1 ≤ 9223372036854775807) (hs : s.size ≤ 140737488351232) (hE : Env w) :
    Calls Tryd.prog 3 #[.agg #[.int .i64 a1, .int .i64 t1, v1], .agg #[.int .i64 a2, .int .i64 t2, v2], .string s] w fun e w' => e = .returned (.bool true) ∧ Below w.heap.size w w' := by
  obtain ⟨w0, hw0⟩ : ∃ w0, w0 = (w.alloc (.cells #[.int .i64 a1, .int .i64 t1, v1] 24)).alloc (.cells #[.int .i64 a2, .int .i64 t2, v2] 24) := ⟨_, rfl⟩
  have hb0 : Below w.heap.size w w0 := by rw [hw0]; exact ((Below.refl _ _).alloc (Nat.le_refl _) _).alloc (by simp) _
  have hsz0 : w0.heap.size = w.heap.size + 2 := by rw [hw0]; simp
  have hz0 : Blk w0 w.heap.size #[.int .i64 a1, .int .i64 t1, v1] 24 := by rw [hw0]; exact (Blk.new _ _ _).alloc _
  have hz1 : Blk w0 (w.heap.size + 1) #[.int .i64 a2, .int .i64 t2, v2] 24 := by
    have h := Blk.new (w.alloc (.cells #[.int .i64 a1, .int .i64 t1, v1] 24)) #[.int .i64 a2, .int .i64 t2, v2] 24
    rw [hw0]
    rwa [show (w.alloc (.cells #[.int .i64 a1, .int .i64 t1, v1] 24)).heap.size = w.heap.size + 1 by simp] at h
  have HB0 := Lib.hid hb0
  have HE := Lib.hid (fun (W : World) (h : Below w0.heap.size w0 W) => (hE.below hb0).below h)
  have HE0 := Lib.hid (hE.below hb0)
  have H1 := Lib.hid (fun (W : World) (h : Below w0.heap.size w0 W) => (h1.below hb0 (Nat.le_refl _)).below h (Nat.le_refl _))
  have H2 := Lib.hid (fun (W : World) (h : Below w0.heap.size w0 W) => (h2.below hb0 (Nat.le_refl _)).below h (Nat.le_refl _))
  have HF1 := Lib.hid (lawFew a1 t1 v1 l1 w0 (h1.below hb0 (Nat.le_refl _)).strs)
  have HF2 := Lib.hid (fun W (h : Below w0.heap.size w0 W) => lawFew a2 t2 v2 l2 W (H2.out W h).strs)
  have K1 := Lib.hid (fun W (h : Below w0.heap.size w0 W) => lineIs a1 t1 v1 l1 W (HE.out W h) (H1.out W h).strs h1.fine hi1)
  have K2 := Lib.hid (fun W (h : Below w0.heap.size w0 W) => refIs10 a1 t1 v1 l1 W (H1.out W h).strs h1.fine)
  have K3 := Lib.hid (fun W (h : Below w0.heap.size w0 W) => lineHas a1 t1 v1 l1 s W (H1.out W h).strs)
  have K4 := Lib.hid (fun W (h : Below w0.heap.size w0 W) => refHas a1 t1 v1 l1 s W (H1.out W h).strs)
  have K5 := Lib.hid (fun W (h : Below w0.heap.size w0 W) => refSame10 a1 t1 a2 t2 v1 v2 l1 l2 W (H1.out W h).strs (H2.out W h).strs)
  -- the two calls of Same have other results: one contract at every second line
  have K6 : Hid (∀ W (_ : Below w0.heap.size w0 W), Calls Tryd.prog 15 #[.agg #[.int .i64 a1, .int .i64 t1, v1], .agg #[.int .i64 a2, .int .i64 t2, v2]] W fun e w' => e = .returned (.bool (sameB ⟨a1, t1, l1⟩ ⟨a2, t2, l2⟩)) ∧ Below W.heap.size W w') := Lib.hid (fun W h => lineSame a1 t1 a2 t2 v1 v2 l1 l2 W (H1.out W h).strs (H2.out W h).strs)
  have K7 : Hid (∀ W (_ : Below w0.heap.size w0 W), Calls Tryd.prog 15 #[.agg #[.int .i64 a1, .int .i64 t1, v1], .agg #[.int .i64 a1, .int .i64 t1, v1]] W fun e w' => e = .returned (.bool true) ∧ Below W.heap.size W w') := Lib.hid (fun W h => by
    have := lineSame a1 t1 a1 t1 v1 v1 l1 l1 W (H1.out W h).strs (H1.out W h).strs
    rwa [show sameB ⟨a1, t1, l1⟩ ⟨a1, t1, l1⟩ = true by unfold sameB; simp] at this)
  have K8 := Lib.hid (fun W (h : Below w0.heap.size w0 W) => lineIsSub s W (HE.out W h) (by unfold maxLen; omega))
  have K9 := Lib.hid (fun W => refIsSub s W (by unfold maxLen; omega))
  obtain ⟨ad1, c1, rfl, -, -, -⟩ := id h1.strs
  obtain ⟨ad2, c2, rfl, -, -, -⟩ := id h2.strs
  have q1 : ∀ j, w0.cell? ⟨w.heap.size, j, none⟩ = _ := hz0.cell
  have q2 : ∀ j, w0.cell? ⟨w.heap.size + 1, j, none⟩ = _ := hz1.cell
  have hl1 : w.heap.size < w0.heap.size := hz0.lt
  have hl2 : w.heap.size + 1 < w0.heap.size := hz1.lt
  have hszz : w0.heap.size ≤ w0.heap.size := Nat.le_refl _
  clear hb0 hz0 hz1 hE h1 h2 hsz0
  rcases few_cases l1 with ⟨hf1, -⟩ | hf1
  · rcases few_cases l2 with ⟨hf2, -⟩ | hf2
    · rw [hf1] at HF1
      rw [hf2] at HF2
      clear hf1 hf2
      generalize Ln.validB ⟨a1, t1, l1⟩ = b1 at *
      generalize hasB l1 s.data.toList = b2 at *
      generalize sameB ⟨a1, t1, l1⟩ ⟨a2, t2, l2⟩ = b3 at *
      generalize Ln.isSub s.data.toList = b4 at *
      go_enter Tryd.func3, Tryd.ntmps3
      go_wp2_with fail
      rw [← hw0]
      clear hw0
      refine HF1.out.mono ?_
      rintro e w1 ⟨rfl, hb1⟩
      have B1 := Lib.hid hb1
      have m1 : ∀ j, w1.cell? ⟨w.heap.size + 1, j, none⟩ = _ := fun j => (hb1.cell (p := ⟨w.heap.size + 1, j, none⟩) hl2).trans (q2 j)
      go_wp2_with fail
      refine (HF2.out _ B1.out).mono ?_
      rintro e w2 ⟨rfl, hb2⟩
      have hbb : Below w0.heap.size w0 w2 := B1.out.trans (hb2.mono B1.out.size)
      have x0 : w2.cell? ⟨w.heap.size, 0, none⟩ = some (.int .i64 a1) := (hbb.cell (p := ⟨w.heap.size, 0, none⟩) hl1).trans (q1 0)
      have x1 : w2.cell? ⟨w.heap.size, 1, none⟩ = some (.int .i64 t1) := (hbb.cell (p := ⟨w.heap.size, 1, none⟩) hl1).trans (q1 1)
      have x2 : w2.cell? ⟨w.heap.size, 2, none⟩ = some (.slice ad1 l1.length c1) := (hbb.cell (p := ⟨w.heap.size, 2, none⟩) hl1).trans (q1 2)
      have x3 : w2.cell? ⟨w.heap.size + 1, 0, none⟩ = some (.int .i64 a2) := (hbb.cell (p := ⟨w.heap.size + 1, 0, none⟩) hl2).trans (q2 0)
      have x4 : w2.cell? ⟨w.heap.size + 1, 1, none⟩ = some (.int .i64 t2) := (hbb.cell (p := ⟨w.heap.size + 1, 1, none⟩) hl2).trans (q2 1)
      have x5 : w2.cell? ⟨w.heap.size + 1, 2, none⟩ = some (.slice ad2 l2.length c2) := (hbb.cell (p := ⟨w.heap.size + 1, 2, none⟩) hl2).trans (q2 2)
      have y0 : w0.cell? ⟨w.heap.size, 0, none⟩ = some (.int .i64 a1) := q1 0
      have y1 : w0.cell? ⟨w.heap.size, 1, none⟩ = some (.int .i64 t1) := q1 1
      have y2 : w0.cell? ⟨w.heap.size, 2, none⟩ = some (.slice ad1 l1.length c1) := q1 2
      have y3 : w0.cell? ⟨w.heap.size + 1, 0, none⟩ = some (.int .i64 a2) := q2 0
      have y4 : w0.cell? ⟨w.heap.size + 1, 1, none⟩ = some (.int .i64 t2) := q2 1
      have y5 : w0.cell? ⟨w.heap.size + 1, 2, none⟩ = some (.slice ad2 l2.length c2) := q2 2
      clear hb1 hb2 m1 q1 q2 B1
      go_wp2_with fail
      go_region_held3 (fun W => W.cell? ⟨w.heap.size, 0, none⟩ = some (.int .i64 a1) ∧ W.cell? ⟨w.heap.size, 1, none⟩ = some (.int .i64 t1) ∧ W.cell? ⟨w.heap.size, 2, none⟩ = some (.slice ad1 l1.length c1) ∧ W.cell? ⟨w.heap.size + 1, 0, none⟩ = some (.int .i64 a2) ∧ W.cell? ⟨w.heap.size + 1, 1, none⟩ = some (.int .i64 t2) ∧ W.cell? ⟨w.heap.size + 1, 2, none⟩ = some (.slice ad2 l2.length c2))
        (first | (with_reducible exact ⟨x0, x1, x2, x3, x4, x5⟩) | (with_reducible exact ⟨(hb3.cell (p := ⟨w.heap.size, 0, none⟩) hl1).trans y0, (hb3.cell (p := ⟨w.heap.size, 1, none⟩) hl1).trans y1, (hb3.cell (p := ⟨w.heap.size, 2, none⟩) hl1).trans y2, (hb3.cell (p := ⟨w.heap.size + 1, 0, none⟩) hl2).trans y3, (hb3.cell (p := ⟨w.heap.size + 1, 1, none⟩) hl2).trans y4, (hb3.cell (p := ⟨w.heap.size + 1, 2, none⟩) hl2).trans y5⟩) | go_keep)
        (first
          | (go_at_call 10; refine (fromBase (C := w0.heap.size) (w0 := w0) ?_ hszz (lineAlive _ (HE.out _ ?_))).mono ?_; (go_grown); (go_grown); rintro e w3 ⟨rfl, hb3⟩)
          | (go_at_call 11; refine (fromBase (C := w0.heap.size) (w0 := w0) ?_ hszz (K1.out _ ?_)).mono ?_; (go_grown); (go_grown); rintro e w3 ⟨rfl, hb3⟩)
          | (go_at_call 12; refine (fromBase (C := w0.heap.size) (w0 := w0) ?_ hszz (K2.out _ ?_)).mono ?_; (go_grown); (go_grown); rintro e w3 ⟨rfl, hb3⟩)
          | (go_at_call 13; refine (fromBase (C := w0.heap.size) (w0 := w0) ?_ hszz (K3.out _ ?_)).mono ?_; (go_grown); (go_grown); rintro e w3 ⟨rfl, hb3⟩)
          | (go_at_call 14; refine (fromBase (C := w0.heap.size) (w0 := w0) ?_ hszz (K4.out _ ?_)).mono ?_; (go_grown); (go_grown); rintro e w3 ⟨rfl, hb3⟩)
          | (go_at_call 16; refine (fromBase (C := w0.heap.size) (w0 := w0) ?_ hszz (K5.out _ ?_)).mono ?_; (go_grown); (go_grown); rintro e w3 ⟨rfl, hb3⟩)
          | (go_at_call 15; with_reducible refine (fromBase (C := w0.heap.size) (w0 := w0) ?_ hszz (K6.out _ ?_)).mono ?_; (go_grown); (go_grown); rintro e w3 ⟨rfl, hb3⟩)
          | (go_at_call 15; with_reducible refine (fromBase (C := w0.heap.size) (w0 := w0) ?_ hszz (K7.out _ ?_)).mono ?_; (go_grown); (go_grown); rintro e w3 ⟨rfl, hb3⟩)
          | (go_at_call 17; refine (K8.out _ ?_).mono ?_; (go_grown); rintro e w4 ⟨rfl, rfl⟩)
          | (go_at_call 18; refine (fromBase (C := w0.heap.size) (w0 := w0) ?_ hszz (K9.out _)).mono ?_; (go_grown); rintro e w3 ⟨rfl, hb3⟩))
      go_wp2_with fail
      go_ret
      exact ⟨rfl, HB0.out.trans (hb3.mono HB0.out.size)⟩
    · rw [hf1] at HF1
      rw [hf2] at HF2
      clear hf1 hf2
      go_enter Tryd.func3, Tryd.ntmps3
      go_wp2_with fail
      rw [← hw0]
      clear hw0
      refine HF1.out.mono ?_
      rintro e w1 ⟨rfl, hb1⟩
      have B1 := Lib.hid hb1
      have m1 : ∀ j, w1.cell? ⟨w.heap.size + 1, j, none⟩ = _ := fun j => (hb1.cell (p := ⟨w.heap.size + 1, j, none⟩) hl2).trans (q2 j)
      clear hb1
      go_wp2_with fail
      refine (HF2.out _ B1.out).mono ?_
      rintro e w2 ⟨rfl, hb2⟩
      have B2 := Lib.hid (B1.out.trans (hb2.mono B1.out.size))
      clear hb2
      go_wp2_with fail
      refine (lineAlive _ (HE.out _ B2.out)).mono ?_
      rintro e w3 ⟨rfl, hb3⟩
      go_wp2_with fail
      go_ret
      exact ⟨rfl, HB0.out.trans ((B2.out.trans (hb3.mono B2.out.size)).mono HB0.out.size)⟩
  · rw [hf1] at HF1
    clear hf1
    go_enter Tryd.func3, Tryd.ntmps3
    go_wp2_with fail
    rw [← hw0]
    clear hw0
    refine HF1.out.mono ?_
    rintro e w1 ⟨rfl, hb1⟩
    have B1 := Lib.hid hb1
    clear hb1
    go_wp2_with fail
    refine (lineAlive _ (HE.out _ B1.out)).mono ?_
    rintro e w3 ⟨rfl, hb3⟩
    go_wp2_with fail
    go_ret
    exact ⟨rfl, HB0.out.trans ((B1.out.trans (hb3.mono B1.out.size)).mono HB0.out.size)⟩
end Go.Proofs.YtbichcmpggbfnaaDoor
