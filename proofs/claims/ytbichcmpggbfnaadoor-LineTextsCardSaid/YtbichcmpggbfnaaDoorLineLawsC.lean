/-
  THE LAWS OF LAYER 10: texts. By an AI agent.
-/
import Derived.Test.YtbichcmpggbfnaaDoorLineIn
import Derived.Deep.RegionHeld3
namespace Go.Proofs.YtbichcmpggbfnaaDoor
open Go.RowKit
open Wd (Bs)

set_option maxHeartbeats 4000000 in
set_option maxRecDepth 100000 in
theorem lawLineTexts (a t : Int) (v : Value) (l : List Bs) (s : ByteArray) (w : World) (h1 : LineIn w v l) (hi : t ≤ 9223372036854775807) (hE : Env w) :
    Calls Tryd.prog 4 #[.agg #[.int .i64 a, .int .i64 t, v], .string s] w fun e w' => e = .returned (.bool true) ∧ Below w.heap.size w w' := by
  obtain ⟨w0, hw0⟩ : ∃ w0, w0 = w.alloc (.cells #[.int .i64 a, .int .i64 t, v] 24) := ⟨_, rfl⟩
  have hb0 : Below w.heap.size w w0 := by rw [hw0]; exact (Below.refl _ _).alloc (Nat.le_refl _) _
  have hz0 : Blk w0 w.heap.size #[.int .i64 a, .int .i64 t, v] 24 := by rw [hw0]; exact Blk.new _ _ _
  have HB0 := Lib.hid hb0
  have HZ0 := Lib.hid hz0
  have HE := Lib.hid (fun (W : World) (h : Below w0.heap.size w0 W) => (hE.below hb0).below h)
  have H1 := Lib.hid (fun (W : World) (h : Below w0.heap.size w0 W) => (h1.below hb0 (Nat.le_refl _)).below h (Nat.le_refl _))
  have HF1 := Lib.hid (lawFew a t v l w0 (h1.below hb0 (Nat.le_refl _)).strs)
  have K1 := Lib.hid (fun W (h : Below w0.heap.size w0 W) => lineText a t v l W (HE.out W h) (H1.out W h).strs h1.fine hi)
  have K2 := Lib.hid (fun W (h : Below w0.heap.size w0 W) => refText10 a t v l W (H1.out W h).strs h1.fine)
  obtain ⟨tx, htx, ex⟩ := exists_bytes (Ln.textL ⟨a, t, l⟩)
  rw [ex] at K1 K2
  obtain ⟨ad, c, rfl, -, -, -⟩ := id h1.strs
  have hl1 : w.heap.size < w0.heap.size := hz0.lt
  clear hb0 hz0 hE h1 htx ex
  rcases few_cases l with ⟨hf1, -⟩ | hf1
  · rw [hf1] at HF1
    clear hf1
    by_cases hbig : 300 < s.size
    · go_enter Tryd.func4, Tryd.ntmps4
      go_wp2_with fail
      rw [← hw0]
      clear hw0
      refine HF1.out.mono ?_
      rintro e w1 ⟨rfl, hb1⟩
      have B1 := Lib.hid hb1
      clear hb1
      go_wp2_with fail
      refine (lineAlive _ (HE.out _ B1.out)).mono ?_
      rintro e w3 ⟨rfl, hb3⟩
      go_wp2_with fail
      go_ret
      exact ⟨rfl, HB0.out.trans ((B1.out.trans (hb3.mono B1.out.size)).mono HB0.out.size)⟩
    · have hsz : (s.size : Int) ≤ 300 := by omega
      have G1 := Lib.hid (fun W hE => lineParse s W hE (by omega))
      have G2 := Lib.hid (fun W => refParse10 s W (by omega))
      unfold ParseRes at G1 G2
      generalize Ln.parseL s.data.toList = pl at *
      generalize Ln.parseE s.data.toList = pe at *
      clear hbig
      go_enter Tryd.func4, Tryd.ntmps4
      go_wp2_with fail
      rw [← hw0]
      clear hw0
      refine HF1.out.mono ?_
      rintro e w1 ⟨rfl, hb1⟩
      have B1 := Lib.hid hb1
      clear hb1
      go_wp2_with fail
      refine (G1.out _ (HE.out _ B1.out)).mono ?_
      rintro e w2 ⟨va, rfl, hva, hb2⟩
      have B2 := Lib.hid (B1.out.trans (hb2.mono B1.out.size))
      obtain ⟨ada, ca, rfl, -, -, -⟩ := id hva
      obtain ⟨w3, hw3⟩ : ∃ w3, w3 = w2.alloc (.cells #[.int .i64 pl.super, .int .i64 pl.types, .slice ada pl.subs.length ca] 24) := ⟨_, rfl⟩
      have hb3 : Below w2.heap.size w2 w3 := by rw [hw3]; exact (Below.refl _ _).alloc (Nat.le_refl _) _
      have hm : Blk w3 w2.heap.size #[.int .i64 pl.super, .int .i64 pl.types, .slice ada pl.subs.length ca] 24 := by rw [hw3]; exact Blk.new _ _ _
      have HVA := Lib.hid (hva.below hb3 (Nat.le_refl _))
      have HM := Lib.hid hm
      have B3 := Lib.hid (B2.out.trans (hb3.mono B2.out.size))
      clear hb2 hb3 hm hva
      go_wp2_with fail
      rw [← hw3]
      clear hw3
      refine (G2.out _).mono ?_
      rintro e w4 ⟨vb, rfl, hvb, hb4⟩
      have B4 := Lib.hid (B3.out.trans (hb4.mono B3.out.size))
      obtain ⟨adb, cb, rfl, -, -, -⟩ := id hvb
      obtain ⟨w5, hw5⟩ : ∃ w5, w5 = w4.alloc (.cells #[.int .i64 pl.super, .int .i64 pl.types, .slice adb pl.subs.length cb] 24) := ⟨_, rfl⟩
      have hb5 : Below w4.heap.size w4 w5 := by rw [hw5]; exact (Below.refl _ _).alloc (Nat.le_refl _) _
      have hm5 : Blk w5 w4.heap.size #[.int .i64 pl.super, .int .i64 pl.types, .slice adb pl.subs.length cb] 24 := by rw [hw5]; exact Blk.new _ _ _
      have hb35 : Below w3.heap.size w3 w5 := hb4.trans (hb5.mono hb4.size)
      have HVA5 := Lib.hid (HVA.out.below hb35 (Nat.le_refl _))
      have HM5 := Lib.hid (HM.out.below hb35 HM.out.lt)
      have HVB5 := Lib.hid (hvb.below hb5 (Nat.le_refl _))
      have HN5 := Lib.hid hm5
      have B5 := Lib.hid (B4.out.trans (hb5.mono B4.out.size))
      have HS := Lib.hid (fun W (h : Below w5.heap.size w5 W) => refSame10 pl.super pl.types pl.super pl.types _ _ pl.subs pl.subs W (HVA5.out.below h (Nat.le_refl _)) (HVB5.out.below h (Nat.le_refl _)))
      rw [show sameB ⟨pl.super, pl.types, pl.subs⟩ ⟨pl.super, pl.types, pl.subs⟩ = true by unfold sameB; simp] at HS
      have HE5 := Lib.hid (fun (W : World) (h : Below w5.heap.size w5 W) => HE.out W (B5.out.trans (h.mono B5.out.size)))
      have K1' := Lib.hid (fun W (h : Below w5.heap.size w5 W) => K1.out W (B5.out.trans (h.mono B5.out.size)))
      have K2' := Lib.hid (fun W (h : Below w5.heap.size w5 W) => K2.out W (B5.out.trans (h.mono B5.out.size)))
      obtain ⟨A, hA⟩ : ∃ A, A = w2.heap.size := ⟨_, rfl⟩
      obtain ⟨Bk, hBk⟩ : ∃ Bk, Bk = w4.heap.size := ⟨_, rfl⟩
      have hl0 : w.heap.size < w5.heap.size := Nat.lt_of_lt_of_le hl1 B5.out.size
      have hlA : w2.heap.size < w5.heap.size := HM5.out.lt
      have hlB : w4.heap.size < w5.heap.size := HN5.out.lt
      have hz5 := HZ0.out.below B5.out hl1
      have x0 : w5.cell? ⟨w.heap.size, 0, none⟩ = some (.int .i64 a) := hz5.cell 0
      have x1 : w5.cell? ⟨w.heap.size, 1, none⟩ = some (.int .i64 t) := hz5.cell 1
      have x2 : w5.cell? ⟨w.heap.size, 2, none⟩ = some (.slice ad l.length c) := hz5.cell 2
      have x3 : w5.cell? ⟨w2.heap.size, 0, none⟩ = some (.int .i64 pl.super) := HM5.out.cell 0
      have x4 : w5.cell? ⟨w2.heap.size, 1, none⟩ = some (.int .i64 pl.types) := HM5.out.cell 1
      have x5 : w5.cell? ⟨w2.heap.size, 2, none⟩ = some (.slice ada pl.subs.length ca) := HM5.out.cell 2
      have x6 : w5.cell? ⟨w4.heap.size, 0, none⟩ = some (.int .i64 pl.super) := HN5.out.cell 0
      have x7 : w5.cell? ⟨w4.heap.size, 1, none⟩ = some (.int .i64 pl.types) := HN5.out.cell 1
      have x8 : w5.cell? ⟨w4.heap.size, 2, none⟩ = some (.slice adb pl.subs.length cb) := HN5.out.cell 2
      have hszz : w5.heap.size ≤ w5.heap.size := Nat.le_refl _
      clear hb4 hb5 hm5 hvb hb35 hz5 hA hBk HE K1 K2 H1 G1 G2 HM HVA HZ0
      go_wp2_with fail
      rw [← hw5]
      clear hw5
      go_region_held3 (fun W => W.cell? ⟨w.heap.size, 0, none⟩ = some (.int .i64 a) ∧ W.cell? ⟨w.heap.size, 1, none⟩ = some (.int .i64 t) ∧ W.cell? ⟨w.heap.size, 2, none⟩ = some (.slice ad l.length c) ∧ W.cell? ⟨w2.heap.size, 0, none⟩ = some (.int .i64 pl.super) ∧ W.cell? ⟨w2.heap.size, 1, none⟩ = some (.int .i64 pl.types) ∧ W.cell? ⟨w2.heap.size, 2, none⟩ = some (.slice ada pl.subs.length ca) ∧ W.cell? ⟨w4.heap.size, 0, none⟩ = some (.int .i64 pl.super) ∧ W.cell? ⟨w4.heap.size, 1, none⟩ = some (.int .i64 pl.types) ∧ W.cell? ⟨w4.heap.size, 2, none⟩ = some (.slice adb pl.subs.length cb))
        (first | (with_reducible exact ⟨x0, x1, x2, x3, x4, x5, x6, x7, x8⟩) | (with_reducible exact ⟨(hb7.cell (p := ⟨w.heap.size, 0, none⟩) hl0).trans x0, (hb7.cell (p := ⟨w.heap.size, 1, none⟩) hl0).trans x1, (hb7.cell (p := ⟨w.heap.size, 2, none⟩) hl0).trans x2, (hb7.cell (p := ⟨w2.heap.size, 0, none⟩) hlA).trans x3, (hb7.cell (p := ⟨w2.heap.size, 1, none⟩) hlA).trans x4, (hb7.cell (p := ⟨w2.heap.size, 2, none⟩) hlA).trans x5, (hb7.cell (p := ⟨w4.heap.size, 0, none⟩) hlB).trans x6, (hb7.cell (p := ⟨w4.heap.size, 1, none⟩) hlB).trans x7, (hb7.cell (p := ⟨w4.heap.size, 2, none⟩) hlB).trans x8⟩) | go_keep)
        (first
          | (go_at_call 10; refine (fromBase (C := w5.heap.size) (w0 := w5) ?_ hszz (lineAlive _ (HE5.out _ ?_))).mono ?_; (go_grown); (go_grown); rintro e w7 ⟨rfl, hb7⟩)
          | (go_at_call 21; refine (fromBase (C := w5.heap.size) (w0 := w5) ?_ hszz (K1'.out _ ?_)).mono ?_; (go_grown); (go_grown); rintro e w7 ⟨rfl, hb7⟩)
          | (go_at_call 22; refine (fromBase (C := w5.heap.size) (w0 := w5) ?_ hszz (K2'.out _ ?_)).mono ?_; (go_grown); (go_grown); rintro e w7 ⟨rfl, hb7⟩)
          | (go_at_call 16; refine (fromBase (C := w5.heap.size) (w0 := w5) ?_ hszz (HS.out _ ?_)).mono ?_; (go_grown); (go_grown); rintro e w7 ⟨rfl, hb7⟩))
      go_wp2_with fail
      go_ret
      exact ⟨rfl, HB0.out.trans ((B5.out.trans (hb7.mono B5.out.size)).mono HB0.out.size)⟩
  · rw [hf1] at HF1
    clear hf1
    go_enter Tryd.func4, Tryd.ntmps4
    go_wp2_with fail
    rw [← hw0]
    clear hw0
    refine HF1.out.mono ?_
    rintro e w1 ⟨rfl, hb1⟩
    have B1 := Lib.hid hb1
    clear hb1
    go_wp2_with fail
    refine (lineAlive _ (HE.out _ B1.out)).mono ?_
    rintro e w3 ⟨rfl, hb3⟩
    go_wp2_with fail
    go_ret
    exact ⟨rfl, HB0.out.trans ((B1.out.trans (hb3.mono B1.out.size)).mono HB0.out.size)⟩
end Go.Proofs.YtbichcmpggbfnaaDoor
