/-
  THE LAWS OF LAYER 8: texts of costs. By an AI agent.
-/
import Derived.Test.YtcllaenanihedaaDoorManaAlive
import Derived.Deep.RegionHeld3
namespace Go.Proofs.YtcllaenanihedaaDoor
open Go.RowKit

theorem keepC {w0 W : World} {b : Nat} {c : Mana.Cst} (k0 : Blk w0 b #[.int .i64 c.g, .int .i64 c.x, .int .i64 c.c0, .int .i64 c.c1, .int .i64 c.c2, .int .i64 c.c3, .int .i64 c.c4] 24) (hb : Below (b + 1) w0 W) : W.cell? ⟨b, 0, none⟩ = some (.int .i64 c.g) ∧ W.cell? ⟨b, 1, none⟩ = some (.int .i64 c.x) ∧ W.cell? ⟨b, 2, none⟩ = some (.int .i64 c.c0) ∧ W.cell? ⟨b, 3, none⟩ = some (.int .i64 c.c1) ∧ W.cell? ⟨b, 4, none⟩ = some (.int .i64 c.c2) ∧ W.cell? ⟨b, 5, none⟩ = some (.int .i64 c.c3) ∧ W.cell? ⟨b, 6, none⟩ = some (.int .i64 c.c4) :=
  (k0.below hb (by omega)).seven_cells
set_option maxHeartbeats 4000000 in
set_option maxRecDepth 100000 in
theorem lawTextsAny (c : Mana.Cst) (x : Int) (wb : Bool) (l : List UInt8) (v m : Int) (w : World) (hE : Env w)
    (h1 : ∀ w, Calls Tryd.prog 9 #[.agg #[.int .i64 c.g, .int .i64 c.x, .int .i64 c.c0, .int .i64 c.c1, .int .i64 c.c2, .int .i64 c.c3, .int .i64 c.c4]] w fun e w' => e = .returned (.bool wb) ∧ Below w.heap.size w w')
    (h2 : ∀ w, Calls Tryd.prog 10 #[.agg #[.int .i64 c.g, .int .i64 c.x, .int .i64 c.c0, .int .i64 c.c1, .int .i64 c.c2, .int .i64 c.c3, .int .i64 c.c4]] w fun e w' => e = .returned (.bool wb) ∧ Below w.heap.size w w')
    (h3 : ∀ w, Env w → Calls Tryd.prog 11 #[.agg #[.int .i64 c.g, .int .i64 c.x, .int .i64 c.c0, .int .i64 c.c1, .int .i64 c.c2, .int .i64 c.c3, .int .i64 c.c4]] w fun e w' => e = .returned (.string ⟨l.toArray⟩) ∧ Below w.heap.size w w')
    (h4 : ∀ w, Calls Tryd.prog 12 #[.agg #[.int .i64 c.g, .int .i64 c.x, .int .i64 c.c0, .int .i64 c.c1, .int .i64 c.c2, .int .i64 c.c3, .int .i64 c.c4]] w fun e w' => e = .returned (.string ⟨l.toArray⟩) ∧ Below w.heap.size w w')
    (h5 : ∀ w, Calls Tryd.prog 13 #[.agg #[.int .i64 c.g, .int .i64 c.x, .int .i64 c.c0, .int .i64 c.c1, .int .i64 c.c2, .int .i64 c.c3, .int .i64 c.c4], .int .i64 x] w fun e w' => e = .returned (.int .i64 v) ∧ Below w.heap.size w w')
    (h6 : ∀ w, Calls Tryd.prog 14 #[.agg #[.int .i64 c.g, .int .i64 c.x, .int .i64 c.c0, .int .i64 c.c1, .int .i64 c.c2, .int .i64 c.c3, .int .i64 c.c4], .int .i64 x] w fun e w' => e = .returned (.int .i64 v) ∧ Below w.heap.size w w')
    (h7 : ∀ w, Calls Tryd.prog 15 #[.agg #[.int .i64 c.g, .int .i64 c.x, .int .i64 c.c0, .int .i64 c.c1, .int .i64 c.c2, .int .i64 c.c3, .int .i64 c.c4]] w fun e w' => e = .returned (.int .i64 m) ∧ Below w.heap.size w w')
    (h8 : ∀ w, Calls Tryd.prog 16 #[.agg #[.int .i64 c.g, .int .i64 c.x, .int .i64 c.c0, .int .i64 c.c1, .int .i64 c.c2, .int .i64 c.c3, .int .i64 c.c4]] w fun e w' => e = .returned (.int .i64 m) ∧ Below w.heap.size w w') :
    Calls Tryd.prog 3 #[.agg #[.int .i64 c.g, .int .i64 c.x, .int .i64 c.c0, .int .i64 c.c1, .int .i64 c.c2, .int .i64 c.c3, .int .i64 c.c4], .int .i64 x] w fun e w' => e = .returned (.bool true) ∧ Below w.heap.size w w' := by
  have hb0 : Below w.heap.size w (w.alloc (.cells #[.int .i64 c.g, .int .i64 c.x, .int .i64 c.c0, .int .i64 c.c1, .int .i64 c.c2, .int .i64 c.c3, .int .i64 c.c4] 24)) := by go_grown
  have K0 := Lib.hid (Blk.new w #[.int .i64 c.g, .int .i64 c.x, .int .i64 c.c0, .int .i64 c.c1, .int .i64 c.c2, .int .i64 c.c3, .int .i64 c.c4] 24)
  have hsz : w.heap.size + 1 ≤ (w.alloc (.cells #[.int .i64 c.g, .int .i64 c.x, .int .i64 c.c0, .int .i64 c.c1, .int .i64 c.c2, .int .i64 c.c3, .int .i64 c.c4] 24)).heap.size := by simp
  have hE0 := Lib.hid (fun (W : World) (hb : Below (w.heap.size + 1) (w.alloc (.cells #[.int .i64 c.g, .int .i64 c.x, .int .i64 c.c0, .int .i64 c.c1, .int .i64 c.c2, .int .i64 c.c3, .int .i64 c.c4] 24)) W) => (hE.below hb0).below (hb.mono (by simp)))
  have HB0 := Lib.hid hb0
  have G1 := Lib.hid h1
  have G2 := Lib.hid h2
  have G3 := Lib.hid h3
  have G4 := Lib.hid h4
  have G5 := Lib.hid h5
  have G6 := Lib.hid h6
  have G7 := Lib.hid h7
  have G8 := Lib.hid h8
  clear hE h1 h2 h3 h4 h5 h6 h7 h8 hb0
  cases wb
  all_goals
    go_enter Tryd.func3, Tryd.ntmps3
    go_wp2_with fail
    have c0 := keepC K0.out (Below.refl _ _)
    generalize w.alloc (.cells #[.int .i64 c.g, .int .i64 c.x, .int .i64 c.c0, .int .i64 c.c1, .int .i64 c.c2, .int .i64 c.c3, .int .i64 c.c4] 24) = w0 at *
    go_region_held3 (fun w' => w'.cell? ⟨w.heap.size, 0, none⟩ = some (.int .i64 c.g) ∧ w'.cell? ⟨w.heap.size, 1, none⟩ = some (.int .i64 c.x) ∧ w'.cell? ⟨w.heap.size, 2, none⟩ = some (.int .i64 c.c0) ∧ w'.cell? ⟨w.heap.size, 3, none⟩ = some (.int .i64 c.c1) ∧ w'.cell? ⟨w.heap.size, 4, none⟩ = some (.int .i64 c.c2) ∧ w'.cell? ⟨w.heap.size, 5, none⟩ = some (.int .i64 c.c3) ∧ w'.cell? ⟨w.heap.size, 6, none⟩ = some (.int .i64 c.c4))
      (first | (with_reducible exact c0) | (with_reducible exact keepC K0.out hb1) | (with_reducible exact keepC K0.out (Below.drew hb1)) | go_keep)
      (first
        | (go_at_call 17; refine (fromBase (C := w.heap.size + 1) (w0 := w0) ?_ hsz (manaAlive _ (hE0.out _ ?_))).mono ?_; (go_grown); (go_grown); rintro e w1 ⟨rfl, hb1⟩)
        | (go_at_call 9; refine (fromBase (C := w.heap.size + 1) (w0 := w0) ?_ hsz (G1.out _)).mono ?_; (go_grown); rintro e w1 ⟨rfl, hb1⟩)
        | (go_at_call 10; refine (fromBase (C := w.heap.size + 1) (w0 := w0) ?_ hsz (G2.out _)).mono ?_; (go_grown); rintro e w1 ⟨rfl, hb1⟩)
        | (go_at_call 11; refine (fromBase (C := w.heap.size + 1) (w0 := w0) ?_ hsz (G3.out _ (hE0.out _ ?_))).mono ?_; (go_grown); (go_grown); rintro e w1 ⟨rfl, hb1⟩)
        | (go_at_call 12; refine (fromBase (C := w.heap.size + 1) (w0 := w0) ?_ hsz (G4.out _)).mono ?_; (go_grown); rintro e w1 ⟨rfl, hb1⟩)
        | (go_at_call 13; refine (fromBase (C := w.heap.size + 1) (w0 := w0) ?_ hsz (G5.out _)).mono ?_; (go_grown); rintro e w1 ⟨rfl, hb1⟩)
        | (go_at_call 14; refine (fromBase (C := w.heap.size + 1) (w0 := w0) ?_ hsz (G6.out _)).mono ?_; (go_grown); rintro e w1 ⟨rfl, hb1⟩)
        | (go_at_call 15; refine (fromBase (C := w.heap.size + 1) (w0 := w0) ?_ hsz (G7.out _)).mono ?_; (go_grown); rintro e w1 ⟨rfl, hb1⟩)
        | (go_at_call 16; refine (fromBase (C := w.heap.size + 1) (w0 := w0) ?_ hsz (G8.out _)).mono ?_; (go_grown); rintro e w1 ⟨rfl, hb1⟩))
    go_wp2
    go_ret
    exact ⟨rfl, HB0.out.trans (Below.mono (by go_grown) (by omega : w.heap.size ≤ w.heap.size + 1))⟩
theorem lawManaTexts (c : Mana.Cst) (x : Int) (w : World) (hE : Env w) :
    Calls Tryd.prog 3 #[.agg #[.int .i64 c.g, .int .i64 c.x, .int .i64 c.c0, .int .i64 c.c1, .int .i64 c.c2, .int .i64 c.c3, .int .i64 c.c4], .int .i64 x] w fun e w' => e = .returned (.bool true) ∧ Below w.heap.size w w' :=
  lawTextsAny c x _ _ _ _ w hE (fun w => manaIs c w) (fun w => refIs8 c w) (fun w hE => manaText c w hE) (fun w => refText8 c w) (fun w => manaValue c x w) (fun w => refValue8 c x w) (fun w => manaColors c w) (fun w => refColors8 c w)
end Go.Proofs.YtcllaenanihedaaDoor
