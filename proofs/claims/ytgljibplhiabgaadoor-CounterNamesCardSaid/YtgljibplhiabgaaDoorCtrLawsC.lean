/-
  THE LAWS OF LAYER 12: Is, Name and Kind against the reference. By an AI agent.
-/
import Derived.Test.YtgljibplhiabgaaDoorCtrLawsB
namespace Go.Proofs.YtgljibplhiabgaaDoor
open Go.RowKit

set_option maxHeartbeats 4000000 in
set_option maxRecDepth 100000 in
theorem lawNamesAny (p : Ctr.Tri) (wb : Bool) (k : Int) (s sx : ByteArray) (a : Int) (b : Bool) (w : World) (hE : Env w)
    (h1 : ∀ w, Calls Tryd.prog 12 #[.agg #[.int .i64 p.a, .int .i64 p.b, .int .i64 p.c]] w fun e w' => e = .returned (.bool wb) ∧ Below w.heap.size w w')
    (h2 : ∀ w, Calls Tryd.prog 13 #[.agg #[.int .i64 p.a, .int .i64 p.b, .int .i64 p.c]] w fun e w' => e = .returned (.bool wb) ∧ Below w.heap.size w w')
    (h3 : ∀ w, Env w → Calls Tryd.prog 14 #[.int .i64 k] w fun e w' => e = .returned (.string sx) ∧ w = w')
    (h4 : ∀ w, Calls Tryd.prog 15 #[.int .i64 k] w fun e w' => e = .returned (.string sx) ∧ w = w')
    (h5 : ∀ w, Env w → Calls Tryd.prog 10 #[.string s] w fun e w' => e = .returned (.tuple #[.int .i64 a, .bool b]) ∧ w = w')
    (h6 : ∀ w, Calls Tryd.prog 11 #[.string s] w fun e w' => e = .returned (.tuple #[.int .i64 a, .bool b]) ∧ w = w') :
    Calls Tryd.prog 3 #[.agg #[.int .i64 p.a, .int .i64 p.b, .int .i64 p.c], .int .i64 k, .string s] w fun e w' => e = .returned (.bool true) ∧ Below w.heap.size w w' := by
  have hb0 : Below w.heap.size w (w.alloc (.cells #[.int .i64 p.a, .int .i64 p.b, .int .i64 p.c] 22)) := by go_grown
  have K0 := Lib.hid (Blk.new w #[.int .i64 p.a, .int .i64 p.b, .int .i64 p.c] 22)
  have hsz : w.heap.size + 1 ≤ (w.alloc (.cells #[.int .i64 p.a, .int .i64 p.b, .int .i64 p.c] 22)).heap.size := by simp
  have hE0 := Lib.hid (fun (W : World) (hb : Below (w.heap.size + 1) (w.alloc (.cells #[.int .i64 p.a, .int .i64 p.b, .int .i64 p.c] 22)) W) => (hE.below hb0).below (hb.mono (by simp)))
  have HB0 := Lib.hid hb0
  have G1 := Lib.hid h1
  have G2 := Lib.hid h2
  have G3 := Lib.hid (fun w hE => (h3 w hE).mono fun e w' (h : e = _ ∧ w = w') => (⟨h.1, by rw [h.2]; exact Below.refl _ _⟩ : e = .returned (.string sx) ∧ Below w.heap.size w w'))
  have G4 := Lib.hid (fun w => (h4 w).mono fun e w' (h : e = _ ∧ w = w') => (⟨h.1, by rw [h.2]; exact Below.refl _ _⟩ : e = .returned (.string sx) ∧ Below w.heap.size w w'))
  have G5 := Lib.hid h5
  have G6 := Lib.hid h6
  clear hE h1 h2 h3 h4 h5 h6 hb0
  by_cases hbig : 100 < s.size
  · go_enter Tryd.func3, Tryd.ntmps3
    go_wp2_with fail
    refine (counterAlive _ (hE0.out _ (Below.refl _ _))).mono ?_
    rintro e w1 ⟨rfl, hb1⟩
    go_wp2
    go_ret
    exact ⟨rfl, HB0.out.trans (hb1.mono HB0.out.size)⟩
  cases wb <;> cases b
  all_goals
    go_enter Tryd.func3, Tryd.ntmps3
    go_wp2_with fail
    refine (G5.out _ (hE0.out _ (Below.refl _ _))).mono ?_
    rintro e w1 ⟨rfl, rfl⟩
    go_wp2_with fail
    refine (G6.out _).mono ?_
    rintro e w1 ⟨rfl, rfl⟩
    go_wp2_with fail
    have c0 := keepT K0.out (Below.refl _ _)
    generalize w.alloc (.cells #[.int .i64 p.a, .int .i64 p.b, .int .i64 p.c] 22) = w0 at *
    go_region_held3 (fun w' => w'.cell? ⟨w.heap.size, 0, none⟩ = some (.int .i64 p.a) ∧ w'.cell? ⟨w.heap.size, 1, none⟩ = some (.int .i64 p.b) ∧ w'.cell? ⟨w.heap.size, 2, none⟩ = some (.int .i64 p.c))
      (first | (with_reducible exact c0) | (with_reducible exact keepT K0.out hb1) | (with_reducible exact keepT K0.out (Below.drew hb1)) | go_keep)
      (first
        | (go_at_call 9; refine (fromBase (C := w.heap.size + 1) (w0 := w0) ?_ hsz (counterAlive _ (hE0.out _ ?_))).mono ?_; (go_grown); (go_grown); rintro e w1 ⟨rfl, hb1⟩)
        | (go_at_call 12; refine (fromBase (C := w.heap.size + 1) (w0 := w0) ?_ hsz (G1.out _)).mono ?_; (go_grown); rintro e w1 ⟨rfl, hb1⟩)
        | (go_at_call 13; refine (fromBase (C := w.heap.size + 1) (w0 := w0) ?_ hsz (G2.out _)).mono ?_; (go_grown); rintro e w1 ⟨rfl, hb1⟩)
        | (go_at_call 14; refine (fromBase (C := w.heap.size + 1) (w0 := w0) ?_ hsz (G3.out _ (hE0.out _ ?_))).mono ?_; (go_grown); (go_grown); rintro e w1 ⟨rfl, hb1⟩)
        | (go_at_call 15; refine (fromBase (C := w.heap.size + 1) (w0 := w0) ?_ hsz (G4.out _)).mono ?_; (go_grown); rintro e w1 ⟨rfl, hb1⟩))
    go_wp2
    go_ret
    exact ⟨rfl, HB0.out.trans (Below.mono (by go_grown) (by omega : w.heap.size ≤ w.heap.size + 1))⟩
theorem lawCounterNames (p : Ctr.Tri) (k : Int) (s : ByteArray) (w : World) (hE : Env w) :
    Calls Tryd.prog 3 #[.agg #[.int .i64 p.a, .int .i64 p.b, .int .i64 p.c], .int .i64 k, .string s] w fun e w' => e = .returned (.bool true) ∧ Below w.heap.size w w' := by
  obtain ⟨sx, hsx, ex⟩ := exists_bytes (Ctr.nameI k)
  exact lawNamesAny p _ k s sx _ _ w hE (fun w => counterIs p w) (fun w => refIs12 p w) (fun w hE => by rw [← ex]; exact counterName k w hE) (fun w => by rw [← ex]; exact refName12 k w) (fun w hE => counterKind s w hE) (fun w => refKind12 s w)
end Go.Proofs.YtgljibplhiabgaaDoor
