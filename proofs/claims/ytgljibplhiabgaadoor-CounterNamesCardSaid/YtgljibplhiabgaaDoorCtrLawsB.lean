/-
  THE LAWS OF LAYER 12: Add. By an AI agent.
-/
import Derived.Test.YtgljibplhiabgaaDoorCtrLaws
import Derived.Deep.RegionHeld3
namespace Go.Proofs.YtgljibplhiabgaaDoor
open Go.RowKit

theorem fromBase {f : FuncId} {args : Array Value} {v : Value} {C : Nat} {w0 W : World} (hb : Below C w0 W) (hC : C ≤ w0.heap.size)
    (h : Calls Tryd.prog f args W fun e w' => e = .returned v ∧ Below W.heap.size W w') : Calls Tryd.prog f args W fun e w' => e = .returned v ∧ Below C w0 w' :=
  h.mono fun _ _ ⟨he, hb'⟩ => ⟨he, hb.trans (hb'.mono (Nat.le_trans hC hb.size))⟩
theorem keepT {w0 W : World} {b : Nat} {c : Ctr.Tri} (k0 : Blk w0 b #[.int .i64 c.a, .int .i64 c.b, .int .i64 c.c] 22) (hb : Below (b + 1) w0 W) : W.cell? ⟨b, 0, none⟩ = some (.int .i64 c.a) ∧ W.cell? ⟨b, 1, none⟩ = some (.int .i64 c.b) ∧ W.cell? ⟨b, 2, none⟩ = some (.int .i64 c.c) :=
  (k0.below hb (by omega)).three
set_option maxHeartbeats 4000000 in
set_option maxRecDepth 100000 in
theorem lawAddAny (p q : Ctr.Tri) (k n : Int) (w : World) (hE : Env w)
    (h1 : ∀ w, Calls Tryd.prog 16 #[.agg #[.int .i64 p.a, .int .i64 p.b, .int .i64 p.c], .int .i64 k, .int .i64 n] w fun e w' => e = .returned (.agg #[.int .i64 q.a, .int .i64 q.b, .int .i64 q.c]) ∧ Below w.heap.size w w')
    (h2 : ∀ w, Calls Tryd.prog 17 #[.agg #[.int .i64 p.a, .int .i64 p.b, .int .i64 p.c], .int .i64 k, .int .i64 n] w fun e w' => e = .returned (.agg #[.int .i64 q.a, .int .i64 q.b, .int .i64 q.c]) ∧ Below w.heap.size w w') :
    Calls Tryd.prog 4 #[.agg #[.int .i64 p.a, .int .i64 p.b, .int .i64 p.c], .int .i64 k, .int .i64 n] w fun e w' => e = .returned (.bool true) ∧ Below w.heap.size w w' := by
  have hb0 : Below w.heap.size w (w.alloc (.cells #[.int .i64 p.a, .int .i64 p.b, .int .i64 p.c] 22)) := by go_grown
  have K0 := Lib.hid (Blk.new w #[.int .i64 p.a, .int .i64 p.b, .int .i64 p.c] 22)
  have hsz : w.heap.size + 1 ≤ (w.alloc (.cells #[.int .i64 p.a, .int .i64 p.b, .int .i64 p.c] 22)).heap.size := by simp
  have hE0 := Lib.hid (fun (W : World) (hb : Below (w.heap.size + 1) (w.alloc (.cells #[.int .i64 p.a, .int .i64 p.b, .int .i64 p.c] 22)) W) => (hE.below hb0).below (hb.mono (by simp)))
  have HB0 := Lib.hid hb0
  have G1 := Lib.hid h1
  have G2 := Lib.hid h2
  have q1 : ∀ W : World, (Op.equalIn 10000 22 (.agg #[.int .i64 q.a, .int .i64 q.b, .int .i64 q.c]) (.agg #[.int .i64 q.a, .int .i64 q.b, .int .i64 q.c])).run Tryd.prog W = .ok true W := fun W => run_eq_same q W
  clear hE h1 h2 hb0
  go_enter Tryd.func4, Tryd.ntmps4
  go_wp2_with fail
  have c0 := keepT K0.out (Below.refl _ _)
  generalize w.alloc (.cells #[.int .i64 p.a, .int .i64 p.b, .int .i64 p.c] 22) = w0 at *
  go_region_held3 (fun w' => w'.cell? ⟨w.heap.size, 0, none⟩ = some (.int .i64 p.a) ∧ w'.cell? ⟨w.heap.size, 1, none⟩ = some (.int .i64 p.b) ∧ w'.cell? ⟨w.heap.size, 2, none⟩ = some (.int .i64 p.c))
    (first | (with_reducible exact c0) | (with_reducible exact keepT K0.out hb1) | (with_reducible exact keepT K0.out (Below.drew hb1)) | go_keep)
    (first
      | (go_at_call 9; refine (fromBase (C := w.heap.size + 1) (w0 := w0) ?_ hsz (counterAlive _ (hE0.out _ ?_))).mono ?_; (go_grown); (go_grown); rintro e w1 ⟨rfl, hb1⟩)
      | (go_at_call 16; refine (fromBase (C := w.heap.size + 1) (w0 := w0) ?_ hsz (G1.out _)).mono ?_; (go_grown); rintro e w1 ⟨rfl, hb1⟩)
      | (go_at_call 17; refine (fromBase (C := w.heap.size + 1) (w0 := w0) ?_ hsz (G2.out _)).mono ?_; (go_grown); rintro e w1 ⟨rfl, hb1⟩))
  go_wp2
  go_ret
  exact ⟨rfl, HB0.out.trans (Below.mono (by go_grown) (by omega : w.heap.size ≤ w.heap.size + 1))⟩
theorem lawCounterAdd (p : Ctr.Tri) (k n : Int) (w : World) (hE : Env w) :
    Calls Tryd.prog 4 #[.agg #[.int .i64 p.a, .int .i64 p.b, .int .i64 p.c], .int .i64 k, .int .i64 n] w fun e w' => e = .returned (.bool true) ∧ Below w.heap.size w w' :=
  lawAddAny p _ k n w hE (fun w => counterAdd p k n w) (fun w => refAdd12 p k n w)
end Go.Proofs.YtgljibplhiabgaaDoor
