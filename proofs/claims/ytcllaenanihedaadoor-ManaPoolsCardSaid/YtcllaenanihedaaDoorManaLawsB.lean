/-
  THE LAWS OF LAYER 8: pools. By an AI agent.
-/
import Derived.Test.YtcllaenanihedaaDoorManaAlive
import Derived.Deep.RegionHeld3
namespace Go.Proofs.YtcllaenanihedaaDoor
open Go.RowKit

theorem keepPP {w0 W : World} {b : Nat} {p q : Mana.Pl} (k0 : Blk w0 b #[.int .i64 p.p0, .int .i64 p.p1, .int .i64 p.p2, .int .i64 p.p3, .int .i64 p.p4, .int .i64 p.p5] 35) (k1 : Blk w0 (b + 1) #[.int .i64 q.p0, .int .i64 q.p1, .int .i64 q.p2, .int .i64 q.p3, .int .i64 q.p4, .int .i64 q.p5] 35) (hb : Below (b + 2) w0 W) : W.cell? ⟨b, 0, none⟩ = some (.int .i64 p.p0) ∧ W.cell? ⟨b, 1, none⟩ = some (.int .i64 p.p1) ∧ W.cell? ⟨b, 2, none⟩ = some (.int .i64 p.p2) ∧ W.cell? ⟨b, 3, none⟩ = some (.int .i64 p.p3) ∧ W.cell? ⟨b, 4, none⟩ = some (.int .i64 p.p4) ∧ W.cell? ⟨b, 5, none⟩ = some (.int .i64 p.p5) ∧ W.cell? ⟨b + 1, 0, none⟩ = some (.int .i64 q.p0) ∧ W.cell? ⟨b + 1, 1, none⟩ = some (.int .i64 q.p1) ∧ W.cell? ⟨b + 1, 2, none⟩ = some (.int .i64 q.p2) ∧ W.cell? ⟨b + 1, 3, none⟩ = some (.int .i64 q.p3) ∧ W.cell? ⟨b + 1, 4, none⟩ = some (.int .i64 q.p4) ∧ W.cell? ⟨b + 1, 5, none⟩ = some (.int .i64 q.p5) := by
  have h0 := k0.below hb (by omega)
  have h1 := k1.below hb (by omega)
  exact ⟨h0.cell 0, h0.cell 1, h0.cell 2, h0.cell 3, h0.cell 4, h0.cell 5, h1.cell 0, h1.cell 1, h1.cell 2, h1.cell 3, h1.cell 4, h1.cell 5⟩
set_option maxHeartbeats 4000000 in
set_option maxRecDepth 100000 in
theorem lawPoolsAny (p q s : Mana.Pl) (wb : Bool) (l : List UInt8) (w : World) (hE : Env w)
    (h1 : ∀ w, Calls Tryd.prog 23 #[.agg #[.int .i64 p.p0, .int .i64 p.p1, .int .i64 p.p2, .int .i64 p.p3, .int .i64 p.p4, .int .i64 p.p5]] w fun e w' => e = .returned (.bool wb) ∧ Below w.heap.size w w')
    (h2 : ∀ w, Calls Tryd.prog 24 #[.agg #[.int .i64 p.p0, .int .i64 p.p1, .int .i64 p.p2, .int .i64 p.p3, .int .i64 p.p4, .int .i64 p.p5]] w fun e w' => e = .returned (.bool wb) ∧ Below w.heap.size w w')
    (h3 : ∀ w, Env w → Calls Tryd.prog 22 #[.agg #[.int .i64 p.p0, .int .i64 p.p1, .int .i64 p.p2, .int .i64 p.p3, .int .i64 p.p4, .int .i64 p.p5]] w fun e w' => e = .returned (.string ⟨l.toArray⟩) ∧ Below w.heap.size w w')
    (h4 : ∀ w, Calls Tryd.prog 25 #[.agg #[.int .i64 p.p0, .int .i64 p.p1, .int .i64 p.p2, .int .i64 p.p3, .int .i64 p.p4, .int .i64 p.p5]] w fun e w' => e = .returned (.string ⟨l.toArray⟩) ∧ Below w.heap.size w w')
    (h5 : ∀ w, Calls Tryd.prog 26 #[.agg #[.int .i64 p.p0, .int .i64 p.p1, .int .i64 p.p2, .int .i64 p.p3, .int .i64 p.p4, .int .i64 p.p5], .agg #[.int .i64 q.p0, .int .i64 q.p1, .int .i64 q.p2, .int .i64 q.p3, .int .i64 q.p4, .int .i64 q.p5]] w fun e w' => e = .returned (.agg #[.int .i64 s.p0, .int .i64 s.p1, .int .i64 s.p2, .int .i64 s.p3, .int .i64 s.p4, .int .i64 s.p5]) ∧ Below w.heap.size w w')
    (h6 : ∀ w, Calls Tryd.prog 27 #[.agg #[.int .i64 p.p0, .int .i64 p.p1, .int .i64 p.p2, .int .i64 p.p3, .int .i64 p.p4, .int .i64 p.p5], .agg #[.int .i64 q.p0, .int .i64 q.p1, .int .i64 q.p2, .int .i64 q.p3, .int .i64 q.p4, .int .i64 q.p5]] w fun e w' => e = .returned (.agg #[.int .i64 s.p0, .int .i64 s.p1, .int .i64 s.p2, .int .i64 s.p3, .int .i64 s.p4, .int .i64 s.p5]) ∧ Below w.heap.size w w') :
    Calls Tryd.prog 6 #[.agg #[.int .i64 p.p0, .int .i64 p.p1, .int .i64 p.p2, .int .i64 p.p3, .int .i64 p.p4, .int .i64 p.p5], .agg #[.int .i64 q.p0, .int .i64 q.p1, .int .i64 q.p2, .int .i64 q.p3, .int .i64 q.p4, .int .i64 q.p5]] w fun e w' => e = .returned (.bool true) ∧ Below w.heap.size w w' := by
  have hb0 : Below w.heap.size w ((w.alloc (.cells #[.int .i64 p.p0, .int .i64 p.p1, .int .i64 p.p2, .int .i64 p.p3, .int .i64 p.p4, .int .i64 p.p5] 35)).alloc (.cells #[.int .i64 q.p0, .int .i64 q.p1, .int .i64 q.p2, .int .i64 q.p3, .int .i64 q.p4, .int .i64 q.p5] 35)) := by go_grown
  have K0 := Lib.hid ((Blk.new w #[.int .i64 p.p0, .int .i64 p.p1, .int .i64 p.p2, .int .i64 p.p3, .int .i64 p.p4, .int .i64 p.p5] 35).alloc (.cells #[.int .i64 q.p0, .int .i64 q.p1, .int .i64 q.p2, .int .i64 q.p3, .int .i64 q.p4, .int .i64 q.p5] 35))
  have K1 : Hid (Blk ((w.alloc (.cells #[.int .i64 p.p0, .int .i64 p.p1, .int .i64 p.p2, .int .i64 p.p3, .int .i64 p.p4, .int .i64 p.p5] 35)).alloc (.cells #[.int .i64 q.p0, .int .i64 q.p1, .int .i64 q.p2, .int .i64 q.p3, .int .i64 q.p4, .int .i64 q.p5] 35)) (w.heap.size + 1) #[.int .i64 q.p0, .int .i64 q.p1, .int .i64 q.p2, .int .i64 q.p3, .int .i64 q.p4, .int .i64 q.p5] 35) := Lib.hid (by
    have n1 := Blk.new (w.alloc (.cells #[.int .i64 p.p0, .int .i64 p.p1, .int .i64 p.p2, .int .i64 p.p3, .int .i64 p.p4, .int .i64 p.p5] 35)) #[.int .i64 q.p0, .int .i64 q.p1, .int .i64 q.p2, .int .i64 q.p3, .int .i64 q.p4, .int .i64 q.p5] 35
    simp only [World.size_alloc] at n1
    exact n1)
  have hsz : w.heap.size + 2 ≤ ((w.alloc (.cells #[.int .i64 p.p0, .int .i64 p.p1, .int .i64 p.p2, .int .i64 p.p3, .int .i64 p.p4, .int .i64 p.p5] 35)).alloc (.cells #[.int .i64 q.p0, .int .i64 q.p1, .int .i64 q.p2, .int .i64 q.p3, .int .i64 q.p4, .int .i64 q.p5] 35)).heap.size := by simp
  have hE0 := Lib.hid (fun (W : World) (hb : Below (w.heap.size + 2) ((w.alloc (.cells #[.int .i64 p.p0, .int .i64 p.p1, .int .i64 p.p2, .int .i64 p.p3, .int .i64 p.p4, .int .i64 p.p5] 35)).alloc (.cells #[.int .i64 q.p0, .int .i64 q.p1, .int .i64 q.p2, .int .i64 q.p3, .int .i64 q.p4, .int .i64 q.p5] 35)) W) => (hE.below hb0).below (hb.mono (by simp)))
  have HB0 := Lib.hid hb0
  have G1 := Lib.hid h1
  have G2 := Lib.hid h2
  have G3 := Lib.hid h3
  have G4 := Lib.hid h4
  have G5 := Lib.hid h5
  have G6 := Lib.hid h6
  have q1 : ∀ W : World, (Op.equalIn 10000 35 (.agg #[.int .i64 s.p0, .int .i64 s.p1, .int .i64 s.p2, .int .i64 s.p3, .int .i64 s.p4, .int .i64 s.p5]) (.agg #[.int .i64 s.p0, .int .i64 s.p1, .int .i64 s.p2, .int .i64 s.p3, .int .i64 s.p4, .int .i64 s.p5])).run Tryd.prog W = .ok true W := fun W => by rw [run_eq_pool, eqP_refl]
  clear hE h1 h2 h3 h4 h5 h6 hb0
  cases wb
  all_goals
    go_enter Tryd.func6, Tryd.ntmps6
    go_wp2_with fail
    have c0 := keepPP K0.out K1.out (Below.refl _ _)
    generalize (w.alloc (.cells #[.int .i64 p.p0, .int .i64 p.p1, .int .i64 p.p2, .int .i64 p.p3, .int .i64 p.p4, .int .i64 p.p5] 35)).alloc (.cells #[.int .i64 q.p0, .int .i64 q.p1, .int .i64 q.p2, .int .i64 q.p3, .int .i64 q.p4, .int .i64 q.p5] 35) = w0 at *
    go_region_held3 (fun w' => w'.cell? ⟨w.heap.size, 0, none⟩ = some (.int .i64 p.p0) ∧ w'.cell? ⟨w.heap.size, 1, none⟩ = some (.int .i64 p.p1) ∧ w'.cell? ⟨w.heap.size, 2, none⟩ = some (.int .i64 p.p2) ∧ w'.cell? ⟨w.heap.size, 3, none⟩ = some (.int .i64 p.p3) ∧ w'.cell? ⟨w.heap.size, 4, none⟩ = some (.int .i64 p.p4) ∧ w'.cell? ⟨w.heap.size, 5, none⟩ = some (.int .i64 p.p5) ∧ w'.cell? ⟨w.heap.size + 1, 0, none⟩ = some (.int .i64 q.p0) ∧ w'.cell? ⟨w.heap.size + 1, 1, none⟩ = some (.int .i64 q.p1) ∧ w'.cell? ⟨w.heap.size + 1, 2, none⟩ = some (.int .i64 q.p2) ∧ w'.cell? ⟨w.heap.size + 1, 3, none⟩ = some (.int .i64 q.p3) ∧ w'.cell? ⟨w.heap.size + 1, 4, none⟩ = some (.int .i64 q.p4) ∧ w'.cell? ⟨w.heap.size + 1, 5, none⟩ = some (.int .i64 q.p5))
      (first | (with_reducible exact c0) | (with_reducible exact keepPP K0.out K1.out hb1) | (with_reducible exact keepPP K0.out K1.out (Below.drew hb1)) | go_keep)
      (first
        | (go_at_call 17; refine (fromBase (C := w.heap.size + 2) (w0 := w0) ?_ hsz (manaAlive _ (hE0.out _ ?_))).mono ?_; (go_grown); (go_grown); rintro e w1 ⟨rfl, hb1⟩)
        | (go_at_call 23; refine (fromBase (C := w.heap.size + 2) (w0 := w0) ?_ hsz (G1.out _)).mono ?_; (go_grown); rintro e w1 ⟨rfl, hb1⟩)
        | (go_at_call 24; refine (fromBase (C := w.heap.size + 2) (w0 := w0) ?_ hsz (G2.out _)).mono ?_; (go_grown); rintro e w1 ⟨rfl, hb1⟩)
        | (go_at_call 22; refine (fromBase (C := w.heap.size + 2) (w0 := w0) ?_ hsz (G3.out _ (hE0.out _ ?_))).mono ?_; (go_grown); (go_grown); rintro e w1 ⟨rfl, hb1⟩)
        | (go_at_call 25; refine (fromBase (C := w.heap.size + 2) (w0 := w0) ?_ hsz (G4.out _)).mono ?_; (go_grown); rintro e w1 ⟨rfl, hb1⟩)
        | (go_at_call 26; refine (fromBase (C := w.heap.size + 2) (w0 := w0) ?_ hsz (G5.out _)).mono ?_; (go_grown); rintro e w1 ⟨rfl, hb1⟩)
        | (go_at_call 27; refine (fromBase (C := w.heap.size + 2) (w0 := w0) ?_ hsz (G6.out _)).mono ?_; (go_grown); rintro e w1 ⟨rfl, hb1⟩))
    go_wp2
    go_ret
    exact ⟨rfl, HB0.out.trans (Below.mono (by go_grown) (by omega : w.heap.size ≤ w.heap.size + 2))⟩
theorem lawManaPools (p q : Mana.Pl) (w : World) (hE : Env w) :
    Calls Tryd.prog 6 #[.agg #[.int .i64 p.p0, .int .i64 p.p1, .int .i64 p.p2, .int .i64 p.p3, .int .i64 p.p4, .int .i64 p.p5], .agg #[.int .i64 q.p0, .int .i64 q.p1, .int .i64 q.p2, .int .i64 q.p3, .int .i64 q.p4, .int .i64 q.p5]] w fun e w' => e = .returned (.bool true) ∧ Below w.heap.size w w' :=
  lawPoolsAny p q _ _ _ w hE (fun w => manaWhole p w) (fun w => refWhole8 p w) (fun w hE => manaPoolText p w hE) (fun w => refPoolText8 p w) (fun w => manaAdd p q w) (fun w => refAdd8 p q w)
end Go.Proofs.YtcllaenanihedaaDoor
