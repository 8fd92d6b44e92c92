/-
  CONTRACTS OF LAYER 8 (mana): Whole, of the program and of the reference. By an AI agent.
-/
import Derived.Test.YtcllaenanihedaaDoorManaWalksC
import Derived.Test.YtcllaenanihedaaDoorArrEq
import Derived.Deep.RegionHeld3
namespace Go.Proofs.YtcllaenanihedaaDoor
open Go.RowKit Go.Lib

theorem whole_eq (p : Mana.Pl) : eqP (Mana.addP p Mana.zeroP) p = Mana.wholeB p := by
  rw [Bool.eq_iff_iff, eqP_iff, Mana.whole_add]
theorem manaAddZ (p : Mana.Pl) (w : World) :
    Calls Tryd.prog 26 #[.agg #[.int .i64 p.p0, .int .i64 p.p1, .int .i64 p.p2, .int .i64 p.p3, .int .i64 p.p4, .int .i64 p.p5], .agg #[.int .i64 0, .int .i64 0, .int .i64 0, .int .i64 0, .int .i64 0, .int .i64 0]] w fun e w' => e = .returned (.agg #[.int .i64 (Mana.addP p Mana.zeroP).p0, .int .i64 (Mana.addP p Mana.zeroP).p1, .int .i64 (Mana.addP p Mana.zeroP).p2, .int .i64 (Mana.addP p Mana.zeroP).p3, .int .i64 (Mana.addP p Mana.zeroP).p4, .int .i64 (Mana.addP p Mana.zeroP).p5]) ∧ Below w.heap.size w w' := manaAdd p Mana.zeroP w
theorem fromBase {f : FuncId} {args : Array Value} {v : Value} {C : Nat} {w0 W : World} (hb : Below C w0 W) (hC : C ≤ w0.heap.size)
    (h : Calls Tryd.prog f args W fun e w' => e = .returned v ∧ Below W.heap.size W w') : Calls Tryd.prog f args W fun e w' => e = .returned v ∧ Below C w0 w' :=
  h.mono fun _ _ ⟨he, hb'⟩ => ⟨he, hb.trans (hb'.mono (Nat.le_trans hC hb.size))⟩
/-- the six cells of a boxed pool -/
theorem Blk.six_cells {w : World} {b : Nat} {p : Mana.Pl} {t : TypeId} (h : Blk w b #[.int .i64 p.p0, .int .i64 p.p1, .int .i64 p.p2, .int .i64 p.p3, .int .i64 p.p4, .int .i64 p.p5] t) : w.cell? ⟨b, 0, none⟩ = some (.int .i64 p.p0) ∧ w.cell? ⟨b, 1, none⟩ = some (.int .i64 p.p1) ∧ w.cell? ⟨b, 2, none⟩ = some (.int .i64 p.p2) ∧ w.cell? ⟨b, 3, none⟩ = some (.int .i64 p.p3) ∧ w.cell? ⟨b, 4, none⟩ = some (.int .i64 p.p4) ∧ w.cell? ⟨b, 5, none⟩ = some (.int .i64 p.p5) :=
  ⟨h.cell 0, h.cell 1, h.cell 2, h.cell 3, h.cell 4, h.cell 5⟩
theorem Blk.seven_cells {w : World} {b : Nat} {c : Mana.Cst} {t : TypeId} (h : Blk w b #[.int .i64 c.g, .int .i64 c.x, .int .i64 c.c0, .int .i64 c.c1, .int .i64 c.c2, .int .i64 c.c3, .int .i64 c.c4] t) : w.cell? ⟨b, 0, none⟩ = some (.int .i64 c.g) ∧ w.cell? ⟨b, 1, none⟩ = some (.int .i64 c.x) ∧ w.cell? ⟨b, 2, none⟩ = some (.int .i64 c.c0) ∧ w.cell? ⟨b, 3, none⟩ = some (.int .i64 c.c1) ∧ w.cell? ⟨b, 4, none⟩ = some (.int .i64 c.c2) ∧ w.cell? ⟨b, 5, none⟩ = some (.int .i64 c.c3) ∧ w.cell? ⟨b, 6, none⟩ = some (.int .i64 c.c4) :=
  ⟨h.cell 0, h.cell 1, h.cell 2, h.cell 3, h.cell 4, h.cell 5, h.cell 6⟩
set_option maxHeartbeats 1000000 in
set_option maxRecDepth 100000 in
theorem manaWhole (p : Mana.Pl) (w : World) :
    Calls Tryd.prog 23 #[.agg #[.int .i64 p.p0, .int .i64 p.p1, .int .i64 p.p2, .int .i64 p.p3, .int .i64 p.p4, .int .i64 p.p5]] w fun e w' => e = .returned (.bool (Mana.wholeB p)) ∧ Below w.heap.size w w' := by
  have n0 := Blk.new w #[.int .i64 p.p0, .int .i64 p.p1, .int .i64 p.p2, .int .i64 p.p3, .int .i64 p.p4, .int .i64 p.p5] 35
  have c0 := n0.six_cells
  have hlt : w.heap.size < w.heap.size + 1 := by omega
  have hsz : w.heap.size + 1 ≤ (w.alloc (.cells #[.int .i64 p.p0, .int .i64 p.p1, .int .i64 p.p2, .int .i64 p.p3, .int .i64 p.p4, .int .i64 p.p5] 35)).heap.size := by simp
  have heq := fun W => run_eq_pool (Mana.addP p Mana.zeroP) p W
  go_enter Tryd.func23, Tryd.ntmps23
  go_wp2_with fail
  generalize hw0 : w.alloc (.cells #[.int .i64 p.p0, .int .i64 p.p1, .int .i64 p.p2, .int .i64 p.p3, .int .i64 p.p4, .int .i64 p.p5] 35) = w0 at *
  have hb0 : Below w.heap.size w w0 := by rw [← hw0]; go_grown
  go_region_held3 (fun w' => w'.cell? ⟨w.heap.size, 0, none⟩ = some (.int .i64 p.p0) ∧ w'.cell? ⟨w.heap.size, 1, none⟩ = some (.int .i64 p.p1) ∧ w'.cell? ⟨w.heap.size, 2, none⟩ = some (.int .i64 p.p2) ∧ w'.cell? ⟨w.heap.size, 3, none⟩ = some (.int .i64 p.p3) ∧ w'.cell? ⟨w.heap.size, 4, none⟩ = some (.int .i64 p.p4) ∧ w'.cell? ⟨w.heap.size, 5, none⟩ = some (.int .i64 p.p5))
    (first | go_keep | exact c0 | exact (n0.below hb1 hlt).six_cells | exact (n0.below (Below.drew hb1) hlt).six_cells)
    (first | (go_at_call 26; refine (fromBase (C := w.heap.size + 1) (w0 := w0) ?_ hsz (manaAddZ p _)).mono ?_; (go_grown); rintro e w1 ⟨rfl, hb1⟩))
  go_wp2
  go_ret
  exact ⟨ret_bool (whole_eq p), hb0.trans (hb1.mono (by omega))⟩
set_option maxRecDepth 100000 in
theorem refWhole8 (p : Mana.Pl) (w : World) :
    Calls Tryd.prog 24 #[.agg #[.int .i64 p.p0, .int .i64 p.p1, .int .i64 p.p2, .int .i64 p.p3, .int .i64 p.p4, .int .i64 p.p5]] w fun e w' => e = .returned (.bool (Mana.wholeB p)) ∧ Below w.heap.size w w' := by
  go_enter Tryd.func24, Tryd.ntmps24
  go_wp2
  go_loop [3] (fun i => ∃ k : Nat, k ≤ 6 ∧ i = .int .i64 (k : Int) ∧ Mana.wholeTo p k = true) (fun i => 6 - (intOf i).toNat)
  case atStart => exact ⟨0, by omega, rfl, rfl⟩
  case round =>
    obtain ⟨k, hk, rfl, hok⟩ := hrel
    have HO := Lib.hid hok
    clear hok
    by_cases hlt : k < 6
    · have hi := poolCell p k hlt 35 w
      cases hc : Mana.inB (p.el k) 1000000 with
      | true =>
        obtain ⟨h0, h1⟩ := Mana.inB_yes hc
        have HC := Lib.hid hc
        clear hc
        go_wp2
        go_round
        case rel => exact ⟨k + 1, by omega, by go_num, Mana.wholeTo_yes HO.out HC.out⟩
        case measure => simp [intOf]; omega
      | false =>
        have HC := Lib.hid (Mana.whole_no hlt hc)
        rcases Mana.inB_no hc with h | h
        all_goals
          clear hc
          go_wp2
          all_goals (go_ret; exact ⟨ret_bool HC.out.symm, by go_grown⟩)
    · obtain rfl : k = 6 := by omega
      go_wp2
      go_ret
      exact ⟨ret_bool HO.out.symm, by go_grown⟩
end Go.Proofs.YtcllaenanihedaaDoor
