/-
  CONTRACTS OF LAYER 8 (mana): within, Is, Value, Colors, and the reference's. By an AI agent.
-/
import Derived.Test.YtcllaenanihedaaDoorManaPlain
import Derived.Test.YtcllaenanihedaaDoorNumCore
import Derived.Test.YtcllaenanihedaaDoorProg
import Derived.WalkKit
import Derived.WalkLawsBesides
import Derived.BigQuiet
import Derived.Deep.QuietTactic
import Derived.Handy
import Derived.Lib.Hide
namespace Go.Proofs.YtcllaenanihedaaDoor
open Go.RowKit Go.Lib

theorem manaWithin (n m : Int) (w : World) :
    Calls Tryd.prog 31 #[.int .i64 n, .int .i64 m] w fun e w' => e = .returned (.bool (Mana.inB n m)) ∧ w = w' := by
  have HB : Hid (Mana.inB n m = (decide (0 ≤ n) && decide (n ≤ m))) := Lib.hid rfl
  rcases Int.lt_or_le n 0 with h0 | h0
  · go_enter Tryd.func31, Tryd.ntmps31
    go_wp2
    go_ret
    exact ⟨by rw [HB.out]; simp; omega, rfl⟩
  · rcases Int.lt_or_le m n with h1 | h1
    · go_enter Tryd.func31, Tryd.ntmps31
      go_wp2
      go_ret
      exact ⟨by rw [HB.out]; simp; omega, rfl⟩
    · go_enter Tryd.func31, Tryd.ntmps31
      go_wp2
      go_ret
      exact ⟨by rw [HB.out]; simp [h0, h1], rfl⟩
theorem index5_0 (c : Mana.Cst) (w : World) : (Instr.index 22 (.agg #[.int .i64 c.c0, .int .i64 c.c1, .int .i64 c.c2, .int .i64 c.c3, .int .i64 c.c4]) (.int .i64 0)).run Tryd.prog w = .ok (.int .i64 c.c0) w := by kernel_rfl
theorem index5_1 (c : Mana.Cst) (w : World) : (Instr.index 22 (.agg #[.int .i64 c.c0, .int .i64 c.c1, .int .i64 c.c2, .int .i64 c.c3, .int .i64 c.c4]) (.int .i64 1)).run Tryd.prog w = .ok (.int .i64 c.c1) w := by kernel_rfl
theorem index5_2 (c : Mana.Cst) (w : World) : (Instr.index 22 (.agg #[.int .i64 c.c0, .int .i64 c.c1, .int .i64 c.c2, .int .i64 c.c3, .int .i64 c.c4]) (.int .i64 2)).run Tryd.prog w = .ok (.int .i64 c.c2) w := by kernel_rfl
theorem index5_3 (c : Mana.Cst) (w : World) : (Instr.index 22 (.agg #[.int .i64 c.c0, .int .i64 c.c1, .int .i64 c.c2, .int .i64 c.c3, .int .i64 c.c4]) (.int .i64 3)).run Tryd.prog w = .ok (.int .i64 c.c3) w := by kernel_rfl
theorem index5_4 (c : Mana.Cst) (w : World) : (Instr.index 22 (.agg #[.int .i64 c.c0, .int .i64 c.c1, .int .i64 c.c2, .int .i64 c.c3, .int .i64 c.c4]) (.int .i64 4)).run Tryd.prog w = .ok (.int .i64 c.c4) w := by kernel_rfl
theorem index6_0 (p : Mana.Pl) (w : World) : (Instr.index 35 (.agg #[.int .i64 p.p0, .int .i64 p.p1, .int .i64 p.p2, .int .i64 p.p3, .int .i64 p.p4, .int .i64 p.p5]) (.int .i64 0)).run Tryd.prog w = .ok (.int .i64 p.p0) w := by kernel_rfl
theorem index6_1 (p : Mana.Pl) (w : World) : (Instr.index 35 (.agg #[.int .i64 p.p0, .int .i64 p.p1, .int .i64 p.p2, .int .i64 p.p3, .int .i64 p.p4, .int .i64 p.p5]) (.int .i64 1)).run Tryd.prog w = .ok (.int .i64 p.p1) w := by kernel_rfl
theorem index6_2 (p : Mana.Pl) (w : World) : (Instr.index 35 (.agg #[.int .i64 p.p0, .int .i64 p.p1, .int .i64 p.p2, .int .i64 p.p3, .int .i64 p.p4, .int .i64 p.p5]) (.int .i64 2)).run Tryd.prog w = .ok (.int .i64 p.p2) w := by kernel_rfl
theorem index6_3 (p : Mana.Pl) (w : World) : (Instr.index 35 (.agg #[.int .i64 p.p0, .int .i64 p.p1, .int .i64 p.p2, .int .i64 p.p3, .int .i64 p.p4, .int .i64 p.p5]) (.int .i64 3)).run Tryd.prog w = .ok (.int .i64 p.p3) w := by kernel_rfl
theorem index6_4 (p : Mana.Pl) (w : World) : (Instr.index 35 (.agg #[.int .i64 p.p0, .int .i64 p.p1, .int .i64 p.p2, .int .i64 p.p3, .int .i64 p.p4, .int .i64 p.p5]) (.int .i64 4)).run Tryd.prog w = .ok (.int .i64 p.p4) w := by kernel_rfl
theorem index6_5 (p : Mana.Pl) (w : World) : (Instr.index 35 (.agg #[.int .i64 p.p0, .int .i64 p.p1, .int .i64 p.p2, .int .i64 p.p3, .int .i64 p.p4, .int .i64 p.p5]) (.int .i64 5)).run Tryd.prog w = .ok (.int .i64 p.p5) w := by kernel_rfl
theorem index5 (c : Mana.Cst) (k : Nat) (hk : k < 5) (w : World) : (Instr.index 22 (.agg #[.int .i64 c.c0, .int .i64 c.c1, .int .i64 c.c2, .int .i64 c.c3, .int .i64 c.c4]) (.int .i64 (k : Int))).run Tryd.prog w = .ok (.int .i64 (c.col k)) w := by
  match k, hk with
  | 0, _ => exact index5_0 c w
  | 1, _ => exact index5_1 c w
  | 2, _ => exact index5_2 c w
  | 3, _ => exact index5_3 c w
  | 4, _ => exact index5_4 c w
theorem index6 (p : Mana.Pl) (k : Nat) (hk : k < 6) (w : World) : (Instr.index 35 (.agg #[.int .i64 p.p0, .int .i64 p.p1, .int .i64 p.p2, .int .i64 p.p3, .int .i64 p.p4, .int .i64 p.p5]) (.int .i64 (k : Int))).run Tryd.prog w = .ok (.int .i64 (p.el k)) w := by
  match k, hk with
  | 0, _ => exact index6_0 p w
  | 1, _ => exact index6_1 p w
  | 2, _ => exact index6_2 p w
  | 3, _ => exact index6_3 p w
  | 4, _ => exact index6_4 p w
  | 5, _ => exact index6_5 p w
set_option maxRecDepth 100000 in
theorem manaIs (c : Mana.Cst) (w : World) :
    Calls Tryd.prog 9 #[.agg #[.int .i64 c.g, .int .i64 c.x, .int .i64 c.c0, .int .i64 c.c1, .int .i64 c.c2, .int .i64 c.c3, .int .i64 c.c4]] w fun e w' => e = .returned (.bool (Mana.okC c)) ∧ Below w.heap.size w w' := by
  go_enter Tryd.func9, Tryd.ntmps9
  go_wp2
  go_loop [7] (fun i => ∃ k : Nat, k ≤ 5 ∧ i = .int .i64 (k : Int) ∧ Mana.okTo c k = true) (fun i => 5 - (intOf i).toNat)
  case atStart => exact ⟨0, by omega, rfl, rfl⟩
  case round =>
    obtain ⟨k, hk, rfl, hok⟩ := hrel
    have HO := Lib.hid hok
    clear hok
    by_cases hlt : k < 5
    · have hi := index5 c k hlt
      cases hc : Mana.inB (c.col k) 9 with
      | true =>
        have HC := Lib.hid hc
        clear hc
        go_wp2_with fail
        refine (manaWithin _ _ _).mono ?_
        rintro e w1 ⟨rfl, rfl⟩
        rw [HC.out]
        go_wp2
        go_round
        case rel => exact ⟨k + 1, by omega, by go_num, Mana.okTo_yes HO.out HC.out⟩
        case measure => simp [intOf]; omega
      | false =>
        have HC := Lib.hid hc
        clear hc
        go_wp2_with fail
        refine (manaWithin _ _ _).mono ?_
        rintro e w1 ⟨rfl, rfl⟩
        rw [HC.out]
        go_wp2
        go_ret
        exact ⟨ret_bool (Mana.okC_no hlt HC.out).symm, by go_grown⟩
    · obtain rfl : k = 5 := by omega
      have HG : Hid (Mana.okC c = (Mana.inB c.g 99 && Mana.inB c.x 2)) := Lib.hid (by unfold Mana.okC; rw [HO.out]; rfl)
      cases hg : Mana.inB c.g 99 with
      | true =>
        have HC := Lib.hid hg
        clear hg
        go_wp2_with fail
        refine (manaWithin _ _ _).mono ?_
        rintro e w1 ⟨rfl, rfl⟩
        rw [HC.out]
        go_wp2_with fail
        refine (manaWithin _ _ _).mono ?_
        rintro e w1 ⟨rfl, rfl⟩
        go_wp2
        go_ret
        exact ⟨ret_bool (by rw [HG.out, HC.out]; rfl), by go_grown⟩
      | false =>
        have HC := Lib.hid hg
        clear hg
        go_wp2_with fail
        refine (manaWithin _ _ _).mono ?_
        rintro e w1 ⟨rfl, rfl⟩
        rw [HC.out]
        go_wp2
        go_ret
        exact ⟨ret_bool (by rw [HG.out, HC.out]; rfl), by go_grown⟩
theorem costCell (c : Mana.Cst) (k : Nat) (hk : k < 5) (t : TypeId) (w : World) : (w.alloc (.cells #[.int .i64 c.g, .int .i64 c.x, .int .i64 c.c0, .int .i64 c.c1, .int .i64 c.c2, .int .i64 c.c3, .int .i64 c.c4] t)).cell? ⟨w.heap.size, 2 + k, none⟩ = some (.int .i64 (c.col k)) := by
  rw [World.cell?_alloc_mark]
  match k, hk with
  | 0, _ => rfl
  | 1, _ => rfl
  | 2, _ => rfl
  | 3, _ => rfl
  | 4, _ => rfl
theorem poolCell (p : Mana.Pl) (k : Nat) (hk : k < 6) (t : TypeId) (w : World) : (w.alloc (.cells #[.int .i64 p.p0, .int .i64 p.p1, .int .i64 p.p2, .int .i64 p.p3, .int .i64 p.p4, .int .i64 p.p5] t)).cell? ⟨w.heap.size, k, none⟩ = some (.int .i64 (p.el k)) := by
  rw [World.cell?_alloc_mark]
  match k, hk with
  | 0, _ => rfl
  | 1, _ => rfl
  | 2, _ => rfl
  | 3, _ => rfl
  | 4, _ => rfl
  | 5, _ => rfl

theorem okC_noG {c : Mana.Cst} (h : c.g < 0 ∨ 99 < c.g ∨ c.x < 0 ∨ 2 < c.x) : Mana.okC c = false := by
  rw [Bool.eq_false_iff]; intro e
  have := Mana.okC_iff.1 e
  omega
theorem okC_yesG {c : Mana.Cst} (h : Mana.okTo c 5 = true) (g0 : 0 ≤ c.g) (g1 : c.g ≤ 99) (x0 : 0 ≤ c.x) (x1 : c.x ≤ 2) : Mana.okC c = true := by
  unfold Mana.okC; rw [h, Mana.inB_mk g0 g1, Mana.inB_mk x0 x1]; rfl
set_option maxRecDepth 100000 in
theorem refIs8 (c : Mana.Cst) (w : World) :
    Calls Tryd.prog 10 #[.agg #[.int .i64 c.g, .int .i64 c.x, .int .i64 c.c0, .int .i64 c.c1, .int .i64 c.c2, .int .i64 c.c3, .int .i64 c.c4]] w fun e w' => e = .returned (.bool (Mana.okC c)) ∧ Below w.heap.size w w' := by
  by_cases hb : c.g < 0 ∨ 99 < c.g ∨ c.x < 0 ∨ 2 < c.x
  · have HB := Lib.hid (okC_noG hb)
    rcases hb with h | h | h | h
    all_goals
      go_enter Tryd.func10, Tryd.ntmps10
      go_wp2
      all_goals (go_ret; exact ⟨ret_bool HB.out.symm, by go_grown⟩)
  · have g0 : 0 ≤ c.g := by omega
    have g1 : c.g ≤ 99 := by omega
    have x0 : 0 ≤ c.x := by omega
    have x1 : c.x ≤ 2 := by omega
    clear hb
    go_enter Tryd.func10, Tryd.ntmps10
    go_wp2
    go_loop [3] (fun i => ∃ k : Nat, k ≤ 5 ∧ i = .int .i64 (k : Int) ∧ Mana.okTo c k = true) (fun i => 5 - (intOf i).toNat)
    case atStart => exact ⟨0, by omega, rfl, rfl⟩
    case round =>
      obtain ⟨k, hk, rfl, hok⟩ := hrel
      have HO := Lib.hid hok
      clear hok
      by_cases hlt : k < 5
      · have hi := costCell c k hlt 24 w
        cases hc : Mana.inB (c.col k) 9 with
        | true =>
          obtain ⟨h0, h1⟩ := Mana.inB_yes hc
          have HC := Lib.hid hc
          clear hc
          go_wp2
          go_round
          case rel => exact ⟨k + 1, by omega, by go_num, Mana.okTo_yes HO.out HC.out⟩
          case measure => simp [intOf]; omega
        | false =>
          have HC := Lib.hid (Mana.okC_no hlt hc)
          rcases Mana.inB_no hc with h | h
          all_goals
            clear hc
            go_wp2
            all_goals (go_ret; exact ⟨ret_bool HC.out.symm, by go_grown⟩)
      · obtain rfl : k = 5 := by omega
        go_wp2
        go_ret
        exact ⟨ret_bool (okC_yesG HO.out g0 g1 x0 x1).symm, by go_grown⟩
end Go.Proofs.YtcllaenanihedaaDoor
