/-
  THE LAW NumSaturates OF LAYER 1 (num), WALKED: it answers true, and nothing that was there changes. By an AI agent.
-/
import Derived.Test.YtbobapnenadopaaDoorNumAlive
namespace Go.Proofs.YtbobapnenadopaaDoor
open Go.RowKit

/-- what the law's calls give: X, Y the clamped arguments, S their sum, -D' and D' the differences, M the product, H0, H1 the halves -/
structure SatCalls (a b X Y S D' M H0 H1 : Int) : Prop where
  cX : ∀ W, Calls Tryd.prog 10 #[.int .i64 a] W fun e w' => e = .returned (.int .i64 X) ∧ W = w'
  cY : ∀ W, Calls Tryd.prog 10 #[.int .i64 b] W fun e w' => e = .returned (.int .i64 Y) ∧ W = w'
  cS : ∀ W, Calls Tryd.prog 12 #[.int .i64 a, .int .i64 b] W fun e w' => e = .returned (.int .i64 S) ∧ W = w'
  cS' : ∀ W, Calls Tryd.prog 12 #[.int .i64 b, .int .i64 a] W fun e w' => e = .returned (.int .i64 S) ∧ W = w'
  cM : ∀ W, Calls Tryd.prog 16 #[.int .i64 a, .int .i64 b] W fun e w' => e = .returned (.int .i64 M) ∧ W = w'
  cM' : ∀ W, Calls Tryd.prog 16 #[.int .i64 b, .int .i64 a] W fun e w' => e = .returned (.int .i64 M) ∧ W = w'
  cD : ∀ W, Calls Tryd.prog 14 #[.int .i64 a, .int .i64 b] W fun e w' => e = .returned (.int .i64 (-D')) ∧ W = w'
  cD' : ∀ W, Calls Tryd.prog 14 #[.int .i64 b, .int .i64 a] W fun e w' => e = .returned (.int .i64 D') ∧ W = w'
  cH0 : ∀ W, Calls Tryd.prog 18 #[.int .i64 a, .bool false] W fun e w' => e = .returned (.int .i64 H0) ∧ W = w'
  cH1 : ∀ W, Calls Tryd.prog 18 #[.int .i64 a, .bool true] W fun e w' => e = .returned (.int .i64 H1) ∧ W = w'
structure SatBounds (X Y S D' M H0 H1 : Int) : Prop where
  cX : -1000000 ≤ X ∧ X ≤ 1000000
  cY : -1000000 ≤ Y ∧ Y ≤ 1000000
  cS : -1000000 ≤ S ∧ S ≤ 1000000
  cD : -1000000 ≤ D' ∧ D' ≤ 1000000
  cM : -1000000 ≤ M ∧ M ≤ 1000000
  cH0 : -1000000 ≤ H0 ∧ H0 ≤ 1000000
  cH1 : -1000000 ≤ H1 ∧ H1 ≤ 1000000
  cH : H0 + H1 ≤ X ∧ X ≤ H0 + H1
  cP : -1000000000000 ≤ X * Y ∧ X * Y ≤ 1000000000000
set_option maxRecDepth 100000 in
set_option maxHeartbeats 4000000 in
theorem satLowLow (a b X Y S D' M H0 H1 : Int) (w : World) (hE : Env w) (hC : SatCalls a b X Y S D' M H0 H1) (hB : SatBounds X Y S D' M H0 H1)
    (_hx : X + Y < -1000000) (_t0 : decide (-1000000 ≤ X + Y) = false)
    (_hp : X * Y < -1000000) (_t2 : decide (X * Y < -1000000) = true) :
    Calls Tryd.prog 8 #[.int .i64 a, .int .i64 b] w fun e w' => e = .returned (.bool true) ∧ Below w.heap.size w w' := by
  have HB := hB
  obtain ⟨x0, x1⟩ := hB.cX
  obtain ⟨y0, y1⟩ := hB.cY
  obtain ⟨s0, s1⟩ := hB.cS
  obtain ⟨d0, d1⟩ := hB.cD
  obtain ⟨m0, m1⟩ := hB.cM
  obtain ⟨g0, g1⟩ := hB.cH0
  obtain ⟨g2, g3⟩ := hB.cH1
  obtain ⟨f0, f1⟩ := hB.cH
  obtain ⟨p0, p1⟩ := hB.cP
  clear HB hB
  have HC := Lib.hid hC
  clear hC
  go_enter Tryd.func8, Tryd.ntmps8
  go_wp2_with fail
  refine (HC.out.cX _).mono ?_
  rintro e w' ⟨rfl, rfl⟩
  go_wp2_with fail
  refine (HC.out.cY _).mono ?_
  rintro e w' ⟨rfl, rfl⟩
  go_wp2_with fail
  refine (HC.out.cS _).mono ?_
  rintro e w' ⟨rfl, rfl⟩
  go_wp2_with fail
  refine (HC.out.cD _).mono ?_
  rintro e w' ⟨rfl, rfl⟩
  go_wp2_with fail
  refine (HC.out.cM _).mono ?_
  rintro e w' ⟨rfl, rfl⟩
  go_wp2_with fail
  refine wp_loop_rounds 6 ?_
  rw [rounds_succ]; go_wp2_with fail
  rw [rounds_succ]; go_wp2_with fail
  rw [rounds_succ]; go_wp2_with fail
  rw [rounds_succ]; go_wp2_with fail
  rw [rounds_succ]; go_wp2_with fail
  rw [rounds_succ]; go_wp2_with fail
  have hb0 : Below w.heap.size w (w.alloc (.cells #[.int .i64 X, .int .i64 Y, .int .i64 S, .int .i64 (-D'), .int .i64 M] 3)) := by go_grown
  have hE0 := Lib.hid (hE.below hb0)
  clear hE
  generalize w.alloc (.cells #[.int .i64 X, .int .i64 Y, .int .i64 S, .int .i64 (-D'), .int .i64 M] 3) = w0 at *
  refine (HC.out.cS' _).mono ?_
  rintro e w' ⟨rfl, rfl⟩
  go_wp2_with fail
  refine (HC.out.cM' _).mono ?_
  rintro e w' ⟨rfl, rfl⟩
  go_wp2_with fail
  refine (HC.out.cD' _).mono ?_
  rintro e w' ⟨rfl, rfl⟩
  go_wp2_with fail
  refine (HC.out.cH0 _).mono ?_
  rintro e w' ⟨rfl, rfl⟩
  go_wp2_with fail
  refine (HC.out.cH1 _).mono ?_
  rintro e w' ⟨rfl, rfl⟩
  go_wp2_with fail
  refine (numAlive _ hE0.out).mono ?_
  rintro e w1 ⟨rfl, hb1⟩
  go_wp2_with fail
  go_ret
  exact ⟨rfl, hb0.trans (hb1.mono hb0.size)⟩
set_option maxRecDepth 100000 in
set_option maxHeartbeats 4000000 in
theorem satLowHigh (a b X Y S D' M H0 H1 : Int) (w : World) (hE : Env w) (hC : SatCalls a b X Y S D' M H0 H1) (hB : SatBounds X Y S D' M H0 H1)
    (_hx : X + Y < -1000000) (_t0 : decide (-1000000 ≤ X + Y) = false)
    (hp : 1000000 < X * Y) (_t2 : decide (X * Y < -1000000) = false) (_t3 : decide (1000000 < X * Y) = true) :
    Calls Tryd.prog 8 #[.int .i64 a, .int .i64 b] w fun e w' => e = .returned (.bool true) ∧ Below w.heap.size w w' := by
  have HB := hB
  obtain ⟨x0, x1⟩ := hB.cX
  obtain ⟨y0, y1⟩ := hB.cY
  obtain ⟨s0, s1⟩ := hB.cS
  obtain ⟨d0, d1⟩ := hB.cD
  obtain ⟨m0, m1⟩ := hB.cM
  obtain ⟨g0, g1⟩ := hB.cH0
  obtain ⟨g2, g3⟩ := hB.cH1
  obtain ⟨f0, f1⟩ := hB.cH
  obtain ⟨p0, p1⟩ := hB.cP
  clear HB hB
  have HC := Lib.hid hC
  clear hC
  go_enter Tryd.func8, Tryd.ntmps8
  go_wp2_with fail
  refine (HC.out.cX _).mono ?_
  rintro e w' ⟨rfl, rfl⟩
  go_wp2_with fail
  refine (HC.out.cY _).mono ?_
  rintro e w' ⟨rfl, rfl⟩
  go_wp2_with fail
  refine (HC.out.cS _).mono ?_
  rintro e w' ⟨rfl, rfl⟩
  go_wp2_with fail
  refine (HC.out.cD _).mono ?_
  rintro e w' ⟨rfl, rfl⟩
  go_wp2_with fail
  refine (HC.out.cM _).mono ?_
  rintro e w' ⟨rfl, rfl⟩
  go_wp2_with fail
  refine wp_loop_rounds 6 ?_
  rw [rounds_succ]; go_wp2_with fail
  rw [rounds_succ]; go_wp2_with fail
  rw [rounds_succ]; go_wp2_with fail
  rw [rounds_succ]; go_wp2_with fail
  rw [rounds_succ]; go_wp2_with fail
  rw [rounds_succ]; go_wp2_with fail
  have hb0 : Below w.heap.size w (w.alloc (.cells #[.int .i64 X, .int .i64 Y, .int .i64 S, .int .i64 (-D'), .int .i64 M] 3)) := by go_grown
  have hE0 := Lib.hid (hE.below hb0)
  clear hE
  generalize w.alloc (.cells #[.int .i64 X, .int .i64 Y, .int .i64 S, .int .i64 (-D'), .int .i64 M] 3) = w0 at *
  refine (HC.out.cS' _).mono ?_
  rintro e w' ⟨rfl, rfl⟩
  go_wp2_with fail
  refine (HC.out.cM' _).mono ?_
  rintro e w' ⟨rfl, rfl⟩
  go_wp2_with fail
  refine (HC.out.cD' _).mono ?_
  rintro e w' ⟨rfl, rfl⟩
  go_wp2_with fail
  refine (HC.out.cH0 _).mono ?_
  rintro e w' ⟨rfl, rfl⟩
  go_wp2_with fail
  refine (HC.out.cH1 _).mono ?_
  rintro e w' ⟨rfl, rfl⟩
  go_wp2_with fail
  refine (numAlive _ hE0.out).mono ?_
  rintro e w1 ⟨rfl, hb1⟩
  go_wp2_with fail
  go_ret
  exact ⟨rfl, hb0.trans (hb1.mono hb0.size)⟩
set_option maxRecDepth 100000 in
set_option maxHeartbeats 4000000 in
theorem satLowIn (a b X Y S D' H0 H1 : Int) (w : World) (hE : Env w) (hC : SatCalls a b X Y S D' (X * Y) H0 H1) (hB : SatBounds X Y S D' (X * Y) H0 H1)
    (_hx : X + Y < -1000000) (_t0 : decide (-1000000 ≤ X + Y) = false)
    (hp : -1000000 ≤ X * Y) (_hp1 : X * Y ≤ 1000000) (_t2 : decide (X * Y < -1000000) = false) (_t3 : decide (1000000 < X * Y) = false) :
    Calls Tryd.prog 8 #[.int .i64 a, .int .i64 b] w fun e w' => e = .returned (.bool true) ∧ Below w.heap.size w w' := by
  have HB := hB
  obtain ⟨x0, x1⟩ := hB.cX
  obtain ⟨y0, y1⟩ := hB.cY
  obtain ⟨s0, s1⟩ := hB.cS
  obtain ⟨d0, d1⟩ := hB.cD
  obtain ⟨m0, m1⟩ := hB.cM
  obtain ⟨g0, g1⟩ := hB.cH0
  obtain ⟨g2, g3⟩ := hB.cH1
  obtain ⟨f0, f1⟩ := hB.cH
  obtain ⟨p0, p1⟩ := hB.cP
  clear HB hB
  have HC := Lib.hid hC
  clear hC
  go_enter Tryd.func8, Tryd.ntmps8
  go_wp2_with fail
  refine (HC.out.cX _).mono ?_
  rintro e w' ⟨rfl, rfl⟩
  go_wp2_with fail
  refine (HC.out.cY _).mono ?_
  rintro e w' ⟨rfl, rfl⟩
  go_wp2_with fail
  refine (HC.out.cS _).mono ?_
  rintro e w' ⟨rfl, rfl⟩
  go_wp2_with fail
  refine (HC.out.cD _).mono ?_
  rintro e w' ⟨rfl, rfl⟩
  go_wp2_with fail
  refine (HC.out.cM _).mono ?_
  rintro e w' ⟨rfl, rfl⟩
  go_wp2_with fail
  refine wp_loop_rounds 6 ?_
  rw [rounds_succ]; go_wp2_with fail
  rw [rounds_succ]; go_wp2_with fail
  rw [rounds_succ]; go_wp2_with fail
  rw [rounds_succ]; go_wp2_with fail
  rw [rounds_succ]; go_wp2_with fail
  rw [rounds_succ]; go_wp2_with fail
  have hb0 : Below w.heap.size w (w.alloc (.cells #[.int .i64 X, .int .i64 Y, .int .i64 S, .int .i64 (-D'), .int .i64 (X * Y)] 3)) := by go_grown
  have hE0 := Lib.hid (hE.below hb0)
  clear hE
  generalize w.alloc (.cells #[.int .i64 X, .int .i64 Y, .int .i64 S, .int .i64 (-D'), .int .i64 (X * Y)] 3) = w0 at *
  refine (HC.out.cS' _).mono ?_
  rintro e w' ⟨rfl, rfl⟩
  go_wp2_with fail
  refine (HC.out.cM' _).mono ?_
  rintro e w' ⟨rfl, rfl⟩
  go_wp2_with fail
  refine (HC.out.cD' _).mono ?_
  rintro e w' ⟨rfl, rfl⟩
  go_wp2_with fail
  refine (HC.out.cH0 _).mono ?_
  rintro e w' ⟨rfl, rfl⟩
  go_wp2_with fail
  refine (HC.out.cH1 _).mono ?_
  rintro e w' ⟨rfl, rfl⟩
  go_wp2_with fail
  refine (numAlive _ hE0.out).mono ?_
  rintro e w1 ⟨rfl, hb1⟩
  go_wp2_with fail
  go_ret
  exact ⟨rfl, hb0.trans (hb1.mono hb0.size)⟩
set_option maxRecDepth 100000 in
set_option maxHeartbeats 4000000 in
theorem satHighLow (a b X Y S D' M H0 H1 : Int) (w : World) (hE : Env w) (hC : SatCalls a b X Y S D' M H0 H1) (hB : SatBounds X Y S D' M H0 H1)
    (_hx : 1000000 < X + Y) (_t0 : decide (-1000000 ≤ X + Y) = true) (_t1 : decide (X + Y ≤ 1000000) = false)
    (_hp : X * Y < -1000000) (_t2 : decide (X * Y < -1000000) = true) :
    Calls Tryd.prog 8 #[.int .i64 a, .int .i64 b] w fun e w' => e = .returned (.bool true) ∧ Below w.heap.size w w' := by
  have HB := hB
  obtain ⟨x0, x1⟩ := hB.cX
  obtain ⟨y0, y1⟩ := hB.cY
  obtain ⟨s0, s1⟩ := hB.cS
  obtain ⟨d0, d1⟩ := hB.cD
  obtain ⟨m0, m1⟩ := hB.cM
  obtain ⟨g0, g1⟩ := hB.cH0
  obtain ⟨g2, g3⟩ := hB.cH1
  obtain ⟨f0, f1⟩ := hB.cH
  obtain ⟨p0, p1⟩ := hB.cP
  clear HB hB
  have HC := Lib.hid hC
  clear hC
  go_enter Tryd.func8, Tryd.ntmps8
  go_wp2_with fail
  refine (HC.out.cX _).mono ?_
  rintro e w' ⟨rfl, rfl⟩
  go_wp2_with fail
  refine (HC.out.cY _).mono ?_
  rintro e w' ⟨rfl, rfl⟩
  go_wp2_with fail
  refine (HC.out.cS _).mono ?_
  rintro e w' ⟨rfl, rfl⟩
  go_wp2_with fail
  refine (HC.out.cD _).mono ?_
  rintro e w' ⟨rfl, rfl⟩
  go_wp2_with fail
  refine (HC.out.cM _).mono ?_
  rintro e w' ⟨rfl, rfl⟩
  go_wp2_with fail
  refine wp_loop_rounds 6 ?_
  rw [rounds_succ]; go_wp2_with fail
  rw [rounds_succ]; go_wp2_with fail
  rw [rounds_succ]; go_wp2_with fail
  rw [rounds_succ]; go_wp2_with fail
  rw [rounds_succ]; go_wp2_with fail
  rw [rounds_succ]; go_wp2_with fail
  have hb0 : Below w.heap.size w (w.alloc (.cells #[.int .i64 X, .int .i64 Y, .int .i64 S, .int .i64 (-D'), .int .i64 M] 3)) := by go_grown
  have hE0 := Lib.hid (hE.below hb0)
  clear hE
  generalize w.alloc (.cells #[.int .i64 X, .int .i64 Y, .int .i64 S, .int .i64 (-D'), .int .i64 M] 3) = w0 at *
  refine (HC.out.cS' _).mono ?_
  rintro e w' ⟨rfl, rfl⟩
  go_wp2_with fail
  refine (HC.out.cM' _).mono ?_
  rintro e w' ⟨rfl, rfl⟩
  go_wp2_with fail
  refine (HC.out.cD' _).mono ?_
  rintro e w' ⟨rfl, rfl⟩
  go_wp2_with fail
  refine (HC.out.cH0 _).mono ?_
  rintro e w' ⟨rfl, rfl⟩
  go_wp2_with fail
  refine (HC.out.cH1 _).mono ?_
  rintro e w' ⟨rfl, rfl⟩
  go_wp2_with fail
  refine (numAlive _ hE0.out).mono ?_
  rintro e w1 ⟨rfl, hb1⟩
  go_wp2_with fail
  go_ret
  exact ⟨rfl, hb0.trans (hb1.mono hb0.size)⟩
set_option maxRecDepth 100000 in
set_option maxHeartbeats 4000000 in
theorem satHighHigh (a b X Y S D' M H0 H1 : Int) (w : World) (hE : Env w) (hC : SatCalls a b X Y S D' M H0 H1) (hB : SatBounds X Y S D' M H0 H1)
    (_hx : 1000000 < X + Y) (_t0 : decide (-1000000 ≤ X + Y) = true) (_t1 : decide (X + Y ≤ 1000000) = false)
    (hp : 1000000 < X * Y) (_t2 : decide (X * Y < -1000000) = false) (_t3 : decide (1000000 < X * Y) = true) :
    Calls Tryd.prog 8 #[.int .i64 a, .int .i64 b] w fun e w' => e = .returned (.bool true) ∧ Below w.heap.size w w' := by
  have HB := hB
  obtain ⟨x0, x1⟩ := hB.cX
  obtain ⟨y0, y1⟩ := hB.cY
  obtain ⟨s0, s1⟩ := hB.cS
  obtain ⟨d0, d1⟩ := hB.cD
  obtain ⟨m0, m1⟩ := hB.cM
  obtain ⟨g0, g1⟩ := hB.cH0
  obtain ⟨g2, g3⟩ := hB.cH1
  obtain ⟨f0, f1⟩ := hB.cH
  obtain ⟨p0, p1⟩ := hB.cP
  clear HB hB
  have HC := Lib.hid hC
  clear hC
  go_enter Tryd.func8, Tryd.ntmps8
  go_wp2_with fail
  refine (HC.out.cX _).mono ?_
  rintro e w' ⟨rfl, rfl⟩
  go_wp2_with fail
  refine (HC.out.cY _).mono ?_
  rintro e w' ⟨rfl, rfl⟩
  go_wp2_with fail
  refine (HC.out.cS _).mono ?_
  rintro e w' ⟨rfl, rfl⟩
  go_wp2_with fail
  refine (HC.out.cD _).mono ?_
  rintro e w' ⟨rfl, rfl⟩
  go_wp2_with fail
  refine (HC.out.cM _).mono ?_
  rintro e w' ⟨rfl, rfl⟩
  go_wp2_with fail
  refine wp_loop_rounds 6 ?_
  rw [rounds_succ]; go_wp2_with fail
  rw [rounds_succ]; go_wp2_with fail
  rw [rounds_succ]; go_wp2_with fail
  rw [rounds_succ]; go_wp2_with fail
  rw [rounds_succ]; go_wp2_with fail
  rw [rounds_succ]; go_wp2_with fail
  have hb0 : Below w.heap.size w (w.alloc (.cells #[.int .i64 X, .int .i64 Y, .int .i64 S, .int .i64 (-D'), .int .i64 M] 3)) := by go_grown
  have hE0 := Lib.hid (hE.below hb0)
  clear hE
  generalize w.alloc (.cells #[.int .i64 X, .int .i64 Y, .int .i64 S, .int .i64 (-D'), .int .i64 M] 3) = w0 at *
  refine (HC.out.cS' _).mono ?_
  rintro e w' ⟨rfl, rfl⟩
  go_wp2_with fail
  refine (HC.out.cM' _).mono ?_
  rintro e w' ⟨rfl, rfl⟩
  go_wp2_with fail
  refine (HC.out.cD' _).mono ?_
  rintro e w' ⟨rfl, rfl⟩
  go_wp2_with fail
  refine (HC.out.cH0 _).mono ?_
  rintro e w' ⟨rfl, rfl⟩
  go_wp2_with fail
  refine (HC.out.cH1 _).mono ?_
  rintro e w' ⟨rfl, rfl⟩
  go_wp2_with fail
  refine (numAlive _ hE0.out).mono ?_
  rintro e w1 ⟨rfl, hb1⟩
  go_wp2_with fail
  go_ret
  exact ⟨rfl, hb0.trans (hb1.mono hb0.size)⟩
set_option maxRecDepth 100000 in
set_option maxHeartbeats 4000000 in
theorem satHighIn (a b X Y S D' H0 H1 : Int) (w : World) (hE : Env w) (hC : SatCalls a b X Y S D' (X * Y) H0 H1) (hB : SatBounds X Y S D' (X * Y) H0 H1)
    (_hx : 1000000 < X + Y) (_t0 : decide (-1000000 ≤ X + Y) = true) (_t1 : decide (X + Y ≤ 1000000) = false)
    (hp : -1000000 ≤ X * Y) (_hp1 : X * Y ≤ 1000000) (_t2 : decide (X * Y < -1000000) = false) (_t3 : decide (1000000 < X * Y) = false) :
    Calls Tryd.prog 8 #[.int .i64 a, .int .i64 b] w fun e w' => e = .returned (.bool true) ∧ Below w.heap.size w w' := by
  have HB := hB
  obtain ⟨x0, x1⟩ := hB.cX
  obtain ⟨y0, y1⟩ := hB.cY
  obtain ⟨s0, s1⟩ := hB.cS
  obtain ⟨d0, d1⟩ := hB.cD
  obtain ⟨m0, m1⟩ := hB.cM
  obtain ⟨g0, g1⟩ := hB.cH0
  obtain ⟨g2, g3⟩ := hB.cH1
  obtain ⟨f0, f1⟩ := hB.cH
  obtain ⟨p0, p1⟩ := hB.cP
  clear HB hB
  have HC := Lib.hid hC
  clear hC
  go_enter Tryd.func8, Tryd.ntmps8
  go_wp2_with fail
  refine (HC.out.cX _).mono ?_
  rintro e w' ⟨rfl, rfl⟩
  go_wp2_with fail
  refine (HC.out.cY _).mono ?_
  rintro e w' ⟨rfl, rfl⟩
  go_wp2_with fail
  refine (HC.out.cS _).mono ?_
  rintro e w' ⟨rfl, rfl⟩
  go_wp2_with fail
  refine (HC.out.cD _).mono ?_
  rintro e w' ⟨rfl, rfl⟩
  go_wp2_with fail
  refine (HC.out.cM _).mono ?_
  rintro e w' ⟨rfl, rfl⟩
  go_wp2_with fail
  refine wp_loop_rounds 6 ?_
  rw [rounds_succ]; go_wp2_with fail
  rw [rounds_succ]; go_wp2_with fail
  rw [rounds_succ]; go_wp2_with fail
  rw [rounds_succ]; go_wp2_with fail
  rw [rounds_succ]; go_wp2_with fail
  rw [rounds_succ]; go_wp2_with fail
  have hb0 : Below w.heap.size w (w.alloc (.cells #[.int .i64 X, .int .i64 Y, .int .i64 S, .int .i64 (-D'), .int .i64 (X * Y)] 3)) := by go_grown
  have hE0 := Lib.hid (hE.below hb0)
  clear hE
  generalize w.alloc (.cells #[.int .i64 X, .int .i64 Y, .int .i64 S, .int .i64 (-D'), .int .i64 (X * Y)] 3) = w0 at *
  refine (HC.out.cS' _).mono ?_
  rintro e w' ⟨rfl, rfl⟩
  go_wp2_with fail
  refine (HC.out.cM' _).mono ?_
  rintro e w' ⟨rfl, rfl⟩
  go_wp2_with fail
  refine (HC.out.cD' _).mono ?_
  rintro e w' ⟨rfl, rfl⟩
  go_wp2_with fail
  refine (HC.out.cH0 _).mono ?_
  rintro e w' ⟨rfl, rfl⟩
  go_wp2_with fail
  refine (HC.out.cH1 _).mono ?_
  rintro e w' ⟨rfl, rfl⟩
  go_wp2_with fail
  refine (numAlive _ hE0.out).mono ?_
  rintro e w1 ⟨rfl, hb1⟩
  go_wp2_with fail
  go_ret
  exact ⟨rfl, hb0.trans (hb1.mono hb0.size)⟩
set_option maxRecDepth 100000 in
set_option maxHeartbeats 4000000 in
theorem satInLow (a b X Y D' M H0 H1 : Int) (w : World) (hE : Env w) (hC : SatCalls a b X Y (X + Y) D' M H0 H1) (hB : SatBounds X Y (X + Y) D' M H0 H1)
    (_hx : -1000000 ≤ X + Y) (_hx1 : X + Y ≤ 1000000) (_t0 : decide (-1000000 ≤ X + Y) = true) (_t1 : decide (X + Y ≤ 1000000) = true) (hx4 : Hid (∀ W, Calls Tryd.prog 14 #[.int .i64 (X + Y), .int .i64 b] W fun e w' => e = .returned (.int .i64 X) ∧ W = w'))
    (_hp : X * Y < -1000000) (_t2 : decide (X * Y < -1000000) = true) :
    Calls Tryd.prog 8 #[.int .i64 a, .int .i64 b] w fun e w' => e = .returned (.bool true) ∧ Below w.heap.size w w' := by
  have HB := hB
  obtain ⟨x0, x1⟩ := hB.cX
  obtain ⟨y0, y1⟩ := hB.cY
  obtain ⟨s0, s1⟩ := hB.cS
  obtain ⟨d0, d1⟩ := hB.cD
  obtain ⟨m0, m1⟩ := hB.cM
  obtain ⟨g0, g1⟩ := hB.cH0
  obtain ⟨g2, g3⟩ := hB.cH1
  obtain ⟨f0, f1⟩ := hB.cH
  obtain ⟨p0, p1⟩ := hB.cP
  clear HB hB
  have HC := Lib.hid hC
  clear hC
  go_enter Tryd.func8, Tryd.ntmps8
  go_wp2_with fail
  refine (HC.out.cX _).mono ?_
  rintro e w' ⟨rfl, rfl⟩
  go_wp2_with fail
  refine (HC.out.cY _).mono ?_
  rintro e w' ⟨rfl, rfl⟩
  go_wp2_with fail
  refine (HC.out.cS _).mono ?_
  rintro e w' ⟨rfl, rfl⟩
  go_wp2_with fail
  refine (HC.out.cD _).mono ?_
  rintro e w' ⟨rfl, rfl⟩
  go_wp2_with fail
  refine (HC.out.cM _).mono ?_
  rintro e w' ⟨rfl, rfl⟩
  go_wp2_with fail
  refine wp_loop_rounds 6 ?_
  rw [rounds_succ]; go_wp2_with fail
  rw [rounds_succ]; go_wp2_with fail
  rw [rounds_succ]; go_wp2_with fail
  rw [rounds_succ]; go_wp2_with fail
  rw [rounds_succ]; go_wp2_with fail
  rw [rounds_succ]; go_wp2_with fail
  have hb0 : Below w.heap.size w (w.alloc (.cells #[.int .i64 X, .int .i64 Y, .int .i64 (X + Y), .int .i64 (-D'), .int .i64 M] 3)) := by go_grown
  have hE0 := Lib.hid (hE.below hb0)
  clear hE
  generalize w.alloc (.cells #[.int .i64 X, .int .i64 Y, .int .i64 (X + Y), .int .i64 (-D'), .int .i64 M] 3) = w0 at *
  refine (HC.out.cS' _).mono ?_
  rintro e w' ⟨rfl, rfl⟩
  go_wp2_with fail
  refine (HC.out.cM' _).mono ?_
  rintro e w' ⟨rfl, rfl⟩
  go_wp2_with fail
  refine (HC.out.cD' _).mono ?_
  rintro e w' ⟨rfl, rfl⟩
  go_wp2_with fail
  refine (HC.out.cH0 _).mono ?_
  rintro e w' ⟨rfl, rfl⟩
  go_wp2_with fail
  refine (HC.out.cH1 _).mono ?_
  rintro e w' ⟨rfl, rfl⟩
  go_wp2_with fail
  refine (numAlive _ hE0.out).mono ?_
  rintro e w1 ⟨rfl, hb1⟩
  go_wp2_with fail
  refine (hx4.out _).mono ?_
  rintro e w' ⟨rfl, rfl⟩
  go_wp2_with fail
  go_ret
  exact ⟨rfl, hb0.trans (hb1.mono hb0.size)⟩
set_option maxRecDepth 100000 in
set_option maxHeartbeats 4000000 in
theorem satInHigh (a b X Y D' M H0 H1 : Int) (w : World) (hE : Env w) (hC : SatCalls a b X Y (X + Y) D' M H0 H1) (hB : SatBounds X Y (X + Y) D' M H0 H1)
    (_hx : -1000000 ≤ X + Y) (_hx1 : X + Y ≤ 1000000) (_t0 : decide (-1000000 ≤ X + Y) = true) (_t1 : decide (X + Y ≤ 1000000) = true) (hx4 : Hid (∀ W, Calls Tryd.prog 14 #[.int .i64 (X + Y), .int .i64 b] W fun e w' => e = .returned (.int .i64 X) ∧ W = w'))
    (hp : 1000000 < X * Y) (_t2 : decide (X * Y < -1000000) = false) (_t3 : decide (1000000 < X * Y) = true) :
    Calls Tryd.prog 8 #[.int .i64 a, .int .i64 b] w fun e w' => e = .returned (.bool true) ∧ Below w.heap.size w w' := by
  have HB := hB
  obtain ⟨x0, x1⟩ := hB.cX
  obtain ⟨y0, y1⟩ := hB.cY
  obtain ⟨s0, s1⟩ := hB.cS
  obtain ⟨d0, d1⟩ := hB.cD
  obtain ⟨m0, m1⟩ := hB.cM
  obtain ⟨g0, g1⟩ := hB.cH0
  obtain ⟨g2, g3⟩ := hB.cH1
  obtain ⟨f0, f1⟩ := hB.cH
  obtain ⟨p0, p1⟩ := hB.cP
  clear HB hB
  have HC := Lib.hid hC
  clear hC
  go_enter Tryd.func8, Tryd.ntmps8
  go_wp2_with fail
  refine (HC.out.cX _).mono ?_
  rintro e w' ⟨rfl, rfl⟩
  go_wp2_with fail
  refine (HC.out.cY _).mono ?_
  rintro e w' ⟨rfl, rfl⟩
  go_wp2_with fail
  refine (HC.out.cS _).mono ?_
  rintro e w' ⟨rfl, rfl⟩
  go_wp2_with fail
  refine (HC.out.cD _).mono ?_
  rintro e w' ⟨rfl, rfl⟩
  go_wp2_with fail
  refine (HC.out.cM _).mono ?_
  rintro e w' ⟨rfl, rfl⟩
  go_wp2_with fail
  refine wp_loop_rounds 6 ?_
  rw [rounds_succ]; go_wp2_with fail
  rw [rounds_succ]; go_wp2_with fail
  rw [rounds_succ]; go_wp2_with fail
  rw [rounds_succ]; go_wp2_with fail
  rw [rounds_succ]; go_wp2_with fail
  rw [rounds_succ]; go_wp2_with fail
  have hb0 : Below w.heap.size w (w.alloc (.cells #[.int .i64 X, .int .i64 Y, .int .i64 (X + Y), .int .i64 (-D'), .int .i64 M] 3)) := by go_grown
  have hE0 := Lib.hid (hE.below hb0)
  clear hE
  generalize w.alloc (.cells #[.int .i64 X, .int .i64 Y, .int .i64 (X + Y), .int .i64 (-D'), .int .i64 M] 3) = w0 at *
  refine (HC.out.cS' _).mono ?_
  rintro e w' ⟨rfl, rfl⟩
  go_wp2_with fail
  refine (HC.out.cM' _).mono ?_
  rintro e w' ⟨rfl, rfl⟩
  go_wp2_with fail
  refine (HC.out.cD' _).mono ?_
  rintro e w' ⟨rfl, rfl⟩
  go_wp2_with fail
  refine (HC.out.cH0 _).mono ?_
  rintro e w' ⟨rfl, rfl⟩
  go_wp2_with fail
  refine (HC.out.cH1 _).mono ?_
  rintro e w' ⟨rfl, rfl⟩
  go_wp2_with fail
  refine (numAlive _ hE0.out).mono ?_
  rintro e w1 ⟨rfl, hb1⟩
  go_wp2_with fail
  refine (hx4.out _).mono ?_
  rintro e w' ⟨rfl, rfl⟩
  go_wp2_with fail
  go_ret
  exact ⟨rfl, hb0.trans (hb1.mono hb0.size)⟩
set_option maxRecDepth 100000 in
set_option maxHeartbeats 4000000 in
theorem satInIn (a b X Y D' H0 H1 : Int) (w : World) (hE : Env w) (hC : SatCalls a b X Y (X + Y) D' (X * Y) H0 H1) (hB : SatBounds X Y (X + Y) D' (X * Y) H0 H1)
    (_hx : -1000000 ≤ X + Y) (_hx1 : X + Y ≤ 1000000) (_t0 : decide (-1000000 ≤ X + Y) = true) (_t1 : decide (X + Y ≤ 1000000) = true) (hx4 : Hid (∀ W, Calls Tryd.prog 14 #[.int .i64 (X + Y), .int .i64 b] W fun e w' => e = .returned (.int .i64 X) ∧ W = w'))
    (hp : -1000000 ≤ X * Y) (_hp1 : X * Y ≤ 1000000) (_t2 : decide (X * Y < -1000000) = false) (_t3 : decide (1000000 < X * Y) = false) :
    Calls Tryd.prog 8 #[.int .i64 a, .int .i64 b] w fun e w' => e = .returned (.bool true) ∧ Below w.heap.size w w' := by
  have HB := hB
  obtain ⟨x0, x1⟩ := hB.cX
  obtain ⟨y0, y1⟩ := hB.cY
  obtain ⟨s0, s1⟩ := hB.cS
  obtain ⟨d0, d1⟩ := hB.cD
  obtain ⟨m0, m1⟩ := hB.cM
  obtain ⟨g0, g1⟩ := hB.cH0
  obtain ⟨g2, g3⟩ := hB.cH1
  obtain ⟨f0, f1⟩ := hB.cH
  obtain ⟨p0, p1⟩ := hB.cP
  clear HB hB
  have HC := Lib.hid hC
  clear hC
  go_enter Tryd.func8, Tryd.ntmps8
  go_wp2_with fail
  refine (HC.out.cX _).mono ?_
  rintro e w' ⟨rfl, rfl⟩
  go_wp2_with fail
  refine (HC.out.cY _).mono ?_
  rintro e w' ⟨rfl, rfl⟩
  go_wp2_with fail
  refine (HC.out.cS _).mono ?_
  rintro e w' ⟨rfl, rfl⟩
  go_wp2_with fail
  refine (HC.out.cD _).mono ?_
  rintro e w' ⟨rfl, rfl⟩
  go_wp2_with fail
  refine (HC.out.cM _).mono ?_
  rintro e w' ⟨rfl, rfl⟩
  go_wp2_with fail
  refine wp_loop_rounds 6 ?_
  rw [rounds_succ]; go_wp2_with fail
  rw [rounds_succ]; go_wp2_with fail
  rw [rounds_succ]; go_wp2_with fail
  rw [rounds_succ]; go_wp2_with fail
  rw [rounds_succ]; go_wp2_with fail
  rw [rounds_succ]; go_wp2_with fail
  have hb0 : Below w.heap.size w (w.alloc (.cells #[.int .i64 X, .int .i64 Y, .int .i64 (X + Y), .int .i64 (-D'), .int .i64 (X * Y)] 3)) := by go_grown
  have hE0 := Lib.hid (hE.below hb0)
  clear hE
  generalize w.alloc (.cells #[.int .i64 X, .int .i64 Y, .int .i64 (X + Y), .int .i64 (-D'), .int .i64 (X * Y)] 3) = w0 at *
  refine (HC.out.cS' _).mono ?_
  rintro e w' ⟨rfl, rfl⟩
  go_wp2_with fail
  refine (HC.out.cM' _).mono ?_
  rintro e w' ⟨rfl, rfl⟩
  go_wp2_with fail
  refine (HC.out.cD' _).mono ?_
  rintro e w' ⟨rfl, rfl⟩
  go_wp2_with fail
  refine (HC.out.cH0 _).mono ?_
  rintro e w' ⟨rfl, rfl⟩
  go_wp2_with fail
  refine (HC.out.cH1 _).mono ?_
  rintro e w' ⟨rfl, rfl⟩
  go_wp2_with fail
  refine (numAlive _ hE0.out).mono ?_
  rintro e w1 ⟨rfl, hb1⟩
  go_wp2_with fail
  refine (hx4.out _).mono ?_
  rintro e w' ⟨rfl, rfl⟩
  go_wp2_with fail
  go_ret
  exact ⟨rfl, hb0.trans (hb1.mono hb0.size)⟩
theorem lawNumSaturates (a b : Int) (w : World) (hE : Env w) :
    Calls Tryd.prog 8 #[.int .i64 a, .int .i64 b] w fun e w' => e = .returned (.bool true) ∧ Below w.heap.size w w' := by
  have bX := Num.clampI_bd a
  have bY := Num.clampI_bd b
  have eH := Num.half_sum a
  have hS' := numAdd b a
  rw [Int.add_comm (Num.clampI b)] at hS'
  have hM' := numMul b a
  rw [Int.mul_comm (Num.clampI b)] at hM'
  have hD := numSub a b
  rw [show Num.clampI (Num.clampI a - Num.clampI b) = -(Num.clampI (Num.clampI b - Num.clampI a)) by
    rw [← Num.clampI_neg]; congr 1; omega] at hD
  have hC : SatCalls a b (Num.clampI a) (Num.clampI b) (Num.clampI (Num.clampI a + Num.clampI b)) (Num.clampI (Num.clampI b - Num.clampI a)) (Num.clampI (Num.clampI a * Num.clampI b)) (Num.halfI a false) (Num.halfI a true) :=
    ⟨numClamp a, numClamp b, numAdd a b, hS', numMul a b, hM', hD, numSub b a, numHalf a false, numHalf a true⟩
  have hB : SatBounds (Num.clampI a) (Num.clampI b) (Num.clampI (Num.clampI a + Num.clampI b)) (Num.clampI (Num.clampI b - Num.clampI a)) (Num.clampI (Num.clampI a * Num.clampI b)) (Num.halfI a false) (Num.halfI a true) :=
    ⟨bX, bY, Num.clampI_bd _, Num.clampI_bd _, Num.clampI_bd _, Num.half_bd a false, Num.half_bd a true, ⟨by omega, by omega⟩, Num.mul_bd bX bY⟩
  have hsub := numSub (Num.clampI a + Num.clampI b) b
  clear hS' hM' hD eH
  rcases (show Num.clampI a + Num.clampI b < -1000000 ∨ 1000000 < Num.clampI a + Num.clampI b ∨ (-1000000 ≤ Num.clampI a + Num.clampI b ∧ Num.clampI a + Num.clampI b ≤ 1000000) by omega) with hx | hx | ⟨hx, hx1⟩
  · rcases (show Num.clampI a * Num.clampI b < -1000000 ∨ 1000000 < Num.clampI a * Num.clampI b ∨ (-1000000 ≤ Num.clampI a * Num.clampI b ∧ Num.clampI a * Num.clampI b ≤ 1000000) by omega) with hp | hp | ⟨hp, hp1⟩
    · exact satLowLow _ _ _ _ _ _ _ _ _ w hE hC hB hx (decide_eq_false (by omega)) hp (decide_eq_true hp)
    · exact satLowHigh _ _ _ _ _ _ _ _ _ w hE hC hB hx (decide_eq_false (by omega)) hp (decide_eq_false (by omega)) (decide_eq_true hp)
    · rw [Num.clampI_in hp hp1] at hC hB
      exact satLowIn _ _ _ _ _ _ _ _ w hE hC hB hx (decide_eq_false (by omega)) hp hp1 (decide_eq_false (by omega)) (decide_eq_false (by omega))
  · rcases (show Num.clampI a * Num.clampI b < -1000000 ∨ 1000000 < Num.clampI a * Num.clampI b ∨ (-1000000 ≤ Num.clampI a * Num.clampI b ∧ Num.clampI a * Num.clampI b ≤ 1000000) by omega) with hp | hp | ⟨hp, hp1⟩
    · exact satHighLow _ _ _ _ _ _ _ _ _ w hE hC hB hx (decide_eq_true (by omega)) (decide_eq_false (by omega)) hp (decide_eq_true hp)
    · exact satHighHigh _ _ _ _ _ _ _ _ _ w hE hC hB hx (decide_eq_true (by omega)) (decide_eq_false (by omega)) hp (decide_eq_false (by omega)) (decide_eq_true hp)
    · rw [Num.clampI_in hp hp1] at hC hB
      exact satHighIn _ _ _ _ _ _ _ _ w hE hC hB hx (decide_eq_true (by omega)) (decide_eq_false (by omega)) hp hp1 (decide_eq_false (by omega)) (decide_eq_false (by omega))
  · rw [Num.clampI_in hx hx1] at hC hB hsub
    rw [show Num.clampI a + Num.clampI b - Num.clampI b = Num.clampI a by omega, Num.clampI_in bX.1 bX.2] at hsub
    rcases (show Num.clampI a * Num.clampI b < -1000000 ∨ 1000000 < Num.clampI a * Num.clampI b ∨ (-1000000 ≤ Num.clampI a * Num.clampI b ∧ Num.clampI a * Num.clampI b ≤ 1000000) by omega) with hp | hp | ⟨hp, hp1⟩
    · exact satInLow _ _ _ _ _ _ _ _ w hE hC hB hx hx1 (decide_eq_true hx) (decide_eq_true hx1) (Lib.hid hsub) hp (decide_eq_true hp)
    · exact satInHigh _ _ _ _ _ _ _ _ w hE hC hB hx hx1 (decide_eq_true hx) (decide_eq_true hx1) (Lib.hid hsub) hp (decide_eq_false (by omega)) (decide_eq_true hp)
    · rw [Num.clampI_in hp hp1] at hC hB
      exact satInIn _ _ _ _ _ _ _ w hE hC hB hx hx1 (decide_eq_true hx) (decide_eq_true hx1) (Lib.hid hsub) hp hp1 (decide_eq_false (by omega)) (decide_eq_false (by omega))
end Go.Proofs.YtbobapnenadopaaDoor
