/-
  THE LAWS OF LAYER 12: the chapter's examples, names, Kind against Name. By an AI agent.
-/
import Derived.Test.YtgljibplhiabgaaDoorCtrNames
import Derived.Test.YtgljibplhiabgaaDoorCtrEq
import Derived.Deep.RegionHeld3
namespace Go.Proofs.YtgljibplhiabgaaDoor
open Go.RowKit

theorem cancel_327 : Ctr.cancelT ⟨3, 2, 7⟩ = ⟨1, 0, 7⟩ ∧ Ctr.pairsT ⟨3, 2, 7⟩ = 2 := ⟨rfl, rfl⟩
theorem kind_charge : Ctr.kindI [99, 104, 97, 114, 103, 101] = 2 ∧ Ctr.kindB [99, 104, 97, 114, 103, 101] = true := by decide
theorem aliveCancel (w : World) :
    Calls Tryd.prog 20 #[.agg #[.int .i64 3, .int .i64 2, .int .i64 7]] w fun e w' => e = .returned (.tuple #[.agg #[.int .i64 1, .int .i64 0, .int .i64 7], .int .i64 2]) ∧ Below w.heap.size w w' := by
  have h := counterCancel ⟨3, 2, 7⟩ w
  rw [cancel_327.1, cancel_327.2] at h
  exact h
theorem aliveKind (w : World) (hE : Env w) :
    Calls Tryd.prog 10 #[.string ⟨#[99, 104, 97, 114, 103, 101]⟩] w fun e w' => e = .returned (.tuple #[.int .i64 2, .bool true]) ∧ w = w' := by
  have h := counterKind ⟨#[99, 104, 97, 114, 103, 101]⟩ w hE
  rw [show (⟨#[99, 104, 97, 114, 103, 101]⟩ : ByteArray).data.toList = [99, 104, 97, 114, 103, 101] from rfl, kind_charge.1, kind_charge.2] at h
  exact h
theorem aliveName (w : World) (hE : Env w) :
    Calls Tryd.prog 14 #[.int .i64 1] w fun e w' => e = .returned (.string ⟨#[109, 105, 110, 117, 115]⟩) ∧ w = w' := counterName 1 w hE
theorem power_139 : Ctr.powT ⟨1, 3, 9⟩ = -2 := rfl
theorem alivePower (w : World) :
    Calls Tryd.prog 22 #[.agg #[.int .i64 1, .int .i64 3, .int .i64 9]] w fun e w' => e = .returned (.int .i64 (-2)) ∧ Below w.heap.size w w' := by
  have h := counterPower ⟨1, 3, 9⟩ w
  rw [power_139] at h
  exact h
theorem add_100 : Ctr.addT ⟨1, 0, 0⟩ 0 (-5) = ⟨0, 0, 0⟩ := rfl
theorem aliveAdd (w : World) :
    Calls Tryd.prog 16 #[.agg #[.int .i64 1, .int .i64 0, .int .i64 0], .int .i64 0, .int .i64 (-5)] w fun e w' => e = .returned (.agg #[.int .i64 0, .int .i64 0, .int .i64 0]) ∧ Below w.heap.size w w' := by
  have h := counterAdd ⟨1, 0, 0⟩ 0 (-5) w
  rw [add_100] at h
  exact h
set_option maxHeartbeats 1000000 in
set_option maxRecDepth 100000 in
theorem counterAlive (w : World) (hE : Env w) :
    Calls Tryd.prog 9 #[] w fun e w' => e = .returned (.bool true) ∧ Below w.heap.size w w' := by
  have HE := Lib.hid hE
  have q1 : ∀ W : World, (Op.equalIn 10000 22 (.agg #[.int .i64 1, .int .i64 0, .int .i64 7]) (.agg #[.int .i64 1, .int .i64 0, .int .i64 7])).run Tryd.prog W = .ok true W := fun W => run_eq_same ⟨1, 0, 7⟩ W
  have q2 : ∀ W : World, (Op.equalIn 10000 22 (.agg #[.int .i64 0, .int .i64 0, .int .i64 0]) (.agg #[.int .i64 0, .int .i64 0, .int .i64 0])).run Tryd.prog W = .ok true W := fun W => run_eq_same ⟨0, 0, 0⟩ W
  clear hE
  go_enter Tryd.func9, Tryd.ntmps9
  go_wp2_with fail
  refine (aliveCancel _).mono ?_
  rintro e w1 ⟨rfl, hb1⟩
  have B1 := Lib.hid (hb1.alloc hb1.size (.cells #[.int .i64 1, .int .i64 0, .int .i64 7] 22))
  have c1 := (Blk.new w1 #[.int .i64 1, .int .i64 0, .int .i64 7] 22).cell
  clear hb1
  go_wp2_with fail
  refine (aliveKind _ (HE.out.below B1.out)).mono ?_
  rintro e w2 ⟨rfl, rfl⟩
  go_wp2_with fail
  refine (aliveName _ (HE.out.below B1.out)).mono ?_
  rintro e w2 ⟨rfl, rfl⟩
  go_wp2_with fail
  refine (alivePower _).mono ?_
  rintro e w2 ⟨rfl, hb2⟩
  have B2 := Lib.hid (B1.out.trans (hb2.mono B1.out.size))
  clear hb2 c1
  go_wp2_with fail
  refine (aliveAdd _).mono ?_
  rintro e w3 ⟨rfl, hb3⟩
  have B3 := Lib.hid (B2.out.trans (hb3.mono B2.out.size))
  clear hb3
  go_wp2_with fail
  go_ret
  exact ⟨rfl, B3.out⟩
set_option maxHeartbeats 1000000 in
set_option maxRecDepth 100000 in
theorem lawCounterKinds (k : Int) (w : World) (hE : Env w) :
    Calls Tryd.prog 8 #[.int .i64 k] w fun e w' => e = .returned (.bool true) ∧ Below w.heap.size w w' := by
  have HE := Lib.hid hE
  by_cases ho : k < 0 ∨ 3 ≤ k
  · have G1 : Hid (∀ w, Env w → Calls Tryd.prog 14 #[.int .i64 k] w fun e w' => e = .returned (.string ⟨#[]⟩) ∧ w = w') := Lib.hid (fun w hE => by have h := counterName k w hE; rw [Ctr.nameI_out ho] at h; exact h)
    have G2 : Hid (∀ w, Env w → Calls Tryd.prog 10 #[.string ⟨#[]⟩] w fun e w' => e = .returned (.tuple #[.int .i64 0, .bool false]) ∧ w = w') := Lib.hid (fun w hE => by have h := counterKind ⟨#[]⟩ w hE; rw [show (⟨#[]⟩ : ByteArray).data.toList = [] from rfl, Ctr.kind_nil.1, Ctr.kind_nil.2] at h; exact h)
    clear hE
    rcases ho with ho | ho
    all_goals
      go_enter Tryd.func8, Tryd.ntmps8
      go_wp2_with fail
      refine (G1.out _ HE.out).mono ?_
      rintro e w1 ⟨rfl, rfl⟩
      go_wp2_with fail
      refine (G2.out _ HE.out).mono ?_
      rintro e w1 ⟨rfl, rfl⟩
      go_wp2_with fail
      refine (G1.out _ HE.out).mono ?_
      rintro e w1 ⟨rfl, rfl⟩
      go_wp2_with fail
      refine (counterAlive _ HE.out).mono ?_
      rintro e w1 ⟨rfl, hb⟩
      go_wp2_with fail
      go_ret
      exact ⟨rfl, hb⟩
  · obtain ⟨j, rfl⟩ : ∃ j : Nat, k = (j : Int) := ⟨k.toNat, by omega⟩
    have hj : j < 3 := by omega
    obtain ⟨sx, hsx, ex⟩ := exists_bytes (Ctr.name j)
    have G1 : Hid (∀ w, Env w → Calls Tryd.prog 14 #[.int .i64 (j : Int)] w fun e w' => e = .returned (.string sx) ∧ w = w') := Lib.hid (fun w hE => by have h := counterName (j : Int) w hE; rw [Ctr.nameI_nat, ex] at h; exact h)
    have G2 : Hid (∀ w, Env w → Calls Tryd.prog 10 #[.string sx] w fun e w' => e = .returned (.tuple #[.int .i64 (j : Int), .bool true]) ∧ w = w') := Lib.hid (fun w hE => by have h := counterKind sx w hE; rw [hsx, (Ctr.kind_name j hj).1, (Ctr.kind_name j hj).2] at h; exact h)
    have h0 : ¬ (j : Int) < 0 := by omega
    have h1 : ¬ (3 : Int) ≤ (j : Int) := by omega
    clear hE ho hsx ex
    go_enter Tryd.func8, Tryd.ntmps8
    go_wp2_with fail
    refine (G1.out _ HE.out).mono ?_
    rintro e w1 ⟨rfl, rfl⟩
    go_wp2_with fail
    refine (G2.out _ HE.out).mono ?_
    rintro e w1 ⟨rfl, rfl⟩
    go_wp2_with fail
    refine (counterAlive _ HE.out).mono ?_
    rintro e w1 ⟨rfl, hb⟩
    go_wp2_with fail
    go_ret
    exact ⟨rfl, hb⟩
end Go.Proofs.YtgljibplhiabgaaDoor
