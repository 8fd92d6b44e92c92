/-
  THE LAWS OF LAYER 13: alive. By an AI agent.
-/
import Derived.Test.YtboealolklojiaaDoorFilAliveA
import Derived.Deep.Cut
namespace Go.Proofs.YtboealolklojiaaDoor
open Go.RowKit
open Wd (Bs)

set_option maxHeartbeats 16000000 in
set_option maxRecDepth 100000 in
theorem filAlive (w : World) (hE : Env w) : Calls Tryd.prog 6 #[] w fun e w' => e = .returned (.bool true) ∧ Below w.heap.size w w' := by
  have HE := Lib.hid (fun (W : World) (hb : Below w.heap.size w W) => hE.below hb)
  have Q1 : Hid (∀ W : World, (Op.equalIn 10000 23 (.agg #[.int .i64 1, .int .i64 3]) (.agg #[.int .i64 1, .int .i64 3])).run Tryd.prog W = .ok true W) := Lib.hid (fun W => run_eq_bd 9998 ⟨1, 3⟩ ⟨1, 3⟩ W)
  have q2 : ∀ W : World, (Op.equalIn 10000 25 (.agg #[.int .i64 0, .int .i64 0, .int .i64 0, .int .i64 0, .int .i64 0, .int .i64 0, .int .i64 0, .string ⟨#[]⟩, .int .i64 0, .int .i64 0, .int .i64 0, .int .i64 0, .int .i64 0, .int .i64 0, .int .i64 0, .int .i64 0]) (.agg #[.int .i64 0, .int .i64 0, .int .i64 0, .int .i64 0, .int .i64 0, .int .i64 0, .int .i64 0, .string ⟨#[]⟩, .int .i64 0, .int .i64 0, .int .i64 0, .int .i64 0, .int .i64 0, .int .i64 0, .int .i64 0, .int .i64 0])).run Tryd.prog W = .ok true W := fun W => run_eq_flt Fil.zero Fil.zero ⟨#[]⟩ ⟨#[]⟩ rfl rfl W
  clear hE
  go_enter Tryd.func6, Tryd.ntmps6
  go_wp2_with fail
  refine (aliveP1 _ (HE.out _ (Below.refl _ _))).mono ?_
  rintro e w1 ⟨rfl, hb1⟩
  have B1 : Hid (Below w.heap.size w (w1.alloc (.cells #[.int .i64 0, .int .i64 1, .int .i64 2, .int .i64 1, .int .i64 0, .int .i64 0, .int .i64 0, .string ⟨#[]⟩, .int .i64 1, .int .i64 0, .int .i64 1, .int .i64 3, .int .i64 0, .int .i64 0, .int .i64 0, .int .i64 0] 25))) := Lib.hid (hb1.trans ((Below.refl _ _).alloc hb1.size _))
  have K1 : Hid (Blk (w1.alloc (.cells #[.int .i64 0, .int .i64 1, .int .i64 2, .int .i64 1, .int .i64 0, .int .i64 0, .int .i64 0, .string ⟨#[]⟩, .int .i64 1, .int .i64 0, .int .i64 1, .int .i64 3, .int .i64 0, .int .i64 0, .int .i64 0, .int .i64 0] 25)) w1.heap.size #[.int .i64 0, .int .i64 1, .int .i64 2, .int .i64 1, .int .i64 0, .int .i64 0, .int .i64 0, .string ⟨#[]⟩, .int .i64 1, .int .i64 0, .int .i64 1, .int .i64 3, .int .i64 0, .int .i64 0, .int .i64 0, .int .i64 0] 25) := Lib.hid (Blk.new w1 _ _)
  clear hb1
  go_upto_region 3 with fail
  obtain ⟨w2, hw2⟩ : ∃ w2, w2 = w1.alloc (.cells #[.int .i64 0, .int .i64 1, .int .i64 2, .int .i64 1, .int .i64 0, .int .i64 0, .int .i64 0, .string ⟨#[]⟩, .int .i64 1, .int .i64 0, .int .i64 1, .int .i64 3, .int .i64 0, .int .i64 0, .int .i64 0, .int .i64 0] 25) := ⟨_, rfl⟩
  obtain ⟨F1, hF1⟩ : ∃ F1, F1 = w1.heap.size := ⟨_, rfl⟩
  rw [← hw2] at B1 K1 ⊢
  rw [← hF1] at K1 ⊢
  clear hw2 hF1
  generalize Value.agg #[.int .i64 0, .int .i64 1, .int .i64 2, .int .i64 1, .int .i64 0, .int .i64 0, .int .i64 0, .string ⟨#[]⟩, .int .i64 1, .int .i64 0, .int .i64 1, .int .i64 3, .int .i64 0, .int .i64 0, .int .i64 0, .int .i64 0] = vA
  go_wp2_with fail
  refine (aliveP2 _ (HE.out _ B1.out)).mono ?_
  rintro e w3 ⟨rfl, hb3⟩
  have B3 : Hid (Below w.heap.size w (w3.alloc (.cells #[.int .i64 0, .int .i64 0, .int .i64 0, .int .i64 0, .int .i64 0, .int .i64 0, .int .i64 0, .string ⟨#[]⟩, .int .i64 0, .int .i64 0, .int .i64 0, .int .i64 0, .int .i64 0, .int .i64 0, .int .i64 0, .int .i64 0] 25))) := Lib.hid ((B1.out.trans (hb3.mono B1.out.size)).trans ((Below.refl _ _).alloc (Nat.le_trans B1.out.size hb3.size) _))
  have K3 : Hid (Blk (w3.alloc (.cells #[.int .i64 0, .int .i64 0, .int .i64 0, .int .i64 0, .int .i64 0, .int .i64 0, .int .i64 0, .string ⟨#[]⟩, .int .i64 0, .int .i64 0, .int .i64 0, .int .i64 0, .int .i64 0, .int .i64 0, .int .i64 0, .int .i64 0] 25)) w3.heap.size #[.int .i64 0, .int .i64 0, .int .i64 0, .int .i64 0, .int .i64 0, .int .i64 0, .int .i64 0, .string ⟨#[]⟩, .int .i64 0, .int .i64 0, .int .i64 0, .int .i64 0, .int .i64 0, .int .i64 0, .int .i64 0, .int .i64 0] 25) := Lib.hid (Blk.new w3 _ _)
  have J3 : Hid (Blk (w3.alloc (.cells #[.int .i64 0, .int .i64 0, .int .i64 0, .int .i64 0, .int .i64 0, .int .i64 0, .int .i64 0, .string ⟨#[]⟩, .int .i64 0, .int .i64 0, .int .i64 0, .int .i64 0, .int .i64 0, .int .i64 0, .int .i64 0, .int .i64 0] 25)) F1 #[.int .i64 0, .int .i64 1, .int .i64 2, .int .i64 1, .int .i64 0, .int .i64 0, .int .i64 0, .string ⟨#[]⟩, .int .i64 1, .int .i64 0, .int .i64 1, .int .i64 3, .int .i64 0, .int .i64 0, .int .i64 0, .int .i64 0] 25) := Lib.hid ((K1.out.below hb3 K1.out.lt).alloc _)
  clear hb3 K1 B1
  go_upto_region 4 with fail
  obtain ⟨w4, hw4⟩ : ∃ w4, w4 = w3.alloc (.cells #[.int .i64 0, .int .i64 0, .int .i64 0, .int .i64 0, .int .i64 0, .int .i64 0, .int .i64 0, .string ⟨#[]⟩, .int .i64 0, .int .i64 0, .int .i64 0, .int .i64 0, .int .i64 0, .int .i64 0, .int .i64 0, .int .i64 0] 25) := ⟨_, rfl⟩
  obtain ⟨F2, hF2⟩ : ∃ F2, F2 = w3.heap.size := ⟨_, rfl⟩
  rw [← hw4] at B3 K3 J3 ⊢
  rw [← hF2] at K3 ⊢
  clear hw4 hF2
  generalize Value.agg #[.int .i64 0, .int .i64 0, .int .i64 0, .int .i64 0, .int .i64 0, .int .i64 0, .int .i64 0, .string ⟨#[]⟩, .int .i64 0, .int .i64 0, .int .i64 0, .int .i64 0, .int .i64 0, .int .i64 0, .int .i64 0, .int .i64 0] = vB
  go_wp2_with fail
  refine (aliveP3 _ (HE.out _ B3.out)).mono ?_
  rintro e w5 ⟨rfl, hb5⟩
  have B5 : Hid (Below w.heap.size w (w5.alloc (.cells #[.int .i64 0, .int .i64 0, .int .i64 0, .int .i64 0, .int .i64 0, .int .i64 0, .int .i64 0, .string ⟨#[]⟩, .int .i64 0, .int .i64 0, .int .i64 0, .int .i64 0, .int .i64 0, .int .i64 0, .int .i64 0, .int .i64 0] 25))) := Lib.hid ((B3.out.trans (hb5.mono B3.out.size)).trans ((Below.refl _ _).alloc (Nat.le_trans B3.out.size hb5.size) _))
  have K5 : Hid (Blk (w5.alloc (.cells #[.int .i64 0, .int .i64 0, .int .i64 0, .int .i64 0, .int .i64 0, .int .i64 0, .int .i64 0, .string ⟨#[]⟩, .int .i64 0, .int .i64 0, .int .i64 0, .int .i64 0, .int .i64 0, .int .i64 0, .int .i64 0, .int .i64 0] 25)) F2 #[.int .i64 0, .int .i64 0, .int .i64 0, .int .i64 0, .int .i64 0, .int .i64 0, .int .i64 0, .string ⟨#[]⟩, .int .i64 0, .int .i64 0, .int .i64 0, .int .i64 0, .int .i64 0, .int .i64 0, .int .i64 0, .int .i64 0] 25) := Lib.hid ((K3.out.below hb5 K3.out.lt).alloc _)
  have J5 : Hid (Blk (w5.alloc (.cells #[.int .i64 0, .int .i64 0, .int .i64 0, .int .i64 0, .int .i64 0, .int .i64 0, .int .i64 0, .string ⟨#[]⟩, .int .i64 0, .int .i64 0, .int .i64 0, .int .i64 0, .int .i64 0, .int .i64 0, .int .i64 0, .int .i64 0] 25)) F1 #[.int .i64 0, .int .i64 1, .int .i64 2, .int .i64 1, .int .i64 0, .int .i64 0, .int .i64 0, .string ⟨#[]⟩, .int .i64 1, .int .i64 0, .int .i64 1, .int .i64 3, .int .i64 0, .int .i64 0, .int .i64 0, .int .i64 0] 25) := Lib.hid ((J3.out.below hb5 J3.out.lt).alloc _)
  clear hb5 K3 B3 J3
  go_upto_region 5 with fail
  obtain ⟨w6, hw6⟩ : ∃ w6, w6 = w5.alloc (.cells #[.int .i64 0, .int .i64 0, .int .i64 0, .int .i64 0, .int .i64 0, .int .i64 0, .int .i64 0, .string ⟨#[]⟩, .int .i64 0, .int .i64 0, .int .i64 0, .int .i64 0, .int .i64 0, .int .i64 0, .int .i64 0, .int .i64 0] 25) := ⟨_, rfl⟩
  obtain ⟨F3, hF3⟩ : ∃ F3, F3 = w5.heap.size := ⟨_, rfl⟩
  rw [← hw6] at B5 K5 J5 ⊢
  rw [← hF3]
  clear hw6 hF3
  generalize Value.agg #[.int .i64 0, .int .i64 0, .int .i64 0, .int .i64 0, .int .i64 0, .int .i64 0, .int .i64 0, .string ⟨#[]⟩, .int .i64 0, .int .i64 0, .int .i64 0, .int .i64 0, .int .i64 0, .int .i64 0, .int .i64 0, .int .i64 0] = vC
  have y0 : w6.cell? ⟨F1, 0, none⟩ = some (.int .i64 0) := J5.out.cell 0
  have y1 : w6.cell? ⟨F1, 1, none⟩ = some (.int .i64 1) := J5.out.cell 1
  have y2 : w6.cell? ⟨F1, 2, none⟩ = some (.int .i64 2) := J5.out.cell 2
  have y3 : w6.cell? ⟨F1, 3, none⟩ = some (.int .i64 1) := J5.out.cell 3
  have y4 : w6.cell? ⟨F1, 4, none⟩ = some (.int .i64 0) := J5.out.cell 4
  have y5 : w6.cell? ⟨F1, 5, none⟩ = some (.int .i64 0) := J5.out.cell 5
  have y6 : w6.cell? ⟨F1, 6, none⟩ = some (.int .i64 0) := J5.out.cell 6
  have y7 : w6.cell? ⟨F1, 7, none⟩ = some (.string ⟨#[]⟩) := J5.out.cell 7
  have y8 : w6.cell? ⟨F1, 8, none⟩ = some (.int .i64 1) := J5.out.cell 8
  have y9 : w6.cell? ⟨F1, 9, none⟩ = some (.int .i64 0) := J5.out.cell 9
  have y10 : w6.cell? ⟨F1, 10, none⟩ = some (.int .i64 1) := J5.out.cell 10
  have y11 : w6.cell? ⟨F1, 11, none⟩ = some (.int .i64 3) := J5.out.cell 11
  have y12 : w6.cell? ⟨F1, 12, none⟩ = some (.int .i64 0) := J5.out.cell 12
  have y13 : w6.cell? ⟨F1, 13, none⟩ = some (.int .i64 0) := J5.out.cell 13
  have y14 : w6.cell? ⟨F1, 14, none⟩ = some (.int .i64 0) := J5.out.cell 14
  have y15 : w6.cell? ⟨F1, 15, none⟩ = some (.int .i64 0) := J5.out.cell 15
  go_wp2_with fail
  clear y0 y1 y2 y3 y4 y5 y6 y7 y8 y9 y10 y11 y12 y13 y14 y15
  refine (aliveTx _ (HE.out _ B5.out)).mono ?_
  rintro e w7 ⟨rfl, hb7⟩
  have B7 := Lib.hid (B5.out.trans (hb7.mono B5.out.size))
  have K7 := K5.out.below hb7 K5.out.lt
  have J7 := J5.out.below hb7 J5.out.lt
  have x1 : w7.cell? ⟨F1, 1, none⟩ = some (.int .i64 1) := J7.cell 1
  have x2 : w7.cell? ⟨F1, 2, none⟩ = some (.int .i64 2) := J7.cell 2
  have x3 : w7.cell? ⟨F1, 3, none⟩ = some (.int .i64 1) := J7.cell 3
  have x8 : w7.cell? ⟨F1, 8, none⟩ = some (.int .i64 1) := J7.cell 8
  have x10 : w7.cell? ⟨F1, 10, none⟩ = some (.int .i64 1) := J7.cell 10
  have x11 : w7.cell? ⟨F1, 11, none⟩ = some (.int .i64 3) := J7.cell 11
  have y0 : w7.cell? ⟨F2, 0, none⟩ = some (.int .i64 0) := K7.cell 0
  have y1 : w7.cell? ⟨F2, 1, none⟩ = some (.int .i64 0) := K7.cell 1
  have y2 : w7.cell? ⟨F2, 2, none⟩ = some (.int .i64 0) := K7.cell 2
  have y3 : w7.cell? ⟨F2, 3, none⟩ = some (.int .i64 0) := K7.cell 3
  have y4 : w7.cell? ⟨F2, 4, none⟩ = some (.int .i64 0) := K7.cell 4
  have y5 : w7.cell? ⟨F2, 5, none⟩ = some (.int .i64 0) := K7.cell 5
  have y6 : w7.cell? ⟨F2, 6, none⟩ = some (.int .i64 0) := K7.cell 6
  have y7 : w7.cell? ⟨F2, 7, none⟩ = some (.string ⟨#[]⟩) := K7.cell 7
  have y8 : w7.cell? ⟨F2, 8, none⟩ = some (.int .i64 0) := K7.cell 8
  have y9 : w7.cell? ⟨F2, 9, none⟩ = some (.int .i64 0) := K7.cell 9
  have y10 : w7.cell? ⟨F2, 10, none⟩ = some (.int .i64 0) := K7.cell 10
  have y11 : w7.cell? ⟨F2, 11, none⟩ = some (.int .i64 0) := K7.cell 11
  have y12 : w7.cell? ⟨F2, 12, none⟩ = some (.int .i64 0) := K7.cell 12
  have y13 : w7.cell? ⟨F2, 13, none⟩ = some (.int .i64 0) := K7.cell 13
  have y14 : w7.cell? ⟨F2, 14, none⟩ = some (.int .i64 0) := K7.cell 14
  have y15 : w7.cell? ⟨F2, 15, none⟩ = some (.int .i64 0) := K7.cell 15
  have q1 := Q1.out
  clear hb7 K7 J7 K5 J5 B5
  try generalize Value.agg #[.int .i64 0, .int .i64 1, .int .i64 2, .int .i64 1, .int .i64 0, .int .i64 0, .int .i64 0, .string ⟨#[]⟩, .int .i64 1, .int .i64 0, .int .i64 1, .int .i64 3, .int .i64 0, .int .i64 0, .int .i64 0, .int .i64 0] = vD
  go_wp2_with fail
  refine (aliveIs _ (HE.out _ B7.out)).mono ?_
  rintro e w8 ⟨rfl, hb8⟩
  have B8 := Lib.hid (B7.out.trans (hb8.mono B7.out.size))
  clear hb8 y0 y1 y2 y3 y4 y5 y6 y7 y8 y9 y10 y11 y12 y13 y14 y15 x1 x2 x3 x8 x10 x11
  go_wp2_with fail
  go_ret
  exact ⟨rfl, B8.out⟩
end Go.Proofs.YtboealolklojiaaDoor
