/-
  CONTRACT OF LAYER 13 (filter): Parse, one of three ways. By an AI agent.
-/
import Derived.Test.YtboealolklojiaaDoorFilKit
import Derived.Deep.Cut
namespace Go.Proofs.YtboealolklojiaaDoor
open Go.RowKit
open Wd (Bs)

set_option maxHeartbeats 8000000 in
set_option maxRecDepth 100000 in
theorem parseBadA (s : ByteArray) (w : World) (hE : Env w) (a : Fil.Acc) (fs : ByteArray) (HR : Hid (∀ W, Env W → Calls Tryd.prog 22 #[.string s] W fun e w' => e = .returned (.agg #[.int .i64 (a.zone : Int), .int .i64 (a.who : Int), .int .i64 (a.self : Int), .int .i64 (a.types : Int), .int .i64 (a.ntypes : Int), .int .i64 (a.colors : Int), .int .i64 (a.ncolors : Int), .string fs, .int .i64 (a.keys : Int), .int .i64 (a.tap : Int), .int .i64 a.pow.kind, .int .i64 a.pow.n, .int .i64 a.tough.kind, .int .i64 a.tough.n, .int .i64 a.val.kind, .int .i64 a.val.n]) ∧ Below W.heap.size W w')) (HIS : Hid (∀ W, Env W → Calls Tryd.prog 9 #[.agg #[.int .i64 (a.zone : Int), .int .i64 (a.who : Int), .int .i64 (a.self : Int), .int .i64 (a.types : Int), .int .i64 (a.ntypes : Int), .int .i64 (a.colors : Int), .int .i64 (a.ncolors : Int), .string fs, .int .i64 (a.keys : Int), .int .i64 (a.tap : Int), .int .i64 a.pow.kind, .int .i64 a.pow.n, .int .i64 a.tough.kind, .int .i64 a.tough.n, .int .i64 a.val.kind, .int .i64 a.val.n]] W fun e w' => e = .returned (.bool false) ∧ Below W.heap.size W w')) :
    Calls Tryd.prog 8 #[.string s] w fun e w' => e = .returned (.tuple #[.agg #[.int .i64 0, .int .i64 0, .int .i64 0, .int .i64 0, .int .i64 0, .int .i64 0, .int .i64 0, .string ⟨#[]⟩, .int .i64 0, .int .i64 0, .int .i64 0, .int .i64 0, .int .i64 0, .int .i64 0, .int .i64 0, .int .i64 0], .int .i64 3]) ∧ Below w.heap.size w w' := by
  obtain ⟨w0, hw0⟩ : ∃ w0, w0 = w.alloc (.cells #[.int .i64 0, .int .i64 0, .int .i64 0, .int .i64 0, .int .i64 0, .int .i64 0, .int .i64 0, .string ⟨#[]⟩, .int .i64 0, .int .i64 0, .int .i64 0, .int .i64 0, .int .i64 0, .int .i64 0, .int .i64 0, .int .i64 0] 25) := ⟨_, rfl⟩
  have hb0 : Below w.heap.size w w0 := by rw [hw0]; exact (Below.refl _ _).alloc (Nat.le_refl _) _
  have k0 : Blk w0 w.heap.size #[.int .i64 0, .int .i64 0, .int .i64 0, .int .i64 0, .int .i64 0, .int .i64 0, .int .i64 0, .string ⟨#[]⟩, .int .i64 0, .int .i64 0, .int .i64 0, .int .i64 0, .int .i64 0, .int .i64 0, .int .i64 0, .int .i64 0] 25 := by rw [hw0]; exact Blk.new w _ _
  have hcall := HR.out w0 (hE.below hb0)
  have HCALL := Lib.hid hcall
  have HE := Lib.hid (fun (W : World) (hb : Below w0.heap.size w0 W) => (hE.below hb0).below hb)
  have HB0 := Lib.hid hb0
  have K0 := Lib.hid k0
  have HL := Lib.hid (show w.heap.size < w0.heap.size from k0.lt)
  clear hE hb0 k0 hcall HR
  go_enter Tryd.func8, Tryd.ntmps8
  go_wp2_with fail
  rw [← hw0]
  clear hw0
  refine HCALL.out.mono ?_
  rintro e w1 ⟨rfl, hb1⟩
  have BX : Hid (Below w0.heap.size w0 (w1.alloc (.cells #[.int .i64 (a.zone : Int), .int .i64 (a.who : Int), .int .i64 (a.self : Int), .int .i64 (a.types : Int), .int .i64 (a.ntypes : Int), .int .i64 (a.colors : Int), .int .i64 (a.ncolors : Int), .string fs, .int .i64 (a.keys : Int), .int .i64 (a.tap : Int), .int .i64 a.pow.kind, .int .i64 a.pow.n, .int .i64 a.tough.kind, .int .i64 a.tough.n, .int .i64 a.val.kind, .int .i64 a.val.n] 25))) := Lib.hid (hb1.trans ((Below.refl _ _).alloc hb1.size _))
  have KX : Hid (Blk (w1.alloc (.cells #[.int .i64 (a.zone : Int), .int .i64 (a.who : Int), .int .i64 (a.self : Int), .int .i64 (a.types : Int), .int .i64 (a.ntypes : Int), .int .i64 (a.colors : Int), .int .i64 (a.ncolors : Int), .string fs, .int .i64 (a.keys : Int), .int .i64 (a.tap : Int), .int .i64 a.pow.kind, .int .i64 a.pow.n, .int .i64 a.tough.kind, .int .i64 a.tough.n, .int .i64 a.val.kind, .int .i64 a.val.n] 25)) w1.heap.size #[.int .i64 (a.zone : Int), .int .i64 (a.who : Int), .int .i64 (a.self : Int), .int .i64 (a.types : Int), .int .i64 (a.ntypes : Int), .int .i64 (a.colors : Int), .int .i64 (a.ncolors : Int), .string fs, .int .i64 (a.keys : Int), .int .i64 (a.tap : Int), .int .i64 a.pow.kind, .int .i64 a.pow.n, .int .i64 a.tough.kind, .int .i64 a.tough.n, .int .i64 a.val.kind, .int .i64 a.val.n] 25) := Lib.hid (Blk.new w1 _ _)
  clear hb1
  go_wp2_with fail
  obtain ⟨w2, hw2⟩ : ∃ w2, w2 = w1.alloc (.cells #[.int .i64 (a.zone : Int), .int .i64 (a.who : Int), .int .i64 (a.self : Int), .int .i64 (a.types : Int), .int .i64 (a.ntypes : Int), .int .i64 (a.colors : Int), .int .i64 (a.ncolors : Int), .string fs, .int .i64 (a.keys : Int), .int .i64 (a.tap : Int), .int .i64 a.pow.kind, .int .i64 a.pow.n, .int .i64 a.tough.kind, .int .i64 a.tough.n, .int .i64 a.val.kind, .int .i64 a.val.n] 25) := ⟨_, rfl⟩
  obtain ⟨F, hF⟩ : ∃ F, F = w1.heap.size := ⟨_, rfl⟩
  rw [← hw2] at BX KX ⊢
  rw [← hF] at KX ⊢
  clear hw2 hF
  refine (HIS.out _ (HE.out _ BX.out)).mono ?_
  rintro e w3 ⟨rfl, hb3⟩
  have B3 := Lib.hid (BX.out.trans (hb3.mono BX.out.size))
  have K3 := Lib.hid (KX.out.below hb3 KX.out.lt)
  clear hb3 BX KX
  generalize Value.agg #[.int .i64 (a.zone : Int), .int .i64 (a.who : Int), .int .i64 (a.self : Int), .int .i64 (a.types : Int), .int .i64 (a.ntypes : Int), .int .i64 (a.colors : Int), .int .i64 (a.ncolors : Int), .string fs, .int .i64 (a.keys : Int), .int .i64 (a.tap : Int), .int .i64 a.pow.kind, .int .i64 a.pow.n, .int .i64 a.tough.kind, .int .i64 a.tough.n, .int .i64 a.val.kind, .int .i64 a.val.n] = vA
  have kr := K0.out.below B3.out HL.out
  have KR := Lib.hid kr
  have z0 := kr.free 0
  have y0 : w3.cell? ⟨w.heap.size, 0, none⟩ = some (.int .i64 0) := kr.cell 0
  have z1 := kr.free 1
  have y1 : w3.cell? ⟨w.heap.size, 1, none⟩ = some (.int .i64 0) := kr.cell 1
  have z2 := kr.free 2
  have y2 : w3.cell? ⟨w.heap.size, 2, none⟩ = some (.int .i64 0) := kr.cell 2
  have z3 := kr.free 3
  have y3 : w3.cell? ⟨w.heap.size, 3, none⟩ = some (.int .i64 0) := kr.cell 3
  have z4 := kr.free 4
  have y4 : w3.cell? ⟨w.heap.size, 4, none⟩ = some (.int .i64 0) := kr.cell 4
  have z5 := kr.free 5
  have y5 : w3.cell? ⟨w.heap.size, 5, none⟩ = some (.int .i64 0) := kr.cell 5
  have z6 := kr.free 6
  have y6 : w3.cell? ⟨w.heap.size, 6, none⟩ = some (.int .i64 0) := kr.cell 6
  have z7 := kr.free 7
  have y7 : w3.cell? ⟨w.heap.size, 7, none⟩ = some (.string ⟨#[]⟩) := kr.cell 7
  have z8 := kr.free 8
  have y8 : w3.cell? ⟨w.heap.size, 8, none⟩ = some (.int .i64 0) := kr.cell 8
  have z9 := kr.free 9
  have y9 : w3.cell? ⟨w.heap.size, 9, none⟩ = some (.int .i64 0) := kr.cell 9
  have z10 := kr.free 10
  have y10 : w3.cell? ⟨w.heap.size, 10, none⟩ = some (.int .i64 0) := kr.cell 10
  have z11 := kr.free 11
  have y11 : w3.cell? ⟨w.heap.size, 11, none⟩ = some (.int .i64 0) := kr.cell 11
  have z12 := kr.free 12
  have y12 : w3.cell? ⟨w.heap.size, 12, none⟩ = some (.int .i64 0) := kr.cell 12
  have z13 := kr.free 13
  have y13 : w3.cell? ⟨w.heap.size, 13, none⟩ = some (.int .i64 0) := kr.cell 13
  have z14 := kr.free 14
  have y14 : w3.cell? ⟨w.heap.size, 14, none⟩ = some (.int .i64 0) := kr.cell 14
  have z15 := kr.free 15
  have y15 : w3.cell? ⟨w.heap.size, 15, none⟩ = some (.int .i64 0) := kr.cell 15
  clear kr
  go_wp2_with fail
  change bodyPost _ _ _ _ _ (zero16 w3 w.heap.size)
  have hB : Blk (zero16 w3 w.heap.size) w.heap.size #[.int .i64 0, .int .i64 0, .int .i64 0, .int .i64 0, .int .i64 0, .int .i64 0, .int .i64 0, .string ⟨#[]⟩, .int .i64 0, .int .i64 0, .int .i64 0, .int .i64 0, .int .i64 0, .int .i64 0, .int .i64 0, .int .i64 0] 25 := KR.out.zero16
  have hBel : Hid (Below w.heap.size w (zero16 w3 w.heap.size)) := Lib.hid (below_zero16 (HB0.out.trans (B3.out.mono HB0.out.size)) (Nat.le_refl _))
  generalize zero16 w3 w.heap.size = wf at hB hBel ⊢
  have q0 : wf.cell? ⟨w.heap.size, 0, none⟩ = some (.int .i64 0) := hB.cell 0
  have q1 : wf.cell? ⟨w.heap.size, 1, none⟩ = some (.int .i64 0) := hB.cell 1
  have q2 : wf.cell? ⟨w.heap.size, 2, none⟩ = some (.int .i64 0) := hB.cell 2
  have q3 : wf.cell? ⟨w.heap.size, 3, none⟩ = some (.int .i64 0) := hB.cell 3
  have q4 : wf.cell? ⟨w.heap.size, 4, none⟩ = some (.int .i64 0) := hB.cell 4
  have q5 : wf.cell? ⟨w.heap.size, 5, none⟩ = some (.int .i64 0) := hB.cell 5
  have q6 : wf.cell? ⟨w.heap.size, 6, none⟩ = some (.int .i64 0) := hB.cell 6
  have q7 : wf.cell? ⟨w.heap.size, 7, none⟩ = some (.string ⟨#[]⟩) := hB.cell 7
  have q8 : wf.cell? ⟨w.heap.size, 8, none⟩ = some (.int .i64 0) := hB.cell 8
  have q9 : wf.cell? ⟨w.heap.size, 9, none⟩ = some (.int .i64 0) := hB.cell 9
  have q10 : wf.cell? ⟨w.heap.size, 10, none⟩ = some (.int .i64 0) := hB.cell 10
  have q11 : wf.cell? ⟨w.heap.size, 11, none⟩ = some (.int .i64 0) := hB.cell 11
  have q12 : wf.cell? ⟨w.heap.size, 12, none⟩ = some (.int .i64 0) := hB.cell 12
  have q13 : wf.cell? ⟨w.heap.size, 13, none⟩ = some (.int .i64 0) := hB.cell 13
  have q14 : wf.cell? ⟨w.heap.size, 14, none⟩ = some (.int .i64 0) := hB.cell 14
  have q15 : wf.cell? ⟨w.heap.size, 15, none⟩ = some (.int .i64 0) := hB.cell 15
  clear z0 y0 z1 y1 z2 y2 z3 y3 z4 y4 z5 y5 z6 y6 z7 y7 z8 y8 z9 y9 z10 y10 z11 y11 z12 y12 z13 y13 z14 y14 z15 y15
  exact bodyPost_ret (v := .tuple #[.agg #[.int .i64 0, .int .i64 0, .int .i64 0, .int .i64 0, .int .i64 0, .int .i64 0, .int .i64 0, .string ⟨#[]⟩, .int .i64 0, .int .i64 0, .int .i64 0, .int .i64 0, .int .i64 0, .int .i64 0, .int .i64 0, .int .i64 0], .int .i64 3]) (by simp [results, Tryd.results8, go_sem, q0, q1, q2, q3, q4, q5, q6, q7, q8, q9, q10, q11, q12, q13, q14, q15]) rfl ⟨rfl, hBel.out⟩

end Go.Proofs.YtboealolklojiaaDoor
