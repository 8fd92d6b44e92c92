/-
  CONTRACT OF LAYER 13 (filter): Parse, one of three ways. By an AI agent.
-/
import Derived.Test.YtboealolklojiaaDoorFilKit
import Derived.Deep.Cut
namespace Go.Proofs.YtboealolklojiaaDoor
open Go.RowKit
open Wd (Bs)

set_option maxHeartbeats 8000000 in
set_option maxRecDepth 100000 in
theorem parseGood (s : ByteArray) (w : World) (hE : Env w) (a : Fil.Acc) (fs : ByteArray) (HR : Hid (∀ W, Env W → Calls Tryd.prog 22 #[.string s] W fun e w' => e = .returned (.agg #[.int .i64 (a.zone : Int), .int .i64 (a.who : Int), .int .i64 (a.self : Int), .int .i64 (a.types : Int), .int .i64 (a.ntypes : Int), .int .i64 (a.colors : Int), .int .i64 (a.ncolors : Int), .string fs, .int .i64 (a.keys : Int), .int .i64 (a.tap : Int), .int .i64 a.pow.kind, .int .i64 a.pow.n, .int .i64 a.tough.kind, .int .i64 a.tough.n, .int .i64 a.val.kind, .int .i64 a.val.n]) ∧ Below W.heap.size W w')) (HIS : Hid (∀ W, Env W → Calls Tryd.prog 9 #[.agg #[.int .i64 (a.zone : Int), .int .i64 (a.who : Int), .int .i64 (a.self : Int), .int .i64 (a.types : Int), .int .i64 (a.ntypes : Int), .int .i64 (a.colors : Int), .int .i64 (a.ncolors : Int), .string fs, .int .i64 (a.keys : Int), .int .i64 (a.tap : Int), .int .i64 a.pow.kind, .int .i64 a.pow.n, .int .i64 a.tough.kind, .int .i64 a.tough.n, .int .i64 a.val.kind, .int .i64 a.val.n]] W fun e w' => e = .returned (.bool true) ∧ Below W.heap.size W w')) (tx : ByteArray) (HT2 : Hid (∀ W, Env W → Calls Tryd.prog 7 #[.agg #[.int .i64 (a.zone : Int), .int .i64 (a.who : Int), .int .i64 (a.self : Int), .int .i64 (a.types : Int), .int .i64 (a.ntypes : Int), .int .i64 (a.colors : Int), .int .i64 (a.ncolors : Int), .string fs, .int .i64 (a.keys : Int), .int .i64 (a.tap : Int), .int .i64 a.pow.kind, .int .i64 a.pow.n, .int .i64 a.tough.kind, .int .i64 a.tough.n, .int .i64 a.val.kind, .int .i64 a.val.n]] W fun e w' => e = .returned (.string tx) ∧ Below W.heap.size W w')) (ht : (tx.toList == s.toList) = true) :
    Calls Tryd.prog 8 #[.string s] w fun e w' => e = .returned (.tuple #[.agg #[.int .i64 (a.zone : Int), .int .i64 (a.who : Int), .int .i64 (a.self : Int), .int .i64 (a.types : Int), .int .i64 (a.ntypes : Int), .int .i64 (a.colors : Int), .int .i64 (a.ncolors : Int), .string fs, .int .i64 (a.keys : Int), .int .i64 (a.tap : Int), .int .i64 a.pow.kind, .int .i64 a.pow.n, .int .i64 a.tough.kind, .int .i64 a.tough.n, .int .i64 a.val.kind, .int .i64 a.val.n], .int .i64 0]) ∧ Below w.heap.size w w' := by
  obtain ⟨w0, hw0⟩ : ∃ w0, w0 = w.alloc (.cells #[.int .i64 0, .int .i64 0, .int .i64 0, .int .i64 0, .int .i64 0, .int .i64 0, .int .i64 0, .string ⟨#[]⟩, .int .i64 0, .int .i64 0, .int .i64 0, .int .i64 0, .int .i64 0, .int .i64 0, .int .i64 0, .int .i64 0] 25) := ⟨_, rfl⟩
  have hb0 : Below w.heap.size w w0 := by rw [hw0]; exact (Below.refl _ _).alloc (Nat.le_refl _) _
  have k0 : Blk w0 w.heap.size #[.int .i64 0, .int .i64 0, .int .i64 0, .int .i64 0, .int .i64 0, .int .i64 0, .int .i64 0, .string ⟨#[]⟩, .int .i64 0, .int .i64 0, .int .i64 0, .int .i64 0, .int .i64 0, .int .i64 0, .int .i64 0, .int .i64 0] 25 := by rw [hw0]; exact Blk.new w _ _
  have hcall := HR.out w0 (hE.below hb0)
  have HCALL := Lib.hid hcall
  have HE := Lib.hid (fun (W : World) (hb : Below w0.heap.size w0 W) => (hE.below hb0).below hb)
  have HB0 := Lib.hid hb0
  have K0 := Lib.hid k0
  have HL := Lib.hid (show w.heap.size < w0.heap.size from k0.lt)
  clear hE hb0 k0 hcall HR
  go_enter Tryd.func8, Tryd.ntmps8
  go_wp2_with fail
  rw [← hw0]
  clear hw0
  refine HCALL.out.mono ?_
  rintro e w1 ⟨rfl, hb1⟩
  have BX : Hid (Below w0.heap.size w0 (w1.alloc (.cells #[.int .i64 (a.zone : Int), .int .i64 (a.who : Int), .int .i64 (a.self : Int), .int .i64 (a.types : Int), .int .i64 (a.ntypes : Int), .int .i64 (a.colors : Int), .int .i64 (a.ncolors : Int), .string fs, .int .i64 (a.keys : Int), .int .i64 (a.tap : Int), .int .i64 a.pow.kind, .int .i64 a.pow.n, .int .i64 a.tough.kind, .int .i64 a.tough.n, .int .i64 a.val.kind, .int .i64 a.val.n] 25))) := Lib.hid (hb1.trans ((Below.refl _ _).alloc hb1.size _))
  have KX : Hid (Blk (w1.alloc (.cells #[.int .i64 (a.zone : Int), .int .i64 (a.who : Int), .int .i64 (a.self : Int), .int .i64 (a.types : Int), .int .i64 (a.ntypes : Int), .int .i64 (a.colors : Int), .int .i64 (a.ncolors : Int), .string fs, .int .i64 (a.keys : Int), .int .i64 (a.tap : Int), .int .i64 a.pow.kind, .int .i64 a.pow.n, .int .i64 a.tough.kind, .int .i64 a.tough.n, .int .i64 a.val.kind, .int .i64 a.val.n] 25)) w1.heap.size #[.int .i64 (a.zone : Int), .int .i64 (a.who : Int), .int .i64 (a.self : Int), .int .i64 (a.types : Int), .int .i64 (a.ntypes : Int), .int .i64 (a.colors : Int), .int .i64 (a.ncolors : Int), .string fs, .int .i64 (a.keys : Int), .int .i64 (a.tap : Int), .int .i64 a.pow.kind, .int .i64 a.pow.n, .int .i64 a.tough.kind, .int .i64 a.tough.n, .int .i64 a.val.kind, .int .i64 a.val.n] 25) := Lib.hid (Blk.new w1 _ _)
  clear hb1
  go_wp2_with fail
  obtain ⟨w2, hw2⟩ : ∃ w2, w2 = w1.alloc (.cells #[.int .i64 (a.zone : Int), .int .i64 (a.who : Int), .int .i64 (a.self : Int), .int .i64 (a.types : Int), .int .i64 (a.ntypes : Int), .int .i64 (a.colors : Int), .int .i64 (a.ncolors : Int), .string fs, .int .i64 (a.keys : Int), .int .i64 (a.tap : Int), .int .i64 a.pow.kind, .int .i64 a.pow.n, .int .i64 a.tough.kind, .int .i64 a.tough.n, .int .i64 a.val.kind, .int .i64 a.val.n] 25) := ⟨_, rfl⟩
  obtain ⟨F, hF⟩ : ∃ F, F = w1.heap.size := ⟨_, rfl⟩
  rw [← hw2] at BX KX ⊢
  rw [← hF] at KX ⊢
  clear hw2 hF
  refine (HIS.out _ (HE.out _ BX.out)).mono ?_
  rintro e w3 ⟨rfl, hb3⟩
  have B3 := Lib.hid (BX.out.trans (hb3.mono BX.out.size))
  have K3 := Lib.hid (KX.out.below hb3 KX.out.lt)
  clear hb3 BX KX
  generalize Value.agg #[.int .i64 (a.zone : Int), .int .i64 (a.who : Int), .int .i64 (a.self : Int), .int .i64 (a.types : Int), .int .i64 (a.ntypes : Int), .int .i64 (a.colors : Int), .int .i64 (a.ncolors : Int), .string fs, .int .i64 (a.keys : Int), .int .i64 (a.tap : Int), .int .i64 a.pow.kind, .int .i64 a.pow.n, .int .i64 a.tough.kind, .int .i64 a.tough.n, .int .i64 a.val.kind, .int .i64 a.val.n] = vA
  have y0 : w3.cell? ⟨F, 0, none⟩ = some (.int .i64 (a.zone : Int)) := K3.out.cell 0
  have y1 : w3.cell? ⟨F, 1, none⟩ = some (.int .i64 (a.who : Int)) := K3.out.cell 1
  have y2 : w3.cell? ⟨F, 2, none⟩ = some (.int .i64 (a.self : Int)) := K3.out.cell 2
  have y3 : w3.cell? ⟨F, 3, none⟩ = some (.int .i64 (a.types : Int)) := K3.out.cell 3
  have y4 : w3.cell? ⟨F, 4, none⟩ = some (.int .i64 (a.ntypes : Int)) := K3.out.cell 4
  have y5 : w3.cell? ⟨F, 5, none⟩ = some (.int .i64 (a.colors : Int)) := K3.out.cell 5
  have y6 : w3.cell? ⟨F, 6, none⟩ = some (.int .i64 (a.ncolors : Int)) := K3.out.cell 6
  have y7 : w3.cell? ⟨F, 7, none⟩ = some (.string fs) := K3.out.cell 7
  have y8 : w3.cell? ⟨F, 8, none⟩ = some (.int .i64 (a.keys : Int)) := K3.out.cell 8
  have y9 : w3.cell? ⟨F, 9, none⟩ = some (.int .i64 (a.tap : Int)) := K3.out.cell 9
  have y10 : w3.cell? ⟨F, 10, none⟩ = some (.int .i64 a.pow.kind) := K3.out.cell 10
  have y11 : w3.cell? ⟨F, 11, none⟩ = some (.int .i64 a.pow.n) := K3.out.cell 11
  have y12 : w3.cell? ⟨F, 12, none⟩ = some (.int .i64 a.tough.kind) := K3.out.cell 12
  have y13 : w3.cell? ⟨F, 13, none⟩ = some (.int .i64 a.tough.n) := K3.out.cell 13
  have y14 : w3.cell? ⟨F, 14, none⟩ = some (.int .i64 a.val.kind) := K3.out.cell 14
  have y15 : w3.cell? ⟨F, 15, none⟩ = some (.int .i64 a.val.n) := K3.out.cell 15
  go_wp2_with fail
  clear y0 y1 y2 y3 y4 y5 y6 y7 y8 y9 y10 y11 y12 y13 y14 y15
  refine (HT2.out _ (HE.out _ B3.out)).mono ?_
  rintro e w4 ⟨rfl, hb4⟩
  have B4 := Lib.hid (B3.out.trans (hb4.mono B3.out.size))
  have K4 := Lib.hid (K3.out.below hb4 K3.out.lt)
  clear hb4 B3 K3
  generalize Value.agg #[.int .i64 (a.zone : Int), .int .i64 (a.who : Int), .int .i64 (a.self : Int), .int .i64 (a.types : Int), .int .i64 (a.ntypes : Int), .int .i64 (a.colors : Int), .int .i64 (a.ncolors : Int), .string fs, .int .i64 (a.keys : Int), .int .i64 (a.tap : Int), .int .i64 a.pow.kind, .int .i64 a.pow.n, .int .i64 a.tough.kind, .int .i64 a.tough.n, .int .i64 a.val.kind, .int .i64 a.val.n] = vB
  have KR := Lib.hid (K0.out.below B4.out HL.out)
  go_upto_region 4 with fail
  refine wp_region_lit (wpList_load_row rfl 25 (.tmp 4) rfl F rfl 25 #[.int .i64 (a.zone : Int), .int .i64 (a.who : Int), .int .i64 (a.self : Int), .int .i64 (a.types : Int), .int .i64 (a.ntypes : Int), .int .i64 (a.colors : Int), .int .i64 (a.ncolors : Int), .string fs, .int .i64 (a.keys : Int), .int .i64 (a.tap : Int), .int .i64 a.pow.kind, .int .i64 a.pow.n, .int .i64 a.tough.kind, .int .i64 a.tough.n, .int .i64 a.val.kind, .int .i64 a.val.n] (0, 0) _ K4.out Tryd.underlying25 rfl (by rw [sizeTF]; rfl) ?_)
  refine wpList_store_mid rfl 25 (.tmp 2) (.tmp 17) rfl w.heap.size 0 #[.int .i64 (a.zone : Int), .int .i64 (a.who : Int), .int .i64 (a.self : Int), .int .i64 (a.types : Int), .int .i64 (a.ntypes : Int), .int .i64 (a.colors : Int), .int .i64 (a.ncolors : Int), .string fs, .int .i64 (a.keys : Int), .int .i64 (a.tap : Int), .int .i64 a.pow.kind, .int .i64 a.pow.n, .int .i64 a.tough.kind, .int .i64 a.tough.n, .int .i64 a.val.kind, .int .i64 a.val.n] rfl rfl KR.out.there (by rw [sizeTF]; rfl) (by simp [Value.oneCell']) ?_
  change wpList _ _ _ _ _ (set16 w4 w.heap.size a fs)
  have hB : Blk (set16 w4 w.heap.size a fs) w.heap.size #[.int .i64 (a.zone : Int), .int .i64 (a.who : Int), .int .i64 (a.self : Int), .int .i64 (a.types : Int), .int .i64 (a.ntypes : Int), .int .i64 (a.colors : Int), .int .i64 (a.ncolors : Int), .string fs, .int .i64 (a.keys : Int), .int .i64 (a.tap : Int), .int .i64 a.pow.kind, .int .i64 a.pow.n, .int .i64 a.tough.kind, .int .i64 a.tough.n, .int .i64 a.val.kind, .int .i64 a.val.n] 25 := Blk.set16 (a := Fil.zeroA) (fs := ⟨#[]⟩) KR.out a fs
  have hBel : Hid (Below w.heap.size w (set16 w4 w.heap.size a fs)) := Lib.hid (below16 (HB0.out.trans (B4.out.mono HB0.out.size)) (Nat.le_refl _))
  generalize set16 w4 w.heap.size a fs = wf at hB hBel ⊢
  have q0 : wf.cell? ⟨w.heap.size, 0, none⟩ = some (.int .i64 (a.zone : Int)) := hB.cell 0
  have q1 : wf.cell? ⟨w.heap.size, 1, none⟩ = some (.int .i64 (a.who : Int)) := hB.cell 1
  have q2 : wf.cell? ⟨w.heap.size, 2, none⟩ = some (.int .i64 (a.self : Int)) := hB.cell 2
  have q3 : wf.cell? ⟨w.heap.size, 3, none⟩ = some (.int .i64 (a.types : Int)) := hB.cell 3
  have q4 : wf.cell? ⟨w.heap.size, 4, none⟩ = some (.int .i64 (a.ntypes : Int)) := hB.cell 4
  have q5 : wf.cell? ⟨w.heap.size, 5, none⟩ = some (.int .i64 (a.colors : Int)) := hB.cell 5
  have q6 : wf.cell? ⟨w.heap.size, 6, none⟩ = some (.int .i64 (a.ncolors : Int)) := hB.cell 6
  have q7 : wf.cell? ⟨w.heap.size, 7, none⟩ = some (.string fs) := hB.cell 7
  have q8 : wf.cell? ⟨w.heap.size, 8, none⟩ = some (.int .i64 (a.keys : Int)) := hB.cell 8
  have q9 : wf.cell? ⟨w.heap.size, 9, none⟩ = some (.int .i64 (a.tap : Int)) := hB.cell 9
  have q10 : wf.cell? ⟨w.heap.size, 10, none⟩ = some (.int .i64 a.pow.kind) := hB.cell 10
  have q11 : wf.cell? ⟨w.heap.size, 11, none⟩ = some (.int .i64 a.pow.n) := hB.cell 11
  have q12 : wf.cell? ⟨w.heap.size, 12, none⟩ = some (.int .i64 a.tough.kind) := hB.cell 12
  have q13 : wf.cell? ⟨w.heap.size, 13, none⟩ = some (.int .i64 a.tough.n) := hB.cell 13
  have q14 : wf.cell? ⟨w.heap.size, 14, none⟩ = some (.int .i64 a.val.kind) := hB.cell 14
  have q15 : wf.cell? ⟨w.heap.size, 15, none⟩ = some (.int .i64 a.val.n) := hB.cell 15
  go_wp2_with fail
  exact bodyPost_ret (v := .tuple #[.agg #[.int .i64 (a.zone : Int), .int .i64 (a.who : Int), .int .i64 (a.self : Int), .int .i64 (a.types : Int), .int .i64 (a.ntypes : Int), .int .i64 (a.colors : Int), .int .i64 (a.ncolors : Int), .string fs, .int .i64 (a.keys : Int), .int .i64 (a.tap : Int), .int .i64 a.pow.kind, .int .i64 a.pow.n, .int .i64 a.tough.kind, .int .i64 a.tough.n, .int .i64 a.val.kind, .int .i64 a.val.n], .int .i64 0]) (by simp [results, Tryd.results8, go_sem, q0, q1, q2, q3, q4, q5, q6, q7, q8, q9, q10, q11, q12, q13, q14, q15]) rfl ⟨rfl, hBel.out⟩
end Go.Proofs.YtboealolklojiaaDoor
