/-
  THE LAWS OF LAYER 13: Apart. By an AI agent.
-/
import Derived.Test.YtboealolklojiaaDoorFilAlive
import Derived.Test.YtboealolklojiaaDoorFilHand
import Derived.Deep.Cut
import Derived.Deep.DeepCutAuto
import Derived.Deep.CutRange
namespace Go.Proofs.YtboealolklojiaaDoor
open Go.RowKit
open Wd (Bs)

set_option maxHeartbeats 8000000 in
set_option maxRecDepth 100000 in
theorem lawApartAny (f g : Fil.Flt) (fs gs ta tb : ByteArray) (bf bg bb : Bool) (w : World) (hE : Env w)
    (h1 : ∀ W, Env W → Calls Tryd.prog 9 #[.agg #[.int .i64 f.zone, .int .i64 f.who, .int .i64 f.self, .int .i64 f.types, .int .i64 f.ntypes, .int .i64 f.colors, .int .i64 f.ncolors, .string fs, .int .i64 f.keys, .int .i64 f.tap, .int .i64 f.pow.kind, .int .i64 f.pow.n, .int .i64 f.tough.kind, .int .i64 f.tough.n, .int .i64 f.val.kind, .int .i64 f.val.n]] W fun e w' => e = .returned (.bool bf) ∧ Below W.heap.size W w')
    (h2 : ∀ W, Env W → Calls Tryd.prog 9 #[.agg #[.int .i64 g.zone, .int .i64 g.who, .int .i64 g.self, .int .i64 g.types, .int .i64 g.ntypes, .int .i64 g.colors, .int .i64 g.ncolors, .string gs, .int .i64 g.keys, .int .i64 g.tap, .int .i64 g.pow.kind, .int .i64 g.pow.n, .int .i64 g.tough.kind, .int .i64 g.tough.n, .int .i64 g.val.kind, .int .i64 g.val.n]] W fun e w' => e = .returned (.bool bg) ∧ Below W.heap.size W w')
    (h3 : ∀ W, Env W → Calls Tryd.prog 7 #[.agg #[.int .i64 f.zone, .int .i64 f.who, .int .i64 f.self, .int .i64 f.types, .int .i64 f.ntypes, .int .i64 f.colors, .int .i64 f.ncolors, .string fs, .int .i64 f.keys, .int .i64 f.tap, .int .i64 f.pow.kind, .int .i64 f.pow.n, .int .i64 f.tough.kind, .int .i64 f.tough.n, .int .i64 f.val.kind, .int .i64 f.val.n]] W fun e w' => e = .returned (.string ta) ∧ Below W.heap.size W w')
    (h4 : ∀ W, Env W → Calls Tryd.prog 7 #[.agg #[.int .i64 g.zone, .int .i64 g.who, .int .i64 g.self, .int .i64 g.types, .int .i64 g.ntypes, .int .i64 g.colors, .int .i64 g.ncolors, .string gs, .int .i64 g.keys, .int .i64 g.tap, .int .i64 g.pow.kind, .int .i64 g.pow.n, .int .i64 g.tough.kind, .int .i64 g.tough.n, .int .i64 g.val.kind, .int .i64 g.val.n]] W fun e w' => e = .returned (.string tb) ∧ Below W.heap.size W w')
    (h5 : ∀ W : World, (Op.equalIn 10000 25 (.agg #[.int .i64 f.zone, .int .i64 f.who, .int .i64 f.self, .int .i64 f.types, .int .i64 f.ntypes, .int .i64 f.colors, .int .i64 f.ncolors, .string fs, .int .i64 f.keys, .int .i64 f.tap, .int .i64 f.pow.kind, .int .i64 f.pow.n, .int .i64 f.tough.kind, .int .i64 f.tough.n, .int .i64 f.val.kind, .int .i64 f.val.n]) (.agg #[.int .i64 g.zone, .int .i64 g.who, .int .i64 g.self, .int .i64 g.types, .int .i64 g.ntypes, .int .i64 g.colors, .int .i64 g.ncolors, .string gs, .int .i64 g.keys, .int .i64 g.tap, .int .i64 g.pow.kind, .int .i64 g.pow.n, .int .i64 g.tough.kind, .int .i64 g.tough.n, .int .i64 g.val.kind, .int .i64 g.val.n])).run Tryd.prog W = .ok bb W) (h6 : bf = true → bg = true → (ta.toList == tb.toList) = bb) :
    Calls Tryd.prog 4 #[.agg #[.int .i64 f.zone, .int .i64 f.who, .int .i64 f.self, .int .i64 f.types, .int .i64 f.ntypes, .int .i64 f.colors, .int .i64 f.ncolors, .string fs, .int .i64 f.keys, .int .i64 f.tap, .int .i64 f.pow.kind, .int .i64 f.pow.n, .int .i64 f.tough.kind, .int .i64 f.tough.n, .int .i64 f.val.kind, .int .i64 f.val.n], .agg #[.int .i64 g.zone, .int .i64 g.who, .int .i64 g.self, .int .i64 g.types, .int .i64 g.ntypes, .int .i64 g.colors, .int .i64 g.ncolors, .string gs, .int .i64 g.keys, .int .i64 g.tap, .int .i64 g.pow.kind, .int .i64 g.pow.n, .int .i64 g.tough.kind, .int .i64 g.tough.n, .int .i64 g.val.kind, .int .i64 g.val.n]] w fun e w' => e = .returned (.bool true) ∧ Below w.heap.size w w' := by
  obtain ⟨w0, hw0⟩ : ∃ w0, w0 = (w.alloc (.cells #[.int .i64 f.zone, .int .i64 f.who, .int .i64 f.self, .int .i64 f.types, .int .i64 f.ntypes, .int .i64 f.colors, .int .i64 f.ncolors, .string fs, .int .i64 f.keys, .int .i64 f.tap, .int .i64 f.pow.kind, .int .i64 f.pow.n, .int .i64 f.tough.kind, .int .i64 f.tough.n, .int .i64 f.val.kind, .int .i64 f.val.n] 25)).alloc (.cells #[.int .i64 g.zone, .int .i64 g.who, .int .i64 g.self, .int .i64 g.types, .int .i64 g.ntypes, .int .i64 g.colors, .int .i64 g.ncolors, .string gs, .int .i64 g.keys, .int .i64 g.tap, .int .i64 g.pow.kind, .int .i64 g.pow.n, .int .i64 g.tough.kind, .int .i64 g.tough.n, .int .i64 g.val.kind, .int .i64 g.val.n] 25) := ⟨_, rfl⟩
  obtain ⟨B, hB⟩ : ∃ B, B = w.heap.size + 1 := ⟨_, rfl⟩
  have hb0 : Below w.heap.size w w0 := by rw [hw0]; exact ((Below.refl _ _).alloc (Nat.le_refl _) _).alloc (by simp) _
  have K0 : Hid (Blk w0 w.heap.size #[.int .i64 f.zone, .int .i64 f.who, .int .i64 f.self, .int .i64 f.types, .int .i64 f.ntypes, .int .i64 f.colors, .int .i64 f.ncolors, .string fs, .int .i64 f.keys, .int .i64 f.tap, .int .i64 f.pow.kind, .int .i64 f.pow.n, .int .i64 f.tough.kind, .int .i64 f.tough.n, .int .i64 f.val.kind, .int .i64 f.val.n] 25) := Lib.hid (by rw [hw0]; exact (Blk.new w _ _).alloc _)
  have J0 : Hid (Blk w0 B #[.int .i64 g.zone, .int .i64 g.who, .int .i64 g.self, .int .i64 g.types, .int .i64 g.ntypes, .int .i64 g.colors, .int .i64 g.ncolors, .string gs, .int .i64 g.keys, .int .i64 g.tap, .int .i64 g.pow.kind, .int .i64 g.pow.n, .int .i64 g.tough.kind, .int .i64 g.tough.n, .int .i64 g.val.kind, .int .i64 g.val.n] 25) := Lib.hid (by
    have h := Blk.new (w.alloc (.cells #[.int .i64 f.zone, .int .i64 f.who, .int .i64 f.self, .int .i64 f.types, .int .i64 f.ntypes, .int .i64 f.colors, .int .i64 f.ncolors, .string fs, .int .i64 f.keys, .int .i64 f.tap, .int .i64 f.pow.kind, .int .i64 f.pow.n, .int .i64 f.tough.kind, .int .i64 f.tough.n, .int .i64 f.val.kind, .int .i64 f.val.n] 25)) #[.int .i64 g.zone, .int .i64 g.who, .int .i64 g.self, .int .i64 g.types, .int .i64 g.ntypes, .int .i64 g.colors, .int .i64 g.ncolors, .string gs, .int .i64 g.keys, .int .i64 g.tap, .int .i64 g.pow.kind, .int .i64 g.pow.n, .int .i64 g.tough.kind, .int .i64 g.tough.n, .int .i64 g.val.kind, .int .i64 g.val.n] 25
    rw [hw0, hB]; simpa using h)
  have HE := Lib.hid (fun (W : World) (hb : Below w0.heap.size w0 W) => (hE.below hb0).below hb)
  have HB := Lib.hid hb0
  have G1 := Lib.hid h1
  have G2 := Lib.hid h2
  have G3 := Lib.hid h3
  have G4 := Lib.hid h4
  have G5 := Lib.hid h5
  have G6 := Lib.hid h6
  clear hE hb0 h1 h2 h3 h4 h5 h6
  go_enter Tryd.func4, Tryd.ntmps4
  go_wp2_with fail
  rw [← hw0, ← hB]
  clear hw0 hB
  refine (fromBase (C := w0.heap.size) (w0 := w0) (Below.refl _ _) (Nat.le_refl _) (G1.out _ (HE.out _ (Below.refl _ _)))).mono ?_
  rintro e w1 ⟨rfl, hb1⟩
  cases bf with
  | false =>
    go_wp2_with fail
    refine (fromBase (C := w0.heap.size) (w0 := w0) hb1 (Nat.le_refl _) (filAlive _ (HE.out _ hb1))).mono ?_
    rintro e w2 ⟨rfl, hb2⟩
    go_wp2_with fail
    go_ret
    exact ⟨rfl, HB.out.trans (hb2.mono HB.out.size)⟩
  | true =>
    have j1 := J0.out.below hb1 J0.out.lt
    have y0 : w1.cell? ⟨B, 0, none⟩ = some (.int .i64 g.zone) := j1.cell 0
    have y1 : w1.cell? ⟨B, 1, none⟩ = some (.int .i64 g.who) := j1.cell 1
    have y2 : w1.cell? ⟨B, 2, none⟩ = some (.int .i64 g.self) := j1.cell 2
    have y3 : w1.cell? ⟨B, 3, none⟩ = some (.int .i64 g.types) := j1.cell 3
    have y4 : w1.cell? ⟨B, 4, none⟩ = some (.int .i64 g.ntypes) := j1.cell 4
    have y5 : w1.cell? ⟨B, 5, none⟩ = some (.int .i64 g.colors) := j1.cell 5
    have y6 : w1.cell? ⟨B, 6, none⟩ = some (.int .i64 g.ncolors) := j1.cell 6
    have y7 : w1.cell? ⟨B, 7, none⟩ = some (.string gs) := j1.cell 7
    have y8 : w1.cell? ⟨B, 8, none⟩ = some (.int .i64 g.keys) := j1.cell 8
    have y9 : w1.cell? ⟨B, 9, none⟩ = some (.int .i64 g.tap) := j1.cell 9
    have y10 : w1.cell? ⟨B, 10, none⟩ = some (.int .i64 g.pow.kind) := j1.cell 10
    have y11 : w1.cell? ⟨B, 11, none⟩ = some (.int .i64 g.pow.n) := j1.cell 11
    have y12 : w1.cell? ⟨B, 12, none⟩ = some (.int .i64 g.tough.kind) := j1.cell 12
    have y13 : w1.cell? ⟨B, 13, none⟩ = some (.int .i64 g.tough.n) := j1.cell 13
    have y14 : w1.cell? ⟨B, 14, none⟩ = some (.int .i64 g.val.kind) := j1.cell 14
    have y15 : w1.cell? ⟨B, 15, none⟩ = some (.int .i64 g.val.n) := j1.cell 15
    have B1 := Lib.hid hb1
    clear j1 hb1
    generalize Value.agg #[.int .i64 f.zone, .int .i64 f.who, .int .i64 f.self, .int .i64 f.types, .int .i64 f.ntypes, .int .i64 f.colors, .int .i64 f.ncolors, .string fs, .int .i64 f.keys, .int .i64 f.tap, .int .i64 f.pow.kind, .int .i64 f.pow.n, .int .i64 f.tough.kind, .int .i64 f.tough.n, .int .i64 f.val.kind, .int .i64 f.val.n] = vA
    go_wp2_with fail
    clear y0 y1 y2 y3 y4 y5 y6 y7 y8 y9 y10 y11 y12 y13 y14 y15
    refine (fromBase (C := w0.heap.size) (w0 := w0) B1.out (Nat.le_refl _) (G2.out _ (HE.out _ B1.out))).mono ?_
    rintro e w2 ⟨rfl, hb2⟩
    cases bg with
    | false =>
      go_wp2_with fail
      refine (fromBase (C := w0.heap.size) (w0 := w0) hb2 (Nat.le_refl _) (filAlive _ (HE.out _ hb2))).mono ?_
      rintro e w3 ⟨rfl, hb3⟩
      go_wp2_with fail
      go_ret
      exact ⟨rfl, HB.out.trans (hb3.mono HB.out.size)⟩
    | true =>
      have e6 := G6.out (by simp) (by simp)
      have e7 : (bb == bb) = true := by simp
      have B2 := Lib.hid hb2
      clear hb2 G6
      generalize Value.agg #[.int .i64 g.zone, .int .i64 g.who, .int .i64 g.self, .int .i64 g.types, .int .i64 g.ntypes, .int .i64 g.colors, .int .i64 g.ncolors, .string gs, .int .i64 g.keys, .int .i64 g.tap, .int .i64 g.pow.kind, .int .i64 g.pow.n, .int .i64 g.tough.kind, .int .i64 g.tough.n, .int .i64 g.val.kind, .int .i64 g.val.n] = vB
      go_wp2_with fail
      have q5 := G5.out
      refine wp_region_held_drew (S := (fun W : World => Blk W w.heap.size #[.int .i64 f.zone, .int .i64 f.who, .int .i64 f.self, .int .i64 f.types, .int .i64 f.ntypes, .int .i64 f.colors, .int .i64 f.ncolors, .string fs, .int .i64 f.keys, .int .i64 f.tap, .int .i64 f.pow.kind, .int .i64 f.pow.n, .int .i64 f.tough.kind, .int .i64 f.tough.n, .int .i64 f.val.kind, .int .i64 f.val.n] 25 ∧ Blk W B #[.int .i64 g.zone, .int .i64 g.who, .int .i64 g.self, .int .i64 g.types, .int .i64 g.ntypes, .int .i64 g.colors, .int .i64 g.ncolors, .string gs, .int .i64 g.keys, .int .i64 g.tap, .int .i64 g.pow.kind, .int .i64 g.pow.n, .int .i64 g.tough.kind, .int .i64 g.tough.n, .int .i64 g.val.kind, .int .i64 g.val.n] 25)) (by kernel_rfl) ?_ (fun hHeld => ?_)
      · exact ⟨(K0.out.below B2.out K0.out.lt).drew, (J0.out.below B2.out J0.out.lt).drew⟩
      refine wpAnyH_ready (rs := [0]) (by kernel_rfl) (by simp) ?_
      refine AllReadyH.cons rfl (fun K1 hK1 => ?_) AllReadyH.nil
      go_simp
      go_at_call 6
      refine (fromBase (C := w0.heap.size) (w0 := w0) (Below.drew B2.out) (Nat.le_refl _) (filAlive _ (HE.out _ (Below.drew B2.out)))).mono ?_
      rintro e w3 ⟨rfl, hb3⟩
      go_simp
      refine hK1.out _ _ ?_ (fun hHeld1 => ?_)
      · exact ⟨K0.out.below hb3 K0.out.lt, J0.out.below hb3 J0.out.lt⟩
      clear hK1 K1 hHeld
      try simp only [Act.put, List.setIfInBounds_toArray, List.set_cons_zero, List.set_cons_succ]
      refine take_run 1 (some 15) (v := ?_) rfl rfl (by kernel_rfl) (by kernel_rfl) (by kernel_rfl) (fun _ _ _ h => h) (by rfl) ?_ (by assumption) ?_
      rotate_left
      · (intro W hSw; (try dsimp only at hSw); go_simp; (try with_reducible rfl))
      simp only [Act.put, List.setIfInBounds_toArray, List.set_cons_zero, List.set_cons_succ]
      refine take_loadF 2 (some 16) rfl rfl (by kernel_rfl) (by kernel_rfl) (by kernel_rfl) (fun _ _ _ h => h) (by rfl) (.tmp 2) rfl (b := w.heap.size) (cs := #[.int .i64 f.zone, .int .i64 f.who, .int .i64 f.self, .int .i64 f.types, .int .i64 f.ntypes, .int .i64 f.colors, .int .i64 f.ncolors, .string fs, .int .i64 f.keys, .int .i64 f.tap, .int .i64 f.pow.kind, .int .i64 f.pow.n, .int .i64 f.tough.kind, .int .i64 f.tough.n, .int .i64 f.val.kind, .int .i64 f.val.n]) (by rfl) (fun W h => h.1) rfl (by assumption) ?_
      simp only [Act.put, List.setIfInBounds_toArray, List.set_cons_zero, List.set_cons_succ]
      refine take_loadF 4 (some 18) rfl rfl (by kernel_rfl) (by kernel_rfl) (by kernel_rfl) (fun _ _ _ h => h) (by rfl) (.tmp 3) rfl (b := B) (cs := #[.int .i64 g.zone, .int .i64 g.who, .int .i64 g.self, .int .i64 g.types, .int .i64 g.ntypes, .int .i64 g.colors, .int .i64 g.ncolors, .string gs, .int .i64 g.keys, .int .i64 g.tap, .int .i64 g.pow.kind, .int .i64 g.pow.n, .int .i64 g.tough.kind, .int .i64 g.tough.n, .int .i64 g.val.kind, .int .i64 g.val.n]) (by rfl) (fun W h => h.2) rfl (by assumption) ?_
      simp only [Act.put, List.setIfInBounds_toArray, List.set_cons_zero, List.set_cons_succ]
      refine take_loadF 7 (some 21) rfl rfl (by kernel_rfl) (by kernel_rfl) (by kernel_rfl) (fun _ _ _ h => h) (by rfl) (.tmp 2) rfl (b := w.heap.size) (cs := #[.int .i64 f.zone, .int .i64 f.who, .int .i64 f.self, .int .i64 f.types, .int .i64 f.ntypes, .int .i64 f.colors, .int .i64 f.ncolors, .string fs, .int .i64 f.keys, .int .i64 f.tap, .int .i64 f.pow.kind, .int .i64 f.pow.n, .int .i64 f.tough.kind, .int .i64 f.tough.n, .int .i64 f.val.kind, .int .i64 f.val.n]) (by rfl) (fun W h => h.1) rfl (by assumption) ?_
      simp only [Act.put, List.setIfInBounds_toArray, List.set_cons_zero, List.set_cons_succ]
      refine take_loadF 8 (some 22) rfl rfl (by kernel_rfl) (by kernel_rfl) (by kernel_rfl) (fun _ _ _ h => h) (by rfl) (.tmp 3) rfl (b := B) (cs := #[.int .i64 g.zone, .int .i64 g.who, .int .i64 g.self, .int .i64 g.types, .int .i64 g.ntypes, .int .i64 g.colors, .int .i64 g.ncolors, .string gs, .int .i64 g.keys, .int .i64 g.tap, .int .i64 g.pow.kind, .int .i64 g.pow.n, .int .i64 g.tough.kind, .int .i64 g.tough.n, .int .i64 g.val.kind, .int .i64 g.val.n]) (by rfl) (fun W h => h.2) rfl (by assumption) ?_
      simp only [Act.put, List.setIfInBounds_toArray, List.set_cons_zero, List.set_cons_succ]
      refine take_run 9 (some 23) (v := ?_) rfl rfl (by kernel_rfl) (by kernel_rfl) (by kernel_rfl) (fun _ _ _ h => h) (by rfl) ?_ (by assumption) ?_
      rotate_left
      · (intro W hSw; (try dsimp only at hSw); go_simp; (try with_reducible rfl))
      simp only [Act.put, List.setIfInBounds_toArray, List.set_cons_zero, List.set_cons_succ]
      refine wpAnyH_ready (rs := [3]) (by kernel_rfl) (by simp) ?_
      refine AllReadyH.cons rfl (fun K2 hK2 => ?_) AllReadyH.nil
      go_simp
      go_at_call 7
      refine (fromBase (C := w0.heap.size) (w0 := w0) hb3 (Nat.le_refl _) (G3.out _ (HE.out _ hb3))).mono ?_
      rintro e w4 ⟨rfl, hb4⟩
      go_simp
      refine hK2.out _ _ ?_ (fun hHeld2 => ?_)
      · exact ⟨K0.out.below hb4 K0.out.lt, J0.out.below hb4 J0.out.lt⟩
      clear hK2 K2 hHeld1
      try simp only [Act.put, List.setIfInBounds_toArray, List.set_cons_zero, List.set_cons_succ]
      refine wpAnyH_ready (rs := [5]) (by kernel_rfl) (by simp) ?_
      refine AllReadyH.cons rfl (fun K3 hK3 => ?_) AllReadyH.nil
      go_simp
      go_at_call 7
      refine (fromBase (C := w0.heap.size) (w0 := w0) hb4 (Nat.le_refl _) (G4.out _ (HE.out _ hb4))).mono ?_
      rintro e w5 ⟨rfl, hb5⟩
      go_simp
      refine hK3.out _ _ ?_ (fun hHeld3 => ?_)
      · exact ⟨K0.out.below hb5 K0.out.lt, J0.out.below hb5 J0.out.lt⟩
      clear hK3 K3 hHeld2
      try simp only [Act.put, List.setIfInBounds_toArray, List.set_cons_zero, List.set_cons_succ]
      refine take_run 6 (some 20) (v := ?_) rfl rfl (by kernel_rfl) (by kernel_rfl) (by kernel_rfl) (fun _ _ _ h => h) (by rfl) ?_ (by assumption) ?_
      rotate_left
      · (intro W hSw; (try dsimp only at hSw); go_simp; (try with_reducible rfl))
      simp only [Act.put, List.setIfInBounds_toArray, List.set_cons_zero, List.set_cons_succ]
      refine take_run 10 (some 24) (v := ?_) rfl rfl (by kernel_rfl) (by kernel_rfl) (by kernel_rfl) (fun _ _ _ h => h) (by rfl) ?_ (by assumption) ?_
      rotate_left
      · (intro W hSw; (try dsimp only at hSw); go_simp; (try with_reducible rfl))
      simp only [Act.put, List.setIfInBounds_toArray, List.set_cons_zero, List.set_cons_succ]
      refine take_run 11 (some 25) (v := ?_) rfl rfl (by kernel_rfl) (by kernel_rfl) (by kernel_rfl) (fun _ _ _ h => h) (by rfl) ?_ (by assumption) ?_
      rotate_left
      · (intro W hSw; (try dsimp only at hSw); go_simp; (try with_reducible rfl))
      simp only [Act.put, List.setIfInBounds_toArray, List.set_cons_zero, List.set_cons_succ]
      refine take_run 12 (some 4) (v := ?_) rfl rfl (by kernel_rfl) (by kernel_rfl) (by kernel_rfl) (fun _ _ _ h => h) (by rfl) ?_ (by assumption) ?_
      rotate_left
      · (intro W hSw; (try dsimp only at hSw); go_simp; (try with_reducible rfl))
      simp only [Act.put, List.setIfInBounds_toArray, List.set_cons_zero, List.set_cons_succ]
      refine wpAnyH_done (by kernel_rfl) ?_ _
      have HBF := Lib.hid (HB.out.trans (hb5.mono HB.out.size))
      clear hb3 hb4 hb5
      go_wp2_with fail
      go_ret
      exact ⟨rfl, HBF.out⟩
theorem lawFilterApart (f g : Fil.Flt) (fs gs : ByteArray) (hf : f.sub = fs.data.toList) (hg : g.sub = gs.data.toList) (hs : fs.size ≤ maxLen) (hs' : gs.size ≤ maxLen) (w : World) (hE : Env w) :
    Calls Tryd.prog 4 #[.agg #[.int .i64 f.zone, .int .i64 f.who, .int .i64 f.self, .int .i64 f.types, .int .i64 f.ntypes, .int .i64 f.colors, .int .i64 f.ncolors, .string fs, .int .i64 f.keys, .int .i64 f.tap, .int .i64 f.pow.kind, .int .i64 f.pow.n, .int .i64 f.tough.kind, .int .i64 f.tough.n, .int .i64 f.val.kind, .int .i64 f.val.n], .agg #[.int .i64 g.zone, .int .i64 g.who, .int .i64 g.self, .int .i64 g.types, .int .i64 g.ntypes, .int .i64 g.colors, .int .i64 g.ncolors, .string gs, .int .i64 g.keys, .int .i64 g.tap, .int .i64 g.pow.kind, .int .i64 g.pow.n, .int .i64 g.tough.kind, .int .i64 g.tough.n, .int .i64 g.val.kind, .int .i64 g.val.n]] w fun e w' => e = .returned (.bool true) ∧ Below w.heap.size w w' :=
  lawApartAny f g fs gs ⟨(Fil.textF f).toArray⟩ ⟨(Fil.textF g).toArray⟩ _ _ _ w hE (fun W hW => filIs f fs hf hs W hW) (fun W hW => filIs g gs hg hs' W hW) (fun W hW => filText f fs hf hs W hW) (fun W hW => filText g gs hg hs' W hW)
    (fun W => run_eq_flt f g fs gs hf hg W) (fun h1 h2 => by
      cases he : eqF f g with
      | true => rw [eqF_iff.1 he]; simp
      | false =>
        refine bytes_ne fun h => ?_
        have := Fil.textF_inj h1 h2 h
        rw [eqF_iff.2 this] at he
        cases he)
end Go.Proofs.YtboealolklojiaaDoor
