/-
  MERGED: RfLawA, RfLaws. By an AI agent.
-/
import Derived.Test.YtbcgkeclmioeiaaGreatDoorRfGA
import Derived.Deep.Cut
import Derived.Test.YtbcgkeclmioeiaaGreatDoorRfGC
import Derived.Test.YtbcgkeclmioeiaaGreatDoorRfGD
namespace Go.Proofs.YtbcgkeclmioeiaaGreatDoor
open Go.RowKit
open Wd (Bs)

set_option maxHeartbeats 8000000 in
set_option maxRecDepth 100000 in
theorem lawIsW (k n : Int) (f : Fil.Flt) (fs : ByteArray) (sp : Int) (v : Bool) (w : World)
    (HL : Hid (∀ W, Below w.heap.size w W → Calls Tryz.prog 13 #[] W fun e w' => e = .returned (.bool true) ∧ Below W.heap.size W w')) (H1 : Hid (∀ W, Below w.heap.size w W → Calls Tryz.prog 14 #[.agg (rF k n (cellsF f fs)), .int .i64 sp] W fun e w' => e = .returned (.bool v) ∧ Below W.heap.size W w')) (H2 : Hid (∀ W, Below w.heap.size w W → Calls Tryz.prog 15 #[.agg (rF k n (cellsF f fs)), .int .i64 sp] W fun e w' => e = .returned (.bool v) ∧ Below W.heap.size W w')) :
    Calls Tryz.prog 3 #[.agg (rF k n (cellsF f fs)), .int .i64 sp] w fun e w' => e = .returned (.bool true) ∧ Below w.heap.size w w' := by

  have B0 := Lib.hid (Below.refl w.heap.size w)
  go_enter Tryz.func3, Tryz.ntmps3
  go_upto_region 0 with fail
  refine wp_region_lit ?_
  obtain ⟨w1, hw⟩ : ∃ v, v = w.alloc (.cells (rF k n (cellsF f fs)) 27) := ⟨_, rfl⟩
  obtain ⟨pA, hp⟩ : ∃ v, v = w.heap.size := ⟨_, rfl⟩
  have B1 : Hid (Below w.heap.size w w1) := Lib.hid (by rw [hw]; exact B0.out.alloc B0.out.size _)
  have LEA : Hid (w.heap.size ≤ pA) := Lib.hid (by rw [hp]; exact B0.out.size)
  have KA1 : Hid (Blk w1 pA (rF k n (cellsF f fs)) 27) := Lib.hid (by rw [hw, hp]; exact Blk.new _ _ _)
  with_reducible refine wpList_runWV (some 2) (v := .pointer (some ⟨pA, 0, none⟩)) (w' := w1) ?_ ?_ ?_ ?_
  · rfl
  · rfl
  · rw [hw, hp]; (go_simp; (try rfl))
  simp only [pu, sB, s0, sS]
  clear hw hp
  clear B0
  (with_reducible refine rN (v := .bool false) ?_ ?_ ?_); (· rfl); (· go_simp; (try with_reducible rfl)); simp only [pu, sB, s0, sS]
  have e0 : (v == v) = true := by simp
  go_upto_region 1 with fail
  refine wp_region_held_drew (S := (fun W : World => Blk W pA (rF k n (cellsF f fs)) 27)) (by kernel_rfl) ?_ (fun hHeld => ?_)
  · exact KA1.out.drew
  refine wpAnyH_ready (rs := [0]) (by kernel_rfl) (by simp) ?_
  refine AllReadyH.cons rfl (fun K1 hK1 => ?_) AllReadyH.nil
  go_simp
  go_at_call 13
  refine (callBase (C := w1.heap.size) (w0 := w1) (by go_grown) (Nat.le_refl _) (HL.out _ (B1.out.trans (Below.mono ((by go_grown) : Below w1.heap.size w1 _) B1.out.size)))).mono ?_
  rintro e wd1 ⟨rfl, hbd1⟩
  go_simp
  refine hK1.out _ _ ?_ (fun hHd1 => ?_)
  · exact KA1.out.below hbd1 KA1.out.lt
  clear hK1 K1 hHeld
  try simp only [pu, sB, s0, sS]
  refine take_run 1 (some 6) (v := .bool true) rfl rfl (by kernel_rfl) (by kernel_rfl) (by kernel_rfl) (fun _ _ _ h => h) (by rfl) ?_ (by assumption) ?_
  · (intro W hSw; (try dsimp only at hSw); go_simp; (try with_reducible rfl))
  simp only [pu, sB, s0, sS]
  refine take_loadS 2 (some 7) rfl rfl (by kernel_rfl) (by kernel_rfl) (by kernel_rfl) (fun _ _ _ h => h) (by rfl) (.tmp 2) rfl (b := pA) (cs := (rF k n (cellsF f fs))) (by rfl) (fun W h => h) Tryz.underlying27 rfl (infoTRf18 (rF_sz (cellsF_size f fs))) (by assumption) ?_
  simp only [pu, sB, s0, sS]
  refine take_run 3 (some 8) (v := ?_) rfl rfl (by kernel_rfl) (by kernel_rfl) (by kernel_rfl) (fun _ _ _ h => h) (by rfl) ?_ (by assumption) ?_
  rotate_left
  · (intro W hSw; (try dsimp only at hSw); go_simp; (try with_reducible rfl))
  simp only [pu, sB, s0, sS]
  refine take_loadS 5 (some 10) rfl rfl (by kernel_rfl) (by kernel_rfl) (by kernel_rfl) (fun _ _ _ h => h) (by rfl) (.tmp 2) rfl (b := pA) (cs := (rF k n (cellsF f fs))) (by rfl) (fun W h => h) Tryz.underlying27 rfl (infoTRf18 (rF_sz (cellsF_size f fs))) (by assumption) ?_
  simp only [pu, sB, s0, sS]
  refine take_run 6 (some 11) (v := ?_) rfl rfl (by kernel_rfl) (by kernel_rfl) (by kernel_rfl) (fun _ _ _ h => h) (by rfl) ?_ (by assumption) ?_
  rotate_left
  · (intro W hSw; (try dsimp only at hSw); go_simp; (try with_reducible rfl))
  simp only [pu, sB, s0, sS]
  refine wpAnyH_ready (rs := [4]) (by kernel_rfl) (by simp) ?_
  refine AllReadyH.cons rfl (fun K2 hK2 => ?_) AllReadyH.nil
  go_simp
  go_at_call 14
  refine (callBase (C := wd1.heap.size) (w0 := wd1) (Below.refl _ _) (Nat.le_refl _) (H1.out _ (B1.out.trans (Below.mono (hbd1 : Below w1.heap.size w1 _) B1.out.size)))).mono ?_
  rintro e wd2 ⟨rfl, hbs2⟩
  have hbd2 := hbd1.trans (hbs2.mono hbd1.size)
  go_simp
  refine hK2.out _ _ ?_ (fun hHd2 => ?_)
  · exact KA1.out.below hbd2 KA1.out.lt
  clear hK2 K2 hHd1
  try simp only [pu, sB, s0, sS]
  refine wpAnyH_ready (rs := [7]) (by kernel_rfl) (by simp) ?_
  refine AllReadyH.cons rfl (fun K3 hK3 => ?_) AllReadyH.nil
  go_simp
  go_at_call 15
  refine (callBase (C := wd2.heap.size) (w0 := wd2) (Below.refl _ _) (Nat.le_refl _) (H2.out _ (B1.out.trans (Below.mono (hbd2 : Below w1.heap.size w1 _) B1.out.size)))).mono ?_
  rintro e wd3 ⟨rfl, hbs3⟩
  have hbd3 := hbd2.trans (hbs3.mono hbd2.size)
  go_simp
  refine hK3.out _ _ ?_ (fun hHd3 => ?_)
  · exact KA1.out.below hbd3 KA1.out.lt
  clear hK3 K3 hHd2
  try simp only [pu, sB, s0, sS]
  refine take_run 8 (some 13) (v := .bool true) rfl rfl (by kernel_rfl) (by kernel_rfl) (by kernel_rfl) (fun _ _ _ h => h) (by rfl) ?_ (by assumption) ?_
  · (intro W hSw; (try dsimp only at hSw); go_simp; (try with_reducible rfl))
  simp only [pu, sB, s0, sS]
  refine take_run 9 (some 14) (v := .bool true) rfl rfl (by kernel_rfl) (by kernel_rfl) (by kernel_rfl) (fun _ _ _ h => h) (by rfl) ?_ (by assumption) ?_
  · (intro W hSw; (try dsimp only at hSw); go_simp; (try with_reducible rfl))
  simp only [pu, sB, s0, sS]
  refine take_run 10 (some 4) (v := .bool true) rfl rfl (by kernel_rfl) (by kernel_rfl) (by kernel_rfl) (fun _ _ _ h => h) (by rfl) ?_ (by assumption) ?_
  · (intro W hSw; (try dsimp only at hSw); go_simp; (try with_reducible rfl))
  simp only [pu, sB, s0, sS]
  refine wpAnyH_done (by kernel_rfl) ?_ _
  have B2 := Lib.hid (B1.out.trans (hbd3.mono B1.out.size))
  have KA2 := Lib.hid (KA1.out.below hbd3 KA1.out.lt)
  go_wp2_with fail
  go_ret
  exact ⟨rfl, B2.out⟩

set_option maxHeartbeats 8000000 in
set_option maxRecDepth 100000 in
theorem lawTextsW (k n : Int) (f : Fil.Flt) (fs : ByteArray) (t : ByteArray) (w : World)
    (HL : Hid (∀ W, Below w.heap.size w W → Calls Tryz.prog 13 #[] W fun e w' => e = .returned (.bool true) ∧ Below W.heap.size W w')) (H1 : Hid (∀ W, Below w.heap.size w W → Calls Tryz.prog 16 #[.agg (rF k n (cellsF f fs))] W fun e w' => e = .returned (.string t) ∧ Below W.heap.size W w')) (H2 : Hid (∀ W, Below w.heap.size w W → Calls Tryz.prog 17 #[.agg (rF k n (cellsF f fs))] W fun e w' => e = .returned (.string t) ∧ Below W.heap.size W w')) :
    Calls Tryz.prog 4 #[.agg (rF k n (cellsF f fs))] w fun e w' => e = .returned (.bool true) ∧ Below w.heap.size w w' := by

  have B0 := Lib.hid (Below.refl w.heap.size w)
  go_enter Tryz.func4, Tryz.ntmps4
  go_upto_region 0 with fail
  refine wp_region_lit ?_
  obtain ⟨w1, hw⟩ : ∃ v, v = w.alloc (.cells (rF k n (cellsF f fs)) 27) := ⟨_, rfl⟩
  obtain ⟨pA, hp⟩ : ∃ v, v = w.heap.size := ⟨_, rfl⟩
  have B1 : Hid (Below w.heap.size w w1) := Lib.hid (by rw [hw]; exact B0.out.alloc B0.out.size _)
  have LEA : Hid (w.heap.size ≤ pA) := Lib.hid (by rw [hp]; exact B0.out.size)
  have KA1 : Hid (Blk w1 pA (rF k n (cellsF f fs)) 27) := Lib.hid (by rw [hw, hp]; exact Blk.new _ _ _)
  with_reducible refine wpList_runWV (some 1) (v := .pointer (some ⟨pA, 0, none⟩)) (w' := w1) ?_ ?_ ?_ ?_
  · rfl
  · rfl
  · rw [hw, hp]; (go_simp; (try rfl))
  simp only [pu, sB, s0, sS]
  clear hw hp
  clear B0
  (with_reducible refine rN (v := .bool false) ?_ ?_ ?_); (· rfl); (· go_simp; (try with_reducible rfl)); simp only [pu, sB, s0, sS]
  have e0 : (t.toList == t.toList) = true := by simp
  go_upto_region 1 with fail
  refine wp_region_held_drew (S := (fun W : World => Blk W pA (rF k n (cellsF f fs)) 27)) (by kernel_rfl) ?_ (fun hHeld => ?_)
  · exact KA1.out.drew
  refine wpAnyH_ready (rs := [0]) (by kernel_rfl) (by simp) ?_
  refine AllReadyH.cons rfl (fun K1 hK1 => ?_) AllReadyH.nil
  go_simp
  go_at_call 13
  refine (callBase (C := w1.heap.size) (w0 := w1) (by go_grown) (Nat.le_refl _) (HL.out _ (B1.out.trans (Below.mono ((by go_grown) : Below w1.heap.size w1 _) B1.out.size)))).mono ?_
  rintro e wd1 ⟨rfl, hbd1⟩
  go_simp
  refine hK1.out _ _ ?_ (fun hHd1 => ?_)
  · exact KA1.out.below hbd1 KA1.out.lt
  clear hK1 K1 hHeld
  try simp only [pu, sB, s0, sS]
  refine take_run 1 (some 4) (v := .bool true) rfl rfl (by kernel_rfl) (by kernel_rfl) (by kernel_rfl) (fun _ _ _ h => h) (by rfl) ?_ (by assumption) ?_
  · (intro W hSw; (try dsimp only at hSw); go_simp; (try with_reducible rfl))
  simp only [pu, sB, s0, sS]
  refine take_loadS 2 (some 5) rfl rfl (by kernel_rfl) (by kernel_rfl) (by kernel_rfl) (fun _ _ _ h => h) (by rfl) (.tmp 1) rfl (b := pA) (cs := (rF k n (cellsF f fs))) (by rfl) (fun W h => h) Tryz.underlying27 rfl (infoTRf18 (rF_sz (cellsF_size f fs))) (by assumption) ?_
  simp only [pu, sB, s0, sS]
  refine take_loadS 4 (some 7) rfl rfl (by kernel_rfl) (by kernel_rfl) (by kernel_rfl) (fun _ _ _ h => h) (by rfl) (.tmp 1) rfl (b := pA) (cs := (rF k n (cellsF f fs))) (by rfl) (fun W h => h) Tryz.underlying27 rfl (infoTRf18 (rF_sz (cellsF_size f fs))) (by assumption) ?_
  simp only [pu, sB, s0, sS]
  refine wpAnyH_ready (rs := [3]) (by kernel_rfl) (by simp) ?_
  refine AllReadyH.cons rfl (fun K2 hK2 => ?_) AllReadyH.nil
  go_simp
  go_at_call 16
  refine (callBase (C := wd1.heap.size) (w0 := wd1) (Below.refl _ _) (Nat.le_refl _) (H1.out _ (B1.out.trans (Below.mono (hbd1 : Below w1.heap.size w1 _) B1.out.size)))).mono ?_
  rintro e wd2 ⟨rfl, hbs2⟩
  have hbd2 := hbd1.trans (hbs2.mono hbd1.size)
  go_simp
  refine hK2.out _ _ ?_ (fun hHd2 => ?_)
  · exact KA1.out.below hbd2 KA1.out.lt
  clear hK2 K2 hHd1
  try simp only [pu, sB, s0, sS]
  refine wpAnyH_ready (rs := [5]) (by kernel_rfl) (by simp) ?_
  refine AllReadyH.cons rfl (fun K3 hK3 => ?_) AllReadyH.nil
  go_simp
  go_at_call 17
  refine (callBase (C := wd2.heap.size) (w0 := wd2) (Below.refl _ _) (Nat.le_refl _) (H2.out _ (B1.out.trans (Below.mono (hbd2 : Below w1.heap.size w1 _) B1.out.size)))).mono ?_
  rintro e wd3 ⟨rfl, hbs3⟩
  have hbd3 := hbd2.trans (hbs3.mono hbd2.size)
  go_simp
  refine hK3.out _ _ ?_ (fun hHd3 => ?_)
  · exact KA1.out.below hbd3 KA1.out.lt
  clear hK3 K3 hHd2
  try simp only [pu, sB, s0, sS]
  refine take_run 6 (some 9) (v := .bool true) rfl rfl (by kernel_rfl) (by kernel_rfl) (by kernel_rfl) (fun _ _ _ h => h) (by rfl) ?_ (by assumption) ?_
  · (intro W hSw; (try dsimp only at hSw); go_simp; (try with_reducible rfl))
  simp only [pu, sB, s0, sS]
  refine take_run 7 (some 10) (v := .bool true) rfl rfl (by kernel_rfl) (by kernel_rfl) (by kernel_rfl) (fun _ _ _ h => h) (by rfl) ?_ (by assumption) ?_
  · (intro W hSw; (try dsimp only at hSw); go_simp; (try with_reducible rfl))
  simp only [pu, sB, s0, sS]
  refine take_run 8 (some 2) (v := .bool true) rfl rfl (by kernel_rfl) (by kernel_rfl) (by kernel_rfl) (fun _ _ _ h => h) (by rfl) ?_ (by assumption) ?_
  · (intro W hSw; (try dsimp only at hSw); go_simp; (try with_reducible rfl))
  simp only [pu, sB, s0, sS]
  refine wpAnyH_done (by kernel_rfl) ?_ _
  have B2 := Lib.hid (B1.out.trans (hbd3.mono B1.out.size))
  have KA2 := Lib.hid (KA1.out.below hbd3 KA1.out.lt)
  go_wp2_with fail
  go_ret
  exact ⟨rfl, B2.out⟩
end Go.Proofs.YtbcgkeclmioeiaaGreatDoor
namespace Go.Proofs.YtbcgkeclmioeiaaGreatDoor
open Go.RowKit
open Wd (Bs)

theorem lawRefIs (k n : Int) (f : Fil.Flt) (fs : ByteArray) (hf : f.sub = fs.data.toList) (hs : fs.size ≤ maxLen) (sp : Int) (w : World) (hE : Env w) :
    Calls Tryz.prog 3 #[.agg (rF k n (cellsF f fs)), .int .i64 sp] w fun e w' => e = .returned (.bool true) ∧ Below w.heap.size w w' :=
  lawIsW k n f fs sp (Rf.okB sp ⟨k, n, f⟩) w (Lib.hid fun W hb => rfAlive W (hE.below hb)) (Lib.hid fun W hb => rfIs k n f fs hf hs sp W (hE.below hb)) (Lib.hid fun W _ => refIs16 k n f fs hf hs sp W)
theorem lawRefTexts (k n : Int) (f : Fil.Flt) (fs : ByteArray) (hf : f.sub = fs.data.toList) (hs : fs.size ≤ maxLen) (w : World) (hE : Env w) :
    Calls Tryz.prog 4 #[.agg (rF k n (cellsF f fs))] w fun e w' => e = .returned (.bool true) ∧ Below w.heap.size w w' :=
  lawTextsW k n f fs ⟨(Rf.textR ⟨k, n, f⟩).toArray⟩ w (Lib.hid fun W hb => rfAlive W (hE.below hb)) (Lib.hid fun W hb => rfText k n f fs hf hs W (hE.below hb)) (Lib.hid fun W _ => refText16 k n f fs hf hs W)
end Go.Proofs.YtbcgkeclmioeiaaGreatDoor
