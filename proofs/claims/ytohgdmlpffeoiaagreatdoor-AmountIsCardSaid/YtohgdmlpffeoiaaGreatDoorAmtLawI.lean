/-
  THE LAWS OF LAYER 14 (amount): Is. By an AI agent.
-/
import Derived.Test.YtohgdmlpffeoiaaGreatDoorAmtGC
import Derived.Test.YtohgdmlpffeoiaaGreatDoorAmtGD
namespace Go.Proofs.YtohgdmlpffeoiaaGreatDoor
open Go.RowKit
open Wd (Bs)

set_option maxHeartbeats 8000000 in
set_option maxRecDepth 100000 in
theorem isLong (k n c : Int) (f : Fil.Flt) (fs : ByteArray) (w : World)
    (HL : Hid (∀ W, Below w.heap.size w W → Calls Tryz.prog 8 #[] W fun e w' => e = .returned (.bool true) ∧ Below W.heap.size W w')) (hl : (100 : Int) < (fs.size : Int)) :
    Calls Tryz.prog 3 #[.agg (cells3 k n c (cellsF f fs))] w fun e w' => e = .returned (.bool true) ∧ Below w.heap.size w w' := by

  have B0 := Lib.hid (Below.refl w.heap.size w)
  go_enter Tryz.func3, Tryz.ntmps3
  go_upto_region 0 with fail
  refine wp_region_lit ?_
  obtain ⟨w1, hw⟩ : ∃ v, v = w.alloc (.cells (cells3 k n c (cellsF f fs)) 27) := ⟨_, rfl⟩
  obtain ⟨pA, hp⟩ : ∃ v, v = w.heap.size := ⟨_, rfl⟩
  have B1 : Hid (Below w.heap.size w w1) := Lib.hid (by rw [hw]; exact B0.out.alloc B0.out.size _)
  have LEA : Hid (w.heap.size ≤ pA) := Lib.hid (by rw [hp]; exact B0.out.size)
  have KA1 : Hid (Blk w1 pA (cells3 k n c (cellsF f fs)) 27) := Lib.hid (by rw [hw, hp]; exact Blk.new _ _ _)
  with_reducible refine wpList_runWV (some 1) (v := .pointer (some ⟨pA, 0, none⟩)) (w' := w1) ?_ ?_ ?_ ?_
  · rfl
  · rfl
  · rw [hw, hp]; (go_simp; (try rfl))
  simp only [pu, sB, s0, sS]
  clear hw hp
  clear B0
  (with_reducible refine rN (v := .bool false) ?_ ?_ ?_); (· rfl); (· go_simp; (try with_reducible rfl)); simp only [pu, sB, s0, sS]
  go_upto_region 1 with fail
  refine wp_region_lit ?_
  (with_reducible refine rN (v := .pointer (some ⟨pA, 3, none⟩)) ?_ ?_ ?_); (· rfl); (· go_simp; (try rfl)); simp only [pu, sB, s0, sS]
  (with_reducible refine rN (v := .pointer (some ⟨pA, 10, none⟩)) ?_ ?_ ?_); (· rfl); (· go_simp; (try rfl)); simp only [pu, sB, s0, sS]
  with_reducible refine wpList_loadV (.tmp 4) (j := 10) (v := .string fs) ?_ ?_ KA1.out ?_ Tryz.underlying9 ?_ ?_
  · rfl
  · rfl
  · exact (Eq.trans (cells3_at k n c (cellsF f fs) 7) rfl)
  · rfl
  simp only [pu, sB, s0, sS]
  (with_reducible refine rN (v := ?_) ?_ ?_ ?_); rotate_left; (· rfl); (· go_simp; (try with_reducible rfl)); simp only [pu, sB, s0, sS]
  (with_reducible refine rN (v := .bool true) ?_ ?_ ?_); (· rfl); (· go_simp; (try with_reducible rfl)); simp only [pu, sB, s0, sS]
  go_upto_region 2 with fail
  refine wp_region_lit ?_
  go_wp2_with fail
  refine (HL.out _ B1.out).mono ?_
  rintro e w2 ⟨rfl, hb⟩
  have B2 := Lib.hid (B1.out.trans (hb.mono B1.out.size))
  have KA2 := Lib.hid (KA1.out.below hb KA1.out.lt)
  clear hb
  clear B1 KA1
  go_simp
  rename_i hKK
  refine hKK _ _ ?_
  clear hKK
  try simp only [pu, sB, s0, sS]
  (with_reducible refine rN (v := .bool true) ?_ ?_ ?_); (· rfl); (· go_simp; (try with_reducible rfl)); simp only [pu, sB, s0, sS]
  go_wp2_with fail
  go_ret
  exact ⟨rfl, B2.out⟩

set_option maxHeartbeats 8000000 in
set_option maxRecDepth 100000 in
theorem isShort (k n c : Int) (f : Fil.Flt) (fs : ByteArray) (v : Bool) (t : ByteArray) (w : World)
    (HL : Hid (∀ W, Below w.heap.size w W → Calls Tryz.prog 8 #[] W fun e w' => e = .returned (.bool true) ∧ Below W.heap.size W w')) (hl : ¬ (100 : Int) < (fs.size : Int)) (H1 : Hid (∀ W, Below w.heap.size w W → Calls Tryz.prog 9 #[.agg (cells3 k n c (cellsF f fs))] W fun e w' => e = .returned (.bool v) ∧ Below W.heap.size W w')) (H2 : Hid (∀ W, Below w.heap.size w W → Calls Tryz.prog 10 #[.agg (cells3 k n c (cellsF f fs))] W fun e w' => e = .returned (.bool v) ∧ Below W.heap.size W w')) (H3 : Hid (∀ W, Below w.heap.size w W → Calls Tryz.prog 11 #[.agg (cells3 k n c (cellsF f fs))] W fun e w' => e = .returned (.string t) ∧ Below W.heap.size W w')) (H4 : Hid (∀ W, Below w.heap.size w W → Calls Tryz.prog 12 #[.agg (cells3 k n c (cellsF f fs))] W fun e w' => e = .returned (.string t) ∧ Below W.heap.size W w')) :
    Calls Tryz.prog 3 #[.agg (cells3 k n c (cellsF f fs))] w fun e w' => e = .returned (.bool true) ∧ Below w.heap.size w w' := by

  have B0 := Lib.hid (Below.refl w.heap.size w)
  go_enter Tryz.func3, Tryz.ntmps3
  go_upto_region 0 with fail
  refine wp_region_lit ?_
  obtain ⟨w1, hw⟩ : ∃ v, v = w.alloc (.cells (cells3 k n c (cellsF f fs)) 27) := ⟨_, rfl⟩
  obtain ⟨pA, hp⟩ : ∃ v, v = w.heap.size := ⟨_, rfl⟩
  have B1 : Hid (Below w.heap.size w w1) := Lib.hid (by rw [hw]; exact B0.out.alloc B0.out.size _)
  have LEA : Hid (w.heap.size ≤ pA) := Lib.hid (by rw [hp]; exact B0.out.size)
  have KA1 : Hid (Blk w1 pA (cells3 k n c (cellsF f fs)) 27) := Lib.hid (by rw [hw, hp]; exact Blk.new _ _ _)
  with_reducible refine wpList_runWV (some 1) (v := .pointer (some ⟨pA, 0, none⟩)) (w' := w1) ?_ ?_ ?_ ?_
  · rfl
  · rfl
  · rw [hw, hp]; (go_simp; (try rfl))
  simp only [pu, sB, s0, sS]
  clear hw hp
  clear B0
  (with_reducible refine rN (v := .bool false) ?_ ?_ ?_); (· rfl); (· go_simp; (try with_reducible rfl)); simp only [pu, sB, s0, sS]
  go_upto_region 1 with fail
  refine wp_region_lit ?_
  (with_reducible refine rN (v := .pointer (some ⟨pA, 3, none⟩)) ?_ ?_ ?_); (· rfl); (· go_simp; (try rfl)); simp only [pu, sB, s0, sS]
  (with_reducible refine rN (v := .pointer (some ⟨pA, 10, none⟩)) ?_ ?_ ?_); (· rfl); (· go_simp; (try rfl)); simp only [pu, sB, s0, sS]
  with_reducible refine wpList_loadV (.tmp 4) (j := 10) (v := .string fs) ?_ ?_ KA1.out ?_ Tryz.underlying9 ?_ ?_
  · rfl
  · rfl
  · exact (Eq.trans (cells3_at k n c (cellsF f fs) 7) rfl)
  · rfl
  simp only [pu, sB, s0, sS]
  (with_reducible refine rN (v := ?_) ?_ ?_ ?_); rotate_left; (· rfl); (· go_simp; (try with_reducible rfl)); simp only [pu, sB, s0, sS]
  (with_reducible refine rN (v := .bool false) ?_ ?_ ?_); (· rfl); (· go_simp; (try with_reducible rfl)); simp only [pu, sB, s0, sS]
  have e0 : (v == v) = true := by simp
  have e1 : (t.toList == t.toList) = true := by simp
  go_upto_region 3 with fail
  refine wp_region_held_drew (S := (fun W : World => Blk W pA (cells3 k n c (cellsF f fs)) 27)) (by kernel_rfl) ?_ (fun hHeld => ?_)
  · exact KA1.out.drew
  refine take_loadS 0 (some 9) rfl rfl (by kernel_rfl) (by kernel_rfl) (by kernel_rfl) (fun _ _ _ h => h) (by rfl) (.tmp 1) rfl (b := pA) (cs := (cells3 k n c (cellsF f fs))) (by rfl) (fun W h => h) Tryz.underlying27 rfl (infoTM19 (cells3_sz (cellsF_size f fs))) (by assumption) ?_
  simp only [pu, sB, s0, sS]
  refine take_loadS 2 (some 11) rfl rfl (by kernel_rfl) (by kernel_rfl) (by kernel_rfl) (fun _ _ _ h => h) (by rfl) (.tmp 1) rfl (b := pA) (cs := (cells3 k n c (cellsF f fs))) (by rfl) (fun W h => h) Tryz.underlying27 rfl (infoTM19 (cells3_sz (cellsF_size f fs))) (by assumption) ?_
  simp only [pu, sB, s0, sS]
  refine wpAnyH_ready (rs := [1]) (by kernel_rfl) (by simp) ?_
  refine AllReadyH.cons rfl (fun K1 hK1 => ?_) AllReadyH.nil
  go_simp
  go_at_call 9
  refine (callBase (C := w1.heap.size) (w0 := w1) (by go_grown) (Nat.le_refl _) (H1.out _ (B1.out.trans (Below.mono ((by go_grown) : Below w1.heap.size w1 _) B1.out.size)))).mono ?_
  rintro e wd1 ⟨rfl, hbd1⟩
  go_simp
  refine hK1.out _ _ ?_ (fun hHd1 => ?_)
  · exact KA1.out.below hbd1 KA1.out.lt
  clear hK1 K1 hHeld
  try simp only [pu, sB, s0, sS]
  refine wpAnyH_ready (rs := [3]) (by kernel_rfl) (by simp) ?_
  refine AllReadyH.cons rfl (fun K2 hK2 => ?_) AllReadyH.nil
  go_simp
  go_at_call 10
  refine (callBase (C := w1.heap.size) (w0 := w1) hbd1 (Nat.le_refl _) (H2.out _ (B1.out.trans (Below.mono (hbd1 : Below w1.heap.size w1 _) B1.out.size)))).mono ?_
  rintro e wd2 ⟨rfl, hbd2⟩
  go_simp
  refine hK2.out _ _ ?_ (fun hHd2 => ?_)
  · exact KA1.out.below hbd2 KA1.out.lt
  clear hK2 K2 hHd1
  try simp only [pu, sB, s0, sS]
  refine take_run 4 (some 13) (v := .bool true) rfl rfl (by kernel_rfl) (by kernel_rfl) (by kernel_rfl) (fun _ _ _ h => h) (by rfl) ?_ (by assumption) ?_
  · (intro W hSw; (try dsimp only at hSw); go_simp; (try with_reducible rfl))
  simp only [pu, sB, s0, sS]
  refine take_run 5 (some 14) (v := .bool true) rfl rfl (by kernel_rfl) (by kernel_rfl) (by kernel_rfl) (fun _ _ _ h => h) (by rfl) ?_ (by assumption) ?_
  · (intro W hSw; (try dsimp only at hSw); go_simp; (try with_reducible rfl))
  simp only [pu, sB, s0, sS]
  refine take_loadS 6 (some 15) rfl rfl (by kernel_rfl) (by kernel_rfl) (by kernel_rfl) (fun _ _ _ h => h) (by rfl) (.tmp 1) rfl (b := pA) (cs := (cells3 k n c (cellsF f fs))) (by rfl) (fun W h => h) Tryz.underlying27 rfl (infoTM19 (cells3_sz (cellsF_size f fs))) (by assumption) ?_
  simp only [pu, sB, s0, sS]
  refine take_loadS 8 (some 17) rfl rfl (by kernel_rfl) (by kernel_rfl) (by kernel_rfl) (fun _ _ _ h => h) (by rfl) (.tmp 1) rfl (b := pA) (cs := (cells3 k n c (cellsF f fs))) (by rfl) (fun W h => h) Tryz.underlying27 rfl (infoTM19 (cells3_sz (cellsF_size f fs))) (by assumption) ?_
  simp only [pu, sB, s0, sS]
  refine wpAnyH_ready (rs := [7]) (by kernel_rfl) (by simp) ?_
  refine AllReadyH.cons rfl (fun K3 hK3 => ?_) AllReadyH.nil
  go_simp
  go_at_call 11
  refine (callBase (C := w1.heap.size) (w0 := w1) hbd2 (Nat.le_refl _) (H3.out _ (B1.out.trans (Below.mono (hbd2 : Below w1.heap.size w1 _) B1.out.size)))).mono ?_
  rintro e wd3 ⟨rfl, hbd3⟩
  go_simp
  refine hK3.out _ _ ?_ (fun hHd3 => ?_)
  · exact KA1.out.below hbd3 KA1.out.lt
  clear hK3 K3 hHd2
  try simp only [pu, sB, s0, sS]
  refine wpAnyH_ready (rs := [9]) (by kernel_rfl) (by simp) ?_
  refine AllReadyH.cons rfl (fun K4 hK4 => ?_) AllReadyH.nil
  go_simp
  go_at_call 12
  refine (callBase (C := w1.heap.size) (w0 := w1) hbd3 (Nat.le_refl _) (H4.out _ (B1.out.trans (Below.mono (hbd3 : Below w1.heap.size w1 _) B1.out.size)))).mono ?_
  rintro e wd4 ⟨rfl, hbd4⟩
  go_simp
  refine hK4.out _ _ ?_ (fun hHd4 => ?_)
  · exact KA1.out.below hbd4 KA1.out.lt
  clear hK4 K4 hHd3
  try simp only [pu, sB, s0, sS]
  refine take_run 10 (some 19) (v := .bool true) rfl rfl (by kernel_rfl) (by kernel_rfl) (by kernel_rfl) (fun _ _ _ h => h) (by rfl) ?_ (by assumption) ?_
  · (intro W hSw; (try dsimp only at hSw); go_simp; (try with_reducible rfl))
  simp only [pu, sB, s0, sS]
  refine take_run 11 (some 20) (v := .bool true) rfl rfl (by kernel_rfl) (by kernel_rfl) (by kernel_rfl) (fun _ _ _ h => h) (by rfl) ?_ (by assumption) ?_
  · (intro W hSw; (try dsimp only at hSw); go_simp; (try with_reducible rfl))
  simp only [pu, sB, s0, sS]
  refine take_run 12 (some 21) (v := .bool true) rfl rfl (by kernel_rfl) (by kernel_rfl) (by kernel_rfl) (fun _ _ _ h => h) (by rfl) ?_ (by assumption) ?_
  · (intro W hSw; (try dsimp only at hSw); go_simp; (try with_reducible rfl))
  simp only [pu, sB, s0, sS]
  refine wpAnyH_ready (rs := [13]) (by kernel_rfl) (by simp) ?_
  refine AllReadyH.cons rfl (fun K5 hK5 => ?_) AllReadyH.nil
  go_simp
  go_at_call 8
  refine (callBase (C := w1.heap.size) (w0 := w1) hbd4 (Nat.le_refl _) (HL.out _ (B1.out.trans (Below.mono (hbd4 : Below w1.heap.size w1 _) B1.out.size)))).mono ?_
  rintro e wd5 ⟨rfl, hbd5⟩
  go_simp
  refine hK5.out _ _ ?_ (fun hHd5 => ?_)
  · exact KA1.out.below hbd5 KA1.out.lt
  clear hK5 K5 hHd4
  try simp only [pu, sB, s0, sS]
  refine take_run 14 (some 23) (v := .bool true) rfl rfl (by kernel_rfl) (by kernel_rfl) (by kernel_rfl) (fun _ _ _ h => h) (by rfl) ?_ (by assumption) ?_
  · (intro W hSw; (try dsimp only at hSw); go_simp; (try with_reducible rfl))
  simp only [pu, sB, s0, sS]
  refine take_run 15 (some 2) (v := .bool true) rfl rfl (by kernel_rfl) (by kernel_rfl) (by kernel_rfl) (fun _ _ _ h => h) (by rfl) ?_ (by assumption) ?_
  · (intro W hSw; (try dsimp only at hSw); go_simp; (try with_reducible rfl))
  simp only [pu, sB, s0, sS]
  refine wpAnyH_done (by kernel_rfl) ?_ _
  have B2 := Lib.hid (B1.out.trans (hbd5.mono B1.out.size))
  have KA2 := Lib.hid (KA1.out.below hbd5 KA1.out.lt)
  go_wp2_with fail
  go_ret
  exact ⟨rfl, B2.out⟩

theorem lawAmountIs (k n c : Int) (f : Fil.Flt) (fs : ByteArray) (hf : f.sub = fs.data.toList) (hs : fs.size ≤ maxLen) (w : World) (hE : EnvA w) :
    Calls Tryz.prog 3 #[.agg (cells3 k n c (cellsF f fs))] w fun e w' => e = .returned (.bool true) ∧ Below w.heap.size w w' := by
  have HL : Hid (∀ W, Below w.heap.size w W → Calls Tryz.prog 8 #[] W fun e w' => e = .returned (.bool true) ∧ Below W.heap.size W w') := Lib.hid fun W hb => amtAlive W (hE.below hb)
  by_cases hl : (100 : Int) < (fs.size : Int)
  · exact isLong k n c f fs w HL hl
  · exact isShort k n c f fs _ ⟨(Amt.textA ⟨k, n, c, f⟩).toArray⟩ w HL hl (Lib.hid fun W hb => amtIs k n c f fs hf hs W (hE.below hb)) (Lib.hid fun W _ => refIs14 k n c f fs hf hs W) (Lib.hid fun W hb => amtText k n c f fs hf hs W (hE.below hb)) (Lib.hid fun W _ => refText14 k n c f fs hf hs W)
end Go.Proofs.YtohgdmlpffeoiaaGreatDoor
