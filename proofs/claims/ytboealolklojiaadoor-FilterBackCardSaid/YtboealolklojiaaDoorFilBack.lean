/-
  THE LAWS OF LAYER 13: Back. By an AI agent.
-/
import Derived.Test.YtboealolklojiaaDoorFilLit
import Derived.Test.YtboealolklojiaaDoorFilCell
import Derived.Deep.Cut
namespace Go.Proofs.YtboealolklojiaaDoor
open Go.RowKit
open Wd (Bs)

set_option maxHeartbeats 8000000 in
set_option maxRecDepth 100000 in
theorem backTT (cs : Array Value) (cs1 : cs.all (·.oneCell') = true) (cs6 : cs.size = cellsZ.size) (tx : ByteArray) (hs : Array Value) (hs1 : hs.all (·.oneCell') = true) (hs6 : hs.size = cellsZ.size) (s : ByteArray) (hls : s.size ≤ 600) (w : World) (hE : Env w)
    (GI : Hid (∀ W, Env W → Calls Tryd.prog 9 #[.agg cs] W fun e w' => e = .returned (.bool true) ∧ Below W.heap.size W w')) (GT : Hid (∀ W, Env W → Calls Tryd.prog 7 #[.agg cs] W fun e w' => e = .returned (.string tx) ∧ Below W.heap.size W w')) (GP : Hid (∀ W, Env W → Calls Tryd.prog 8 #[.string tx] W fun e w' => e = .returned (.tuple #[.agg cs, .int .i64 0]) ∧ Below W.heap.size W w')) (HP : Hid (∀ W, Env W → Calls Tryd.prog 8 #[.string s] W fun e w' => e = .returned (.tuple #[.agg hs, .int .i64 0]) ∧ Below W.heap.size W w')) (HI : Hid (∀ W, Env W → Calls Tryd.prog 9 #[.agg hs] W fun e w' => e = .returned (.bool true) ∧ Below W.heap.size W w')) (HT : Hid (∀ W, Env W → Calls Tryd.prog 7 #[.agg hs] W fun e w' => e = .returned (.string s) ∧ Below W.heap.size W w')) (ge : ∀ W : World, (Op.equalIn 10000 25 (.agg cs) (.agg cs)).run Tryd.prog W = .ok true W) (hne : tx.toList.isEmpty = false) :
    Calls Tryd.prog 3 #[.agg cs, .string s] w fun e w' => e = .returned (.bool true) ∧ Below w.heap.size w w' := by
  have hls1 : ¬ (600 : Int) < (s.size : Int) := by omega
  have HE := Lib.hid (fun (W : World) (hb : Below w.heap.size w W) => hE.below hb)
  have IC : Hid ((Tryd.prog.info? 25).map (·.size) = some cs.size) := Lib.hid (by rw [cs6]; exact infoTFZ)
  have C6 := Lib.hid cs6
  have C1 := Lib.hid cs1
  have IH : Hid ((Tryd.prog.info? 25).map (·.size) = some hs.size) := Lib.hid (by rw [hs6]; exact infoTFZ)
  have H6 := Lib.hid hs6
  have H1 := Lib.hid hs1
  have GE := Lib.hid ge
  have HNE := Lib.hid hne
  have B0 : Hid (Below w.heap.size w (w.alloc (.cells cs 25))) := Lib.hid ((Below.refl _ _).alloc (Nat.le_refl _) _)
  have K0 : Hid (Blk (w.alloc (.cells cs 25)) w.heap.size cs 25) := Lib.hid (Blk.new w cs 25)
  clear hE hls cs6 cs1 hne hs6 hs1 ge
  go_enter Tryd.func3, Tryd.ntmps3
  go_upto_region 3 with fail
  obtain ⟨w0, hw0⟩ : ∃ v, v = w.alloc (.cells cs 25) := ⟨_, rfl⟩
  rw [← hw0] at K0 B0
  try rw [← hw0]
  clear hw0
  refine wp_region_lit ?_
  with_reducible refine wpList_loadS (.tmp 2) ?_ ?_ K0.out Tryd.underlying25 ?_ IC.out ?_
  · rfl
  · rfl
  · rfl
  simp only [Act.put, List.setIfInBounds_toArray, List.set_cons_zero, List.set_cons_succ]
  go_wp2_with fail
  refine (GT.out _ (HE.out _ B0.out)).mono ?_
  rintro e w1 ⟨rfl, hb⟩
  have B1 := Lib.hid (B0.out.trans (hb.mono B0.out.size))
  have K1 := Lib.hid (K0.out.below hb K0.out.lt)
  clear hb
  go_simp
  rename_i hKK
  refine hKK _ _ ?_
  clear hKK
  try simp only [Act.put, List.setIfInBounds_toArray, List.set_cons_zero, List.set_cons_succ]
  go_upto_region 4 with fail
  refine wp_region_lit ?_
  with_reducible refine wpList_runV (some 17) (v := ?_) ?_ ?_ ?_ ?_
  rotate_left
  · rfl
  · rfl
  · (go_simp; (try with_reducible rfl))
  simp only [Act.put, List.setIfInBounds_toArray, List.set_cons_zero, List.set_cons_succ]
  go_wp2_with fail
  refine (GP.out _ (HE.out _ B1.out)).mono ?_
  rintro e w2 ⟨rfl, hb⟩
  have B2 := Lib.hid (B1.out.trans (hb.mono B1.out.size))
  have K2 := Lib.hid (K1.out.below hb K1.out.lt)
  clear hb
  go_simp
  rename_i hKK
  refine hKK _ _ ?_
  clear hKK
  try simp only [Act.put, List.setIfInBounds_toArray, List.set_cons_zero, List.set_cons_succ]
  with_reducible refine wpList_runV (some 16) (v := ?_) ?_ ?_ ?_ ?_
  rotate_left
  · rfl
  · rfl
  · (go_simp; (try with_reducible rfl))
  simp only [Act.put, List.setIfInBounds_toArray, List.set_cons_zero, List.set_cons_succ]
  with_reducible refine wpList_runV (some 19) (v := ?_) ?_ ?_ ?_ ?_
  rotate_left
  · rfl
  · rfl
  · (go_simp; (try with_reducible rfl))
  simp only [Act.put, List.setIfInBounds_toArray, List.set_cons_zero, List.set_cons_succ]
  with_reducible refine wpList_runV (some 20) (v := ?_) ?_ ?_ ?_ ?_
  rotate_left
  · rfl
  · rfl
  · (go_simp; (try with_reducible rfl))
  simp only [Act.put, List.setIfInBounds_toArray, List.set_cons_zero, List.set_cons_succ]
  with_reducible refine wpList_runWV (some 6) (v := .pointer (some ⟨w2.heap.size, 0, none⟩)) (w' := w2.alloc (.cells cellsZ 25)) ?_ ?_ ?_ ?_
  · rfl
  · rfl
  · (go_simp; rfl)
  simp only [Act.put, List.setIfInBounds_toArray, List.set_cons_zero, List.set_cons_succ]
  have N := Blk.new w2 cellsZ 25
  with_reducible refine wpList_storeS (.tmp 6) (.tmp 19) ?_ ?_ N C6.out IC.out C1.out ?_
  · rfl
  · rfl
  have G3 := Lib.hid (N.whole cs C6.out)
  have B3 := Lib.hid (below_whole cs.toList (o := 0) (B2.out.alloc B2.out.size (.cells cellsZ 25)) B2.out.size)
  have K3 := Lib.hid ((K2.out.alloc (.cells cellsZ 25)).wholeElse cs.toList (o := 0) (Nat.ne_of_lt K2.out.lt))
  clear N
  generalize World.setCells _ _ _ _ = w3 at G3 B3 K3 ⊢
  generalize w2.heap.size = Ga at G3 ⊢
  go_upto_region 5 with fail
  have hne : tx.toList.isEmpty = false := HNE.out
  refine wp_region_lit ?_
  with_reducible refine wpList_loadS (.tmp 2) ?_ ?_ K3.out Tryd.underlying25 ?_ IC.out ?_
  · rfl
  · rfl
  · rfl
  simp only [Act.put, List.setIfInBounds_toArray, List.set_cons_zero, List.set_cons_succ]
  go_wp2_with fail
  refine (GI.out _ (HE.out _ B3.out)).mono ?_
  rintro e w4 ⟨rfl, hb⟩
  have B4 := Lib.hid (B3.out.trans (hb.mono B3.out.size))
  have K4 := Lib.hid (K3.out.below hb K3.out.lt)
  have G4 := Lib.hid (G3.out.below hb G3.out.lt)
  clear hb
  go_simp
  rename_i hKK
  refine hKK _ _ ?_
  clear hKK
  try simp only [Act.put, List.setIfInBounds_toArray, List.set_cons_zero, List.set_cons_succ]
  with_reducible refine wpList_runV (some 23) (v := ?_) ?_ ?_ ?_ ?_
  rotate_left
  · rfl
  · rfl
  · (go_simp; (try with_reducible rfl))
  simp only [Act.put, List.setIfInBounds_toArray, List.set_cons_zero, List.set_cons_succ]
  with_reducible refine wpList_runV (some 24) (v := .bool true) ?_ ?_ ?_ ?_
  · rfl
  · rfl
  · (go_simp; (try with_reducible rfl))
  simp only [Act.put, List.setIfInBounds_toArray, List.set_cons_zero, List.set_cons_succ]
  with_reducible refine wpList_runV (some 25) (v := .bool false) ?_ ?_ ?_ ?_
  · rfl
  · rfl
  · (go_simp; (try with_reducible rfl))
  simp only [Act.put, List.setIfInBounds_toArray, List.set_cons_zero, List.set_cons_succ]
  with_reducible refine wpList_runV (some 26) (v := .bool false) ?_ ?_ ?_ ?_
  · rfl
  · rfl
  · (go_simp; (try with_reducible rfl))
  simp only [Act.put, List.setIfInBounds_toArray, List.set_cons_zero, List.set_cons_succ]
  with_reducible refine wpList_loadS (.tmp 2) ?_ ?_ K4.out Tryd.underlying25 ?_ IC.out ?_
  · rfl
  · rfl
  · rfl
  simp only [Act.put, List.setIfInBounds_toArray, List.set_cons_zero, List.set_cons_succ]
  go_wp2_with fail
  refine (GI.out _ (HE.out _ B4.out)).mono ?_
  rintro e w5 ⟨rfl, hb⟩
  have B5 := Lib.hid (B4.out.trans (hb.mono B4.out.size))
  have K5 := Lib.hid (K4.out.below hb K4.out.lt)
  have G5 := Lib.hid (G4.out.below hb G4.out.lt)
  clear hb
  go_simp
  rename_i hKK
  refine hKK _ _ ?_
  clear hKK
  try simp only [Act.put, List.setIfInBounds_toArray, List.set_cons_zero, List.set_cons_succ]
  with_reducible refine wpList_runV (some 29) (v := .bool true) ?_ ?_ ?_ ?_
  · rfl
  · rfl
  · (go_simp; (try with_reducible rfl))
  simp only [Act.put, List.setIfInBounds_toArray, List.set_cons_zero, List.set_cons_succ]
  with_reducible refine wpList_runV (some 30) (v := ?_) ?_ ?_ ?_ ?_
  rotate_left
  · rfl
  · rfl
  · (go_simp; (try with_reducible rfl))
  simp only [Act.put, List.setIfInBounds_toArray, List.set_cons_zero, List.set_cons_succ]
  with_reducible refine wpList_runV (some 31) (v := .bool false) ?_ ?_ ?_ ?_
  · rfl
  · rfl
  · (go_simp; (try with_reducible rfl))
  simp only [Act.put, List.setIfInBounds_toArray, List.set_cons_zero, List.set_cons_succ]
  with_reducible refine wpList_runV (some 32) (v := .bool false) ?_ ?_ ?_ ?_
  · rfl
  · rfl
  · (go_simp; (try with_reducible rfl))
  simp only [Act.put, List.setIfInBounds_toArray, List.set_cons_zero, List.set_cons_succ]
  with_reducible refine wpList_loadS (.tmp 6) ?_ ?_ G5.out Tryd.underlying25 ?_ IC.out ?_
  · rfl
  · rfl
  · rfl
  simp only [Act.put, List.setIfInBounds_toArray, List.set_cons_zero, List.set_cons_succ]
  with_reducible refine wpList_loadS (.tmp 2) ?_ ?_ K5.out Tryd.underlying25 ?_ IC.out ?_
  · rfl
  · rfl
  · rfl
  simp only [Act.put, List.setIfInBounds_toArray, List.set_cons_zero, List.set_cons_succ]
  have ge := GE.out
  with_reducible refine wpList_runV (some 35) (v := .bool false) ?_ ?_ ?_ ?_
  · rfl
  · rfl
  · (go_simp; (try with_reducible rfl))
  simp only [Act.put, List.setIfInBounds_toArray, List.set_cons_zero, List.set_cons_succ]
  with_reducible refine wpList_runV (some 36) (v := .bool false) ?_ ?_ ?_ ?_
  · rfl
  · rfl
  · (go_simp; (try with_reducible rfl))
  simp only [Act.put, List.setIfInBounds_toArray, List.set_cons_zero, List.set_cons_succ]
  with_reducible refine wpList_runV (some 37) (v := .bool false) ?_ ?_ ?_ ?_
  · rfl
  · rfl
  · (go_simp; (try with_reducible rfl))
  simp only [Act.put, List.setIfInBounds_toArray, List.set_cons_zero, List.set_cons_succ]
  with_reducible refine wpList_runV (some 38) (v := .bool false) ?_ ?_ ?_ ?_
  · rfl
  · rfl
  · (go_simp; (try with_reducible rfl))
  simp only [Act.put, List.setIfInBounds_toArray, List.set_cons_zero, List.set_cons_succ]
  go_upto_region 7 with fail
  refine wp_region_lit ?_
  with_reducible refine wpList_runV (some 40) (v := ?_) ?_ ?_ ?_ ?_
  rotate_left
  · rfl
  · rfl
  · (go_simp; (try with_reducible rfl))
  simp only [Act.put, List.setIfInBounds_toArray, List.set_cons_zero, List.set_cons_succ]
  go_wp2_with fail
  refine (HP.out _ (HE.out _ B5.out)).mono ?_
  rintro e w6 ⟨rfl, hb⟩
  have B6 := Lib.hid (B5.out.trans (hb.mono B5.out.size))
  clear hb
  go_simp
  rename_i hKK
  refine hKK _ _ ?_
  clear hKK
  try simp only [Act.put, List.setIfInBounds_toArray, List.set_cons_zero, List.set_cons_succ]
  with_reducible refine wpList_runV (some 39) (v := ?_) ?_ ?_ ?_ ?_
  rotate_left
  · rfl
  · rfl
  · (go_simp; (try with_reducible rfl))
  simp only [Act.put, List.setIfInBounds_toArray, List.set_cons_zero, List.set_cons_succ]
  with_reducible refine wpList_runV (some 42) (v := ?_) ?_ ?_ ?_ ?_
  rotate_left
  · rfl
  · rfl
  · (go_simp; (try with_reducible rfl))
  simp only [Act.put, List.setIfInBounds_toArray, List.set_cons_zero, List.set_cons_succ]
  with_reducible refine wpList_runV (some 43) (v := ?_) ?_ ?_ ?_ ?_
  rotate_left
  · rfl
  · rfl
  · (go_simp; (try with_reducible rfl))
  simp only [Act.put, List.setIfInBounds_toArray, List.set_cons_zero, List.set_cons_succ]
  with_reducible refine wpList_runWV (some 8) (v := .pointer (some ⟨w6.heap.size, 0, none⟩)) (w' := w6.alloc (.cells cellsZ 25)) ?_ ?_ ?_ ?_
  · rfl
  · rfl
  · (go_simp; rfl)
  simp only [Act.put, List.setIfInBounds_toArray, List.set_cons_zero, List.set_cons_succ]
  have N := Blk.new w6 cellsZ 25
  with_reducible refine wpList_storeS (.tmp 8) (.tmp 42) ?_ ?_ N H6.out IH.out H1.out ?_
  · rfl
  · rfl
  have J7 := Lib.hid (N.whole hs H6.out)
  have B7 := Lib.hid (below_whole hs.toList (o := 0) (B6.out.alloc B6.out.size (.cells cellsZ 25)) B6.out.size)
  clear N
  generalize World.setCells _ _ _ _ = w7 at J7 B7 ⊢
  generalize w6.heap.size = Ja at J7 ⊢
  go_upto_region 8 with fail
  refine wp_region_lit ?_
  go_wp2_with fail
  refine (filAlive _ (HE.out _ B7.out)).mono ?_
  rintro e w8 ⟨rfl, hb⟩
  have B8 := Lib.hid (B7.out.trans (hb.mono B7.out.size))
  have J8 := Lib.hid (J7.out.below hb J7.out.lt)
  clear hb
  go_simp
  rename_i hKK
  refine hKK _ _ ?_
  clear hKK
  try simp only [Act.put, List.setIfInBounds_toArray, List.set_cons_zero, List.set_cons_succ]
  with_reducible refine wpList_runV (some 45) (v := .bool true) ?_ ?_ ?_ ?_
  · rfl
  · rfl
  · (go_simp; (try with_reducible rfl))
  simp only [Act.put, List.setIfInBounds_toArray, List.set_cons_zero, List.set_cons_succ]
  with_reducible refine wpList_runV (some 46) (v := ?_) ?_ ?_ ?_ ?_
  rotate_left
  · rfl
  · rfl
  · (go_simp; (try with_reducible rfl))
  simp only [Act.put, List.setIfInBounds_toArray, List.set_cons_zero, List.set_cons_succ]
  with_reducible refine wpList_runV (some 47) (v := .bool false) ?_ ?_ ?_ ?_
  · rfl
  · rfl
  · (go_simp; (try with_reducible rfl))
  simp only [Act.put, List.setIfInBounds_toArray, List.set_cons_zero, List.set_cons_succ]
  with_reducible refine wpList_runV (some 48) (v := .bool false) ?_ ?_ ?_ ?_
  · rfl
  · rfl
  · (go_simp; (try with_reducible rfl))
  simp only [Act.put, List.setIfInBounds_toArray, List.set_cons_zero, List.set_cons_succ]
  with_reducible refine wpList_skipV (some 49) ?_ ?_ ?_
  · rfl
  · rfl
  simp only [Act.put, List.setIfInBounds_toArray, List.set_cons_zero, List.set_cons_succ]
  with_reducible refine wpList_skipV (some 50) ?_ ?_ ?_
  · rfl
  · rfl
  simp only [Act.put, List.setIfInBounds_toArray, List.set_cons_zero, List.set_cons_succ]
  with_reducible refine wpList_skipV (some 51) ?_ ?_ ?_
  · rfl
  · rfl
  simp only [Act.put, List.setIfInBounds_toArray, List.set_cons_zero, List.set_cons_succ]
  with_reducible refine wpList_runV (some 52) (v := .bool false) ?_ ?_ ?_ ?_
  · rfl
  · rfl
  · (go_simp; (try with_reducible rfl))
  simp only [Act.put, List.setIfInBounds_toArray, List.set_cons_zero, List.set_cons_succ]
  with_reducible refine wpList_runV (some 53) (v := .bool false) ?_ ?_ ?_ ?_
  · rfl
  · rfl
  · (go_simp; (try with_reducible rfl))
  simp only [Act.put, List.setIfInBounds_toArray, List.set_cons_zero, List.set_cons_succ]
  with_reducible refine wpList_runV (some 54) (v := ?_) ?_ ?_ ?_ ?_
  rotate_left
  · rfl
  · rfl
  · (go_simp; (try with_reducible rfl))
  simp only [Act.put, List.setIfInBounds_toArray, List.set_cons_zero, List.set_cons_succ]
  with_reducible refine wpList_runV (some 55) (v := .bool true) ?_ ?_ ?_ ?_
  · rfl
  · rfl
  · (go_simp; (try with_reducible rfl))
  simp only [Act.put, List.setIfInBounds_toArray, List.set_cons_zero, List.set_cons_succ]
  with_reducible refine wpList_runV (some 56) (v := .bool true) ?_ ?_ ?_ ?_
  · rfl
  · rfl
  · (go_simp; (try with_reducible rfl))
  simp only [Act.put, List.setIfInBounds_toArray, List.set_cons_zero, List.set_cons_succ]
  with_reducible refine wpList_loadS (.tmp 8) ?_ ?_ J8.out Tryd.underlying25 ?_ IH.out ?_
  · rfl
  · rfl
  · rfl
  simp only [Act.put, List.setIfInBounds_toArray, List.set_cons_zero, List.set_cons_succ]
  go_wp2_with fail
  refine (HI.out _ (HE.out _ B8.out)).mono ?_
  rintro e w9 ⟨rfl, hb⟩
  have B9 := Lib.hid (B8.out.trans (hb.mono B8.out.size))
  have J9 := Lib.hid (J8.out.below hb J8.out.lt)
  clear hb
  go_simp
  rename_i hKK
  refine hKK _ _ ?_
  clear hKK
  try simp only [Act.put, List.setIfInBounds_toArray, List.set_cons_zero, List.set_cons_succ]
  with_reducible refine wpList_runV (some 59) (v := .bool true) ?_ ?_ ?_ ?_
  · rfl
  · rfl
  · (go_simp; (try with_reducible rfl))
  simp only [Act.put, List.setIfInBounds_toArray, List.set_cons_zero, List.set_cons_succ]
  with_reducible refine wpList_runV (some 60) (v := .bool true) ?_ ?_ ?_ ?_
  · rfl
  · rfl
  · (go_simp; (try with_reducible rfl))
  simp only [Act.put, List.setIfInBounds_toArray, List.set_cons_zero, List.set_cons_succ]
  with_reducible refine wpList_loadS (.tmp 8) ?_ ?_ J9.out Tryd.underlying25 ?_ IH.out ?_
  · rfl
  · rfl
  · rfl
  simp only [Act.put, List.setIfInBounds_toArray, List.set_cons_zero, List.set_cons_succ]
  go_wp2_with fail
  refine (HT.out _ (HE.out _ B9.out)).mono ?_
  rintro e w10 ⟨rfl, hb⟩
  have B10 := Lib.hid (B9.out.trans (hb.mono B9.out.size))
  clear hb
  go_simp
  rename_i hKK
  refine hKK _ _ ?_
  clear hKK
  try simp only [Act.put, List.setIfInBounds_toArray, List.set_cons_zero, List.set_cons_succ]
  with_reducible refine wpList_runV (some 63) (v := ?_) ?_ ?_ ?_ ?_
  rotate_left
  · rfl
  · rfl
  · (go_simp; (try with_reducible rfl))
  simp only [Act.put, List.setIfInBounds_toArray, List.set_cons_zero, List.set_cons_succ]
  with_reducible refine wpList_runV (some 64) (v := .bool true) ?_ ?_ ?_ ?_
  · rfl
  · rfl
  · (go_simp; (try with_reducible rfl))
  simp only [Act.put, List.setIfInBounds_toArray, List.set_cons_zero, List.set_cons_succ]
  with_reducible refine wpList_runV (some 65) (v := .bool true) ?_ ?_ ?_ ?_
  · rfl
  · rfl
  · (go_simp; (try with_reducible rfl))
  simp only [Act.put, List.setIfInBounds_toArray, List.set_cons_zero, List.set_cons_succ]
  with_reducible refine wpList_runV (some 66) (v := .bool true) ?_ ?_ ?_ ?_
  · rfl
  · rfl
  · (go_simp; (try with_reducible rfl))
  simp only [Act.put, List.setIfInBounds_toArray, List.set_cons_zero, List.set_cons_succ]
  with_reducible refine wpList_runV (some 67) (v := .bool true) ?_ ?_ ?_ ?_
  · rfl
  · rfl
  · (go_simp; (try with_reducible rfl))
  simp only [Act.put, List.setIfInBounds_toArray, List.set_cons_zero, List.set_cons_succ]
  go_wp2_with fail
  go_ret
  exact ⟨rfl, B10.out⟩
set_option maxHeartbeats 8000000 in
set_option maxRecDepth 100000 in
theorem backTF (cs : Array Value) (cs1 : cs.all (·.oneCell') = true) (cs6 : cs.size = cellsZ.size) (tx : ByteArray)  (s : ByteArray) (hls : s.size ≤ 600) (w : World) (hE : Env w)
    (GI : Hid (∀ W, Env W → Calls Tryd.prog 9 #[.agg cs] W fun e w' => e = .returned (.bool true) ∧ Below W.heap.size W w')) (GT : Hid (∀ W, Env W → Calls Tryd.prog 7 #[.agg cs] W fun e w' => e = .returned (.string tx) ∧ Below W.heap.size W w')) (GP : Hid (∀ W, Env W → Calls Tryd.prog 8 #[.string tx] W fun e w' => e = .returned (.tuple #[.agg cs, .int .i64 0]) ∧ Below W.heap.size W w')) (HP : Hid (∀ W, Env W → Calls Tryd.prog 8 #[.string s] W fun e w' => e = .returned (.tuple #[.agg cellsZ, .int .i64 3]) ∧ Below W.heap.size W w')) (ge : ∀ W : World, (Op.equalIn 10000 25 (.agg cs) (.agg cs)).run Tryd.prog W = .ok true W) (he : ∀ W : World, (Op.equalIn 10000 25 (.agg cellsZ) (.agg cellsZ)).run Tryd.prog W = .ok true W) (hne : tx.toList.isEmpty = false) :
    Calls Tryd.prog 3 #[.agg cs, .string s] w fun e w' => e = .returned (.bool true) ∧ Below w.heap.size w w' := by
  have hls1 : ¬ (600 : Int) < (s.size : Int) := by omega
  have HE := Lib.hid (fun (W : World) (hb : Below w.heap.size w W) => hE.below hb)
  have IC : Hid ((Tryd.prog.info? 25).map (·.size) = some cs.size) := Lib.hid (by rw [cs6]; exact infoTFZ)
  have C6 := Lib.hid cs6
  have C1 := Lib.hid cs1
  have GE := Lib.hid ge
  have HZ := Lib.hid he
  have HNE := Lib.hid hne
  have B0 : Hid (Below w.heap.size w (w.alloc (.cells cs 25))) := Lib.hid ((Below.refl _ _).alloc (Nat.le_refl _) _)
  have K0 : Hid (Blk (w.alloc (.cells cs 25)) w.heap.size cs 25) := Lib.hid (Blk.new w cs 25)
  clear hE hls cs6 cs1 hne ge he
  go_enter Tryd.func3, Tryd.ntmps3
  go_upto_region 3 with fail
  obtain ⟨w0, hw0⟩ : ∃ v, v = w.alloc (.cells cs 25) := ⟨_, rfl⟩
  rw [← hw0] at K0 B0
  try rw [← hw0]
  clear hw0
  refine wp_region_lit ?_
  with_reducible refine wpList_loadS (.tmp 2) ?_ ?_ K0.out Tryd.underlying25 ?_ IC.out ?_
  · rfl
  · rfl
  · rfl
  simp only [Act.put, List.setIfInBounds_toArray, List.set_cons_zero, List.set_cons_succ]
  go_wp2_with fail
  refine (GT.out _ (HE.out _ B0.out)).mono ?_
  rintro e w1 ⟨rfl, hb⟩
  have B1 := Lib.hid (B0.out.trans (hb.mono B0.out.size))
  have K1 := Lib.hid (K0.out.below hb K0.out.lt)
  clear hb
  go_simp
  rename_i hKK
  refine hKK _ _ ?_
  clear hKK
  try simp only [Act.put, List.setIfInBounds_toArray, List.set_cons_zero, List.set_cons_succ]
  go_upto_region 4 with fail
  refine wp_region_lit ?_
  with_reducible refine wpList_runV (some 17) (v := ?_) ?_ ?_ ?_ ?_
  rotate_left
  · rfl
  · rfl
  · (go_simp; (try with_reducible rfl))
  simp only [Act.put, List.setIfInBounds_toArray, List.set_cons_zero, List.set_cons_succ]
  go_wp2_with fail
  refine (GP.out _ (HE.out _ B1.out)).mono ?_
  rintro e w2 ⟨rfl, hb⟩
  have B2 := Lib.hid (B1.out.trans (hb.mono B1.out.size))
  have K2 := Lib.hid (K1.out.below hb K1.out.lt)
  clear hb
  go_simp
  rename_i hKK
  refine hKK _ _ ?_
  clear hKK
  try simp only [Act.put, List.setIfInBounds_toArray, List.set_cons_zero, List.set_cons_succ]
  with_reducible refine wpList_runV (some 16) (v := ?_) ?_ ?_ ?_ ?_
  rotate_left
  · rfl
  · rfl
  · (go_simp; (try with_reducible rfl))
  simp only [Act.put, List.setIfInBounds_toArray, List.set_cons_zero, List.set_cons_succ]
  with_reducible refine wpList_runV (some 19) (v := ?_) ?_ ?_ ?_ ?_
  rotate_left
  · rfl
  · rfl
  · (go_simp; (try with_reducible rfl))
  simp only [Act.put, List.setIfInBounds_toArray, List.set_cons_zero, List.set_cons_succ]
  with_reducible refine wpList_runV (some 20) (v := ?_) ?_ ?_ ?_ ?_
  rotate_left
  · rfl
  · rfl
  · (go_simp; (try with_reducible rfl))
  simp only [Act.put, List.setIfInBounds_toArray, List.set_cons_zero, List.set_cons_succ]
  with_reducible refine wpList_runWV (some 6) (v := .pointer (some ⟨w2.heap.size, 0, none⟩)) (w' := w2.alloc (.cells cellsZ 25)) ?_ ?_ ?_ ?_
  · rfl
  · rfl
  · (go_simp; rfl)
  simp only [Act.put, List.setIfInBounds_toArray, List.set_cons_zero, List.set_cons_succ]
  have N := Blk.new w2 cellsZ 25
  with_reducible refine wpList_storeS (.tmp 6) (.tmp 19) ?_ ?_ N C6.out IC.out C1.out ?_
  · rfl
  · rfl
  have G3 := Lib.hid (N.whole cs C6.out)
  have B3 := Lib.hid (below_whole cs.toList (o := 0) (B2.out.alloc B2.out.size (.cells cellsZ 25)) B2.out.size)
  have K3 := Lib.hid ((K2.out.alloc (.cells cellsZ 25)).wholeElse cs.toList (o := 0) (Nat.ne_of_lt K2.out.lt))
  clear N
  generalize World.setCells _ _ _ _ = w3 at G3 B3 K3 ⊢
  generalize w2.heap.size = Ga at G3 ⊢
  go_upto_region 5 with fail
  have hne : tx.toList.isEmpty = false := HNE.out
  refine wp_region_lit ?_
  with_reducible refine wpList_loadS (.tmp 2) ?_ ?_ K3.out Tryd.underlying25 ?_ IC.out ?_
  · rfl
  · rfl
  · rfl
  simp only [Act.put, List.setIfInBounds_toArray, List.set_cons_zero, List.set_cons_succ]
  go_wp2_with fail
  refine (GI.out _ (HE.out _ B3.out)).mono ?_
  rintro e w4 ⟨rfl, hb⟩
  have B4 := Lib.hid (B3.out.trans (hb.mono B3.out.size))
  have K4 := Lib.hid (K3.out.below hb K3.out.lt)
  have G4 := Lib.hid (G3.out.below hb G3.out.lt)
  clear hb
  go_simp
  rename_i hKK
  refine hKK _ _ ?_
  clear hKK
  try simp only [Act.put, List.setIfInBounds_toArray, List.set_cons_zero, List.set_cons_succ]
  with_reducible refine wpList_runV (some 23) (v := ?_) ?_ ?_ ?_ ?_
  rotate_left
  · rfl
  · rfl
  · (go_simp; (try with_reducible rfl))
  simp only [Act.put, List.setIfInBounds_toArray, List.set_cons_zero, List.set_cons_succ]
  with_reducible refine wpList_runV (some 24) (v := .bool true) ?_ ?_ ?_ ?_
  · rfl
  · rfl
  · (go_simp; (try with_reducible rfl))
  simp only [Act.put, List.setIfInBounds_toArray, List.set_cons_zero, List.set_cons_succ]
  with_reducible refine wpList_runV (some 25) (v := .bool false) ?_ ?_ ?_ ?_
  · rfl
  · rfl
  · (go_simp; (try with_reducible rfl))
  simp only [Act.put, List.setIfInBounds_toArray, List.set_cons_zero, List.set_cons_succ]
  with_reducible refine wpList_runV (some 26) (v := .bool false) ?_ ?_ ?_ ?_
  · rfl
  · rfl
  · (go_simp; (try with_reducible rfl))
  simp only [Act.put, List.setIfInBounds_toArray, List.set_cons_zero, List.set_cons_succ]
  with_reducible refine wpList_loadS (.tmp 2) ?_ ?_ K4.out Tryd.underlying25 ?_ IC.out ?_
  · rfl
  · rfl
  · rfl
  simp only [Act.put, List.setIfInBounds_toArray, List.set_cons_zero, List.set_cons_succ]
  go_wp2_with fail
  refine (GI.out _ (HE.out _ B4.out)).mono ?_
  rintro e w5 ⟨rfl, hb⟩
  have B5 := Lib.hid (B4.out.trans (hb.mono B4.out.size))
  have K5 := Lib.hid (K4.out.below hb K4.out.lt)
  have G5 := Lib.hid (G4.out.below hb G4.out.lt)
  clear hb
  go_simp
  rename_i hKK
  refine hKK _ _ ?_
  clear hKK
  try simp only [Act.put, List.setIfInBounds_toArray, List.set_cons_zero, List.set_cons_succ]
  with_reducible refine wpList_runV (some 29) (v := .bool true) ?_ ?_ ?_ ?_
  · rfl
  · rfl
  · (go_simp; (try with_reducible rfl))
  simp only [Act.put, List.setIfInBounds_toArray, List.set_cons_zero, List.set_cons_succ]
  with_reducible refine wpList_runV (some 30) (v := ?_) ?_ ?_ ?_ ?_
  rotate_left
  · rfl
  · rfl
  · (go_simp; (try with_reducible rfl))
  simp only [Act.put, List.setIfInBounds_toArray, List.set_cons_zero, List.set_cons_succ]
  with_reducible refine wpList_runV (some 31) (v := .bool false) ?_ ?_ ?_ ?_
  · rfl
  · rfl
  · (go_simp; (try with_reducible rfl))
  simp only [Act.put, List.setIfInBounds_toArray, List.set_cons_zero, List.set_cons_succ]
  with_reducible refine wpList_runV (some 32) (v := .bool false) ?_ ?_ ?_ ?_
  · rfl
  · rfl
  · (go_simp; (try with_reducible rfl))
  simp only [Act.put, List.setIfInBounds_toArray, List.set_cons_zero, List.set_cons_succ]
  with_reducible refine wpList_loadS (.tmp 6) ?_ ?_ G5.out Tryd.underlying25 ?_ IC.out ?_
  · rfl
  · rfl
  · rfl
  simp only [Act.put, List.setIfInBounds_toArray, List.set_cons_zero, List.set_cons_succ]
  with_reducible refine wpList_loadS (.tmp 2) ?_ ?_ K5.out Tryd.underlying25 ?_ IC.out ?_
  · rfl
  · rfl
  · rfl
  simp only [Act.put, List.setIfInBounds_toArray, List.set_cons_zero, List.set_cons_succ]
  have ge := GE.out
  with_reducible refine wpList_runV (some 35) (v := .bool false) ?_ ?_ ?_ ?_
  · rfl
  · rfl
  · (go_simp; (try with_reducible rfl))
  simp only [Act.put, List.setIfInBounds_toArray, List.set_cons_zero, List.set_cons_succ]
  with_reducible refine wpList_runV (some 36) (v := .bool false) ?_ ?_ ?_ ?_
  · rfl
  · rfl
  · (go_simp; (try with_reducible rfl))
  simp only [Act.put, List.setIfInBounds_toArray, List.set_cons_zero, List.set_cons_succ]
  with_reducible refine wpList_runV (some 37) (v := .bool false) ?_ ?_ ?_ ?_
  · rfl
  · rfl
  · (go_simp; (try with_reducible rfl))
  simp only [Act.put, List.setIfInBounds_toArray, List.set_cons_zero, List.set_cons_succ]
  with_reducible refine wpList_runV (some 38) (v := .bool false) ?_ ?_ ?_ ?_
  · rfl
  · rfl
  · (go_simp; (try with_reducible rfl))
  simp only [Act.put, List.setIfInBounds_toArray, List.set_cons_zero, List.set_cons_succ]
  go_upto_region 7 with fail
  refine wp_region_lit ?_
  with_reducible refine wpList_runV (some 40) (v := ?_) ?_ ?_ ?_ ?_
  rotate_left
  · rfl
  · rfl
  · (go_simp; (try with_reducible rfl))
  simp only [Act.put, List.setIfInBounds_toArray, List.set_cons_zero, List.set_cons_succ]
  go_wp2_with fail
  refine (HP.out _ (HE.out _ B5.out)).mono ?_
  rintro e w6 ⟨rfl, hb⟩
  have B6 := Lib.hid (B5.out.trans (hb.mono B5.out.size))
  clear hb
  go_simp
  rename_i hKK
  refine hKK _ _ ?_
  clear hKK
  try simp only [Act.put, List.setIfInBounds_toArray, List.set_cons_zero, List.set_cons_succ]
  with_reducible refine wpList_runV (some 39) (v := ?_) ?_ ?_ ?_ ?_
  rotate_left
  · rfl
  · rfl
  · (go_simp; (try with_reducible rfl))
  simp only [Act.put, List.setIfInBounds_toArray, List.set_cons_zero, List.set_cons_succ]
  with_reducible refine wpList_runV (some 42) (v := ?_) ?_ ?_ ?_ ?_
  rotate_left
  · rfl
  · rfl
  · (go_simp; (try with_reducible rfl))
  simp only [Act.put, List.setIfInBounds_toArray, List.set_cons_zero, List.set_cons_succ]
  with_reducible refine wpList_runV (some 43) (v := ?_) ?_ ?_ ?_ ?_
  rotate_left
  · rfl
  · rfl
  · (go_simp; (try with_reducible rfl))
  simp only [Act.put, List.setIfInBounds_toArray, List.set_cons_zero, List.set_cons_succ]
  with_reducible refine wpList_runWV (some 8) (v := .pointer (some ⟨w6.heap.size, 0, none⟩)) (w' := w6.alloc (.cells cellsZ 25)) ?_ ?_ ?_ ?_
  · rfl
  · rfl
  · (go_simp; rfl)
  simp only [Act.put, List.setIfInBounds_toArray, List.set_cons_zero, List.set_cons_succ]
  have N := Blk.new w6 cellsZ 25
  with_reducible refine wpList_storeS (.tmp 8) (.tmp 42) ?_ ?_ N rfl infoTFZ cellsZ_one ?_
  · rfl
  · rfl
  have J7 := Lib.hid (N.whole cellsZ rfl)
  have B7 := Lib.hid (below_whole cellsZ.toList (o := 0) (B6.out.alloc B6.out.size (.cells cellsZ 25)) B6.out.size)
  clear N
  generalize World.setCells _ _ _ _ = w7 at J7 B7 ⊢
  generalize w6.heap.size = Ja at J7 ⊢
  go_upto_region 8 with fail
  refine wp_region_lit ?_
  go_wp2_with fail
  refine (filAlive _ (HE.out _ B7.out)).mono ?_
  rintro e w8 ⟨rfl, hb⟩
  have B8 := Lib.hid (B7.out.trans (hb.mono B7.out.size))
  have J8 := Lib.hid (J7.out.below hb J7.out.lt)
  clear hb
  go_simp
  rename_i hKK
  refine hKK _ _ ?_
  clear hKK
  try simp only [Act.put, List.setIfInBounds_toArray, List.set_cons_zero, List.set_cons_succ]
  with_reducible refine wpList_runV (some 45) (v := .bool true) ?_ ?_ ?_ ?_
  · rfl
  · rfl
  · (go_simp; (try with_reducible rfl))
  simp only [Act.put, List.setIfInBounds_toArray, List.set_cons_zero, List.set_cons_succ]
  with_reducible refine wpList_runV (some 46) (v := ?_) ?_ ?_ ?_ ?_
  rotate_left
  · rfl
  · rfl
  · (go_simp; (try with_reducible rfl))
  simp only [Act.put, List.setIfInBounds_toArray, List.set_cons_zero, List.set_cons_succ]
  with_reducible refine wpList_runV (some 47) (v := .bool true) ?_ ?_ ?_ ?_
  · rfl
  · rfl
  · (go_simp; (try with_reducible rfl))
  simp only [Act.put, List.setIfInBounds_toArray, List.set_cons_zero, List.set_cons_succ]
  with_reducible refine wpList_runV (some 48) (v := .bool true) ?_ ?_ ?_ ?_
  · rfl
  · rfl
  · (go_simp; (try with_reducible rfl))
  simp only [Act.put, List.setIfInBounds_toArray, List.set_cons_zero, List.set_cons_succ]
  with_reducible refine wpList_loadS (.tmp 8) ?_ ?_ J8.out Tryd.underlying25 ?_ infoTFZ ?_
  · rfl
  · rfl
  · rfl
  simp only [Act.put, List.setIfInBounds_toArray, List.set_cons_zero, List.set_cons_succ]
  have he := HZ.out
  with_reducible refine wpList_runV (some 50) (v := .agg cellsZ) ?_ ?_ ?_ ?_
  · rfl
  · rfl
  · (go_simp; rfl)
  simp only [Act.put, List.setIfInBounds_toArray, List.set_cons_zero, List.set_cons_succ]
  with_reducible refine wpList_runV (some 51) (v := .bool true) ?_ ?_ ?_ ?_
  · rfl
  · rfl
  · (go_simp; (try with_reducible rfl))
  simp only [Act.put, List.setIfInBounds_toArray, List.set_cons_zero, List.set_cons_succ]
  with_reducible refine wpList_runV (some 52) (v := .bool true) ?_ ?_ ?_ ?_
  · rfl
  · rfl
  · (go_simp; (try with_reducible rfl))
  simp only [Act.put, List.setIfInBounds_toArray, List.set_cons_zero, List.set_cons_succ]
  with_reducible refine wpList_runV (some 53) (v := .bool true) ?_ ?_ ?_ ?_
  · rfl
  · rfl
  · (go_simp; (try with_reducible rfl))
  simp only [Act.put, List.setIfInBounds_toArray, List.set_cons_zero, List.set_cons_succ]
  with_reducible refine wpList_skipV (some 54) ?_ ?_ ?_
  · rfl
  · rfl
  simp only [Act.put, List.setIfInBounds_toArray, List.set_cons_zero, List.set_cons_succ]
  with_reducible refine wpList_skipV (some 55) ?_ ?_ ?_
  · rfl
  · rfl
  simp only [Act.put, List.setIfInBounds_toArray, List.set_cons_zero, List.set_cons_succ]
  with_reducible refine wpList_skipV (some 56) ?_ ?_ ?_
  · rfl
  · rfl
  simp only [Act.put, List.setIfInBounds_toArray, List.set_cons_zero, List.set_cons_succ]
  with_reducible refine wpList_skipV (some 57) ?_ ?_ ?_
  · rfl
  · rfl
  simp only [Act.put, List.setIfInBounds_toArray, List.set_cons_zero, List.set_cons_succ]
  with_reducible refine wpList_skipV (some 58) ?_ ?_ ?_
  · rfl
  · rfl
  simp only [Act.put, List.setIfInBounds_toArray, List.set_cons_zero, List.set_cons_succ]
  with_reducible refine wpList_skipV (some 59) ?_ ?_ ?_
  · rfl
  · rfl
  simp only [Act.put, List.setIfInBounds_toArray, List.set_cons_zero, List.set_cons_succ]
  with_reducible refine wpList_skipV (some 60) ?_ ?_ ?_
  · rfl
  · rfl
  simp only [Act.put, List.setIfInBounds_toArray, List.set_cons_zero, List.set_cons_succ]
  with_reducible refine wpList_skipV (some 61) ?_ ?_ ?_
  · rfl
  · rfl
  simp only [Act.put, List.setIfInBounds_toArray, List.set_cons_zero, List.set_cons_succ]
  with_reducible refine wpList_skipV (some 62) ?_ ?_ ?_
  · rfl
  · rfl
  simp only [Act.put, List.setIfInBounds_toArray, List.set_cons_zero, List.set_cons_succ]
  with_reducible refine wpList_skipV (some 63) ?_ ?_ ?_
  · rfl
  · rfl
  simp only [Act.put, List.setIfInBounds_toArray, List.set_cons_zero, List.set_cons_succ]
  with_reducible refine wpList_skipV (some 64) ?_ ?_ ?_
  · rfl
  · rfl
  simp only [Act.put, List.setIfInBounds_toArray, List.set_cons_zero, List.set_cons_succ]
  with_reducible refine wpList_skipV (some 65) ?_ ?_ ?_
  · rfl
  · rfl
  simp only [Act.put, List.setIfInBounds_toArray, List.set_cons_zero, List.set_cons_succ]
  with_reducible refine wpList_runV (some 66) (v := .bool true) ?_ ?_ ?_ ?_
  · rfl
  · rfl
  · (go_simp; (try with_reducible rfl))
  simp only [Act.put, List.setIfInBounds_toArray, List.set_cons_zero, List.set_cons_succ]
  with_reducible refine wpList_runV (some 67) (v := .bool true) ?_ ?_ ?_ ?_
  · rfl
  · rfl
  · (go_simp; (try with_reducible rfl))
  simp only [Act.put, List.setIfInBounds_toArray, List.set_cons_zero, List.set_cons_succ]
  go_wp2_with fail
  go_ret
  exact ⟨rfl, B8.out⟩
set_option maxHeartbeats 8000000 in
set_option maxRecDepth 100000 in
theorem backFT (cs : Array Value) (cs1 : cs.all (·.oneCell') = true) (cs6 : cs.size = cellsZ.size) (tx : ByteArray) (hs : Array Value) (hs1 : hs.all (·.oneCell') = true) (hs6 : hs.size = cellsZ.size) (s : ByteArray) (hls : s.size ≤ 600) (w : World) (hE : Env w)
    (GI : Hid (∀ W, Env W → Calls Tryd.prog 9 #[.agg cs] W fun e w' => e = .returned (.bool false) ∧ Below W.heap.size W w')) (GT : Hid (∀ W, Env W → Calls Tryd.prog 7 #[.agg cs] W fun e w' => e = .returned (.string tx) ∧ Below W.heap.size W w')) (GP : Hid (∀ W, Env W → Calls Tryd.prog 8 #[.string tx] W fun e w' => e = .returned (.tuple #[.agg cellsZ, .int .i64 3]) ∧ Below W.heap.size W w')) (HP : Hid (∀ W, Env W → Calls Tryd.prog 8 #[.string s] W fun e w' => e = .returned (.tuple #[.agg hs, .int .i64 0]) ∧ Below W.heap.size W w')) (HI : Hid (∀ W, Env W → Calls Tryd.prog 9 #[.agg hs] W fun e w' => e = .returned (.bool true) ∧ Below W.heap.size W w')) (HT : Hid (∀ W, Env W → Calls Tryd.prog 7 #[.agg hs] W fun e w' => e = .returned (.string s) ∧ Below W.heap.size W w')) (hne : tx.toList.isEmpty = true) :
    Calls Tryd.prog 3 #[.agg cs, .string s] w fun e w' => e = .returned (.bool true) ∧ Below w.heap.size w w' := by
  have hls1 : ¬ (600 : Int) < (s.size : Int) := by omega
  have HE := Lib.hid (fun (W : World) (hb : Below w.heap.size w W) => hE.below hb)
  have IC : Hid ((Tryd.prog.info? 25).map (·.size) = some cs.size) := Lib.hid (by rw [cs6]; exact infoTFZ)
  have C6 := Lib.hid cs6
  have C1 := Lib.hid cs1
  have IH : Hid ((Tryd.prog.info? 25).map (·.size) = some hs.size) := Lib.hid (by rw [hs6]; exact infoTFZ)
  have H6 := Lib.hid hs6
  have H1 := Lib.hid hs1
  have HNE := Lib.hid hne
  have B0 : Hid (Below w.heap.size w (w.alloc (.cells cs 25))) := Lib.hid ((Below.refl _ _).alloc (Nat.le_refl _) _)
  have K0 : Hid (Blk (w.alloc (.cells cs 25)) w.heap.size cs 25) := Lib.hid (Blk.new w cs 25)
  clear hE hls cs6 cs1 hne hs6 hs1
  go_enter Tryd.func3, Tryd.ntmps3
  go_upto_region 3 with fail
  obtain ⟨w0, hw0⟩ : ∃ v, v = w.alloc (.cells cs 25) := ⟨_, rfl⟩
  rw [← hw0] at K0 B0
  try rw [← hw0]
  clear hw0
  refine wp_region_lit ?_
  with_reducible refine wpList_loadS (.tmp 2) ?_ ?_ K0.out Tryd.underlying25 ?_ IC.out ?_
  · rfl
  · rfl
  · rfl
  simp only [Act.put, List.setIfInBounds_toArray, List.set_cons_zero, List.set_cons_succ]
  go_wp2_with fail
  refine (GT.out _ (HE.out _ B0.out)).mono ?_
  rintro e w1 ⟨rfl, hb⟩
  have B1 := Lib.hid (B0.out.trans (hb.mono B0.out.size))
  have K1 := Lib.hid (K0.out.below hb K0.out.lt)
  clear hb
  go_simp
  rename_i hKK
  refine hKK _ _ ?_
  clear hKK
  try simp only [Act.put, List.setIfInBounds_toArray, List.set_cons_zero, List.set_cons_succ]
  go_upto_region 4 with fail
  refine wp_region_lit ?_
  with_reducible refine wpList_runV (some 17) (v := ?_) ?_ ?_ ?_ ?_
  rotate_left
  · rfl
  · rfl
  · (go_simp; (try with_reducible rfl))
  simp only [Act.put, List.setIfInBounds_toArray, List.set_cons_zero, List.set_cons_succ]
  go_wp2_with fail
  refine (GP.out _ (HE.out _ B1.out)).mono ?_
  rintro e w2 ⟨rfl, hb⟩
  have B2 := Lib.hid (B1.out.trans (hb.mono B1.out.size))
  have K2 := Lib.hid (K1.out.below hb K1.out.lt)
  clear hb
  go_simp
  rename_i hKK
  refine hKK _ _ ?_
  clear hKK
  try simp only [Act.put, List.setIfInBounds_toArray, List.set_cons_zero, List.set_cons_succ]
  with_reducible refine wpList_runV (some 16) (v := ?_) ?_ ?_ ?_ ?_
  rotate_left
  · rfl
  · rfl
  · (go_simp; (try with_reducible rfl))
  simp only [Act.put, List.setIfInBounds_toArray, List.set_cons_zero, List.set_cons_succ]
  with_reducible refine wpList_runV (some 19) (v := ?_) ?_ ?_ ?_ ?_
  rotate_left
  · rfl
  · rfl
  · (go_simp; (try with_reducible rfl))
  simp only [Act.put, List.setIfInBounds_toArray, List.set_cons_zero, List.set_cons_succ]
  with_reducible refine wpList_runV (some 20) (v := ?_) ?_ ?_ ?_ ?_
  rotate_left
  · rfl
  · rfl
  · (go_simp; (try with_reducible rfl))
  simp only [Act.put, List.setIfInBounds_toArray, List.set_cons_zero, List.set_cons_succ]
  with_reducible refine wpList_runWV (some 6) (v := .pointer (some ⟨w2.heap.size, 0, none⟩)) (w' := w2.alloc (.cells cellsZ 25)) ?_ ?_ ?_ ?_
  · rfl
  · rfl
  · (go_simp; rfl)
  simp only [Act.put, List.setIfInBounds_toArray, List.set_cons_zero, List.set_cons_succ]
  have N := Blk.new w2 cellsZ 25
  with_reducible refine wpList_storeS (.tmp 6) (.tmp 19) ?_ ?_ N rfl infoTFZ cellsZ_one ?_
  · rfl
  · rfl
  have G3 := Lib.hid (N.whole cellsZ rfl)
  have B3 := Lib.hid (below_whole cellsZ.toList (o := 0) (B2.out.alloc B2.out.size (.cells cellsZ 25)) B2.out.size)
  have K3 := Lib.hid ((K2.out.alloc (.cells cellsZ 25)).wholeElse cellsZ.toList (o := 0) (Nat.ne_of_lt K2.out.lt))
  clear N
  generalize World.setCells _ _ _ _ = w3 at G3 B3 K3 ⊢
  generalize w2.heap.size = Ga at G3 ⊢
  go_upto_region 5 with fail
  have hne : tx.toList.isEmpty = true := HNE.out
  refine wp_region_lit ?_
  with_reducible refine wpList_loadS (.tmp 2) ?_ ?_ K3.out Tryd.underlying25 ?_ IC.out ?_
  · rfl
  · rfl
  · rfl
  simp only [Act.put, List.setIfInBounds_toArray, List.set_cons_zero, List.set_cons_succ]
  go_wp2_with fail
  refine (GI.out _ (HE.out _ B3.out)).mono ?_
  rintro e w4 ⟨rfl, hb⟩
  have B4 := Lib.hid (B3.out.trans (hb.mono B3.out.size))
  have K4 := Lib.hid (K3.out.below hb K3.out.lt)
  have G4 := Lib.hid (G3.out.below hb G3.out.lt)
  clear hb
  go_simp
  rename_i hKK
  refine hKK _ _ ?_
  clear hKK
  try simp only [Act.put, List.setIfInBounds_toArray, List.set_cons_zero, List.set_cons_succ]
  with_reducible refine wpList_runV (some 23) (v := ?_) ?_ ?_ ?_ ?_
  rotate_left
  · rfl
  · rfl
  · (go_simp; (try with_reducible rfl))
  simp only [Act.put, List.setIfInBounds_toArray, List.set_cons_zero, List.set_cons_succ]
  with_reducible refine wpList_runV (some 24) (v := .bool false) ?_ ?_ ?_ ?_
  · rfl
  · rfl
  · (go_simp; (try with_reducible rfl))
  simp only [Act.put, List.setIfInBounds_toArray, List.set_cons_zero, List.set_cons_succ]
  with_reducible refine wpList_runV (some 25) (v := .bool false) ?_ ?_ ?_ ?_
  · rfl
  · rfl
  · (go_simp; (try with_reducible rfl))
  simp only [Act.put, List.setIfInBounds_toArray, List.set_cons_zero, List.set_cons_succ]
  with_reducible refine wpList_runV (some 26) (v := .bool false) ?_ ?_ ?_ ?_
  · rfl
  · rfl
  · (go_simp; (try with_reducible rfl))
  simp only [Act.put, List.setIfInBounds_toArray, List.set_cons_zero, List.set_cons_succ]
  with_reducible refine wpList_loadS (.tmp 2) ?_ ?_ K4.out Tryd.underlying25 ?_ IC.out ?_
  · rfl
  · rfl
  · rfl
  simp only [Act.put, List.setIfInBounds_toArray, List.set_cons_zero, List.set_cons_succ]
  go_wp2_with fail
  refine (GI.out _ (HE.out _ B4.out)).mono ?_
  rintro e w5 ⟨rfl, hb⟩
  have B5 := Lib.hid (B4.out.trans (hb.mono B4.out.size))
  have K5 := Lib.hid (K4.out.below hb K4.out.lt)
  clear hb
  go_simp
  rename_i hKK
  refine hKK _ _ ?_
  clear hKK
  try simp only [Act.put, List.setIfInBounds_toArray, List.set_cons_zero, List.set_cons_succ]
  with_reducible refine wpList_runV (some 29) (v := .bool false) ?_ ?_ ?_ ?_
  · rfl
  · rfl
  · (go_simp; (try with_reducible rfl))
  simp only [Act.put, List.setIfInBounds_toArray, List.set_cons_zero, List.set_cons_succ]
  with_reducible refine wpList_skipV (some 30) ?_ ?_ ?_
  · rfl
  · rfl
  simp only [Act.put, List.setIfInBounds_toArray, List.set_cons_zero, List.set_cons_succ]
  with_reducible refine wpList_skipV (some 31) ?_ ?_ ?_
  · rfl
  · rfl
  simp only [Act.put, List.setIfInBounds_toArray, List.set_cons_zero, List.set_cons_succ]
  with_reducible refine wpList_skipV (some 32) ?_ ?_ ?_
  · rfl
  · rfl
  simp only [Act.put, List.setIfInBounds_toArray, List.set_cons_zero, List.set_cons_succ]
  with_reducible refine wpList_skipV (some 33) ?_ ?_ ?_
  · rfl
  · rfl
  simp only [Act.put, List.setIfInBounds_toArray, List.set_cons_zero, List.set_cons_succ]
  with_reducible refine wpList_skipV (some 34) ?_ ?_ ?_
  · rfl
  · rfl
  simp only [Act.put, List.setIfInBounds_toArray, List.set_cons_zero, List.set_cons_succ]
  with_reducible refine wpList_skipV (some 35) ?_ ?_ ?_
  · rfl
  · rfl
  simp only [Act.put, List.setIfInBounds_toArray, List.set_cons_zero, List.set_cons_succ]
  with_reducible refine wpList_skipV (some 36) ?_ ?_ ?_
  · rfl
  · rfl
  simp only [Act.put, List.setIfInBounds_toArray, List.set_cons_zero, List.set_cons_succ]
  with_reducible refine wpList_runV (some 37) (v := .bool false) ?_ ?_ ?_ ?_
  · rfl
  · rfl
  · (go_simp; (try with_reducible rfl))
  simp only [Act.put, List.setIfInBounds_toArray, List.set_cons_zero, List.set_cons_succ]
  with_reducible refine wpList_runV (some 38) (v := .bool false) ?_ ?_ ?_ ?_
  · rfl
  · rfl
  · (go_simp; (try with_reducible rfl))
  simp only [Act.put, List.setIfInBounds_toArray, List.set_cons_zero, List.set_cons_succ]
  go_upto_region 7 with fail
  refine wp_region_lit ?_
  with_reducible refine wpList_runV (some 40) (v := ?_) ?_ ?_ ?_ ?_
  rotate_left
  · rfl
  · rfl
  · (go_simp; (try with_reducible rfl))
  simp only [Act.put, List.setIfInBounds_toArray, List.set_cons_zero, List.set_cons_succ]
  go_wp2_with fail
  refine (HP.out _ (HE.out _ B5.out)).mono ?_
  rintro e w6 ⟨rfl, hb⟩
  have B6 := Lib.hid (B5.out.trans (hb.mono B5.out.size))
  clear hb
  go_simp
  rename_i hKK
  refine hKK _ _ ?_
  clear hKK
  try simp only [Act.put, List.setIfInBounds_toArray, List.set_cons_zero, List.set_cons_succ]
  with_reducible refine wpList_runV (some 39) (v := ?_) ?_ ?_ ?_ ?_
  rotate_left
  · rfl
  · rfl
  · (go_simp; (try with_reducible rfl))
  simp only [Act.put, List.setIfInBounds_toArray, List.set_cons_zero, List.set_cons_succ]
  with_reducible refine wpList_runV (some 42) (v := ?_) ?_ ?_ ?_ ?_
  rotate_left
  · rfl
  · rfl
  · (go_simp; (try with_reducible rfl))
  simp only [Act.put, List.setIfInBounds_toArray, List.set_cons_zero, List.set_cons_succ]
  with_reducible refine wpList_runV (some 43) (v := ?_) ?_ ?_ ?_ ?_
  rotate_left
  · rfl
  · rfl
  · (go_simp; (try with_reducible rfl))
  simp only [Act.put, List.setIfInBounds_toArray, List.set_cons_zero, List.set_cons_succ]
  with_reducible refine wpList_runWV (some 8) (v := .pointer (some ⟨w6.heap.size, 0, none⟩)) (w' := w6.alloc (.cells cellsZ 25)) ?_ ?_ ?_ ?_
  · rfl
  · rfl
  · (go_simp; rfl)
  simp only [Act.put, List.setIfInBounds_toArray, List.set_cons_zero, List.set_cons_succ]
  have N := Blk.new w6 cellsZ 25
  with_reducible refine wpList_storeS (.tmp 8) (.tmp 42) ?_ ?_ N H6.out IH.out H1.out ?_
  · rfl
  · rfl
  have J7 := Lib.hid (N.whole hs H6.out)
  have B7 := Lib.hid (below_whole hs.toList (o := 0) (B6.out.alloc B6.out.size (.cells cellsZ 25)) B6.out.size)
  clear N
  generalize World.setCells _ _ _ _ = w7 at J7 B7 ⊢
  generalize w6.heap.size = Ja at J7 ⊢
  go_upto_region 8 with fail
  refine wp_region_lit ?_
  go_wp2_with fail
  refine (filAlive _ (HE.out _ B7.out)).mono ?_
  rintro e w8 ⟨rfl, hb⟩
  have B8 := Lib.hid (B7.out.trans (hb.mono B7.out.size))
  have J8 := Lib.hid (J7.out.below hb J7.out.lt)
  clear hb
  go_simp
  rename_i hKK
  refine hKK _ _ ?_
  clear hKK
  try simp only [Act.put, List.setIfInBounds_toArray, List.set_cons_zero, List.set_cons_succ]
  with_reducible refine wpList_runV (some 45) (v := .bool true) ?_ ?_ ?_ ?_
  · rfl
  · rfl
  · (go_simp; (try with_reducible rfl))
  simp only [Act.put, List.setIfInBounds_toArray, List.set_cons_zero, List.set_cons_succ]
  with_reducible refine wpList_runV (some 46) (v := ?_) ?_ ?_ ?_ ?_
  rotate_left
  · rfl
  · rfl
  · (go_simp; (try with_reducible rfl))
  simp only [Act.put, List.setIfInBounds_toArray, List.set_cons_zero, List.set_cons_succ]
  with_reducible refine wpList_runV (some 47) (v := .bool false) ?_ ?_ ?_ ?_
  · rfl
  · rfl
  · (go_simp; (try with_reducible rfl))
  simp only [Act.put, List.setIfInBounds_toArray, List.set_cons_zero, List.set_cons_succ]
  with_reducible refine wpList_runV (some 48) (v := .bool false) ?_ ?_ ?_ ?_
  · rfl
  · rfl
  · (go_simp; (try with_reducible rfl))
  simp only [Act.put, List.setIfInBounds_toArray, List.set_cons_zero, List.set_cons_succ]
  with_reducible refine wpList_skipV (some 49) ?_ ?_ ?_
  · rfl
  · rfl
  simp only [Act.put, List.setIfInBounds_toArray, List.set_cons_zero, List.set_cons_succ]
  with_reducible refine wpList_skipV (some 50) ?_ ?_ ?_
  · rfl
  · rfl
  simp only [Act.put, List.setIfInBounds_toArray, List.set_cons_zero, List.set_cons_succ]
  with_reducible refine wpList_skipV (some 51) ?_ ?_ ?_
  · rfl
  · rfl
  simp only [Act.put, List.setIfInBounds_toArray, List.set_cons_zero, List.set_cons_succ]
  with_reducible refine wpList_runV (some 52) (v := .bool false) ?_ ?_ ?_ ?_
  · rfl
  · rfl
  · (go_simp; (try with_reducible rfl))
  simp only [Act.put, List.setIfInBounds_toArray, List.set_cons_zero, List.set_cons_succ]
  with_reducible refine wpList_runV (some 53) (v := .bool false) ?_ ?_ ?_ ?_
  · rfl
  · rfl
  · (go_simp; (try with_reducible rfl))
  simp only [Act.put, List.setIfInBounds_toArray, List.set_cons_zero, List.set_cons_succ]
  with_reducible refine wpList_runV (some 54) (v := ?_) ?_ ?_ ?_ ?_
  rotate_left
  · rfl
  · rfl
  · (go_simp; (try with_reducible rfl))
  simp only [Act.put, List.setIfInBounds_toArray, List.set_cons_zero, List.set_cons_succ]
  with_reducible refine wpList_runV (some 55) (v := .bool true) ?_ ?_ ?_ ?_
  · rfl
  · rfl
  · (go_simp; (try with_reducible rfl))
  simp only [Act.put, List.setIfInBounds_toArray, List.set_cons_zero, List.set_cons_succ]
  with_reducible refine wpList_runV (some 56) (v := .bool true) ?_ ?_ ?_ ?_
  · rfl
  · rfl
  · (go_simp; (try with_reducible rfl))
  simp only [Act.put, List.setIfInBounds_toArray, List.set_cons_zero, List.set_cons_succ]
  with_reducible refine wpList_loadS (.tmp 8) ?_ ?_ J8.out Tryd.underlying25 ?_ IH.out ?_
  · rfl
  · rfl
  · rfl
  simp only [Act.put, List.setIfInBounds_toArray, List.set_cons_zero, List.set_cons_succ]
  go_wp2_with fail
  refine (HI.out _ (HE.out _ B8.out)).mono ?_
  rintro e w9 ⟨rfl, hb⟩
  have B9 := Lib.hid (B8.out.trans (hb.mono B8.out.size))
  have J9 := Lib.hid (J8.out.below hb J8.out.lt)
  clear hb
  go_simp
  rename_i hKK
  refine hKK _ _ ?_
  clear hKK
  try simp only [Act.put, List.setIfInBounds_toArray, List.set_cons_zero, List.set_cons_succ]
  with_reducible refine wpList_runV (some 59) (v := .bool true) ?_ ?_ ?_ ?_
  · rfl
  · rfl
  · (go_simp; (try with_reducible rfl))
  simp only [Act.put, List.setIfInBounds_toArray, List.set_cons_zero, List.set_cons_succ]
  with_reducible refine wpList_runV (some 60) (v := .bool true) ?_ ?_ ?_ ?_
  · rfl
  · rfl
  · (go_simp; (try with_reducible rfl))
  simp only [Act.put, List.setIfInBounds_toArray, List.set_cons_zero, List.set_cons_succ]
  with_reducible refine wpList_loadS (.tmp 8) ?_ ?_ J9.out Tryd.underlying25 ?_ IH.out ?_
  · rfl
  · rfl
  · rfl
  simp only [Act.put, List.setIfInBounds_toArray, List.set_cons_zero, List.set_cons_succ]
  go_wp2_with fail
  refine (HT.out _ (HE.out _ B9.out)).mono ?_
  rintro e w10 ⟨rfl, hb⟩
  have B10 := Lib.hid (B9.out.trans (hb.mono B9.out.size))
  clear hb
  go_simp
  rename_i hKK
  refine hKK _ _ ?_
  clear hKK
  try simp only [Act.put, List.setIfInBounds_toArray, List.set_cons_zero, List.set_cons_succ]
  with_reducible refine wpList_runV (some 63) (v := ?_) ?_ ?_ ?_ ?_
  rotate_left
  · rfl
  · rfl
  · (go_simp; (try with_reducible rfl))
  simp only [Act.put, List.setIfInBounds_toArray, List.set_cons_zero, List.set_cons_succ]
  with_reducible refine wpList_runV (some 64) (v := .bool true) ?_ ?_ ?_ ?_
  · rfl
  · rfl
  · (go_simp; (try with_reducible rfl))
  simp only [Act.put, List.setIfInBounds_toArray, List.set_cons_zero, List.set_cons_succ]
  with_reducible refine wpList_runV (some 65) (v := .bool true) ?_ ?_ ?_ ?_
  · rfl
  · rfl
  · (go_simp; (try with_reducible rfl))
  simp only [Act.put, List.setIfInBounds_toArray, List.set_cons_zero, List.set_cons_succ]
  with_reducible refine wpList_runV (some 66) (v := .bool true) ?_ ?_ ?_ ?_
  · rfl
  · rfl
  · (go_simp; (try with_reducible rfl))
  simp only [Act.put, List.setIfInBounds_toArray, List.set_cons_zero, List.set_cons_succ]
  with_reducible refine wpList_runV (some 67) (v := .bool true) ?_ ?_ ?_ ?_
  · rfl
  · rfl
  · (go_simp; (try with_reducible rfl))
  simp only [Act.put, List.setIfInBounds_toArray, List.set_cons_zero, List.set_cons_succ]
  go_wp2_with fail
  go_ret
  exact ⟨rfl, B10.out⟩
set_option maxHeartbeats 8000000 in
set_option maxRecDepth 100000 in
theorem backFF (cs : Array Value) (cs1 : cs.all (·.oneCell') = true) (cs6 : cs.size = cellsZ.size) (tx : ByteArray)  (s : ByteArray) (hls : s.size ≤ 600) (w : World) (hE : Env w)
    (GI : Hid (∀ W, Env W → Calls Tryd.prog 9 #[.agg cs] W fun e w' => e = .returned (.bool false) ∧ Below W.heap.size W w')) (GT : Hid (∀ W, Env W → Calls Tryd.prog 7 #[.agg cs] W fun e w' => e = .returned (.string tx) ∧ Below W.heap.size W w')) (GP : Hid (∀ W, Env W → Calls Tryd.prog 8 #[.string tx] W fun e w' => e = .returned (.tuple #[.agg cellsZ, .int .i64 3]) ∧ Below W.heap.size W w')) (HP : Hid (∀ W, Env W → Calls Tryd.prog 8 #[.string s] W fun e w' => e = .returned (.tuple #[.agg cellsZ, .int .i64 3]) ∧ Below W.heap.size W w')) (he : ∀ W : World, (Op.equalIn 10000 25 (.agg cellsZ) (.agg cellsZ)).run Tryd.prog W = .ok true W) (hne : tx.toList.isEmpty = true) :
    Calls Tryd.prog 3 #[.agg cs, .string s] w fun e w' => e = .returned (.bool true) ∧ Below w.heap.size w w' := by
  have hls1 : ¬ (600 : Int) < (s.size : Int) := by omega
  have HE := Lib.hid (fun (W : World) (hb : Below w.heap.size w W) => hE.below hb)
  have IC : Hid ((Tryd.prog.info? 25).map (·.size) = some cs.size) := Lib.hid (by rw [cs6]; exact infoTFZ)
  have C6 := Lib.hid cs6
  have C1 := Lib.hid cs1
  have HZ := Lib.hid he
  have HNE := Lib.hid hne
  have B0 : Hid (Below w.heap.size w (w.alloc (.cells cs 25))) := Lib.hid ((Below.refl _ _).alloc (Nat.le_refl _) _)
  have K0 : Hid (Blk (w.alloc (.cells cs 25)) w.heap.size cs 25) := Lib.hid (Blk.new w cs 25)
  clear hE hls cs6 cs1 hne he
  go_enter Tryd.func3, Tryd.ntmps3
  go_upto_region 3 with fail
  obtain ⟨w0, hw0⟩ : ∃ v, v = w.alloc (.cells cs 25) := ⟨_, rfl⟩
  rw [← hw0] at K0 B0
  try rw [← hw0]
  clear hw0
  refine wp_region_lit ?_
  with_reducible refine wpList_loadS (.tmp 2) ?_ ?_ K0.out Tryd.underlying25 ?_ IC.out ?_
  · rfl
  · rfl
  · rfl
  simp only [Act.put, List.setIfInBounds_toArray, List.set_cons_zero, List.set_cons_succ]
  go_wp2_with fail
  refine (GT.out _ (HE.out _ B0.out)).mono ?_
  rintro e w1 ⟨rfl, hb⟩
  have B1 := Lib.hid (B0.out.trans (hb.mono B0.out.size))
  have K1 := Lib.hid (K0.out.below hb K0.out.lt)
  clear hb
  go_simp
  rename_i hKK
  refine hKK _ _ ?_
  clear hKK
  try simp only [Act.put, List.setIfInBounds_toArray, List.set_cons_zero, List.set_cons_succ]
  go_upto_region 4 with fail
  refine wp_region_lit ?_
  with_reducible refine wpList_runV (some 17) (v := ?_) ?_ ?_ ?_ ?_
  rotate_left
  · rfl
  · rfl
  · (go_simp; (try with_reducible rfl))
  simp only [Act.put, List.setIfInBounds_toArray, List.set_cons_zero, List.set_cons_succ]
  go_wp2_with fail
  refine (GP.out _ (HE.out _ B1.out)).mono ?_
  rintro e w2 ⟨rfl, hb⟩
  have B2 := Lib.hid (B1.out.trans (hb.mono B1.out.size))
  have K2 := Lib.hid (K1.out.below hb K1.out.lt)
  clear hb
  go_simp
  rename_i hKK
  refine hKK _ _ ?_
  clear hKK
  try simp only [Act.put, List.setIfInBounds_toArray, List.set_cons_zero, List.set_cons_succ]
  with_reducible refine wpList_runV (some 16) (v := ?_) ?_ ?_ ?_ ?_
  rotate_left
  · rfl
  · rfl
  · (go_simp; (try with_reducible rfl))
  simp only [Act.put, List.setIfInBounds_toArray, List.set_cons_zero, List.set_cons_succ]
  with_reducible refine wpList_runV (some 19) (v := ?_) ?_ ?_ ?_ ?_
  rotate_left
  · rfl
  · rfl
  · (go_simp; (try with_reducible rfl))
  simp only [Act.put, List.setIfInBounds_toArray, List.set_cons_zero, List.set_cons_succ]
  with_reducible refine wpList_runV (some 20) (v := ?_) ?_ ?_ ?_ ?_
  rotate_left
  · rfl
  · rfl
  · (go_simp; (try with_reducible rfl))
  simp only [Act.put, List.setIfInBounds_toArray, List.set_cons_zero, List.set_cons_succ]
  with_reducible refine wpList_runWV (some 6) (v := .pointer (some ⟨w2.heap.size, 0, none⟩)) (w' := w2.alloc (.cells cellsZ 25)) ?_ ?_ ?_ ?_
  · rfl
  · rfl
  · (go_simp; rfl)
  simp only [Act.put, List.setIfInBounds_toArray, List.set_cons_zero, List.set_cons_succ]
  have N := Blk.new w2 cellsZ 25
  with_reducible refine wpList_storeS (.tmp 6) (.tmp 19) ?_ ?_ N rfl infoTFZ cellsZ_one ?_
  · rfl
  · rfl
  have G3 := Lib.hid (N.whole cellsZ rfl)
  have B3 := Lib.hid (below_whole cellsZ.toList (o := 0) (B2.out.alloc B2.out.size (.cells cellsZ 25)) B2.out.size)
  have K3 := Lib.hid ((K2.out.alloc (.cells cellsZ 25)).wholeElse cellsZ.toList (o := 0) (Nat.ne_of_lt K2.out.lt))
  clear N
  generalize World.setCells _ _ _ _ = w3 at G3 B3 K3 ⊢
  generalize w2.heap.size = Ga at G3 ⊢
  go_upto_region 5 with fail
  have hne : tx.toList.isEmpty = true := HNE.out
  refine wp_region_lit ?_
  with_reducible refine wpList_loadS (.tmp 2) ?_ ?_ K3.out Tryd.underlying25 ?_ IC.out ?_
  · rfl
  · rfl
  · rfl
  simp only [Act.put, List.setIfInBounds_toArray, List.set_cons_zero, List.set_cons_succ]
  go_wp2_with fail
  refine (GI.out _ (HE.out _ B3.out)).mono ?_
  rintro e w4 ⟨rfl, hb⟩
  have B4 := Lib.hid (B3.out.trans (hb.mono B3.out.size))
  have K4 := Lib.hid (K3.out.below hb K3.out.lt)
  have G4 := Lib.hid (G3.out.below hb G3.out.lt)
  clear hb
  go_simp
  rename_i hKK
  refine hKK _ _ ?_
  clear hKK
  try simp only [Act.put, List.setIfInBounds_toArray, List.set_cons_zero, List.set_cons_succ]
  with_reducible refine wpList_runV (some 23) (v := ?_) ?_ ?_ ?_ ?_
  rotate_left
  · rfl
  · rfl
  · (go_simp; (try with_reducible rfl))
  simp only [Act.put, List.setIfInBounds_toArray, List.set_cons_zero, List.set_cons_succ]
  with_reducible refine wpList_runV (some 24) (v := .bool false) ?_ ?_ ?_ ?_
  · rfl
  · rfl
  · (go_simp; (try with_reducible rfl))
  simp only [Act.put, List.setIfInBounds_toArray, List.set_cons_zero, List.set_cons_succ]
  with_reducible refine wpList_runV (some 25) (v := .bool false) ?_ ?_ ?_ ?_
  · rfl
  · rfl
  · (go_simp; (try with_reducible rfl))
  simp only [Act.put, List.setIfInBounds_toArray, List.set_cons_zero, List.set_cons_succ]
  with_reducible refine wpList_runV (some 26) (v := .bool false) ?_ ?_ ?_ ?_
  · rfl
  · rfl
  · (go_simp; (try with_reducible rfl))
  simp only [Act.put, List.setIfInBounds_toArray, List.set_cons_zero, List.set_cons_succ]
  with_reducible refine wpList_loadS (.tmp 2) ?_ ?_ K4.out Tryd.underlying25 ?_ IC.out ?_
  · rfl
  · rfl
  · rfl
  simp only [Act.put, List.setIfInBounds_toArray, List.set_cons_zero, List.set_cons_succ]
  go_wp2_with fail
  refine (GI.out _ (HE.out _ B4.out)).mono ?_
  rintro e w5 ⟨rfl, hb⟩
  have B5 := Lib.hid (B4.out.trans (hb.mono B4.out.size))
  have K5 := Lib.hid (K4.out.below hb K4.out.lt)
  clear hb
  go_simp
  rename_i hKK
  refine hKK _ _ ?_
  clear hKK
  try simp only [Act.put, List.setIfInBounds_toArray, List.set_cons_zero, List.set_cons_succ]
  with_reducible refine wpList_runV (some 29) (v := .bool false) ?_ ?_ ?_ ?_
  · rfl
  · rfl
  · (go_simp; (try with_reducible rfl))
  simp only [Act.put, List.setIfInBounds_toArray, List.set_cons_zero, List.set_cons_succ]
  with_reducible refine wpList_skipV (some 30) ?_ ?_ ?_
  · rfl
  · rfl
  simp only [Act.put, List.setIfInBounds_toArray, List.set_cons_zero, List.set_cons_succ]
  with_reducible refine wpList_skipV (some 31) ?_ ?_ ?_
  · rfl
  · rfl
  simp only [Act.put, List.setIfInBounds_toArray, List.set_cons_zero, List.set_cons_succ]
  with_reducible refine wpList_skipV (some 32) ?_ ?_ ?_
  · rfl
  · rfl
  simp only [Act.put, List.setIfInBounds_toArray, List.set_cons_zero, List.set_cons_succ]
  with_reducible refine wpList_skipV (some 33) ?_ ?_ ?_
  · rfl
  · rfl
  simp only [Act.put, List.setIfInBounds_toArray, List.set_cons_zero, List.set_cons_succ]
  with_reducible refine wpList_skipV (some 34) ?_ ?_ ?_
  · rfl
  · rfl
  simp only [Act.put, List.setIfInBounds_toArray, List.set_cons_zero, List.set_cons_succ]
  with_reducible refine wpList_skipV (some 35) ?_ ?_ ?_
  · rfl
  · rfl
  simp only [Act.put, List.setIfInBounds_toArray, List.set_cons_zero, List.set_cons_succ]
  with_reducible refine wpList_skipV (some 36) ?_ ?_ ?_
  · rfl
  · rfl
  simp only [Act.put, List.setIfInBounds_toArray, List.set_cons_zero, List.set_cons_succ]
  with_reducible refine wpList_runV (some 37) (v := .bool false) ?_ ?_ ?_ ?_
  · rfl
  · rfl
  · (go_simp; (try with_reducible rfl))
  simp only [Act.put, List.setIfInBounds_toArray, List.set_cons_zero, List.set_cons_succ]
  with_reducible refine wpList_runV (some 38) (v := .bool false) ?_ ?_ ?_ ?_
  · rfl
  · rfl
  · (go_simp; (try with_reducible rfl))
  simp only [Act.put, List.setIfInBounds_toArray, List.set_cons_zero, List.set_cons_succ]
  go_upto_region 7 with fail
  refine wp_region_lit ?_
  with_reducible refine wpList_runV (some 40) (v := ?_) ?_ ?_ ?_ ?_
  rotate_left
  · rfl
  · rfl
  · (go_simp; (try with_reducible rfl))
  simp only [Act.put, List.setIfInBounds_toArray, List.set_cons_zero, List.set_cons_succ]
  go_wp2_with fail
  refine (HP.out _ (HE.out _ B5.out)).mono ?_
  rintro e w6 ⟨rfl, hb⟩
  have B6 := Lib.hid (B5.out.trans (hb.mono B5.out.size))
  clear hb
  go_simp
  rename_i hKK
  refine hKK _ _ ?_
  clear hKK
  try simp only [Act.put, List.setIfInBounds_toArray, List.set_cons_zero, List.set_cons_succ]
  with_reducible refine wpList_runV (some 39) (v := ?_) ?_ ?_ ?_ ?_
  rotate_left
  · rfl
  · rfl
  · (go_simp; (try with_reducible rfl))
  simp only [Act.put, List.setIfInBounds_toArray, List.set_cons_zero, List.set_cons_succ]
  with_reducible refine wpList_runV (some 42) (v := ?_) ?_ ?_ ?_ ?_
  rotate_left
  · rfl
  · rfl
  · (go_simp; (try with_reducible rfl))
  simp only [Act.put, List.setIfInBounds_toArray, List.set_cons_zero, List.set_cons_succ]
  with_reducible refine wpList_runV (some 43) (v := ?_) ?_ ?_ ?_ ?_
  rotate_left
  · rfl
  · rfl
  · (go_simp; (try with_reducible rfl))
  simp only [Act.put, List.setIfInBounds_toArray, List.set_cons_zero, List.set_cons_succ]
  with_reducible refine wpList_runWV (some 8) (v := .pointer (some ⟨w6.heap.size, 0, none⟩)) (w' := w6.alloc (.cells cellsZ 25)) ?_ ?_ ?_ ?_
  · rfl
  · rfl
  · (go_simp; rfl)
  simp only [Act.put, List.setIfInBounds_toArray, List.set_cons_zero, List.set_cons_succ]
  have N := Blk.new w6 cellsZ 25
  with_reducible refine wpList_storeS (.tmp 8) (.tmp 42) ?_ ?_ N rfl infoTFZ cellsZ_one ?_
  · rfl
  · rfl
  have J7 := Lib.hid (N.whole cellsZ rfl)
  have B7 := Lib.hid (below_whole cellsZ.toList (o := 0) (B6.out.alloc B6.out.size (.cells cellsZ 25)) B6.out.size)
  clear N
  generalize World.setCells _ _ _ _ = w7 at J7 B7 ⊢
  generalize w6.heap.size = Ja at J7 ⊢
  go_upto_region 8 with fail
  refine wp_region_lit ?_
  go_wp2_with fail
  refine (filAlive _ (HE.out _ B7.out)).mono ?_
  rintro e w8 ⟨rfl, hb⟩
  have B8 := Lib.hid (B7.out.trans (hb.mono B7.out.size))
  have J8 := Lib.hid (J7.out.below hb J7.out.lt)
  clear hb
  go_simp
  rename_i hKK
  refine hKK _ _ ?_
  clear hKK
  try simp only [Act.put, List.setIfInBounds_toArray, List.set_cons_zero, List.set_cons_succ]
  with_reducible refine wpList_runV (some 45) (v := .bool true) ?_ ?_ ?_ ?_
  · rfl
  · rfl
  · (go_simp; (try with_reducible rfl))
  simp only [Act.put, List.setIfInBounds_toArray, List.set_cons_zero, List.set_cons_succ]
  with_reducible refine wpList_runV (some 46) (v := ?_) ?_ ?_ ?_ ?_
  rotate_left
  · rfl
  · rfl
  · (go_simp; (try with_reducible rfl))
  simp only [Act.put, List.setIfInBounds_toArray, List.set_cons_zero, List.set_cons_succ]
  with_reducible refine wpList_runV (some 47) (v := .bool true) ?_ ?_ ?_ ?_
  · rfl
  · rfl
  · (go_simp; (try with_reducible rfl))
  simp only [Act.put, List.setIfInBounds_toArray, List.set_cons_zero, List.set_cons_succ]
  with_reducible refine wpList_runV (some 48) (v := .bool true) ?_ ?_ ?_ ?_
  · rfl
  · rfl
  · (go_simp; (try with_reducible rfl))
  simp only [Act.put, List.setIfInBounds_toArray, List.set_cons_zero, List.set_cons_succ]
  with_reducible refine wpList_loadS (.tmp 8) ?_ ?_ J8.out Tryd.underlying25 ?_ infoTFZ ?_
  · rfl
  · rfl
  · rfl
  simp only [Act.put, List.setIfInBounds_toArray, List.set_cons_zero, List.set_cons_succ]
  have he := HZ.out
  with_reducible refine wpList_runV (some 50) (v := .agg cellsZ) ?_ ?_ ?_ ?_
  · rfl
  · rfl
  · (go_simp; rfl)
  simp only [Act.put, List.setIfInBounds_toArray, List.set_cons_zero, List.set_cons_succ]
  with_reducible refine wpList_runV (some 51) (v := .bool true) ?_ ?_ ?_ ?_
  · rfl
  · rfl
  · (go_simp; (try with_reducible rfl))
  simp only [Act.put, List.setIfInBounds_toArray, List.set_cons_zero, List.set_cons_succ]
  with_reducible refine wpList_runV (some 52) (v := .bool true) ?_ ?_ ?_ ?_
  · rfl
  · rfl
  · (go_simp; (try with_reducible rfl))
  simp only [Act.put, List.setIfInBounds_toArray, List.set_cons_zero, List.set_cons_succ]
  with_reducible refine wpList_runV (some 53) (v := .bool true) ?_ ?_ ?_ ?_
  · rfl
  · rfl
  · (go_simp; (try with_reducible rfl))
  simp only [Act.put, List.setIfInBounds_toArray, List.set_cons_zero, List.set_cons_succ]
  with_reducible refine wpList_skipV (some 54) ?_ ?_ ?_
  · rfl
  · rfl
  simp only [Act.put, List.setIfInBounds_toArray, List.set_cons_zero, List.set_cons_succ]
  with_reducible refine wpList_skipV (some 55) ?_ ?_ ?_
  · rfl
  · rfl
  simp only [Act.put, List.setIfInBounds_toArray, List.set_cons_zero, List.set_cons_succ]
  with_reducible refine wpList_skipV (some 56) ?_ ?_ ?_
  · rfl
  · rfl
  simp only [Act.put, List.setIfInBounds_toArray, List.set_cons_zero, List.set_cons_succ]
  with_reducible refine wpList_skipV (some 57) ?_ ?_ ?_
  · rfl
  · rfl
  simp only [Act.put, List.setIfInBounds_toArray, List.set_cons_zero, List.set_cons_succ]
  with_reducible refine wpList_skipV (some 58) ?_ ?_ ?_
  · rfl
  · rfl
  simp only [Act.put, List.setIfInBounds_toArray, List.set_cons_zero, List.set_cons_succ]
  with_reducible refine wpList_skipV (some 59) ?_ ?_ ?_
  · rfl
  · rfl
  simp only [Act.put, List.setIfInBounds_toArray, List.set_cons_zero, List.set_cons_succ]
  with_reducible refine wpList_skipV (some 60) ?_ ?_ ?_
  · rfl
  · rfl
  simp only [Act.put, List.setIfInBounds_toArray, List.set_cons_zero, List.set_cons_succ]
  with_reducible refine wpList_skipV (some 61) ?_ ?_ ?_
  · rfl
  · rfl
  simp only [Act.put, List.setIfInBounds_toArray, List.set_cons_zero, List.set_cons_succ]
  with_reducible refine wpList_skipV (some 62) ?_ ?_ ?_
  · rfl
  · rfl
  simp only [Act.put, List.setIfInBounds_toArray, List.set_cons_zero, List.set_cons_succ]
  with_reducible refine wpList_skipV (some 63) ?_ ?_ ?_
  · rfl
  · rfl
  simp only [Act.put, List.setIfInBounds_toArray, List.set_cons_zero, List.set_cons_succ]
  with_reducible refine wpList_skipV (some 64) ?_ ?_ ?_
  · rfl
  · rfl
  simp only [Act.put, List.setIfInBounds_toArray, List.set_cons_zero, List.set_cons_succ]
  with_reducible refine wpList_skipV (some 65) ?_ ?_ ?_
  · rfl
  · rfl
  simp only [Act.put, List.setIfInBounds_toArray, List.set_cons_zero, List.set_cons_succ]
  with_reducible refine wpList_runV (some 66) (v := .bool true) ?_ ?_ ?_ ?_
  · rfl
  · rfl
  · (go_simp; (try with_reducible rfl))
  simp only [Act.put, List.setIfInBounds_toArray, List.set_cons_zero, List.set_cons_succ]
  with_reducible refine wpList_runV (some 67) (v := .bool true) ?_ ?_ ?_ ?_
  · rfl
  · rfl
  · (go_simp; (try with_reducible rfl))
  simp only [Act.put, List.setIfInBounds_toArray, List.set_cons_zero, List.set_cons_succ]
  go_wp2_with fail
  go_ret
  exact ⟨rfl, B8.out⟩
end Go.Proofs.YtboealolklojiaaDoor
