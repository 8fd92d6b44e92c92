/-
  MERGED: AmtWords, AmtTxA, AmtTxB, AmtReadA, AmtReadB, AmtReadC, AmtReadD, AmtReadE, AmtParseW, AmtProg, AmtAliveW, AmtAliveP. By an AI agent.
-/
import Derived.Test.YtohgdmlpffeoiaaGreatDoorAmtGB
import Derived.Test.YtohgdmlpffeoiaaGreatDoorAmtGA
import Derived.Deep.Cut
import Derived.Laws.Tables
namespace Go.Proofs.YtohgdmlpffeoiaaGreatDoor
open Go.RowKit
open Wd (Bs)

def wordsC : Array Value := #[str [], str Amt.sX, str [], str Amt.sPower, str [], str Amt.sLife, str Amt.sHand, str Amt.sThat]
set_option maxRecDepth 100000 in
theorem amtWords (w : World) : Calls Tryz.prog 21 #[] w fun e w' => e = .returned (.slice (some ⟨w.heap.size, 0, none⟩) 8 8) ∧ Blk w' w.heap.size wordsC 9 ∧ Below w.heap.size w w' := by
  go_enter Tryz.func21, Tryz.ntmps21
  go_wp2_with fail
  go_ret
  exact ⟨rfl, Blk.new _ _ _, (Below.refl _ _).alloc (Nat.le_refl _) _⟩
theorem words_strs {w : World} {b : Nat} (h : Blk w b wordsC 9) : Strs w (.slice (some ⟨b, 0, none⟩) 8 8) Amt.wordsL := by
  refine Strs.of_cells (l := Amt.wordsL) (by decide) (by decide) h.lt ?_
  intro i x hx
  rw [h.cell, Nat.zero_add]
  have hi : i < 8 := (List.getElem?_eq_some_iff.1 hx).1
  match i, hi, hx with
  | 0, _, rfl => rfl
  | 1, _, rfl => rfl
  | 2, _, rfl => rfl
  | 3, _, rfl => rfl
  | 4, _, rfl => rfl
  | 5, _, rfl => rfl
  | 6, _, rfl => rfl
  | 7, _, rfl => rfl
section
variable {ops : Array Oper} {Q : Exit → Act → World → Prop} {md : Region.Mode} {S : World → Prop} {P : Program}
theorem take_loadV (i : Nat) (d : Option Tmp) {oi : Oper} {fuel : Nat} {listed : Array Bool} {a : Act} {w : World} (hi : ops[i]? = some oi) (hd : oi.dst = d)
    (hs : Region.noSelect ops = true) (hf : Region.free md ops listed i = true) (hr : (Region.ready md ops listed).contains i = true)
    {b j : Nat} {cs : Array Value} {T' T : TypeId} {v : Value} {D : TypeDesc} (hQ : ∀ c a w, Q (.panic c) (a.put d v) w → Q (.panic c) a w) (hw : Region.wanted oi (yielded ops a.tmps) = true) (x : Operand) (ho : oi.op = .load T x)
    (hx : a.eval x = .pointer (some ⟨b, j, none⟩)) (hk : ∀ w, S w → Blk w b cs T') (hv : cs[j]? = some v) (hu : P.underlying T = some D) (hr' : D.isRow = false) (hS : S w)
    (h : wpAnyH P md ops Q S fuel (listed.setIfInBounds i true) (a.put d v) w) : wpAnyH P md ops Q S (fuel + 1) listed a w :=
  take_run i d hi hd hs hf hr hQ hw (fun w' h' => by
    unfold execOp
    simp only [ho, hx, Instr.loadAt, Instr.sureAddr, Sem.run_bind, Sem.run_pure, Result.andThen_ok, run_loadV (hk w' h') hv hu hr']) hS h
theorem take_loadS (i : Nat) (d : Option Tmp) {oi : Oper} {fuel : Nat} {listed : Array Bool} {a : Act} {w : World} (hi : ops[i]? = some oi) (hd : oi.dst = d)
    (hs : Region.noSelect ops = true) (hf : Region.free md ops listed i = true) (hr : (Region.ready md ops listed).contains i = true)
    {b : Nat} {cs : Array Value} {T : TypeId} {D : TypeDesc} (hQ : ∀ c a w, Q (.panic c) (a.put d (.agg cs)) w → Q (.panic c) a w) (hw : Region.wanted oi (yielded ops a.tmps) = true) (x : Operand) (ho : oi.op = .load T x)
    (hx : a.eval x = .pointer (some ⟨b, 0, none⟩)) (hk : ∀ w, S w → Blk w b cs T) (hu : P.underlying T = some D) (hr' : D.isRow = true) (hn : (P.info? T).map (·.size) = some cs.size) (hS : S w)
    (h : wpAnyH P md ops Q S fuel (listed.setIfInBounds i true) (a.put d (.agg cs)) w) : wpAnyH P md ops Q S (fuel + 1) listed a w :=
  take_run i d hi hd hs hf hr hQ hw (fun w' h' => by
    unfold execOp
    simp only [ho, hx, Instr.loadAt, Instr.sureAddr, Sem.run_bind, Sem.run_pure, Result.andThen_ok, (hk w' h').readS hu hr' hn]) hS h
end
/-- a call in a region that draws: its frame said from the region's first world on -/
theorem callBase {P : Program} {f : FuncId} {args : Array Value} {R : Ending → World → Prop} {C : Nat} {w0 W : World} (hb : Below C w0 W) (hC : C ≤ w0.heap.size)
    (h : Calls P f args W fun e w' => R e w' ∧ Below W.heap.size W w') : Calls P f args W fun e w' => R e w' ∧ Below C w0 w' :=
  h.mono fun _ _ ⟨he, hb'⟩ => ⟨he, hb.trans (hb'.mono (Nat.le_trans hC hb.size))⟩
theorem amtWordsE (w : World) : Calls Tryz.prog 21 #[] w fun e w' => (∃ b, e = .returned (.slice (some ⟨b, 0, none⟩) 8 8) ∧ Blk w' b wordsC 9) ∧ Below w.heap.size w w' :=
  (amtWords w).mono fun _ _ ⟨h1, h2, h3⟩ => ⟨⟨_, h1, h2⟩, h3⟩
/-- a struct built of parts, its cells known -/
theorem run_buildOp {P : Program} {o : Oper} {ev : Operand → Value} {w : World} {t : TypeId} (parts : Array (Nat × Operand)) (vals : List (Nat × Value)) {cells : Array Value} (ho : o.op = .build t parts) (hv : parts.toList.map (fun p => (p.1, ev p.2)) = vals) (h : P.built t vals = some cells) :
    (execOp ev o).run P w = .ok (.value (.agg cells)) w := by
  subst hv
  have hr := run_build (P := P) w t (parts.map fun (i, x) => (i, ev x)) cells (by rw [Array.toList_map]; exact h)
  unfold execOp
  simp only [ho, Sem.run_bind, Sem.run_pure, hr, Result.andThen_ok]
theorem built_count (n : Int) (f : Fil.Flt) (fs : ByteArray) : Tryz.prog.built 27 [(0, .int .i64 2), (1, .int .i64 n), (3, .agg (cellsF f fs))] = some (cells3 2 n 0 (cellsF f fs)) := by kernel_rfl
end Go.Proofs.YtohgdmlpffeoiaaGreatDoor
namespace Go.Proofs.YtohgdmlpffeoiaaGreatDoor
open Go.RowKit
open Wd (Bs)

set_option maxHeartbeats 8000000 in
set_option maxRecDepth 100000 in
theorem textBad (k n c : Int) (f : Fil.Flt) (fs : ByteArray) (w : World)
    (HI : Hid (∀ W, Below w.heap.size w W → Calls Tryz.prog 9 #[.agg (cells3 k n c (cellsF f fs))] W fun e w' => e = .returned (.bool false) ∧ Below W.heap.size W w')) :
    Calls Tryz.prog 11 #[.agg (cells3 k n c (cellsF f fs))] w fun e w' => e = .returned (.string ⟨#[]⟩) ∧ Below w.heap.size w w' := by

  have B0 := Lib.hid (Below.refl w.heap.size w)
  go_enter Tryz.func11, Tryz.ntmps11
  go_upto_region 0 with fail
  refine wp_region_lit ?_
  obtain ⟨w1, hw⟩ : ∃ v, v = w.alloc (.cells (cells3 k n c (cellsF f fs)) 27) := ⟨_, rfl⟩
  obtain ⟨pA, hp⟩ : ∃ v, v = w.heap.size := ⟨_, rfl⟩
  have B1 : Hid (Below w.heap.size w w1) := Lib.hid (by rw [hw]; exact B0.out.alloc B0.out.size _)
  have LEA : Hid (w.heap.size ≤ pA) := Lib.hid (by rw [hp]; exact B0.out.size)
  have KA1 : Hid (Blk w1 pA (cells3 k n c (cellsF f fs)) 27) := Lib.hid (by rw [hw, hp]; exact Blk.new _ _ _)
  with_reducible refine wpList_runWV (some 1) (v := .pointer (some ⟨pA, 0, none⟩)) (w' := w1) ?_ ?_ ?_ ?_
  · rfl
  · rfl
  · rw [hw, hp]; (go_simp; (try rfl))
  simp only [pu, sB, s0, sS]
  clear hw hp
  clear B0
  (with_reducible refine rN (v := ?_) ?_ ?_ ?_); rotate_left; (· rfl); (· go_simp; (try with_reducible rfl)); simp only [pu, sB, s0, sS]
  go_upto_region 1 with fail
  refine wp_region_lit ?_
  with_reducible refine wpList_loadS (.tmp 1) ?_ ?_ KA1.out Tryz.underlying27 ?_ (infoTM19 (cells3_sz (cellsF_size f fs))) ?_
  · rfl
  · rfl
  · rfl
  simp only [pu, sB, s0, sS]
  go_wp2_with fail
  refine (HI.out _ B1.out).mono ?_
  rintro e w2 ⟨rfl, hb⟩
  have B2 := Lib.hid (B1.out.trans (hb.mono B1.out.size))
  have KA2 := Lib.hid (KA1.out.below hb KA1.out.lt)
  clear hb
  clear B1 KA1
  go_simp
  rename_i hKK
  refine hKK _ _ ?_
  clear hKK
  try simp only [pu, sB, s0, sS]
  (with_reducible refine rN (v := .bool true) ?_ ?_ ?_); (· rfl); (· go_simp; (try with_reducible rfl)); simp only [pu, sB, s0, sS]
  go_upto_region 2 with fail
  refine wp_region_lit ?_
  (with_reducible refine rN (v := ?_) ?_ ?_ ?_); rotate_left; (· rfl); (· go_simp; (try with_reducible rfl)); simp only [pu, sB, s0, sS]
  go_wp2_with fail
  go_ret
  exact ⟨rfl, B2.out⟩

set_option maxHeartbeats 8000000 in
set_option maxRecDepth 100000 in
theorem textConst (n c : Int) (t : ByteArray) (f : Fil.Flt) (fs : ByteArray) (w : World)
    (HI : Hid (∀ W, Below w.heap.size w W → Calls Tryz.prog 9 #[.agg (cells3 0 n c (cellsF f fs))] W fun e w' => e = .returned (.bool true) ∧ Below W.heap.size W w')) (HN : Hid (∀ W, Below w.heap.size w W → Calls Tryz.prog 19 #[.int .i64 n] W fun e w' => e = .returned (.string t) ∧ Below W.heap.size W w')) :
    Calls Tryz.prog 11 #[.agg (cells3 0 n c (cellsF f fs))] w fun e w' => e = .returned (.string t) ∧ Below w.heap.size w w' := by

  have B0 := Lib.hid (Below.refl w.heap.size w)
  go_enter Tryz.func11, Tryz.ntmps11
  go_upto_region 0 with fail
  refine wp_region_lit ?_
  obtain ⟨w1, hw⟩ : ∃ v, v = w.alloc (.cells (cells3 0 n c (cellsF f fs)) 27) := ⟨_, rfl⟩
  obtain ⟨pA, hp⟩ : ∃ v, v = w.heap.size := ⟨_, rfl⟩
  have B1 : Hid (Below w.heap.size w w1) := Lib.hid (by rw [hw]; exact B0.out.alloc B0.out.size _)
  have LEA : Hid (w.heap.size ≤ pA) := Lib.hid (by rw [hp]; exact B0.out.size)
  have KA1 : Hid (Blk w1 pA (cells3 0 n c (cellsF f fs)) 27) := Lib.hid (by rw [hw, hp]; exact Blk.new _ _ _)
  with_reducible refine wpList_runWV (some 1) (v := .pointer (some ⟨pA, 0, none⟩)) (w' := w1) ?_ ?_ ?_ ?_
  · rfl
  · rfl
  · rw [hw, hp]; (go_simp; (try rfl))
  simp only [pu, sB, s0, sS]
  clear hw hp
  clear B0
  (with_reducible refine rN (v := ?_) ?_ ?_ ?_); rotate_left; (· rfl); (· go_simp; (try with_reducible rfl)); simp only [pu, sB, s0, sS]
  go_upto_region 1 with fail
  refine wp_region_lit ?_
  with_reducible refine wpList_loadS (.tmp 1) ?_ ?_ KA1.out Tryz.underlying27 ?_ (infoTM19 (cells3_sz (cellsF_size f fs))) ?_
  · rfl
  · rfl
  · rfl
  simp only [pu, sB, s0, sS]
  go_wp2_with fail
  refine (HI.out _ B1.out).mono ?_
  rintro e w2 ⟨rfl, hb⟩
  have B2 := Lib.hid (B1.out.trans (hb.mono B1.out.size))
  have KA2 := Lib.hid (KA1.out.below hb KA1.out.lt)
  clear hb
  clear B1 KA1
  go_simp
  rename_i hKK
  refine hKK _ _ ?_
  clear hKK
  try simp only [pu, sB, s0, sS]
  (with_reducible refine rN (v := .bool false) ?_ ?_ ?_); (· rfl); (· go_simp; (try with_reducible rfl)); simp only [pu, sB, s0, sS]
  go_upto_region 3 with fail
  refine wp_region_lit ?_
  (with_reducible refine rN (v := .pointer (some ⟨pA, 0, none⟩)) ?_ ?_ ?_); (· rfl); (· go_simp; (try rfl)); simp only [pu, sB, s0, sS]
  with_reducible refine wpList_loadV (.tmp 7) (j := 0) (v := .int .i64 0) ?_ ?_ KA2.out ?_ Tryz.underlying3 ?_ ?_
  · rfl
  · rfl
  · exact (cells3_0 ..)
  · rfl
  simp only [pu, sB, s0, sS]
  go_upto_region 4 with fail
  refine wp_region_lit ?_
  iterate 2 ((with_reducible refine rN (v := .bool true) ?_ ?_ ?_); (· rfl); (· go_simp; (try with_reducible rfl)); simp only [pu, sB, s0, sS])
  go_upto_region 5 with fail
  refine wp_region_lit ?_
  (with_reducible refine rN (v := .pointer (some ⟨pA, 1, none⟩)) ?_ ?_ ?_); (· rfl); (· go_simp; (try rfl)); simp only [pu, sB, s0, sS]
  with_reducible refine wpList_loadV (.tmp 11) (j := 1) (v := .int .i64 n) ?_ ?_ KA2.out ?_ Tryz.underlying3 ?_ ?_
  · rfl
  · rfl
  · exact (cells3_1 ..)
  · rfl
  simp only [pu, sB, s0, sS]
  go_wp2_with fail
  refine (HN.out _ B2.out).mono ?_
  rintro e w3 ⟨rfl, hb⟩
  have B3 := Lib.hid (B2.out.trans (hb.mono B2.out.size))
  have KA3 := Lib.hid (KA2.out.below hb KA2.out.lt)
  clear hb
  clear B2 KA2
  go_simp
  rename_i hKK
  refine hKK _ _ ?_
  clear hKK
  try simp only [pu, sB, s0, sS]
  (with_reducible refine rN (v := ?_) ?_ ?_ ?_); rotate_left; (· rfl); (· go_simp; (try with_reducible rfl)); simp only [pu, sB, s0, sS]
  go_wp2_with fail
  go_ret
  exact ⟨rfl, B3.out⟩

set_option maxHeartbeats 8000000 in
set_option maxRecDepth 100000 in
theorem textCtr (n c : Int) (t : ByteArray) (f : Fil.Flt) (fs : ByteArray) (w : World)
    (HI : Hid (∀ W, Below w.heap.size w W → Calls Tryz.prog 9 #[.agg (cells3 4 n c (cellsF f fs))] W fun e w' => e = .returned (.bool true) ∧ Below W.heap.size W w')) (HN : Hid (∀ W, Below w.heap.size w W → Calls Tryz.prog 16 #[.int .i64 c] W fun e w' => e = .returned (.string t) ∧ Below W.heap.size W w')) (ht : t.size ≤ 1000000) :
    Calls Tryz.prog 11 #[.agg (cells3 4 n c (cellsF f fs))] w fun e w' => e = .returned (.string (⟨#[99, 111, 117, 110, 116, 101, 114, 115, 40]⟩ ++ t ++ ⟨#[41]⟩)) ∧ Below w.heap.size w w' := by

  have B0 := Lib.hid (Below.refl w.heap.size w)
  go_enter Tryz.func11, Tryz.ntmps11
  go_upto_region 0 with fail
  refine wp_region_lit ?_
  obtain ⟨w1, hw⟩ : ∃ v, v = w.alloc (.cells (cells3 4 n c (cellsF f fs)) 27) := ⟨_, rfl⟩
  obtain ⟨pA, hp⟩ : ∃ v, v = w.heap.size := ⟨_, rfl⟩
  have B1 : Hid (Below w.heap.size w w1) := Lib.hid (by rw [hw]; exact B0.out.alloc B0.out.size _)
  have LEA : Hid (w.heap.size ≤ pA) := Lib.hid (by rw [hp]; exact B0.out.size)
  have KA1 : Hid (Blk w1 pA (cells3 4 n c (cellsF f fs)) 27) := Lib.hid (by rw [hw, hp]; exact Blk.new _ _ _)
  with_reducible refine wpList_runWV (some 1) (v := .pointer (some ⟨pA, 0, none⟩)) (w' := w1) ?_ ?_ ?_ ?_
  · rfl
  · rfl
  · rw [hw, hp]; (go_simp; (try rfl))
  simp only [pu, sB, s0, sS]
  clear hw hp
  clear B0
  (with_reducible refine rN (v := ?_) ?_ ?_ ?_); rotate_left; (· rfl); (· go_simp; (try with_reducible rfl)); simp only [pu, sB, s0, sS]
  go_upto_region 1 with fail
  refine wp_region_lit ?_
  with_reducible refine wpList_loadS (.tmp 1) ?_ ?_ KA1.out Tryz.underlying27 ?_ (infoTM19 (cells3_sz (cellsF_size f fs))) ?_
  · rfl
  · rfl
  · rfl
  simp only [pu, sB, s0, sS]
  go_wp2_with fail
  refine (HI.out _ B1.out).mono ?_
  rintro e w2 ⟨rfl, hb⟩
  have B2 := Lib.hid (B1.out.trans (hb.mono B1.out.size))
  have KA2 := Lib.hid (KA1.out.below hb KA1.out.lt)
  clear hb
  clear B1 KA1
  go_simp
  rename_i hKK
  refine hKK _ _ ?_
  clear hKK
  try simp only [pu, sB, s0, sS]
  (with_reducible refine rN (v := .bool false) ?_ ?_ ?_); (· rfl); (· go_simp; (try with_reducible rfl)); simp only [pu, sB, s0, sS]
  go_upto_region 3 with fail
  refine wp_region_lit ?_
  (with_reducible refine rN (v := .pointer (some ⟨pA, 0, none⟩)) ?_ ?_ ?_); (· rfl); (· go_simp; (try rfl)); simp only [pu, sB, s0, sS]
  with_reducible refine wpList_loadV (.tmp 7) (j := 0) (v := .int .i64 4) ?_ ?_ KA2.out ?_ Tryz.underlying3 ?_ ?_
  · rfl
  · rfl
  · exact (cells3_0 ..)
  · rfl
  simp only [pu, sB, s0, sS]
  go_upto_region 4 with fail
  refine wp_region_lit ?_
  iterate 2 ((with_reducible refine rN (v := .bool false) ?_ ?_ ?_); (· rfl); (· go_simp; (try with_reducible rfl)); simp only [pu, sB, s0, sS])
  go_upto_region 6 with fail
  refine wp_region_lit ?_
  iterate 2 ((with_reducible refine rN (v := .bool true) ?_ ?_ ?_); (· rfl); (· go_simp; (try with_reducible rfl)); simp only [pu, sB, s0, sS])
  go_upto_region 7 with fail
  refine wp_region_lit ?_
  (with_reducible refine rN (v := .pointer (some ⟨pA, 2, none⟩)) ?_ ?_ ?_); (· rfl); (· go_simp; (try rfl)); simp only [pu, sB, s0, sS]
  with_reducible refine wpList_loadV (.tmp 16) (j := 2) (v := .int .i64 c) ?_ ?_ KA2.out ?_ Tryz.underlying3 ?_ ?_
  · rfl
  · rfl
  · exact (cells3_2 ..)
  · rfl
  simp only [pu, sB, s0, sS]
  go_wp2_with fail
  refine (HN.out _ B2.out).mono ?_
  rintro e w3 ⟨rfl, hb⟩
  have B3 := Lib.hid (B2.out.trans (hb.mono B2.out.size))
  have KA3 := Lib.hid (KA2.out.below hb KA2.out.lt)
  clear hb
  clear B2 KA2
  go_simp
  rename_i hKK
  refine hKK _ _ ?_
  clear hKK
  try simp only [pu, sB, s0, sS]
  (with_reducible refine rN (v := .string (⟨#[99, 111, 117, 110, 116, 101, 114, 115, 40]⟩ ++ t)) ?_ ?_ ?_); (· rfl); (· go_simp; omega); simp only [pu, sB, s0, sS]
  (with_reducible refine rN (v := .string (⟨#[99, 111, 117, 110, 116, 101, 114, 115, 40]⟩ ++ t ++ ⟨#[41]⟩)) ?_ ?_ ?_); (· rfl); (· go_simp; omega); simp only [pu, sB, s0, sS]
  (with_reducible refine rN (v := ?_) ?_ ?_ ?_); rotate_left; (· rfl); (· go_simp; (try with_reducible rfl)); simp only [pu, sB, s0, sS]
  go_wp2_with fail
  go_ret
  exact ⟨rfl, B3.out⟩

set_option maxHeartbeats 8000000 in
set_option maxRecDepth 100000 in
theorem textCountOne (n c : Int) (t : ByteArray) (f : Fil.Flt) (fs : ByteArray) (w : World)
    (HI : Hid (∀ W, Below w.heap.size w W → Calls Tryz.prog 9 #[.agg (cells3 2 n c (cellsF f fs))] W fun e w' => e = .returned (.bool true) ∧ Below W.heap.size W w')) (HF : Hid (∀ W, Below w.heap.size w W → Calls Tryz.prog 20 #[.agg (cellsF f fs)] W fun e w' => e = .returned (.string t) ∧ Below W.heap.size W w')) (h1 : (n == 1) = true) (ht : t.size ≤ 1000000) :
    Calls Tryz.prog 11 #[.agg (cells3 2 n c (cellsF f fs))] w fun e w' => e = .returned (.string (⟨#[99, 111, 117, 110, 116, 40]⟩ ++ t ++ ⟨#[41]⟩)) ∧ Below w.heap.size w w' := by

  have B0 := Lib.hid (Below.refl w.heap.size w)
  go_enter Tryz.func11, Tryz.ntmps11
  go_upto_region 0 with fail
  refine wp_region_lit ?_
  obtain ⟨w1, hw⟩ : ∃ v, v = w.alloc (.cells (cells3 2 n c (cellsF f fs)) 27) := ⟨_, rfl⟩
  obtain ⟨pA, hp⟩ : ∃ v, v = w.heap.size := ⟨_, rfl⟩
  have B1 : Hid (Below w.heap.size w w1) := Lib.hid (by rw [hw]; exact B0.out.alloc B0.out.size _)
  have LEA : Hid (w.heap.size ≤ pA) := Lib.hid (by rw [hp]; exact B0.out.size)
  have KA1 : Hid (Blk w1 pA (cells3 2 n c (cellsF f fs)) 27) := Lib.hid (by rw [hw, hp]; exact Blk.new _ _ _)
  with_reducible refine wpList_runWV (some 1) (v := .pointer (some ⟨pA, 0, none⟩)) (w' := w1) ?_ ?_ ?_ ?_
  · rfl
  · rfl
  · rw [hw, hp]; (go_simp; (try rfl))
  simp only [pu, sB, s0, sS]
  clear hw hp
  clear B0
  (with_reducible refine rN (v := ?_) ?_ ?_ ?_); rotate_left; (· rfl); (· go_simp; (try with_reducible rfl)); simp only [pu, sB, s0, sS]
  go_upto_region 1 with fail
  refine wp_region_lit ?_
  with_reducible refine wpList_loadS (.tmp 1) ?_ ?_ KA1.out Tryz.underlying27 ?_ (infoTM19 (cells3_sz (cellsF_size f fs))) ?_
  · rfl
  · rfl
  · rfl
  simp only [pu, sB, s0, sS]
  go_wp2_with fail
  refine (HI.out _ B1.out).mono ?_
  rintro e w2 ⟨rfl, hb⟩
  have B2 := Lib.hid (B1.out.trans (hb.mono B1.out.size))
  have KA2 := Lib.hid (KA1.out.below hb KA1.out.lt)
  clear hb
  clear B1 KA1
  go_simp
  rename_i hKK
  refine hKK _ _ ?_
  clear hKK
  try simp only [pu, sB, s0, sS]
  (with_reducible refine rN (v := .bool false) ?_ ?_ ?_); (· rfl); (· go_simp; (try with_reducible rfl)); simp only [pu, sB, s0, sS]
  go_upto_region 3 with fail
  refine wp_region_lit ?_
  (with_reducible refine rN (v := .pointer (some ⟨pA, 0, none⟩)) ?_ ?_ ?_); (· rfl); (· go_simp; (try rfl)); simp only [pu, sB, s0, sS]
  with_reducible refine wpList_loadV (.tmp 7) (j := 0) (v := .int .i64 2) ?_ ?_ KA2.out ?_ Tryz.underlying3 ?_ ?_
  · rfl
  · rfl
  · exact (cells3_0 ..)
  · rfl
  simp only [pu, sB, s0, sS]
  go_upto_region 4 with fail
  refine wp_region_lit ?_
  iterate 2 ((with_reducible refine rN (v := .bool false) ?_ ?_ ?_); (· rfl); (· go_simp; (try with_reducible rfl)); simp only [pu, sB, s0, sS])
  go_upto_region 6 with fail
  refine wp_region_lit ?_
  iterate 2 ((with_reducible refine rN (v := .bool false) ?_ ?_ ?_); (· rfl); (· go_simp; (try with_reducible rfl)); simp only [pu, sB, s0, sS])
  go_upto_region 8 with fail
  refine wp_region_lit ?_
  iterate 2 ((with_reducible refine rN (v := .bool true) ?_ ?_ ?_); (· rfl); (· go_simp; (try with_reducible rfl)); simp only [pu, sB, s0, sS])
  go_upto_region 9 with fail
  refine wp_region_lit ?_
  (with_reducible refine rN (v := .pointer (some ⟨pA, 3, none⟩)) ?_ ?_ ?_); (· rfl); (· go_simp; (try rfl)); simp only [pu, sB, s0, sS]
  with_reducible refine wpList_loadM (.tmp 23) (o := 3) (xs := (cellsF f fs)) ?_ ?_ KA2.out ?_ Tryz.underlying25 ?_ (infoTF16 (cellsF_size f fs)) ?_
  · rfl
  · rfl
  · exact cells3_part _ _ _ _
  · rfl
  simp only [pu, sB, s0, sS]
  go_wp2_with fail
  refine (HF.out _ B2.out).mono ?_
  rintro e w3 ⟨rfl, hb⟩
  have B3 := Lib.hid (B2.out.trans (hb.mono B2.out.size))
  have KA3 := Lib.hid (KA2.out.below hb KA2.out.lt)
  clear hb
  clear B2 KA2
  go_simp
  rename_i hKK
  refine hKK _ _ ?_
  clear hKK
  try simp only [pu, sB, s0, sS]
  (with_reducible refine rN (v := .string (⟨#[99, 111, 117, 110, 116, 40]⟩ ++ t)) ?_ ?_ ?_); (· rfl); (· go_simp; omega); simp only [pu, sB, s0, sS]
  (with_reducible refine rN (v := .string (⟨#[99, 111, 117, 110, 116, 40]⟩ ++ t ++ ⟨#[41]⟩)) ?_ ?_ ?_); (· rfl); (· go_simp; omega); simp only [pu, sB, s0, sS]
  (with_reducible refine rN (v := ?_) ?_ ?_ ?_); rotate_left; (· rfl); (· go_simp; (try with_reducible rfl)); simp only [pu, sB, s0, sS]
  go_upto_region 10 with fail
  refine wp_region_lit ?_
  (with_reducible refine rN (v := .pointer (some ⟨pA, 1, none⟩)) ?_ ?_ ?_); (· rfl); (· go_simp; (try rfl)); simp only [pu, sB, s0, sS]
  with_reducible refine wpList_loadV (.tmp 28) (j := 1) (v := .int .i64 n) ?_ ?_ KA3.out ?_ Tryz.underlying3 ?_ ?_
  · rfl
  · rfl
  · exact (cells3_1 ..)
  · rfl
  simp only [pu, sB, s0, sS]
  (with_reducible refine rN (v := .bool true) ?_ ?_ ?_); (· rfl); (· go_simp; (try with_reducible rfl)); simp only [pu, sB, s0, sS]
  go_upto_region 11 with fail
  refine wp_region_lit ?_
  iterate 2 ((with_reducible refine rN (v := ?_) ?_ ?_ ?_); rotate_left; (· rfl); (· go_simp; (try with_reducible rfl)); simp only [pu, sB, s0, sS])
  go_wp2_with fail
  go_ret
  exact ⟨rfl, B3.out⟩

set_option maxHeartbeats 8000000 in
set_option maxRecDepth 100000 in
theorem textCount (n c : Int) (t u : ByteArray) (f : Fil.Flt) (fs : ByteArray) (w : World)
    (HI : Hid (∀ W, Below w.heap.size w W → Calls Tryz.prog 9 #[.agg (cells3 2 n c (cellsF f fs))] W fun e w' => e = .returned (.bool true) ∧ Below W.heap.size W w')) (HF : Hid (∀ W, Below w.heap.size w W → Calls Tryz.prog 20 #[.agg (cellsF f fs)] W fun e w' => e = .returned (.string t) ∧ Below W.heap.size W w')) (h1 : (n == 1) = false) (ht : t.size ≤ 1000000) (HN : Hid (∀ W, Below w.heap.size w W → Calls Tryz.prog 19 #[.int .i64 n] W fun e w' => e = .returned (.string u) ∧ Below W.heap.size W w')) (hu : u.size ≤ 1000000) :
    Calls Tryz.prog 11 #[.agg (cells3 2 n c (cellsF f fs))] w fun e w' => e = .returned (.string (u ++ ⟨#[42]⟩ ++ (⟨#[99, 111, 117, 110, 116, 40]⟩ ++ t ++ ⟨#[41]⟩))) ∧ Below w.heap.size w w' := by

  have B0 := Lib.hid (Below.refl w.heap.size w)
  go_enter Tryz.func11, Tryz.ntmps11
  go_upto_region 0 with fail
  refine wp_region_lit ?_
  obtain ⟨w1, hw⟩ : ∃ v, v = w.alloc (.cells (cells3 2 n c (cellsF f fs)) 27) := ⟨_, rfl⟩
  obtain ⟨pA, hp⟩ : ∃ v, v = w.heap.size := ⟨_, rfl⟩
  have B1 : Hid (Below w.heap.size w w1) := Lib.hid (by rw [hw]; exact B0.out.alloc B0.out.size _)
  have LEA : Hid (w.heap.size ≤ pA) := Lib.hid (by rw [hp]; exact B0.out.size)
  have KA1 : Hid (Blk w1 pA (cells3 2 n c (cellsF f fs)) 27) := Lib.hid (by rw [hw, hp]; exact Blk.new _ _ _)
  with_reducible refine wpList_runWV (some 1) (v := .pointer (some ⟨pA, 0, none⟩)) (w' := w1) ?_ ?_ ?_ ?_
  · rfl
  · rfl
  · rw [hw, hp]; (go_simp; (try rfl))
  simp only [pu, sB, s0, sS]
  clear hw hp
  clear B0
  (with_reducible refine rN (v := ?_) ?_ ?_ ?_); rotate_left; (· rfl); (· go_simp; (try with_reducible rfl)); simp only [pu, sB, s0, sS]
  go_upto_region 1 with fail
  refine wp_region_lit ?_
  with_reducible refine wpList_loadS (.tmp 1) ?_ ?_ KA1.out Tryz.underlying27 ?_ (infoTM19 (cells3_sz (cellsF_size f fs))) ?_
  · rfl
  · rfl
  · rfl
  simp only [pu, sB, s0, sS]
  go_wp2_with fail
  refine (HI.out _ B1.out).mono ?_
  rintro e w2 ⟨rfl, hb⟩
  have B2 := Lib.hid (B1.out.trans (hb.mono B1.out.size))
  have KA2 := Lib.hid (KA1.out.below hb KA1.out.lt)
  clear hb
  clear B1 KA1
  go_simp
  rename_i hKK
  refine hKK _ _ ?_
  clear hKK
  try simp only [pu, sB, s0, sS]
  (with_reducible refine rN (v := .bool false) ?_ ?_ ?_); (· rfl); (· go_simp; (try with_reducible rfl)); simp only [pu, sB, s0, sS]
  go_upto_region 3 with fail
  refine wp_region_lit ?_
  (with_reducible refine rN (v := .pointer (some ⟨pA, 0, none⟩)) ?_ ?_ ?_); (· rfl); (· go_simp; (try rfl)); simp only [pu, sB, s0, sS]
  with_reducible refine wpList_loadV (.tmp 7) (j := 0) (v := .int .i64 2) ?_ ?_ KA2.out ?_ Tryz.underlying3 ?_ ?_
  · rfl
  · rfl
  · exact (cells3_0 ..)
  · rfl
  simp only [pu, sB, s0, sS]
  go_upto_region 4 with fail
  refine wp_region_lit ?_
  iterate 2 ((with_reducible refine rN (v := .bool false) ?_ ?_ ?_); (· rfl); (· go_simp; (try with_reducible rfl)); simp only [pu, sB, s0, sS])
  go_upto_region 6 with fail
  refine wp_region_lit ?_
  iterate 2 ((with_reducible refine rN (v := .bool false) ?_ ?_ ?_); (· rfl); (· go_simp; (try with_reducible rfl)); simp only [pu, sB, s0, sS])
  go_upto_region 8 with fail
  refine wp_region_lit ?_
  iterate 2 ((with_reducible refine rN (v := .bool true) ?_ ?_ ?_); (· rfl); (· go_simp; (try with_reducible rfl)); simp only [pu, sB, s0, sS])
  go_upto_region 9 with fail
  refine wp_region_lit ?_
  (with_reducible refine rN (v := .pointer (some ⟨pA, 3, none⟩)) ?_ ?_ ?_); (· rfl); (· go_simp; (try rfl)); simp only [pu, sB, s0, sS]
  with_reducible refine wpList_loadM (.tmp 23) (o := 3) (xs := (cellsF f fs)) ?_ ?_ KA2.out ?_ Tryz.underlying25 ?_ (infoTF16 (cellsF_size f fs)) ?_
  · rfl
  · rfl
  · exact cells3_part _ _ _ _
  · rfl
  simp only [pu, sB, s0, sS]
  go_wp2_with fail
  refine (HF.out _ B2.out).mono ?_
  rintro e w3 ⟨rfl, hb⟩
  have B3 := Lib.hid (B2.out.trans (hb.mono B2.out.size))
  have KA3 := Lib.hid (KA2.out.below hb KA2.out.lt)
  clear hb
  clear B2 KA2
  go_simp
  rename_i hKK
  refine hKK _ _ ?_
  clear hKK
  try simp only [pu, sB, s0, sS]
  (with_reducible refine rN (v := .string (⟨#[99, 111, 117, 110, 116, 40]⟩ ++ t)) ?_ ?_ ?_); (· rfl); (· go_simp; omega); simp only [pu, sB, s0, sS]
  (with_reducible refine rN (v := .string (⟨#[99, 111, 117, 110, 116, 40]⟩ ++ t ++ ⟨#[41]⟩)) ?_ ?_ ?_); (· rfl); (· go_simp; omega); simp only [pu, sB, s0, sS]
  (with_reducible refine rN (v := ?_) ?_ ?_ ?_); rotate_left; (· rfl); (· go_simp; (try with_reducible rfl)); simp only [pu, sB, s0, sS]
  go_upto_region 10 with fail
  refine wp_region_lit ?_
  (with_reducible refine rN (v := .pointer (some ⟨pA, 1, none⟩)) ?_ ?_ ?_); (· rfl); (· go_simp; (try rfl)); simp only [pu, sB, s0, sS]
  with_reducible refine wpList_loadV (.tmp 28) (j := 1) (v := .int .i64 n) ?_ ?_ KA3.out ?_ Tryz.underlying3 ?_ ?_
  · rfl
  · rfl
  · exact (cells3_1 ..)
  · rfl
  simp only [pu, sB, s0, sS]
  (with_reducible refine rN (v := .bool false) ?_ ?_ ?_); (· rfl); (· go_simp; (try with_reducible rfl)); simp only [pu, sB, s0, sS]
  go_upto_region 12 with fail
  refine wp_region_lit ?_
  (with_reducible refine rN (v := .pointer (some ⟨pA, 1, none⟩)) ?_ ?_ ?_); (· rfl); (· go_simp; (try rfl)); simp only [pu, sB, s0, sS]
  with_reducible refine wpList_loadV (.tmp 32) (j := 1) (v := .int .i64 n) ?_ ?_ KA3.out ?_ Tryz.underlying3 ?_ ?_
  · rfl
  · rfl
  · exact (cells3_1 ..)
  · rfl
  simp only [pu, sB, s0, sS]
  go_wp2_with fail
  refine (HN.out _ B3.out).mono ?_
  rintro e w4 ⟨rfl, hb⟩
  have B4 := Lib.hid (B3.out.trans (hb.mono B3.out.size))
  have KA4 := Lib.hid (KA3.out.below hb KA3.out.lt)
  clear hb
  clear B3 KA3
  go_simp
  rename_i hKK
  refine hKK _ _ ?_
  clear hKK
  try simp only [pu, sB, s0, sS]
  (with_reducible refine rN (v := .string (u ++ ⟨#[42]⟩)) ?_ ?_ ?_); (· rfl); (· go_simp; omega); simp only [pu, sB, s0, sS]
  (with_reducible refine rN (v := ?_) ?_ ?_ ?_); rotate_left; (· rfl); (· go_simp; (try with_reducible rfl)); simp only [pu, sB, s0, sS]
  (with_reducible refine rN (v := .string (u ++ ⟨#[42]⟩ ++ (⟨#[99, 111, 117, 110, 116, 40]⟩ ++ t ++ ⟨#[41]⟩))) ?_ ?_ ?_); (· rfl); (· go_simp; omega); simp only [pu, sB, s0, sS]
  (with_reducible refine rN (v := ?_) ?_ ?_ ?_); rotate_left; (· rfl); (· go_simp; (try with_reducible rfl)); simp only [pu, sB, s0, sS]
  go_wp2_with fail
  go_ret
  exact ⟨rfl, B4.out⟩
end Go.Proofs.YtohgdmlpffeoiaaGreatDoor
namespace Go.Proofs.YtohgdmlpffeoiaaGreatDoor
open Go.RowKit
open Wd (Bs)

set_option maxHeartbeats 8000000 in
set_option maxRecDepth 100000 in
theorem textWord1 (n c : Int) (f : Fil.Flt) (fs : ByteArray) (w : World)
    (HI : Hid (∀ W, Below w.heap.size w W → Calls Tryz.prog 9 #[.agg (cells3 1 n c (cellsF f fs))] W fun e w' => e = .returned (.bool true) ∧ Below W.heap.size W w')) :
    Calls Tryz.prog 11 #[.agg (cells3 1 n c (cellsF f fs))] w fun e w' => e = .returned (.string ⟨#[120]⟩) ∧ Below w.heap.size w w' := by

  have B0 := Lib.hid (Below.refl w.heap.size w)
  go_enter Tryz.func11, Tryz.ntmps11
  go_upto_region 0 with fail
  refine wp_region_lit ?_
  obtain ⟨w1, hw⟩ : ∃ v, v = w.alloc (.cells (cells3 1 n c (cellsF f fs)) 27) := ⟨_, rfl⟩
  obtain ⟨pA, hp⟩ : ∃ v, v = w.heap.size := ⟨_, rfl⟩
  have B1 : Hid (Below w.heap.size w w1) := Lib.hid (by rw [hw]; exact B0.out.alloc B0.out.size _)
  have LEA : Hid (w.heap.size ≤ pA) := Lib.hid (by rw [hp]; exact B0.out.size)
  have KA1 : Hid (Blk w1 pA (cells3 1 n c (cellsF f fs)) 27) := Lib.hid (by rw [hw, hp]; exact Blk.new _ _ _)
  with_reducible refine wpList_runWV (some 1) (v := .pointer (some ⟨pA, 0, none⟩)) (w' := w1) ?_ ?_ ?_ ?_
  · rfl
  · rfl
  · rw [hw, hp]; (go_simp; (try rfl))
  simp only [pu, sB, s0, sS]
  clear hw hp
  clear B0
  (with_reducible refine rN (v := ?_) ?_ ?_ ?_); rotate_left; (· rfl); (· go_simp; (try with_reducible rfl)); simp only [pu, sB, s0, sS]
  go_upto_region 1 with fail
  refine wp_region_lit ?_
  with_reducible refine wpList_loadS (.tmp 1) ?_ ?_ KA1.out Tryz.underlying27 ?_ (infoTM19 (cells3_sz (cellsF_size f fs))) ?_
  · rfl
  · rfl
  · rfl
  simp only [pu, sB, s0, sS]
  go_wp2_with fail
  refine (HI.out _ B1.out).mono ?_
  rintro e w2 ⟨rfl, hb⟩
  have B2 := Lib.hid (B1.out.trans (hb.mono B1.out.size))
  have KA2 := Lib.hid (KA1.out.below hb KA1.out.lt)
  clear hb
  clear B1 KA1
  go_simp
  rename_i hKK
  refine hKK _ _ ?_
  clear hKK
  try simp only [pu, sB, s0, sS]
  (with_reducible refine rN (v := .bool false) ?_ ?_ ?_); (· rfl); (· go_simp; (try with_reducible rfl)); simp only [pu, sB, s0, sS]
  go_upto_region 3 with fail
  refine wp_region_lit ?_
  (with_reducible refine rN (v := .pointer (some ⟨pA, 0, none⟩)) ?_ ?_ ?_); (· rfl); (· go_simp; (try rfl)); simp only [pu, sB, s0, sS]
  with_reducible refine wpList_loadV (.tmp 7) (j := 0) (v := .int .i64 1) ?_ ?_ KA2.out ?_ Tryz.underlying3 ?_ ?_
  · rfl
  · rfl
  · exact (cells3_0 ..)
  · rfl
  simp only [pu, sB, s0, sS]
  go_upto_region 4 with fail
  refine wp_region_lit ?_
  iterate 2 ((with_reducible refine rN (v := .bool false) ?_ ?_ ?_); (· rfl); (· go_simp; (try with_reducible rfl)); simp only [pu, sB, s0, sS])
  go_upto_region 6 with fail
  refine wp_region_lit ?_
  iterate 2 ((with_reducible refine rN (v := .bool false) ?_ ?_ ?_); (· rfl); (· go_simp; (try with_reducible rfl)); simp only [pu, sB, s0, sS])
  go_upto_region 8 with fail
  refine wp_region_lit ?_
  iterate 2 ((with_reducible refine rN (v := .bool false) ?_ ?_ ?_); (· rfl); (· go_simp; (try with_reducible rfl)); simp only [pu, sB, s0, sS])
  go_upto_region 13 with fail
  refine wp_region_held_drew (S := (fun W : World => Blk W pA (cells3 1 n c (cellsF f fs)) 27)) (by kernel_rfl) ?_ (fun hHeld => ?_)
  · exact KA2.out.drew
  refine take_run 1 (some 39) (v := .pointer (some ⟨pA, 0, none⟩)) rfl rfl (by kernel_rfl) (by kernel_rfl) (by kernel_rfl) (fun _ _ _ h => h) (by rfl) ?_ (by assumption) ?_
  · (intro W hSw; go_simp; (try rfl))
  simp only [pu, sB, s0, sS]
  refine take_loadV 2 (some 40) rfl rfl (by kernel_rfl) (by kernel_rfl) (by kernel_rfl) (fun _ _ _ h => h) (by rfl) (.tmp 39) rfl (b := pA) (j := 0) (cs := (cells3 1 n c (cellsF f fs))) (v := .int .i64 1) (by rfl) (fun W h => h) (cells3_0 ..) Tryz.underlying3 rfl (by assumption) ?_
  simp only [pu, sB, s0, sS]
  refine wpAnyH_ready (rs := [0]) (by kernel_rfl) (by simp) ?_
  refine AllReadyH.cons rfl (fun K1 hK1 => ?_) AllReadyH.nil
  go_simp
  go_at_call 21
  refine (callBase (C := w2.heap.size) (w0 := w2) (by go_grown) (Nat.le_refl _) (amtWordsE _)).mono ?_
  rintro e wd1 ⟨⟨b, rfl, hbk⟩, hbd1⟩
  go_simp
  refine hK1.out _ _ ?_ (fun hHd1 => ?_)
  · exact KA2.out.below hbd1 KA2.out.lt
  clear hK1 K1 hHeld
  have hHd1x : (fun W : World => Blk W pA (cells3 1 n c (cellsF f fs)) 27 ∧ W.cell? ⟨b, 1, none⟩ = some (.string ⟨#[120]⟩)) _ := ⟨KA2.out.below hbd1 KA2.out.lt, (hbk.cell 1)⟩
  refine wpAnyH_more (S' := (fun W : World => Blk W pA (cells3 1 n c (cellsF f fs)) 27 ∧ W.cell? ⟨b, 1, none⟩ = some (.string ⟨#[120]⟩))) (fun W h => h.1) _ _ _ _ ?_
  clear hHd1
  try simp only [pu, sB, s0, sS]
  refine take_run 3 (some 41) (v := ?_) rfl rfl (by kernel_rfl) (by kernel_rfl) (by kernel_rfl) (fun _ _ _ h => h) (by rfl) ?_ (by assumption) ?_
  rotate_left
  · (intro W hSw; (try dsimp only at hSw); go_simp; (try with_reducible rfl))
  simp only [pu, sB, s0, sS]
  refine take_run 4 (some 42) (v := .string ⟨#[120]⟩) rfl rfl (by kernel_rfl) (by kernel_rfl) (by kernel_rfl) (fun _ _ _ h => h) (by rfl) ?_ (by assumption) ?_
  · (intro W hSw; have hc := hSw.2; go_simp; (try with_reducible rfl))
  simp only [pu, sB, s0, sS]
  refine take_run 5 (some 2) (v := ?_) rfl rfl (by kernel_rfl) (by kernel_rfl) (by kernel_rfl) (fun _ _ _ h => h) (by rfl) ?_ (by assumption) ?_
  rotate_left
  · (intro W hSw; (try dsimp only at hSw); go_simp; (try with_reducible rfl))
  simp only [pu, sB, s0, sS]
  refine wpAnyH_done (by kernel_rfl) ?_ _
  have B3 := Lib.hid (B2.out.trans (hbd1.mono B2.out.size))
  have KA3 := Lib.hid (KA2.out.below hbd1 KA2.out.lt)
  go_wp2_with fail
  go_ret
  exact ⟨rfl, B3.out⟩

set_option maxHeartbeats 8000000 in
set_option maxRecDepth 100000 in
theorem textWord3 (n c : Int) (f : Fil.Flt) (fs : ByteArray) (w : World)
    (HI : Hid (∀ W, Below w.heap.size w W → Calls Tryz.prog 9 #[.agg (cells3 3 n c (cellsF f fs))] W fun e w' => e = .returned (.bool true) ∧ Below W.heap.size W w')) :
    Calls Tryz.prog 11 #[.agg (cells3 3 n c (cellsF f fs))] w fun e w' => e = .returned (.string ⟨#[112, 111, 119, 101, 114]⟩) ∧ Below w.heap.size w w' := by

  have B0 := Lib.hid (Below.refl w.heap.size w)
  go_enter Tryz.func11, Tryz.ntmps11
  go_upto_region 0 with fail
  refine wp_region_lit ?_
  obtain ⟨w1, hw⟩ : ∃ v, v = w.alloc (.cells (cells3 3 n c (cellsF f fs)) 27) := ⟨_, rfl⟩
  obtain ⟨pA, hp⟩ : ∃ v, v = w.heap.size := ⟨_, rfl⟩
  have B1 : Hid (Below w.heap.size w w1) := Lib.hid (by rw [hw]; exact B0.out.alloc B0.out.size _)
  have LEA : Hid (w.heap.size ≤ pA) := Lib.hid (by rw [hp]; exact B0.out.size)
  have KA1 : Hid (Blk w1 pA (cells3 3 n c (cellsF f fs)) 27) := Lib.hid (by rw [hw, hp]; exact Blk.new _ _ _)
  with_reducible refine wpList_runWV (some 1) (v := .pointer (some ⟨pA, 0, none⟩)) (w' := w1) ?_ ?_ ?_ ?_
  · rfl
  · rfl
  · rw [hw, hp]; (go_simp; (try rfl))
  simp only [pu, sB, s0, sS]
  clear hw hp
  clear B0
  (with_reducible refine rN (v := ?_) ?_ ?_ ?_); rotate_left; (· rfl); (· go_simp; (try with_reducible rfl)); simp only [pu, sB, s0, sS]
  go_upto_region 1 with fail
  refine wp_region_lit ?_
  with_reducible refine wpList_loadS (.tmp 1) ?_ ?_ KA1.out Tryz.underlying27 ?_ (infoTM19 (cells3_sz (cellsF_size f fs))) ?_
  · rfl
  · rfl
  · rfl
  simp only [pu, sB, s0, sS]
  go_wp2_with fail
  refine (HI.out _ B1.out).mono ?_
  rintro e w2 ⟨rfl, hb⟩
  have B2 := Lib.hid (B1.out.trans (hb.mono B1.out.size))
  have KA2 := Lib.hid (KA1.out.below hb KA1.out.lt)
  clear hb
  clear B1 KA1
  go_simp
  rename_i hKK
  refine hKK _ _ ?_
  clear hKK
  try simp only [pu, sB, s0, sS]
  (with_reducible refine rN (v := .bool false) ?_ ?_ ?_); (· rfl); (· go_simp; (try with_reducible rfl)); simp only [pu, sB, s0, sS]
  go_upto_region 3 with fail
  refine wp_region_lit ?_
  (with_reducible refine rN (v := .pointer (some ⟨pA, 0, none⟩)) ?_ ?_ ?_); (· rfl); (· go_simp; (try rfl)); simp only [pu, sB, s0, sS]
  with_reducible refine wpList_loadV (.tmp 7) (j := 0) (v := .int .i64 3) ?_ ?_ KA2.out ?_ Tryz.underlying3 ?_ ?_
  · rfl
  · rfl
  · exact (cells3_0 ..)
  · rfl
  simp only [pu, sB, s0, sS]
  go_upto_region 4 with fail
  refine wp_region_lit ?_
  iterate 2 ((with_reducible refine rN (v := .bool false) ?_ ?_ ?_); (· rfl); (· go_simp; (try with_reducible rfl)); simp only [pu, sB, s0, sS])
  go_upto_region 6 with fail
  refine wp_region_lit ?_
  iterate 2 ((with_reducible refine rN (v := .bool false) ?_ ?_ ?_); (· rfl); (· go_simp; (try with_reducible rfl)); simp only [pu, sB, s0, sS])
  go_upto_region 8 with fail
  refine wp_region_lit ?_
  iterate 2 ((with_reducible refine rN (v := .bool false) ?_ ?_ ?_); (· rfl); (· go_simp; (try with_reducible rfl)); simp only [pu, sB, s0, sS])
  go_upto_region 13 with fail
  refine wp_region_held_drew (S := (fun W : World => Blk W pA (cells3 3 n c (cellsF f fs)) 27)) (by kernel_rfl) ?_ (fun hHeld => ?_)
  · exact KA2.out.drew
  refine take_run 1 (some 39) (v := .pointer (some ⟨pA, 0, none⟩)) rfl rfl (by kernel_rfl) (by kernel_rfl) (by kernel_rfl) (fun _ _ _ h => h) (by rfl) ?_ (by assumption) ?_
  · (intro W hSw; go_simp; (try rfl))
  simp only [pu, sB, s0, sS]
  refine take_loadV 2 (some 40) rfl rfl (by kernel_rfl) (by kernel_rfl) (by kernel_rfl) (fun _ _ _ h => h) (by rfl) (.tmp 39) rfl (b := pA) (j := 0) (cs := (cells3 3 n c (cellsF f fs))) (v := .int .i64 3) (by rfl) (fun W h => h) (cells3_0 ..) Tryz.underlying3 rfl (by assumption) ?_
  simp only [pu, sB, s0, sS]
  refine wpAnyH_ready (rs := [0]) (by kernel_rfl) (by simp) ?_
  refine AllReadyH.cons rfl (fun K1 hK1 => ?_) AllReadyH.nil
  go_simp
  go_at_call 21
  refine (callBase (C := w2.heap.size) (w0 := w2) (by go_grown) (Nat.le_refl _) (amtWordsE _)).mono ?_
  rintro e wd1 ⟨⟨b, rfl, hbk⟩, hbd1⟩
  go_simp
  refine hK1.out _ _ ?_ (fun hHd1 => ?_)
  · exact KA2.out.below hbd1 KA2.out.lt
  clear hK1 K1 hHeld
  have hHd1x : (fun W : World => Blk W pA (cells3 3 n c (cellsF f fs)) 27 ∧ W.cell? ⟨b, 3, none⟩ = some (.string ⟨#[112, 111, 119, 101, 114]⟩)) _ := ⟨KA2.out.below hbd1 KA2.out.lt, (hbk.cell 3)⟩
  refine wpAnyH_more (S' := (fun W : World => Blk W pA (cells3 3 n c (cellsF f fs)) 27 ∧ W.cell? ⟨b, 3, none⟩ = some (.string ⟨#[112, 111, 119, 101, 114]⟩))) (fun W h => h.1) _ _ _ _ ?_
  clear hHd1
  try simp only [pu, sB, s0, sS]
  refine take_run 3 (some 41) (v := ?_) rfl rfl (by kernel_rfl) (by kernel_rfl) (by kernel_rfl) (fun _ _ _ h => h) (by rfl) ?_ (by assumption) ?_
  rotate_left
  · (intro W hSw; (try dsimp only at hSw); go_simp; (try with_reducible rfl))
  simp only [pu, sB, s0, sS]
  refine take_run 4 (some 42) (v := .string ⟨#[112, 111, 119, 101, 114]⟩) rfl rfl (by kernel_rfl) (by kernel_rfl) (by kernel_rfl) (fun _ _ _ h => h) (by rfl) ?_ (by assumption) ?_
  · (intro W hSw; have hc := hSw.2; go_simp; (try with_reducible rfl))
  simp only [pu, sB, s0, sS]
  refine take_run 5 (some 2) (v := ?_) rfl rfl (by kernel_rfl) (by kernel_rfl) (by kernel_rfl) (fun _ _ _ h => h) (by rfl) ?_ (by assumption) ?_
  rotate_left
  · (intro W hSw; (try dsimp only at hSw); go_simp; (try with_reducible rfl))
  simp only [pu, sB, s0, sS]
  refine wpAnyH_done (by kernel_rfl) ?_ _
  have B3 := Lib.hid (B2.out.trans (hbd1.mono B2.out.size))
  have KA3 := Lib.hid (KA2.out.below hbd1 KA2.out.lt)
  go_wp2_with fail
  go_ret
  exact ⟨rfl, B3.out⟩

set_option maxHeartbeats 8000000 in
set_option maxRecDepth 100000 in
theorem textWord5 (n c : Int) (f : Fil.Flt) (fs : ByteArray) (w : World)
    (HI : Hid (∀ W, Below w.heap.size w W → Calls Tryz.prog 9 #[.agg (cells3 5 n c (cellsF f fs))] W fun e w' => e = .returned (.bool true) ∧ Below W.heap.size W w')) :
    Calls Tryz.prog 11 #[.agg (cells3 5 n c (cellsF f fs))] w fun e w' => e = .returned (.string ⟨#[108, 105, 102, 101]⟩) ∧ Below w.heap.size w w' := by

  have B0 := Lib.hid (Below.refl w.heap.size w)
  go_enter Tryz.func11, Tryz.ntmps11
  go_upto_region 0 with fail
  refine wp_region_lit ?_
  obtain ⟨w1, hw⟩ : ∃ v, v = w.alloc (.cells (cells3 5 n c (cellsF f fs)) 27) := ⟨_, rfl⟩
  obtain ⟨pA, hp⟩ : ∃ v, v = w.heap.size := ⟨_, rfl⟩
  have B1 : Hid (Below w.heap.size w w1) := Lib.hid (by rw [hw]; exact B0.out.alloc B0.out.size _)
  have LEA : Hid (w.heap.size ≤ pA) := Lib.hid (by rw [hp]; exact B0.out.size)
  have KA1 : Hid (Blk w1 pA (cells3 5 n c (cellsF f fs)) 27) := Lib.hid (by rw [hw, hp]; exact Blk.new _ _ _)
  with_reducible refine wpList_runWV (some 1) (v := .pointer (some ⟨pA, 0, none⟩)) (w' := w1) ?_ ?_ ?_ ?_
  · rfl
  · rfl
  · rw [hw, hp]; (go_simp; (try rfl))
  simp only [pu, sB, s0, sS]
  clear hw hp
  clear B0
  (with_reducible refine rN (v := ?_) ?_ ?_ ?_); rotate_left; (· rfl); (· go_simp; (try with_reducible rfl)); simp only [pu, sB, s0, sS]
  go_upto_region 1 with fail
  refine wp_region_lit ?_
  with_reducible refine wpList_loadS (.tmp 1) ?_ ?_ KA1.out Tryz.underlying27 ?_ (infoTM19 (cells3_sz (cellsF_size f fs))) ?_
  · rfl
  · rfl
  · rfl
  simp only [pu, sB, s0, sS]
  go_wp2_with fail
  refine (HI.out _ B1.out).mono ?_
  rintro e w2 ⟨rfl, hb⟩
  have B2 := Lib.hid (B1.out.trans (hb.mono B1.out.size))
  have KA2 := Lib.hid (KA1.out.below hb KA1.out.lt)
  clear hb
  clear B1 KA1
  go_simp
  rename_i hKK
  refine hKK _ _ ?_
  clear hKK
  try simp only [pu, sB, s0, sS]
  (with_reducible refine rN (v := .bool false) ?_ ?_ ?_); (· rfl); (· go_simp; (try with_reducible rfl)); simp only [pu, sB, s0, sS]
  go_upto_region 3 with fail
  refine wp_region_lit ?_
  (with_reducible refine rN (v := .pointer (some ⟨pA, 0, none⟩)) ?_ ?_ ?_); (· rfl); (· go_simp; (try rfl)); simp only [pu, sB, s0, sS]
  with_reducible refine wpList_loadV (.tmp 7) (j := 0) (v := .int .i64 5) ?_ ?_ KA2.out ?_ Tryz.underlying3 ?_ ?_
  · rfl
  · rfl
  · exact (cells3_0 ..)
  · rfl
  simp only [pu, sB, s0, sS]
  go_upto_region 4 with fail
  refine wp_region_lit ?_
  iterate 2 ((with_reducible refine rN (v := .bool false) ?_ ?_ ?_); (· rfl); (· go_simp; (try with_reducible rfl)); simp only [pu, sB, s0, sS])
  go_upto_region 6 with fail
  refine wp_region_lit ?_
  iterate 2 ((with_reducible refine rN (v := .bool false) ?_ ?_ ?_); (· rfl); (· go_simp; (try with_reducible rfl)); simp only [pu, sB, s0, sS])
  go_upto_region 8 with fail
  refine wp_region_lit ?_
  iterate 2 ((with_reducible refine rN (v := .bool false) ?_ ?_ ?_); (· rfl); (· go_simp; (try with_reducible rfl)); simp only [pu, sB, s0, sS])
  go_upto_region 13 with fail
  refine wp_region_held_drew (S := (fun W : World => Blk W pA (cells3 5 n c (cellsF f fs)) 27)) (by kernel_rfl) ?_ (fun hHeld => ?_)
  · exact KA2.out.drew
  refine take_run 1 (some 39) (v := .pointer (some ⟨pA, 0, none⟩)) rfl rfl (by kernel_rfl) (by kernel_rfl) (by kernel_rfl) (fun _ _ _ h => h) (by rfl) ?_ (by assumption) ?_
  · (intro W hSw; go_simp; (try rfl))
  simp only [pu, sB, s0, sS]
  refine take_loadV 2 (some 40) rfl rfl (by kernel_rfl) (by kernel_rfl) (by kernel_rfl) (fun _ _ _ h => h) (by rfl) (.tmp 39) rfl (b := pA) (j := 0) (cs := (cells3 5 n c (cellsF f fs))) (v := .int .i64 5) (by rfl) (fun W h => h) (cells3_0 ..) Tryz.underlying3 rfl (by assumption) ?_
  simp only [pu, sB, s0, sS]
  refine wpAnyH_ready (rs := [0]) (by kernel_rfl) (by simp) ?_
  refine AllReadyH.cons rfl (fun K1 hK1 => ?_) AllReadyH.nil
  go_simp
  go_at_call 21
  refine (callBase (C := w2.heap.size) (w0 := w2) (by go_grown) (Nat.le_refl _) (amtWordsE _)).mono ?_
  rintro e wd1 ⟨⟨b, rfl, hbk⟩, hbd1⟩
  go_simp
  refine hK1.out _ _ ?_ (fun hHd1 => ?_)
  · exact KA2.out.below hbd1 KA2.out.lt
  clear hK1 K1 hHeld
  have hHd1x : (fun W : World => Blk W pA (cells3 5 n c (cellsF f fs)) 27 ∧ W.cell? ⟨b, 5, none⟩ = some (.string ⟨#[108, 105, 102, 101]⟩)) _ := ⟨KA2.out.below hbd1 KA2.out.lt, (hbk.cell 5)⟩
  refine wpAnyH_more (S' := (fun W : World => Blk W pA (cells3 5 n c (cellsF f fs)) 27 ∧ W.cell? ⟨b, 5, none⟩ = some (.string ⟨#[108, 105, 102, 101]⟩))) (fun W h => h.1) _ _ _ _ ?_
  clear hHd1
  try simp only [pu, sB, s0, sS]
  refine take_run 3 (some 41) (v := ?_) rfl rfl (by kernel_rfl) (by kernel_rfl) (by kernel_rfl) (fun _ _ _ h => h) (by rfl) ?_ (by assumption) ?_
  rotate_left
  · (intro W hSw; (try dsimp only at hSw); go_simp; (try with_reducible rfl))
  simp only [pu, sB, s0, sS]
  refine take_run 4 (some 42) (v := .string ⟨#[108, 105, 102, 101]⟩) rfl rfl (by kernel_rfl) (by kernel_rfl) (by kernel_rfl) (fun _ _ _ h => h) (by rfl) ?_ (by assumption) ?_
  · (intro W hSw; have hc := hSw.2; go_simp; (try with_reducible rfl))
  simp only [pu, sB, s0, sS]
  refine take_run 5 (some 2) (v := ?_) rfl rfl (by kernel_rfl) (by kernel_rfl) (by kernel_rfl) (fun _ _ _ h => h) (by rfl) ?_ (by assumption) ?_
  rotate_left
  · (intro W hSw; (try dsimp only at hSw); go_simp; (try with_reducible rfl))
  simp only [pu, sB, s0, sS]
  refine wpAnyH_done (by kernel_rfl) ?_ _
  have B3 := Lib.hid (B2.out.trans (hbd1.mono B2.out.size))
  have KA3 := Lib.hid (KA2.out.below hbd1 KA2.out.lt)
  go_wp2_with fail
  go_ret
  exact ⟨rfl, B3.out⟩

set_option maxHeartbeats 8000000 in
set_option maxRecDepth 100000 in
theorem textWord6 (n c : Int) (f : Fil.Flt) (fs : ByteArray) (w : World)
    (HI : Hid (∀ W, Below w.heap.size w W → Calls Tryz.prog 9 #[.agg (cells3 6 n c (cellsF f fs))] W fun e w' => e = .returned (.bool true) ∧ Below W.heap.size W w')) :
    Calls Tryz.prog 11 #[.agg (cells3 6 n c (cellsF f fs))] w fun e w' => e = .returned (.string ⟨#[104, 97, 110, 100]⟩) ∧ Below w.heap.size w w' := by

  have B0 := Lib.hid (Below.refl w.heap.size w)
  go_enter Tryz.func11, Tryz.ntmps11
  go_upto_region 0 with fail
  refine wp_region_lit ?_
  obtain ⟨w1, hw⟩ : ∃ v, v = w.alloc (.cells (cells3 6 n c (cellsF f fs)) 27) := ⟨_, rfl⟩
  obtain ⟨pA, hp⟩ : ∃ v, v = w.heap.size := ⟨_, rfl⟩
  have B1 : Hid (Below w.heap.size w w1) := Lib.hid (by rw [hw]; exact B0.out.alloc B0.out.size _)
  have LEA : Hid (w.heap.size ≤ pA) := Lib.hid (by rw [hp]; exact B0.out.size)
  have KA1 : Hid (Blk w1 pA (cells3 6 n c (cellsF f fs)) 27) := Lib.hid (by rw [hw, hp]; exact Blk.new _ _ _)
  with_reducible refine wpList_runWV (some 1) (v := .pointer (some ⟨pA, 0, none⟩)) (w' := w1) ?_ ?_ ?_ ?_
  · rfl
  · rfl
  · rw [hw, hp]; (go_simp; (try rfl))
  simp only [pu, sB, s0, sS]
  clear hw hp
  clear B0
  (with_reducible refine rN (v := ?_) ?_ ?_ ?_); rotate_left; (· rfl); (· go_simp; (try with_reducible rfl)); simp only [pu, sB, s0, sS]
  go_upto_region 1 with fail
  refine wp_region_lit ?_
  with_reducible refine wpList_loadS (.tmp 1) ?_ ?_ KA1.out Tryz.underlying27 ?_ (infoTM19 (cells3_sz (cellsF_size f fs))) ?_
  · rfl
  · rfl
  · rfl
  simp only [pu, sB, s0, sS]
  go_wp2_with fail
  refine (HI.out _ B1.out).mono ?_
  rintro e w2 ⟨rfl, hb⟩
  have B2 := Lib.hid (B1.out.trans (hb.mono B1.out.size))
  have KA2 := Lib.hid (KA1.out.below hb KA1.out.lt)
  clear hb
  clear B1 KA1
  go_simp
  rename_i hKK
  refine hKK _ _ ?_
  clear hKK
  try simp only [pu, sB, s0, sS]
  (with_reducible refine rN (v := .bool false) ?_ ?_ ?_); (· rfl); (· go_simp; (try with_reducible rfl)); simp only [pu, sB, s0, sS]
  go_upto_region 3 with fail
  refine wp_region_lit ?_
  (with_reducible refine rN (v := .pointer (some ⟨pA, 0, none⟩)) ?_ ?_ ?_); (· rfl); (· go_simp; (try rfl)); simp only [pu, sB, s0, sS]
  with_reducible refine wpList_loadV (.tmp 7) (j := 0) (v := .int .i64 6) ?_ ?_ KA2.out ?_ Tryz.underlying3 ?_ ?_
  · rfl
  · rfl
  · exact (cells3_0 ..)
  · rfl
  simp only [pu, sB, s0, sS]
  go_upto_region 4 with fail
  refine wp_region_lit ?_
  iterate 2 ((with_reducible refine rN (v := .bool false) ?_ ?_ ?_); (· rfl); (· go_simp; (try with_reducible rfl)); simp only [pu, sB, s0, sS])
  go_upto_region 6 with fail
  refine wp_region_lit ?_
  iterate 2 ((with_reducible refine rN (v := .bool false) ?_ ?_ ?_); (· rfl); (· go_simp; (try with_reducible rfl)); simp only [pu, sB, s0, sS])
  go_upto_region 8 with fail
  refine wp_region_lit ?_
  iterate 2 ((with_reducible refine rN (v := .bool false) ?_ ?_ ?_); (· rfl); (· go_simp; (try with_reducible rfl)); simp only [pu, sB, s0, sS])
  go_upto_region 13 with fail
  refine wp_region_held_drew (S := (fun W : World => Blk W pA (cells3 6 n c (cellsF f fs)) 27)) (by kernel_rfl) ?_ (fun hHeld => ?_)
  · exact KA2.out.drew
  refine take_run 1 (some 39) (v := .pointer (some ⟨pA, 0, none⟩)) rfl rfl (by kernel_rfl) (by kernel_rfl) (by kernel_rfl) (fun _ _ _ h => h) (by rfl) ?_ (by assumption) ?_
  · (intro W hSw; go_simp; (try rfl))
  simp only [pu, sB, s0, sS]
  refine take_loadV 2 (some 40) rfl rfl (by kernel_rfl) (by kernel_rfl) (by kernel_rfl) (fun _ _ _ h => h) (by rfl) (.tmp 39) rfl (b := pA) (j := 0) (cs := (cells3 6 n c (cellsF f fs))) (v := .int .i64 6) (by rfl) (fun W h => h) (cells3_0 ..) Tryz.underlying3 rfl (by assumption) ?_
  simp only [pu, sB, s0, sS]
  refine wpAnyH_ready (rs := [0]) (by kernel_rfl) (by simp) ?_
  refine AllReadyH.cons rfl (fun K1 hK1 => ?_) AllReadyH.nil
  go_simp
  go_at_call 21
  refine (callBase (C := w2.heap.size) (w0 := w2) (by go_grown) (Nat.le_refl _) (amtWordsE _)).mono ?_
  rintro e wd1 ⟨⟨b, rfl, hbk⟩, hbd1⟩
  go_simp
  refine hK1.out _ _ ?_ (fun hHd1 => ?_)
  · exact KA2.out.below hbd1 KA2.out.lt
  clear hK1 K1 hHeld
  have hHd1x : (fun W : World => Blk W pA (cells3 6 n c (cellsF f fs)) 27 ∧ W.cell? ⟨b, 6, none⟩ = some (.string ⟨#[104, 97, 110, 100]⟩)) _ := ⟨KA2.out.below hbd1 KA2.out.lt, (hbk.cell 6)⟩
  refine wpAnyH_more (S' := (fun W : World => Blk W pA (cells3 6 n c (cellsF f fs)) 27 ∧ W.cell? ⟨b, 6, none⟩ = some (.string ⟨#[104, 97, 110, 100]⟩))) (fun W h => h.1) _ _ _ _ ?_
  clear hHd1
  try simp only [pu, sB, s0, sS]
  refine take_run 3 (some 41) (v := ?_) rfl rfl (by kernel_rfl) (by kernel_rfl) (by kernel_rfl) (fun _ _ _ h => h) (by rfl) ?_ (by assumption) ?_
  rotate_left
  · (intro W hSw; (try dsimp only at hSw); go_simp; (try with_reducible rfl))
  simp only [pu, sB, s0, sS]
  refine take_run 4 (some 42) (v := .string ⟨#[104, 97, 110, 100]⟩) rfl rfl (by kernel_rfl) (by kernel_rfl) (by kernel_rfl) (fun _ _ _ h => h) (by rfl) ?_ (by assumption) ?_
  · (intro W hSw; have hc := hSw.2; go_simp; (try with_reducible rfl))
  simp only [pu, sB, s0, sS]
  refine take_run 5 (some 2) (v := ?_) rfl rfl (by kernel_rfl) (by kernel_rfl) (by kernel_rfl) (fun _ _ _ h => h) (by rfl) ?_ (by assumption) ?_
  rotate_left
  · (intro W hSw; (try dsimp only at hSw); go_simp; (try with_reducible rfl))
  simp only [pu, sB, s0, sS]
  refine wpAnyH_done (by kernel_rfl) ?_ _
  have B3 := Lib.hid (B2.out.trans (hbd1.mono B2.out.size))
  have KA3 := Lib.hid (KA2.out.below hbd1 KA2.out.lt)
  go_wp2_with fail
  go_ret
  exact ⟨rfl, B3.out⟩

set_option maxHeartbeats 8000000 in
set_option maxRecDepth 100000 in
theorem textWord7 (n c : Int) (f : Fil.Flt) (fs : ByteArray) (w : World)
    (HI : Hid (∀ W, Below w.heap.size w W → Calls Tryz.prog 9 #[.agg (cells3 7 n c (cellsF f fs))] W fun e w' => e = .returned (.bool true) ∧ Below W.heap.size W w')) :
    Calls Tryz.prog 11 #[.agg (cells3 7 n c (cellsF f fs))] w fun e w' => e = .returned (.string ⟨#[116, 104, 97, 116]⟩) ∧ Below w.heap.size w w' := by

  have B0 := Lib.hid (Below.refl w.heap.size w)
  go_enter Tryz.func11, Tryz.ntmps11
  go_upto_region 0 with fail
  refine wp_region_lit ?_
  obtain ⟨w1, hw⟩ : ∃ v, v = w.alloc (.cells (cells3 7 n c (cellsF f fs)) 27) := ⟨_, rfl⟩
  obtain ⟨pA, hp⟩ : ∃ v, v = w.heap.size := ⟨_, rfl⟩
  have B1 : Hid (Below w.heap.size w w1) := Lib.hid (by rw [hw]; exact B0.out.alloc B0.out.size _)
  have LEA : Hid (w.heap.size ≤ pA) := Lib.hid (by rw [hp]; exact B0.out.size)
  have KA1 : Hid (Blk w1 pA (cells3 7 n c (cellsF f fs)) 27) := Lib.hid (by rw [hw, hp]; exact Blk.new _ _ _)
  with_reducible refine wpList_runWV (some 1) (v := .pointer (some ⟨pA, 0, none⟩)) (w' := w1) ?_ ?_ ?_ ?_
  · rfl
  · rfl
  · rw [hw, hp]; (go_simp; (try rfl))
  simp only [pu, sB, s0, sS]
  clear hw hp
  clear B0
  (with_reducible refine rN (v := ?_) ?_ ?_ ?_); rotate_left; (· rfl); (· go_simp; (try with_reducible rfl)); simp only [pu, sB, s0, sS]
  go_upto_region 1 with fail
  refine wp_region_lit ?_
  with_reducible refine wpList_loadS (.tmp 1) ?_ ?_ KA1.out Tryz.underlying27 ?_ (infoTM19 (cells3_sz (cellsF_size f fs))) ?_
  · rfl
  · rfl
  · rfl
  simp only [pu, sB, s0, sS]
  go_wp2_with fail
  refine (HI.out _ B1.out).mono ?_
  rintro e w2 ⟨rfl, hb⟩
  have B2 := Lib.hid (B1.out.trans (hb.mono B1.out.size))
  have KA2 := Lib.hid (KA1.out.below hb KA1.out.lt)
  clear hb
  clear B1 KA1
  go_simp
  rename_i hKK
  refine hKK _ _ ?_
  clear hKK
  try simp only [pu, sB, s0, sS]
  (with_reducible refine rN (v := .bool false) ?_ ?_ ?_); (· rfl); (· go_simp; (try with_reducible rfl)); simp only [pu, sB, s0, sS]
  go_upto_region 3 with fail
  refine wp_region_lit ?_
  (with_reducible refine rN (v := .pointer (some ⟨pA, 0, none⟩)) ?_ ?_ ?_); (· rfl); (· go_simp; (try rfl)); simp only [pu, sB, s0, sS]
  with_reducible refine wpList_loadV (.tmp 7) (j := 0) (v := .int .i64 7) ?_ ?_ KA2.out ?_ Tryz.underlying3 ?_ ?_
  · rfl
  · rfl
  · exact (cells3_0 ..)
  · rfl
  simp only [pu, sB, s0, sS]
  go_upto_region 4 with fail
  refine wp_region_lit ?_
  iterate 2 ((with_reducible refine rN (v := .bool false) ?_ ?_ ?_); (· rfl); (· go_simp; (try with_reducible rfl)); simp only [pu, sB, s0, sS])
  go_upto_region 6 with fail
  refine wp_region_lit ?_
  iterate 2 ((with_reducible refine rN (v := .bool false) ?_ ?_ ?_); (· rfl); (· go_simp; (try with_reducible rfl)); simp only [pu, sB, s0, sS])
  go_upto_region 8 with fail
  refine wp_region_lit ?_
  iterate 2 ((with_reducible refine rN (v := .bool false) ?_ ?_ ?_); (· rfl); (· go_simp; (try with_reducible rfl)); simp only [pu, sB, s0, sS])
  go_upto_region 13 with fail
  refine wp_region_held_drew (S := (fun W : World => Blk W pA (cells3 7 n c (cellsF f fs)) 27)) (by kernel_rfl) ?_ (fun hHeld => ?_)
  · exact KA2.out.drew
  refine take_run 1 (some 39) (v := .pointer (some ⟨pA, 0, none⟩)) rfl rfl (by kernel_rfl) (by kernel_rfl) (by kernel_rfl) (fun _ _ _ h => h) (by rfl) ?_ (by assumption) ?_
  · (intro W hSw; go_simp; (try rfl))
  simp only [pu, sB, s0, sS]
  refine take_loadV 2 (some 40) rfl rfl (by kernel_rfl) (by kernel_rfl) (by kernel_rfl) (fun _ _ _ h => h) (by rfl) (.tmp 39) rfl (b := pA) (j := 0) (cs := (cells3 7 n c (cellsF f fs))) (v := .int .i64 7) (by rfl) (fun W h => h) (cells3_0 ..) Tryz.underlying3 rfl (by assumption) ?_
  simp only [pu, sB, s0, sS]
  refine wpAnyH_ready (rs := [0]) (by kernel_rfl) (by simp) ?_
  refine AllReadyH.cons rfl (fun K1 hK1 => ?_) AllReadyH.nil
  go_simp
  go_at_call 21
  refine (callBase (C := w2.heap.size) (w0 := w2) (by go_grown) (Nat.le_refl _) (amtWordsE _)).mono ?_
  rintro e wd1 ⟨⟨b, rfl, hbk⟩, hbd1⟩
  go_simp
  refine hK1.out _ _ ?_ (fun hHd1 => ?_)
  · exact KA2.out.below hbd1 KA2.out.lt
  clear hK1 K1 hHeld
  have hHd1x : (fun W : World => Blk W pA (cells3 7 n c (cellsF f fs)) 27 ∧ W.cell? ⟨b, 7, none⟩ = some (.string ⟨#[116, 104, 97, 116]⟩)) _ := ⟨KA2.out.below hbd1 KA2.out.lt, (hbk.cell 7)⟩
  refine wpAnyH_more (S' := (fun W : World => Blk W pA (cells3 7 n c (cellsF f fs)) 27 ∧ W.cell? ⟨b, 7, none⟩ = some (.string ⟨#[116, 104, 97, 116]⟩))) (fun W h => h.1) _ _ _ _ ?_
  clear hHd1
  try simp only [pu, sB, s0, sS]
  refine take_run 3 (some 41) (v := ?_) rfl rfl (by kernel_rfl) (by kernel_rfl) (by kernel_rfl) (fun _ _ _ h => h) (by rfl) ?_ (by assumption) ?_
  rotate_left
  · (intro W hSw; (try dsimp only at hSw); go_simp; (try with_reducible rfl))
  simp only [pu, sB, s0, sS]
  refine take_run 4 (some 42) (v := .string ⟨#[116, 104, 97, 116]⟩) rfl rfl (by kernel_rfl) (by kernel_rfl) (by kernel_rfl) (fun _ _ _ h => h) (by rfl) ?_ (by assumption) ?_
  · (intro W hSw; have hc := hSw.2; go_simp; (try with_reducible rfl))
  simp only [pu, sB, s0, sS]
  refine take_run 5 (some 2) (v := ?_) rfl rfl (by kernel_rfl) (by kernel_rfl) (by kernel_rfl) (fun _ _ _ h => h) (by rfl) ?_ (by assumption) ?_
  rotate_left
  · (intro W hSw; (try dsimp only at hSw); go_simp; (try with_reducible rfl))
  simp only [pu, sB, s0, sS]
  refine wpAnyH_done (by kernel_rfl) ?_ _
  have B3 := Lib.hid (B2.out.trans (hbd1.mono B2.out.size))
  have KA3 := Lib.hid (KA2.out.below hbd1 KA2.out.lt)
  go_wp2_with fail
  go_ret
  exact ⟨rfl, B3.out⟩
end Go.Proofs.YtohgdmlpffeoiaaGreatDoor
namespace Go.Proofs.YtohgdmlpffeoiaaGreatDoor
open Go.RowKit
open Wd (Bs)

set_option maxHeartbeats 8000000 in
set_option maxRecDepth 100000 in
theorem factWalk (s d r : ByteArray) (ok b : Bool) (n : Int) (w : World)
    (HC : Hid (∀ W, Below w.heap.size w W → Calls Tryz.prog 90 #[.string s, .string ⟨#[42]⟩] W fun e w' => e = .returned (.tuple #[.string d, .string r, .bool ok]) ∧ Below W.heap.size W w')) (HN : Hid (∀ W, Below w.heap.size w W → Calls Tryz.prog 68 #[.string d] W fun e w' => e = .returned (.tuple #[.int .i64 n, .bool b]) ∧ Below W.heap.size W w')) :
    Calls Tryz.prog 66 #[.string s] w fun e w' => e = .returned (if ok = true then .tuple #[.int .i64 n, .string r] else .tuple #[.int .i64 1, .string s]) ∧ Below w.heap.size w w' := by

  have B0 := Lib.hid (Below.refl w.heap.size w)
  go_enter Tryz.func66, Tryz.ntmps66
  go_upto_region 0 with fail
  refine wp_region_lit ?_
  iterate 2 ((with_reducible refine rN (v := ?_) ?_ ?_ ?_); rotate_left; (· rfl); (· go_simp; (try with_reducible rfl)); simp only [pu, sB, s0, sS])
  go_upto_region 1 with fail
  refine wp_region_lit ?_
  (with_reducible refine rN (v := ?_) ?_ ?_ ?_); rotate_left; (· rfl); (· go_simp; (try with_reducible rfl)); simp only [pu, sB, s0, sS]
  go_wp2_with fail
  refine (HC.out _ B0.out).mono ?_
  rintro e w1 ⟨rfl, hb⟩
  have B1 := Lib.hid (B0.out.trans (hb.mono B0.out.size))
  clear hb
  clear B0
  go_simp
  rename_i hKK
  refine hKK _ _ ?_
  clear hKK
  try simp only [pu, sB, s0, sS]
  iterate 7 ((with_reducible refine rN (v := ?_) ?_ ?_ ?_); rotate_left; (· rfl); (· go_simp; (try with_reducible rfl)); simp only [pu, sB, s0, sS])
  cases ok with
  | false =>
    go_upto_region 2 with fail
    refine wp_region_lit ?_
    (with_reducible refine rN (v := .bool false) ?_ ?_ ?_); (· rfl); (· go_simp; (try with_reducible rfl)); simp only [pu, sB, s0, sS]
    (with_reducible refine rN (v := .bool true) ?_ ?_ ?_); (· rfl); (· go_simp; (try with_reducible rfl)); simp only [pu, sB, s0, sS]
    go_upto_region 3 with fail
    refine wp_region_lit ?_
    iterate 3 ((with_reducible refine rN (v := ?_) ?_ ?_ ?_); rotate_left; (· rfl); (· go_simp; (try with_reducible rfl)); simp only [pu, sB, s0, sS])
    go_wp2_with fail
    go_ret2
    exact ⟨rfl, B1.out⟩
  | true =>
    go_upto_region 2 with fail
    refine wp_region_lit ?_
    (with_reducible refine rN (v := .bool true) ?_ ?_ ?_); (· rfl); (· go_simp; (try with_reducible rfl)); simp only [pu, sB, s0, sS]
    (with_reducible refine rN (v := .bool false) ?_ ?_ ?_); (· rfl); (· go_simp; (try with_reducible rfl)); simp only [pu, sB, s0, sS]
    go_upto_region 4 with fail
    refine wp_region_lit ?_
    (with_reducible refine rN (v := ?_) ?_ ?_ ?_); rotate_left; (· rfl); (· go_simp; (try with_reducible rfl)); simp only [pu, sB, s0, sS]
    go_wp2_with fail
    refine (HN.out _ B1.out).mono ?_
    rintro e w2 ⟨rfl, hb⟩
    have B2 := Lib.hid (B1.out.trans (hb.mono B1.out.size))
    clear hb
    clear B1
    go_simp
    rename_i hKK
    refine hKK _ _ ?_
    clear hKK
    try simp only [pu, sB, s0, sS]
    iterate 5 ((with_reducible refine rN (v := ?_) ?_ ?_ ?_); rotate_left; (· rfl); (· go_simp; (try with_reducible rfl)); simp only [pu, sB, s0, sS])
    go_upto_region 5 with fail
    refine wp_region_lit ?_
    iterate 4 ((with_reducible refine rN (v := ?_) ?_ ?_ ?_); rotate_left; (· rfl); (· go_simp; (try with_reducible rfl)); simp only [pu, sB, s0, sS])
    go_wp2_with fail
    go_ret2
    exact ⟨rfl, B2.out⟩
end Go.Proofs.YtohgdmlpffeoiaaGreatDoor
namespace Go.Proofs.YtohgdmlpffeoiaaGreatDoor
open Go.RowKit
open Wd (Bs)

set_option maxHeartbeats 8000000 in
set_option maxRecDepth 100000 in
theorem readWord (s : ByteArray) (k : Int) (w : World)
    (HX : Hid (∀ W b, Below w.heap.size w W → Blk W b wordsC 9 → Calls Tryz.prog 62 #[.slice (some ⟨b, 0, none⟩) 8 8, .string s] W fun e w' => e = .returned (.int .i64 k) ∧ Below W.heap.size W w')) (h1 : (0 < k)) :
    Calls Tryz.prog 24 #[.string s] w fun e w' => e = .returned (.agg (cells3 k 0 0 cellsZ)) ∧ Below w.heap.size w w' := by

  have B0 := Lib.hid (Below.refl w.heap.size w)
  go_enter Tryz.func24, Tryz.ntmps24
  go_upto_region 0 with fail
  refine wp_region_lit ?_
  obtain ⟨w1, hw⟩ : ∃ v, v = w.alloc (.cells (cells3 0 0 0 cellsZ) 27) := ⟨_, rfl⟩
  obtain ⟨pR, hp⟩ : ∃ v, v = w.heap.size := ⟨_, rfl⟩
  have B1 : Hid (Below w.heap.size w w1) := Lib.hid (by rw [hw]; exact B0.out.alloc B0.out.size _)
  have LER : Hid (w.heap.size ≤ pR) := Lib.hid (by rw [hp]; exact B0.out.size)
  have KR1 : Hid (Blk w1 pR (cells3 0 0 0 cellsZ) 27) := Lib.hid (by rw [hw, hp]; exact Blk.new _ _ _)
  with_reducible refine wpList_runWV (some 2) (v := .pointer (some ⟨pR, 0, none⟩)) (w' := w1) ?_ ?_ ?_ ?_
  · rfl
  · rfl
  · rw [hw, hp]; (go_simp; (try rfl))
  simp only [pu, sB, s0, sS]
  clear hw hp
  clear B0
  go_upto_region 1 with fail
  refine wp_region_lit ?_
  go_wp2_with fail
  refine (amtWordsE _).mono ?_
  rintro e w2 ⟨⟨b, rfl, hbk⟩, hb⟩
  have B2 := Lib.hid (B1.out.trans (hb.mono B1.out.size))
  have KR2 := Lib.hid (KR1.out.below hb KR1.out.lt)
  clear hb
  clear B1 KR1
  go_simp
  rename_i hKK
  refine hKK _ _ ?_
  clear hKK
  try simp only [pu, sB, s0, sS]
  (with_reducible refine rN (v := ?_) ?_ ?_ ?_); rotate_left; (· rfl); (· go_simp; (try with_reducible rfl)); simp only [pu, sB, s0, sS]
  go_wp2_with fail
  refine (HX.out _ b B2.out hbk).mono ?_
  rintro e w3 ⟨rfl, hb⟩
  have B3 := Lib.hid (B2.out.trans (hb.mono B2.out.size))
  have KR3 := Lib.hid (KR2.out.below hb KR2.out.lt)
  clear hb
  clear B2 KR2
  go_simp
  rename_i hKK
  refine hKK _ _ ?_
  clear hKK
  try simp only [pu, sB, s0, sS]
  (with_reducible refine rN (v := ?_) ?_ ?_ ?_); rotate_left; (· rfl); (· go_simp; (try with_reducible rfl)); simp only [pu, sB, s0, sS]
  go_upto_region 2 with fail
  refine wp_region_lit ?_
  (with_reducible refine rN (v := ?_) ?_ ?_ ?_); rotate_left; (· rfl); (· go_simp; (try with_reducible rfl)); simp only [pu, sB, s0, sS]
  (with_reducible refine rN (v := .bool true) ?_ ?_ ?_); (· rfl); (· go_simp; (try with_reducible rfl)); simp only [pu, sB, s0, sS]
  go_upto_region 3 with fail
  refine wp_region_lit ?_
  (with_reducible refine rN (v := ?_) ?_ ?_ ?_); rotate_left; (· rfl); (· go_simp; (try with_reducible rfl)); simp only [pu, sB, s0, sS]
  (with_reducible refine rN (v := .agg (cells3 k 0 0 cellsZ)) ?_ ?_ ?_); (· rfl); (· go_simp; (try rfl)); simp only [pu, sB, s0, sS]
  have KR4 := Lib.hid (KR3.out.stored (o := 0) (vs := (cells3 k 0 0 cellsZ).toList) (laidAt_whole (Eq.trans (cells3_sz cellsZ_size) (Eq.symm (cells3_sz cellsZ_size)))))
  have B4 := Lib.hid (below_whole ((cells3 k 0 0 cellsZ).toList) (o := 0) B3.out LER.out)
  with_reducible refine wpList_storeM (.tmp 2) (.tmp 20) (o := 0) (vs := (cells3 k 0 0 cellsZ)) ?_ ?_ KR3.out ?_ (infoTM19 (cells3_sz cellsZ_size)) (cells3_one cellsZ_one) ?_
  · rfl
  · rfl
  · exact (by have h0 : (cells3 0 0 0 cellsZ).size = 19 := (cells3_sz cellsZ_size); have h1 : (cells3 k 0 0 cellsZ).size = 19 := (cells3_sz cellsZ_size); omega)
  (try simp only [Act.put])
  generalize World.setCells _ _ _ _ = w4 at KR4 B4 ⊢
  clear B3 KR3
  have hL := KR4.out.readS Tryz.underlying27 rfl (infoTM19 (cells3_sz cellsZ_size))
  go_wp2_with fail
  exact bodyPost_ret (v := .agg (cells3 k 0 0 cellsZ)) (results_cell Tryz.results24 (by rfl) hL) rfl ⟨rfl, B4.out⟩
end Go.Proofs.YtohgdmlpffeoiaaGreatDoor
namespace Go.Proofs.YtohgdmlpffeoiaaGreatDoor
open Go.RowKit
open Wd (Bs)

set_option maxHeartbeats 8000000 in
set_option maxRecDepth 100000 in
theorem readCtr (s r t : ByteArray) (k c : Int) (kb : Bool) (w : World)
    (HX : Hid (∀ W b, Below w.heap.size w W → Blk W b wordsC 9 → Calls Tryz.prog 62 #[.slice (some ⟨b, 0, none⟩) 8 8, .string s] W fun e w' => e = .returned (.int .i64 k) ∧ Below W.heap.size W w')) (h1 : ¬ (0 < k)) (H1 : Hid (∀ W, Below w.heap.size w W → Calls Tryz.prog 63 #[.string s, .string ⟨#[99, 111, 117, 110, 116, 101, 114, 115, 40]⟩] W fun e w' => e = .returned (.tuple #[.string r, .bool true]) ∧ Below W.heap.size W w')) (H2 : Hid (∀ W, Below w.heap.size w W → Calls Tryz.prog 65 #[.string r, .string ⟨#[41]⟩] W fun e w' => e = .returned (.string t) ∧ Below W.heap.size W w')) (H3 : Hid (∀ W, Below w.heap.size w W → Calls Tryz.prog 64 #[.string t] W fun e w' => e = .returned (.tuple #[.int .i64 c, .bool kb]) ∧ Below W.heap.size W w')) :
    Calls Tryz.prog 24 #[.string s] w fun e w' => e = .returned (.agg (cells3 4 0 c cellsZ)) ∧ Below w.heap.size w w' := by

  have B0 := Lib.hid (Below.refl w.heap.size w)
  go_enter Tryz.func24, Tryz.ntmps24
  go_upto_region 0 with fail
  refine wp_region_lit ?_
  obtain ⟨w1, hw⟩ : ∃ v, v = w.alloc (.cells (cells3 0 0 0 cellsZ) 27) := ⟨_, rfl⟩
  obtain ⟨pR, hp⟩ : ∃ v, v = w.heap.size := ⟨_, rfl⟩
  have B1 : Hid (Below w.heap.size w w1) := Lib.hid (by rw [hw]; exact B0.out.alloc B0.out.size _)
  have LER : Hid (w.heap.size ≤ pR) := Lib.hid (by rw [hp]; exact B0.out.size)
  have KR1 : Hid (Blk w1 pR (cells3 0 0 0 cellsZ) 27) := Lib.hid (by rw [hw, hp]; exact Blk.new _ _ _)
  with_reducible refine wpList_runWV (some 2) (v := .pointer (some ⟨pR, 0, none⟩)) (w' := w1) ?_ ?_ ?_ ?_
  · rfl
  · rfl
  · rw [hw, hp]; (go_simp; (try rfl))
  simp only [pu, sB, s0, sS]
  clear hw hp
  clear B0
  go_upto_region 1 with fail
  refine wp_region_lit ?_
  go_wp2_with fail
  refine (amtWordsE _).mono ?_
  rintro e w2 ⟨⟨b, rfl, hbk⟩, hb⟩
  have B2 := Lib.hid (B1.out.trans (hb.mono B1.out.size))
  have KR2 := Lib.hid (KR1.out.below hb KR1.out.lt)
  clear hb
  clear B1 KR1
  go_simp
  rename_i hKK
  refine hKK _ _ ?_
  clear hKK
  try simp only [pu, sB, s0, sS]
  (with_reducible refine rN (v := ?_) ?_ ?_ ?_); rotate_left; (· rfl); (· go_simp; (try with_reducible rfl)); simp only [pu, sB, s0, sS]
  go_wp2_with fail
  refine (HX.out _ b B2.out hbk).mono ?_
  rintro e w3 ⟨rfl, hb⟩
  have B3 := Lib.hid (B2.out.trans (hb.mono B2.out.size))
  have KR3 := Lib.hid (KR2.out.below hb KR2.out.lt)
  clear hb
  clear B2 KR2
  go_simp
  rename_i hKK
  refine hKK _ _ ?_
  clear hKK
  try simp only [pu, sB, s0, sS]
  (with_reducible refine rN (v := ?_) ?_ ?_ ?_); rotate_left; (· rfl); (· go_simp; (try with_reducible rfl)); simp only [pu, sB, s0, sS]
  go_upto_region 2 with fail
  refine wp_region_lit ?_
  (with_reducible refine rN (v := ?_) ?_ ?_ ?_); rotate_left; (· rfl); (· go_simp; (try with_reducible rfl)); simp only [pu, sB, s0, sS]
  (with_reducible refine rN (v := .bool false) ?_ ?_ ?_); (· rfl); (· go_simp; (try with_reducible rfl)); simp only [pu, sB, s0, sS]
  go_upto_region 4 with fail
  refine wp_region_lit ?_
  (with_reducible refine rN (v := ?_) ?_ ?_ ?_); rotate_left; (· rfl); (· go_simp; (try with_reducible rfl)); simp only [pu, sB, s0, sS]
  go_wp2_with fail
  refine (H1.out _ B3.out).mono ?_
  rintro e w4 ⟨rfl, hb⟩
  have B4 := Lib.hid (B3.out.trans (hb.mono B3.out.size))
  have KR4 := Lib.hid (KR3.out.below hb KR3.out.lt)
  clear hb
  clear B3 KR3
  go_simp
  rename_i hKK
  refine hKK _ _ ?_
  clear hKK
  try simp only [pu, sB, s0, sS]
  iterate 5 ((with_reducible refine rN (v := ?_) ?_ ?_ ?_); rotate_left; (· rfl); (· go_simp; (try with_reducible rfl)); simp only [pu, sB, s0, sS])
  go_upto_region 5 with fail
  refine wp_region_lit ?_
  (with_reducible refine rN (v := .bool true) ?_ ?_ ?_); (· rfl); (· go_simp; (try with_reducible rfl)); simp only [pu, sB, s0, sS]
  go_upto_region 6 with fail
  refine wp_region_lit ?_
  (with_reducible refine rN (v := ?_) ?_ ?_ ?_); rotate_left; (· rfl); (· go_simp; (try with_reducible rfl)); simp only [pu, sB, s0, sS]
  go_wp2_with fail
  refine (H2.out _ B4.out).mono ?_
  rintro e w5 ⟨rfl, hb⟩
  have B5 := Lib.hid (B4.out.trans (hb.mono B4.out.size))
  have KR5 := Lib.hid (KR4.out.below hb KR4.out.lt)
  clear hb
  clear B4 KR4
  go_simp
  rename_i hKK
  refine hKK _ _ ?_
  clear hKK
  try simp only [pu, sB, s0, sS]
  go_wp2_with fail
  refine (H3.out _ B5.out).mono ?_
  rintro e w6 ⟨rfl, hb⟩
  have B6 := Lib.hid (B5.out.trans (hb.mono B5.out.size))
  have KR6 := Lib.hid (KR5.out.below hb KR5.out.lt)
  clear hb
  clear B5 KR5
  go_simp
  rename_i hKK
  refine hKK _ _ ?_
  clear hKK
  try simp only [pu, sB, s0, sS]
  iterate 5 ((with_reducible refine rN (v := ?_) ?_ ?_ ?_); rotate_left; (· rfl); (· go_simp; (try with_reducible rfl)); simp only [pu, sB, s0, sS])
  go_upto_region 7 with fail
  refine wp_region_lit ?_
  (with_reducible refine rN (v := ?_) ?_ ?_ ?_); rotate_left; (· rfl); (· go_simp; (try with_reducible rfl)); simp only [pu, sB, s0, sS]
  (with_reducible refine rN (v := .agg (cells3 4 0 c cellsZ)) ?_ ?_ ?_); (· rfl); (· go_simp; (try rfl)); simp only [pu, sB, s0, sS]
  have KR7 := Lib.hid (KR6.out.stored (o := 0) (vs := (cells3 4 0 c cellsZ).toList) (laidAt_whole (Eq.trans (cells3_sz cellsZ_size) (Eq.symm (cells3_sz cellsZ_size)))))
  have B7 := Lib.hid (below_whole ((cells3 4 0 c cellsZ).toList) (o := 0) B6.out LER.out)
  with_reducible refine wpList_storeM (.tmp 2) (.tmp 34) (o := 0) (vs := (cells3 4 0 c cellsZ)) ?_ ?_ KR6.out ?_ (infoTM19 (cells3_sz cellsZ_size)) (cells3_one cellsZ_one) ?_
  · rfl
  · rfl
  · exact (by have h0 : (cells3 0 0 0 cellsZ).size = 19 := (cells3_sz cellsZ_size); have h1 : (cells3 4 0 c cellsZ).size = 19 := (cells3_sz cellsZ_size); omega)
  (try simp only [Act.put])
  generalize World.setCells _ _ _ _ = w7 at KR7 B7 ⊢
  clear B6 KR6
  have hL := KR7.out.readS Tryz.underlying27 rfl (infoTM19 (cells3_sz cellsZ_size))
  go_wp2_with fail
  exact bodyPost_ret (v := .agg (cells3 4 0 c cellsZ)) (results_cell Tryz.results24 (by rfl) hL) rfl ⟨rfl, B7.out⟩
end Go.Proofs.YtohgdmlpffeoiaaGreatDoor
namespace Go.Proofs.YtohgdmlpffeoiaaGreatDoor
open Go.RowKit
open Wd (Bs)

set_option maxHeartbeats 8000000 in
set_option maxRecDepth 100000 in
theorem readCount (s r rest r2 t : ByteArray) (k n x : Int) (f : Fil.Flt) (fs : ByteArray) (w : World)
    (HX : Hid (∀ W b, Below w.heap.size w W → Blk W b wordsC 9 → Calls Tryz.prog 62 #[.slice (some ⟨b, 0, none⟩) 8 8, .string s] W fun e w' => e = .returned (.int .i64 k) ∧ Below W.heap.size W w')) (h1 : ¬ (0 < k)) (H1 : Hid (∀ W, Below w.heap.size w W → Calls Tryz.prog 63 #[.string s, .string ⟨#[99, 111, 117, 110, 116, 101, 114, 115, 40]⟩] W fun e w' => e = .returned (.tuple #[.string r, .bool false]) ∧ Below W.heap.size W w')) (HF : Hid (∀ W, Below w.heap.size w W → Calls Tryz.prog 66 #[.string s] W fun e w' => e = .returned (.tuple #[.int .i64 n, .string rest]) ∧ Below W.heap.size W w')) (H4 : Hid (∀ W, Below w.heap.size w W → Calls Tryz.prog 63 #[.string rest, .string ⟨#[99, 111, 117, 110, 116, 40]⟩] W fun e w' => e = .returned (.tuple #[.string r2, .bool true]) ∧ Below W.heap.size W w')) (H5 : Hid (∀ W, Below w.heap.size w W → Calls Tryz.prog 65 #[.string r2, .string ⟨#[41]⟩] W fun e w' => e = .returned (.string t) ∧ Below W.heap.size W w')) (H6 : Hid (∀ W, Below w.heap.size w W → Calls Tryz.prog 67 #[.string t] W fun e w' => e = .returned (.tuple #[.agg (cellsF f fs), .int .i64 x]) ∧ Below W.heap.size W w')) :
    Calls Tryz.prog 24 #[.string s] w fun e w' => e = .returned (.agg (cells3 2 n 0 (cellsF f fs))) ∧ Below w.heap.size w w' := by

  have B0 := Lib.hid (Below.refl w.heap.size w)
  go_enter Tryz.func24, Tryz.ntmps24
  go_upto_region 0 with fail
  refine wp_region_lit ?_
  obtain ⟨w1, hw⟩ : ∃ v, v = w.alloc (.cells (cells3 0 0 0 cellsZ) 27) := ⟨_, rfl⟩
  obtain ⟨pR, hp⟩ : ∃ v, v = w.heap.size := ⟨_, rfl⟩
  have B1 : Hid (Below w.heap.size w w1) := Lib.hid (by rw [hw]; exact B0.out.alloc B0.out.size _)
  have LER : Hid (w.heap.size ≤ pR) := Lib.hid (by rw [hp]; exact B0.out.size)
  have KR1 : Hid (Blk w1 pR (cells3 0 0 0 cellsZ) 27) := Lib.hid (by rw [hw, hp]; exact Blk.new _ _ _)
  with_reducible refine wpList_runWV (some 2) (v := .pointer (some ⟨pR, 0, none⟩)) (w' := w1) ?_ ?_ ?_ ?_
  · rfl
  · rfl
  · rw [hw, hp]; (go_simp; (try rfl))
  simp only [pu, sB, s0, sS]
  clear hw hp
  clear B0
  go_upto_region 1 with fail
  refine wp_region_lit ?_
  go_wp2_with fail
  refine (amtWordsE _).mono ?_
  rintro e w2 ⟨⟨b, rfl, hbk⟩, hb⟩
  have B2 := Lib.hid (B1.out.trans (hb.mono B1.out.size))
  have KR2 := Lib.hid (KR1.out.below hb KR1.out.lt)
  clear hb
  clear B1 KR1
  go_simp
  rename_i hKK
  refine hKK _ _ ?_
  clear hKK
  try simp only [pu, sB, s0, sS]
  (with_reducible refine rN (v := ?_) ?_ ?_ ?_); rotate_left; (· rfl); (· go_simp; (try with_reducible rfl)); simp only [pu, sB, s0, sS]
  go_wp2_with fail
  refine (HX.out _ b B2.out hbk).mono ?_
  rintro e w3 ⟨rfl, hb⟩
  have B3 := Lib.hid (B2.out.trans (hb.mono B2.out.size))
  have KR3 := Lib.hid (KR2.out.below hb KR2.out.lt)
  clear hb
  clear B2 KR2
  go_simp
  rename_i hKK
  refine hKK _ _ ?_
  clear hKK
  try simp only [pu, sB, s0, sS]
  (with_reducible refine rN (v := ?_) ?_ ?_ ?_); rotate_left; (· rfl); (· go_simp; (try with_reducible rfl)); simp only [pu, sB, s0, sS]
  go_upto_region 2 with fail
  refine wp_region_lit ?_
  (with_reducible refine rN (v := ?_) ?_ ?_ ?_); rotate_left; (· rfl); (· go_simp; (try with_reducible rfl)); simp only [pu, sB, s0, sS]
  (with_reducible refine rN (v := .bool false) ?_ ?_ ?_); (· rfl); (· go_simp; (try with_reducible rfl)); simp only [pu, sB, s0, sS]
  go_upto_region 4 with fail
  refine wp_region_lit ?_
  (with_reducible refine rN (v := ?_) ?_ ?_ ?_); rotate_left; (· rfl); (· go_simp; (try with_reducible rfl)); simp only [pu, sB, s0, sS]
  go_wp2_with fail
  refine (H1.out _ B3.out).mono ?_
  rintro e w4 ⟨rfl, hb⟩
  have B4 := Lib.hid (B3.out.trans (hb.mono B3.out.size))
  have KR4 := Lib.hid (KR3.out.below hb KR3.out.lt)
  clear hb
  clear B3 KR3
  go_simp
  rename_i hKK
  refine hKK _ _ ?_
  clear hKK
  try simp only [pu, sB, s0, sS]
  iterate 5 ((with_reducible refine rN (v := ?_) ?_ ?_ ?_); rotate_left; (· rfl); (· go_simp; (try with_reducible rfl)); simp only [pu, sB, s0, sS])
  go_upto_region 5 with fail
  refine wp_region_lit ?_
  (with_reducible refine rN (v := .bool false) ?_ ?_ ?_); (· rfl); (· go_simp; (try with_reducible rfl)); simp only [pu, sB, s0, sS]
  go_upto_region 8 with fail
  refine wp_region_lit ?_
  (with_reducible refine rN (v := ?_) ?_ ?_ ?_); rotate_left; (· rfl); (· go_simp; (try with_reducible rfl)); simp only [pu, sB, s0, sS]
  go_wp2_with fail
  refine (HF.out _ B4.out).mono ?_
  rintro e w5 ⟨rfl, hb⟩
  have B5 := Lib.hid (B4.out.trans (hb.mono B4.out.size))
  have KR5 := Lib.hid (KR4.out.below hb KR4.out.lt)
  clear hb
  clear B4 KR4
  go_simp
  rename_i hKK
  refine hKK _ _ ?_
  clear hKK
  try simp only [pu, sB, s0, sS]
  iterate 5 ((with_reducible refine rN (v := ?_) ?_ ?_ ?_); rotate_left; (· rfl); (· go_simp; (try with_reducible rfl)); simp only [pu, sB, s0, sS])
  go_upto_region 9 with fail
  refine wp_region_lit ?_
  (with_reducible refine rN (v := ?_) ?_ ?_ ?_); rotate_left; (· rfl); (· go_simp; (try with_reducible rfl)); simp only [pu, sB, s0, sS]
  go_wp2_with fail
  refine (H4.out _ B5.out).mono ?_
  rintro e w6 ⟨rfl, hb⟩
  have B6 := Lib.hid (B5.out.trans (hb.mono B5.out.size))
  have KR6 := Lib.hid (KR5.out.below hb KR5.out.lt)
  clear hb
  clear B5 KR5
  go_simp
  rename_i hKK
  refine hKK _ _ ?_
  clear hKK
  try simp only [pu, sB, s0, sS]
  iterate 5 ((with_reducible refine rN (v := ?_) ?_ ?_ ?_); rotate_left; (· rfl); (· go_simp; (try with_reducible rfl)); simp only [pu, sB, s0, sS])
  go_upto_region 10 with fail
  refine wp_region_lit ?_
  (with_reducible refine rN (v := .bool true) ?_ ?_ ?_); (· rfl); (· go_simp; (try with_reducible rfl)); simp only [pu, sB, s0, sS]
  go_upto_region 11 with fail
  refine wp_region_lit ?_
  (with_reducible refine rN (v := ?_) ?_ ?_ ?_); rotate_left; (· rfl); (· go_simp; (try with_reducible rfl)); simp only [pu, sB, s0, sS]
  go_wp2_with fail
  refine (H5.out _ B6.out).mono ?_
  rintro e w7 ⟨rfl, hb⟩
  have B7 := Lib.hid (B6.out.trans (hb.mono B6.out.size))
  have KR7 := Lib.hid (KR6.out.below hb KR6.out.lt)
  clear hb
  clear B6 KR6
  go_simp
  rename_i hKK
  refine hKK _ _ ?_
  clear hKK
  try simp only [pu, sB, s0, sS]
  go_wp2_with fail
  refine (H6.out _ B7.out).mono ?_
  rintro e w8 ⟨rfl, hb⟩
  have B8 := Lib.hid (B7.out.trans (hb.mono B7.out.size))
  have KR8 := Lib.hid (KR7.out.below hb KR7.out.lt)
  clear hb
  clear B7 KR7
  go_simp
  rename_i hKK
  refine hKK _ _ ?_
  clear hKK
  try simp only [pu, sB, s0, sS]
  (with_reducible refine rN (v := ?_) ?_ ?_ ?_); rotate_left; (· rfl); (· go_simp; (try with_reducible rfl)); simp only [pu, sB, s0, sS]
  (with_reducible refine rN (v := .agg (cellsF f fs)) ?_ ?_ ?_); (· rfl); (· go_simp; (try with_reducible rfl)); simp only [pu, sB, s0, sS]
  (with_reducible refine rN (v := ?_) ?_ ?_ ?_); rotate_left; (· rfl); (· go_simp; (try with_reducible rfl)); simp only [pu, sB, s0, sS]
  obtain ⟨w9, hw⟩ : ∃ v, v = w8.alloc (.cells cellsZ 25) := ⟨_, rfl⟩
  obtain ⟨pF, hp⟩ : ∃ v, v = w8.heap.size := ⟨_, rfl⟩
  have B9 : Hid (Below w.heap.size w w9) := Lib.hid (by rw [hw]; exact B8.out.alloc B8.out.size _)
  have LEF : Hid (w.heap.size ≤ pF) := Lib.hid (by rw [hp]; exact B8.out.size)
  have KR9 := Lib.hid (show Blk w9 pR (cells3 0 0 0 cellsZ) 27 by rw [hw]; exact KR8.out.alloc _)
  have NERF : Hid (pR ≠ pF) := Lib.hid (by rw [hp]; exact Nat.ne_of_lt KR8.out.lt)
  have NEFR : Hid (pF ≠ pR) := Lib.hid (Ne.symm NERF.out)
  have KF9 : Hid (Blk w9 pF cellsZ 25) := Lib.hid (by rw [hw, hp]; exact Blk.new _ _ _)
  with_reducible refine wpList_runWV (some 12) (v := .pointer (some ⟨pF, 0, none⟩)) (w' := w9) ?_ ?_ ?_ ?_
  · rfl
  · rfl
  · rw [hw, hp]; (go_simp; (try rfl))
  simp only [pu, sB, s0, sS]
  clear hw hp
  clear B8 KR8
  have KF10 := Lib.hid (KF9.out.stored (o := 0) (vs := (cellsF f fs).toList) (laidAt_whole (Eq.trans (cellsF_size f fs) (Eq.symm cellsZ_size))))
  have KR10 := Lib.hid (KR9.out.wholeElse ((cellsF f fs).toList) (o := 0) NERF.out)
  have B10 := Lib.hid (below_whole ((cellsF f fs).toList) (o := 0) B9.out LEF.out)
  with_reducible refine wpList_storeM (.tmp 12) (.tmp 50) (o := 0) (vs := (cellsF f fs)) ?_ ?_ KF9.out ?_ (infoTF16 (cellsF_size f fs)) (cellsF_one f fs) ?_
  · rfl
  · rfl
  · exact (by have h0 : cellsZ.size = 16 := cellsZ_size; have h1 : (cellsF f fs).size = 16 := (cellsF_size f fs); omega)
  (try simp only [Act.put])
  generalize World.setCells _ _ _ _ = w10 at KR10 KF10 B10 ⊢
  clear B9 KR9 KF9
  (with_reducible refine rN (v := ?_) ?_ ?_ ?_); rotate_left; (· rfl); (· go_simp; (try with_reducible rfl)); simp only [pu, sB, s0, sS]
  go_upto_region 12 with fail
  refine wp_region_lit ?_
  (with_reducible refine rN (v := ?_) ?_ ?_ ?_); rotate_left; (· rfl); (· go_simp; (try with_reducible rfl)); simp only [pu, sB, s0, sS]
  with_reducible refine wpList_loadS (.tmp 12) ?_ ?_ KF10.out Tryz.underlying25 ?_ (infoTF16 (cellsF_size f fs)) ?_
  · rfl
  · rfl
  · rfl
  simp only [pu, sB, s0, sS]
  (with_reducible refine rN (v := .agg (cells3 2 n 0 (cellsF f fs))) ?_ ?_ ?_); (· rfl); (· refine run_buildOp _ [(0, .int .i64 2), (1, .int .i64 n), (3, .agg (cellsF f fs))] rfl ?_ (built_count n f fs); rfl); simp only [pu, sB, s0, sS]
  have KR11 := Lib.hid (KR10.out.stored (o := 0) (vs := (cells3 2 n 0 (cellsF f fs)).toList) (laidAt_whole (Eq.trans (cells3_sz (cellsF_size f fs)) (Eq.symm (cells3_sz cellsZ_size)))))
  have KF11 := Lib.hid (KF10.out.wholeElse ((cells3 2 n 0 (cellsF f fs)).toList) (o := 0) NEFR.out)
  have B11 := Lib.hid (below_whole ((cells3 2 n 0 (cellsF f fs)).toList) (o := 0) B10.out LER.out)
  with_reducible refine wpList_storeM (.tmp 2) (.tmp 54) (o := 0) (vs := (cells3 2 n 0 (cellsF f fs))) ?_ ?_ KR10.out ?_ (infoTM19 (cells3_sz (cellsF_size f fs))) (cells3_one (cellsF_one f fs)) ?_
  · rfl
  · rfl
  · exact (by have h0 : (cells3 0 0 0 cellsZ).size = 19 := (cells3_sz cellsZ_size); have h1 : (cells3 2 n 0 (cellsF f fs)).size = 19 := (cells3_sz (cellsF_size f fs)); omega)
  (try simp only [Act.put])
  generalize World.setCells _ _ _ _ = w11 at KR11 KF11 B11 ⊢
  clear B10 KR10 KF10
  have hL := KR11.out.readS Tryz.underlying27 rfl (infoTM19 (cells3_sz (cellsF_size f fs)))
  go_wp2_with fail
  exact bodyPost_ret (v := .agg (cells3 2 n 0 (cellsF f fs))) (results_cell Tryz.results24 (by rfl) hL) rfl ⟨rfl, B11.out⟩
end Go.Proofs.YtohgdmlpffeoiaaGreatDoor
namespace Go.Proofs.YtohgdmlpffeoiaaGreatDoor
open Go.RowKit
open Wd (Bs)

set_option maxHeartbeats 8000000 in
set_option maxRecDepth 100000 in
theorem readConst (s r rest r2 : ByteArray) (k n n2 : Int) (b2 : Bool) (w : World)
    (HX : Hid (∀ W b, Below w.heap.size w W → Blk W b wordsC 9 → Calls Tryz.prog 62 #[.slice (some ⟨b, 0, none⟩) 8 8, .string s] W fun e w' => e = .returned (.int .i64 k) ∧ Below W.heap.size W w')) (h1 : ¬ (0 < k)) (H1 : Hid (∀ W, Below w.heap.size w W → Calls Tryz.prog 63 #[.string s, .string ⟨#[99, 111, 117, 110, 116, 101, 114, 115, 40]⟩] W fun e w' => e = .returned (.tuple #[.string r, .bool false]) ∧ Below W.heap.size W w')) (HF : Hid (∀ W, Below w.heap.size w W → Calls Tryz.prog 66 #[.string s] W fun e w' => e = .returned (.tuple #[.int .i64 n, .string rest]) ∧ Below W.heap.size W w')) (H4 : Hid (∀ W, Below w.heap.size w W → Calls Tryz.prog 63 #[.string rest, .string ⟨#[99, 111, 117, 110, 116, 40]⟩] W fun e w' => e = .returned (.tuple #[.string r2, .bool false]) ∧ Below W.heap.size W w')) (H7 : Hid (∀ W, Below w.heap.size w W → Calls Tryz.prog 68 #[.string s] W fun e w' => e = .returned (.tuple #[.int .i64 n2, .bool b2]) ∧ Below W.heap.size W w')) :
    Calls Tryz.prog 24 #[.string s] w fun e w' => e = .returned (.agg (cells3 0 n2 0 cellsZ)) ∧ Below w.heap.size w w' := by

  have B0 := Lib.hid (Below.refl w.heap.size w)
  go_enter Tryz.func24, Tryz.ntmps24
  go_upto_region 0 with fail
  refine wp_region_lit ?_
  obtain ⟨w1, hw⟩ : ∃ v, v = w.alloc (.cells (cells3 0 0 0 cellsZ) 27) := ⟨_, rfl⟩
  obtain ⟨pR, hp⟩ : ∃ v, v = w.heap.size := ⟨_, rfl⟩
  have B1 : Hid (Below w.heap.size w w1) := Lib.hid (by rw [hw]; exact B0.out.alloc B0.out.size _)
  have LER : Hid (w.heap.size ≤ pR) := Lib.hid (by rw [hp]; exact B0.out.size)
  have KR1 : Hid (Blk w1 pR (cells3 0 0 0 cellsZ) 27) := Lib.hid (by rw [hw, hp]; exact Blk.new _ _ _)
  with_reducible refine wpList_runWV (some 2) (v := .pointer (some ⟨pR, 0, none⟩)) (w' := w1) ?_ ?_ ?_ ?_
  · rfl
  · rfl
  · rw [hw, hp]; (go_simp; (try rfl))
  simp only [pu, sB, s0, sS]
  clear hw hp
  clear B0
  go_upto_region 1 with fail
  refine wp_region_lit ?_
  go_wp2_with fail
  refine (amtWordsE _).mono ?_
  rintro e w2 ⟨⟨b, rfl, hbk⟩, hb⟩
  have B2 := Lib.hid (B1.out.trans (hb.mono B1.out.size))
  have KR2 := Lib.hid (KR1.out.below hb KR1.out.lt)
  clear hb
  clear B1 KR1
  go_simp
  rename_i hKK
  refine hKK _ _ ?_
  clear hKK
  try simp only [pu, sB, s0, sS]
  (with_reducible refine rN (v := ?_) ?_ ?_ ?_); rotate_left; (· rfl); (· go_simp; (try with_reducible rfl)); simp only [pu, sB, s0, sS]
  go_wp2_with fail
  refine (HX.out _ b B2.out hbk).mono ?_
  rintro e w3 ⟨rfl, hb⟩
  have B3 := Lib.hid (B2.out.trans (hb.mono B2.out.size))
  have KR3 := Lib.hid (KR2.out.below hb KR2.out.lt)
  clear hb
  clear B2 KR2
  go_simp
  rename_i hKK
  refine hKK _ _ ?_
  clear hKK
  try simp only [pu, sB, s0, sS]
  (with_reducible refine rN (v := ?_) ?_ ?_ ?_); rotate_left; (· rfl); (· go_simp; (try with_reducible rfl)); simp only [pu, sB, s0, sS]
  go_upto_region 2 with fail
  refine wp_region_lit ?_
  (with_reducible refine rN (v := ?_) ?_ ?_ ?_); rotate_left; (· rfl); (· go_simp; (try with_reducible rfl)); simp only [pu, sB, s0, sS]
  (with_reducible refine rN (v := .bool false) ?_ ?_ ?_); (· rfl); (· go_simp; (try with_reducible rfl)); simp only [pu, sB, s0, sS]
  go_upto_region 4 with fail
  refine wp_region_lit ?_
  (with_reducible refine rN (v := ?_) ?_ ?_ ?_); rotate_left; (· rfl); (· go_simp; (try with_reducible rfl)); simp only [pu, sB, s0, sS]
  go_wp2_with fail
  refine (H1.out _ B3.out).mono ?_
  rintro e w4 ⟨rfl, hb⟩
  have B4 := Lib.hid (B3.out.trans (hb.mono B3.out.size))
  have KR4 := Lib.hid (KR3.out.below hb KR3.out.lt)
  clear hb
  clear B3 KR3
  go_simp
  rename_i hKK
  refine hKK _ _ ?_
  clear hKK
  try simp only [pu, sB, s0, sS]
  iterate 5 ((with_reducible refine rN (v := ?_) ?_ ?_ ?_); rotate_left; (· rfl); (· go_simp; (try with_reducible rfl)); simp only [pu, sB, s0, sS])
  go_upto_region 5 with fail
  refine wp_region_lit ?_
  (with_reducible refine rN (v := .bool false) ?_ ?_ ?_); (· rfl); (· go_simp; (try with_reducible rfl)); simp only [pu, sB, s0, sS]
  go_upto_region 8 with fail
  refine wp_region_lit ?_
  (with_reducible refine rN (v := ?_) ?_ ?_ ?_); rotate_left; (· rfl); (· go_simp; (try with_reducible rfl)); simp only [pu, sB, s0, sS]
  go_wp2_with fail
  refine (HF.out _ B4.out).mono ?_
  rintro e w5 ⟨rfl, hb⟩
  have B5 := Lib.hid (B4.out.trans (hb.mono B4.out.size))
  have KR5 := Lib.hid (KR4.out.below hb KR4.out.lt)
  clear hb
  clear B4 KR4
  go_simp
  rename_i hKK
  refine hKK _ _ ?_
  clear hKK
  try simp only [pu, sB, s0, sS]
  iterate 5 ((with_reducible refine rN (v := ?_) ?_ ?_ ?_); rotate_left; (· rfl); (· go_simp; (try with_reducible rfl)); simp only [pu, sB, s0, sS])
  go_upto_region 9 with fail
  refine wp_region_lit ?_
  (with_reducible refine rN (v := ?_) ?_ ?_ ?_); rotate_left; (· rfl); (· go_simp; (try with_reducible rfl)); simp only [pu, sB, s0, sS]
  go_wp2_with fail
  refine (H4.out _ B5.out).mono ?_
  rintro e w6 ⟨rfl, hb⟩
  have B6 := Lib.hid (B5.out.trans (hb.mono B5.out.size))
  have KR6 := Lib.hid (KR5.out.below hb KR5.out.lt)
  clear hb
  clear B5 KR5
  go_simp
  rename_i hKK
  refine hKK _ _ ?_
  clear hKK
  try simp only [pu, sB, s0, sS]
  iterate 5 ((with_reducible refine rN (v := ?_) ?_ ?_ ?_); rotate_left; (· rfl); (· go_simp; (try with_reducible rfl)); simp only [pu, sB, s0, sS])
  go_upto_region 10 with fail
  refine wp_region_lit ?_
  (with_reducible refine rN (v := .bool false) ?_ ?_ ?_); (· rfl); (· go_simp; (try with_reducible rfl)); simp only [pu, sB, s0, sS]
  go_upto_region 13 with fail
  refine wp_region_lit ?_
  (with_reducible refine rN (v := ?_) ?_ ?_ ?_); rotate_left; (· rfl); (· go_simp; (try with_reducible rfl)); simp only [pu, sB, s0, sS]
  go_wp2_with fail
  refine (H7.out _ B6.out).mono ?_
  rintro e w7 ⟨rfl, hb⟩
  have B7 := Lib.hid (B6.out.trans (hb.mono B6.out.size))
  have KR7 := Lib.hid (KR6.out.below hb KR6.out.lt)
  clear hb
  clear B6 KR6
  go_simp
  rename_i hKK
  refine hKK _ _ ?_
  clear hKK
  try simp only [pu, sB, s0, sS]
  iterate 4 ((with_reducible refine rN (v := ?_) ?_ ?_ ?_); rotate_left; (· rfl); (· go_simp; (try with_reducible rfl)); simp only [pu, sB, s0, sS])
  go_upto_region 14 with fail
  refine wp_region_lit ?_
  (with_reducible refine rN (v := ?_) ?_ ?_ ?_); rotate_left; (· rfl); (· go_simp; (try with_reducible rfl)); simp only [pu, sB, s0, sS]
  (with_reducible refine rN (v := .agg (cells3 0 n2 0 cellsZ)) ?_ ?_ ?_); (· rfl); (· go_simp; (try rfl)); simp only [pu, sB, s0, sS]
  have KR8 := Lib.hid (KR7.out.stored (o := 0) (vs := (cells3 0 n2 0 cellsZ).toList) (laidAt_whole (Eq.trans (cells3_sz cellsZ_size) (Eq.symm (cells3_sz cellsZ_size)))))
  have B8 := Lib.hid (below_whole ((cells3 0 n2 0 cellsZ).toList) (o := 0) B7.out LER.out)
  with_reducible refine wpList_storeM (.tmp 2) (.tmp 61) (o := 0) (vs := (cells3 0 n2 0 cellsZ)) ?_ ?_ KR7.out ?_ (infoTM19 (cells3_sz cellsZ_size)) (cells3_one cellsZ_one) ?_
  · rfl
  · rfl
  · exact (by have h0 : (cells3 0 0 0 cellsZ).size = 19 := (cells3_sz cellsZ_size); have h1 : (cells3 0 n2 0 cellsZ).size = 19 := (cells3_sz cellsZ_size); omega)
  (try simp only [Act.put])
  generalize World.setCells _ _ _ _ = w8 at KR8 B8 ⊢
  clear B7 KR7
  have hL := KR8.out.readS Tryz.underlying27 rfl (infoTM19 (cells3_sz cellsZ_size))
  go_wp2_with fail
  exact bodyPost_ret (v := .agg (cells3 0 n2 0 cellsZ)) (results_cell Tryz.results24 (by rfl) hL) rfl ⟨rfl, B8.out⟩
end Go.Proofs.YtohgdmlpffeoiaaGreatDoor
namespace Go.Proofs.YtohgdmlpffeoiaaGreatDoor
open Go.RowKit
open Wd (Bs)

set_option maxHeartbeats 8000000 in
set_option maxRecDepth 100000 in
theorem parseWalkM (s t : ByteArray) (k n c : Int) (f : Fil.Flt) (fs : ByteArray) (v q : Bool) (w : World)
    (HR : Hid (∀ W, Below w.heap.size w W → Calls Tryz.prog 24 #[.string s] W fun e w' => e = .returned (.agg (cells3 k n c (cellsF f fs))) ∧ Below W.heap.size W w')) (HI : Hid (∀ W, Below w.heap.size w W → Calls Tryz.prog 9 #[.agg (cells3 k n c (cellsF f fs))] W fun e w' => e = .returned (.bool v) ∧ Below W.heap.size W w')) (HT : Hid (∀ W, Below w.heap.size w W → Calls Tryz.prog 11 #[.agg (cells3 k n c (cellsF f fs))] W fun e w' => e = .returned (.string t) ∧ Below W.heap.size W w')) (hq : (t.toList == s.toList) = q) :
    Calls Tryz.prog 13 #[.string s] w fun e w' => e = .returned (if (v && q) = true then .tuple #[.agg (cells3 k n c (cellsF f fs)), .int .i64 0] else .tuple #[.agg (cells3 0 0 0 cellsZ), .int .i64 3]) ∧ Below w.heap.size w w' := by

  have B0 := Lib.hid (Below.refl w.heap.size w)
  go_enter Tryz.func13, Tryz.ntmps13
  go_upto_region 0 with fail
  refine wp_region_lit ?_
  obtain ⟨w1, hw⟩ : ∃ v, v = w.alloc (.cells (cells3 0 0 0 cellsZ) 27) := ⟨_, rfl⟩
  obtain ⟨pR, hp⟩ : ∃ v, v = w.heap.size := ⟨_, rfl⟩
  have B1 : Hid (Below w.heap.size w w1) := Lib.hid (by rw [hw]; exact B0.out.alloc B0.out.size _)
  have LER : Hid (w.heap.size ≤ pR) := Lib.hid (by rw [hp]; exact B0.out.size)
  have KR1 : Hid (Blk w1 pR (cells3 0 0 0 cellsZ) 27) := Lib.hid (by rw [hw, hp]; exact Blk.new _ _ _)
  with_reducible refine wpList_runWV (some 2) (v := .pointer (some ⟨pR, 0, none⟩)) (w' := w1) ?_ ?_ ?_ ?_
  · rfl
  · rfl
  · rw [hw, hp]; (go_simp; (try rfl))
  simp only [pu, sB, s0, sS]
  clear hw hp
  clear B0
  (with_reducible refine rN (v := ?_) ?_ ?_ ?_); rotate_left; (· rfl); (· go_simp; (try with_reducible rfl)); simp only [pu, sB, s0, sS]
  go_upto_region 1 with fail
  refine wp_region_lit ?_
  (with_reducible refine rN (v := ?_) ?_ ?_ ?_); rotate_left; (· rfl); (· go_simp; (try with_reducible rfl)); simp only [pu, sB, s0, sS]
  go_wp2_with fail
  refine (HR.out _ B1.out).mono ?_
  rintro e w2 ⟨rfl, hb⟩
  have B2 := Lib.hid (B1.out.trans (hb.mono B1.out.size))
  have KR2 := Lib.hid (KR1.out.below hb KR1.out.lt)
  clear hb
  clear B1 KR1
  go_simp
  rename_i hKK
  refine hKK _ _ ?_
  clear hKK
  try simp only [pu, sB, s0, sS]
  obtain ⟨w3, hw⟩ : ∃ v, v = w2.alloc (.cells (cells3 0 0 0 cellsZ) 27) := ⟨_, rfl⟩
  obtain ⟨pA, hp⟩ : ∃ v, v = w2.heap.size := ⟨_, rfl⟩
  have B3 : Hid (Below w.heap.size w w3) := Lib.hid (by rw [hw]; exact B2.out.alloc B2.out.size _)
  have LEA : Hid (w.heap.size ≤ pA) := Lib.hid (by rw [hp]; exact B2.out.size)
  have KR3 := Lib.hid (show Blk w3 pR (cells3 0 0 0 cellsZ) 27 by rw [hw]; exact KR2.out.alloc _)
  have NERA : Hid (pR ≠ pA) := Lib.hid (by rw [hp]; exact Nat.ne_of_lt KR2.out.lt)
  have NEAR : Hid (pA ≠ pR) := Lib.hid (Ne.symm NERA.out)
  have KA3 : Hid (Blk w3 pA (cells3 0 0 0 cellsZ) 27) := Lib.hid (by rw [hw, hp]; exact Blk.new _ _ _)
  with_reducible refine wpList_runWV (some 4) (v := .pointer (some ⟨pA, 0, none⟩)) (w' := w3) ?_ ?_ ?_ ?_
  · rfl
  · rfl
  · rw [hw, hp]; (go_simp; (try rfl))
  simp only [pu, sB, s0, sS]
  clear hw hp
  clear B2 KR2
  have KA4 := Lib.hid (KA3.out.stored (o := 0) (vs := (cells3 k n c (cellsF f fs)).toList) (laidAt_whole (Eq.trans (cells3_sz (cellsF_size f fs)) (Eq.symm (cells3_sz cellsZ_size)))))
  have KR4 := Lib.hid (KR3.out.wholeElse ((cells3 k n c (cellsF f fs)).toList) (o := 0) NERA.out)
  have B4 := Lib.hid (below_whole ((cells3 k n c (cellsF f fs)).toList) (o := 0) B3.out LEA.out)
  with_reducible refine wpList_storeM (.tmp 4) (.tmp 6) (o := 0) (vs := (cells3 k n c (cellsF f fs))) ?_ ?_ KA3.out ?_ (infoTM19 (cells3_sz (cellsF_size f fs))) (cells3_one (cellsF_one f fs)) ?_
  · rfl
  · rfl
  · exact (by have h0 : (cells3 0 0 0 cellsZ).size = 19 := (cells3_sz cellsZ_size); have h1 : (cells3 k n c (cellsF f fs)).size = 19 := (cells3_sz (cellsF_size f fs)); omega)
  (try simp only [Act.put])
  generalize World.setCells _ _ _ _ = w4 at KR4 KA4 B4 ⊢
  clear B3 KR3 KA3
  cases v with
  | false =>
    go_upto_region 2 with fail
    refine wp_region_lit ?_
    with_reducible refine wpList_loadS (.tmp 4) ?_ ?_ KA4.out Tryz.underlying27 ?_ (infoTM19 (cells3_sz (cellsF_size f fs))) ?_
    · rfl
    · rfl
    · rfl
    simp only [pu, sB, s0, sS]
    go_wp2_with fail
    refine (HI.out _ B4.out).mono ?_
    rintro e w5 ⟨rfl, hb⟩
    have B5 := Lib.hid (B4.out.trans (hb.mono B4.out.size))
    have KR5 := Lib.hid (KR4.out.below hb KR4.out.lt)
    have KA5 := Lib.hid (KA4.out.below hb KA4.out.lt)
    clear hb
    clear B4 KR4 KA4
    go_simp
    rename_i hKK
    refine hKK _ _ ?_
    clear hKK
    try simp only [pu, sB, s0, sS]
    iterate 2 ((with_reducible refine rN (v := .bool true) ?_ ?_ ?_); (· rfl); (· go_simp; (try with_reducible rfl)); simp only [pu, sB, s0, sS])
    iterate 4 ((with_reducible refine kN ?_ ?_); (· rfl); simp only [pu, sB, s0, sS])
    (with_reducible refine rN (v := .bool true) ?_ ?_ ?_); (· rfl); (· go_simp; (try with_reducible rfl)); simp only [pu, sB, s0, sS]
    go_upto_region 3 with fail
    refine wp_region_lit ?_
    (with_reducible refine rN (v := .agg (cells3 0 0 0 cellsZ)) ?_ ?_ ?_); (· rfl); (· go_simp; rfl); simp only [pu, sB, s0, sS]
    have KR6 := Lib.hid (KR5.out.stored (o := 0) (vs := (cells3 0 0 0 cellsZ).toList) (laidAt_whole (Eq.trans (cells3_sz cellsZ_size) (Eq.symm (cells3_sz cellsZ_size)))))
    have KA6 := Lib.hid (KA5.out.wholeElse ((cells3 0 0 0 cellsZ).toList) (o := 0) NEAR.out)
    have B6 := Lib.hid (below_whole ((cells3 0 0 0 cellsZ).toList) (o := 0) B5.out LER.out)
    with_reducible refine wpList_storeM (.tmp 2) (.tmp 16) (o := 0) (vs := (cells3 0 0 0 cellsZ)) ?_ ?_ KR5.out ?_ (infoTM19 (cells3_sz cellsZ_size)) (cells3_one cellsZ_one) ?_
    · rfl
    · rfl
    · exact (by have h0 : (cells3 0 0 0 cellsZ).size = 19 := (cells3_sz cellsZ_size); have h1 : (cells3 0 0 0 cellsZ).size = 19 := (cells3_sz cellsZ_size); omega)
    (try simp only [Act.put])
    generalize World.setCells _ _ _ _ = w6 at KR6 KA6 B6 ⊢
    clear B5 KR5 KA5
    (with_reducible refine rN (v := ?_) ?_ ?_ ?_); rotate_left; (· rfl); (· go_simp; (try with_reducible rfl)); simp only [pu, sB, s0, sS]
    have hL := KR6.out.readS Tryz.underlying27 rfl (infoTM19 (cells3_sz cellsZ_size))
    go_wp2_with fail
    exact bodyPost_ret (v := .tuple #[.agg (cells3 0 0 0 cellsZ), .int .i64 3]) (results_cell_tmp Tryz.results13 (by rfl) (by rfl) hL) rfl ⟨rfl, B6.out⟩
  | true =>
    cases q with
    | false =>
      go_upto_region 2 with fail
      refine wp_region_lit ?_
      with_reducible refine wpList_loadS (.tmp 4) ?_ ?_ KA4.out Tryz.underlying27 ?_ (infoTM19 (cells3_sz (cellsF_size f fs))) ?_
      · rfl
      · rfl
      · rfl
      simp only [pu, sB, s0, sS]
      go_wp2_with fail
      refine (HI.out _ B4.out).mono ?_
      rintro e w5 ⟨rfl, hb⟩
      have B5 := Lib.hid (B4.out.trans (hb.mono B4.out.size))
      have KR5 := Lib.hid (KR4.out.below hb KR4.out.lt)
      have KA5 := Lib.hid (KA4.out.below hb KA4.out.lt)
      clear hb
      clear B4 KR4 KA4
      go_simp
      rename_i hKK
      refine hKK _ _ ?_
      clear hKK
      try simp only [pu, sB, s0, sS]
      iterate 2 ((with_reducible refine rN (v := .bool false) ?_ ?_ ?_); (· rfl); (· go_simp; (try with_reducible rfl)); simp only [pu, sB, s0, sS])
      with_reducible refine wpList_loadS (.tmp 4) ?_ ?_ KA5.out Tryz.underlying27 ?_ (infoTM19 (cells3_sz (cellsF_size f fs))) ?_
      · rfl
      · rfl
      · rfl
      simp only [pu, sB, s0, sS]
      go_wp2_with fail
      refine (HT.out _ B5.out).mono ?_
      rintro e w6 ⟨rfl, hb⟩
      have B6 := Lib.hid (B5.out.trans (hb.mono B5.out.size))
      have KR6 := Lib.hid (KR5.out.below hb KR5.out.lt)
      have KA6 := Lib.hid (KA5.out.below hb KA5.out.lt)
      clear hb
      clear B5 KR5 KA5
      go_simp
      rename_i hKK
      refine hKK _ _ ?_
      clear hKK
      try simp only [pu, sB, s0, sS]
      (with_reducible refine rN (v := ?_) ?_ ?_ ?_); rotate_left; (· rfl); (· go_simp; (try with_reducible rfl)); simp only [pu, sB, s0, sS]
      iterate 2 ((with_reducible refine rN (v := .bool true) ?_ ?_ ?_); (· rfl); (· go_simp; (try with_reducible rfl)); simp only [pu, sB, s0, sS])
      go_upto_region 3 with fail
      refine wp_region_lit ?_
      (with_reducible refine rN (v := .agg (cells3 0 0 0 cellsZ)) ?_ ?_ ?_); (· rfl); (· go_simp; rfl); simp only [pu, sB, s0, sS]
      have KR7 := Lib.hid (KR6.out.stored (o := 0) (vs := (cells3 0 0 0 cellsZ).toList) (laidAt_whole (Eq.trans (cells3_sz cellsZ_size) (Eq.symm (cells3_sz cellsZ_size)))))
      have KA7 := Lib.hid (KA6.out.wholeElse ((cells3 0 0 0 cellsZ).toList) (o := 0) NEAR.out)
      have B7 := Lib.hid (below_whole ((cells3 0 0 0 cellsZ).toList) (o := 0) B6.out LER.out)
      with_reducible refine wpList_storeM (.tmp 2) (.tmp 16) (o := 0) (vs := (cells3 0 0 0 cellsZ)) ?_ ?_ KR6.out ?_ (infoTM19 (cells3_sz cellsZ_size)) (cells3_one cellsZ_one) ?_
      · rfl
      · rfl
      · exact (by have h0 : (cells3 0 0 0 cellsZ).size = 19 := (cells3_sz cellsZ_size); have h1 : (cells3 0 0 0 cellsZ).size = 19 := (cells3_sz cellsZ_size); omega)
      (try simp only [Act.put])
      generalize World.setCells _ _ _ _ = w7 at KR7 KA7 B7 ⊢
      clear B6 KR6 KA6
      (with_reducible refine rN (v := ?_) ?_ ?_ ?_); rotate_left; (· rfl); (· go_simp; (try with_reducible rfl)); simp only [pu, sB, s0, sS]
      have hL := KR7.out.readS Tryz.underlying27 rfl (infoTM19 (cells3_sz cellsZ_size))
      go_wp2_with fail
      exact bodyPost_ret (v := .tuple #[.agg (cells3 0 0 0 cellsZ), .int .i64 3]) (results_cell_tmp Tryz.results13 (by rfl) (by rfl) hL) rfl ⟨rfl, B7.out⟩
    | true =>
      go_upto_region 2 with fail
      refine wp_region_lit ?_
      with_reducible refine wpList_loadS (.tmp 4) ?_ ?_ KA4.out Tryz.underlying27 ?_ (infoTM19 (cells3_sz (cellsF_size f fs))) ?_
      · rfl
      · rfl
      · rfl
      simp only [pu, sB, s0, sS]
      go_wp2_with fail
      refine (HI.out _ B4.out).mono ?_
      rintro e w5 ⟨rfl, hb⟩
      have B5 := Lib.hid (B4.out.trans (hb.mono B4.out.size))
      have KR5 := Lib.hid (KR4.out.below hb KR4.out.lt)
      have KA5 := Lib.hid (KA4.out.below hb KA4.out.lt)
      clear hb
      clear B4 KR4 KA4
      go_simp
      rename_i hKK
      refine hKK _ _ ?_
      clear hKK
      try simp only [pu, sB, s0, sS]
      iterate 2 ((with_reducible refine rN (v := .bool false) ?_ ?_ ?_); (· rfl); (· go_simp; (try with_reducible rfl)); simp only [pu, sB, s0, sS])
      with_reducible refine wpList_loadS (.tmp 4) ?_ ?_ KA5.out Tryz.underlying27 ?_ (infoTM19 (cells3_sz (cellsF_size f fs))) ?_
      · rfl
      · rfl
      · rfl
      simp only [pu, sB, s0, sS]
      go_wp2_with fail
      refine (HT.out _ B5.out).mono ?_
      rintro e w6 ⟨rfl, hb⟩
      have B6 := Lib.hid (B5.out.trans (hb.mono B5.out.size))
      have KR6 := Lib.hid (KR5.out.below hb KR5.out.lt)
      have KA6 := Lib.hid (KA5.out.below hb KA5.out.lt)
      clear hb
      clear B5 KR5 KA5
      go_simp
      rename_i hKK
      refine hKK _ _ ?_
      clear hKK
      try simp only [pu, sB, s0, sS]
      (with_reducible refine rN (v := ?_) ?_ ?_ ?_); rotate_left; (· rfl); (· go_simp; (try with_reducible rfl)); simp only [pu, sB, s0, sS]
      iterate 2 ((with_reducible refine rN (v := .bool false) ?_ ?_ ?_); (· rfl); (· go_simp; (try with_reducible rfl)); simp only [pu, sB, s0, sS])
      go_upto_region 4 with fail
      refine wp_region_lit ?_
      with_reducible refine wpList_loadS (.tmp 4) ?_ ?_ KA6.out Tryz.underlying27 ?_ (infoTM19 (cells3_sz (cellsF_size f fs))) ?_
      · rfl
      · rfl
      · rfl
      simp only [pu, sB, s0, sS]
      have KR7 := Lib.hid (KR6.out.stored (o := 0) (vs := (cells3 k n c (cellsF f fs)).toList) (laidAt_whole (Eq.trans (cells3_sz (cellsF_size f fs)) (Eq.symm (cells3_sz cellsZ_size)))))
      have KA7 := Lib.hid (KA6.out.wholeElse ((cells3 k n c (cellsF f fs)).toList) (o := 0) NEAR.out)
      have B7 := Lib.hid (below_whole ((cells3 k n c (cellsF f fs)).toList) (o := 0) B6.out LER.out)
      with_reducible refine wpList_storeM (.tmp 2) (.tmp 17) (o := 0) (vs := (cells3 k n c (cellsF f fs))) ?_ ?_ KR6.out ?_ (infoTM19 (cells3_sz (cellsF_size f fs))) (cells3_one (cellsF_one f fs)) ?_
      · rfl
      · rfl
      · exact (by have h0 : (cells3 0 0 0 cellsZ).size = 19 := (cells3_sz cellsZ_size); have h1 : (cells3 k n c (cellsF f fs)).size = 19 := (cells3_sz (cellsF_size f fs)); omega)
      (try simp only [Act.put])
      generalize World.setCells _ _ _ _ = w7 at KR7 KA7 B7 ⊢
      clear B6 KR6 KA6
      (with_reducible refine rN (v := ?_) ?_ ?_ ?_); rotate_left; (· rfl); (· go_simp; (try with_reducible rfl)); simp only [pu, sB, s0, sS]
      have hL := KR7.out.readS Tryz.underlying27 rfl (infoTM19 (cells3_sz (cellsF_size f fs)))
      go_wp2_with fail
      exact bodyPost_ret (v := .tuple #[.agg (cells3 k n c (cellsF f fs)), .int .i64 0]) (results_cell_tmp Tryz.results13 (by rfl) (by rfl) hL) rfl ⟨rfl, B7.out⟩
end Go.Proofs.YtohgdmlpffeoiaaGreatDoor
namespace Go.Proofs.YtohgdmlpffeoiaaGreatDoor
open Go.RowKit
open Wd (Bs)

theorem str_of {x : ByteArray} {l : Bs} (h : x.data.toList = l) : (.string x : Value) = str l := by
  unfold str
  congr 1
  exact bytes_one (by rw [h])
theorem below_same {f : FuncId} {args : Array Value} {v : Value} {w : World} (h : Calls Tryz.prog f args w fun e w' => e = .returned v ∧ w = w') : Calls Tryz.prog f args w fun e w' => e = .returned v ∧ Below w.heap.size w w' :=
  h.mono fun _ _ ⟨he, hw⟩ => ⟨he, hw ▸ Below.refl _ _⟩
theorem below_same' {f : FuncId} {args : Array Value} {v : Value} {w : World} (h : Calls Tryz.prog f args w fun e w' => e = .returned v ∧ w' = w) : Calls Tryz.prog f args w fun e w' => e = .returned v ∧ Below w.heap.size w w' :=
  h.mono fun _ _ ⟨he, hw⟩ => ⟨he, hw ▸ Below.refl _ _⟩
/-- an amount's cells -/
def fsOf (f : Fil.Flt) : ByteArray := ⟨f.sub.toArray⟩
theorem fsOf_sub (f : Fil.Flt) : f.sub = (fsOf f).data.toList := rfl
def cellsM (a : Amt.Amt) : Array Value := cells3 a.k a.n a.c (cellsF a.f (fsOf a.f))
theorem cellsM_sz (a : Amt.Amt) : (cellsM a).size = 19 := cells3_sz (cellsF_size _ _)
theorem cellsM_one (a : Amt.Amt) : (cellsM a).all (·.oneCell') = true := cells3_one (cellsF_one _ _)
theorem fs_eq {f : Fil.Flt} {fs : ByteArray} (h : f.sub = fs.data.toList) : fs = fsOf f := bytes_one (by rw [← h]; exact fsOf_sub f)
theorem itoa_len {n : Int} (h0 : 0 ≤ n) (h1 : n ≤ 1000000) : (Lib.itoa n).length ≤ 1000 := by
  rw [Num.itoa_nonneg h0]
  exact Nat.le_trans (Num.decDigits_len 6 _ (by simp; omega)) (by decide)
theorem ctr_len : ∀ c : Nat, c < 3 → (Ctr.nameI c).length ≤ 10 := by
  intro c hc
  match c, hc with
  | 0, _ => decide
  | 1, _ => decide
  | 2, _ => decide
theorem size_of (l : Bs) : (ByteArray.mk l.toArray).size = l.length := by
  show l.toArray.size = l.length
  simp
set_option maxHeartbeats 2000000 in
theorem amtText (k n c : Int) (f : Fil.Flt) (fs : ByteArray) (hf : f.sub = fs.data.toList) (hs : fs.size ≤ maxLen) (w : World) (hE : EnvA w) :
    Calls Tryz.prog 11 #[.agg (cells3 k n c (cellsF f fs))] w fun e w' => e = .returned (str (Amt.textA ⟨k, n, c, f⟩)) ∧ Below w.heap.size w w' := by
  have HI : Hid (∀ W, Below w.heap.size w W → Calls Tryz.prog 9 #[.agg (cells3 k n c (cellsF f fs))] W fun e w' => e = .returned (.bool (Amt.okB ⟨k, n, c, f⟩)) ∧ Below W.heap.size W w') :=
    Lib.hid fun W hb => amtIs k n c f fs hf hs W (hE.below hb)
  cases hv : Amt.okB ⟨k, n, c, f⟩ with
  | false =>
    rw [hv] at HI
    refine (textBad k n c f fs w HI).mono ?_
    rintro e w1 ⟨rfl, hb⟩
    exact ⟨by rw [Amt.textA_bad hv]; rfl, hb⟩
  | true =>
    rw [hv] at HI
    rw [Amt.textA_ok hv]
    rcases Amt.ok_cases hv with ⟨m, h1, h⟩ | ⟨m, h0, h1, hvf, h⟩ | ⟨m, h1, h⟩ | ⟨m, h1, h⟩
    · rw [Amt.Amt.mk.injEq] at h
      obtain ⟨rfl, rfl, rfl, rfl⟩ := h
      rw [Amt.raw_const]
      refine (textConst m 0 ⟨(Lib.itoa m).toArray⟩ Fil.zero fs w HI (Lib.hid fun W hb => numText m (by omega) (by omega) W (hE.below hb).fil.num)).mono ?_
      rintro e w1 ⟨rfl, hb⟩
      exact ⟨rfl, hb⟩
    · rw [Amt.Amt.mk.injEq] at h
      obtain ⟨rfl, rfl, rfl, _⟩ := h
      simp only at hvf
      rw [Amt.raw_count]
      have hl := textF_len hvf
      have HF : Hid (∀ W, Below w.heap.size w W → Calls Tryz.prog 20 #[.agg (cellsF f fs)] W fun e w' => e = .returned (.string ⟨(Fil.textF f).toArray⟩) ∧ Below W.heap.size W w') :=
        Lib.hid fun W hb => filText f fs hf hs W (hE.below hb).fil
      by_cases e1 : (m : Int) = 1
      · rw [if_pos e1]
        refine (textCountOne m 0 ⟨(Fil.textF f).toArray⟩ f fs w HI HF (by simpa using e1) (by rw [size_of]; omega)).mono ?_
        rintro e w1 ⟨rfl, hb⟩
        exact ⟨by rw [str_of (l := Amt.cnt f) (by simp [Amt.cnt, Amt.sCount])], hb⟩
      · rw [if_neg e1]
        have hl2 := itoa_len (n := (m : Int)) (by omega) (by omega)
        refine (textCount m 0 ⟨(Fil.textF f).toArray⟩ ⟨(Lib.itoa m).toArray⟩ f fs w HI HF (by simpa using e1) (by rw [size_of]; omega) (Lib.hid fun W hb => numText m (by omega) (by omega) W (hE.below hb).fil.num) (by rw [size_of]; omega)).mono ?_
        rintro e w1 ⟨rfl, hb⟩
        exact ⟨by rw [str_of (l := Lib.itoa m ++ [42] ++ Amt.cnt f) (by simp [Amt.cnt, Amt.sCount])], hb⟩
    · rw [Amt.Amt.mk.injEq] at h
      obtain ⟨rfl, rfl, rfl, rfl⟩ := h
      rw [Amt.raw_ctr]
      have hl := ctr_len m h1
      refine (textCtr 0 m ⟨(Ctr.nameI m).toArray⟩ Fil.zero fs w HI (Lib.hid fun W hb => below_same (counterName m W (hE.below hb).ctr)) (by rw [size_of]; omega)).mono ?_
      rintro e w1 ⟨rfl, hb⟩
      exact ⟨by rw [str_of (l := Amt.sCtrs ++ Ctr.nameI m ++ [41]) (by simp [Amt.sCtrs])], hb⟩
    · rw [Amt.Amt.mk.injEq] at h
      obtain ⟨rfl, rfl, rfl, rfl⟩ := h
      rw [Amt.raw_word h1]
      rcases h1 with rfl | rfl | rfl | rfl | rfl
      · exact textWord1 0 0 Fil.zero fs w HI
      · exact textWord3 0 0 Fil.zero fs w HI
      · exact textWord5 0 0 Fil.zero fs w HI
      · exact textWord6 0 0 Fil.zero fs w HI
      · exact textWord7 0 0 Fil.zero fs w HI
theorem cut_le (l sep : Bs) : (Wd.cut l sep).1.length ≤ l.length ∧ (Wd.cut l sep).2.1.length ≤ l.length := by
  unfold Wd.cut
  split
  · simp
  · split
    · simp; omega
    · simp
theorem amtFactor (s : ByteArray) (hs : s.size ≤ 1000000) (w : World) (hE : EnvA w) :
    Calls Tryz.prog 66 #[.string s] w fun e w' => e = .returned (.tuple #[.int .i64 (Amt.factor s.data.toList).1, str (Amt.factor s.data.toList).2]) ∧ Below w.heap.size w w' := by
  obtain ⟨⟨d, r, ok⟩, hx⟩ : ∃ x, Wd.cut s.data.toList [42] = x := ⟨_, rfl⟩
  have hl := cut_le s.data.toList [42]
  rw [hx] at hl
  have hsl : s.data.toList.length = s.size := Array.length_toList
  refine (factWalk s ⟨d.toArray⟩ ⟨r.toArray⟩ ok _ _ w (Lib.hid fun W hb => ?_) (Lib.hid fun W hb => numNumber ⟨d.toArray⟩ (by rw [size_of]; simp only at hl; omega) W (hE.below hb).fil.num)).mono ?_
  · refine (wordCutFar s ⟨#[42]⟩ W (by omega) (by decide)).mono ?_
    rintro e w1 ⟨h1, h2⟩
    have h1' : e = .returned (cutV (Wd.cut s.data.toList [42])) := h1
    rw [hx] at h1'
    exact ⟨h1', h2⟩
  · rintro e w1 ⟨rfl, hb⟩
    refine ⟨?_, hb⟩
    have hf : Amt.factor s.data.toList = if ok = true then (Fil.num d, r) else (1, s.data.toList) := by
      unfold Amt.factor
      rw [hx]
    rw [hf]
    cases ok with
    | false => simp only [Bool.false_eq_true, if_false]; rw [str_of rfl]
    | true => rfl
theorem factor_le {s : Bs} : (Amt.factor s).2.length ≤ s.length := by
  unfold Amt.factor
  split
  · exact (cut_le s [42]).2
  · exact Nat.le_refl _
theorem filParseM (s : ByteArray) (hs : s.size ≤ 1000000) (w : World) (hE : Env w) :
    Calls Tryz.prog 67 #[.string s] w fun e w' => e = .returned (.tuple #[.agg (cellsF (Fil.parseV s.data.toList) (fsOf (Fil.parseV s.data.toList))), .int .i64 (Fil.parseE s.data.toList)]) ∧ Below w.heap.size w w' := by
  refine (filParse s w hs hE).mono ?_
  rintro e w1 (⟨a, fs, h1, h2, _, _, h5, rfl, hb⟩ | ⟨h1, h2, rfl, hb⟩)
  · refine ⟨?_, hb⟩
    rw [h1, h2, ← fs_eq (f := a.flt) h5]
    rfl
  · refine ⟨?_, hb⟩
    rw [h1, h2]
    rfl
/-! read -/
theorem kind_idx (s : Bs) : (0 < idx Amt.wordsL s ∧ idx Amt.wordsL s = Amt.kindW s) ∨ (¬ 0 < idx Amt.wordsL s ∧ Amt.kindW s = 0) := by
  by_cases h1 : s = Amt.sX
  · subst h1; exact .inl (by decide +kernel)
  by_cases h3 : s = Amt.sPower
  · subst h3; exact .inl (by decide +kernel)
  by_cases h5 : s = Amt.sLife
  · subst h5; exact .inl (by decide +kernel)
  by_cases h6 : s = Amt.sHand
  · subst h6; exact .inl (by decide +kernel)
  by_cases h7 : s = Amt.sThat
  · subst h7; exact .inl (by decide +kernel)
  refine .inr ⟨?_, by simp [Amt.kindW, h1, h3, h5, h6, h7]⟩
  by_cases h0 : s = []
  · subst h0; decide +kernel
  rw [idx_miss (l := Amt.wordsL)]
  · decide
  · intro j y hj hy
    have hj' : j < 8 := hj
    match j, hj', hy with
    | 0, _, rfl => exact Ne.symm h0
    | 1, _, rfl => exact Ne.symm h1
    | 2, _, rfl => exact Ne.symm h0
    | 3, _, rfl => exact Ne.symm h3
    | 4, _, rfl => exact Ne.symm h0
    | 5, _, rfl => exact Ne.symm h5
    | 6, _, rfl => exact Ne.symm h6
    | 7, _, rfl => exact Ne.symm h7
theorem trim_suffix (s : Bs) : Lib.trimSuffix s [41] = Amt.trim s := by
  unfold Lib.trimSuffix Amt.trim Lib.hasSuffix
  rcases List.eq_nil_or_concat s with rfl | ⟨l, x, rfl⟩
  · rfl
  · by_cases hx : x = 41
    · subst hx
      rw [if_pos (by simp), if_pos (by simp)]
      simp
    · rw [if_neg (by simp [Ne.symm hx]), if_neg (by simp [hx])]
theorem trim_le (s : Bs) : (Amt.trim s).length ≤ s.length := by
  unfold Amt.trim
  split
  · simp
  · exact Nat.le_refl _
theorem cutPre (s p : ByteArray) (w : World) : Calls Tryz.prog 63 #[.string s, .string p] w fun e w' => e = .returned (.tuple #[.string ⟨(if p.data.toList.isPrefixOf s.data.toList then s.data.toList.drop p.data.toList.length else s.data.toList).toArray⟩, .bool (p.data.toList.isPrefixOf s.data.toList)]) ∧ Below w.heap.size w w' := by
  refine (below_same (strCutPrefix s p w)).mono ?_
  rintro e w1 ⟨rfl, hb⟩
  refine ⟨?_, hb⟩
  split
  · rfl
  · rfl
theorem trimSuf (s : ByteArray) (hs : s.size ≤ 1000000) (w : World) : Calls Tryz.prog 65 #[.string s, .string ⟨#[41]⟩] w fun e w' => e = .returned (.string ⟨(Amt.trim s.data.toList).toArray⟩) ∧ Below w.heap.size w w' := by
  refine (below_same' (Tryz.strings_TrimSuffix s ⟨#[41]⟩ w (by omega))).mono ?_
  rintro e w1 ⟨rfl, hb⟩
  exact ⟨by rw [show (ByteArray.mk #[41]).data.toList = [41] from rfl, trim_suffix], hb⟩
set_option maxHeartbeats 2000000 in
theorem amtRead (s : ByteArray) (hs : s.size ≤ 1000000) (w : World) (hE : EnvA w) :
    Calls Tryz.prog 24 #[.string s] w fun e w' => e = .returned (.agg (cellsM (Amt.readA s.data.toList))) ∧ Below w.heap.size w w' := by
  have hsl : s.data.toList.length = s.size := Array.length_toList
  have HX : Hid (∀ W b, Below w.heap.size w W → Blk W b wordsC 9 → Calls Tryz.prog 62 #[.slice (some ⟨b, 0, none⟩) 8 8, .string s] W fun e w' => e = .returned (.int .i64 (idx Amt.wordsL s.data.toList)) ∧ Below W.heap.size W w') :=
    Lib.hid fun W b _ hk => below_same (wordIndex _ _ s W (words_strs hk))
  rcases kind_idx s.data.toList with ⟨h1, h2⟩ | ⟨h1, h2⟩
  · refine (readWord s _ w HX h1).mono ?_
    rintro e w1 ⟨rfl, hb⟩
    refine ⟨?_, hb⟩
    unfold Amt.readA
    rw [if_pos (by rw [← h2]; exact h1), h2]
    rfl
  · have hk : ¬ 0 < Amt.kindW s.data.toList := by rw [h2]; decide
    have H1 : Hid (∀ W, Below w.heap.size w W → _) := Lib.hid fun W _ => cutPre s ⟨#[99, 111, 117, 110, 116, 101, 114, 115, 40]⟩ W
    have ep : (ByteArray.mk #[99, 111, 117, 110, 116, 101, 114, 115, 40]).data.toList = Amt.sCtrs := rfl
    rw [ep] at H1
    cases hc : Amt.sCtrs.isPrefixOf s.data.toList with
    | true =>
      rw [hc] at H1
      simp only [if_true] at H1
      refine (readCtr s _ ⟨(Amt.trim (s.data.toList.drop 9)).toArray⟩ _ _ _ w HX h1 H1 (Lib.hid fun W hb => ?_) (Lib.hid fun W hb => below_same (counterKind _ W (hE.below hb).ctr))).mono ?_
      · exact trimSuf ⟨(s.data.toList.drop Amt.sCtrs.length).toArray⟩ (by rw [size_of]; simp; omega) W
      · rintro e w1 ⟨rfl, hb⟩
        refine ⟨?_, hb⟩
        unfold Amt.readA
        rw [if_neg hk, if_pos hc]
        rfl
    | false =>
      rw [hc] at H1
      simp only [Bool.false_eq_true, if_false] at H1
      have HF : Hid (∀ W, Below w.heap.size w W → _) := Lib.hid fun W hb => amtFactor s hs W (hE.below hb)
      obtain ⟨⟨n, rest⟩, hfa⟩ : ∃ x, Amt.factor s.data.toList = x := ⟨_, rfl⟩
      have hfl := factor_le (s := s.data.toList)
      rw [hfa] at HF hfl
      simp only at HF hfl
      have H4 : Hid (∀ W, Below w.heap.size w W → _) := Lib.hid fun W _ => cutPre ⟨rest.toArray⟩ ⟨#[99, 111, 117, 110, 116, 40]⟩ W
      have ep : (ByteArray.mk #[99, 111, 117, 110, 116, 40]).data.toList = Amt.sCount := rfl
      have er : (ByteArray.mk rest.toArray).data.toList = rest := rfl
      rw [ep, er] at H4
      cases hd : Amt.sCount.isPrefixOf rest with
      | true =>
        rw [hd] at H4
        simp only [if_true] at H4
        have hl2 := trim_le (rest.drop 6)
        have hl3 : (rest.drop 6).length ≤ rest.length := by simp
        refine (readCount s _ ⟨rest.toArray⟩ _ ⟨(Amt.trim (rest.drop 6)).toArray⟩ _ n _ _ _ w HX h1 H1 HF H4 (Lib.hid fun W hb => ?_) (Lib.hid fun W hb => filParseM _ (by rw [size_of]; omega) W (hE.below hb).fil)).mono ?_
        · exact trimSuf ⟨(rest.drop Amt.sCount.length).toArray⟩ (by rw [size_of]; simp; omega) W
        · rintro e w1 ⟨rfl, hb⟩
          refine ⟨?_, hb⟩
          unfold Amt.readA
          rw [if_neg hk, if_neg (by rw [hc]; decide), hfa, if_pos hd]
          rfl
      | false =>
        rw [hd] at H4
        simp only [Bool.false_eq_true, if_false] at H4
        refine (readConst s _ ⟨rest.toArray⟩ _ _ n _ _ w HX h1 H1 HF H4 (Lib.hid fun W hb => numNumber s (by omega) W (hE.below hb).fil.num)).mono ?_
        rintro e w1 ⟨rfl, hb⟩
        refine ⟨?_, hb⟩
        unfold Amt.readA
        rw [if_neg hk, if_neg (by rw [hc]; decide), hfa, if_neg (by rw [hd]; decide)]
        rfl
/-! Parse -/
noncomputable def Amt.pB (s : Bs) : Bool := Amt.okB (Amt.readA s) && (Amt.textA (Amt.readA s) == s)
noncomputable def Amt.pV (s : Bs) : Amt.Amt := if Amt.pB s = true then Amt.readA s else Amt.zero
noncomputable def Amt.pE (s : Bs) : Int := if Amt.pB s = true then 0 else 3
theorem parse_sub (s : Bs) : (Fil.parseV s).sub.length ≤ 32 := by
  cases h : Fil.parseO s with
  | none => rw [(Fil.parse_none h).1]; decide
  | some g =>
    obtain ⟨h1, _, h3, _⟩ := Fil.parse_some h
    rw [h3]
    exact sub_len (Fil.valid_of h1).sub
theorem zero_le : Fil.zero.sub.length ≤ 32 := by decide
theorem read_sub (s : Bs) : (Amt.readA s).f.sub.length ≤ 32 := by
  unfold Amt.readA
  split
  · exact zero_le
  · split
    · exact zero_le
    · split
      · exact parse_sub _
      · exact zero_le
theorem amtParse (s : ByteArray) (hs : s.size ≤ 1000000) (w : World) (hE : EnvA w) :
    Calls Tryz.prog 13 #[.string s] w fun e w' => e = .returned (.tuple #[.agg (cellsM (Amt.pV s.data.toList)), .int .i64 (Amt.pE s.data.toList)]) ∧ Below w.heap.size w w' := by
  obtain ⟨a, ha⟩ : ∃ a, Amt.readA s.data.toList = a := ⟨_, rfl⟩
  have hsub := read_sub s.data.toList
  rw [ha] at hsub
  have hfs : (fsOf a.f).size ≤ maxLen := by
    have : (fsOf a.f).size = a.f.sub.length := size_of _
    unfold maxLen
    omega
  have hq : ((ByteArray.mk (Amt.textA a).toArray).toList == s.toList) = (Amt.textA a == s.data.toList) := by rw [Lib.toList_data, Lib.toList_data]
  refine (parseWalkM s ⟨(Amt.textA a).toArray⟩ a.k a.n a.c a.f (fsOf a.f) (Amt.okB a) _ w (Lib.hid fun W hb => ?_) (Lib.hid fun W hb => amtIs a.k a.n a.c a.f _ (fsOf_sub _) hfs W (hE.below hb)) (Lib.hid fun W hb => amtText a.k a.n a.c a.f _ (fsOf_sub _) hfs W (hE.below hb)) hq).mono ?_
  · have := amtRead s hs W (hE.below hb)
    rw [ha] at this
    exact this
  · rintro e w1 ⟨rfl, hb⟩
    refine ⟨?_, hb⟩
    unfold Amt.pV Amt.pE Amt.pB
    rw [ha]
    split <;> rfl
end Go.Proofs.YtohgdmlpffeoiaaGreatDoor
namespace Go.Proofs.YtohgdmlpffeoiaaGreatDoor
open Go.RowKit
open Wd (Bs)

def oneF : Fil.Flt := { Fil.zero with who := 1, types := 1 }
theorem built_oneF : Tryz.prog.built 25 [(1, .int .i64 1), (3, .int .i64 1)] = some (cellsF oneF ⟨#[]⟩) := by kernel_rfl
set_option maxHeartbeats 8000000 in
set_option maxRecDepth 100000 in
theorem aliveWalk (w : World)
    (H1 : Hid (∀ W, Below w.heap.size w W → Calls Tryz.prog 13 #[.string ⟨#[50, 42, 99, 111, 117, 110, 116, 40, 121, 111, 117, 114, 115, 32, 99, 114, 101, 97, 116, 117, 114, 101, 41]⟩] W fun e w' => e = .returned (.tuple #[.agg (cells3 2 2 0 (cellsF oneF ⟨#[]⟩)), .int .i64 0]) ∧ Below W.heap.size W w')) (H2 : Hid (∀ W, Below w.heap.size w W → Calls Tryz.prog 13 #[.string ⟨#[49, 42, 99, 111, 117, 110, 116, 40, 97, 110, 121, 41]⟩] W fun e w' => e = .returned (.tuple #[.agg (cells3 0 0 0 cellsZ), .int .i64 3]) ∧ Below W.heap.size W w')) (H3 : Hid (∀ W, Below w.heap.size w W → Calls Tryz.prog 13 #[.string ⟨#[99, 111, 117, 110, 116, 40, 97, 110, 121, 41]⟩] W fun e w' => e = .returned (.tuple #[.agg (cells3 2 1 0 cellsZ), .int .i64 0]) ∧ Below W.heap.size W w')) (HT : Hid (∀ W, Below w.heap.size w W → Calls Tryz.prog 11 #[.agg (cells3 0 3 0 cellsZ)] W fun e w' => e = .returned (.string ⟨#[51]⟩) ∧ Below W.heap.size W w')) (hq : ∀ W : World, (Op.equalIn 10000 27 (.agg (cells3 2 2 0 (cellsF oneF ⟨#[]⟩))) (.agg (cells3 2 2 0 (cellsF oneF ⟨#[]⟩)))).run Tryz.prog W = .ok true W) :
    Calls Tryz.prog 8 #[] w fun e w' => e = .returned (.bool true) ∧ Below w.heap.size w w' := by

  have B0 := Lib.hid (Below.refl w.heap.size w)
  go_enter Tryz.func8, Tryz.ntmps8
  go_upto_region 0 with fail
  refine wp_region_lit ?_
  (with_reducible refine rN (v := .bool false) ?_ ?_ ?_); (· rfl); (· go_simp; (try with_reducible rfl)); simp only [pu, sB, s0]
  go_upto_region 1 with fail
  refine wp_region_lit ?_
  go_wp2_with fail
  refine (H1.out _ B0.out).mono ?_
  rintro e w1 ⟨rfl, hb⟩
  have B1 := Lib.hid (B0.out.trans (hb.mono B0.out.size))
  clear hb
  clear B0
  go_simp
  rename_i hKK
  refine hKK _ _ ?_
  clear hKK
  try simp only [pu, sB, s0, sS]
  (with_reducible refine rN (v := ?_) ?_ ?_ ?_); rotate_left; (· rfl); (· go_simp; (try with_reducible rfl)); simp only [pu, sB, s0, sS]
  (with_reducible refine rN (v := .agg (cells3 2 2 0 (cellsF oneF ⟨#[]⟩))) ?_ ?_ ?_); (· rfl); (· go_simp; (try with_reducible rfl)); simp only [pu, sB, s0, sS]
  (with_reducible refine rN (v := ?_) ?_ ?_ ?_); rotate_left; (· rfl); (· go_simp; (try with_reducible rfl)); simp only [pu, sB, s0, sS]
  obtain ⟨w2, hw⟩ : ∃ v, v = w1.alloc (.cells (cells3 0 0 0 cellsZ) 27) := ⟨_, rfl⟩
  obtain ⟨pP, hp⟩ : ∃ v, v = w1.heap.size := ⟨_, rfl⟩
  have B2 : Hid (Below w.heap.size w w2) := Lib.hid (by rw [hw]; exact B1.out.alloc B1.out.size _)
  have LEP : Hid (w.heap.size ≤ pP) := Lib.hid (by rw [hp]; exact B1.out.size)
  have KP2 : Hid (Blk w2 pP (cells3 0 0 0 cellsZ) 27) := Lib.hid (by rw [hw, hp]; exact Blk.new _ _ _)
  with_reducible refine wpList_runWV (some 1) (v := .pointer (some ⟨pP, 0, none⟩)) (w' := w2) ?_ ?_ ?_ ?_
  · rfl
  · rfl
  · rw [hw, hp]; (go_simp; (try rfl))
  simp only [pu, sB, s0, sS]
  clear hw hp
  clear B1
  have KP3 := Lib.hid (KP2.out.stored (o := 0) (vs := (cells3 2 2 0 (cellsF oneF ⟨#[]⟩)).toList) (laidAt_whole (Eq.trans (cells3_sz (cellsF_size _ _)) (Eq.symm (cells3_sz cellsZ_size)))))
  have B3 := Lib.hid (below_whole ((cells3 2 2 0 (cellsF oneF ⟨#[]⟩)).toList) (o := 0) B2.out LEP.out)
  with_reducible refine wpList_storeM (.tmp 1) (.tmp 9) (o := 0) (vs := (cells3 2 2 0 (cellsF oneF ⟨#[]⟩))) ?_ ?_ KP2.out ?_ (infoTM19 (cells3_sz (cellsF_size _ _))) (cells3_one (cellsF_one _ _)) ?_
  · rfl
  · rfl
  · exact (by have h0 : (cells3 0 0 0 cellsZ).size = 19 := (cells3_sz cellsZ_size); have h1 : (cells3 2 2 0 (cellsF oneF ⟨#[]⟩)).size = 19 := (cells3_sz (cellsF_size _ _)); omega)
  (try simp only [Act.put])
  generalize World.setCells _ _ _ _ = w3 at KP3 B3 ⊢
  clear B2 KP2
  (with_reducible refine rN (v := ?_) ?_ ?_ ?_); rotate_left; (· rfl); (· go_simp; (try with_reducible rfl)); simp only [pu, sB, s0, sS]
  go_upto_region 2 with fail
  refine wp_region_lit ?_
  go_wp2_with fail
  refine (H2.out _ B3.out).mono ?_
  rintro e w4 ⟨rfl, hb⟩
  have B4 := Lib.hid (B3.out.trans (hb.mono B3.out.size))
  have KP4 := Lib.hid (KP3.out.below hb KP3.out.lt)
  clear hb
  clear B3 KP3
  go_simp
  rename_i hKK
  refine hKK _ _ ?_
  clear hKK
  try simp only [pu, sB, s0, sS]
  (with_reducible refine rN (v := ?_) ?_ ?_ ?_); rotate_left; (· rfl); (· go_simp; (try with_reducible rfl)); simp only [pu, sB, s0, sS]
  (with_reducible refine rN (v := .agg (cells3 0 0 0 cellsZ)) ?_ ?_ ?_); (· rfl); (· go_simp; (try with_reducible rfl)); simp only [pu, sB, s0, sS]
  (with_reducible refine rN (v := ?_) ?_ ?_ ?_); rotate_left; (· rfl); (· go_simp; (try with_reducible rfl)); simp only [pu, sB, s0, sS]
  obtain ⟨w5, hw⟩ : ∃ v, v = w4.alloc (.cells (cells3 0 0 0 cellsZ) 27) := ⟨_, rfl⟩
  obtain ⟨pQ, hp⟩ : ∃ v, v = w4.heap.size := ⟨_, rfl⟩
  have B5 : Hid (Below w.heap.size w w5) := Lib.hid (by rw [hw]; exact B4.out.alloc B4.out.size _)
  have LEQ : Hid (w.heap.size ≤ pQ) := Lib.hid (by rw [hp]; exact B4.out.size)
  have KP5 := Lib.hid (show Blk w5 pP (cells3 2 2 0 (cellsF oneF ⟨#[]⟩)) 27 by rw [hw]; exact KP4.out.alloc _)
  have NEPQ : Hid (pP ≠ pQ) := Lib.hid (by rw [hp]; exact Nat.ne_of_lt KP4.out.lt)
  have NEQP : Hid (pQ ≠ pP) := Lib.hid (Ne.symm NEPQ.out)
  have KQ5 : Hid (Blk w5 pQ (cells3 0 0 0 cellsZ) 27) := Lib.hid (by rw [hw, hp]; exact Blk.new _ _ _)
  with_reducible refine wpList_runWV (some 3) (v := .pointer (some ⟨pQ, 0, none⟩)) (w' := w5) ?_ ?_ ?_ ?_
  · rfl
  · rfl
  · rw [hw, hp]; (go_simp; (try rfl))
  simp only [pu, sB, s0, sS]
  clear hw hp
  clear B4 KP4
  have KQ6 := Lib.hid (KQ5.out.stored (o := 0) (vs := (cells3 0 0 0 cellsZ).toList) (laidAt_whole (Eq.trans (cells3_sz cellsZ_size) (Eq.symm (cells3_sz cellsZ_size)))))
  have KP6 := Lib.hid (KP5.out.wholeElse ((cells3 0 0 0 cellsZ).toList) (o := 0) NEPQ.out)
  have B6 := Lib.hid (below_whole ((cells3 0 0 0 cellsZ).toList) (o := 0) B5.out LEQ.out)
  with_reducible refine wpList_storeM (.tmp 3) (.tmp 13) (o := 0) (vs := (cells3 0 0 0 cellsZ)) ?_ ?_ KQ5.out ?_ (infoTM19 (cells3_sz cellsZ_size)) (cells3_one cellsZ_one) ?_
  · rfl
  · rfl
  · exact (by have h0 : (cells3 0 0 0 cellsZ).size = 19 := (cells3_sz cellsZ_size); have h1 : (cells3 0 0 0 cellsZ).size = 19 := (cells3_sz cellsZ_size); omega)
  (try simp only [Act.put])
  generalize World.setCells _ _ _ _ = w6 at KP6 KQ6 B6 ⊢
  clear B5 KP5 KQ5
  (with_reducible refine rN (v := ?_) ?_ ?_ ?_); rotate_left; (· rfl); (· go_simp; (try with_reducible rfl)); simp only [pu, sB, s0, sS]
  go_upto_region 3 with fail
  refine wp_region_lit ?_
  go_wp2_with fail
  refine (H3.out _ B6.out).mono ?_
  rintro e w7 ⟨rfl, hb⟩
  have B7 := Lib.hid (B6.out.trans (hb.mono B6.out.size))
  have KP7 := Lib.hid (KP6.out.below hb KP6.out.lt)
  have KQ7 := Lib.hid (KQ6.out.below hb KQ6.out.lt)
  clear hb
  clear B6 KP6 KQ6
  go_simp
  rename_i hKK
  refine hKK _ _ ?_
  clear hKK
  try simp only [pu, sB, s0, sS]
  (with_reducible refine rN (v := ?_) ?_ ?_ ?_); rotate_left; (· rfl); (· go_simp; (try with_reducible rfl)); simp only [pu, sB, s0, sS]
  (with_reducible refine rN (v := .agg (cells3 2 1 0 cellsZ)) ?_ ?_ ?_); (· rfl); (· go_simp; (try with_reducible rfl)); simp only [pu, sB, s0, sS]
  (with_reducible refine rN (v := ?_) ?_ ?_ ?_); rotate_left; (· rfl); (· go_simp; (try with_reducible rfl)); simp only [pu, sB, s0, sS]
  obtain ⟨w8, hw⟩ : ∃ v, v = w7.alloc (.cells (cells3 0 0 0 cellsZ) 27) := ⟨_, rfl⟩
  obtain ⟨pR, hp⟩ : ∃ v, v = w7.heap.size := ⟨_, rfl⟩
  have B8 : Hid (Below w.heap.size w w8) := Lib.hid (by rw [hw]; exact B7.out.alloc B7.out.size _)
  have LER : Hid (w.heap.size ≤ pR) := Lib.hid (by rw [hp]; exact B7.out.size)
  have KP8 := Lib.hid (show Blk w8 pP (cells3 2 2 0 (cellsF oneF ⟨#[]⟩)) 27 by rw [hw]; exact KP7.out.alloc _)
  have NEPR : Hid (pP ≠ pR) := Lib.hid (by rw [hp]; exact Nat.ne_of_lt KP7.out.lt)
  have NERP : Hid (pR ≠ pP) := Lib.hid (Ne.symm NEPR.out)
  have KQ8 := Lib.hid (show Blk w8 pQ (cells3 0 0 0 cellsZ) 27 by rw [hw]; exact KQ7.out.alloc _)
  have NEQR : Hid (pQ ≠ pR) := Lib.hid (by rw [hp]; exact Nat.ne_of_lt KQ7.out.lt)
  have NERQ : Hid (pR ≠ pQ) := Lib.hid (Ne.symm NEQR.out)
  have KR8 : Hid (Blk w8 pR (cells3 0 0 0 cellsZ) 27) := Lib.hid (by rw [hw, hp]; exact Blk.new _ _ _)
  with_reducible refine wpList_runWV (some 5) (v := .pointer (some ⟨pR, 0, none⟩)) (w' := w8) ?_ ?_ ?_ ?_
  · rfl
  · rfl
  · rw [hw, hp]; (go_simp; (try rfl))
  simp only [pu, sB, s0, sS]
  clear hw hp
  clear B7 KP7 KQ7
  have KR9 := Lib.hid (KR8.out.stored (o := 0) (vs := (cells3 2 1 0 cellsZ).toList) (laidAt_whole (Eq.trans (cells3_sz cellsZ_size) (Eq.symm (cells3_sz cellsZ_size)))))
  have KP9 := Lib.hid (KP8.out.wholeElse ((cells3 2 1 0 cellsZ).toList) (o := 0) NEPR.out)
  have KQ9 := Lib.hid (KQ8.out.wholeElse ((cells3 2 1 0 cellsZ).toList) (o := 0) NEQR.out)
  have B9 := Lib.hid (below_whole ((cells3 2 1 0 cellsZ).toList) (o := 0) B8.out LER.out)
  with_reducible refine wpList_storeM (.tmp 5) (.tmp 17) (o := 0) (vs := (cells3 2 1 0 cellsZ)) ?_ ?_ KR8.out ?_ (infoTM19 (cells3_sz cellsZ_size)) (cells3_one cellsZ_one) ?_
  · rfl
  · rfl
  · exact (by have h0 : (cells3 0 0 0 cellsZ).size = 19 := (cells3_sz cellsZ_size); have h1 : (cells3 2 1 0 cellsZ).size = 19 := (cells3_sz cellsZ_size); omega)
  (try simp only [Act.put])
  generalize World.setCells _ _ _ _ = w9 at KP9 KQ9 KR9 B9 ⊢
  clear B8 KP8 KQ8 KR8
  (with_reducible refine rN (v := ?_) ?_ ?_ ?_); rotate_left; (· rfl); (· go_simp; (try with_reducible rfl)); simp only [pu, sB, s0, sS]
  go_upto_region 4 with fail
  refine wp_region_lit ?_
  (with_reducible refine rN (v := ?_) ?_ ?_ ?_); rotate_left; (· rfl); (· go_simp; (try with_reducible rfl)); simp only [pu, sB, s0, sS]
  iterate 2 ((with_reducible refine rN (v := .bool true) ?_ ?_ ?_); (· rfl); (· go_simp; (try with_reducible rfl)); simp only [pu, sB, s0, sS])
  with_reducible refine wpList_loadS (.tmp 1) ?_ ?_ KP9.out Tryz.underlying27 ?_ (infoTM19 (cells3_sz (cellsF_size _ _))) ?_
  · rfl
  · rfl
  · rfl
  simp only [pu, sB, s0, sS]
  (with_reducible refine rN (v := .agg (cellsF oneF ⟨#[]⟩)) ?_ ?_ ?_); (· rfl); (· refine run_buildOp _ [(1, .int .i64 1), (3, .int .i64 1)] rfl ?_ built_oneF; rfl); simp only [pu, sB, s0, sS]
  (with_reducible refine rN (v := .agg (cells3 2 2 0 (cellsF oneF ⟨#[]⟩))) ?_ ?_ ?_); (· rfl); (· refine run_buildOp _ [(0, .int .i64 2), (1, .int .i64 2), (3, .agg (cellsF oneF ⟨#[]⟩))] rfl ?_ (built_count 2 oneF ⟨#[]⟩); rfl); simp only [pu, sB, s0, sS]
  iterate 3 ((with_reducible refine rN (v := .bool true) ?_ ?_ ?_); (· rfl); (· go_simp; (try with_reducible rfl)); simp only [pu, sB, s0, sS])
  (with_reducible refine rN (v := ?_) ?_ ?_ ?_); rotate_left; (· rfl); (· go_simp; (try with_reducible rfl)); simp only [pu, sB, s0, sS]
  iterate 3 ((with_reducible refine rN (v := .bool true) ?_ ?_ ?_); (· rfl); (· go_simp; (try with_reducible rfl)); simp only [pu, sB, s0, sS])
  (with_reducible refine rN (v := ?_) ?_ ?_ ?_); rotate_left; (· rfl); (· go_simp; (try with_reducible rfl)); simp only [pu, sB, s0, sS]
  iterate 3 ((with_reducible refine rN (v := .bool true) ?_ ?_ ?_); (· rfl); (· go_simp; (try with_reducible rfl)); simp only [pu, sB, s0, sS])
  (with_reducible refine rN (v := .pointer (some ⟨pR, 1, none⟩)) ?_ ?_ ?_); (· rfl); (· go_simp; (try rfl)); simp only [pu, sB, s0, sS]
  with_reducible refine wpList_loadV (.tmp 36) (j := 1) (v := .int .i64 1) ?_ ?_ KR9.out ?_ Tryz.underlying3 ?_ ?_
  · rfl
  · rfl
  · exact (cells3_1 ..)
  · rfl
  simp only [pu, sB, s0, sS]
  iterate 3 ((with_reducible refine rN (v := .bool true) ?_ ?_ ?_); (· rfl); (· go_simp; (try with_reducible rfl)); simp only [pu, sB, s0, sS])
  (with_reducible refine rN (v := .agg (cells3 0 3 0 cellsZ)) ?_ ?_ ?_); (· rfl); (· go_simp; (try rfl)); simp only [pu, sB, s0, sS]
  go_wp2_with fail
  refine (HT.out _ B9.out).mono ?_
  rintro e w10 ⟨rfl, hb⟩
  have B10 := Lib.hid (B9.out.trans (hb.mono B9.out.size))
  have KP10 := Lib.hid (KP9.out.below hb KP9.out.lt)
  have KQ10 := Lib.hid (KQ9.out.below hb KQ9.out.lt)
  have KR10 := Lib.hid (KR9.out.below hb KR9.out.lt)
  clear hb
  clear B9 KP9 KQ9 KR9
  go_simp
  rename_i hKK
  refine hKK _ _ ?_
  clear hKK
  try simp only [pu, sB, s0, sS]
  iterate 2 ((with_reducible refine rN (v := .bool true) ?_ ?_ ?_); (· rfl); (· go_simp; (try with_reducible rfl)); simp only [pu, sB, s0, sS])
  (with_reducible refine rN (v := .bool true) ?_ ?_ ?_); (· rfl); (· go_simp; (try with_reducible rfl)); simp only [pu, sB, s0]
  go_wp2_with fail
  go_ret
  exact ⟨rfl, B10.out⟩
end Go.Proofs.YtohgdmlpffeoiaaGreatDoor
namespace Go.Proofs.YtohgdmlpffeoiaaGreatDoor
open Go.RowKit
open Wd (Bs)

theorem fs_le {fs : ByteArray} (h : fs.size ≤ 1000) : fs.size ≤ maxLen := by unfold maxLen; omega
/-- '==' of an amount with itself -/
theorem run_eq_amt_self (k n c : Int) (f : Fil.Flt) (fs : ByteArray) (hf : f.sub = fs.data.toList) (W : World) : (Op.equalIn 10000 27 (.agg (cells3 k n c (cellsF f fs))) (.agg (cells3 k n c (cellsF f fs)))).run Tryz.prog W = .ok true W := by
  have := run_eq_amt k n c k n c f f fs fs hf hf W
  rw [eqM_iff.2 rfl] at this
  exact this
theorem p_text {a : Amt.Amt} (h : Amt.okB a = true) : Amt.pV (Amt.textA a) = a ∧ Amt.pE (Amt.textA a) = 0 := by
  have hb : Amt.pB (Amt.textA a) = true := by unfold Amt.pB; rw [Amt.read_text h, h]; simp
  unfold Amt.pV Amt.pE
  rw [if_pos hb, if_pos hb]
  exact ⟨Amt.read_text h, rfl⟩
theorem p_no {s : Bs} (h : Amt.pB s = false) : Amt.pV s = Amt.zero ∧ Amt.pE s = 3 := by
  unfold Amt.pV Amt.pE
  rw [if_neg (by rw [h]; decide), if_neg (by rw [h]; decide)]
  exact ⟨rfl, rfl⟩
theorem p_yes {s : Bs} (h : Amt.pB s = true) : Amt.okB (Amt.pV s) = true ∧ Amt.textA (Amt.pV s) = s ∧ Amt.pE s = 0 := by
  unfold Amt.pV Amt.pE
  rw [if_pos h, if_pos h]
  unfold Amt.pB at h
  simp only [Bool.and_eq_true, beq_iff_eq] at h
  exact ⟨h.1, h.2, rfl⟩
theorem p_nil : Amt.pB [] = false := by
  cases h : Amt.pB [] with
  | false => rfl
  | true =>
    obtain ⟨h1, h2, _⟩ := p_yes h
    exact absurd ⟨h1, h2⟩ (Amt.is_nil _)
theorem valid_oneF : Fil.validB oneF = true := by
  unfold Fil.validB
  rw [show Fil.subB oneF.sub = true from sub_nil]
  decide +kernel
theorem text_oneF : Fil.textF oneF = [121, 111, 117, 114, 115, 32, 99, 114, 101, 97, 116, 117, 114, 101] := by
  rw [Fil.textF_valid valid_oneF]
  decide +kernel
theorem itoa_two : Lib.itoa 2 = [50] := by decide +kernel
theorem itoa_three : Lib.itoa 3 = [51] := by decide +kernel
theorem amtAlive (w : World) (hE : EnvA w) : Calls Tryz.prog 8 #[] w fun e w' => e = .returned (.bool true) ∧ Below w.heap.size w w' := by
  have ok1 : Amt.okB ⟨2, 2, 0, oneF⟩ = true := Amt.ok_count (by decide) (by decide) valid_oneF
  have t1 : Amt.textA ⟨2, 2, 0, oneF⟩ = [50, 42, 99, 111, 117, 110, 116, 40, 121, 111, 117, 114, 115, 32, 99, 114, 101, 97, 116, 117, 114, 101, 41] := by
    rw [Amt.textA_ok ok1, Amt.raw_count, if_neg (by decide), itoa_two]
    unfold Amt.cnt
    rw [text_oneF]
    rfl
  have ok3 : Amt.okB ⟨2, 1, 0, Fil.zero⟩ = true := Amt.ok_count (by decide) (by decide) valid_zero
  have t3 : Amt.textA ⟨2, 1, 0, Fil.zero⟩ = [99, 111, 117, 110, 116, 40, 97, 110, 121, 41] := by
    rw [Amt.textA_ok ok3, Amt.raw_count, if_pos rfl]
    unfold Amt.cnt
    rw [text_zero]
    rfl
  have ok4 : Amt.okB ⟨0, 3, 0, Fil.zero⟩ = true := Amt.ok_const (by decide) (by decide)
  have t4 : Amt.textA ⟨0, 3, 0, Fil.zero⟩ = [51] := by rw [Amt.textA_ok ok4, Amt.raw_const, itoa_three]
  have b2 : Amt.pB [49, 42, 99, 111, 117, 110, 116, 40, 97, 110, 121, 41] = false := by
    have hf : Amt.factor [49, 42, 99, 111, 117, 110, 116, 40, 97, 110, 121, 41] = (1, [99, 111, 117, 110, 116, 40, 97, 110, 121, 41]) := by decide +kernel
    have hr : Amt.readA [49, 42, 99, 111, 117, 110, 116, 40, 97, 110, 121, 41] = ⟨2, 1, 0, Fil.zero⟩ := by
      unfold Amt.readA
      rw [if_neg (by decide), if_neg (by decide), hf, if_pos (by decide)]
      have hp := (Fil.parse_text valid_zero).1
      rw [text_zero] at hp
      have ht : Amt.trim (List.drop 6 [99, 111, 117, 110, 116, 40, 97, 110, 121, 41]) = Fil.sAny := by decide
      simp only
      rw [ht, hp]
    unfold Amt.pB
    rw [hr, t3, ok3]
    decide
  have P1 := p_text ok1
  rw [t1] at P1
  have P3 := p_text ok3
  rw [t3] at P3
  have P2 := p_no b2
  refine aliveWalk w (Lib.hid fun W hb => ?_) (Lib.hid fun W hb => ?_) (Lib.hid fun W hb => ?_) (Lib.hid fun W hb => ?_) (fun W => run_eq_amt_self 2 2 0 oneF ⟨#[]⟩ rfl W)
  · have := amtParse ⟨#[50, 42, 99, 111, 117, 110, 116, 40, 121, 111, 117, 114, 115, 32, 99, 114, 101, 97, 116, 117, 114, 101, 41]⟩ (by decide) W (hE.below hb)
    rw [show (ByteArray.mk #[50, 42, 99, 111, 117, 110, 116, 40, 121, 111, 117, 114, 115, 32, 99, 114, 101, 97, 116, 117, 114, 101, 41]).data.toList = [50, 42, 99, 111, 117, 110, 116, 40, 121, 111, 117, 114, 115, 32, 99, 114, 101, 97, 116, 117, 114, 101, 41] from rfl, P1.1, P1.2] at this
    exact this
  · have := amtParse ⟨#[49, 42, 99, 111, 117, 110, 116, 40, 97, 110, 121, 41]⟩ (by decide) W (hE.below hb)
    rw [show (ByteArray.mk #[49, 42, 99, 111, 117, 110, 116, 40, 97, 110, 121, 41]).data.toList = [49, 42, 99, 111, 117, 110, 116, 40, 97, 110, 121, 41] from rfl, P2.1, P2.2] at this
    exact this
  · have := amtParse ⟨#[99, 111, 117, 110, 116, 40, 97, 110, 121, 41]⟩ (by decide) W (hE.below hb)
    rw [show (ByteArray.mk #[99, 111, 117, 110, 116, 40, 97, 110, 121, 41]).data.toList = [99, 111, 117, 110, 116, 40, 97, 110, 121, 41] from rfl, P3.1, P3.2] at this
    exact this
  · have := amtText 0 3 0 Fil.zero ⟨#[]⟩ rfl (by decide) W (hE.below hb)
    rw [t4] at this
    exact this
end Go.Proofs.YtohgdmlpffeoiaaGreatDoor
