/-
  THE LAWS OF LAYER 12: what Cancel leaves. By an AI agent.
-/
import Derived.Test.YtgljibplhiabgaaDoorCtrLawsD
namespace Go.Proofs.YtgljibplhiabgaaDoor
open Go.RowKit

set_option maxHeartbeats 1000000 in
set_option maxRecDepth 100000 in
theorem lawCancelsBad (p : Ctr.Tri) (w : World) (hE : Env w) (ho : Ctr.okT p = false) :
    Calls Tryd.prog 7 #[.agg #[.int .i64 p.a, .int .i64 p.b, .int .i64 p.c]] w fun e w' => e = .returned (.bool true) ∧ Below w.heap.size w w' := by
  have G1 : Hid (∀ w, Calls Tryd.prog 20 #[.agg #[.int .i64 p.a, .int .i64 p.b, .int .i64 p.c]] w fun e w' => e = .returned (.tuple #[.agg #[.int .i64 p.a, .int .i64 p.b, .int .i64 p.c], .int .i64 0]) ∧ Below w.heap.size w w') := Lib.hid (fun w => by have h := counterCancel p w; rw [Ctr.cancel_bad ho, Ctr.pairs_bad ho] at h; exact h)
  have G2 : Hid (∀ w, Calls Tryd.prog 12 #[.agg #[.int .i64 p.a, .int .i64 p.b, .int .i64 p.c]] w fun e w' => e = .returned (.bool false) ∧ Below w.heap.size w w') := Lib.hid (fun w => by have h := counterIs p w; rw [ho] at h; exact h)
  have hb0 : Below w.heap.size w (w.alloc (.cells #[.int .i64 p.a, .int .i64 p.b, .int .i64 p.c] 22)) := by go_grown
  have K0 := Lib.hid (Blk.new w #[.int .i64 p.a, .int .i64 p.b, .int .i64 p.c] 22)
  have HE := Lib.hid hE
  have HB0 := Lib.hid hb0
  have q1 : ∀ W : World, (Op.equalIn 10000 22 (.agg #[.int .i64 p.a, .int .i64 p.b, .int .i64 p.c]) (.agg #[.int .i64 p.a, .int .i64 p.b, .int .i64 p.c])).run Tryd.prog W = .ok true W := fun W => run_eq_same p W
  clear hE hb0 ho
  go_enter Tryd.func7, Tryd.ntmps7
  go_wp2_with fail
  refine (G1.out _).mono ?_
  rintro e w1 ⟨rfl, hb1⟩
  have A0 := Lib.hid ((K0.out.below hb1 K0.out.lt).alloc (.cells #[.int .i64 p.a, .int .i64 p.b, .int .i64 p.c] 22))
  have A1 := Lib.hid (Blk.new w1 #[.int .i64 p.a, .int .i64 p.b, .int .i64 p.c] 22)
  have AH := Lib.hid ((HB0.out.trans (hb1.mono HB0.out.size)).alloc ((HB0.out.trans (hb1.mono HB0.out.size)).size) (.cells #[.int .i64 p.a, .int .i64 p.b, .int .i64 p.c] 22))
  clear hb1 K0 HB0
  have c0 := A0.out.cell
  go_wp2_with fail
  refine (G2.out _).mono ?_
  rintro e w2 ⟨rfl, hb2⟩
  have BH := Lib.hid (AH.out.trans (hb2.mono AH.out.size))
  have c2 := (A0.out.below hb2 A0.out.lt).cell
  have c3 := (A1.out.below hb2 A1.out.lt).cell
  clear hb2 A0 A1 AH c0
  go_wp2_with fail
  refine (counterAlive _ (HE.out.below BH.out)).mono ?_
  rintro e w3 ⟨rfl, hb3⟩
  go_wp2
  go_ret
  exact ⟨rfl, BH.out.trans (hb3.mono BH.out.size)⟩
set_option maxHeartbeats 8000000 in
set_option maxRecDepth 100000 in
theorem lawCancelsAny (p q : Ctr.Tri) (n pw : Int) (w : World) (hE : Env w) (ha : ¬ q.a = 0) (hz : q.b = 0) (hc : q.c = p.c) (hn : q.a + n = p.a) (hr : -9223372036854775808 ≤ p.a ∧ p.a ≤ 9223372036854775807)
    (h1 : ∀ w, Calls Tryd.prog 20 #[.agg #[.int .i64 p.a, .int .i64 p.b, .int .i64 p.c]] w fun e w' => e = .returned (.tuple #[.agg #[.int .i64 q.a, .int .i64 q.b, .int .i64 q.c], .int .i64 n]) ∧ Below w.heap.size w w')
    (h2 : ∀ w, Calls Tryd.prog 20 #[.agg #[.int .i64 q.a, .int .i64 q.b, .int .i64 q.c]] w fun e w' => e = .returned (.tuple #[.agg #[.int .i64 q.a, .int .i64 q.b, .int .i64 q.c], .int .i64 0]) ∧ Below w.heap.size w w')
    (h3 : ∀ w, Calls Tryd.prog 22 #[.agg #[.int .i64 p.a, .int .i64 p.b, .int .i64 p.c]] w fun e w' => e = .returned (.int .i64 pw) ∧ Below w.heap.size w w')
    (h4 : ∀ w, Calls Tryd.prog 22 #[.agg #[.int .i64 q.a, .int .i64 q.b, .int .i64 q.c]] w fun e w' => e = .returned (.int .i64 pw) ∧ Below w.heap.size w w')
    (h5 : ∀ w, Calls Tryd.prog 12 #[.agg #[.int .i64 p.a, .int .i64 p.b, .int .i64 p.c]] w fun e w' => e = .returned (.bool true) ∧ Below w.heap.size w w')
    (h6 : ∀ w, Calls Tryd.prog 12 #[.agg #[.int .i64 q.a, .int .i64 q.b, .int .i64 q.c]] w fun e w' => e = .returned (.bool true) ∧ Below w.heap.size w w') :
    Calls Tryd.prog 7 #[.agg #[.int .i64 p.a, .int .i64 p.b, .int .i64 p.c]] w fun e w' => e = .returned (.bool true) ∧ Below w.heap.size w w' := by
  have hb0 : Below w.heap.size w (w.alloc (.cells #[.int .i64 p.a, .int .i64 p.b, .int .i64 p.c] 22)) := by go_grown
  have K0 := Lib.hid (Blk.new w #[.int .i64 p.a, .int .i64 p.b, .int .i64 p.c] 22)
  have HE := Lib.hid hE
  have HB0 := Lib.hid hb0
  have G1 := Lib.hid h1
  have G2 := Lib.hid h2
  have G3 := Lib.hid h3
  have G4 := Lib.hid h4
  have G5 := Lib.hid h5
  have G6 := Lib.hid h6
  have q1 : ∀ W : World, (Op.equalIn 10000 22 (.agg #[.int .i64 q.a, .int .i64 q.b, .int .i64 q.c]) (.agg #[.int .i64 q.a, .int .i64 q.b, .int .i64 q.c])).run Tryd.prog W = .ok true W := fun W => run_eq_same q W
  have t1 : (q.c == p.c) = true := by rw [hc]; exact beq_self_eq_true _
  have t2 : IntKind.i64.wrap (q.a + n) = p.a := by rw [hn, IntWalk.i64_left, IntWalk.wrap64_in _ (by omega)]
  clear hE h1 h2 h3 h4 h5 h6 hb0 hc hn hr
  have t3 : (q.a == 0) = false := by simpa using ha
  have t4 : (q.b == 0) = true := by rw [hz]; rfl
  clear ha hz
  go_enter Tryd.func7, Tryd.ntmps7
  go_wp2_with fail
  refine (G1.out _).mono ?_
  rintro e w1 ⟨rfl, hb1⟩
  have A0 := Lib.hid ((K0.out.below hb1 K0.out.lt).alloc (.cells #[.int .i64 q.a, .int .i64 q.b, .int .i64 q.c] 22))
  have A1 := Lib.hid (Blk.new w1 #[.int .i64 q.a, .int .i64 q.b, .int .i64 q.c] 22)
  have AH := Lib.hid ((HB0.out.trans (hb1.mono HB0.out.size)).alloc ((HB0.out.trans (hb1.mono HB0.out.size)).size) (.cells #[.int .i64 q.a, .int .i64 q.b, .int .i64 q.c] 22))
  clear hb1 K0 HB0
  have c0 := A0.out.cell
  go_wp2_with fail
  refine (G5.out _).mono ?_
  rintro e w2 ⟨rfl, hb2⟩
  have B0 := Lib.hid (A0.out.below hb2 A0.out.lt)
  have B1 := Lib.hid (A1.out.below hb2 A1.out.lt)
  have BH := Lib.hid (AH.out.trans (hb2.mono AH.out.size))
  clear hb2 A0 A1 AH c0
  have c1 := B1.out.cell
  go_wp2_with fail
  refine (G2.out _).mono ?_
  rintro e w3 ⟨rfl, hb3⟩
  have R : Hid (ThreeAt p q q w w1.heap.size w3.heap.size (w3.alloc (.cells #[.int .i64 q.a, .int .i64 q.b, .int .i64 q.c] 22))) := Lib.hid ⟨(B0.out.below hb3 B0.out.lt).alloc _, (B1.out.below hb3 B1.out.lt).alloc _, Blk.new w3 _ _, (BH.out.trans (hb3.mono BH.out.size)).alloc ((BH.out.trans (hb3.mono BH.out.size)).size) _⟩
  clear hb3 B0 B1 BH c1
  go_wp2_with fail
  have c0 := R.out.cells
  have hE0 := Lib.hid (fun (W : World) (hb : Below (w3.alloc (.cells #[.int .i64 q.a, .int .i64 q.b, .int .i64 q.c] 22)).heap.size (w3.alloc (.cells #[.int .i64 q.a, .int .i64 q.b, .int .i64 q.c] 22)) W) => HE.out.below (R.out.below hb rfl).hb)
  obtain ⟨C, HC⟩ : ∃ C, Hid (C = (w3.alloc (.cells #[.int .i64 q.a, .int .i64 q.b, .int .i64 q.c] 22)).heap.size) := ⟨_, Lib.hid rfl⟩
  rw [← HC.out] at hE0
  have hsz : C ≤ (w3.alloc (.cells #[.int .i64 q.a, .int .i64 q.b, .int .i64 q.c] 22)).heap.size := by rw [HC.out]; exact Nat.le_refl _
  generalize w3.heap.size = m2 at *
  generalize w3.alloc (.cells #[.int .i64 q.a, .int .i64 q.b, .int .i64 q.c] 22) = w0 at *
  go_region_held3 (fun w' => (w'.cell? ⟨w.heap.size, 0, none⟩ = some (.int .i64 p.a) ∧ w'.cell? ⟨w.heap.size, 1, none⟩ = some (.int .i64 p.b) ∧ w'.cell? ⟨w.heap.size, 2, none⟩ = some (.int .i64 p.c)) ∧ (w'.cell? ⟨w1.heap.size, 0, none⟩ = some (.int .i64 q.a) ∧ w'.cell? ⟨w1.heap.size, 1, none⟩ = some (.int .i64 q.b) ∧ w'.cell? ⟨w1.heap.size, 2, none⟩ = some (.int .i64 q.c)) ∧ (w'.cell? ⟨m2, 0, none⟩ = some (.int .i64 q.a) ∧ w'.cell? ⟨m2, 1, none⟩ = some (.int .i64 q.b) ∧ w'.cell? ⟨m2, 2, none⟩ = some (.int .i64 q.c)))
    (first | (with_reducible exact c0) | (with_reducible exact (R.out.below hb1 HC.out).cells) | (with_reducible exact (R.out.below (Below.drew hb1) HC.out).cells) | go_keep)
    (first
      | (go_at_call 9; refine (fromBase (C := C) (w0 := w0) ?_ hsz (counterAlive _ (hE0.out _ ?_))).mono ?_; (go_grown); (go_grown); rintro e w1 ⟨rfl, hb1⟩)
      | (go_at_call 22; with_reducible refine (fromBase (C := C) (w0 := w0) ?_ hsz (G4.out _)).mono ?_; (go_grown); rintro e w1 ⟨rfl, hb1⟩)
      | (go_at_call 22; with_reducible refine (fromBase (C := C) (w0 := w0) ?_ hsz (G3.out _)).mono ?_; (go_grown); rintro e w1 ⟨rfl, hb1⟩)
      | (go_at_call 12; refine (fromBase (C := C) (w0 := w0) ?_ hsz (G6.out _)).mono ?_; (go_grown); rintro e w1 ⟨rfl, hb1⟩))
  go_wp2
  go_ret
  exact ⟨rfl, (R.out.below (C := C) (by go_grown) HC.out).hb⟩
section
variable {P : Program} {ops : Array Oper} {Q : Exit → Act → World → Prop} {md : Region.Mode} {S : World → Prop}
/-- an operation that its guard leaves out, taken first -/
theorem take_skip (i : Nat) (d : Option Tmp) {oi : Oper} {fuel : Nat} {listed : Array Bool} {a : Act} {w : World} (hi : ops[i]? = some oi) (hd : oi.dst = d)
    (hs : Region.noSelect ops = true) (hf : Region.free md ops listed i = true) (hr : (Region.ready md ops listed).contains i = true)
    (hQ : ∀ c a w, Q (.panic c) (a.put d undef) w → Q (.panic c) a w) (hw : Region.wanted oi (yielded ops a.tmps) = false) (hS : S w)
    (h : wpAnyH P md ops Q S fuel (listed.setIfInBounds i true) (a.put d undef) w) : wpAnyH P md ops Q S (fuel + 1) listed a w := by
  subst hd
  exact wpAnyH_take hi hs hf hr hQ (Or.inr ⟨hw, rfl⟩) hS h
/-- an operation that runs in every world that meets S, taken first -/
theorem take_run (i : Nat) (d : Option Tmp) {v : Value} {oi : Oper} {fuel : Nat} {listed : Array Bool} {a : Act} {w : World} (hi : ops[i]? = some oi) (hd : oi.dst = d)
    (hs : Region.noSelect ops = true) (hf : Region.free md ops listed i = true) (hr : (Region.ready md ops listed).contains i = true)
    (hQ : ∀ c a w, Q (.panic c) (a.put d v) w → Q (.panic c) a w) (hw : Region.wanted oi (yielded ops a.tmps) = true) (hy : ∀ w, S w → (execOp a.eval oi).run P w = .ok (.value v) w) (hS : S w)
    (h : wpAnyH P md ops Q S fuel (listed.setIfInBounds i true) (a.put d v) w) : wpAnyH P md ops Q S (fuel + 1) listed a w := by
  subst hd
  exact wpAnyH_take hi hs hf hr hQ (Or.inl ⟨hw, hy⟩) hS h
end
set_option maxHeartbeats 8000000 in
set_option maxRecDepth 100000 in
theorem lawCancelsZero (p : Ctr.Tri) (y pw : Int) (w : World) (hE : Env w) (hr : -9223372036854775808 ≤ p.a ∧ p.a ≤ 9223372036854775807)
    (h1 : ∀ w, Calls Tryd.prog 20 #[.agg #[.int .i64 p.a, .int .i64 p.b, .int .i64 p.c]] w fun e w' => e = .returned (.tuple #[.agg #[.int .i64 0, .int .i64 y, .int .i64 p.c], .int .i64 p.a]) ∧ Below w.heap.size w w')
    (h2 : ∀ w, Calls Tryd.prog 20 #[.agg #[.int .i64 0, .int .i64 y, .int .i64 p.c]] w fun e w' => e = .returned (.tuple #[.agg #[.int .i64 0, .int .i64 y, .int .i64 p.c], .int .i64 0]) ∧ Below w.heap.size w w')
    (h3 : ∀ w, Calls Tryd.prog 22 #[.agg #[.int .i64 p.a, .int .i64 p.b, .int .i64 p.c]] w fun e w' => e = .returned (.int .i64 pw) ∧ Below w.heap.size w w')
    (h4 : ∀ w, Calls Tryd.prog 22 #[.agg #[.int .i64 0, .int .i64 y, .int .i64 p.c]] w fun e w' => e = .returned (.int .i64 pw) ∧ Below w.heap.size w w')
    (h5 : ∀ w, Calls Tryd.prog 12 #[.agg #[.int .i64 p.a, .int .i64 p.b, .int .i64 p.c]] w fun e w' => e = .returned (.bool true) ∧ Below w.heap.size w w')
    (h6 : ∀ w, Calls Tryd.prog 12 #[.agg #[.int .i64 0, .int .i64 y, .int .i64 p.c]] w fun e w' => e = .returned (.bool true) ∧ Below w.heap.size w w') :
    Calls Tryd.prog 7 #[.agg #[.int .i64 p.a, .int .i64 p.b, .int .i64 p.c]] w fun e w' => e = .returned (.bool true) ∧ Below w.heap.size w w' := by
  have hb0 : Below w.heap.size w (w.alloc (.cells #[.int .i64 p.a, .int .i64 p.b, .int .i64 p.c] 22)) := by go_grown
  have K0 := Lib.hid (Blk.new w #[.int .i64 p.a, .int .i64 p.b, .int .i64 p.c] 22)
  have HE := Lib.hid hE
  have HB0 := Lib.hid hb0
  have G1 := Lib.hid h1
  have G2 := Lib.hid h2
  have G3 := Lib.hid h3
  have G4 := Lib.hid h4
  have G5 := Lib.hid h5
  have G6 := Lib.hid h6
  have q1 : ∀ W : World, (Op.equalIn 10000 22 (.agg #[.int .i64 0, .int .i64 y, .int .i64 p.c]) (.agg #[.int .i64 0, .int .i64 y, .int .i64 p.c])).run Tryd.prog W = .ok true W := fun W => run_eq_same ⟨0, y, p.c⟩ W
  have t2 : IntKind.i64.wrap p.a = p.a := by rw [IntWalk.i64_left, IntWalk.wrap64_in _ (by omega)]
  clear hE h1 h2 h3 h4 h5 h6 hb0 hr
  go_enter Tryd.func7, Tryd.ntmps7
  go_wp2_with fail
  refine (G1.out _).mono ?_
  rintro e w1 ⟨rfl, hb1⟩
  have A0 := Lib.hid ((K0.out.below hb1 K0.out.lt).alloc (.cells #[.int .i64 0, .int .i64 y, .int .i64 p.c] 22))
  have A1 := Lib.hid (Blk.new w1 #[.int .i64 0, .int .i64 y, .int .i64 p.c] 22)
  have AH := Lib.hid ((HB0.out.trans (hb1.mono HB0.out.size)).alloc ((HB0.out.trans (hb1.mono HB0.out.size)).size) (.cells #[.int .i64 0, .int .i64 y, .int .i64 p.c] 22))
  clear hb1 K0 HB0
  have c0 := A0.out.cell
  go_wp2_with fail
  refine (G5.out _).mono ?_
  rintro e w2 ⟨rfl, hb2⟩
  have B0 := Lib.hid (A0.out.below hb2 A0.out.lt)
  have B1 := Lib.hid (A1.out.below hb2 A1.out.lt)
  have BH := Lib.hid (AH.out.trans (hb2.mono AH.out.size))
  clear hb2 A0 A1 AH c0
  have c1 := B1.out.cell
  go_wp2_with fail
  refine (G2.out _).mono ?_
  rintro e w3 ⟨rfl, hb3⟩
  have R : Hid (ThreeAt p ⟨0, y, p.c⟩ ⟨0, y, p.c⟩ w w1.heap.size w3.heap.size (w3.alloc (.cells #[.int .i64 0, .int .i64 y, .int .i64 p.c] 22))) := Lib.hid ⟨(B0.out.below hb3 B0.out.lt).alloc _, (B1.out.below hb3 B1.out.lt).alloc _, Blk.new w3 _ _, (BH.out.trans (hb3.mono BH.out.size)).alloc ((BH.out.trans (hb3.mono BH.out.size)).size) _⟩
  clear hb3 B0 B1 BH c1
  go_wp2_with fail
  have c0 := R.out.cells
  have hE0 := Lib.hid (fun (W : World) (hb : Below (w3.alloc (.cells #[.int .i64 0, .int .i64 y, .int .i64 p.c] 22)).heap.size (w3.alloc (.cells #[.int .i64 0, .int .i64 y, .int .i64 p.c] 22)) W) => HE.out.below (R.out.below hb rfl).hb)
  obtain ⟨C, HC⟩ : ∃ C, Hid (C = (w3.alloc (.cells #[.int .i64 0, .int .i64 y, .int .i64 p.c] 22)).heap.size) := ⟨_, Lib.hid rfl⟩
  rw [← HC.out] at hE0
  have hsz : C ≤ (w3.alloc (.cells #[.int .i64 0, .int .i64 y, .int .i64 p.c] 22)).heap.size := by rw [HC.out]; exact Nat.le_refl _
  generalize w3.heap.size = m2 at *
  generalize w3.alloc (.cells #[.int .i64 0, .int .i64 y, .int .i64 p.c] 22) = w0 at *
  refine wp_region_held_drew (S := (fun w' => (w'.cell? ⟨w.heap.size, 0, none⟩ = some (.int .i64 p.a) ∧ w'.cell? ⟨w.heap.size, 1, none⟩ = some (.int .i64 p.b) ∧ w'.cell? ⟨w.heap.size, 2, none⟩ = some (.int .i64 p.c)) ∧ (w'.cell? ⟨w1.heap.size, 0, none⟩ = some (.int .i64 0) ∧ w'.cell? ⟨w1.heap.size, 1, none⟩ = some (.int .i64 y) ∧ w'.cell? ⟨w1.heap.size, 2, none⟩ = some (.int .i64 p.c)) ∧ (w'.cell? ⟨m2, 0, none⟩ = some (.int .i64 0) ∧ w'.cell? ⟨m2, 1, none⟩ = some (.int .i64 y) ∧ w'.cell? ⟨m2, 2, none⟩ = some (.int .i64 p.c)))) (by kernel_rfl) ?_ (fun hHeld => ?_)
  · exact c0
  refine take_run 0 (some 30) (v := ?_) rfl rfl (by kernel_rfl) (by kernel_rfl) (by kernel_rfl) (fun _ _ _ h => h) (by rfl) ?_ (by assumption) ?_
  rotate_left
  · (intro W hSw; (try dsimp only at hSw); go_simp; (try with_reducible rfl))
  simp only [Act.put, List.setIfInBounds_toArray, List.set_cons_zero, List.set_cons_succ]
  refine take_run 2 (some 32) (v := ?_) rfl rfl (by kernel_rfl) (by kernel_rfl) (by kernel_rfl) (fun _ _ _ h => h) (by rfl) ?_ (by assumption) ?_
  rotate_left
  · (intro W hSw; (try dsimp only at hSw); go_simp; (try with_reducible rfl))
  simp only [Act.put, List.setIfInBounds_toArray, List.set_cons_zero, List.set_cons_succ]
  refine wpAnyH_ready (rs := [1]) (by kernel_rfl) (by simp) ?_
  refine AllReadyH.cons rfl (fun K hK => ?_) AllReadyH.nil
  go_simp
  go_at_call 22
  refine (fromBase (C := C) (w0 := w0) ?_ hsz (G4.out _)).mono ?_
  · go_grown
  rintro e w9 ⟨rfl, hb9⟩
  refine hK.out _ _ ?_ (fun hHeld2 => ?_)
  · exact (R.out.below hb9 HC.out).cells
  clear hK K
  try simp only [Act.put, List.setIfInBounds_toArray, List.set_cons_zero, List.set_cons_succ]
  refine wpAnyH_ready (rs := [3]) (by kernel_rfl) (by simp) ?_
  refine AllReadyH.cons rfl (fun K hK => ?_) AllReadyH.nil
  go_simp
  go_at_call 22
  refine (fromBase (C := C) (w0 := w0) ?_ hsz (G3.out _)).mono ?_
  · go_grown
  rintro e w9 ⟨rfl, hb9⟩
  refine hK.out _ _ ?_ (fun hHeld2 => ?_)
  · exact (R.out.below hb9 HC.out).cells
  clear hK K
  try simp only [Act.put, List.setIfInBounds_toArray, List.set_cons_zero, List.set_cons_succ]
  refine take_run 4 (some 34) (v := ?_) rfl rfl (by kernel_rfl) (by kernel_rfl) (by kernel_rfl) (fun _ _ _ h => h) (by rfl) ?_ (by assumption) ?_
  rotate_left
  · (intro W hSw; (try dsimp only at hSw); go_simp; (try with_reducible rfl))
  simp only [Act.put, List.setIfInBounds_toArray, List.set_cons_zero, List.set_cons_succ]
  refine take_run 5 (some 35) (v := ?_) rfl rfl (by kernel_rfl) (by kernel_rfl) (by kernel_rfl) (fun _ _ _ h => h) (by rfl) ?_ (by assumption) ?_
  rotate_left
  · (intro W hSw; (try dsimp only at hSw); go_simp; (try with_reducible rfl))
  simp only [Act.put, List.setIfInBounds_toArray, List.set_cons_zero, List.set_cons_succ]
  refine take_run 6 (some 36) (v := ?_) rfl rfl (by kernel_rfl) (by kernel_rfl) (by kernel_rfl) (fun _ _ _ h => h) (by rfl) ?_ (by assumption) ?_
  rotate_left
  · (intro W hSw; (try dsimp only at hSw); go_simp; (try with_reducible rfl))
  simp only [Act.put, List.setIfInBounds_toArray, List.set_cons_zero, List.set_cons_succ]
  refine take_run 7 (some 37) (v := ?_) rfl rfl (by kernel_rfl) (by kernel_rfl) (by kernel_rfl) (fun _ _ _ h => h) (by rfl) ?_ (by assumption) ?_
  rotate_left
  · (intro W hSw; (try dsimp only at hSw); go_simp; (try with_reducible rfl))
  simp only [Act.put, List.setIfInBounds_toArray, List.set_cons_zero, List.set_cons_succ]
  refine take_run 8 (some 38) (v := ?_) rfl rfl (by kernel_rfl) (by kernel_rfl) (by kernel_rfl) (fun _ _ _ h => h) (by rfl) ?_ (by assumption) ?_
  rotate_left
  · (intro W hSw; (try dsimp only at hSw); go_simp; (try with_reducible rfl))
  simp only [Act.put, List.setIfInBounds_toArray, List.set_cons_zero, List.set_cons_succ]
  refine take_run 9 (some 39) (v := ?_) rfl rfl (by kernel_rfl) (by kernel_rfl) (by kernel_rfl) (fun _ _ _ h => h) (by rfl) ?_ (by assumption) ?_
  rotate_left
  · (intro W hSw; (try dsimp only at hSw); go_simp; (try with_reducible rfl))
  simp only [Act.put, List.setIfInBounds_toArray, List.set_cons_zero, List.set_cons_succ]
  refine take_skip 10 (some 40) rfl rfl (by kernel_rfl) (by kernel_rfl) (by kernel_rfl) (fun _ _ _ h => h) (by rfl) (by assumption) ?_
  simp only [Act.put, List.setIfInBounds_toArray, List.set_cons_zero, List.set_cons_succ]
  refine take_skip 11 (some 41) rfl rfl (by kernel_rfl) (by kernel_rfl) (by kernel_rfl) (fun _ _ _ h => h) (by rfl) (by assumption) ?_
  simp only [Act.put, List.setIfInBounds_toArray, List.set_cons_zero, List.set_cons_succ]
  refine take_skip 12 (some 42) rfl rfl (by kernel_rfl) (by kernel_rfl) (by kernel_rfl) (fun _ _ _ h => h) (by rfl) (by assumption) ?_
  simp only [Act.put, List.setIfInBounds_toArray, List.set_cons_zero, List.set_cons_succ]
  refine take_run 13 (some 43) (v := ?_) rfl rfl (by kernel_rfl) (by kernel_rfl) (by kernel_rfl) (fun _ _ _ h => h) (by rfl) ?_ (by assumption) ?_
  rotate_left
  · (intro W hSw; (try dsimp only at hSw); go_simp; (try with_reducible rfl))
  simp only [Act.put, List.setIfInBounds_toArray, List.set_cons_zero, List.set_cons_succ]
  refine take_run 14 (some 44) (v := ?_) rfl rfl (by kernel_rfl) (by kernel_rfl) (by kernel_rfl) (fun _ _ _ h => h) (by rfl) ?_ (by assumption) ?_
  rotate_left
  · (intro W hSw; (try dsimp only at hSw); go_simp; (try with_reducible rfl))
  simp only [Act.put, List.setIfInBounds_toArray, List.set_cons_zero, List.set_cons_succ]
  refine take_run 15 (some 45) (v := ?_) rfl rfl (by kernel_rfl) (by kernel_rfl) (by kernel_rfl) (fun _ _ _ h => h) (by rfl) ?_ (by assumption) ?_
  rotate_left
  · (intro W hSw; (try dsimp only at hSw); go_simp; (try with_reducible rfl))
  simp only [Act.put, List.setIfInBounds_toArray, List.set_cons_zero, List.set_cons_succ]
  refine take_run 16 (some 46) (v := ?_) rfl rfl (by kernel_rfl) (by kernel_rfl) (by kernel_rfl) (fun _ _ _ h => h) (by rfl) ?_ (by assumption) ?_
  rotate_left
  · (intro W hSw; (try dsimp only at hSw); go_simp; (try with_reducible rfl))
  simp only [Act.put, List.setIfInBounds_toArray, List.set_cons_zero, List.set_cons_succ]
  refine take_run 17 (some 47) (v := ?_) rfl rfl (by kernel_rfl) (by kernel_rfl) (by kernel_rfl) (fun _ _ _ h => h) (by rfl) ?_ (by assumption) ?_
  rotate_left
  · (intro W hSw; (try dsimp only at hSw); go_simp; (try with_reducible rfl))
  simp only [Act.put, List.setIfInBounds_toArray, List.set_cons_zero, List.set_cons_succ]
  refine take_run 18 (some 48) (v := ?_) rfl rfl (by kernel_rfl) (by kernel_rfl) (by kernel_rfl) (fun _ _ _ h => h) (by rfl) ?_ (by assumption) ?_
  rotate_left
  · (intro W hSw; (try dsimp only at hSw); go_simp; (try with_reducible rfl))
  simp only [Act.put, List.setIfInBounds_toArray, List.set_cons_zero, List.set_cons_succ]
  refine take_run 19 (some 49) (v := ?_) rfl rfl (by kernel_rfl) (by kernel_rfl) (by kernel_rfl) (fun _ _ _ h => h) (by rfl) ?_ (by assumption) ?_
  rotate_left
  · (intro W hSw; (try dsimp only at hSw); go_simp; (try with_reducible rfl))
  simp only [Act.put, List.setIfInBounds_toArray, List.set_cons_zero, List.set_cons_succ]
  refine take_run 20 (some 50) (v := ?_) rfl rfl (by kernel_rfl) (by kernel_rfl) (by kernel_rfl) (fun _ _ _ h => h) (by rfl) ?_ (by assumption) ?_
  rotate_left
  · (intro W hSw; (try dsimp only at hSw); go_simp; (try with_reducible rfl))
  simp only [Act.put, List.setIfInBounds_toArray, List.set_cons_zero, List.set_cons_succ]
  refine take_run 21 (some 51) (v := ?_) rfl rfl (by kernel_rfl) (by kernel_rfl) (by kernel_rfl) (fun _ _ _ h => h) (by rfl) ?_ (by assumption) ?_
  rotate_left
  · (intro W hSw; (try dsimp only at hSw); go_simp; (try with_reducible rfl))
  simp only [Act.put, List.setIfInBounds_toArray, List.set_cons_zero, List.set_cons_succ]
  refine take_run 22 (some 52) (v := ?_) rfl rfl (by kernel_rfl) (by kernel_rfl) (by kernel_rfl) (fun _ _ _ h => h) (by rfl) ?_ (by assumption) ?_
  rotate_left
  · (intro W hSw; (try dsimp only at hSw); go_simp; (try with_reducible rfl))
  simp only [Act.put, List.setIfInBounds_toArray, List.set_cons_zero, List.set_cons_succ]
  refine take_run 23 (some 53) (v := ?_) rfl rfl (by kernel_rfl) (by kernel_rfl) (by kernel_rfl) (fun _ _ _ h => h) (by rfl) ?_ (by assumption) ?_
  rotate_left
  · (intro W hSw; (try dsimp only at hSw); go_simp; (try with_reducible rfl))
  simp only [Act.put, List.setIfInBounds_toArray, List.set_cons_zero, List.set_cons_succ]
  refine take_run 24 (some 54) (v := ?_) rfl rfl (by kernel_rfl) (by kernel_rfl) (by kernel_rfl) (fun _ _ _ h => h) (by rfl) ?_ (by assumption) ?_
  rotate_left
  · (intro W hSw; (try dsimp only at hSw); go_simp; (try with_reducible rfl))
  simp only [Act.put, List.setIfInBounds_toArray, List.set_cons_zero, List.set_cons_succ]
  refine take_run 25 (some 55) (v := ?_) rfl rfl (by kernel_rfl) (by kernel_rfl) (by kernel_rfl) (fun _ _ _ h => h) (by rfl) ?_ (by assumption) ?_
  rotate_left
  · (intro W hSw; (try dsimp only at hSw); go_simp; (try with_reducible rfl))
  simp only [Act.put, List.setIfInBounds_toArray, List.set_cons_zero, List.set_cons_succ]
  refine take_run 26 (some 56) (v := ?_) rfl rfl (by kernel_rfl) (by kernel_rfl) (by kernel_rfl) (fun _ _ _ h => h) (by rfl) ?_ (by assumption) ?_
  rotate_left
  · (intro W hSw; (try dsimp only at hSw); go_simp; (try with_reducible rfl))
  simp only [Act.put, List.setIfInBounds_toArray, List.set_cons_zero, List.set_cons_succ]
  refine take_run 27 (some 57) (v := ?_) rfl rfl (by kernel_rfl) (by kernel_rfl) (by kernel_rfl) (fun _ _ _ h => h) (by rfl) ?_ (by assumption) ?_
  rotate_left
  · (intro W hSw; (try dsimp only at hSw); go_simp; (try with_reducible rfl))
  simp only [Act.put, List.setIfInBounds_toArray, List.set_cons_zero, List.set_cons_succ]
  refine take_run 28 (some 58) (v := ?_) rfl rfl (by kernel_rfl) (by kernel_rfl) (by kernel_rfl) (fun _ _ _ h => h) (by rfl) ?_ (by assumption) ?_
  rotate_left
  · (intro W hSw; (try dsimp only at hSw); go_simp; (try with_reducible rfl))
  simp only [Act.put, List.setIfInBounds_toArray, List.set_cons_zero, List.set_cons_succ]
  refine take_run 29 (some 59) (v := ?_) rfl rfl (by kernel_rfl) (by kernel_rfl) (by kernel_rfl) (fun _ _ _ h => h) (by rfl) ?_ (by assumption) ?_
  rotate_left
  · (intro W hSw; (try dsimp only at hSw); go_simp; (try with_reducible rfl))
  simp only [Act.put, List.setIfInBounds_toArray, List.set_cons_zero, List.set_cons_succ]
  refine take_run 30 (some 60) (v := ?_) rfl rfl (by kernel_rfl) (by kernel_rfl) (by kernel_rfl) (fun _ _ _ h => h) (by rfl) ?_ (by assumption) ?_
  rotate_left
  · (intro W hSw; (try dsimp only at hSw); go_simp; (try with_reducible rfl))
  simp only [Act.put, List.setIfInBounds_toArray, List.set_cons_zero, List.set_cons_succ]
  refine take_run 31 (some 61) (v := ?_) rfl rfl (by kernel_rfl) (by kernel_rfl) (by kernel_rfl) (fun _ _ _ h => h) (by rfl) ?_ (by assumption) ?_
  rotate_left
  · (intro W hSw; (try dsimp only at hSw); go_simp; (try with_reducible rfl))
  simp only [Act.put, List.setIfInBounds_toArray, List.set_cons_zero, List.set_cons_succ]
  refine take_run 32 (some 62) (v := ?_) rfl rfl (by kernel_rfl) (by kernel_rfl) (by kernel_rfl) (fun _ _ _ h => h) (by rfl) ?_ (by assumption) ?_
  rotate_left
  · (intro W hSw; (try dsimp only at hSw); go_simp; (try with_reducible rfl))
  simp only [Act.put, List.setIfInBounds_toArray, List.set_cons_zero, List.set_cons_succ]
  refine take_run 33 (some 63) (v := ?_) rfl rfl (by kernel_rfl) (by kernel_rfl) (by kernel_rfl) (fun _ _ _ h => h) (by rfl) ?_ (by assumption) ?_
  rotate_left
  · (intro W hSw; (try dsimp only at hSw); go_simp; (try with_reducible rfl))
  simp only [Act.put, List.setIfInBounds_toArray, List.set_cons_zero, List.set_cons_succ]
  refine take_run 34 (some 64) (v := ?_) rfl rfl (by kernel_rfl) (by kernel_rfl) (by kernel_rfl) (fun _ _ _ h => h) (by rfl) ?_ (by assumption) ?_
  rotate_left
  · (intro W hSw; (try dsimp only at hSw); go_simp; (try with_reducible rfl))
  simp only [Act.put, List.setIfInBounds_toArray, List.set_cons_zero, List.set_cons_succ]
  refine take_run 35 (some 65) (v := ?_) rfl rfl (by kernel_rfl) (by kernel_rfl) (by kernel_rfl) (fun _ _ _ h => h) (by rfl) ?_ (by assumption) ?_
  rotate_left
  · (intro W hSw; (try dsimp only at hSw); go_simp; (try with_reducible rfl))
  simp only [Act.put, List.setIfInBounds_toArray, List.set_cons_zero, List.set_cons_succ]
  refine take_run 36 (some 66) (v := ?_) rfl rfl (by kernel_rfl) (by kernel_rfl) (by kernel_rfl) (fun _ _ _ h => h) (by rfl) ?_ (by assumption) ?_
  rotate_left
  · (intro W hSw; (try dsimp only at hSw); go_simp; (try with_reducible rfl))
  simp only [Act.put, List.setIfInBounds_toArray, List.set_cons_zero, List.set_cons_succ]
  refine take_run 37 (some 67) (v := ?_) rfl rfl (by kernel_rfl) (by kernel_rfl) (by kernel_rfl) (fun _ _ _ h => h) (by rfl) ?_ (by assumption) ?_
  rotate_left
  · (intro W hSw; (try dsimp only at hSw); go_simp; (try with_reducible rfl))
  simp only [Act.put, List.setIfInBounds_toArray, List.set_cons_zero, List.set_cons_succ]
  refine take_run 38 (some 68) (v := ?_) rfl rfl (by kernel_rfl) (by kernel_rfl) (by kernel_rfl) (fun _ _ _ h => h) (by rfl) ?_ (by assumption) ?_
  rotate_left
  · (intro W hSw; (try dsimp only at hSw); go_simp; (try with_reducible rfl))
  simp only [Act.put, List.setIfInBounds_toArray, List.set_cons_zero, List.set_cons_succ]
  refine take_run 39 (some 69) (v := ?_) rfl rfl (by kernel_rfl) (by kernel_rfl) (by kernel_rfl) (fun _ _ _ h => h) (by rfl) ?_ (by assumption) ?_
  rotate_left
  · (intro W hSw; (try dsimp only at hSw); go_simp; (try with_reducible rfl))
  simp only [Act.put, List.setIfInBounds_toArray, List.set_cons_zero, List.set_cons_succ]
  refine take_run 40 (some 70) (v := ?_) rfl rfl (by kernel_rfl) (by kernel_rfl) (by kernel_rfl) (fun _ _ _ h => h) (by rfl) ?_ (by assumption) ?_
  rotate_left
  · (intro W hSw; (try dsimp only at hSw); go_simp; (try with_reducible rfl))
  simp only [Act.put, List.setIfInBounds_toArray, List.set_cons_zero, List.set_cons_succ]
  refine take_run 41 (some 71) (v := ?_) rfl rfl (by kernel_rfl) (by kernel_rfl) (by kernel_rfl) (fun _ _ _ h => h) (by rfl) ?_ (by assumption) ?_
  rotate_left
  · (intro W hSw; (try dsimp only at hSw); go_simp; (try with_reducible rfl))
  simp only [Act.put, List.setIfInBounds_toArray, List.set_cons_zero, List.set_cons_succ]
  refine wpAnyH_ready (rs := [42]) (by kernel_rfl) (by simp) ?_
  refine AllReadyH.cons rfl (fun K hK => ?_) AllReadyH.nil
  go_simp
  go_at_call 12
  refine (fromBase (C := C) (w0 := w0) ?_ hsz (G6.out _)).mono ?_
  · go_grown
  rintro e w9 ⟨rfl, hb9⟩
  refine hK.out _ _ ?_ (fun hHeld2 => ?_)
  · exact (R.out.below hb9 HC.out).cells
  clear hK K
  try simp only [Act.put, List.setIfInBounds_toArray, List.set_cons_zero, List.set_cons_succ]
  refine take_run 43 (some 73) (v := ?_) rfl rfl (by kernel_rfl) (by kernel_rfl) (by kernel_rfl) (fun _ _ _ h => h) (by rfl) ?_ (by assumption) ?_
  rotate_left
  · (intro W hSw; (try dsimp only at hSw); go_simp; (try with_reducible rfl))
  simp only [Act.put, List.setIfInBounds_toArray, List.set_cons_zero, List.set_cons_succ]
  refine take_run 44 (some 74) (v := ?_) rfl rfl (by kernel_rfl) (by kernel_rfl) (by kernel_rfl) (fun _ _ _ h => h) (by rfl) ?_ (by assumption) ?_
  rotate_left
  · (intro W hSw; (try dsimp only at hSw); go_simp; (try with_reducible rfl))
  simp only [Act.put, List.setIfInBounds_toArray, List.set_cons_zero, List.set_cons_succ]
  refine wpAnyH_ready (rs := [45]) (by kernel_rfl) (by simp) ?_
  refine AllReadyH.cons rfl (fun K hK => ?_) AllReadyH.nil
  go_simp
  go_at_call 9
  refine (fromBase (C := C) (w0 := w0) ?_ hsz (counterAlive _ (hE0.out _ ?_))).mono ?_
  · go_grown
  · go_grown
  rintro e w9 ⟨rfl, hb9⟩
  refine hK.out _ _ ?_ (fun hHeld2 => ?_)
  · exact (R.out.below hb9 HC.out).cells
  clear hK K
  try simp only [Act.put, List.setIfInBounds_toArray, List.set_cons_zero, List.set_cons_succ]
  refine take_run 46 (some 76) (v := ?_) rfl rfl (by kernel_rfl) (by kernel_rfl) (by kernel_rfl) (fun _ _ _ h => h) (by rfl) ?_ (by assumption) ?_
  rotate_left
  · (intro W hSw; (try dsimp only at hSw); go_simp; (try with_reducible rfl))
  simp only [Act.put, List.setIfInBounds_toArray, List.set_cons_zero, List.set_cons_succ]
  refine take_run 47 (some 2) (v := ?_) rfl rfl (by kernel_rfl) (by kernel_rfl) (by kernel_rfl) (fun _ _ _ h => h) (by rfl) ?_ (by assumption) ?_
  rotate_left
  · (intro W hSw; (try dsimp only at hSw); go_simp; (try with_reducible rfl))
  simp only [Act.put, List.setIfInBounds_toArray, List.set_cons_zero, List.set_cons_succ]
  refine wpAnyH_done (by kernel_rfl) ?_ _
  go_wp2
  go_ret
  exact ⟨rfl, (R.out.below (C := C) (by go_grown) HC.out).hb⟩
theorem lawCounterCancels (p : Ctr.Tri) (w : World) (hE : Env w) :
    Calls Tryd.prog 7 #[.agg #[.int .i64 p.a, .int .i64 p.b, .int .i64 p.c]] w fun e w' => e = .returned (.bool true) ∧ Below w.heap.size w w' := by
  cases ho : Ctr.okT p with
  | false => exact lawCancelsBad p w hE ho
  | true =>
    obtain ⟨e1, e2, e3, e4, e5, e6, e7⟩ := Ctr.cancel_laws ho
    have hr := (Ctr.okT_iff.1 ho).1
    by_cases hz : (Ctr.cancelT p).a = 0
    · have hn : Ctr.pairsT p = p.a := by omega
      exact lawCancelsZero p (Ctr.cancelT p).b (Ctr.powT p) w hE (by omega) (fun w => by have h := counterCancel p w; rw [hz, hn, e3] at h; exact h) (fun w => by have h := counterCancel (Ctr.cancelT p) w; rw [e5, e6, hz, e3] at h; exact h) (fun w => counterPower p w) (fun w => by have h := counterPower (Ctr.cancelT p) w; rw [e1, hz, e3] at h; exact h) (fun w => by have h := counterIs p w; rw [ho] at h; exact h) (fun w => by have h := counterIs (Ctr.cancelT p) w; rw [e7, hz, e3] at h; exact h)
    exact lawCancelsAny p (Ctr.cancelT p) (Ctr.pairsT p) (Ctr.powT p) w hE hz (e2.resolve_left hz) e3 e4 (by omega) (fun w => counterCancel p w) (fun w => by have h := counterCancel (Ctr.cancelT p) w; rw [e5, e6] at h; exact h) (fun w => counterPower p w) (fun w => by have h := counterPower (Ctr.cancelT p) w; rw [e1] at h; exact h) (fun w => by have h := counterIs p w; rw [ho] at h; exact h) (fun w => by have h := counterIs (Ctr.cancelT p) w; rw [e7] at h; exact h)
end Go.Proofs.YtgljibplhiabgaaDoor
