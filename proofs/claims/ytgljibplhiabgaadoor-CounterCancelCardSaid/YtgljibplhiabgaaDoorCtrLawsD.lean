/-
  THE LAWS OF LAYER 12: Cancel and Power against the reference. By an AI agent.
-/
import Derived.Test.YtgljibplhiabgaaDoorCtrLawsB
namespace Go.Proofs.YtgljibplhiabgaaDoor
open Go.RowKit

/-- three blocks of counters -/
structure ThreeAt (p q r : Ctr.Tri) (w : World) (m n : Nat) (W : World) : Prop where
  b0 : Blk W w.heap.size #[.int .i64 p.a, .int .i64 p.b, .int .i64 p.c] 22
  b1 : Blk W m #[.int .i64 q.a, .int .i64 q.b, .int .i64 q.c] 22
  b2 : Blk W n #[.int .i64 r.a, .int .i64 r.b, .int .i64 r.c] 22
  hb : Below w.heap.size w W
theorem ThreeAt.below {p q r : Ctr.Tri} {w W W2 : World} {m n C : Nat} (h : ThreeAt p q r w m n W) (hb : Below C W W2) (hC : C = W.heap.size) : ThreeAt p q r w m n W2 := by
  subst hC
  exact ⟨h.b0.below hb h.b0.lt, h.b1.below hb h.b1.lt, h.b2.below hb h.b2.lt, h.hb.trans (hb.mono h.hb.size)⟩
theorem ThreeAt.cells {p q r : Ctr.Tri} {w W : World} {m n : Nat} (h : ThreeAt p q r w m n W) : (W.cell? ⟨w.heap.size, 0, none⟩ = some (.int .i64 p.a) ∧ W.cell? ⟨w.heap.size, 1, none⟩ = some (.int .i64 p.b) ∧ W.cell? ⟨w.heap.size, 2, none⟩ = some (.int .i64 p.c)) ∧ (W.cell? ⟨m, 0, none⟩ = some (.int .i64 q.a) ∧ W.cell? ⟨m, 1, none⟩ = some (.int .i64 q.b) ∧ W.cell? ⟨m, 2, none⟩ = some (.int .i64 q.c)) ∧ (W.cell? ⟨n, 0, none⟩ = some (.int .i64 r.a) ∧ W.cell? ⟨n, 1, none⟩ = some (.int .i64 r.b) ∧ W.cell? ⟨n, 2, none⟩ = some (.int .i64 r.c)) :=
  ⟨h.b0.three, h.b1.three, h.b2.three⟩
set_option maxHeartbeats 4000000 in
set_option maxRecDepth 100000 in
theorem lawCancelAny (p q : Ctr.Tri) (n pw : Int) (w : World) (hE : Env w)
    (h1 : ∀ w, Calls Tryd.prog 20 #[.agg #[.int .i64 p.a, .int .i64 p.b, .int .i64 p.c]] w fun e w' => e = .returned (.tuple #[.agg #[.int .i64 q.a, .int .i64 q.b, .int .i64 q.c], .int .i64 n]) ∧ Below w.heap.size w w')
    (h2 : ∀ w, Calls Tryd.prog 21 #[.agg #[.int .i64 p.a, .int .i64 p.b, .int .i64 p.c]] w fun e w' => e = .returned (.tuple #[.agg #[.int .i64 q.a, .int .i64 q.b, .int .i64 q.c], .int .i64 n]) ∧ Below w.heap.size w w')
    (h3 : ∀ w, Calls Tryd.prog 22 #[.agg #[.int .i64 p.a, .int .i64 p.b, .int .i64 p.c]] w fun e w' => e = .returned (.int .i64 pw) ∧ Below w.heap.size w w')
    (h4 : ∀ w, Calls Tryd.prog 23 #[.agg #[.int .i64 p.a, .int .i64 p.b, .int .i64 p.c]] w fun e w' => e = .returned (.int .i64 pw) ∧ Below w.heap.size w w') :
    Calls Tryd.prog 6 #[.agg #[.int .i64 p.a, .int .i64 p.b, .int .i64 p.c]] w fun e w' => e = .returned (.bool true) ∧ Below w.heap.size w w' := by
  have hb0 : Below w.heap.size w (w.alloc (.cells #[.int .i64 p.a, .int .i64 p.b, .int .i64 p.c] 22)) := by go_grown
  have K0 := Lib.hid (Blk.new w #[.int .i64 p.a, .int .i64 p.b, .int .i64 p.c] 22)
  have HE := Lib.hid hE
  have HB0 := Lib.hid hb0
  have G1 := Lib.hid h1
  have G2 := Lib.hid h2
  have G3 := Lib.hid h3
  have G4 := Lib.hid h4
  have q1 : ∀ W : World, (Op.equalIn 10000 22 (.agg #[.int .i64 q.a, .int .i64 q.b, .int .i64 q.c]) (.agg #[.int .i64 q.a, .int .i64 q.b, .int .i64 q.c])).run Tryd.prog W = .ok true W := fun W => run_eq_same q W
  clear hE h1 h2 h3 h4 hb0
  go_enter Tryd.func6, Tryd.ntmps6
  go_wp2_with fail
  refine (G1.out _).mono ?_
  rintro e w1 ⟨rfl, hb1⟩
  have A0 := Lib.hid ((K0.out.below hb1 K0.out.lt).alloc (.cells #[.int .i64 q.a, .int .i64 q.b, .int .i64 q.c] 22))
  have A1 := Lib.hid (Blk.new w1 #[.int .i64 q.a, .int .i64 q.b, .int .i64 q.c] 22)
  have AH := Lib.hid ((HB0.out.trans (hb1.mono HB0.out.size)).alloc ((HB0.out.trans (hb1.mono HB0.out.size)).size) (.cells #[.int .i64 q.a, .int .i64 q.b, .int .i64 q.c] 22))
  clear hb1 K0 HB0
  have c0 := A0.out.cell
  go_wp2_with fail
  refine (G2.out _).mono ?_
  rintro e w2 ⟨rfl, hb2⟩
  have R : Hid (ThreeAt p q q w w1.heap.size w2.heap.size (w2.alloc (.cells #[.int .i64 q.a, .int .i64 q.b, .int .i64 q.c] 22))) := Lib.hid ⟨(A0.out.below hb2 A0.out.lt).alloc _, (A1.out.below hb2 A1.out.lt).alloc _, Blk.new w2 _ _, (AH.out.trans (hb2.mono AH.out.size)).alloc ((AH.out.trans (hb2.mono AH.out.size)).size) _⟩
  clear hb2 A0 A1 AH c0
  go_wp2_with fail
  have c0 := R.out.cells
  have hE0 := Lib.hid (fun (W : World) (hb : Below (w2.alloc (.cells #[.int .i64 q.a, .int .i64 q.b, .int .i64 q.c] 22)).heap.size (w2.alloc (.cells #[.int .i64 q.a, .int .i64 q.b, .int .i64 q.c] 22)) W) => HE.out.below (R.out.below hb rfl).hb)
  have hsz : (w2.alloc (.cells #[.int .i64 q.a, .int .i64 q.b, .int .i64 q.c] 22)).heap.size ≤ (w2.alloc (.cells #[.int .i64 q.a, .int .i64 q.b, .int .i64 q.c] 22)).heap.size := Nat.le_refl _
  obtain ⟨C, HC⟩ : ∃ C, Hid (C = (w2.alloc (.cells #[.int .i64 q.a, .int .i64 q.b, .int .i64 q.c] 22)).heap.size) := ⟨_, Lib.hid rfl⟩
  rw [← HC.out] at hE0
  have hsz : C ≤ (w2.alloc (.cells #[.int .i64 q.a, .int .i64 q.b, .int .i64 q.c] 22)).heap.size := by rw [HC.out]; exact Nat.le_refl _
  generalize w2.heap.size = m2 at *
  generalize w2.alloc (.cells #[.int .i64 q.a, .int .i64 q.b, .int .i64 q.c] 22) = w0 at *
  go_region_held3 (fun w' => (w'.cell? ⟨w.heap.size, 0, none⟩ = some (.int .i64 p.a) ∧ w'.cell? ⟨w.heap.size, 1, none⟩ = some (.int .i64 p.b) ∧ w'.cell? ⟨w.heap.size, 2, none⟩ = some (.int .i64 p.c)) ∧ (w'.cell? ⟨w1.heap.size, 0, none⟩ = some (.int .i64 q.a) ∧ w'.cell? ⟨w1.heap.size, 1, none⟩ = some (.int .i64 q.b) ∧ w'.cell? ⟨w1.heap.size, 2, none⟩ = some (.int .i64 q.c)) ∧ (w'.cell? ⟨m2, 0, none⟩ = some (.int .i64 q.a) ∧ w'.cell? ⟨m2, 1, none⟩ = some (.int .i64 q.b) ∧ w'.cell? ⟨m2, 2, none⟩ = some (.int .i64 q.c)))
    (first | (with_reducible exact c0) | (with_reducible exact (R.out.below hb1 HC.out).cells) | (with_reducible exact (R.out.below (Below.drew hb1) HC.out).cells) | go_keep)
    (first
      | (go_at_call 9; refine (fromBase (C := C) (w0 := w0) ?_ hsz (counterAlive _ (hE0.out _ ?_))).mono ?_; (go_grown); (go_grown); rintro e w1 ⟨rfl, hb1⟩)
      | (go_at_call 22; refine (fromBase (C := C) (w0 := w0) ?_ hsz (G3.out _)).mono ?_; (go_grown); rintro e w1 ⟨rfl, hb1⟩)
      | (go_at_call 23; refine (fromBase (C := C) (w0 := w0) ?_ hsz (G4.out _)).mono ?_; (go_grown); rintro e w1 ⟨rfl, hb1⟩))
  go_wp2
  go_ret
  exact ⟨rfl, (R.out.below (C := C) (by go_grown) HC.out).hb⟩
theorem lawCounterCancel (p : Ctr.Tri) (w : World) (hE : Env w) :
    Calls Tryd.prog 6 #[.agg #[.int .i64 p.a, .int .i64 p.b, .int .i64 p.c]] w fun e w' => e = .returned (.bool true) ∧ Below w.heap.size w w' :=
  lawCancelAny p _ _ _ w hE (fun w => counterCancel p w) (fun w => refCancel12 p w) (fun w => counterPower p w) (fun w => refPower12 p w)
end Go.Proofs.YtgljibplhiabgaaDoor
