/-
  THE LAWS OF LAYER 12: Sum. By an AI agent.
-/
import Derived.Test.YtgljibplhiabgaaDoorCtrLawsD
namespace Go.Proofs.YtgljibplhiabgaaDoor
open Go.RowKit

/-- the law's own sum under way: three blocks -/
abbrev SumL (p q : Ctr.Tri) (w : World) (k : Nat) (wr : World) : Prop := ThreeAt p q (Ctr.sumTo p q k) w (w.heap.size + 1) (w.heap.size + 1 + 1) wr
theorem SumL.start (p q : Ctr.Tri) (w : World) : SumL p q w 0 (((w.alloc (.cells #[.int .i64 p.a, .int .i64 p.b, .int .i64 p.c] 22)).alloc (.cells #[.int .i64 q.a, .int .i64 q.b, .int .i64 q.c] 22)).alloc (.cells #[.int .i64 p.a, .int .i64 p.b, .int .i64 p.c] 22)) := by
  have n1 := Blk.new (w.alloc (.cells #[.int .i64 p.a, .int .i64 p.b, .int .i64 p.c] 22)) #[.int .i64 q.a, .int .i64 q.b, .int .i64 q.c] 22
  have n2 := Blk.new ((w.alloc (.cells #[.int .i64 p.a, .int .i64 p.b, .int .i64 p.c] 22)).alloc (.cells #[.int .i64 q.a, .int .i64 q.b, .int .i64 q.c] 22)) #[.int .i64 p.a, .int .i64 p.b, .int .i64 p.c] 22
  simp only [World.size_alloc] at n1 n2
  exact ⟨((Blk.new w _ _).alloc _).alloc _, n1.alloc _, n2, by go_grown⟩
theorem SumL.next {p q : Ctr.Tri} {w w2 w3 : World} {k : Nat} (h : SumL p q w k w2) (hb : Below w2.heap.size w2 w3) : SumL p q w (k + 1) (setW w3 (w.heap.size + 1 + 1) (Ctr.addT (Ctr.sumTo p q k) (k : Int) (q.el k))) :=
  ⟨(h.b0.below hb h.b0.lt).wholeOther (by omega) _, (h.b1.below hb h.b1.lt).wholeOther (by omega) _, (h.b2.below hb h.b2.lt).whole _, below_whole (h.hb.trans (hb.mono h.hb.size)) (by omega)⟩
theorem SumL.drew {p q : Ctr.Tri} {w w2 : World} {k : Nat} (h : SumL p q w k w2) : SumL p q w k w2.drew := ⟨h.b0.drew, h.b1.drew, h.b2.drew, h.hb.drew⟩
set_option maxHeartbeats 4000000 in
set_option maxRecDepth 100000 in
theorem lawSumAny (p q s : Ctr.Tri) (w : World) (hE : Env w) (hs : Ctr.sumTo p q 3 = s)
    (h1 : ∀ w, Calls Tryd.prog 18 #[.agg #[.int .i64 p.a, .int .i64 p.b, .int .i64 p.c], .agg #[.int .i64 q.a, .int .i64 q.b, .int .i64 q.c]] w fun e w' => e = .returned (.agg #[.int .i64 s.a, .int .i64 s.b, .int .i64 s.c]) ∧ Below w.heap.size w w')
    (h2 : ∀ w, Calls Tryd.prog 19 #[.agg #[.int .i64 p.a, .int .i64 p.b, .int .i64 p.c], .agg #[.int .i64 q.a, .int .i64 q.b, .int .i64 q.c]] w fun e w' => e = .returned (.agg #[.int .i64 s.a, .int .i64 s.b, .int .i64 s.c]) ∧ Below w.heap.size w w') :
    Calls Tryd.prog 5 #[.agg #[.int .i64 p.a, .int .i64 p.b, .int .i64 p.c], .agg #[.int .i64 q.a, .int .i64 q.b, .int .i64 q.c]] w fun e w' => e = .returned (.bool true) ∧ Below w.heap.size w w' := by
  have HST := Lib.hid (SumL.start p q w)
  have HE := Lib.hid hE
  have HS := Lib.hid hs
  have G1 := Lib.hid h1
  have G2 := Lib.hid h2
  have q1 : ∀ W : World, (Op.equalIn 10000 22 (.agg #[.int .i64 s.a, .int .i64 s.b, .int .i64 s.c]) (.agg #[.int .i64 s.a, .int .i64 s.b, .int .i64 s.c])).run Tryd.prog W = .ok true W := fun W => run_eq_same s W
  clear hE h1 h2 hs
  go_enter Tryd.func5, Tryd.ntmps5
  go_wp2
  go_loopw [6] (fun i wr => ∃ k : Nat, k ≤ 3 ∧ i = .int .i64 (k : Int) ∧ SumL p q w k wr) (fun i _ => 3 - (intOf i).toNat)
  case atStart => exact ⟨0, by omega, rfl, HST.out⟩
  case round =>
    clear HST
    obtain ⟨k, hk, rfl, hA⟩ := hrel
    have HA := Lib.hid hA
    by_cases hlt : k < 3
    · have c1 := hA.b1.tri k hlt
      have c2 := hA.b2.cell
      clear hA
      obtain ⟨r, HRR⟩ : ∃ r, Hid (Ctr.addT (Ctr.sumTo p q k) (k : Int) (q.el k) = r) := ⟨_, Lib.hid rfl⟩
      have HC := Lib.hid (fun w => counterAdd (Ctr.sumTo p q k) (k : Int) (q.el k) w)
      rw [HRR.out] at HC
      go_wp2_with fail
      refine wp_region_still_tail 5 (by kernel_rfl) (by kernel_rfl) ?_
      simp only [List.take_succ_cons, List.take_zero, List.drop_succ_cons, List.drop_zero]
      still_step
      still_step
      still_step
      still_step
      still_step
      refine wpStill_nil ?_
      change wpList _ _ _ _ _ wr.drew
      have HD := Lib.hid (SumL.drew HA.out)
      clear c1 c2 HA
      generalize wr.drew = w5 at HD
      go_wp2_with fail
      refine (HC.out _).mono ?_
      rintro e w2 ⟨rfl, hb2⟩
      have HN := Lib.hid (SumL.next HD.out hb2)
      rw [HRR.out] at HN
      have d2 := (HD.out.b2.below hb2 HD.out.b2.lt).cell
      have f2 := (HD.out.b2.below hb2 HD.out.b2.lt).free
      clear hb2 HD HC HRR
      go_wp2
      go_roundw
      case rel => exact ⟨k + 1, by omega, by go_num, HN.out⟩
      case measure => simp [intOf]; omega
    · obtain rfl : k = 3 := by omega
      have R : Hid (ThreeAt p q s w (w.heap.size + 1) (w.heap.size + 1 + 1) wr) := Lib.hid (by rw [← HS.out]; exact hA)
      clear hA HA
      obtain ⟨C, HC⟩ : ∃ C, Hid (C = wr.heap.size) := ⟨_, Lib.hid rfl⟩
      have hE0 := Lib.hid (fun (W : World) (hb : Below C wr W) => HE.out.below (R.out.below hb HC.out).hb)
      have hsz : C ≤ wr.heap.size := by rw [HC.out]; exact Nat.le_refl _
      go_wp2_with fail
      have c0 := R.out.cells
      generalize wr = w0 at *
      go_region_held3 (fun w' => (w'.cell? ⟨w.heap.size, 0, none⟩ = some (.int .i64 p.a) ∧ w'.cell? ⟨w.heap.size, 1, none⟩ = some (.int .i64 p.b) ∧ w'.cell? ⟨w.heap.size, 2, none⟩ = some (.int .i64 p.c)) ∧ (w'.cell? ⟨w.heap.size + 1, 0, none⟩ = some (.int .i64 q.a) ∧ w'.cell? ⟨w.heap.size + 1, 1, none⟩ = some (.int .i64 q.b) ∧ w'.cell? ⟨w.heap.size + 1, 2, none⟩ = some (.int .i64 q.c)) ∧ (w'.cell? ⟨w.heap.size + 1 + 1, 0, none⟩ = some (.int .i64 s.a) ∧ w'.cell? ⟨w.heap.size + 1 + 1, 1, none⟩ = some (.int .i64 s.b) ∧ w'.cell? ⟨w.heap.size + 1 + 1, 2, none⟩ = some (.int .i64 s.c)))
        (first | (with_reducible exact c0) | (with_reducible exact (R.out.below hb1 HC.out).cells) | (with_reducible exact (R.out.below (Below.drew hb1) HC.out).cells) | go_keep)
        (first
          | (go_at_call 9; refine (fromBase (C := C) (w0 := w0) ?_ hsz (counterAlive _ (hE0.out _ ?_))).mono ?_; (go_grown); (go_grown); rintro e w1 ⟨rfl, hb1⟩)
          | (go_at_call 18; refine (fromBase (C := C) (w0 := w0) ?_ hsz (G1.out _)).mono ?_; (go_grown); rintro e w1 ⟨rfl, hb1⟩)
          | (go_at_call 19; refine (fromBase (C := C) (w0 := w0) ?_ hsz (G2.out _)).mono ?_; (go_grown); rintro e w1 ⟨rfl, hb1⟩))
      go_wp2
      go_ret
      exact ⟨rfl, (R.out.below (C := C) (by go_grown) HC.out).hb⟩
theorem lawCounterSum (p q : Ctr.Tri) (w : World) (hE : Env w) :
    Calls Tryd.prog 5 #[.agg #[.int .i64 p.a, .int .i64 p.b, .int .i64 p.c], .agg #[.int .i64 q.a, .int .i64 q.b, .int .i64 q.c]] w fun e w' => e = .returned (.bool true) ∧ Below w.heap.size w w' :=
  lawSumAny p q _ w hE rfl (fun w => counterSum p q w) (fun w => refSum12 p q w)
end Go.Proofs.YtgljibplhiabgaaDoor
