/-
  CONTRACTS OF LAYER 12 (counter): Cancel, Power, of the program and of the reference. By an AI agent.
-/
import Derived.Test.YtgljibplhiabgaaDoorCtrWalksB
namespace Go.Proofs.YtgljibplhiabgaaDoor
open Go.RowKit Go.Lib

theorem Blk.three {w : World} {b : Nat} {p : Ctr.Tri} {t : TypeId} (h : Blk w b #[.int .i64 p.a, .int .i64 p.b, .int .i64 p.c] t) : w.cell? ⟨b, 0, none⟩ = some (.int .i64 p.a) ∧ w.cell? ⟨b, 1, none⟩ = some (.int .i64 p.b) ∧ w.cell? ⟨b, 2, none⟩ = some (.int .i64 p.c) :=
  ⟨h.cell 0, h.cell 1, h.cell 2⟩
/-- what a call with counters boxed and a result's room leaves: two blocks -/
structure CanAt (p : Ctr.Tri) (w : World) (wr : World) : Prop where
  b0 : Blk wr w.heap.size #[.int .i64 p.a, .int .i64 p.b, .int .i64 p.c] 22
  b1 : Blk wr (w.heap.size + 1) #[.int .i64 zeroT.a, .int .i64 zeroT.b, .int .i64 zeroT.c] 22
  hb : Below w.heap.size w wr
theorem CanAt.start (p : Ctr.Tri) (w : World) : CanAt p w ((w.alloc (.cells #[.int .i64 p.a, .int .i64 p.b, .int .i64 p.c] 22)).alloc (.cells #[.int .i64 zeroT.a, .int .i64 zeroT.b, .int .i64 zeroT.c] 22)) := by
  have n1 := Blk.new (w.alloc (.cells #[.int .i64 p.a, .int .i64 p.b, .int .i64 p.c] 22)) #[.int .i64 zeroT.a, .int .i64 zeroT.b, .int .i64 zeroT.c] 22
  simp only [World.size_alloc] at n1
  exact ⟨(Blk.new w _ _).alloc _, n1, by go_grown⟩
theorem CanAt.below {p : Ctr.Tri} {w w2 w3 : World} (h : CanAt p w w2) (hb : Below w2.heap.size w2 w3) : CanAt p w w3 :=
  ⟨h.b0.below hb h.b0.lt, h.b1.below hb h.b1.lt, h.hb.trans (hb.mono h.hb.size)⟩
theorem CanAt.setA {p : Ctr.Tri} {w w2 : World} (h : CanAt p w w2) (v : Int) : CanAt ⟨v, p.b, p.c⟩ w (w2.setCell ⟨w.heap.size, 0, none⟩ (.int .i64 v)) :=
  ⟨h.b0.setTri 0 (by decide) v, h.b1.other (by omega) _ _, h.hb.setCell (Nat.le_refl _) _⟩
theorem CanAt.setB {p : Ctr.Tri} {w w2 : World} (h : CanAt p w w2) (v : Int) : CanAt ⟨p.a, v, p.c⟩ w (w2.setCell ⟨w.heap.size, 1, none⟩ (.int .i64 v)) :=
  ⟨h.b0.setTri 1 (by decide) v, h.b1.other (by omega) _ _, h.hb.setCell (Nat.le_refl _) _⟩
theorem CanAt.out {p : Ctr.Tri} {w w2 : World} (h : CanAt p w w2) (q : Ctr.Tri) : Blk (setW w2 (w.heap.size + 1) q) (w.heap.size + 1) #[.int .i64 q.a, .int .i64 q.b, .int .i64 q.c] 22 ∧ Below w.heap.size w (setW w2 (w.heap.size + 1) q) :=
  ⟨h.b1.whole q, below_whole h.hb (by omega)⟩
theorem ret_can {p q : Ctr.Tri} {n m : Int} (h : p = q) (h' : n = m) : Ending.returned (.tuple #[.agg #[.int .i64 p.a, .int .i64 p.b, .int .i64 p.c], .int .i64 n]) = .returned (.tuple #[.agg #[.int .i64 q.a, .int .i64 q.b, .int .i64 q.c], .int .i64 m]) := by rw [h, h']
set_option maxHeartbeats 1000000 in
set_option maxRecDepth 100000 in
theorem counterCancel (p : Ctr.Tri) (w : World) :
    Calls Tryd.prog 20 #[.agg #[.int .i64 p.a, .int .i64 p.b, .int .i64 p.c]] w fun e w' => e = .returned (.tuple #[.agg #[.int .i64 (Ctr.cancelT p).a, .int .i64 (Ctr.cancelT p).b, .int .i64 (Ctr.cancelT p).c], .int .i64 (Ctr.pairsT p)]) ∧ Below w.heap.size w w' := by
  have HST := Lib.hid (CanAt.start p w)
  have G1 := Lib.hid (fun w => counterIs p w)
  cases ho : Ctr.okT p with
  | false =>
    have HP := Lib.hid (Ctr.pairs_bad ho)
    have HC := Lib.hid (Ctr.cancel_bad ho)
    rw [ho] at G1
    clear ho
    go_enter Tryd.func20, Tryd.ntmps20
    go_wp2_with fail
    refine (G1.out _).mono ?_
    rintro e w1 ⟨rfl, hb1⟩
    have HA := Lib.hid (HST.out.below hb1)
    clear hb1 HST G1
    have c0 := HA.out.b0.cell
    have c1 := HA.out.b1.cell
    have f1 := HA.out.b1.free
    go_wp2
    change bodyPost _ _ _ _ _ (setW w1 (w.heap.size + 1) p)
    have hB := (HA.out.out p).1.cell
    have HF := Lib.hid (HA.out.out p).2
    clear HA c0 c1 f1
    generalize setW w1 (w.heap.size + 1) p = wf at hB HF
    exact bodyPost_ret (v := .tuple #[.agg #[.int .i64 p.a, .int .i64 p.b, .int .i64 p.c], .int .i64 0]) (by simp [results, Tryd.results20, go_sem, hB]) rfl ⟨ret_can HC.out.symm HP.out.symm, HF.out⟩
  | true =>
    have HP := Lib.hid (Ctr.pairs_ok ho)
    have HC := Lib.hid (Ctr.cancel_ok ho)
    obtain ⟨⟨a0, a1⟩, ⟨b0, b1⟩, -⟩ := Ctr.okT_iff.1 ho
    have hm : Ctr.minN p = min p.a p.b := rfl
    rw [ho] at G1
    clear ho
    obtain ⟨m, HM⟩ : ∃ m, Hid (Ctr.minN p = m) := ⟨_, Lib.hid rfl⟩
    rw [HM.out] at hm HP HC
    rcases (show p.a ≤ p.b ∨ p.b < p.a by omega) with hle | hle
    · obtain rfl : m = p.a := by omega
      clear hm
      go_enter Tryd.func20, Tryd.ntmps20
      go_wp2_with fail
      refine (G1.out _).mono ?_
      rintro e w1 ⟨rfl, hb1⟩
      have HA := Lib.hid (HST.out.below hb1)
      clear hb1 HST G1
      have c0 := HA.out.b0.cell
      have f0 := HA.out.b0.free
      have c1 := HA.out.b1.cell
      have f1 := HA.out.b1.free
      go_wp2
      have HB := Lib.hid ((HA.out.setA (0)).setB (p.b - p.a))
      change bodyPost _ _ _ _ _ (setW ((w1.setCell ⟨w.heap.size, 0, none⟩ (.int .i64 (0))).setCell ⟨w.heap.size, 1, none⟩ (.int .i64 (p.b - p.a))) (w.heap.size + 1) ⟨0, p.b - p.a, p.c⟩)
      have hB := (HB.out.out ⟨0, p.b - p.a, p.c⟩).1.cell
      have HF := Lib.hid (HB.out.out ⟨0, p.b - p.a, p.c⟩).2
      clear HA HB c0 c1 f0 f1
      generalize setW ((w1.setCell ⟨w.heap.size, 0, none⟩ (.int .i64 (0))).setCell ⟨w.heap.size, 1, none⟩ (.int .i64 (p.b - p.a))) (w.heap.size + 1) ⟨0, p.b - p.a, p.c⟩ = wf at hB HF
      exact bodyPost_ret (v := .tuple #[.agg #[.int .i64 (0), .int .i64 (p.b - p.a), .int .i64 p.c], .int .i64 p.a]) (by simp [results, Tryd.results20, go_sem, hB]) rfl ⟨ret_can (p := ⟨0, p.b - p.a, p.c⟩) (by rw [HC.out]; simp) HP.out.symm, HF.out⟩
    · obtain rfl : m = p.b := by omega
      clear hm
      go_enter Tryd.func20, Tryd.ntmps20
      go_wp2_with fail
      refine (G1.out _).mono ?_
      rintro e w1 ⟨rfl, hb1⟩
      have HA := Lib.hid (HST.out.below hb1)
      clear hb1 HST G1
      have c0 := HA.out.b0.cell
      have f0 := HA.out.b0.free
      have c1 := HA.out.b1.cell
      have f1 := HA.out.b1.free
      go_wp2
      have HB := Lib.hid ((HA.out.setA (p.a - p.b)).setB (0))
      change bodyPost _ _ _ _ _ (setW ((w1.setCell ⟨w.heap.size, 0, none⟩ (.int .i64 (p.a - p.b))).setCell ⟨w.heap.size, 1, none⟩ (.int .i64 (0))) (w.heap.size + 1) ⟨p.a - p.b, 0, p.c⟩)
      have hB := (HB.out.out ⟨p.a - p.b, 0, p.c⟩).1.cell
      have HF := Lib.hid (HB.out.out ⟨p.a - p.b, 0, p.c⟩).2
      clear HA HB c0 c1 f0 f1
      generalize setW ((w1.setCell ⟨w.heap.size, 0, none⟩ (.int .i64 (p.a - p.b))).setCell ⟨w.heap.size, 1, none⟩ (.int .i64 (0))) (w.heap.size + 1) ⟨p.a - p.b, 0, p.c⟩ = wf at hB HF
      exact bodyPost_ret (v := .tuple #[.agg #[.int .i64 (p.a - p.b), .int .i64 (0), .int .i64 p.c], .int .i64 p.b]) (by simp [results, Tryd.results20, go_sem, hB]) rfl ⟨ret_can (p := ⟨p.a - p.b, 0, p.c⟩) (by rw [HC.out]; simp) HP.out.symm, HF.out⟩
set_option maxHeartbeats 1000000 in
set_option maxRecDepth 100000 in
theorem refCancel12 (p : Ctr.Tri) (w : World) :
    Calls Tryd.prog 21 #[.agg #[.int .i64 p.a, .int .i64 p.b, .int .i64 p.c]] w fun e w' => e = .returned (.tuple #[.agg #[.int .i64 (Ctr.cancelT p).a, .int .i64 (Ctr.cancelT p).b, .int .i64 (Ctr.cancelT p).c], .int .i64 (Ctr.pairsT p)]) ∧ Below w.heap.size w w' := by
  have HST := Lib.hid (CanAt.start p w)
  have G1 := Lib.hid (fun w => refIs12 p w)
  cases ho : Ctr.okT p with
  | false =>
    have HP := Lib.hid (Ctr.pairs_bad ho)
    have HC := Lib.hid (Ctr.cancel_bad ho)
    rw [ho] at G1
    clear ho
    go_enter Tryd.func21, Tryd.ntmps21
    go_wp2_with fail
    refine (G1.out _).mono ?_
    rintro e w1 ⟨rfl, hb1⟩
    have HA := Lib.hid (HST.out.below hb1)
    clear hb1 HST G1
    have c0 := HA.out.b0.cell
    have c1 := HA.out.b1.cell
    have f1 := HA.out.b1.free
    go_wp2
    change bodyPost _ _ _ _ _ (setW w1 (w.heap.size + 1) p)
    have hB := (HA.out.out p).1.cell
    have HF := Lib.hid (HA.out.out p).2
    clear HA c0 c1 f1
    generalize setW w1 (w.heap.size + 1) p = wf at hB HF
    exact bodyPost_ret (v := .tuple #[.agg #[.int .i64 p.a, .int .i64 p.b, .int .i64 p.c], .int .i64 0]) (by simp [results, Tryd.results21, go_sem, hB]) rfl ⟨ret_can HC.out.symm HP.out.symm, HF.out⟩
  | true =>
    have HP := Lib.hid (Ctr.pairs_ok ho)
    have HC := Lib.hid (Ctr.cancel_ok ho)
    obtain ⟨⟨a0, a1⟩, ⟨b0, b1⟩, -⟩ := Ctr.okT_iff.1 ho
    have hm : Ctr.minN p = min p.a p.b := rfl
    rw [ho] at G1
    clear ho
    obtain ⟨m, HM⟩ : ∃ m, Hid (Ctr.minN p = m) := ⟨_, Lib.hid rfl⟩
    rw [HM.out] at hm HP HC
    rcases (show p.a ≤ p.b ∨ p.b < p.a by omega) with hle | hle
    · obtain rfl : m = p.a := by omega
      clear hm
      go_enter Tryd.func21, Tryd.ntmps21
      go_wp2_with fail
      refine (G1.out _).mono ?_
      rintro e w1 ⟨rfl, hb1⟩
      have HA := Lib.hid (HST.out.below hb1)
      clear hb1 HST G1
      have c0 := HA.out.b0.cell
      have f0 := HA.out.b0.free
      have c1 := HA.out.b1.cell
      have f1 := HA.out.b1.free
      go_wp2
      have HB := Lib.hid ((HA.out.setA (0)).setB (p.b - p.a))
      change bodyPost _ _ _ _ _ (setW ((w1.setCell ⟨w.heap.size, 0, none⟩ (.int .i64 (0))).setCell ⟨w.heap.size, 1, none⟩ (.int .i64 (p.b - p.a))) (w.heap.size + 1) ⟨0, p.b - p.a, p.c⟩)
      have hB := (HB.out.out ⟨0, p.b - p.a, p.c⟩).1.cell
      have HF := Lib.hid (HB.out.out ⟨0, p.b - p.a, p.c⟩).2
      clear HA HB c0 c1 f0 f1
      generalize setW ((w1.setCell ⟨w.heap.size, 0, none⟩ (.int .i64 (0))).setCell ⟨w.heap.size, 1, none⟩ (.int .i64 (p.b - p.a))) (w.heap.size + 1) ⟨0, p.b - p.a, p.c⟩ = wf at hB HF
      exact bodyPost_ret (v := .tuple #[.agg #[.int .i64 (0), .int .i64 (p.b - p.a), .int .i64 p.c], .int .i64 p.a]) (by simp [results, Tryd.results21, go_sem, hB]) rfl ⟨ret_can (p := ⟨0, p.b - p.a, p.c⟩) (by rw [HC.out]; simp) HP.out.symm, HF.out⟩
    · obtain rfl : m = p.b := by omega
      clear hm
      go_enter Tryd.func21, Tryd.ntmps21
      go_wp2_with fail
      refine (G1.out _).mono ?_
      rintro e w1 ⟨rfl, hb1⟩
      have HA := Lib.hid (HST.out.below hb1)
      clear hb1 HST G1
      have c0 := HA.out.b0.cell
      have f0 := HA.out.b0.free
      have c1 := HA.out.b1.cell
      have f1 := HA.out.b1.free
      go_wp2
      have HB := Lib.hid ((HA.out.setA (p.a - p.b)).setB (0))
      change bodyPost _ _ _ _ _ (setW ((w1.setCell ⟨w.heap.size, 0, none⟩ (.int .i64 (p.a - p.b))).setCell ⟨w.heap.size, 1, none⟩ (.int .i64 (0))) (w.heap.size + 1) ⟨p.a - p.b, 0, p.c⟩)
      have hB := (HB.out.out ⟨p.a - p.b, 0, p.c⟩).1.cell
      have HF := Lib.hid (HB.out.out ⟨p.a - p.b, 0, p.c⟩).2
      clear HA HB c0 c1 f0 f1
      generalize setW ((w1.setCell ⟨w.heap.size, 0, none⟩ (.int .i64 (p.a - p.b))).setCell ⟨w.heap.size, 1, none⟩ (.int .i64 (0))) (w.heap.size + 1) ⟨p.a - p.b, 0, p.c⟩ = wf at hB HF
      exact bodyPost_ret (v := .tuple #[.agg #[.int .i64 (p.a - p.b), .int .i64 (0), .int .i64 p.c], .int .i64 p.b]) (by simp [results, Tryd.results21, go_sem, hB]) rfl ⟨ret_can (p := ⟨p.a - p.b, 0, p.c⟩) (by rw [HC.out]; simp) HP.out.symm, HF.out⟩
set_option maxRecDepth 100000 in
theorem counterPower (p : Ctr.Tri) (w : World) :
    Calls Tryd.prog 22 #[.agg #[.int .i64 p.a, .int .i64 p.b, .int .i64 p.c]] w fun e w' => e = .returned (.int .i64 (Ctr.powT p)) ∧ Below w.heap.size w w' := by
  have HP : Hid (Num.clampI (Num.clampI p.a - Num.clampI p.b) = Ctr.powT p) := Lib.hid rfl
  go_enter Tryd.func22, Tryd.ntmps22
  go_wp2_with fail
  refine (numSub _ _ _).mono ?_
  rintro e w1 ⟨rfl, rfl⟩
  go_wp2
  go_ret
  exact ⟨ret_int HP.out, by go_grown⟩
set_option maxRecDepth 100000 in
theorem refPower12 (p : Ctr.Tri) (w : World) :
    Calls Tryd.prog 23 #[.agg #[.int .i64 p.a, .int .i64 p.b, .int .i64 p.c]] w fun e w' => e = .returned (.int .i64 (Ctr.powT p)) ∧ Below w.heap.size w w' := by
  have HP : Hid (Num.clampI (Num.clampI p.a - Num.clampI p.b) = Ctr.powT p) := Lib.hid rfl
  go_enter Tryd.func23, Tryd.ntmps23
  go_wp2_with fail
  refine (refSub _ _ _).mono ?_
  rintro e w1 ⟨rfl, rfl⟩
  go_wp2
  go_ret
  exact ⟨ret_int HP.out, by go_grown⟩
end Go.Proofs.YtgljibplhiabgaaDoor
