/-
  CONTRACTS OF LAYER 12 (counter): Sum, of the program and of the reference. By an AI agent.
-/
import Derived.Test.YtgljibplhiabgaaDoorCtrWalks
namespace Go.Proofs.YtgljibplhiabgaaDoor
open Go.RowKit Go.Lib

/-- counters stored whole, as the walk leaves it -/
def setW (w : World) (b : Nat) (q : Ctr.Tri) : World := ((w.setCell ⟨b, 0, none⟩ (.int .i64 q.a)).setCell ⟨b, 1, none⟩ (.int .i64 q.b)).setCell ⟨b, 2, none⟩ (.int .i64 q.c)
theorem Blk.whole {w : World} {b : Nat} {p : Ctr.Tri} {t : TypeId} (h : Blk w b #[.int .i64 p.a, .int .i64 p.b, .int .i64 p.c] t) (q : Ctr.Tri) : Blk (setW w b q) b #[.int .i64 q.a, .int .i64 q.b, .int .i64 q.c] t := by
  have h0 := h.setTri 0 (by decide) q.a
  have h1 := h0.setTri 1 (by decide) q.b
  exact h1.setTri 2 (by decide) q.c
theorem Blk.wholeOther {w : World} {b : Nat} {cs : Array Value} {t : TypeId} (h : Blk w b cs t) {g : Nat} (hg : b ≠ g) (q : Ctr.Tri) : Blk (setW w g q) b cs t :=
  ((h.other hg 0 _).other hg 1 _).other hg 2 _
theorem below_whole {w : World} {b C : Nat} {q : Ctr.Tri} {w0 : World} (h : Below C w0 w) (hC : C ≤ b) : Below C w0 (setW w b q) :=
  ((h.setCell (by exact hC) _).setCell (by exact hC) _).setCell (by exact hC) _
def zeroT : Ctr.Tri := ⟨0, 0, 0⟩
/-- the sum under way: three blocks -/
structure SumAt (p q : Ctr.Tri) (w : World) (k : Nat) (wr : World) : Prop where
  b0 : Blk wr w.heap.size #[.int .i64 (Ctr.sumTo p q k).a, .int .i64 (Ctr.sumTo p q k).b, .int .i64 (Ctr.sumTo p q k).c] 22
  b1 : Blk wr (w.heap.size + 1) #[.int .i64 q.a, .int .i64 q.b, .int .i64 q.c] 22
  b2 : Blk wr (w.heap.size + 1 + 1) #[.int .i64 zeroT.a, .int .i64 zeroT.b, .int .i64 zeroT.c] 22
  hb : Below w.heap.size w wr
theorem SumAt.start (p q : Ctr.Tri) (w : World) : SumAt p q w 0 (((w.alloc (.cells #[.int .i64 p.a, .int .i64 p.b, .int .i64 p.c] 22)).alloc (.cells #[.int .i64 q.a, .int .i64 q.b, .int .i64 q.c] 22)).alloc (.cells #[.int .i64 zeroT.a, .int .i64 zeroT.b, .int .i64 zeroT.c] 22)) := by
  have n1 := Blk.new (w.alloc (.cells #[.int .i64 p.a, .int .i64 p.b, .int .i64 p.c] 22)) #[.int .i64 q.a, .int .i64 q.b, .int .i64 q.c] 22
  have n2 := Blk.new ((w.alloc (.cells #[.int .i64 p.a, .int .i64 p.b, .int .i64 p.c] 22)).alloc (.cells #[.int .i64 q.a, .int .i64 q.b, .int .i64 q.c] 22)) #[.int .i64 zeroT.a, .int .i64 zeroT.b, .int .i64 zeroT.c] 22
  simp only [World.size_alloc] at n1 n2
  exact ⟨((Blk.new w _ _).alloc _).alloc _, n1.alloc _, n2, by go_grown⟩
theorem SumAt.next {p q : Ctr.Tri} {w w2 w3 : World} {k : Nat} (h : SumAt p q w k w2) (hb : Below w2.heap.size w2 w3) : SumAt p q w (k + 1) (setW w3 w.heap.size (Ctr.addT (Ctr.sumTo p q k) (k : Int) (q.el k))) :=
  ⟨(h.b0.below hb h.b0.lt).whole _, (h.b1.below hb h.b1.lt).wholeOther (by omega) _, (h.b2.below hb h.b2.lt).wholeOther (by omega) _, below_whole (h.hb.trans (hb.mono h.hb.size)) (Nat.le_refl _)⟩
theorem SumAt.drew {p q : Ctr.Tri} {w w2 : World} {k : Nat} (h : SumAt p q w k w2) : SumAt p q w k w2.drew := ⟨h.b0.drew, h.b1.drew, h.b2.drew, h.hb.drew⟩
set_option maxHeartbeats 1000000 in
set_option maxRecDepth 100000 in
theorem counterSum (p q : Ctr.Tri) (w : World) :
    Calls Tryd.prog 18 #[.agg #[.int .i64 p.a, .int .i64 p.b, .int .i64 p.c], .agg #[.int .i64 q.a, .int .i64 q.b, .int .i64 q.c]] w fun e w' => e = .returned (.agg #[.int .i64 (Ctr.sumT p q).a, .int .i64 (Ctr.sumT p q).b, .int .i64 (Ctr.sumT p q).c]) ∧ Below w.heap.size w w' := by
  have HST := Lib.hid (SumAt.start p q w)
  go_enter Tryd.func18, Tryd.ntmps18
  go_wp2
  go_loopw [8] (fun i wr => ∃ k : Nat, k ≤ 3 ∧ i = .int .i64 (k : Int) ∧ SumAt p q w k wr) (fun i _ => 3 - (intOf i).toNat)
  case atStart => exact ⟨0, by omega, rfl, HST.out⟩
  case round =>
    clear HST
    obtain ⟨k, hk, rfl, hA⟩ := hrel
    have HA := Lib.hid hA
    by_cases hlt : k < 3
    · have hi := index3 q k hlt
      have c0 := hA.b0.cell
      clear hA
      obtain ⟨r, HRR⟩ : ∃ r, Hid (Ctr.addT (Ctr.sumTo p q k) (k : Int) (q.el k) = r) := ⟨_, Lib.hid rfl⟩
      have HC := Lib.hid (fun w => counterAdd (Ctr.sumTo p q k) (k : Int) (q.el k) w)
      rw [HRR.out] at HC
      go_wp2_with fail
      refine (HC.out _).mono ?_
      rintro e w2 ⟨rfl, hb2⟩
      have HN := Lib.hid (HA.out.next hb2)
      rw [HRR.out] at HN
      have d0 := (HA.out.b0.below hb2 HA.out.b0.lt).cell
      have f0 := (HA.out.b0.below hb2 HA.out.b0.lt).free
      clear hb2 HA c0 HC HRR
      go_wp2
      go_roundw
      case rel => exact ⟨k + 1, by omega, by go_num, HN.out⟩
      case measure => simp [intOf]; omega
    · obtain rfl : k = 3 := by omega
      have c0 := hA.b0.cell
      have c2 := hA.b2.cell
      have f2 := hA.b2.free
      clear hA
      obtain ⟨r, HRR⟩ : ∃ r, Hid (Ctr.sumT p q = r) := ⟨_, Lib.hid rfl⟩
      rw [show Ctr.sumTo p q 3 = r from HRR.out] at c0
      go_wp2
      change bodyPost _ _ _ _ _ (setW wr (w.heap.size + 1 + 1) r)
      have hB := (HA.out.b2.whole r).cell
      have HF := Lib.hid (below_whole (q := r) (b := w.heap.size + 1 + 1) HA.out.hb (by omega))
      clear HA c2 f2 c0
      generalize setW wr (w.heap.size + 1 + 1) r = wf at hB HF
      exact bodyPost_ret (v := .agg #[.int .i64 r.a, .int .i64 r.b, .int .i64 r.c]) (by simp [results, Tryd.results18, go_sem, hB]) rfl ⟨ret_tri HRR.out.symm, HF.out⟩
set_option maxHeartbeats 1000000 in
set_option maxRecDepth 100000 in
theorem refSum12 (p q : Ctr.Tri) (w : World) :
    Calls Tryd.prog 19 #[.agg #[.int .i64 p.a, .int .i64 p.b, .int .i64 p.c], .agg #[.int .i64 q.a, .int .i64 q.b, .int .i64 q.c]] w fun e w' => e = .returned (.agg #[.int .i64 (Ctr.sumT p q).a, .int .i64 (Ctr.sumT p q).b, .int .i64 (Ctr.sumT p q).c]) ∧ Below w.heap.size w w' := by
  have HST := Lib.hid (SumAt.start p q w)
  go_enter Tryd.func19, Tryd.ntmps19
  go_wp2
  go_loopw [5] (fun i wr => ∃ k : Nat, k ≤ 3 ∧ i = .int .i64 (k : Int) ∧ SumAt p q w k wr) (fun i _ => 3 - (intOf i).toNat)
  case atStart => exact ⟨0, by omega, rfl, HST.out⟩
  case round =>
    clear HST
    obtain ⟨k, hk, rfl, hA⟩ := hrel
    have HA := Lib.hid hA
    by_cases hlt : k < 3
    · have c1 := hA.b1.tri k hlt
      have c0 := hA.b0.cell
      clear hA
      obtain ⟨r, HRR⟩ : ∃ r, Hid (Ctr.addT (Ctr.sumTo p q k) (k : Int) (q.el k) = r) := ⟨_, Lib.hid rfl⟩
      have HC := Lib.hid (fun w => refAdd12 (Ctr.sumTo p q k) (k : Int) (q.el k) w)
      rw [HRR.out] at HC
      go_wp2_with fail
      refine wp_region_still_tail 5 (by kernel_rfl) (by kernel_rfl) ?_
      simp only [List.take_succ_cons, List.take_zero, List.drop_succ_cons, List.drop_zero]
      still_step
      still_step
      still_step
      still_step
      still_step
      refine wpStill_nil ?_
      change wpList _ _ _ _ _ wr.drew
      have HD := Lib.hid HA.out.drew
      clear c0 c1 HA
      generalize wr.drew = w5 at HD
      go_wp2_with fail
      refine (HC.out _).mono ?_
      rintro e w2 ⟨rfl, hb2⟩
      have HN := Lib.hid (HD.out.next hb2)
      rw [HRR.out] at HN
      have d0 := (HD.out.b0.below hb2 HD.out.b0.lt).cell
      have f0 := (HD.out.b0.below hb2 HD.out.b0.lt).free
      clear hb2 HD HC HRR
      go_wp2
      go_roundw
      case rel => exact ⟨k + 1, by omega, by go_num, HN.out⟩
      case measure => simp [intOf]; omega
    · obtain rfl : k = 3 := by omega
      have c0 := hA.b0.cell
      have c2 := hA.b2.cell
      have f2 := hA.b2.free
      clear hA
      obtain ⟨r, HRR⟩ : ∃ r, Hid (Ctr.sumT p q = r) := ⟨_, Lib.hid rfl⟩
      rw [show Ctr.sumTo p q 3 = r from HRR.out] at c0
      go_wp2
      change bodyPost _ _ _ _ _ (setW wr (w.heap.size + 1 + 1) r)
      have hB := (HA.out.b2.whole r).cell
      have HF := Lib.hid (below_whole (q := r) (b := w.heap.size + 1 + 1) HA.out.hb (by omega))
      clear HA c2 f2 c0
      generalize setW wr (w.heap.size + 1 + 1) r = wf at hB HF
      exact bodyPost_ret (v := .agg #[.int .i64 r.a, .int .i64 r.b, .int .i64 r.c]) (by simp [results, Tryd.results19, go_sem, hB]) rfl ⟨ret_tri HRR.out.symm, HF.out⟩
end Go.Proofs.YtgljibplhiabgaaDoor
