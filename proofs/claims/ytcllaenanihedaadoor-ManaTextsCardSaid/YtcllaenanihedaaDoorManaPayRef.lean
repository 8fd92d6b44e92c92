/-
  CONTRACTS OF LAYER 8 (mana): Pay of the reference. By an AI agent.
-/
import Derived.Test.YtcllaenanihedaaDoorManaPay
import Derived.StillTailTactics
import Derived.IntWalk
namespace Go.Proofs.YtcllaenanihedaaDoor
open Go.RowKit

theorem SubAt.drew {p : Mana.Pl} {c : Mana.Cst} {w w2 : World} {m k : Nat} (h : SubAt p c w m k w2) : SubAt p c w m k w2.drew := ⟨h.b1.drew, h.b2.drew, h.b3.drew, h.hm, h.hb.drew⟩
theorem bad_col {p : Mana.Pl} {c : Mana.Cst} {x : Int} {k : Nat} (hk : k < 5) (h : p.el (k + 1) < c.col k) : ¬ Mana.good p c x := fun g => by
  have := g.1 k hk
  omega
theorem fits_step {p : Mana.Pl} {c : Mana.Cst} {k : Nat} (h : Mana.fitsTo p c k) (hk : c.col k ≤ p.el (k + 1)) : Mana.fitsTo p c (k + 1) := fun j hj => by
  rcases Nat.lt_or_ge j k with e | e
  · exact h j e
  · obtain rfl : j = k := by omega
    exact hk
set_option maxHeartbeats 2000000 in
set_option maxRecDepth 100000 in
theorem refPay8 (p : Mana.Pl) (c : Mana.Cst) (x : Int) (w : World) :
    Calls Tryd.prog 29 #[.agg #[.int .i64 p.p0, .int .i64 p.p1, .int .i64 p.p2, .int .i64 p.p3, .int .i64 p.p4, .int .i64 p.p5], .agg #[.int .i64 c.g, .int .i64 c.x, .int .i64 c.c0, .int .i64 c.c1, .int .i64 c.c2, .int .i64 c.c3, .int .i64 c.c4], .int .i64 x] w fun e w' => e = .returned (.tuple #[.agg #[.int .i64 (Mana.payP p c x).p0, .int .i64 (Mana.payP p c x).p1, .int .i64 (Mana.payP p c x).p2, .int .i64 (Mana.payP p c x).p3, .int .i64 (Mana.payP p c x).p4, .int .i64 (Mana.payP p c x).p5], .int .i64 (Mana.payE p c x)]) ∧ Below w.heap.size w w' := by
  have N0 := Lib.hid (((Blk.new w #[.int .i64 p.p0, .int .i64 p.p1, .int .i64 p.p2, .int .i64 p.p3, .int .i64 p.p4, .int .i64 p.p5] 35).alloc (.cells #[.int .i64 c.g, .int .i64 c.x, .int .i64 c.c0, .int .i64 c.c1, .int .i64 c.c2, .int .i64 c.c3, .int .i64 c.c4] 24)).alloc (.cells #[.int .i64 0, .int .i64 0, .int .i64 0, .int .i64 0, .int .i64 0, .int .i64 0] 35))
  have N1 := Lib.hid (boxTwo w #[.int .i64 p.p0, .int .i64 p.p1, .int .i64 p.p2, .int .i64 p.p3, .int .i64 p.p4, .int .i64 p.p5] 35 #[.int .i64 c.g, .int .i64 c.x, .int .i64 c.c0, .int .i64 c.c1, .int .i64 c.c2, .int .i64 c.c3, .int .i64 c.c4] 24 (.cells #[.int .i64 0, .int .i64 0, .int .i64 0, .int .i64 0, .int .i64 0, .int .i64 0] 35))
  have N2 := Lib.hid (boxThree w (.cells #[.int .i64 p.p0, .int .i64 p.p1, .int .i64 p.p2, .int .i64 p.p3, .int .i64 p.p4, .int .i64 p.p5] 35) (.cells #[.int .i64 c.g, .int .i64 c.x, .int .i64 c.c0, .int .i64 c.c1, .int .i64 c.c2, .int .i64 c.c3, .int .i64 c.c4] 24) #[.int .i64 0, .int .i64 0, .int .i64 0, .int .i64 0, .int .i64 0, .int .i64 0] 35)
  have NB : Hid (Below w.heap.size w (((w.alloc (.cells #[.int .i64 p.p0, .int .i64 p.p1, .int .i64 p.p2, .int .i64 p.p3, .int .i64 p.p4, .int .i64 p.p5] 35)).alloc (.cells #[.int .i64 c.g, .int .i64 c.x, .int .i64 c.c0, .int .i64 c.c1, .int .i64 c.c2, .int .i64 c.c3, .int .i64 c.c4] 24)).alloc (.cells #[.int .i64 0, .int .i64 0, .int .i64 0, .int .i64 0, .int .i64 0, .int .i64 0] 35))) := Lib.hid (by go_grown)
  cases hc : Mana.okC c with
  | false =>
    have HR := Lib.hid (Mana.pay_arg (arg_c (p := p) x hc))
    have HC := Lib.hid hc
    rw [HR.out.1, HR.out.2]
    clear hc
    go_enter Tryd.func29, Tryd.ntmps29
    go_wp2_with fail
    refine (refIs8 c _).mono ?_
    rintro e w1 ⟨rfl, hb1⟩
    rw [HC.out]
    have A0 := Lib.hid (N0.out.below hb1 N0.out.lt)
    have A1 := Lib.hid (N1.out.below hb1 N1.out.lt)
    have A2 := Lib.hid (N2.out.below hb1 N2.out.lt)
    have AB := Lib.hid (NB.out.trans (hb1.mono NB.out.size))
    clear hb1 N0 N1 N2 NB
    have c2 := A2.out.cell
    have f2 := A2.out.free
    go_wp2
    change bodyPost _ _ _ _ _ (set6 w1 (w.heap.size + 1 + 1) Mana.zeroP)
    have hB := (Blk.six (p := Mana.zeroP) A2.out Mana.zeroP).cell
    have HF := Lib.hid (below_six (q := Mana.zeroP) (b := w.heap.size + 1 + 1) AB.out (by omega))
    generalize set6 w1 (w.heap.size + 1 + 1) Mana.zeroP = wf at hB HF
    exact bodyPost_ret (v := .tuple #[.agg #[.int .i64 Mana.zeroP.p0, .int .i64 Mana.zeroP.p1, .int .i64 Mana.zeroP.p2, .int .i64 Mana.zeroP.p3, .int .i64 Mana.zeroP.p4, .int .i64 Mana.zeroP.p5], .int .i64 1]) (by simp [results, Tryd.results29, go_sem, hB]) rfl ⟨rfl, HF.out⟩
  | true =>
    have HC := Lib.hid hc
    cases hp : Mana.wholeB p with
    | false =>
      have HR := Lib.hid (Mana.pay_arg (arg_p (c := c) x hp))
      have HW := Lib.hid hp
      rw [HR.out.1, HR.out.2]
      clear hc hp
      go_enter Tryd.func29, Tryd.ntmps29
      go_wp2_with fail
      refine (refIs8 c _).mono ?_
      rintro e w1 ⟨rfl, hb1⟩
      rw [HC.out]
      have A0 := Lib.hid (N0.out.below hb1 N0.out.lt)
      have A1 := Lib.hid (N1.out.below hb1 N1.out.lt)
      have A2 := Lib.hid (N2.out.below hb1 N2.out.lt)
      have AB := Lib.hid (NB.out.trans (hb1.mono NB.out.size))
      clear hb1 N0 N1 N2 NB
      have c0 := A0.out.cell
      go_wp2_with fail
      refine (refWhole8 p _).mono ?_
      rintro e w2 ⟨rfl, hb2⟩
      rw [HW.out]
      have B0 := Lib.hid (A0.out.below hb2 A0.out.lt)
      have B1 := Lib.hid (A1.out.below hb2 A1.out.lt)
      have B2 := Lib.hid (A2.out.below hb2 A2.out.lt)
      have BB := Lib.hid (AB.out.trans (hb2.mono AB.out.size))
      clear hb2 A0 A1 A2 AB c0
      have c2 := B2.out.cell
      have f2 := B2.out.free
      go_wp2
      change bodyPost _ _ _ _ _ (set6 w2 (w.heap.size + 1 + 1) Mana.zeroP)
      have hB := (Blk.six (p := Mana.zeroP) B2.out Mana.zeroP).cell
      have HF := Lib.hid (below_six (q := Mana.zeroP) (b := w.heap.size + 1 + 1) BB.out (by omega))
      generalize set6 w2 (w.heap.size + 1 + 1) Mana.zeroP = wf at hB HF
      exact bodyPost_ret (v := .tuple #[.agg #[.int .i64 Mana.zeroP.p0, .int .i64 Mana.zeroP.p1, .int .i64 Mana.zeroP.p2, .int .i64 Mana.zeroP.p3, .int .i64 Mana.zeroP.p4, .int .i64 Mana.zeroP.p5], .int .i64 1]) (by simp [results, Tryd.results29, go_sem, hB]) rfl ⟨rfl, HF.out⟩
    | true =>
      have HW := Lib.hid hp
      cases hx : Mana.inB x 1000000 with
      | false =>
        have HR := Lib.hid (Mana.pay_arg (arg_x (p := p) (c := c) hx))
        have HX := Lib.hid hx
        rw [HR.out.1, HR.out.2]
        clear hc hp
        rcases Mana.inB_no hx with hxx | hxx
        all_goals
          go_enter Tryd.func29, Tryd.ntmps29
          go_wp2_with fail
          refine (refIs8 c _).mono ?_
          rintro e w1 ⟨rfl, hb1⟩
          rw [HC.out]
          have A0 := Lib.hid (N0.out.below hb1 N0.out.lt)
          have A1 := Lib.hid (N1.out.below hb1 N1.out.lt)
          have A2 := Lib.hid (N2.out.below hb1 N2.out.lt)
          have AB := Lib.hid (NB.out.trans (hb1.mono NB.out.size))
          clear hb1 N0 N1 N2 NB
          have c0 := A0.out.cell
          go_wp2_with fail
          refine (refWhole8 p _).mono ?_
          rintro e w2 ⟨rfl, hb2⟩
          rw [HW.out]
          have B0 := Lib.hid (A0.out.below hb2 A0.out.lt)
          have B1 := Lib.hid (A1.out.below hb2 A1.out.lt)
          have B2 := Lib.hid (A2.out.below hb2 A2.out.lt)
          have BB := Lib.hid (AB.out.trans (hb2.mono AB.out.size))
          clear hb2 A0 A1 A2 AB c0
          have c2 := B2.out.cell
          have f2 := B2.out.free
          go_wp2
          change bodyPost _ _ _ _ _ (set6 w2 (w.heap.size + 1 + 1) Mana.zeroP)
          have hB := (Blk.six (p := Mana.zeroP) B2.out Mana.zeroP).cell
          have HF := Lib.hid (below_six (q := Mana.zeroP) (b := w.heap.size + 1 + 1) BB.out (by omega))
          generalize set6 w2 (w.heap.size + 1 + 1) Mana.zeroP = wf at hB HF
          exact bodyPost_ret (v := .tuple #[.agg #[.int .i64 Mana.zeroP.p0, .int .i64 Mana.zeroP.p1, .int .i64 Mana.zeroP.p2, .int .i64 Mana.zeroP.p3, .int .i64 Mana.zeroP.p4, .int .i64 Mana.zeroP.p5], .int .i64 1]) (by simp [results, Tryd.results29, go_sem, hB]) rfl ⟨rfl, HF.out⟩
      | true =>
        have HX := Lib.hid hx
        have HA := Lib.hid (arg_yes hc hp hx)
        obtain ⟨m0, m1⟩ := Mana.due_bd hc hx
        obtain ⟨⟨g0, g1⟩, ⟨x0, x1⟩, -⟩ := Mana.okC_iff.1 hc
        obtain ⟨y0, y1⟩ := Mana.inB_yes hx
        have HP := Lib.hid (Mana.whole_iff.1 hp)
        have HK := Lib.hid (Mana.okC_col hc)
        have HRB := Lib.hid (Mana.rest_bd hp hc)
        have HBN := Lib.hid (fun k hk hn => Mana.bad_of_neg (p := p) (c := c) (x := x) hp (k := k) hk hn)
        clear hc hp hx
        go_enter Tryd.func29, Tryd.ntmps29
        go_wp2_with fail
        refine (refIs8 c _).mono ?_
        rintro e w1 ⟨rfl, hb1⟩
        rw [HC.out]
        have A0 := Lib.hid (N0.out.below hb1 N0.out.lt)
        have A1 := Lib.hid (N1.out.below hb1 N1.out.lt)
        have A2 := Lib.hid (N2.out.below hb1 N2.out.lt)
        have AB := Lib.hid (NB.out.trans (hb1.mono NB.out.size))
        clear hb1 N0 N1 N2 NB
        have c0 := A0.out.cell
        go_wp2_with fail
        refine (refWhole8 p _).mono ?_
        rintro e w2 ⟨rfl, hb2⟩
        rw [HW.out]
        have B0 := Lib.hid (A0.out.below hb2 A0.out.lt)
        have B1 := Lib.hid (A1.out.below hb2 A1.out.lt)
        have B2 := Lib.hid (A2.out.below hb2 A2.out.lt)
        have BB := Lib.hid (AB.out.trans (hb2.mono AB.out.size))
        clear hb2 A0 A1 A2 AB c0
        have c0 := B0.out.cell
        have c1 := (B1.out.alloc (.cells #[.int .i64 p.p0, .int .i64 p.p1, .int .i64 p.p2, .int .i64 p.p3, .int .i64 p.p4, .int .i64 p.p5] 35)).cell
        have HST : Hid (SubAt p c w w2.heap.size 0 (w2.alloc (.cells #[.int .i64 p.p0, .int .i64 p.p1, .int .i64 p.p2, .int .i64 p.p3, .int .i64 p.p4, .int .i64 p.p5] 35))) := Lib.hid ⟨B1.out.alloc _, B2.out.alloc _, Blk.new _ _ _, B2.out.lt, BB.out.alloc BB.out.size _⟩
        have HP0 := Lib.hid (HP.out 0 (by omega))
        have HZ : Hid (p.p0 = Mana.sumTo (Mana.restP p c) 1) := Lib.hid (by show _ = 0 + (Mana.restP p c).el 0; rw [Mana.rest_zero, Int.zero_add]; rfl)
        go_wp2_with fail
        go_loopw [9, 10] (fun t i wr => ∃ (k : Nat) (s : Int), k ≤ 5 ∧ i = .int .i64 (k : Int) ∧ t = .int .i64 s ∧ 0 ≤ s ∧ s ≤ 1000000 * ((k : Int) + 1) ∧ Hid (s = Mana.sumTo (Mana.restP p c) (k + 1)) ∧ Mana.fitsTo p c k ∧ SubAt p c w w2.heap.size k wr) (fun _ i _ => 5 - (intOf i).toNat)
        case atStart => exact ⟨0, p.p0, by omega, rfl, rfl, HP0.out.1, by have := HP0.out.2; show p.el 0 ≤ _; omega, HZ, fun j hj => absurd hj (by omega), HST.out⟩
        case round =>
          clear HST c0 c1 HZ
          obtain ⟨k, s, hk, rfl, rfl, s0, s1, HSUM, hfit, hS⟩ := hrel
          have HS := Lib.hid hS
          have HFIT := Lib.hid hfit
          clear hfit
          by_cases hlt : k < 5
          · have HEL := Lib.hid (Mana.subTo_high p c k (k + 1) (by omega))
            obtain ⟨p0, p1⟩ := HP.out (k + 1) (by omega)
            obtain ⟨k0, k1⟩ := HK.out k
            have c1 := hS.b1.cost k hlt
            have c3 := hS.b3.pool (k + 1) (by omega)
            rw [HEL.out] at c3
            have f3 := hS.b3.free (k + 1)
            clear hS
            have e1 : IntKind.i64.wrap ((k : Int) + 1) = (k : Int) + 1 := IntWalk.i64_in _ (by omega)
            have e2 : ((k : Int) + 1).toNat = k + 1 := by omega
            have e3 : 0 ≤ (k : Int) + 1 := by omega
            have e4 : (k : Int) + 1 < 6 := by omega
            by_cases hbig : p.el (k + 1) < c.col k
            · have HR := Lib.hid (Mana.pay_bad HA.out (bad_col (x := x) hlt hbig))
              go_wp2_with fail
              refine wp_region_still_tail 8 (by kernel_rfl) (by kernel_rfl) ?_
              simp only [List.take_succ_cons, List.take_zero, List.drop_succ_cons, List.drop_zero]
              still_step
              still_step
              still_step
              still_step
              still_step
              still_step
              still_step
              still_step
              refine wpStill_nil ?_
              change wpList _ _ _ _ _ wr.drew
              have HS5 := Lib.hid (HS.out.drew)
              clear c1 c3 f3 HS
              generalize wr.drew = w5 at HS5
              have B2' := Lib.hid HS5.out.b2
              have BB' := Lib.hid HS5.out.hb
              have c2 := HS5.out.b2.cell
              have f2 := HS5.out.b2.free
              go_wp2
              rw [HR.out.1, HR.out.2]
              change bodyPost _ _ _ _ _ (set6 w5 (w.heap.size + 1 + 1) Mana.zeroP)
              have hB := (Blk.six (p := Mana.zeroP) B2'.out Mana.zeroP).cell
              have HF := Lib.hid (below_six (q := Mana.zeroP) (b := w.heap.size + 1 + 1) BB'.out (by omega))
              generalize set6 w5 (w.heap.size + 1 + 1) Mana.zeroP = wf at hB HF
              exact bodyPost_ret (v := .tuple #[.agg #[.int .i64 Mana.zeroP.p0, .int .i64 Mana.zeroP.p1, .int .i64 Mana.zeroP.p2, .int .i64 Mana.zeroP.p3, .int .i64 Mana.zeroP.p4, .int .i64 Mana.zeroP.p5], .int .i64 12]) (by simp [results, Tryd.results29, go_sem, hB]) rfl ⟨rfl, HF.out⟩
            · have hbig' : c.col k ≤ p.el (k + 1) := by omega
              have HF2 := Lib.hid (fits_step HFIT.out hbig')
              have HS2 : Hid (Mana.sumTo (Mana.restP p c) (k + 1 + 1) = s + (p.el (k + 1) - c.col k)) := Lib.hid (by rw [HSUM.out]; show Mana.sumTo (Mana.restP p c) (k + 1) + (Mana.restP p c).el (k + 1) = _; rw [Mana.rest_el k hlt])
              go_wp2_with fail
              refine wp_region_still_tail 8 (by kernel_rfl) (by kernel_rfl) ?_
              simp only [List.take_succ_cons, List.take_zero, List.drop_succ_cons, List.drop_zero]
              still_step
              still_step
              still_step
              still_step
              still_step
              still_step
              still_step
              still_step
              refine wpStill_nil ?_
              change wpList _ _ _ _ _ wr.drew
              have HS5 := Lib.hid (HS.out.drew)
              clear c1 c3 f3 HS
              generalize wr.drew = w5 at HS5
              have c1 := HS5.out.b1.cost k hlt
              have c3 := HS5.out.b3.pool (k + 1) (by omega)
              rw [HEL.out] at c3
              go_wp2_with fail
              refine wp_region_still_tail 12 (by kernel_rfl) (by kernel_rfl) ?_
              simp only [List.take_succ_cons, List.take_zero, List.drop_succ_cons, List.drop_zero]
              still_step
              still_step
              still_step
              still_step
              still_step
              still_step
              still_step
              still_step
              still_step
              still_step
              still_step
              still_step
              refine wpStill_nil ?_
              change wpList _ _ _ _ _ w5.drew
              have HS6 := Lib.hid (HS5.out.drew)
              clear c1 c3 HS5
              generalize w5.drew = w6 at HS6
              have c3 := HS6.out.b3.pool (k + 1) (by omega)
              rw [HEL.out] at c3
              have f3 := HS6.out.b3.free (k + 1)
              go_wp2
              go_roundw
              case rel => exact ⟨k + 1, s + (p.el (k + 1) - c.col k), by omega, by go_num, rfl, by omega, by omega, Lib.hid HS2.out.symm, HF2.out, HS6.out.next hlt⟩
              case measure => simp [intOf]; omega
          · obtain rfl : k = 5 := by omega
            have HPOS := Lib.hid (Mana.rest_of_fits HW.out HFIT.out)
            have HST : Hid (TakeAt c (Mana.restP p c) (Mana.dueI c x) w w2.heap.size 0 (Mana.dueI c x) (Mana.restP p c) wr) := Lib.hid ⟨rfl, rfl, fun j hj => absurd hj (by omega), hS.b2, hS.b3, hS.hm, hS.hb⟩
            have B2' := Lib.hid hS.b2
            have BB' := Lib.hid hS.hb
            have c1 := hS.b1.cell
            have c2 := hS.b2.cell
            have f2 := hS.b2.free
            clear hS HS
            have HDU : Hid (Mana.dueI c x = c.g + c.x * x) := Lib.hid rfl
            by_cases hdu : s < c.g + c.x * x
            · have HR := Lib.hid (Mana.pay_bad (p := p) (c := c) (x := x) HA.out (fun h => h.2 (by have h6 : s = Mana.sumTo (Mana.restP p c) 6 := HSUM.out; rw [HDU.out]; omega)))
              go_wp2
              rw [HR.out.1, HR.out.2]
              change bodyPost _ _ _ _ _ (set6 wr (w.heap.size + 1 + 1) Mana.zeroP)
              have hB := (Blk.six (p := Mana.zeroP) B2'.out Mana.zeroP).cell
              have HF := Lib.hid (below_six (q := Mana.zeroP) (b := w.heap.size + 1 + 1) BB'.out (by omega))
              generalize set6 wr (w.heap.size + 1 + 1) Mana.zeroP = wf at hB HF
              exact bodyPost_ret (v := .tuple #[.agg #[.int .i64 Mana.zeroP.p0, .int .i64 Mana.zeroP.p1, .int .i64 Mana.zeroP.p2, .int .i64 Mana.zeroP.p3, .int .i64 Mana.zeroP.p4, .int .i64 Mana.zeroP.p5], .int .i64 12]) (by simp [results, Tryd.results29, go_sem, hB]) rfl ⟨rfl, HF.out⟩
            · have HR := Lib.hid (Mana.pay_good (p := p) (c := c) (x := x) HA.out ⟨HFIT.out, by have h6 : s = Mana.sumTo (Mana.restP p c) 6 := HSUM.out; rw [HDU.out]; omega⟩)
              have hdu' : c.g + c.x * x ≤ s := by omega
              clear c2 f2
              obtain ⟨R, hRE⟩ : ∃ R, Mana.restP p c = R := ⟨_, rfl⟩
              have HRE := Lib.hid hRE
              rw [hRE] at HST HRB HPOS
              clear hRE
              go_wp2
              go_loopw [11, 12] (fun u i wr => ∃ (k : Nat) (d : Int) (r : Mana.Pl), k ≤ 6 ∧ i = .int .i64 (k : Int) ∧ u = .int .i64 d ∧ 0 ≤ d ∧ d ≤ 2000099 ∧ TakeAt c R (Mana.dueI c x) w w2.heap.size k d r wr) (fun _ i _ => 6 - (intOf i).toNat)
              case atStart => exact ⟨0, _, _, by omega, rfl, by rw [HDU.out], by rw [HDU.out]; omega, by rw [HDU.out]; omega, HST.out⟩
              case round =>
                clear HST c1
                obtain ⟨k, d, r, hk, rfl, rfl, d0, d1, hT⟩ := hrel
                have HT := Lib.hid hT
                by_cases hlt : k < 6
                · obtain ⟨r0, r1⟩ := HRB.out k hlt
                  have hpos := HPOS.out k hlt
                  have HEL := Lib.hid (show r.el k = R.el k by rw [hT.hr, Mana.takeR_high _ _ k k (Nat.le_refl _)])
                  have c3 := hT.b3.pool k hlt
                  rw [HEL.out] at c3
                  have f3 := hT.b3.free k
                  clear hT
                  rcases (show d < R.el k ∨ R.el k < d ∨ R.el k = d by omega) with hl | hl | hl
                  · go_wp2
                    go_roundw
                    case rel => exact ⟨k + 1, 0, _, by omega, by go_num, by simp, by omega, by omega, HT.out.less hlt hpos hl⟩
                    case measure => simp [intOf]; omega
                  · have hl' : ¬ d < R.el k := by omega
                    go_wp2
                    go_roundw
                    case rel => exact ⟨k + 1, d - R.el k, _, by omega, by go_num, rfl, by omega, by omega, HT.out.all hlt hpos hl'⟩
                    case measure => simp [intOf]; omega
                  · have hl' : ¬ d < R.el k := by omega
                    have HQ : Hid (TakeAt c R (Mana.dueI c x) w w2.heap.size (k + 1) 0 (r.set k 0) (wr.setCell ⟨w2.heap.size, k, none⟩ (.int .i64 0))) := Lib.hid (by have := HT.out.all hlt hpos hl'; rw [hl, Int.sub_self] at this; exact this)
                    rw [hl] at c3
                    clear hl hl'
                    go_wp2
                    go_roundw
                    case rel => exact ⟨k + 1, 0, _, by omega, by go_num, by simp, by omega, by omega, HQ.out⟩
                    case measure => simp [intOf]; omega
                · obtain rfl : k = 6 := by omega
                  have B2' := Lib.hid hT.b2
                  have BB' := Lib.hid hT.hb
                  have c2 := hT.b2.cell
                  have f2 := hT.b2.free
                  have c3 := hT.b3.cell
                  have HQ : Hid (Mana.takeR (Mana.restP p c) (Mana.dueI c x) 6 = r) := Lib.hid (by rw [HRE.out]; exact hT.hr.symm)
                  clear hT HT
                  go_wp2
                  rw [HR.out.1, HR.out.2, HQ.out]
                  change bodyPost _ _ _ _ _ (set6 wr (w.heap.size + 1 + 1) r)
                  have hB := (Blk.six (p := Mana.zeroP) B2'.out r).cell
                  have HF := Lib.hid (below_six (q := r) (b := w.heap.size + 1 + 1) BB'.out (by omega))
                  generalize set6 wr (w.heap.size + 1 + 1) r = wf at hB HF
                  exact bodyPost_ret (v := .tuple #[.agg #[.int .i64 r.p0, .int .i64 r.p1, .int .i64 r.p2, .int .i64 r.p3, .int .i64 r.p4, .int .i64 r.p5], .int .i64 0]) (by simp [results, Tryd.results29, go_sem, hB]) rfl ⟨rfl, HF.out⟩
end Go.Proofs.YtcllaenanihedaaDoor
