/-
  THE LAWS OF LAYER 8: payment. By an AI agent.
-/
import Derived.Test.YtcllaenanihedaaDoorManaAlive
import Derived.Test.YtcllaenanihedaaDoorManaPayTotal
namespace Go.Proofs.YtcllaenanihedaaDoor
open Go.RowKit

set_option maxHeartbeats 1000000 in
set_option maxRecDepth 100000 in
theorem lawPaysAsAny (p : Mana.Pl) (c : Mana.Cst) (x : Int) (q : Mana.Pl) (er : Int) (w : World) (hE : Env w)
    (h1 : ∀ w, Calls Tryd.prog 28 #[.agg #[.int .i64 p.p0, .int .i64 p.p1, .int .i64 p.p2, .int .i64 p.p3, .int .i64 p.p4, .int .i64 p.p5], .agg #[.int .i64 c.g, .int .i64 c.x, .int .i64 c.c0, .int .i64 c.c1, .int .i64 c.c2, .int .i64 c.c3, .int .i64 c.c4], .int .i64 x] w fun e w' => e = .returned (.tuple #[.agg #[.int .i64 q.p0, .int .i64 q.p1, .int .i64 q.p2, .int .i64 q.p3, .int .i64 q.p4, .int .i64 q.p5], .int .i64 er]) ∧ Below w.heap.size w w')
    (h2 : ∀ w, Calls Tryd.prog 29 #[.agg #[.int .i64 p.p0, .int .i64 p.p1, .int .i64 p.p2, .int .i64 p.p3, .int .i64 p.p4, .int .i64 p.p5], .agg #[.int .i64 c.g, .int .i64 c.x, .int .i64 c.c0, .int .i64 c.c1, .int .i64 c.c2, .int .i64 c.c3, .int .i64 c.c4], .int .i64 x] w fun e w' => e = .returned (.tuple #[.agg #[.int .i64 q.p0, .int .i64 q.p1, .int .i64 q.p2, .int .i64 q.p3, .int .i64 q.p4, .int .i64 q.p5], .int .i64 er]) ∧ Below w.heap.size w w')
    (h3 : ∀ w, Calls Tryd.prog 30 #[.agg #[.int .i64 p.p0, .int .i64 p.p1, .int .i64 p.p2, .int .i64 p.p3, .int .i64 p.p4, .int .i64 p.p5], .agg #[.int .i64 c.g, .int .i64 c.x, .int .i64 c.c0, .int .i64 c.c1, .int .i64 c.c2, .int .i64 c.c3, .int .i64 c.c4], .int .i64 x] w fun e w' => e = .returned (.bool (er == 0)) ∧ Below w.heap.size w w') :
    Calls Tryd.prog 7 #[.agg #[.int .i64 p.p0, .int .i64 p.p1, .int .i64 p.p2, .int .i64 p.p3, .int .i64 p.p4, .int .i64 p.p5], .agg #[.int .i64 c.g, .int .i64 c.x, .int .i64 c.c0, .int .i64 c.c1, .int .i64 c.c2, .int .i64 c.c3, .int .i64 c.c4], .int .i64 x] w fun e w' => e = .returned (.bool true) ∧ Below w.heap.size w w' := by
  have H0 : Hid (Below w.heap.size w ((w.alloc (.cells #[.int .i64 p.p0, .int .i64 p.p1, .int .i64 p.p2, .int .i64 p.p3, .int .i64 p.p4, .int .i64 p.p5] 35)).alloc (.cells #[.int .i64 c.g, .int .i64 c.x, .int .i64 c.c0, .int .i64 c.c1, .int .i64 c.c2, .int .i64 c.c3, .int .i64 c.c4] 24))) := Lib.hid (by go_grown)
  have K0 := Lib.hid ((Blk.new w #[.int .i64 p.p0, .int .i64 p.p1, .int .i64 p.p2, .int .i64 p.p3, .int .i64 p.p4, .int .i64 p.p5] 35).alloc (.cells #[.int .i64 c.g, .int .i64 c.x, .int .i64 c.c0, .int .i64 c.c1, .int .i64 c.c2, .int .i64 c.c3, .int .i64 c.c4] 24))
  have K1 : Hid (Blk ((w.alloc (.cells #[.int .i64 p.p0, .int .i64 p.p1, .int .i64 p.p2, .int .i64 p.p3, .int .i64 p.p4, .int .i64 p.p5] 35)).alloc (.cells #[.int .i64 c.g, .int .i64 c.x, .int .i64 c.c0, .int .i64 c.c1, .int .i64 c.c2, .int .i64 c.c3, .int .i64 c.c4] 24)) (w.heap.size + 1) #[.int .i64 c.g, .int .i64 c.x, .int .i64 c.c0, .int .i64 c.c1, .int .i64 c.c2, .int .i64 c.c3, .int .i64 c.c4] 24) := Lib.hid (by
    have n1 := Blk.new (w.alloc (.cells #[.int .i64 p.p0, .int .i64 p.p1, .int .i64 p.p2, .int .i64 p.p3, .int .i64 p.p4, .int .i64 p.p5] 35)) #[.int .i64 c.g, .int .i64 c.x, .int .i64 c.c0, .int .i64 c.c1, .int .i64 c.c2, .int .i64 c.c3, .int .i64 c.c4] 24
    simp only [World.size_alloc] at n1
    exact n1)
  have HE := Lib.hid hE
  have G1 := Lib.hid h1
  have G2 := Lib.hid h2
  have G3 := Lib.hid h3
  have q1 : ∀ W : World, (Op.equalIn 10000 35 (.agg #[.int .i64 q.p0, .int .i64 q.p1, .int .i64 q.p2, .int .i64 q.p3, .int .i64 q.p4, .int .i64 q.p5]) (.agg #[.int .i64 q.p0, .int .i64 q.p1, .int .i64 q.p2, .int .i64 q.p3, .int .i64 q.p4, .int .i64 q.p5])).run Tryd.prog W = .ok true W := fun W => by rw [run_eq_pool, eqP_refl]
  clear hE h1 h2 h3
  go_enter Tryd.func7, Tryd.ntmps7
  go_wp2_with fail
  refine (G1.out _).mono ?_
  rintro e w1 ⟨rfl, hb1⟩
  have A0 := Lib.hid ((K0.out.below hb1 K0.out.lt).alloc (.cells #[.int .i64 q.p0, .int .i64 q.p1, .int .i64 q.p2, .int .i64 q.p3, .int .i64 q.p4, .int .i64 q.p5] 35))
  have A1 := Lib.hid ((K1.out.below hb1 K1.out.lt).alloc (.cells #[.int .i64 q.p0, .int .i64 q.p1, .int .i64 q.p2, .int .i64 q.p3, .int .i64 q.p4, .int .i64 q.p5] 35))
  have A2 := Lib.hid (Blk.new w1 #[.int .i64 q.p0, .int .i64 q.p1, .int .i64 q.p2, .int .i64 q.p3, .int .i64 q.p4, .int .i64 q.p5] 35)
  have AH := Lib.hid ((H0.out.trans (hb1.mono H0.out.size)).alloc ((H0.out.trans (hb1.mono H0.out.size)).size) (.cells #[.int .i64 q.p0, .int .i64 q.p1, .int .i64 q.p2, .int .i64 q.p3, .int .i64 q.p4, .int .i64 q.p5] 35))
  clear hb1 K0 K1 H0
  have c0 := A0.out.cell
  have c1 := A1.out.cell
  go_wp2_with fail
  refine (G2.out _).mono ?_
  rintro e w2 ⟨rfl, hb2⟩
  have B0 := Lib.hid ((A0.out.below hb2 A0.out.lt).alloc (.cells #[.int .i64 q.p0, .int .i64 q.p1, .int .i64 q.p2, .int .i64 q.p3, .int .i64 q.p4, .int .i64 q.p5] 35))
  have B1 := Lib.hid ((A1.out.below hb2 A1.out.lt).alloc (.cells #[.int .i64 q.p0, .int .i64 q.p1, .int .i64 q.p2, .int .i64 q.p3, .int .i64 q.p4, .int .i64 q.p5] 35))
  have B2 := Lib.hid ((A2.out.below hb2 A2.out.lt).alloc (.cells #[.int .i64 q.p0, .int .i64 q.p1, .int .i64 q.p2, .int .i64 q.p3, .int .i64 q.p4, .int .i64 q.p5] 35))
  have BH := Lib.hid ((AH.out.trans (hb2.mono AH.out.size)).alloc ((AH.out.trans (hb2.mono AH.out.size)).size) (.cells #[.int .i64 q.p0, .int .i64 q.p1, .int .i64 q.p2, .int .i64 q.p3, .int .i64 q.p4, .int .i64 q.p5] 35))
  clear hb2 A0 A1 A2 AH c0 c1
  have c0 := B0.out.cell
  have c1 := B1.out.cell
  have c2 := B2.out.cell
  go_wp2_with fail
  refine (G3.out _).mono ?_
  rintro e w3 ⟨rfl, hb3⟩
  have CH := Lib.hid (BH.out.trans (hb3.mono BH.out.size))
  clear hb3 B0 B1 B2 BH c0 c1 c2
  go_wp2_with fail
  refine (manaAlive _ (HE.out.below CH.out)).mono ?_
  rintro e w4 ⟨rfl, hb4⟩
  have DH := Lib.hid (CH.out.trans (hb4.mono CH.out.size))
  clear hb4
  go_wp2
  go_ret
  exact ⟨rfl, DH.out⟩
theorem lawManaPaysAs (p : Mana.Pl) (c : Mana.Cst) (x : Int) (w : World) (hE : Env w) :
    Calls Tryd.prog 7 #[.agg #[.int .i64 p.p0, .int .i64 p.p1, .int .i64 p.p2, .int .i64 p.p3, .int .i64 p.p4, .int .i64 p.p5], .agg #[.int .i64 c.g, .int .i64 c.x, .int .i64 c.c0, .int .i64 c.c1, .int .i64 c.c2, .int .i64 c.c3, .int .i64 c.c4], .int .i64 x] w fun e w' => e = .returned (.bool true) ∧ Below w.heap.size w w' :=
  lawPaysAsAny p c x _ _ w hE (fun w => manaPay p c x w) (fun w => refPay8 p c x w) (fun w => manaCanPay p c x w)
/-- the totals under way -/
structure TotAt (p q : Mana.Pl) (c : Mana.Cst) (w : World) (m : Nat) (wr : World) : Prop where
  b0 : Blk wr w.heap.size #[.int .i64 p.p0, .int .i64 p.p1, .int .i64 p.p2, .int .i64 p.p3, .int .i64 p.p4, .int .i64 p.p5] 35
  b1 : Blk wr (w.heap.size + 1) #[.int .i64 c.g, .int .i64 c.x, .int .i64 c.c0, .int .i64 c.c1, .int .i64 c.c2, .int .i64 c.c3, .int .i64 c.c4] 24
  b2 : Blk wr m #[.int .i64 q.p0, .int .i64 q.p1, .int .i64 q.p2, .int .i64 q.p3, .int .i64 q.p4, .int .i64 q.p5] 35
  hb : Below w.heap.size w wr
theorem TotAt.drew {p q : Mana.Pl} {c : Mana.Cst} {w wr : World} {m : Nat} (h : TotAt p q c w m wr) : TotAt p q c w m wr.drew := ⟨h.b0.drew, h.b1.drew, h.b2.drew, h.hb.drew⟩
set_option maxHeartbeats 1000000 in
set_option maxRecDepth 100000 in
theorem lawPaysAny (p : Mana.Pl) (c : Mana.Cst) (x : Int) (q : Mana.Pl) (er : Int) (vl : Int) (w : World) (hE : Env w)
    (h1 : ∀ w, Calls Tryd.prog 28 #[.agg #[.int .i64 p.p0, .int .i64 p.p1, .int .i64 p.p2, .int .i64 p.p3, .int .i64 p.p4, .int .i64 p.p5], .agg #[.int .i64 c.g, .int .i64 c.x, .int .i64 c.c0, .int .i64 c.c1, .int .i64 c.c2, .int .i64 c.c3, .int .i64 c.c4], .int .i64 x] w fun e w' => e = .returned (.tuple #[.agg #[.int .i64 q.p0, .int .i64 q.p1, .int .i64 q.p2, .int .i64 q.p3, .int .i64 q.p4, .int .i64 q.p5], .int .i64 er]) ∧ Below w.heap.size w w')
    (h2 : ∀ w, Calls Tryd.prog 13 #[.agg #[.int .i64 c.g, .int .i64 c.x, .int .i64 c.c0, .int .i64 c.c1, .int .i64 c.c2, .int .i64 c.c3, .int .i64 c.c4], .int .i64 x] w fun e w' => e = .returned (.int .i64 vl) ∧ Below w.heap.size w w')
    (hbad : ¬ er = 0 → q = Mana.zeroP) (hgood : er = 0 → (∀ k, k < 6 → 0 ≤ p.el k ∧ p.el k ≤ 1000000 ∧ 0 ≤ q.el k ∧ q.el k ≤ p.el k) ∧ (vl = 1000000 ∨ Mana.sumTo p 6 - Mana.sumTo q 6 = vl)) :
    Calls Tryd.prog 8 #[.agg #[.int .i64 p.p0, .int .i64 p.p1, .int .i64 p.p2, .int .i64 p.p3, .int .i64 p.p4, .int .i64 p.p5], .agg #[.int .i64 c.g, .int .i64 c.x, .int .i64 c.c0, .int .i64 c.c1, .int .i64 c.c2, .int .i64 c.c3, .int .i64 c.c4], .int .i64 x] w fun e w' => e = .returned (.bool true) ∧ Below w.heap.size w w' := by
  have H0 : Hid (Below w.heap.size w ((w.alloc (.cells #[.int .i64 p.p0, .int .i64 p.p1, .int .i64 p.p2, .int .i64 p.p3, .int .i64 p.p4, .int .i64 p.p5] 35)).alloc (.cells #[.int .i64 c.g, .int .i64 c.x, .int .i64 c.c0, .int .i64 c.c1, .int .i64 c.c2, .int .i64 c.c3, .int .i64 c.c4] 24))) := Lib.hid (by go_grown)
  have K0 := Lib.hid ((Blk.new w #[.int .i64 p.p0, .int .i64 p.p1, .int .i64 p.p2, .int .i64 p.p3, .int .i64 p.p4, .int .i64 p.p5] 35).alloc (.cells #[.int .i64 c.g, .int .i64 c.x, .int .i64 c.c0, .int .i64 c.c1, .int .i64 c.c2, .int .i64 c.c3, .int .i64 c.c4] 24))
  have K1 : Hid (Blk ((w.alloc (.cells #[.int .i64 p.p0, .int .i64 p.p1, .int .i64 p.p2, .int .i64 p.p3, .int .i64 p.p4, .int .i64 p.p5] 35)).alloc (.cells #[.int .i64 c.g, .int .i64 c.x, .int .i64 c.c0, .int .i64 c.c1, .int .i64 c.c2, .int .i64 c.c3, .int .i64 c.c4] 24)) (w.heap.size + 1) #[.int .i64 c.g, .int .i64 c.x, .int .i64 c.c0, .int .i64 c.c1, .int .i64 c.c2, .int .i64 c.c3, .int .i64 c.c4] 24) := Lib.hid (by
    have n1 := Blk.new (w.alloc (.cells #[.int .i64 p.p0, .int .i64 p.p1, .int .i64 p.p2, .int .i64 p.p3, .int .i64 p.p4, .int .i64 p.p5] 35)) #[.int .i64 c.g, .int .i64 c.x, .int .i64 c.c0, .int .i64 c.c1, .int .i64 c.c2, .int .i64 c.c3, .int .i64 c.c4] 24
    simp only [World.size_alloc] at n1
    exact n1)
  have HE := Lib.hid hE
  have G1 := Lib.hid h1
  have G2 := Lib.hid h2
  clear hE h1 h2
  by_cases her : er = 0
  · obtain ⟨hel, hv⟩ := hgood her
    have HEL := Lib.hid hel
    have HV := Lib.hid hv
    have t0 : (er != 0) = false := by rw [her]; rfl
    clear her hgood hbad hel hv
    go_enter Tryd.func8, Tryd.ntmps8
    go_wp2_with fail
    refine (G1.out _).mono ?_
    rintro e w1 ⟨rfl, hb1⟩
    have A : Hid (TotAt p q c w w1.heap.size (w1.alloc (.cells #[.int .i64 q.p0, .int .i64 q.p1, .int .i64 q.p2, .int .i64 q.p3, .int .i64 q.p4, .int .i64 q.p5] 35))) := Lib.hid ⟨(K0.out.below hb1 K0.out.lt).alloc _, (K1.out.below hb1 K1.out.lt).alloc _, Blk.new w1 _ _, (H0.out.trans (hb1.mono H0.out.size)).alloc ((H0.out.trans (hb1.mono H0.out.size)).size) _⟩
    clear hb1 K0 K1 H0
    go_wp2_with fail
    go_loopw [9, 10, 28] (fun b a i wr => ∃ k : Nat, k ≤ 6 ∧ i = .int .i64 (k : Int) ∧ b = .int .i64 (Mana.sumTo p k) ∧ a = .int .i64 (Mana.sumTo q k) ∧ 0 ≤ Mana.sumTo q k ∧ Mana.sumTo q k ≤ Mana.sumTo p k ∧ Mana.sumTo p k ≤ 1000000 * (k : Int) ∧ TotAt p q c w w1.heap.size wr) (fun _ _ i _ => 6 - (intOf i).toNat)
    case atStart => exact ⟨0, by omega, rfl, rfl, rfl, Int.le_refl _, Int.le_refl _, Int.le_refl _, A.out⟩
    case round =>
      clear A
      obtain ⟨k, hk, rfl, rfl, rfl, s0, s1, s2, hT⟩ := hrel
      have HT := Lib.hid hT
      by_cases hlt : k < 6
      · obtain ⟨p0, p1, q0, q1⟩ := HEL.out k hlt
        have hq : ¬ p.el k < q.el k := by omega
        have c0 := hT.b0.pool k hlt
        have c2 := hT.b2.pool k hlt
        clear hT
        have SP : Hid (Mana.sumTo p (k + 1) = Mana.sumTo p k + p.el k) := Lib.hid rfl
        have SQ : Hid (Mana.sumTo q (k + 1) = Mana.sumTo q k + q.el k) := Lib.hid rfl
        go_wp2_with fail
        refine wp_region_still_tail 12 (by kernel_rfl) (by kernel_rfl) ?_
        simp only [List.take_succ_cons, List.take_zero, List.drop_succ_cons, List.drop_zero]
        still_step
        still_step
        still_step
        still_step
        still_step
        still_step
        still_step
        still_step
        still_step
        still_step
        still_step
        still_step
        refine wpStill_nil ?_
        change wpList _ _ _ _ _ wr.drew
        have HD := Lib.hid HT.out.drew
        clear c0 c2 HT
        generalize wr.drew = w5 at HD
        have c0 := HD.out.b0.pool k hlt
        have c2 := HD.out.b2.pool k hlt
        go_wp2
        go_roundw
        case rel => exact ⟨k + 1, by omega, by go_num, by rw [SP.out], by rw [SQ.out], by rw [SQ.out]; omega, by rw [SQ.out, SP.out]; omega, by rw [SP.out]; omega, HD.out⟩
        case measure => simp [intOf]; omega
      · obtain rfl : k = 6 := by omega
        have c1 := hT.b1.cell
        clear hT
        go_wp2_with fail
        refine (G2.out _).mono ?_
        rintro e w2 ⟨rfl, hb2⟩
        have CH := Lib.hid (HT.out.hb.trans (hb2.mono HT.out.hb.size))
        clear hb2 HT c1
        rcases HV.out with hv | hv
        · have t2 : (vl == 1000000) = true := by rw [hv]; rfl
          clear hv
          go_wp2_with fail
          refine (manaAlive _ (HE.out.below CH.out)).mono ?_
          rintro e w4 ⟨rfl, hb4⟩
          have DH := Lib.hid (CH.out.trans (hb4.mono CH.out.size))
          clear hb4
          go_wp2
          go_ret
          exact ⟨rfl, DH.out⟩
        · have t3 : (Mana.sumTo p 6 - Mana.sumTo q 6 == vl) = true := by rw [hv]; exact beq_self_eq_true _
          clear hv
          cases t2 : (vl == 1000000)
          all_goals
            go_wp2_with fail
            refine (manaAlive _ (HE.out.below CH.out)).mono ?_
            rintro e w4 ⟨rfl, hb4⟩
            have DH := Lib.hid (CH.out.trans (hb4.mono CH.out.size))
            clear hb4
            go_wp2
            go_ret
            exact ⟨rfl, DH.out⟩
  · have HQ := Lib.hid (hbad her)
    have t0 : (er != 0) = true := by simpa using her
    have q1 : ∀ W : World, (Op.equalIn 10000 35 (.agg #[.int .i64 q.p0, .int .i64 q.p1, .int .i64 q.p2, .int .i64 q.p3, .int .i64 q.p4, .int .i64 q.p5]) (.agg #[.int .i64 0, .int .i64 0, .int .i64 0, .int .i64 0, .int .i64 0, .int .i64 0])).run Tryd.prog W = .ok true W := fun W => by
      have := run_eq_pool q Mana.zeroP W
      rw [HQ.out] at this ⊢
      rw [eqP_refl] at this
      exact this
    clear her hgood hbad
    go_enter Tryd.func8, Tryd.ntmps8
    go_wp2_with fail
    refine (G1.out _).mono ?_
    rintro e w1 ⟨rfl, hb1⟩
    have AH := Lib.hid ((H0.out.trans (hb1.mono H0.out.size)).alloc ((H0.out.trans (hb1.mono H0.out.size)).size) (.cells #[.int .i64 q.p0, .int .i64 q.p1, .int .i64 q.p2, .int .i64 q.p3, .int .i64 q.p4, .int .i64 q.p5] 35))
    clear hb1 K0 K1 H0
    go_wp2_with fail
    refine (manaAlive _ (HE.out.below AH.out)).mono ?_
    rintro e w4 ⟨rfl, hb4⟩
    have DH := Lib.hid (AH.out.trans (hb4.mono AH.out.size))
    clear hb4
    go_wp2
    go_ret
    exact ⟨rfl, DH.out⟩
theorem lawManaPays (p : Mana.Pl) (c : Mana.Cst) (x : Int) (w : World) (hE : Env w) :
    Calls Tryd.prog 8 #[.agg #[.int .i64 p.p0, .int .i64 p.p1, .int .i64 p.p2, .int .i64 p.p3, .int .i64 p.p4, .int .i64 p.p5], .agg #[.int .i64 c.g, .int .i64 c.x, .int .i64 c.c0, .int .i64 c.c1, .int .i64 c.c2, .int .i64 c.c3, .int .i64 c.c4], .int .i64 x] w fun e w' => e = .returned (.bool true) ∧ Below w.heap.size w w' :=
  lawPaysAny p c x _ _ _ w hE (fun w => manaPay p c x w) (fun w => manaValue c x w) Mana.pay_zero Mana.pay_total
end Go.Proofs.YtcllaenanihedaaDoor
