/-
  CONTRACTS OF LAYER 8 (mana): Pay of the program. By an AI agent.
-/
import Derived.Test.YtcllaenanihedaaDoorManaPayPlain
import Derived.Test.YtcllaenanihedaaDoorManaWalksD
namespace Go.Proofs.YtcllaenanihedaaDoor
open Go.RowKit

theorem boxTwo (w : World) (a : Array Value) (s : TypeId) (b : Array Value) (t : TypeId) (o : Obj) : Blk (((w.alloc (.cells a s)).alloc (.cells b t)).alloc o) (w.heap.size + 1) b t := by
  have n1 := Blk.new (w.alloc (.cells a s)) b t
  simp only [World.size_alloc] at n1
  exact n1.alloc _
theorem boxThree (w : World) (o1 o2 : Obj) (b : Array Value) (t : TypeId) : Blk (((w.alloc o1).alloc o2).alloc (.cells b t)) (w.heap.size + 1 + 1) b t := by
  have n1 := Blk.new ((w.alloc o1).alloc o2) b t
  simp only [World.size_alloc] at n1
  exact n1
/-- the coloured mana taken under way -/
structure SubAt (p : Mana.Pl) (c : Mana.Cst) (w : World) (m k : Nat) (wr : World) : Prop where
  b1 : Blk wr (w.heap.size + 1) #[.int .i64 c.g, .int .i64 c.x, .int .i64 c.c0, .int .i64 c.c1, .int .i64 c.c2, .int .i64 c.c3, .int .i64 c.c4] 24
  b2 : Blk wr (w.heap.size + 1 + 1) #[.int .i64 0, .int .i64 0, .int .i64 0, .int .i64 0, .int .i64 0, .int .i64 0] 35
  b3 : Blk wr m #[.int .i64 (Mana.subTo p c k).p0, .int .i64 (Mana.subTo p c k).p1, .int .i64 (Mana.subTo p c k).p2, .int .i64 (Mana.subTo p c k).p3, .int .i64 (Mana.subTo p c k).p4, .int .i64 (Mana.subTo p c k).p5] 35
  hm : w.heap.size + 1 + 1 < m
  hb : Below w.heap.size w wr
theorem SubAt.next {p : Mana.Pl} {c : Mana.Cst} {w w2 : World} {m k : Nat} (h : SubAt p c w m k w2) (hk : k < 5) : SubAt p c w m (k + 1) (w2.setCell ⟨m, k + 1, none⟩ (.int .i64 (p.el (k + 1) - c.col k))) :=
  ⟨h.b1.other (by have := h.hm; omega) _ _, h.b2.other (by have := h.hm; omega) _ _, h.b3.setPool (k + 1) (by omega) _, h.hm, h.hb.setCell (by have := h.hm; show w.heap.size ≤ m; omega) _⟩
/-- the rest taken under way -/
structure TakeAt (c : Mana.Cst) (R : Mana.Pl) (D : Int) (w : World) (m k : Nat) (d : Int) (r : Mana.Pl) (wr : World) : Prop where
  hd : d = Mana.takeD R D k
  hr : r = Mana.takeR R D k
  pos : ∀ j, j < k → 0 ≤ R.el j
  b2 : Blk wr (w.heap.size + 1 + 1) #[.int .i64 0, .int .i64 0, .int .i64 0, .int .i64 0, .int .i64 0, .int .i64 0] 35
  b3 : Blk wr m #[.int .i64 r.p0, .int .i64 r.p1, .int .i64 r.p2, .int .i64 r.p3, .int .i64 r.p4, .int .i64 r.p5] 35
  hm : w.heap.size + 1 + 1 < m
  hb : Below w.heap.size w wr
theorem TakeAt.less {c : Mana.Cst} {R : Mana.Pl} {D d : Int} {r : Mana.Pl} {w w2 : World} {m k : Nat} (h : TakeAt c R D w m k d r w2) (hk : k < 6) (h0 : 0 ≤ R.el k) (hl : d < R.el k) : TakeAt c R D w m (k + 1) 0 (r.set k (R.el k - d)) (w2.setCell ⟨m, k, none⟩ (.int .i64 (R.el k - d))) :=
  ⟨by rw [Mana.takeD, ← h.hd, if_pos hl], by rw [Mana.takeR, ← h.hd, if_pos hl, h.hr], fun j hj => by rcases Nat.lt_or_ge j k with e | e; exact h.pos j e; (obtain rfl : j = k := by omega); exact h0,
    h.b2.other (by have := h.hm; omega) _ _, h.b3.setPool k hk _, h.hm, h.hb.setCell (by have := h.hm; show w.heap.size ≤ m; omega) _⟩
theorem TakeAt.all {c : Mana.Cst} {R : Mana.Pl} {D d : Int} {r : Mana.Pl} {w w2 : World} {m k : Nat} (h : TakeAt c R D w m k d r w2) (hk : k < 6) (h0 : 0 ≤ R.el k) (hl : ¬ d < R.el k) : TakeAt c R D w m (k + 1) (d - R.el k) (r.set k 0) (w2.setCell ⟨m, k, none⟩ (.int .i64 0)) :=
  ⟨by rw [Mana.takeD, ← h.hd, if_neg hl], by rw [Mana.takeR, ← h.hd, if_neg hl, h.hr], fun j hj => by rcases Nat.lt_or_ge j k with e | e; exact h.pos j e; (obtain rfl : j = k := by omega); exact h0,
    h.b2.other (by have := h.hm; omega) _ _, h.b3.setPool k hk _, h.hm, h.hb.setCell (by have := h.hm; show w.heap.size ≤ m; omega) _⟩
theorem arg_c {p : Mana.Pl} {c : Mana.Cst} (x : Int) (h : Mana.okC c = false) : Mana.argB p c x = false := by unfold Mana.argB; rw [h]; rfl
theorem arg_p {p : Mana.Pl} {c : Mana.Cst} (x : Int) (h : Mana.wholeB p = false) : Mana.argB p c x = false := by unfold Mana.argB; rw [h]; cases Mana.okC c <;> rfl
theorem arg_x {p : Mana.Pl} {c : Mana.Cst} {x : Int} (h : Mana.inB x 1000000 = false) : Mana.argB p c x = false := by unfold Mana.argB; rw [h]; cases Mana.okC c <;> cases Mana.wholeB p <;> rfl
theorem arg_yes {p : Mana.Pl} {c : Mana.Cst} {x : Int} (h : Mana.okC c = true) (hp : Mana.wholeB p = true) (hx : Mana.inB x 1000000 = true) : Mana.argB p c x = true := by unfold Mana.argB; rw [h, hp, hx]; rfl
set_option maxHeartbeats 2000000 in
set_option maxRecDepth 100000 in
theorem manaPay (p : Mana.Pl) (c : Mana.Cst) (x : Int) (w : World) :
    Calls Tryd.prog 28 #[.agg #[.int .i64 p.p0, .int .i64 p.p1, .int .i64 p.p2, .int .i64 p.p3, .int .i64 p.p4, .int .i64 p.p5], .agg #[.int .i64 c.g, .int .i64 c.x, .int .i64 c.c0, .int .i64 c.c1, .int .i64 c.c2, .int .i64 c.c3, .int .i64 c.c4], .int .i64 x] w fun e w' => e = .returned (.tuple #[.agg #[.int .i64 (Mana.payP p c x).p0, .int .i64 (Mana.payP p c x).p1, .int .i64 (Mana.payP p c x).p2, .int .i64 (Mana.payP p c x).p3, .int .i64 (Mana.payP p c x).p4, .int .i64 (Mana.payP p c x).p5], .int .i64 (Mana.payE p c x)]) ∧ Below w.heap.size w w' := by
  have N0 := Lib.hid (((Blk.new w #[.int .i64 p.p0, .int .i64 p.p1, .int .i64 p.p2, .int .i64 p.p3, .int .i64 p.p4, .int .i64 p.p5] 35).alloc (.cells #[.int .i64 c.g, .int .i64 c.x, .int .i64 c.c0, .int .i64 c.c1, .int .i64 c.c2, .int .i64 c.c3, .int .i64 c.c4] 24)).alloc (.cells #[.int .i64 0, .int .i64 0, .int .i64 0, .int .i64 0, .int .i64 0, .int .i64 0] 35))
  have N1 := Lib.hid (boxTwo w #[.int .i64 p.p0, .int .i64 p.p1, .int .i64 p.p2, .int .i64 p.p3, .int .i64 p.p4, .int .i64 p.p5] 35 #[.int .i64 c.g, .int .i64 c.x, .int .i64 c.c0, .int .i64 c.c1, .int .i64 c.c2, .int .i64 c.c3, .int .i64 c.c4] 24 (.cells #[.int .i64 0, .int .i64 0, .int .i64 0, .int .i64 0, .int .i64 0, .int .i64 0] 35))
  have N2 := Lib.hid (boxThree w (.cells #[.int .i64 p.p0, .int .i64 p.p1, .int .i64 p.p2, .int .i64 p.p3, .int .i64 p.p4, .int .i64 p.p5] 35) (.cells #[.int .i64 c.g, .int .i64 c.x, .int .i64 c.c0, .int .i64 c.c1, .int .i64 c.c2, .int .i64 c.c3, .int .i64 c.c4] 24) #[.int .i64 0, .int .i64 0, .int .i64 0, .int .i64 0, .int .i64 0, .int .i64 0] 35)
  have NB : Hid (Below w.heap.size w (((w.alloc (.cells #[.int .i64 p.p0, .int .i64 p.p1, .int .i64 p.p2, .int .i64 p.p3, .int .i64 p.p4, .int .i64 p.p5] 35)).alloc (.cells #[.int .i64 c.g, .int .i64 c.x, .int .i64 c.c0, .int .i64 c.c1, .int .i64 c.c2, .int .i64 c.c3, .int .i64 c.c4] 24)).alloc (.cells #[.int .i64 0, .int .i64 0, .int .i64 0, .int .i64 0, .int .i64 0, .int .i64 0] 35))) := Lib.hid (by go_grown)
  cases hc : Mana.okC c with
  | false =>
    have HR := Lib.hid (Mana.pay_arg (arg_c (p := p) x hc))
    have HC := Lib.hid hc
    rw [HR.out.1, HR.out.2]
    clear hc
    go_enter Tryd.func28, Tryd.ntmps28
    go_wp2_with fail
    refine (manaIs c _).mono ?_
    rintro e w1 ⟨rfl, hb1⟩
    rw [HC.out]
    have A0 := Lib.hid (N0.out.below hb1 N0.out.lt)
    have A1 := Lib.hid (N1.out.below hb1 N1.out.lt)
    have A2 := Lib.hid (N2.out.below hb1 N2.out.lt)
    have AB := Lib.hid (NB.out.trans (hb1.mono NB.out.size))
    clear hb1 N0 N1 N2 NB
    have c2 := A2.out.cell
    have f2 := A2.out.free
    go_wp2
    change bodyPost _ _ _ _ _ (set6 w1 (w.heap.size + 1 + 1) Mana.zeroP)
    have hB := (Blk.six (p := Mana.zeroP) A2.out Mana.zeroP).cell
    have HF := Lib.hid (below_six (q := Mana.zeroP) (b := w.heap.size + 1 + 1) AB.out (by omega))
    generalize set6 w1 (w.heap.size + 1 + 1) Mana.zeroP = wf at hB HF
    exact bodyPost_ret (v := .tuple #[.agg #[.int .i64 Mana.zeroP.p0, .int .i64 Mana.zeroP.p1, .int .i64 Mana.zeroP.p2, .int .i64 Mana.zeroP.p3, .int .i64 Mana.zeroP.p4, .int .i64 Mana.zeroP.p5], .int .i64 1]) (by simp [results, Tryd.results28, go_sem, hB]) rfl ⟨rfl, HF.out⟩
  | true =>
    have HC := Lib.hid hc
    cases hp : Mana.wholeB p with
    | false =>
      have HR := Lib.hid (Mana.pay_arg (arg_p (c := c) x hp))
      have HW := Lib.hid hp
      rw [HR.out.1, HR.out.2]
      clear hc hp
      go_enter Tryd.func28, Tryd.ntmps28
      go_wp2_with fail
      refine (manaIs c _).mono ?_
      rintro e w1 ⟨rfl, hb1⟩
      rw [HC.out]
      have A0 := Lib.hid (N0.out.below hb1 N0.out.lt)
      have A1 := Lib.hid (N1.out.below hb1 N1.out.lt)
      have A2 := Lib.hid (N2.out.below hb1 N2.out.lt)
      have AB := Lib.hid (NB.out.trans (hb1.mono NB.out.size))
      clear hb1 N0 N1 N2 NB
      have c0 := A0.out.cell
      go_wp2_with fail
      refine (manaWhole p _).mono ?_
      rintro e w2 ⟨rfl, hb2⟩
      rw [HW.out]
      have B0 := Lib.hid (A0.out.below hb2 A0.out.lt)
      have B1 := Lib.hid (A1.out.below hb2 A1.out.lt)
      have B2 := Lib.hid (A2.out.below hb2 A2.out.lt)
      have BB := Lib.hid (AB.out.trans (hb2.mono AB.out.size))
      clear hb2 A0 A1 A2 AB c0
      have c2 := B2.out.cell
      have f2 := B2.out.free
      go_wp2
      change bodyPost _ _ _ _ _ (set6 w2 (w.heap.size + 1 + 1) Mana.zeroP)
      have hB := (Blk.six (p := Mana.zeroP) B2.out Mana.zeroP).cell
      have HF := Lib.hid (below_six (q := Mana.zeroP) (b := w.heap.size + 1 + 1) BB.out (by omega))
      generalize set6 w2 (w.heap.size + 1 + 1) Mana.zeroP = wf at hB HF
      exact bodyPost_ret (v := .tuple #[.agg #[.int .i64 Mana.zeroP.p0, .int .i64 Mana.zeroP.p1, .int .i64 Mana.zeroP.p2, .int .i64 Mana.zeroP.p3, .int .i64 Mana.zeroP.p4, .int .i64 Mana.zeroP.p5], .int .i64 1]) (by simp [results, Tryd.results28, go_sem, hB]) rfl ⟨rfl, HF.out⟩
    | true =>
      have HW := Lib.hid hp
      cases hx : Mana.inB x 1000000 with
      | false =>
        have HR := Lib.hid (Mana.pay_arg (arg_x (p := p) (c := c) hx))
        have HX := Lib.hid hx
        rw [HR.out.1, HR.out.2]
        clear hc hp hx
        go_enter Tryd.func28, Tryd.ntmps28
        go_wp2_with fail
        refine (manaIs c _).mono ?_
        rintro e w1 ⟨rfl, hb1⟩
        rw [HC.out]
        have A0 := Lib.hid (N0.out.below hb1 N0.out.lt)
        have A1 := Lib.hid (N1.out.below hb1 N1.out.lt)
        have A2 := Lib.hid (N2.out.below hb1 N2.out.lt)
        have AB := Lib.hid (NB.out.trans (hb1.mono NB.out.size))
        clear hb1 N0 N1 N2 NB
        have c0 := A0.out.cell
        go_wp2_with fail
        refine (manaWhole p _).mono ?_
        rintro e w2 ⟨rfl, hb2⟩
        rw [HW.out]
        have B0 := Lib.hid (A0.out.below hb2 A0.out.lt)
        have B1 := Lib.hid (A1.out.below hb2 A1.out.lt)
        have B2 := Lib.hid (A2.out.below hb2 A2.out.lt)
        have BB := Lib.hid (AB.out.trans (hb2.mono AB.out.size))
        clear hb2 A0 A1 A2 AB c0
        go_wp2_with fail
        refine (manaWithin _ _ _).mono ?_
        rintro e w3 ⟨rfl, rfl⟩
        rw [HX.out]
        have c2 := B2.out.cell
        have f2 := B2.out.free
        go_wp2
        change bodyPost _ _ _ _ _ (set6 w2 (w.heap.size + 1 + 1) Mana.zeroP)
        have hB := (Blk.six (p := Mana.zeroP) B2.out Mana.zeroP).cell
        have HF := Lib.hid (below_six (q := Mana.zeroP) (b := w.heap.size + 1 + 1) BB.out (by omega))
        generalize set6 w2 (w.heap.size + 1 + 1) Mana.zeroP = wf at hB HF
        exact bodyPost_ret (v := .tuple #[.agg #[.int .i64 Mana.zeroP.p0, .int .i64 Mana.zeroP.p1, .int .i64 Mana.zeroP.p2, .int .i64 Mana.zeroP.p3, .int .i64 Mana.zeroP.p4, .int .i64 Mana.zeroP.p5], .int .i64 1]) (by simp [results, Tryd.results28, go_sem, hB]) rfl ⟨rfl, HF.out⟩
      | true =>
        have HX := Lib.hid hx
        have HA := Lib.hid (arg_yes hc hp hx)
        obtain ⟨m0, m1⟩ := Mana.due_bd hc hx
        obtain ⟨⟨g0, g1⟩, ⟨x0, x1⟩, -⟩ := Mana.okC_iff.1 hc
        obtain ⟨y0, y1⟩ := Mana.inB_yes hx
        have HP := Lib.hid (Mana.whole_iff.1 hp)
        have HK := Lib.hid (Mana.okC_col hc)
        have HRB := Lib.hid (Mana.rest_bd hp hc)
        have HBN := Lib.hid (fun k hk hn => Mana.bad_of_neg (p := p) (c := c) (x := x) hp (k := k) hk hn)
        clear hc hp hx
        go_enter Tryd.func28, Tryd.ntmps28
        go_wp2_with fail
        refine (manaIs c _).mono ?_
        rintro e w1 ⟨rfl, hb1⟩
        rw [HC.out]
        have A0 := Lib.hid (N0.out.below hb1 N0.out.lt)
        have A1 := Lib.hid (N1.out.below hb1 N1.out.lt)
        have A2 := Lib.hid (N2.out.below hb1 N2.out.lt)
        have AB := Lib.hid (NB.out.trans (hb1.mono NB.out.size))
        clear hb1 N0 N1 N2 NB
        have c0 := A0.out.cell
        go_wp2_with fail
        refine (manaWhole p _).mono ?_
        rintro e w2 ⟨rfl, hb2⟩
        rw [HW.out]
        have B0 := Lib.hid (A0.out.below hb2 A0.out.lt)
        have B1 := Lib.hid (A1.out.below hb2 A1.out.lt)
        have B2 := Lib.hid (A2.out.below hb2 A2.out.lt)
        have BB := Lib.hid (AB.out.trans (hb2.mono AB.out.size))
        clear hb2 A0 A1 A2 AB c0
        go_wp2_with fail
        refine (manaWithin _ _ _).mono ?_
        rintro e w3 ⟨rfl, rfl⟩
        rw [HX.out]
        have c0 := B0.out.cell
        have c1 := (B1.out.alloc (.cells #[.int .i64 p.p0, .int .i64 p.p1, .int .i64 p.p2, .int .i64 p.p3, .int .i64 p.p4, .int .i64 p.p5] 35)).cell
        have HST : Hid (SubAt p c w w2.heap.size 0 (w2.alloc (.cells #[.int .i64 p.p0, .int .i64 p.p1, .int .i64 p.p2, .int .i64 p.p3, .int .i64 p.p4, .int .i64 p.p5] 35))) := Lib.hid ⟨B1.out.alloc _, B2.out.alloc _, Blk.new _ _ _, B2.out.lt, BB.out.alloc BB.out.size _⟩
        go_wp2_with fail
        go_loopw [32] (fun i wr => ∃ k : Nat, k ≤ 5 ∧ i = .int .i64 (k : Int) ∧ SubAt p c w w2.heap.size k wr) (fun i _ => 5 - (intOf i).toNat)
        case atStart => exact ⟨0, by omega, rfl, HST.out⟩
        case round =>
          clear HST c0 c1
          obtain ⟨k, hk, rfl, hS⟩ := hrel
          have HS := Lib.hid hS
          by_cases hlt : k < 5
          · have hi := index5 c k hlt
            have HEL := Lib.hid (Mana.subTo_high p c k (k + 1) (by omega))
            obtain ⟨p0, p1⟩ := HP.out (k + 1) (by omega)
            obtain ⟨k0, k1⟩ := HK.out k
            have c3 := hS.b3.pool (k + 1) (by omega)
            rw [HEL.out] at c3
            have f3 := hS.b3.free (k + 1)
            clear hS
            go_wp2
            go_roundw
            case rel => exact ⟨k + 1, by omega, by go_num, HS.out.next hlt⟩
            case measure => simp [intOf]; omega
          · obtain rfl : k = 5 := by omega
            have HST : Hid (TakeAt c (Mana.restP p c) (Mana.dueI c x) w w2.heap.size 0 (Mana.dueI c x) (Mana.restP p c) wr) := Lib.hid ⟨rfl, rfl, fun j hj => absurd hj (by omega), hS.b2, hS.b3, hS.hm, hS.hb⟩
            have hb1 : Blk wr (w.heap.size + 1) #[.int .i64 c.g, .int .i64 c.x, .int .i64 c.c0, .int .i64 c.c1, .int .i64 c.c2, .int .i64 c.c3, .int .i64 c.c4] 24 := hS.b1
            have hb3 : Blk wr w2.heap.size #[.int .i64 (Mana.restP p c).p0, .int .i64 (Mana.restP p c).p1, .int .i64 (Mana.restP p c).p2, .int .i64 (Mana.restP p c).p3, .int .i64 (Mana.restP p c).p4, .int .i64 (Mana.restP p c).p5] 35 := hS.b3
            have c1 := hb1.cell
            have c3 := hb3.cell
            clear hS HS hb1 hb3
            have HDU : Hid (Mana.dueI c x = c.g + c.x * x) := Lib.hid rfl
            obtain ⟨R, hRE⟩ : ∃ R, Mana.restP p c = R := ⟨_, rfl⟩
            have HRE := Lib.hid hRE
            rw [hRE] at c3 HST HRB HBN
            clear hRE
            go_wp2
            go_loopw [11, 52] (fun u i wr => ∃ (k : Nat) (d : Int) (r : Mana.Pl), k ≤ 6 ∧ i = .int .i64 (k : Int) ∧ u = .int .i64 d ∧ 0 ≤ d ∧ d ≤ 2000099 ∧ TakeAt c R (Mana.dueI c x) w w2.heap.size k d r wr) (fun _ i _ => 6 - (intOf i).toNat)
            case atStart => exact ⟨0, _, _, by omega, rfl, by rw [HDU.out], by rw [HDU.out]; omega, by rw [HDU.out]; omega, HST.out⟩
            case round =>
              clear HST c1 c3
              obtain ⟨k, d, r, hk, rfl, rfl, d0, d1, hT⟩ := hrel
              have HT := Lib.hid hT
              by_cases hlt : k < 6
              · have hi := index6 R k hlt
                obtain ⟨r0, r1⟩ := HRB.out k hlt
                rcases Int.lt_or_le (R.el k) 0 with hneg | hpos
                · have HR := Lib.hid (Mana.pay_bad HA.out (HBN.out k hlt hneg))
                  have B2' := Lib.hid hT.b2
                  have BB' := Lib.hid hT.hb
                  have c2 := hT.b2.cell
                  have f2 := hT.b2.free
                  clear hT HT
                  go_wp2
                  rw [HR.out.1, HR.out.2]
                  change bodyPost _ _ _ _ _ (set6 wr (w.heap.size + 1 + 1) Mana.zeroP)
                  have hB := (Blk.six (p := Mana.zeroP) B2'.out Mana.zeroP).cell
                  have HF := Lib.hid (below_six (q := Mana.zeroP) (b := w.heap.size + 1 + 1) BB'.out (by omega))
                  generalize set6 wr (w.heap.size + 1 + 1) Mana.zeroP = wf at hB HF
                  exact bodyPost_ret (v := .tuple #[.agg #[.int .i64 Mana.zeroP.p0, .int .i64 Mana.zeroP.p1, .int .i64 Mana.zeroP.p2, .int .i64 Mana.zeroP.p3, .int .i64 Mana.zeroP.p4, .int .i64 Mana.zeroP.p5], .int .i64 12]) (by simp [results, Tryd.results28, go_sem, hB]) rfl ⟨rfl, HF.out⟩
                · have HEL := Lib.hid (show r.el k = R.el k by rw [hT.hr, Mana.takeR_high _ _ k k (Nat.le_refl _)])
                  have c3 := hT.b3.pool k hlt
                  rw [HEL.out] at c3
                  have f3 := hT.b3.free k
                  clear hT
                  by_cases hl : d < R.el k
                  · go_wp2
                    go_roundw
                    case rel => exact ⟨k + 1, 0, _, by omega, by go_num, by simp, by omega, by omega, HT.out.less hlt hpos hl⟩
                    case measure => simp [intOf]; omega
                  · have hl' : R.el k ≤ d := by omega
                    go_wp2
                    go_roundw
                    case rel => exact ⟨k + 1, d - R.el k, _, by omega, by go_num, rfl, by omega, by omega, HT.out.all hlt hpos hl⟩
                    case measure => simp [intOf]; omega
              · obtain rfl : k = 6 := by omega
                have B2' := Lib.hid hT.b2
                have BB' := Lib.hid hT.hb
                have c2 := hT.b2.cell
                have f2 := hT.b2.free
                have c3 := hT.b3.cell
                have HD := Lib.hid (Mana.takeD_eq R (Mana.dueI c x) (by rw [HDU.out]; omega) 6 hT.pos)
                have HRR := Lib.hid hT.hr
                have HDD := Lib.hid hT.hd
                have HPO := Lib.hid hT.pos
                clear hT HT
                by_cases hdu : 0 < d
                · have HR := Lib.hid (Mana.pay_bad (p := p) (c := c) (x := x) HA.out (fun h => h.2 (by have := HD.out.2.2; have := HDD.out; rw [HRE.out]; omega)))
                  go_wp2
                  rw [HR.out.1, HR.out.2]
                  change bodyPost _ _ _ _ _ (set6 wr (w.heap.size + 1 + 1) Mana.zeroP)
                  have hB := (Blk.six (p := Mana.zeroP) B2'.out Mana.zeroP).cell
                  have HF := Lib.hid (below_six (q := Mana.zeroP) (b := w.heap.size + 1 + 1) BB'.out (by omega))
                  generalize set6 wr (w.heap.size + 1 + 1) Mana.zeroP = wf at hB HF
                  exact bodyPost_ret (v := .tuple #[.agg #[.int .i64 Mana.zeroP.p0, .int .i64 Mana.zeroP.p1, .int .i64 Mana.zeroP.p2, .int .i64 Mana.zeroP.p3, .int .i64 Mana.zeroP.p4, .int .i64 Mana.zeroP.p5], .int .i64 12]) (by simp [results, Tryd.results28, go_sem, hB]) rfl ⟨rfl, HF.out⟩
                · have HR := Lib.hid (Mana.pay_good (p := p) (c := c) (x := x) HA.out ⟨Mana.fits_of_rest (by rw [HRE.out]; exact HPO.out), by have := HD.out.2.2; have := HDD.out; rw [HRE.out]; omega⟩)
                  have HQ : Hid (Mana.takeR (Mana.restP p c) (Mana.dueI c x) 6 = r) := Lib.hid (by rw [HRE.out]; exact HRR.out.symm)
                  go_wp2
                  rw [HR.out.1, HR.out.2, HQ.out]
                  change bodyPost _ _ _ _ _ (set6 wr (w.heap.size + 1 + 1) r)
                  have hB := (Blk.six (p := Mana.zeroP) B2'.out r).cell
                  have HF := Lib.hid (below_six (q := r) (b := w.heap.size + 1 + 1) BB'.out (by omega))
                  generalize set6 wr (w.heap.size + 1 + 1) r = wf at hB HF
                  exact bodyPost_ret (v := .tuple #[.agg #[.int .i64 r.p0, .int .i64 r.p1, .int .i64 r.p2, .int .i64 r.p3, .int .i64 r.p4, .int .i64 r.p5], .int .i64 0]) (by simp [results, Tryd.results28, go_sem, hB]) rfl ⟨rfl, HF.out⟩
end Go.Proofs.YtcllaenanihedaaDoor
