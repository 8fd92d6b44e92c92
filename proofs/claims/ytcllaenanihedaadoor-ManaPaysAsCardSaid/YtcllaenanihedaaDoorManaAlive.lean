/-
  THE CHAPTER's EXAMPLES: CanPay, alive. By an AI agent.
-/
import Derived.Test.YtcllaenanihedaaDoorManaSpell
import Derived.Test.YtcllaenanihedaaDoorManaParsePool
import Derived.Test.YtcllaenanihedaaDoorManaPayRef
namespace Go.Proofs.YtcllaenanihedaaDoor
open Go.RowKit

theorem alive_pay : Mana.payP ⟨1, 1, 0, 0, 2, 0⟩ ⟨1, 0, 0, 0, 0, 1, 0⟩ 0 = ⟨0, 1, 0, 0, 1, 0⟩ ∧ Mana.payE ⟨1, 1, 0, 0, 2, 0⟩ ⟨1, 0, 0, 0, 0, 1, 0⟩ 0 = 0 := by
  have hg : Mana.good ⟨1, 1, 0, 0, 2, 0⟩ ⟨1, 0, 0, 0, 0, 1, 0⟩ 0 := ⟨fun j hj => by
    match j, hj with
    | 0, _ => decide
    | 1, _ => decide
    | 2, _ => decide
    | 3, _ => decide
    | 4, _ => decide, by decide⟩
  have h := Mana.pay_good (p := ⟨1, 1, 0, 0, 2, 0⟩) (c := ⟨1, 0, 0, 0, 0, 1, 0⟩) (x := 0) (by decide) hg
  exact ⟨h.1.trans rfl, h.2⟩
theorem alivePay (w : World) :
    Calls Tryd.prog 28 #[.agg #[.int .i64 1, .int .i64 1, .int .i64 0, .int .i64 0, .int .i64 2, .int .i64 0], .agg #[.int .i64 1, .int .i64 0, .int .i64 0, .int .i64 0, .int .i64 0, .int .i64 1, .int .i64 0], .int .i64 0] w
      fun e w' => e = .returned (.tuple #[.agg #[.int .i64 0, .int .i64 1, .int .i64 0, .int .i64 0, .int .i64 1, .int .i64 0], .int .i64 0]) ∧ Below w.heap.size w w' := by
  have h := manaPay ⟨1, 1, 0, 0, 2, 0⟩ ⟨1, 0, 0, 0, 0, 1, 0⟩ 0 w
  rw [alive_pay.1, alive_pay.2] at h
  exact h
theorem gen_three : Mana.genL 3 = [51] := by
  unfold Mana.genL
  rw [if_pos (by decide), Num.itoa_nonneg (by decide)]
  exact Lib.decDigits_one (by decide)
theorem text_xx3r : Mana.textL ⟨3, 2, 0, 0, 0, 1, 0⟩ = [88, 88, 51, 82] := by
  have hb : Mana.bodyTo ⟨3, 2, 0, 0, 0, 1, 0⟩ 5 = [88, 88, 51, 82] := by
    unfold Mana.bodyTo
    rw [gen_three]
    rfl
  rw [Mana.text_body (by decide) (by rw [hb]; simp), hb]
theorem text_3r : Mana.textL ⟨3, 0, 0, 0, 0, 1, 0⟩ = [51, 82] := by
  have hb : Mana.bodyTo ⟨3, 0, 0, 0, 0, 1, 0⟩ 5 = [51, 82] := by
    unfold Mana.bodyTo
    rw [gen_three]
    rfl
  rw [Mana.text_body (by decide) (by rw [hb]; simp), hb]
theorem parse_xx3r : Mana.parseC [88, 88, 51, 82] = ⟨3, 2, 0, 0, 0, 1, 0⟩ ∧ Mana.parseE [88, 88, 51, 82] = 0 := by
  have h := Mana.parse_text (c := ⟨3, 2, 0, 0, 0, 1, 0⟩) (by decide)
  rwa [text_xx3r] at h
theorem parse_r3 : Mana.parseC [82, 51] = Mana.zeroC ∧ Mana.parseE [82, 51] = 3 := by
  have h := Mana.ref_bad (l := [82, 51]) (c := ⟨3, 0, 0, 0, 0, 1, 0⟩) (by decide) rfl (fun h => by rw [text_3r] at h; simp at h)
  have hp := Mana.parse_ref [82, 51]
  exact ⟨hp.1.symm.trans h.1, hp.2.symm.trans h.2⟩
theorem aliveXX (w : World) (hE : Env w) :
    Calls Tryd.prog 18 #[.string ⟨#[88, 88, 51, 82]⟩] w
      fun e w' => e = .returned (.tuple #[.agg #[.int .i64 3, .int .i64 2, .int .i64 0, .int .i64 0, .int .i64 0, .int .i64 1, .int .i64 0], .int .i64 0]) ∧ Below w.heap.size w w' := by
  have h := manaParse ⟨#[88, 88, 51, 82]⟩ (by decide) w hE
  have e : (⟨#[88, 88, 51, 82]⟩ : ByteArray).data.toList = [88, 88, 51, 82] := rfl
  rw [e, parse_xx3r.1, parse_xx3r.2] at h
  exact h
theorem aliveR3 (w : World) (hE : Env w) :
    Calls Tryd.prog 18 #[.string ⟨#[82, 51]⟩] w
      fun e w' => e = .returned (.tuple #[.agg #[.int .i64 0, .int .i64 0, .int .i64 0, .int .i64 0, .int .i64 0, .int .i64 0, .int .i64 0], .int .i64 3]) ∧ Below w.heap.size w w' := by
  have h := manaParse ⟨#[82, 51]⟩ (by decide) w hE
  have e : (⟨#[82, 51]⟩ : ByteArray).data.toList = [82, 51] := rfl
  rw [e, parse_r3.1, parse_r3.2] at h
  exact h
theorem aliveValue (w : World) :
    Calls Tryd.prog 13 #[.agg #[.int .i64 2, .int .i64 0, .int .i64 2, .int .i64 0, .int .i64 0, .int .i64 0, .int .i64 0], .int .i64 5] w fun e w' => e = .returned (.int .i64 4) ∧ Below w.heap.size w w' := by
  have h := manaValue ⟨2, 0, 2, 0, 0, 0, 0⟩ 5 w
  rw [show Mana.valI ⟨2, 0, 2, 0, 0, 0, 0⟩ 5 = 4 by decide] at h
  exact h
theorem aliveText (w : World) (hE : Env w) :
    Calls Tryd.prog 11 #[.agg #[.int .i64 0, .int .i64 0, .int .i64 0, .int .i64 0, .int .i64 0, .int .i64 0, .int .i64 0]] w fun e w' => e = .returned (.string ⟨#[48]⟩) ∧ Below w.heap.size w w' := by
  have h := manaText Mana.zeroC w hE
  rw [Mana.text_zeroC] at h
  exact h
set_option maxHeartbeats 1000000 in
set_option maxRecDepth 100000 in
theorem manaAlive (w : World) (hE : Env w) :
    Calls Tryd.prog 17 #[] w fun e w' => e = .returned (.bool true) ∧ Below w.heap.size w w' := by
  have HE := Lib.hid hE
  clear hE
  have q1 : ∀ W : World, (Op.equalIn 10000 35 (.agg #[.int .i64 0, .int .i64 1, .int .i64 0, .int .i64 0, .int .i64 1, .int .i64 0]) (.agg #[.int .i64 0, .int .i64 1, .int .i64 0, .int .i64 0, .int .i64 1, .int .i64 0])).run Tryd.prog W = .ok true W := fun W => run_eq_pool ⟨0, 1, 0, 0, 1, 0⟩ ⟨0, 1, 0, 0, 1, 0⟩ W
  have q2 : ∀ W : World, (Op.equalIn 10000 24 (.agg #[.int .i64 3, .int .i64 2, .int .i64 0, .int .i64 0, .int .i64 0, .int .i64 1, .int .i64 0]) (.agg #[.int .i64 3, .int .i64 2, .int .i64 0, .int .i64 0, .int .i64 0, .int .i64 1, .int .i64 0])).run Tryd.prog W = .ok true W := fun W => run_eq_cost ⟨3, 2, 0, 0, 0, 1, 0⟩ ⟨3, 2, 0, 0, 0, 1, 0⟩ W
  go_enter Tryd.func17, Tryd.ntmps17
  go_wp2_with fail
  refine (alivePay _).mono ?_
  rintro e w1 ⟨rfl, hb1⟩
  have B1 := Lib.hid (Blk.new w1 #[.int .i64 0, .int .i64 1, .int .i64 0, .int .i64 0, .int .i64 1, .int .i64 0] 35)
  have H1 := Lib.hid (hb1.alloc hb1.size (.cells #[.int .i64 0, .int .i64 1, .int .i64 0, .int .i64 0, .int .i64 1, .int .i64 0] 35))
  clear hb1
  go_wp2_with fail
  refine (aliveXX _ (HE.out.below H1.out)).mono ?_
  rintro e w2 ⟨rfl, hb2⟩
  have C1 := Lib.hid ((B1.out.below hb2 B1.out.lt).alloc (.cells #[.int .i64 3, .int .i64 2, .int .i64 0, .int .i64 0, .int .i64 0, .int .i64 1, .int .i64 0] 24))
  have C2 := Lib.hid (Blk.new w2 #[.int .i64 3, .int .i64 2, .int .i64 0, .int .i64 0, .int .i64 0, .int .i64 1, .int .i64 0] 24)
  have H2 := Lib.hid ((H1.out.trans (hb2.mono H1.out.size)).alloc ((H1.out.trans (hb2.mono H1.out.size)).size) (.cells #[.int .i64 3, .int .i64 2, .int .i64 0, .int .i64 0, .int .i64 0, .int .i64 1, .int .i64 0] 24))
  clear hb2 B1 H1
  go_wp2_with fail
  refine (aliveR3 _ (HE.out.below H2.out)).mono ?_
  rintro e w3 ⟨rfl, hb3⟩
  have D1 := Lib.hid ((C1.out.below hb3 C1.out.lt).alloc (.cells #[.int .i64 0, .int .i64 0, .int .i64 0, .int .i64 0, .int .i64 0, .int .i64 0, .int .i64 0] 24))
  have D2 := Lib.hid ((C2.out.below hb3 C2.out.lt).alloc (.cells #[.int .i64 0, .int .i64 0, .int .i64 0, .int .i64 0, .int .i64 0, .int .i64 0, .int .i64 0] 24))
  have H3 := Lib.hid ((H2.out.trans (hb3.mono H2.out.size)).alloc ((H2.out.trans (hb3.mono H2.out.size)).size) (.cells #[.int .i64 0, .int .i64 0, .int .i64 0, .int .i64 0, .int .i64 0, .int .i64 0, .int .i64 0] 24))
  clear hb3 C1 C2 H2
  go_wp2_with fail
  refine (aliveValue _).mono ?_
  rintro e w4 ⟨rfl, hb4⟩
  have E1 := Lib.hid (D1.out.below hb4 D1.out.lt)
  have E2 := Lib.hid (D2.out.below hb4 D2.out.lt)
  have H4 := Lib.hid (H3.out.trans (hb4.mono H3.out.size))
  clear hb4 D1 D2 H3
  have c1 := E1.out.cell
  have c2 := E2.out.cell
  go_wp2_with fail
  refine (aliveText _ (HE.out.below H4.out)).mono ?_
  rintro e w5 ⟨rfl, hb5⟩
  have H5 := Lib.hid (H4.out.trans (hb5.mono H4.out.size))
  clear hb5 E1 E2 H4 c1 c2
  go_wp2
  go_ret
  exact ⟨rfl, H5.out⟩
set_option maxHeartbeats 1000000 in
set_option maxRecDepth 100000 in
theorem manaCanPayAny (p : Mana.Pl) (c : Mana.Cst) (x : Int) (q : Mana.Pl) (er : Int) (hP : ∀ w, Calls Tryd.prog 28 #[.agg #[.int .i64 p.p0, .int .i64 p.p1, .int .i64 p.p2, .int .i64 p.p3, .int .i64 p.p4, .int .i64 p.p5], .agg #[.int .i64 c.g, .int .i64 c.x, .int .i64 c.c0, .int .i64 c.c1, .int .i64 c.c2, .int .i64 c.c3, .int .i64 c.c4], .int .i64 x] w fun e w' => e = .returned (.tuple #[.agg #[.int .i64 q.p0, .int .i64 q.p1, .int .i64 q.p2, .int .i64 q.p3, .int .i64 q.p4, .int .i64 q.p5], .int .i64 er]) ∧ Below w.heap.size w w') (w : World) :
    Calls Tryd.prog 30 #[.agg #[.int .i64 p.p0, .int .i64 p.p1, .int .i64 p.p2, .int .i64 p.p3, .int .i64 p.p4, .int .i64 p.p5], .agg #[.int .i64 c.g, .int .i64 c.x, .int .i64 c.c0, .int .i64 c.c1, .int .i64 c.c2, .int .i64 c.c3, .int .i64 c.c4], .int .i64 x] w fun e w' => e = .returned (.bool (er == 0)) ∧ Below w.heap.size w w' := by
  have H0 : Hid (Below w.heap.size w ((w.alloc (.cells #[.int .i64 p.p0, .int .i64 p.p1, .int .i64 p.p2, .int .i64 p.p3, .int .i64 p.p4, .int .i64 p.p5] 35)).alloc (.cells #[.int .i64 c.g, .int .i64 c.x, .int .i64 c.c0, .int .i64 c.c1, .int .i64 c.c2, .int .i64 c.c3, .int .i64 c.c4] 24))) := Lib.hid (by go_grown)
  have HP := Lib.hid hP
  clear hP
  go_enter Tryd.func30, Tryd.ntmps30
  go_wp2_with fail
  refine (HP.out _).mono ?_
  rintro e w1 ⟨rfl, hb1⟩
  have H1 := Lib.hid (H0.out.trans (hb1.mono H0.out.size))
  have H2 := Lib.hid (H1.out.alloc H1.out.size (.cells #[.int .i64 q.p0, .int .i64 q.p1, .int .i64 q.p2, .int .i64 q.p3, .int .i64 q.p4, .int .i64 q.p5] 35))
  clear hb1 H0
  go_wp2
  go_ret
  exact ⟨rfl, H2.out⟩
theorem manaCanPay (p : Mana.Pl) (c : Mana.Cst) (x : Int) (w : World) :
    Calls Tryd.prog 30 #[.agg #[.int .i64 p.p0, .int .i64 p.p1, .int .i64 p.p2, .int .i64 p.p3, .int .i64 p.p4, .int .i64 p.p5], .agg #[.int .i64 c.g, .int .i64 c.x, .int .i64 c.c0, .int .i64 c.c1, .int .i64 c.c2, .int .i64 c.c3, .int .i64 c.c4], .int .i64 x] w fun e w' => e = .returned (.bool (Mana.payE p c x == 0)) ∧ Below w.heap.size w w' :=
  manaCanPayAny p c x _ _ (fun w => manaPay p c x w) w
end Go.Proofs.YtcllaenanihedaaDoor
