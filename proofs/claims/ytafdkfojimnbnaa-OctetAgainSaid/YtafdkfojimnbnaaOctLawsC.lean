/-
  LAYER 4's LAWS: OctetAgain. By an AI agent.
-/
import Derived.Test.YtafdkfojimnbnaaOctLaws
namespace Go.Proofs.Ytafdkfojimnbnaa
open Go.RowKit
open Go.Lib (uvarint uvarint_small uvarint_big zigzag unzigzag)

theorem below_undrew {B : Nat} {w w' : World} (hb : Below B w.drew w') : Below B w w' := ⟨hb.os, hb.tape, hb.output, hb.size, hb.block⟩
theorem enc_one {n lo hi : Nat} {w : World} {v : Value} {m : List UInt8} (h : uvarint n = m) (hr : RowIn encB lo hi w v ([] ++ encAll [n])) : RowIn encB lo hi w v m := by
  have e : [] ++ encAll [n] = m := by simpa [encAll] using h
  rw [← e]
  exact hr
theorem enc_two {n lo hi : Nat} {z : Int} {w : World} {v : Value} {m : List UInt8} (hz : zigzag z = n) (h : uvarint n = m) (hr : RowIn encB lo hi w v ([] ++ uvarint (zigzag z))) : RowIn encB lo hi w v m := by
  rw [hz, List.nil_append, h] at hr
  exact hr
set_option maxHeartbeats 4000000 in
set_option maxRecDepth 100000 in
theorem lawAgain (va : Value) (l : List UInt8) (w : World) (ha : Bytes w va l) (hl : l.length ≤ 140737488355328) :
    Calls Try.prog 6 #[va] w fun e w' => e = .returned (.bool true) ∧ Below w.heap.size w w' := by
  have hA := ha
  obtain ⟨a, c, rfl, hc1, hc2, hcn, hd⟩ := hA
  unfold maxLen at hc2
  go_enter Try.func6, Try.ntmps6
  go_wp2_with fail
  refine (octNew _ l w ha hl).mono ?_
  rintro e w1 ⟨g, rfl, hg, hr, hb1⟩
  have hnum : Oct.uintS 18446744073709551615 (l, 0) = Oct.num (l, 0) := uintS_max (l, 0)
  have hint : Oct.intS (l, 0) = (unzigzag (Oct.num (l, 0)).1, (Oct.num (l, 0)).2) := rfl
  have hu := octUint 18446744073709551615 w1 hr
  rw [hnum] at hu
  go_wp2_with fail
  refine hu.mono ?_
  rintro e w2 ⟨rfl, hr2, hg2⟩
  have hb02 : Below w.heap.size w w2 := hb1.grown hg2 hb1.size (by rintro j ⟨⟩; exact hg)
  go_wp2_with fail
  refine (octNew _ l w2 (ha.under hb02 (Nat.le_refl _)) hl).mono ?_
  rintro e w3 ⟨g2, rfl, hg3, hq, hb3⟩
  have hgg : g < g2 := by have := hr2.lt; omega
  have hr3 := hr2.past (r := none) (grownBy_below hb3) (fun k e => by cases e)
  have hi := octInt w3 hq
  rw [hint] at hi
  have hb03 := hb02.trans (hb3.mono hb02.size)
  go_wp2_with fail
  refine hi.mono ?_
  rintro e w4 ⟨rfl, hq4, hg4⟩
  have hr4 := hr3.past hg4 (fun k e => by injection e with e; omega)
  have hb04 : Below w.heap.size w w4 := hb03.grown hg4 hb03.size (by rintro j ⟨⟩; have := hb02.size; omega)
  clear hr hr2 hr3 hq hb1 hb3 hg2 hg4 hu hi hb03 hnum hint
  by_cases hok : (Oct.dec l).2.2 = 0
  · obtain ⟨k1, k2, k3, k4⟩ := Oct.dec_back (l := l) (n := (Oct.dec l).1) (k := (Oct.dec l).2.1) (by rw [← hok])
    have hn := num_ok hok
    rw [hn] at hr4 hq4 ⊢
    generalize (Oct.dec l).1 = n at k3 k4 hr4 hq4 ⊢
    generalize (Oct.dec l).2.1 = k at k1 k2 k4 hr4 hq4 ⊢
    have e1 := octErr w4 hr4
    have e2 := octErr w4 hq4
    have e3 := octLeft w4 hr4
    have hzz := Oct.zigzag_unzigzag n
    obtain ⟨z0, z1⟩ := Oct.unzigzag_range k3
    generalize unzigzag n = z at hzz z0 z1 ⊢
    obtain ⟨b, o, ad⟩ : ∃ b o, a = some ⟨b, o, none⟩ := by
      obtain ⟨b, o, e, -⟩ := hd 0 _ (getD_get (d := 0) (by omega))
      exact ⟨b, o, e⟩
    subst ad
    have hused := ha.takeAny k k2
    generalize hm : l.take k = m at hused k4
    have hmk : m.length = k := by rw [← hm, List.length_take, Nat.min_eq_left k2]
    obtain ⟨q, hq0, HQ⟩ : ∃ q : Nat, (l.drop k).length = q ∧ Hid (q = l.length - k) := ⟨_, rfl, Lib.hid (List.length_drop ..)⟩
    simp only [hq0] at e3
    have q0 : (0 : Int) ≤ (q : Int) := by omega
    have q1 : (q : Int) ≤ (l.length : Int) := by have := HQ.out; omega
    have q2 : (l.length : Int) - (q : Int) = (k : Int) := by have := HQ.out; omega
    have q3 : ¬ (q : Int) < 0 := by omega
    have q4 : ¬ (l.length : Int) < (q : Int) := by omega
    have q5 : (0 : Int) ≤ (k : Int) := by omega
    have q6 : (k : Int) ≤ (c : Int) := by omega
    have HK := Lib.hid k4
    have HZ := Lib.hid hzz
    clear hn hok hm hmk hq0 k4 hzz hd hcn hr4 hq4
    go_wp2_with fail
    refine e1.mono ?_
    rintro e w5 ⟨rfl, rfl⟩
    go_wp2_with fail
    refine e2.mono ?_
    rintro e w5 ⟨rfl, rfl⟩
    go_wp2_with fail
    refine e1.mono ?_
    rintro e w5 ⟨rfl, rfl⟩
    go_wp2_with fail
    refine e3.mono ?_
    rintro e w5 ⟨rfl, rfl⟩
    go_wp2_with fail
    refine e3.mono ?_
    rintro e w5 ⟨rfl, rfl⟩
    go_wp2_with fail
    refine e3.mono ?_
    rintro e w5 ⟨rfl, rfl⟩
    go_wp2_with fail
    go_region_with
      (first
        | (go_at_call 12; refine (alive _).mono ?_; rintro e w5 ⟨rfl, hb5⟩; have hB5 : Below w.heap.size w w5 := hb04.trans ((below_undrew hb5).mono hb04.size); have hu5 := run_text (hused.below hB5 (Nat.le_refl _)); have hu5' := fun o => run_text (hused.below (hB5.alloc hB5.size o) (Nat.le_refl _)))
        | (go_at_call 8; refine (octPut (.slice none 0 0) _ [] [n] _ (RowIn.nil _ _ _ _) (lit_one w5 n) (by simpa [Fits64] using k3) (by simp)).mono ?_; rintro e w6 ⟨v6, rfl, ho6, hb6⟩; have hc6 := run_text (enc_one (n := n) HK.out ho6.row); have hB6 : Below w.heap.size w w6 := (hB5.alloc hB5.size _).trans (hb6.mono (Nat.le_trans hB5.size (by simp))); have hu6 := run_text (hused.below hB6 (Nat.le_refl _)))
        | (go_at_call 21; refine (octPutInt (.slice none 0 0) [] z _ (RowIn.nil _ _ _ _) z0 z1 (by simp)).mono ?_; rintro e w7 ⟨v7, rfl, ho7, hb7⟩; have hc7 := run_text (enc_two HZ.out HK.out ho7.row); have hB7 : Below w.heap.size w w7 := hB6.trans (hb7.mono hB6.size); have hu7 := run_text (hused.below hB7 (Nat.le_refl _))))
    all_goals go_wp2_with fail
    all_goals go_ret
    all_goals exact ⟨by first | rfl | simp [Act.put], hB7⟩
  · have hn := num_bad hok
    rw [hn] at hr4 hq4 ⊢
    generalize (Oct.dec l).2.2 = x at hok hr4 hq4 ⊢
    have e1 := octErr w4 hr4
    have e2 := octErr w4 hq4
    have t1 : ((x : Int) == 0) = false := by simp only [beq_eq_false_iff_ne]; exact hok
    clear hn hok
    go_wp2_with fail
    refine e1.mono ?_
    rintro e w5 ⟨rfl, rfl⟩
    go_wp2_with fail
    refine e2.mono ?_
    rintro e w5 ⟨rfl, rfl⟩
    go_wp2_with fail
    refine e1.mono ?_
    rintro e w5 ⟨rfl, rfl⟩
    go_wp2_with fail
    refine (alive w4).mono ?_
    rintro e w5 ⟨rfl, hb5⟩
    have e3 := octLeft w5 (hr4.past (r := none) (grownBy_below hb5) (fun k e => by cases e))
    go_wp2_with fail
    refine e3.mono ?_
    rintro e w6 ⟨rfl, rfl⟩
    go_wp2_with fail
    go_ret
    exact ⟨rfl, hb04.trans (hb5.mono hb04.size)⟩
end Go.Proofs.Ytafdkfojimnbnaa
