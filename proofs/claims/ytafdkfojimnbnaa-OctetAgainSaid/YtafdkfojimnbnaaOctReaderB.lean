/-
  CONTRACTS OF LAYER 4: the program's reader: New, Int, Bool, length, Text, Ints; a nil reader. By an AI agent.
-/
import Derived.Test.YtafdkfojimnbnaaOctReader
namespace Go.Proofs.Ytafdkfojimnbnaa
open Go.RowKit
open Go.Lib (uvarint uvarint_small uvarint_big zigzag unzigzag)

theorem unzig_even {u : Nat} (h : u % 2 = 0) : unzigzag u = ((u / 2 : Nat) : Int) := by unfold unzigzag; rw [if_pos h]
theorem unzig_odd {u : Nat} (h : u % 2 = 1) : unzigzag u = -((u / 2 : Nat) : Int) - 1 := by unfold unzigzag; rw [if_neg (by omega)]
set_option maxRecDepth 100000 in
theorem octSigned (u : Nat) (hu : u < 18446744073709551616) (w : World) : Calls Try.prog 45 #[.int .u64 (u : Int)] w fun e w' => e = .returned (.int .i64 (unzigzag u)) ∧ w = w' := by
  have u0 : (0 : Int) ≤ (u : Int) := by omega
  have u1 : (u : Int) ≤ 18446744073709551615 := by omega
  by_cases h : u % 2 = 1
  · have HZ := Lib.hid (unzig_odd h)
    have t1 : ((u : Int) % 2 == 1) = true := by simp only [beq_iff_eq]; omega
    have hx : bits .xor .i64 (-1) ((u : Int) / 2) = -((u : Int) / 2) - 1 := by
      have := Lib.i64_not (u / 2) (by omega)
      rw [Int.natCast_ediv] at this
      exact this
    clear h hu
    go_enter Try.func45, Try.ntmps45
    go_wp2
    go_ret
    exact ⟨ret_int (by rw [HZ.out]; omega), rfl⟩
  · have HZ := Lib.hid (unzig_even (u := u) (by omega))
    have t1 : ((u : Int) % 2 == 1) = false := by simp only [beq_eq_false_iff_ne]; omega
    clear h hu
    go_enter Try.func45, Try.ntmps45
    go_wp2
    go_ret
    exact ⟨ret_int (by rw [HZ.out]; omega), rfl⟩
theorem uintS_max (s : Oct.St) : Oct.uintS 18446744073709551615 s = Oct.num s := by
  unfold Oct.uintS
  rw [if_pos (by have := Oct.num_lt s; omega)]
set_option maxRecDepth 100000 in
theorem octInt {lo g : Nat} {s : Oct.St} (w : World) (h : RdO lo g w s) : Calls Try.prog 20 #[ptr g] w (Leaves lo g w (.int .i64 (Oct.intS s).1) (Oct.intS s).2) := by
  have HM := Lib.hid (uintS_max s)
  go_enter Try.func20, Try.ntmps20
  go_wp2_with fail
  refine (octUint 18446744073709551615 w h).mono ?_
  rintro e w1 ⟨rfl, hr, hg⟩
  rw [HM.out] at hr
  rw [HM.out]
  go_wp2_with fail
  refine (octSigned _ (Oct.num_lt s) w1).mono ?_
  rintro e w2 ⟨rfl, rfl⟩
  go_wp2_with fail
  go_ret
  exact ⟨rfl, hr, hg⟩
set_option maxRecDepth 100000 in
theorem octBool {lo g : Nat} {s : Oct.St} (w : World) (h : RdO lo g w s) : Calls Try.prog 22 #[ptr g] w (Leaves lo g w (.bool (Oct.boolS s).1) (Oct.boolS s).2) := by
  have HB := Lib.hid (show (((Oct.uintS 1 s).1 : Int) == 1) = (Oct.boolS s).1 by
    unfold Oct.boolS
    by_cases h1 : (Oct.uintS 1 s).1 = 1
    · rw [h1]; rfl
    · have e1 : ((Oct.uintS 1 s).1 == 1) = false := by simp only [beq_eq_false_iff_ne]; exact h1
      rw [e1]
      simp only [beq_eq_false_iff_ne]
      omega)
  go_enter Try.func22, Try.ntmps22
  go_wp2_with fail
  refine (octUint 1 w h).mono ?_
  rintro e w1 ⟨rfl, hr, hg⟩
  go_wp2_with fail
  go_ret
  exact ⟨ret_bool HB.out, hr, hg⟩
set_option maxRecDepth 100000 in
theorem octLength {lo g : Nat} {s : Oct.St} (most : Int) (h0 : -9223372036854775808 ≤ most) (h1 : most ≤ 9223372036854775807) (w : World) (h : RdO lo g w s) :
    Calls Try.prog 47 #[ptr g, .int .i64 most] w (Leaves lo g w (.int .u64 ((Oct.lenS most s).1 : Int)) (Oct.lenS most s).2) := by
  by_cases hm : most < 0
  · have HL := Lib.hid (show Oct.lenS most s = Oct.uintS 0 s by unfold Oct.lenS; congr 1; omega)
    have t1 : most ≤ 0 := by omega
    go_enter Try.func47, Try.ntmps47
    go_wp2_with fail
    refine (octUint 0 w h).mono ?_
    rintro e w1 ⟨rfl, hr, hg⟩
    go_wp2_with fail
    go_ret
    rw [HL.out]
    exact ⟨rfl, hr, hg⟩
  · obtain ⟨m, rfl⟩ := Int.eq_ofNat_of_zero_le (show 0 ≤ most by omega)
    have HL := Lib.hid (show Oct.lenS (m : Int) s = Oct.uintS m s by unfold Oct.lenS; congr 1; omega)
    have t0 : (0 : Int) ≤ (m : Int) := by omega
    go_enter Try.func47, Try.ntmps47
    go_wp2_with fail
    refine (octUint m w h).mono ?_
    rintro e w1 ⟨rfl, hr, hg⟩
    go_wp2_with fail
    go_ret
    rw [HL.out]
    exact ⟨rfl, hr, hg⟩

/-- a reader behind a step that leaves its blocks alone -/
theorem RdO.past {lo g : Nat} {w w' : World} {s : Oct.St} {r : Option Nat} (h : RdO lo g w s) (hg : w.grownBy w' r) (hr : ∀ k, r = some k → g < k) : RdO lo g w' s :=
  h.keep hg.size fun k hk => hg.block k (by have := h.lt; omega) fun e => by have := hr k e.symm; omega
set_option maxHeartbeats 1000000 in
set_option maxRecDepth 100000 in
theorem octText {lo g : Nat} {s : Oct.St} (most : Int) (h0 : -9223372036854775808 ≤ most) (h1 : most ≤ 9223372036854775807) (w : World) (h : RdO lo g w s) :
    Calls Try.prog 23 #[ptr g, .int .i64 most] w (Leaves lo g w (.string ⟨(Oct.textS most s).1.toArray⟩) (Oct.textS most s).2) := by
  have hlt := (Oct.uintS_lt (max most 0).toNat s).1
  replace hlt : (Oct.lenS most s).1 < 18446744073709551616 := hlt
  have HT := Lib.hid (show Oct.textS most s = if (Oct.lenS most s).2.1.length < (Oct.lenS most s).1 then ([], ([], 4)) else ((Oct.lenS most s).2.1.take (Oct.lenS most s).1, ((Oct.lenS most s).2.1.drop (Oct.lenS most s).1, (Oct.lenS most s).2.2)) from rfl)
  have hlen := octLength most h0 h1 w h
  generalize Oct.lenS most s = p at hlt HT hlen
  obtain ⟨n, l, er⟩ := p
  replace hlt : n < 18446744073709551616 := hlt
  have n0 : (0 : Int) ≤ (n : Int) := by omega
  have n1 : (n : Int) ≤ 18446744073709551615 := by omega
  go_enter Try.func23, Try.ntmps23
  go_wp2_with fail
  refine hlen.mono ?_
  rintro e w1 ⟨rfl, hr, hg⟩
  replace hr : RdO lo g w1 (l, er) := hr
  have hrow := hr
  obtain ⟨v, hbox, hrow⟩ := hrow
  replace hrow : RowIn encB lo g w1 v l := hrow
  have hcap : l.length ≤ 9223372036854775807 := by
    obtain ⟨a, c, -, hc1, hc2, -⟩ := hrow
    unfold maxLen at hc2
    omega
  have l0 : (0 : Int) ≤ (l.length : Int) := by omega
  have l1 : (l.length : Int) ≤ 9223372036854775807 := by omega
  by_cases hs : l.length < n
  · rw [if_pos hs] at HT
    have t1 : (l.length : Int) < (n : Int) := by omega
    clear hs hlt
    go_wp2_with fail
    refine (octLeft w1 hr).mono ?_
    rintro e w2 ⟨rfl, rfl⟩
    go_wp2_with fail
    refine (octFail 4 w1 hr).mono ?_
    rintro e w2 ⟨rfl, hr2, hg2⟩
    go_wp2_with fail
    go_ret
    rw [HT.out]
    exact ⟨rfl, hr2, hg.trans hg2⟩
  · rw [if_neg hs] at HT
    have t1 : ¬ (l.length : Int) < (n : Int) := by omega
    have t2 : (n : Int) ≤ (l.length : Int) := by omega
    by_cases hz : n = 0
    · subst hz
      clear hs hlt
      go_wp2_with fail
      refine (octLeft w1 hr).mono ?_
      rintro e w2 ⟨rfl, rfl⟩
      go_wp2_with fail
      go_ret
      rw [HT.out]
      exact ⟨rfl, hr, hg⟩
    · rcases hrow.shape with ⟨a, c, rfl, rfl, -, -⟩ | ⟨b, o, c, rfl, hp, -, -, -, hlc, hcm, -⟩
      · exfalso; simp at hs; omega
      have t3 : ((n : Int) == 0) = false := by simp only [beq_eq_false_iff_ne]; omega
      have t4 : (n : Int) ≤ (c : Int) := by omega
      have hcv := run_text (hrow.take n (by omega))
      have c0 : w1.cell? ⟨g, 0, none⟩ = some (.slice (some ⟨b, o, none⟩) l.length c) := by rw [box_cell hbox]; rfl
      have f0 := frozen_of_row w1 g 0 _ _ hbox
      have H1 := Lib.hid hbox
      clear hbox hlt
      unfold maxLen at hcm
      go_wp2_with fail
      refine (octLeft w1 hr).mono ?_
      rintro e w2 ⟨rfl, rfl⟩
      go_wp2_with fail
      all_goals go_ret
      all_goals rw [HT.out]
      all_goals exact ⟨rfl, ⟨_, heap_setCell_same _ g 0 _ _ _ H1.out, (hrow.cut rfl n (by omega) (by intro hck; first | rfl | (exfalso; omega)) (by omega)).set 0⟩, hg.trans (grownBy_set _ _ _ _)⟩
end Go.Proofs.Ytafdkfojimnbnaa
