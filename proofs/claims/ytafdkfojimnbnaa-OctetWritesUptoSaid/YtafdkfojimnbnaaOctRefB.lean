/-
  CONTRACTS OF LAYER 4: the reference's reader: New, Uint, Int, Bool, length, Text, Ints. By an AI agent.
-/
import Derived.Test.YtafdkfojimnbnaaOctRef
namespace Go.Proofs.Ytafdkfojimnbnaa
open Go.RowKit
open Go.Lib (uvarint uvarint_small uvarint_big zigzag unzigzag)

theorem num_zero {s : Oct.St} (h : (Oct.num s).2.2 ≠ 0) : (Oct.num s).1 = 0 := by
  unfold Oct.num at h ⊢
  split
  · rename_i h2
    rw [if_pos h2] at h
    split
    · rename_i h3; rw [if_pos h3] at h; simp at h
    · rfl
  · rfl
set_option maxRecDepth 100000 in
theorem refUint {lo g : Nat} {s : Oct.St} (most : Nat) (w : World) (h : RdR lo g w s) :
    Calls Try.prog 35 #[ptr g, .int .u64 (most : Int)] w (LeavesR lo g w (.int .u64 ((Oct.uintS most s).1 : Int)) (Oct.uintS most s).2) := by
  have hn := refNumber w h
  by_cases hm : (Oct.num s).1 ≤ most
  · have HS := Lib.hid (show Oct.uintS most s = Oct.num s by unfold Oct.uintS; rw [if_pos hm])
    have t1 : ((Oct.num s).1 : Int) ≤ (most : Int) := by omega
    clear hm
    go_enter Try.func35, Try.ntmps35
    go_wp2_with fail
    refine hn.mono ?_
    rintro e w1 ⟨rfl, hr, hg⟩
    go_wp2_with fail
    go_ret
    rw [HS.out]
    exact ⟨rfl, hr, hg⟩
  · have HS := Lib.hid (show Oct.uintS most s = (0, ([], 2)) by unfold Oct.uintS; rw [if_neg hm])
    have hz : (Oct.num s).2.2 = 0 := by
      by_cases h0 : (Oct.num s).2.2 = 0
      · exact h0
      · have := num_zero h0; omega
    have t1 : ¬ ((Oct.num s).1 : Int) ≤ (most : Int) := by omega
    clear hm
    go_enter Try.func35, Try.ntmps35
    go_wp2_with fail
    refine hn.mono ?_
    rintro e w1 ⟨rfl, hr, hg⟩
    go_wp2_with fail
    refine (refFail 2 w1 hr hz (by decide)).mono ?_
    rintro e w2 ⟨rfl, hr2, hg2⟩
    go_wp2_with fail
    go_ret
    rw [HS.out]
    exact ⟨rfl, hr2, hg.trans hg2⟩
set_option maxRecDepth 100000 in
theorem refInt {lo g : Nat} {s : Oct.St} (w : World) (h : RdR lo g w s) : Calls Try.prog 36 #[ptr g] w (LeavesR lo g w (.int .i64 (Oct.intS s).1) (Oct.intS s).2) := by
  have hn := refNumber w h
  have hu := Oct.num_lt s
  have HI := Lib.hid (show Oct.intS s = (unzigzag (Oct.num s).1, (Oct.num s).2) from rfl)
  generalize Oct.num s = p at hn hu HI
  obtain ⟨u, s2⟩ := p
  replace hu : u < 18446744073709551616 := hu
  have u0 : (0 : Int) ≤ (u : Int) := by omega
  have u1 : (u : Int) ≤ 18446744073709551615 := by omega
  by_cases h2 : u % 2 = 1
  · have HZ := Lib.hid (unzig_odd h2)
    have t1 : ((u : Int) % 2 == 1) = true := by simp only [beq_iff_eq]; omega
    clear h2 hu
    go_enter Try.func36, Try.ntmps36
    go_wp2_with fail
    refine hn.mono ?_
    rintro e w1 ⟨rfl, hr, hg⟩
    go_wp2_with fail
    go_ret
    rw [HI.out]
    exact ⟨ret_int (by rw [HZ.out]; omega), hr, hg⟩
  · have HZ := Lib.hid (unzig_even (u := u) (by omega))
    have t1 : ((u : Int) % 2 == 1) = false := by simp only [beq_eq_false_iff_ne]; omega
    clear h2 hu
    go_enter Try.func36, Try.ntmps36
    go_wp2_with fail
    refine hn.mono ?_
    rintro e w1 ⟨rfl, hr, hg⟩
    go_wp2_with fail
    go_ret
    rw [HI.out]
    exact ⟨ret_int (by rw [HZ.out]; omega), hr, hg⟩
set_option maxRecDepth 100000 in
theorem refBool {lo g : Nat} {s : Oct.St} (w : World) (h : RdR lo g w s) : Calls Try.prog 37 #[ptr g] w (LeavesR lo g w (.bool (Oct.boolS s).1) (Oct.boolS s).2) := by
  have HB := Lib.hid (show (((Oct.uintS 1 s).1 : Int) == 1) = (Oct.boolS s).1 by
    unfold Oct.boolS
    by_cases h1 : (Oct.uintS 1 s).1 = 1
    · rw [h1]; rfl
    · have e1 : ((Oct.uintS 1 s).1 == 1) = false := by simp only [beq_eq_false_iff_ne]; exact h1
      rw [e1]
      simp only [beq_eq_false_iff_ne]
      omega)
  go_enter Try.func37, Try.ntmps37
  go_wp2_with fail
  refine (refUint 1 w h).mono ?_
  rintro e w1 ⟨rfl, hr, hg⟩
  go_wp2_with fail
  go_ret
  exact ⟨ret_bool HB.out, hr, hg⟩
theorem lenS_most (most : Int) (s : Oct.St) : ((Oct.lenS most s).1 : Int) ≤ max most 0 := by
  have := (Oct.uintS_lt (max most 0).toNat s).2
  unfold Oct.lenS
  omega
set_option maxRecDepth 100000 in
theorem refLength {lo g : Nat} {s : Oct.St} (most : Int) (h1 : most ≤ 9223372036854775807) (w : World) (h : RdR lo g w s) :
    Calls Try.prog 51 #[ptr g, .int .i64 most] w (LeavesR lo g w (.int .i64 ((Oct.lenS most s).1 : Int)) (Oct.lenS most s).2) := by
  have hb := lenS_most most s
  by_cases hm : most < 0
  · have HL := Lib.hid (show Oct.lenS most s = Oct.uintS 0 s by unfold Oct.lenS; congr 1; omega)
    rw [HL.out] at hb
    have b0 : (0 : Int) ≤ ((Oct.uintS 0 s).1 : Int) := by omega
    have b1 : ((Oct.uintS 0 s).1 : Int) ≤ 9223372036854775807 := by omega
    clear hb
    go_enter Try.func51, Try.ntmps51
    go_wp2_with fail
    refine (refUint 0 w h).mono ?_
    rintro e w1 ⟨rfl, hr, hg⟩
    go_wp2_with fail
    go_ret
    rw [HL.out]
    exact ⟨rfl, hr, hg⟩
  · obtain ⟨m, rfl⟩ := Int.eq_ofNat_of_zero_le (show 0 ≤ most by omega)
    have HL := Lib.hid (show Oct.lenS (m : Int) s = Oct.uintS m s by unfold Oct.lenS; congr 1; omega)
    have t0 : (0 : Int) ≤ (m : Int) := by omega
    rw [HL.out] at hb
    have b0 : (0 : Int) ≤ ((Oct.uintS m s).1 : Int) := by omega
    have b1 : ((Oct.uintS m s).1 : Int) ≤ 9223372036854775807 := by omega
    clear hb
    go_enter Try.func51, Try.ntmps51
    go_wp2_with fail
    refine (refUint m w h).mono ?_
    rintro e w1 ⟨rfl, hr, hg⟩
    go_wp2_with fail
    go_ret
    rw [HL.out]
    exact ⟨rfl, hr, hg⟩
set_option maxRecDepth 100000 in
theorem refNew (va : Value) (l : List UInt8) (w : World) (ha : Bytes w va l) (hl : l.length ≤ 140737488355328) :
    Calls Try.prog 14 #[va] w fun e w' => ∃ g, e = .returned (ptr g) ∧ w.heap.size ≤ g ∧ RdR w.heap.size g w' (l, 0) ∧ Below w.heap.size w w' := by
  go_enter Try.func14, Try.ntmps14
  go_wp2_with fail
  refine (refAfter va (.slice none 0 0) l [] w ha (RowIn.nil _ _ _ _) (by simpa using hl)).mono ?_
  rintro e w1 ⟨v, rfl, ho, hb⟩
  rw [List.append_nil] at ho
  have hbl := below_alloc1 w1 (.cells #[v, .int .i64 0] 59)
  have hnew : (w1.alloc (.cells #[v, .int .i64 0] 59)).heap[w1.heap.size]? = some (.cells #[v, .int .i64 0] 59 (0, 0)) := heap_alloc_new w1 _
  have hrow := ho.row.below hbl (Nat.le_refl _)
  rcases ho.shape with ⟨rfl, -⟩ | ⟨b, c, rfl, -⟩
  · go_wp2_with fail
    go_ret
    exact ⟨_, rfl, hb.size, ⟨_, _, hnew, hrow, fun _ => rfl⟩, hb.trans (hbl.mono hb.size)⟩
  · go_wp2_with fail
    go_ret
    exact ⟨_, rfl, hb.size, ⟨_, _, hnew, hrow, fun _ => rfl⟩, hb.trans (hbl.mono hb.size)⟩
theorem RowIn.emp {α : Type} {enc : α → Value} {lo hi cap : Nat} {w : World} {a : Addr} (h : cap ≤ maxLen) : RowIn enc lo hi w (.slice (some a) 0 cap) [] :=
  ⟨_, _, rfl, Nat.zero_le _, h, fun e => by simp at e, fun i x hx => by simp at hx⟩
theorem RowIn.takeAny {α : Type} {enc : α → Value} {lo hi n cap : Nat} {w : World} {a : Option Addr} {l : List α} (h : RowIn enc lo hi w (.slice a n cap) l) (k : Nat) (hk : k ≤ l.length) : RowIn enc lo hi w (.slice a k cap) (l.take k) := by
  obtain ⟨a, cap', e, h1, h2, h3, h4⟩ := h
  obtain ⟨rfl, _, rfl⟩ := sl_eq e
  refine ⟨_, _, by rw [List.length_take, Nat.min_eq_left hk], by rw [List.length_take]; omega, h2, h3, fun i x hx => ?_⟩
  rw [List.getElem?_take] at hx
  split at hx
  · exact h4 i x hx
  · cases hx
set_option maxHeartbeats 1000000 in
set_option maxRecDepth 100000 in
theorem refText {lo g : Nat} {s : Oct.St} (most : Int) (h1 : most ≤ 9223372036854775807) (w : World) (h : RdR lo g w s) (hf : Oct.Fine s) :
    Calls Try.prog 38 #[ptr g, .int .i64 most] w (LeavesR lo g w (.string ⟨(Oct.textS most s).1.toArray⟩) (Oct.textS most s).2) := by
  have hlt := lenS_most most s
  have HT := Lib.hid (show Oct.textS most s = if (Oct.lenS most s).2.1.length < (Oct.lenS most s).1 then ([], ([], 4)) else ((Oct.lenS most s).2.1.take (Oct.lenS most s).1, ((Oct.lenS most s).2.1.drop (Oct.lenS most s).1, (Oct.lenS most s).2.2)) from rfl)
  have hlen := refLength most h1 w h
  have hfl := Oct.lenS_fine (most := most) hf
  have hbad : (Oct.lenS most s).2.2 ≠ 0 → (Oct.lenS most s).1 = 0 := Oct.uintS_bad
  generalize Oct.lenS most s = p at hlt HT hlen hfl hbad
  obtain ⟨n, l, er⟩ := p
  replace hlt : (n : Int) ≤ max most 0 := hlt
  replace hbad : er ≠ 0 → n = 0 := hbad
  have n0 : (0 : Int) ≤ (n : Int) := by omega
  have n1 : (n : Int) ≤ 9223372036854775807 := by omega
  clear hlt
  go_enter Try.func38, Try.ntmps38
  go_wp2_with fail
  refine hlen.mono ?_
  rintro e w1 ⟨rfl, hr, hg⟩
  replace hr : RdR lo g w1 (l, er) := hr
  have hr' := hr
  obtain ⟨v, m, hbox, hrow, hml⟩ := hr'
  by_cases he : er = 0
  · subst he
    replace hml : m = l := hml rfl
    subst hml
    have hrow' := hrow
    obtain ⟨a, c, rfl, hc1, hc2, hn, hd⟩ := hrow'
    unfold maxLen at hc2
    have c0 : w1.cell? ⟨g, 0, none⟩ = some (.slice a m.length c) := by rw [box_cell hbox]; rfl
    have c1 : w1.cell? ⟨g, 1, none⟩ = some (.int .i64 0) := by rw [box_cell hbox]; rfl
    have f0 := frozen_of_row w1 g 0 _ _ hbox
    have H1 := Lib.hid hbox
    have l0 : (0 : Int) ≤ (m.length : Int) := by omega
    clear hbox hbad hfl
    by_cases hs : m.length < n
    · rw [if_pos hs] at HT
      have t1 : (m.length : Int) < (n : Int) := by omega
      clear hs hn hd
      go_wp2_with fail
      refine (refFail 4 w1 hr rfl (by decide)).mono ?_
      rintro e w2 ⟨rfl, hr2, hg2⟩
      go_wp2_with fail
      go_ret
      rw [HT.out]
      exact ⟨rfl, hr2, hg.trans hg2⟩
    · rw [if_neg hs] at HT
      have t1 : ¬ (m.length : Int) < (n : Int) := by omega
      have t2 : (n : Int) ≤ (m.length : Int) := by omega
      have t4 : (n : Int) ≤ (c : Int) := by omega
      cases a with
      | none =>
        obtain rfl := hn rfl
        have hm0 : m = [] := List.eq_nil_of_length_eq_zero (by omega)
        subst hm0
        obtain rfl : n = 0 := by omega
        have hcv := run_text (RowIn.nil encB 0 0 w1)
        clear hs hn hd
        go_wp2_with fail
        go_ret
        rw [HT.out]
        exact ⟨rfl, ⟨_, _, heap_setCell_same _ g 0 _ _ _ H1.out, RowIn.nil _ _ _ _, fun _ => rfl⟩, hg.trans (grownBy_set _ _ _ _)⟩
      | some ad =>
        have hcv := run_text (hrow.takeAny n (by omega))
        by_cases hm0 : m = []
        · subst hm0
          obtain rfl : n = 0 := by simp at hs; omega
          clear hs hn hd
          go_wp2_with fail
          all_goals go_ret
          all_goals rw [HT.out]
          all_goals exact ⟨rfl, ⟨_, _, heap_setCell_same _ g 0 _ _ _ H1.out, RowIn.emp (by unfold maxLen; omega), fun _ => rfl⟩, hg.trans (grownBy_set _ _ _ _)⟩
        · obtain ⟨b, o, e, -⟩ := hd 0 _ (getD_get (d := 0) (List.length_pos_iff.2 hm0))
          obtain rfl := Option.some.inj e
          clear hs hn hd
          go_wp2_with fail
          all_goals go_ret
          all_goals rw [HT.out]
          all_goals exact ⟨rfl, ⟨_, _, heap_setCell_same _ g 0 _ _ _ H1.out, (hrow.cut rfl n (by omega) (by intro hck; first | rfl | (exfalso; omega)) (by omega)).set 0, fun _ => rfl⟩, hg.trans (grownBy_set _ _ _ _)⟩
  · have hl : l = [] := hfl he
    subst hl
    have t0 : ((er : Int) == 0) = false := by simp only [beq_eq_false_iff_ne]; exact he
    obtain rfl : n = 0 := hbad he
    have c1 : w1.cell? ⟨g, 1, none⟩ = some (.int .i64 er) := by rw [box_cell hbox]; rfl
    clear hbad hfl he hbox hml
    go_wp2_with fail
    go_ret
    rw [HT.out]
    exact ⟨rfl, hr, hg⟩

theorem RdR.past {lo g : Nat} {w w' : World} {s : Oct.St} {r : Option Nat} (h : RdR lo g w s) (hg : w.grownBy w' r) (hlo : lo ≤ g) (hr : ∀ k, r = some k → g < k ∨ k < lo) : RdR lo g w' s :=
  h.keep hg.size (fun k h1 hk => hg.block k (by have := h.lt; omega) fun e => by have := hr k e.symm; omega) hlo
set_option maxHeartbeats 1000000 in
set_option maxRecDepth 100000 in
theorem refInts {lo g : Nat} {s : Oct.St} (most : Int) (h1 : most ≤ 9223372036854775807) (w : World) (h : RdR lo g w s) (hs : s.1.length ≤ 999999999999) (hlo : lo ≤ g) :
    Calls Try.prog 40 #[ptr g, .int .i64 most] w (LeavesRInts lo g w (Oct.intsS most s).1 (Oct.intsS most s).2) := by
  have hlt := lenS_most most s
  have hsh := Oct.uintS_len (max most 0).toNat s
  replace hsh : (Oct.lenS most s).2.1.length ≤ s.1.length := hsh
  have HT := Lib.hid (show Oct.intsS most s = Oct.loopS (Oct.lenS most s).1 (Oct.lenS most s).2 [] from rfl)
  have hlen := refLength most h1 w h
  generalize Oct.lenS most s = p at hlt HT hlen hsh
  obtain ⟨n, s1⟩ := p
  replace hlt : (n : Int) ≤ max most 0 := hlt
  replace hsh : s1.1.length ≤ s.1.length := hsh
  have n0 : (0 : Int) ≤ (n : Int) := by omega
  have n1 : (n : Int) ≤ 9223372036854775807 := by omega
  have hgl := h.lt
  clear hlt
  go_enter Try.func40, Try.ntmps40
  go_wp2_with fail
  refine hlen.mono ?_
  rintro e w1 ⟨rfl, hr1, hg1⟩
  go_wp2_with fail
  go_loopw [6, 7] (fun v i wr => ∃ k : Nat, k ≤ n ∧ i = .int .i64 (k : Int) ∧ ∃ (acc : List Int) (s2 : Oct.St), OwnI w.heap.size wr v acc ∧ RdR lo g wr s2 ∧ w.grownBy wr (some g) ∧ acc.length + s2.1.length ≤ s.1.length ∧ Hid (Oct.loopS (n - k) s2 acc = Oct.intsS most s)) (fun _ i _ => n - (intOf i).toNat)
  case atStart => exact ⟨0, by omega, rfl, [], s1, OwnRow.nil _ _ _ _, hr1, hg1, by simpa using hsh, Lib.hid HT.out.symm⟩
  case round =>
    clear hr1 hg1
    obtain ⟨k, hk, rfl, acc, s2, hown, hr, hg, hlen2, HL⟩ := hrel
    have i0 : (0 : Int) ≤ (k : Int) := by omega
    by_cases hlt2 : k < n
    · have i1 : (k : Int) < (n : Int) := by omega
      have hstep := refInt wr hr
      by_cases he : (Oct.intS s2).2.2 = 0
      · have HL' := Lib.hid ((loopS_step he (by omega : 0 < n - k)).symm.trans HL.out)
        have hless := Oct.num_less (s := s2) he
        replace hless : (Oct.intS s2).2.1.length + 1 ≤ s2.1.length := hless
        generalize (Oct.intS s2).2 = s3 at he HL' hstep hless
        generalize (Oct.intS s2).1 = x at HL' hstep
        clear HL
        go_wp2_with fail
        refine hstep.mono ?_
        rintro e w2 ⟨rfl, hr2, hg2⟩
        have hown2 := hown.grown hg2 (by rintro k' ⟨⟩; exact hgl)
        have hgg := hg.trans hg2
        have hsz := hgg.size
        have hr3 := hr2
        obtain ⟨v3, l3, hbox, -⟩ := hr3
        rw [he] at hbox
        have c1 : w2.cell? ⟨g, 1, none⟩ = some (.int .i64 0) := by rw [box_cell hbox]; rfl
        clear hbox
        go_wp2_with (at_builtin; refine wpList_push_int rfl (.tmp 24) (.tmp 26) rfl rfl hown2 x rfl (by omega) hsz ?_)
        intro v' w4 ho4 hg4
        go_wp2_with fail
        go_roundw
        case rel =>
          refine ⟨k + 1, by omega, by go_num, _, s3, ho4, hr2.past hg4 hlo (fun j hj => .inl (by have := (hown2.blk j hj).1; omega)), grownBy_own hgg hg4 (fun j hj => (hown2.blk j hj).1), ?_, Lib.hid ?_⟩
          · rw [List.length_append, List.length_singleton]; omega
          · rw [← HL'.out, Nat.sub_sub]
        case measure => simp [intOf]; omega
      · have HL' := Lib.hid ((loopS_stop he (by omega : 0 < n - k)).symm.trans HL.out)
        generalize (Oct.intS s2).2 = s3 at he HL' hstep
        generalize (Oct.intS s2).1 = x at hstep
        have t1 : ((s3.2 : Int) == 0) = false := by simp only [beq_eq_false_iff_ne]; exact he
        clear HL he
        go_wp2_with fail
        refine hstep.mono ?_
        rintro e w2 ⟨rfl, hr2, hg2⟩
        have hr3 := hr2
        obtain ⟨v3, l3, hbox, -⟩ := hr3
        have c1 : w2.cell? ⟨g, 1, none⟩ = some (.int .i64 s3.2) := by rw [box_cell hbox]; rfl
        clear hbox
        go_wp2_with fail
        go_ret
        rw [← HL'.out]
        exact ⟨_, rfl, OwnRow.nil _ _ _ _, hr2, hg.trans hg2⟩
    · obtain rfl : k = n := by omega
      have HL' := Lib.hid (show (acc, s2) = Oct.intsS most s by rw [← HL.out, Nat.sub_self]; rfl)
      clear HL
      go_wp2_with fail
      go_ret
      rw [← HL'.out]
      exact ⟨_, rfl, hown, hr, hg⟩
end Go.Proofs.Ytafdkfojimnbnaa
