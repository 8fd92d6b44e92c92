/-
  THE LAWS OF LAYER 10: what AddSub keeps. By an AI agent.
-/
import Derived.Test.YtbichcmpggbfnaaDoorLineIn
import Derived.Deep.RegionHeld3
namespace Go.Proofs.YtbichcmpggbfnaaDoor
open Go.RowKit
open Wd (Bs)

theorem place_cons (a : Bs) (r : List Bs) (x : Bs) : place (a :: r) x = if a < x then place r x + 1 else 0 := by
  unfold place
  rw [List.findIdx_cons]
  by_cases h : a < x <;> simp [h]
theorem ins_up {x : Bs} : ∀ {l : List Bs}, Wd.Up l → x ∉ l → Wd.Up (insAt l (place l x) x)
  | [], _, _ => by simp [insAt, place, Wd.Up]
  | a :: r, h, hx => by
    obtain ⟨h1, h2⟩ := List.pairwise_cons.1 h
    rw [place_cons]
    by_cases ha : a < x
    · rw [if_pos ha]
      have e : insAt (a :: r) (place r x + 1) x = a :: insAt r (place r x) x := by unfold insAt; simp
      rw [e]
      refine List.pairwise_cons.2 ⟨fun y hy => ?_, ins_up h2 (fun h => hx (List.mem_cons_of_mem _ h))⟩
      unfold insAt at hy
      simp only [List.append_assoc, List.mem_append, List.mem_cons, List.not_mem_nil, or_false] at hy
      rcases hy with hy | hy | hy
      · exact h1 y (List.mem_of_mem_take hy)
      · rw [hy]; exact ha
      · exact h1 y (List.mem_of_mem_drop hy)
    · rw [if_neg ha]
      have e : insAt (a :: r) 0 x = x :: a :: r := rfl
      rw [e]
      have hxa : x < a := Wd.lt_of_le_ne (List.not_lt.1 ha) (fun e => hx (by rw [e]; simp))
      exact up_cons hxa h
theorem ins_mem (l : List Bs) (i : Nat) (x : Bs) : x ∈ insAt l i x := by unfold insAt; simp
theorem add_valid {l : Ln.Line} (x : Bs) (h : Ln.validB l = true) : Ln.validB (addL l x) = true := by
  obtain ⟨h0, h3, hf, ha⟩ := Ln.validB_iff.1 h
  unfold addL
  split
  · rename_i hc
    simp only [Bool.and_eq_true, decide_eq_true_eq, Bool.not_eq_true'] at hc
    refine Ln.validB_iff.2 ⟨h0, h3, hf, ?_, fun y hy => ?_, ins_up ha.2.2 (by have := hc.1.2; unfold hasB at this; simpa using this)⟩
    · have h4 := hc.2
      rw [insAt_len (place_le _ _)]
      omega
    · have hy2 : y ∈ insAt l.subs (place l.subs x) x := hy
      unfold insAt at hy2
      simp only [List.append_assoc, List.mem_append, List.mem_cons, List.not_mem_nil, or_false] at hy2
      rcases hy2 with hy2 | hy2 | hy2
      · exact ha.2.1 y (List.mem_of_mem_take hy2)
      · rw [hy2]; exact hc.1.1
      · exact ha.2.1 y (List.mem_of_mem_drop hy2)
  · exact h
theorem add_again (l : Ln.Line) (x : Bs) : addL (addL l x) x = addL l x := by
  by_cases hc : (Ln.isSub x && !hasB l.subs x && decide (l.subs.length < 4)) = true
  · refine addL_no (.inr (.inl ?_))
    unfold addL
    rw [if_pos hc]
    unfold hasB
    simpa using ins_mem _ _ _
  · have e : addL l x = l := by unfold addL; rw [if_neg hc]
    rw [e, e]
/-- whether AddSub adds x -/
noncomputable def moreB (l : List Bs) (x : Bs) : Bool := Ln.isSub x && !hasB l x && decide (l.length < 4)
theorem more_yes {a t : Int} {l : List Bs} {x : Bs} (h : moreB l x = true) : (addL ⟨a, t, l⟩ x).subs.length = l.length + 1 ∧ hasB (addL ⟨a, t, l⟩ x).subs x = true := by
  unfold moreB at h
  unfold addL
  rw [if_pos h]
  exact ⟨insAt_len (place_le _ _), by unfold hasB; simpa using ins_mem _ _ _⟩
theorem more_no {a t : Int} {l : List Bs} {x : Bs} (h : moreB l x = false) : (addL ⟨a, t, l⟩ x).subs.length = l.length := by
  unfold moreB at h
  unfold addL
  rw [if_neg (by show ¬ _ = true; rw [h]; simp)]
set_option maxHeartbeats 8000000 in
set_option maxRecDepth 100000 in
theorem lawLineStays (a t : Int) (v : Value) (l : List Bs) (s : ByteArray) (w : World) (h1 : LineIn w v l) (hi : t ≤ 9223372036854775807) (hs : s.size ≤ 140737488351232) (hE : Env w) :
    Calls Tryd.prog 8 #[.agg #[.int .i64 a, .int .i64 t, v], .string s] w fun e w' => e = .returned (.bool true) ∧ Below w.heap.size w w' := by
  obtain ⟨w0, hw0⟩ : ∃ w0, w0 = w.alloc (.cells #[.int .i64 a, .int .i64 t, v] 24) := ⟨_, rfl⟩
  have hb0 : Below w.heap.size w w0 := by rw [hw0]; exact (Below.refl _ _).alloc (Nat.le_refl _) _
  have hz0 : Blk w0 w.heap.size #[.int .i64 a, .int .i64 t, v] 24 := by rw [hw0]; exact Blk.new _ _ _
  have HB0 := Lib.hid hb0
  have HZ0 := Lib.hid hz0
  have HE := Lib.hid (fun (W : World) (h : Below w0.heap.size w0 W) => (hE.below hb0).below h)
  have H1 := Lib.hid (fun (W : World) (h : Below w0.heap.size w0 W) => (h1.below hb0 (Nat.le_refl _)).below h (Nat.le_refl _))
  have HF1 := Lib.hid (lawFew a t v l w0 (h1.below hb0 (Nat.le_refl _)).strs)
  have K2 := Lib.hid (fun W (h : Below w0.heap.size w0 W) => lineIs a t v l W (HE.out W h) (H1.out W h).strs h1.fine hi)
  have HFI := Lib.hid h1.fine
  obtain ⟨ad, c, rfl, -, hcm, -⟩ := id h1.strs
  unfold maxLen at hcm
  have hl1 : w.heap.size < w0.heap.size := hz0.lt
  clear hb0 hz0 hE h1
  rcases few_cases l with ⟨hf1, hl12⟩ | hf1
  · rw [hf1] at HF1
    clear hf1
    cases hvb : Ln.validB ⟨a, t, l⟩ with
    | false =>
      rw [hvb] at K2
      clear hvb
      go_enter Tryd.func8, Tryd.ntmps8
      go_wp2_with fail
      rw [← hw0]
      clear hw0
      refine HF1.out.mono ?_
      rintro e w1 ⟨rfl, hb1⟩
      have B1 := Lib.hid hb1
      have z1 := (HZ0.out.below B1.out hl1).cell
      clear hb1
      go_wp2_with fail
      refine (K2.out _ B1.out).mono ?_
      rintro e w2 ⟨rfl, hb2⟩
      have B2 := Lib.hid (B1.out.trans (hb2.mono B1.out.size))
      clear hb2
      go_wp2_with fail
      refine (lineAlive _ (HE.out _ B2.out)).mono ?_
      rintro e w3 ⟨rfl, hb3⟩
      go_wp2_with fail
      go_ret
      exact ⟨rfl, HB0.out.trans ((B2.out.trans (hb3.mono B2.out.size)).mono HB0.out.size)⟩
    | true =>
      rw [hvb] at K2
      have hv2 := add_valid s.data.toList hvb
      have hag := add_again ⟨a, t, l⟩ s.data.toList
      rw [addL_fields a t l s.data.toList] at hv2
      have hfi2 : Fine (addL ⟨a, t, l⟩ s.data.toList).subs := fun x hx => by
        have h1 := (Ln.name_p (Ln.isSub_name ((Ln.validB_iff.1 hv2).2.2.2.2.1 x hx)).1).2.1
        unfold maxLen
        omega
      have hlen2 : (addL ⟨a, t, l⟩ s.data.toList).subs.length ≤ 4 := (Ln.validB_iff.1 hv2).2.2.2.1
      have hag2 : (addL ⟨a, t, (addL ⟨a, t, l⟩ s.data.toList).subs⟩ s.data.toList).subs = (addL ⟨a, t, l⟩ s.data.toList).subs := by
        rw [← addL_fields a t l s.data.toList, hag]
      have hmore : (moreB l s.data.toList = true ∧ (addL ⟨a, t, l⟩ s.data.toList).subs.length = l.length + 1 ∧ hasB (addL ⟨a, t, l⟩ s.data.toList).subs s.data.toList = true) ∨ (moreB l s.data.toList = false ∧ (addL ⟨a, t, l⟩ s.data.toList).subs.length = l.length) := by
        cases hm : moreB l s.data.toList with
        | true => exact .inl ⟨rfl, more_yes hm⟩
        | false => exact .inr ⟨rfl, more_no hm⟩
      have KADD := Lib.hid (fun W (h : Below w0.heap.size w0 W) => lineAdd a t (.slice ad l.length c) l s W (HE.out W h) (H1.out W h).strs (by omega) (by unfold maxLen; omega))
      have HAG2 := Lib.hid hag2
      have HV2 := Lib.hid hv2
      have HFI2 := Lib.hid hfi2
      unfold AddRes at KADD
      clear hvb hv2 hag hfi2 hag2
      generalize hL2 : (addL ⟨a, t, l⟩ s.data.toList).subs = l2 at *
      have KSB := Lib.hid (fun W (h : Below w0.heap.size w0 W) => lineIsSub s W (HE.out W h) (by unfold maxLen; omega))
      have KHS := Lib.hid (fun W (h : Below w0.heap.size w0 W) => lineHas a t (.slice ad l.length c) l s W (H1.out W h).strs)
      clear hL2
      go_enter Tryd.func8, Tryd.ntmps8
      go_wp2_with fail
      rw [← hw0]
      clear hw0
      refine HF1.out.mono ?_
      rintro e w1 ⟨rfl, hb1⟩
      have B1 := Lib.hid hb1
      have z1 := (HZ0.out.below B1.out hl1).cell
      clear hb1
      go_wp2_with fail
      refine (K2.out _ B1.out).mono ?_
      rintro e w2 ⟨rfl, hb2⟩
      have B2 := Lib.hid (B1.out.trans (hb2.mono B1.out.size))
      have z2 := (HZ0.out.below B2.out hl1).cell
      clear hb2
      go_wp2_with fail
      refine (KADD.out _ B2.out).mono ?_
      rintro e w3 ⟨v2, rfl, ho3, hb3⟩
      obtain ⟨ad2, c2, rfl, hcm2, -⟩ := ho3.slice
      unfold maxLen at hcm2
      have B3 := Lib.hid (B2.out.trans (hb3.mono B2.out.size))
      obtain ⟨w4, hw4⟩ : ∃ w4, w4 = w3.alloc (.cells #[.int .i64 a, .int .i64 t, .slice ad2 l2.length c2] 24) := ⟨_, rfl⟩
      have hb34 : Below w3.heap.size w3 w4 := by rw [hw4]; exact (Below.refl _ _).alloc (Nat.le_refl _) _
      have hm4 : Blk w4 w3.heap.size #[.int .i64 a, .int .i64 t, .slice ad2 l2.length c2] 24 := by rw [hw4]; exact Blk.new _ _ _
      have HM4 := Lib.hid hm4
      have B4 := Lib.hid (B3.out.trans (hb34.mono B3.out.size))
      have HV4 := Lib.hid (ho3.strs.below hb34 (Nat.le_refl _))
      have z4 := (HZ0.out.below B4.out hl1).cell
      rw [hw4] at z4
      clear ho3 hb3 hb34 hm4 z2
      go_wp2_with fail
      rw [← hw4] at z4 ⊢
      clear hw4
      refine (KSB.out _ B4.out).mono ?_
      rcases hmore with ⟨hm, hl2, hh2⟩ | ⟨hm, hl2⟩
      · unfold moreB at hm
        simp only [Bool.and_eq_true, decide_eq_true_eq, Bool.not_eq_true'] at hm
        obtain ⟨⟨hm1, hm2⟩, hm3⟩ := hm
        rw [hm1]
        rw [hm2] at KHS
        have hm3' : (l.length : Int) < 4 := by omega
        rintro e w5 ⟨rfl, rfl⟩
        go_wp2_with fail
        refine (KHS.out _ B4.out).mono ?_
        rintro e w6 ⟨rfl, hb6⟩
        have B6 := Lib.hid (B4.out.trans (hb6.mono B4.out.size))
        have HM6 := Lib.hid (HM4.out.below hb6 HM4.out.lt)
        have HV6 := Lib.hid (HV4.out.below hb6 (Nat.le_refl _))
        have HZ6 := Lib.hid (HZ0.out.below B6.out hl1)
        obtain ⟨A, hA⟩ : ∃ A, A = w3.heap.size := ⟨_, rfl⟩
        rw [← hA] at HM6
        have hl0 : w.heap.size < w6.heap.size := HZ6.out.lt
        have hlA : A < w6.heap.size := HM6.out.lt
        have x0 : w6.cell? ⟨w.heap.size, 0, none⟩ = some (.int .i64 a) := HZ6.out.cell 0
        have x1 : w6.cell? ⟨w.heap.size, 1, none⟩ = some (.int .i64 t) := HZ6.out.cell 1
        have x2 : w6.cell? ⟨w.heap.size, 2, none⟩ = some (.slice ad l.length c) := HZ6.out.cell 2
        have x3 : w6.cell? ⟨A, 0, none⟩ = some (.int .i64 a) := HM6.out.cell 0
        have x4 : w6.cell? ⟨A, 1, none⟩ = some (.int .i64 t) := HM6.out.cell 1
        have x5 : w6.cell? ⟨A, 2, none⟩ = some (.slice ad2 l2.length c2) := HM6.out.cell 2
        have HE6 := Lib.hid (fun (W : World) (h : Below w6.heap.size w6 W) => HE.out W (B6.out.trans (h.mono B6.out.size)))
        have KI := Lib.hid (fun W (h : Below w6.heap.size w6 W) => lineIs a t (.slice ad2 l2.length c2) l2 W (HE6.out W h) (HV6.out.below h (Nat.le_refl _)) HFI2.out hi)
        rw [HV2.out] at KI
        have KA := Lib.hid (fun W (h : Below w6.heap.size w6 W) => lineAdd a t (.slice ad2 l2.length c2) l2 s W (HE6.out W h) (HV6.out.below h (Nat.le_refl _)) (by omega) (by unfold maxLen; omega))
        unfold AddRes at KA
        rw [HAG2.out] at KA
        have KS : Hid (∀ W v', Below w6.heap.size w6 W → Strs W v' l2 → Calls Tryd.prog 15 #[.agg #[.int .i64 a, .int .i64 t, v'], .agg #[.int .i64 a, .int .i64 t, .slice ad2 l2.length c2]] W fun e w' => e = .returned (.bool true) ∧ Below W.heap.size W w') := Lib.hid (fun W v' hb hv' => by
          have := lineSame a t a t v' (.slice ad2 l2.length c2) l2 l2 W hv' (HV6.out.below hb (Nat.le_refl _))
          rwa [show sameB ⟨a, t, l2⟩ ⟨a, t, l2⟩ = true by unfold sameB; simp] at this)
        rw [← hA]
        clear hA hb6
        have hlen3 : l2.length = l.length + 1 := hl2
        have KH := Lib.hid (fun W (h : Below w6.heap.size w6 W) => lineHas a t (.slice ad2 l2.length c2) l2 s W (HV6.out.below h (Nat.le_refl _)))
        rw [hh2] at KH
        clear hm1 hm2 hl2 hh2 z4
        have hq : ((l2.length : Int) == (l.length : Int) + 1) = true := by rw [hlen3]; simp
        clear hlen3
        go_wp2_with fail
        refine wp_region_held_drew (S := (fun W => W.cell? ⟨w.heap.size, 0, none⟩ = some (.int .i64 a) ∧ W.cell? ⟨w.heap.size, 1, none⟩ = some (.int .i64 t) ∧ W.cell? ⟨w.heap.size, 2, none⟩ = some (.slice ad l.length c) ∧ W.cell? ⟨A, 0, none⟩ = some (.int .i64 a) ∧ W.cell? ⟨A, 1, none⟩ = some (.int .i64 t) ∧ W.cell? ⟨A, 2, none⟩ = some (.slice ad2 l2.length c2))) (by kernel_rfl) ?_ (fun hHeld => ?_)
        · exact ⟨x0, x1, x2, x3, x4, x5⟩
        have g0 : Hid (Below w6.heap.size w6 w6.drew) := Lib.hid ((Below.refl _ _).drew)
        refine wpAnyH_ready (rs := [0]) (by kernel_rfl) (by simp) ?_
        refine AllReadyH.cons rfl (fun K hK => ?_) AllReadyH.nil
        go_simp
        go_at_call 10
        refine (lineAlive _ (HE6.out _ g0.out)).mono ?_
        rintro e wa ⟨rfl, hba⟩
        have ga := Lib.hid (g0.out.trans (hba.mono g0.out.size))
        clear hba
        refine hK.out _ _ ⟨(ga.out.cell (p := ⟨w.heap.size, 0, none⟩) hl0).trans x0, (ga.out.cell (p := ⟨w.heap.size, 1, none⟩) hl0).trans x1, (ga.out.cell (p := ⟨w.heap.size, 2, none⟩) hl0).trans x2, (ga.out.cell (p := ⟨A, 0, none⟩) hlA).trans x3, (ga.out.cell (p := ⟨A, 1, none⟩) hlA).trans x4, (ga.out.cell (p := ⟨A, 2, none⟩) hlA).trans x5⟩ (fun hHeld => ?_)
        clear hK K
        try simp only [Act.put, List.setIfInBounds_toArray, List.set_cons_zero, List.set_cons_succ]
        refine take_run 1 (some 41) (v := ?_) rfl rfl (by kernel_rfl) (by kernel_rfl) (by kernel_rfl) (fun _ _ _ h => h) (by rfl) ?_ (by assumption) ?_
        rotate_left
        · (intro W hSw; (try dsimp only at hSw); go_simp; (try with_reducible rfl))
        simp only [Act.put, List.setIfInBounds_toArray, List.set_cons_zero, List.set_cons_succ]
        refine take_run 2 (some 42) (v := ?_) rfl rfl (by kernel_rfl) (by kernel_rfl) (by kernel_rfl) (fun _ _ _ h => h) (by rfl) ?_ (by assumption) ?_
        rotate_left
        · (intro W hSw; (try dsimp only at hSw); go_simp; (try with_reducible rfl))
        simp only [Act.put, List.setIfInBounds_toArray, List.set_cons_zero, List.set_cons_succ]
        refine wpAnyH_ready (rs := [3]) (by kernel_rfl) (by simp) ?_
        refine AllReadyH.cons rfl (fun K hK => ?_) AllReadyH.nil
        go_simp
        go_at_call 11
        refine (KI.out _ ga.out).mono ?_
        rintro e wb ⟨rfl, hbb⟩
        have gb := Lib.hid (ga.out.trans (hbb.mono ga.out.size))
        clear hbb
        refine hK.out _ _ ⟨(gb.out.cell (p := ⟨w.heap.size, 0, none⟩) hl0).trans x0, (gb.out.cell (p := ⟨w.heap.size, 1, none⟩) hl0).trans x1, (gb.out.cell (p := ⟨w.heap.size, 2, none⟩) hl0).trans x2, (gb.out.cell (p := ⟨A, 0, none⟩) hlA).trans x3, (gb.out.cell (p := ⟨A, 1, none⟩) hlA).trans x4, (gb.out.cell (p := ⟨A, 2, none⟩) hlA).trans x5⟩ (fun hHeld => ?_)
        clear hK K
        try simp only [Act.put, List.setIfInBounds_toArray, List.set_cons_zero, List.set_cons_succ]
        refine take_run 4 (some 44) (v := ?_) rfl rfl (by kernel_rfl) (by kernel_rfl) (by kernel_rfl) (fun _ _ _ h => h) (by rfl) ?_ (by assumption) ?_
        rotate_left
        · (intro W hSw; (try dsimp only at hSw); go_simp; (try with_reducible rfl))
        simp only [Act.put, List.setIfInBounds_toArray, List.set_cons_zero, List.set_cons_succ]
        refine take_run 5 (some 45) (v := ?_) rfl rfl (by kernel_rfl) (by kernel_rfl) (by kernel_rfl) (fun _ _ _ h => h) (by rfl) ?_ (by assumption) ?_
        rotate_left
        · (intro W hSw; (try dsimp only at hSw); go_simp; (try with_reducible rfl))
        simp only [Act.put, List.setIfInBounds_toArray, List.set_cons_zero, List.set_cons_succ]
        refine take_run 6 (some 46) (v := ?_) rfl rfl (by kernel_rfl) (by kernel_rfl) (by kernel_rfl) (fun _ _ _ h => h) (by rfl) ?_ (by assumption) ?_
        rotate_left
        · (intro W hSw; (try dsimp only at hSw); go_simp; (try with_reducible rfl))
        simp only [Act.put, List.setIfInBounds_toArray, List.set_cons_zero, List.set_cons_succ]
        refine take_run 7 (some 47) (v := ?_) rfl rfl (by kernel_rfl) (by kernel_rfl) (by kernel_rfl) (fun _ _ _ h => h) (by rfl) ?_ (by assumption) ?_
        rotate_left
        · (intro W hSw; (try dsimp only at hSw); go_simp; (try with_reducible rfl))
        simp only [Act.put, List.setIfInBounds_toArray, List.set_cons_zero, List.set_cons_succ]
        refine take_run 8 (some 48) (v := ?_) rfl rfl (by kernel_rfl) (by kernel_rfl) (by kernel_rfl) (fun _ _ _ h => h) (by rfl) ?_ (by assumption) ?_
        rotate_left
        · (intro W hSw; (try dsimp only at hSw); go_simp; (try with_reducible rfl))
        simp only [Act.put, List.setIfInBounds_toArray, List.set_cons_zero, List.set_cons_succ]
        refine take_run 9 (some 49) (v := ?_) rfl rfl (by kernel_rfl) (by kernel_rfl) (by kernel_rfl) (fun _ _ _ h => h) (by rfl) ?_ (by assumption) ?_
        rotate_left
        · (intro W hSw; (try dsimp only at hSw); go_simp; (try with_reducible rfl))
        simp only [Act.put, List.setIfInBounds_toArray, List.set_cons_zero, List.set_cons_succ]
        refine take_run 10 (some 50) (v := ?_) rfl rfl (by kernel_rfl) (by kernel_rfl) (by kernel_rfl) (fun _ _ _ h => h) (by rfl) ?_ (by assumption) ?_
        rotate_left
        · (intro W hSw; (try dsimp only at hSw); go_simp; (try with_reducible rfl))
        simp only [Act.put, List.setIfInBounds_toArray, List.set_cons_zero, List.set_cons_succ]
        refine take_run 11 (some 51) (v := ?_) rfl rfl (by kernel_rfl) (by kernel_rfl) (by kernel_rfl) (fun _ _ _ h => h) (by rfl) ?_ (by assumption) ?_
        rotate_left
        · (intro W hSw; (try dsimp only at hSw); go_simp; (try with_reducible rfl))
        simp only [Act.put, List.setIfInBounds_toArray, List.set_cons_zero, List.set_cons_succ]
        refine take_run 12 (some 52) (v := ?_) rfl rfl (by kernel_rfl) (by kernel_rfl) (by kernel_rfl) (fun _ _ _ h => h) (by rfl) ?_ (by assumption) ?_
        rotate_left
        · (intro W hSw; (try dsimp only at hSw); go_simp; (try with_reducible rfl))
        simp only [Act.put, List.setIfInBounds_toArray, List.set_cons_zero, List.set_cons_succ]
        refine take_run 13 (some 53) (v := ?_) rfl rfl (by kernel_rfl) (by kernel_rfl) (by kernel_rfl) (fun _ _ _ h => h) (by rfl) ?_ (by assumption) ?_
        rotate_left
        · (intro W hSw; (try dsimp only at hSw); go_simp; (try with_reducible rfl))
        simp only [Act.put, List.setIfInBounds_toArray, List.set_cons_zero, List.set_cons_succ]
        refine take_run 14 (some 54) (v := ?_) rfl rfl (by kernel_rfl) (by kernel_rfl) (by kernel_rfl) (fun _ _ _ h => h) (by rfl) ?_ (by assumption) ?_
        rotate_left
        · (intro W hSw; (try dsimp only at hSw); go_simp; (try with_reducible rfl))
        simp only [Act.put, List.setIfInBounds_toArray, List.set_cons_zero, List.set_cons_succ]
        refine take_run 16 (some 56) (v := ?_) rfl rfl (by kernel_rfl) (by kernel_rfl) (by kernel_rfl) (fun _ _ _ h => h) (by rfl) ?_ (by assumption) ?_
        rotate_left
        · (intro W hSw; (try dsimp only at hSw); go_simp; (try with_reducible rfl))
        simp only [Act.put, List.setIfInBounds_toArray, List.set_cons_zero, List.set_cons_succ]
        refine wpAnyH_ready (rs := [15]) (by kernel_rfl) (by simp) ?_
        refine AllReadyH.cons rfl (fun K hK => ?_) AllReadyH.nil
        go_simp
        go_at_call 27
        refine (KA.out _ gb.out).mono ?_
        rintro e wc ⟨v3, rfl, ho3, hbc⟩
        have gc := Lib.hid (gb.out.trans (hbc.mono gb.out.size))
        have HV3 := Lib.hid ho3.strs
        clear ho3 hbc
        refine hK.out _ _ ⟨(gc.out.cell (p := ⟨w.heap.size, 0, none⟩) hl0).trans x0, (gc.out.cell (p := ⟨w.heap.size, 1, none⟩) hl0).trans x1, (gc.out.cell (p := ⟨w.heap.size, 2, none⟩) hl0).trans x2, (gc.out.cell (p := ⟨A, 0, none⟩) hlA).trans x3, (gc.out.cell (p := ⟨A, 1, none⟩) hlA).trans x4, (gc.out.cell (p := ⟨A, 2, none⟩) hlA).trans x5⟩ (fun hHeld => ?_)
        clear hK K
        try simp only [Act.put, List.setIfInBounds_toArray, List.set_cons_zero, List.set_cons_succ]
        refine wpAnyH_ready (rs := [17]) (by kernel_rfl) (by simp) ?_
        refine AllReadyH.cons rfl (fun K hK => ?_) AllReadyH.nil
        go_simp
        go_at_call 15
        refine (KS.out _ _ gc.out HV3.out).mono ?_
        rintro e wd ⟨rfl, hbd⟩
        have gd := Lib.hid (gc.out.trans (hbd.mono gc.out.size))
        clear hbd
        refine hK.out _ _ ⟨(gd.out.cell (p := ⟨w.heap.size, 0, none⟩) hl0).trans x0, (gd.out.cell (p := ⟨w.heap.size, 1, none⟩) hl0).trans x1, (gd.out.cell (p := ⟨w.heap.size, 2, none⟩) hl0).trans x2, (gd.out.cell (p := ⟨A, 0, none⟩) hlA).trans x3, (gd.out.cell (p := ⟨A, 1, none⟩) hlA).trans x4, (gd.out.cell (p := ⟨A, 2, none⟩) hlA).trans x5⟩ (fun hHeld => ?_)
        clear hK K
        try simp only [Act.put, List.setIfInBounds_toArray, List.set_cons_zero, List.set_cons_succ]
        refine take_run 18 (some 58) (v := ?_) rfl rfl (by kernel_rfl) (by kernel_rfl) (by kernel_rfl) (fun _ _ _ h => h) (by rfl) ?_ (by assumption) ?_
        rotate_left
        · (intro W hSw; (try dsimp only at hSw); go_simp; (try with_reducible rfl))
        simp only [Act.put, List.setIfInBounds_toArray, List.set_cons_zero, List.set_cons_succ]
        refine take_run 19 (some 59) (v := ?_) rfl rfl (by kernel_rfl) (by kernel_rfl) (by kernel_rfl) (fun _ _ _ h => h) (by rfl) ?_ (by assumption) ?_
        rotate_left
        · (intro W hSw; (try dsimp only at hSw); go_simp; (try with_reducible rfl))
        simp only [Act.put, List.setIfInBounds_toArray, List.set_cons_zero, List.set_cons_succ]
        refine take_run 20 (some 60) (v := ?_) rfl rfl (by kernel_rfl) (by kernel_rfl) (by kernel_rfl) (fun _ _ _ h => h) (by rfl) ?_ (by assumption) ?_
        rotate_left
        · (intro W hSw; (try dsimp only at hSw); go_simp; (try with_reducible rfl))
        simp only [Act.put, List.setIfInBounds_toArray, List.set_cons_zero, List.set_cons_succ]
        refine take_run 21 (some 61) (v := ?_) rfl rfl (by kernel_rfl) (by kernel_rfl) (by kernel_rfl) (fun _ _ _ h => h) (by rfl) ?_ (by assumption) ?_
        rotate_left
        · (intro W hSw; (try dsimp only at hSw); go_simp; (try with_reducible rfl))
        simp only [Act.put, List.setIfInBounds_toArray, List.set_cons_zero, List.set_cons_succ]
        refine take_run 22 (some 62) (v := ?_) rfl rfl (by kernel_rfl) (by kernel_rfl) (by kernel_rfl) (fun _ _ _ h => h) (by rfl) ?_ (by assumption) ?_
        rotate_left
        · (intro W hSw; (try dsimp only at hSw); go_simp; (try with_reducible rfl))
        simp only [Act.put, List.setIfInBounds_toArray, List.set_cons_zero, List.set_cons_succ]
        refine take_run 23 (some 63) (v := ?_) rfl rfl (by kernel_rfl) (by kernel_rfl) (by kernel_rfl) (fun _ _ _ h => h) (by rfl) ?_ (by assumption) ?_
        rotate_left
        · (intro W hSw; (try dsimp only at hSw); go_simp; (try with_reducible rfl))
        simp only [Act.put, List.setIfInBounds_toArray, List.set_cons_zero, List.set_cons_succ]
        refine take_run 24 (some 64) (v := ?_) rfl rfl (by kernel_rfl) (by kernel_rfl) (by kernel_rfl) (fun _ _ _ h => h) (by rfl) ?_ (by assumption) ?_
        rotate_left
        · (intro W hSw; (try dsimp only at hSw); go_simp; (try with_reducible rfl))
        simp only [Act.put, List.setIfInBounds_toArray, List.set_cons_zero, List.set_cons_succ]
        refine wpAnyH_ready (rs := [25]) (by kernel_rfl) (by simp) ?_
        refine AllReadyH.cons rfl (fun K hK => ?_) AllReadyH.nil
        go_simp
        go_at_call 13
        refine (KH.out _ gd.out).mono ?_
        rintro e we ⟨rfl, hbe⟩
        have ge := Lib.hid (gd.out.trans (hbe.mono gd.out.size))
        clear hbe
        refine hK.out _ _ ⟨(ge.out.cell (p := ⟨w.heap.size, 0, none⟩) hl0).trans x0, (ge.out.cell (p := ⟨w.heap.size, 1, none⟩) hl0).trans x1, (ge.out.cell (p := ⟨w.heap.size, 2, none⟩) hl0).trans x2, (ge.out.cell (p := ⟨A, 0, none⟩) hlA).trans x3, (ge.out.cell (p := ⟨A, 1, none⟩) hlA).trans x4, (ge.out.cell (p := ⟨A, 2, none⟩) hlA).trans x5⟩ (fun hHeld => ?_)
        clear hK K
        try simp only [Act.put, List.setIfInBounds_toArray, List.set_cons_zero, List.set_cons_succ]
        refine take_run 26 (some 66) (v := ?_) rfl rfl (by kernel_rfl) (by kernel_rfl) (by kernel_rfl) (fun _ _ _ h => h) (by rfl) ?_ (by assumption) ?_
        rotate_left
        · (intro W hSw; (try dsimp only at hSw); go_simp; (try with_reducible rfl))
        simp only [Act.put, List.setIfInBounds_toArray, List.set_cons_zero, List.set_cons_succ]
        refine take_run 27 (some 67) (v := ?_) rfl rfl (by kernel_rfl) (by kernel_rfl) (by kernel_rfl) (fun _ _ _ h => h) (by rfl) ?_ (by assumption) ?_
        rotate_left
        · (intro W hSw; (try dsimp only at hSw); go_simp; (try with_reducible rfl))
        simp only [Act.put, List.setIfInBounds_toArray, List.set_cons_zero, List.set_cons_succ]
        refine take_run 28 (some 68) (v := ?_) rfl rfl (by kernel_rfl) (by kernel_rfl) (by kernel_rfl) (fun _ _ _ h => h) (by rfl) ?_ (by assumption) ?_
        rotate_left
        · (intro W hSw; (try dsimp only at hSw); go_simp; (try with_reducible rfl))
        simp only [Act.put, List.setIfInBounds_toArray, List.set_cons_zero, List.set_cons_succ]
        refine take_run 29 (some 69) (v := ?_) rfl rfl (by kernel_rfl) (by kernel_rfl) (by kernel_rfl) (fun _ _ _ h => h) (by rfl) ?_ (by assumption) ?_
        rotate_left
        · (intro W hSw; (try dsimp only at hSw); go_simp; (try with_reducible rfl))
        simp only [Act.put, List.setIfInBounds_toArray, List.set_cons_zero, List.set_cons_succ]
        refine take_run 30 (some 70) (v := ?_) rfl rfl (by kernel_rfl) (by kernel_rfl) (by kernel_rfl) (fun _ _ _ h => h) (by rfl) ?_ (by assumption) ?_
        rotate_left
        · (intro W hSw; (try dsimp only at hSw); go_simp; (try with_reducible rfl))
        simp only [Act.put, List.setIfInBounds_toArray, List.set_cons_zero, List.set_cons_succ]
        refine take_run 31 (some 71) (v := ?_) rfl rfl (by kernel_rfl) (by kernel_rfl) (by kernel_rfl) (fun _ _ _ h => h) (by rfl) ?_ (by assumption) ?_
        rotate_left
        · (intro W hSw; (try dsimp only at hSw); go_simp; (try with_reducible rfl))
        simp only [Act.put, List.setIfInBounds_toArray, List.set_cons_zero, List.set_cons_succ]
        refine take_run 32 (some 72) (v := ?_) rfl rfl (by kernel_rfl) (by kernel_rfl) (by kernel_rfl) (fun _ _ _ h => h) (by rfl) ?_ (by assumption) ?_
        rotate_left
        · (intro W hSw; (try dsimp only at hSw); go_simp; (try with_reducible rfl))
        simp only [Act.put, List.setIfInBounds_toArray, List.set_cons_zero, List.set_cons_succ]
        refine take_run 33 (some 73) (v := ?_) rfl rfl (by kernel_rfl) (by kernel_rfl) (by kernel_rfl) (fun _ _ _ h => h) (by rfl) ?_ (by assumption) ?_
        rotate_left
        · (intro W hSw; (try dsimp only at hSw); go_simp; (try with_reducible rfl))
        simp only [Act.put, List.setIfInBounds_toArray, List.set_cons_zero, List.set_cons_succ]
        refine take_run 34 (some 74) (v := ?_) rfl rfl (by kernel_rfl) (by kernel_rfl) (by kernel_rfl) (fun _ _ _ h => h) (by rfl) ?_ (by assumption) ?_
        rotate_left
        · (intro W hSw; (try dsimp only at hSw); go_simp; (try with_reducible rfl))
        simp only [Act.put, List.setIfInBounds_toArray, List.set_cons_zero, List.set_cons_succ]
        refine take_run 35 (some 75) (v := ?_) rfl rfl (by kernel_rfl) (by kernel_rfl) (by kernel_rfl) (fun _ _ _ h => h) (by rfl) ?_ (by assumption) ?_
        rotate_left
        · (intro W hSw; (try dsimp only at hSw); go_simp; (try with_reducible rfl))
        simp only [Act.put, List.setIfInBounds_toArray, List.set_cons_zero, List.set_cons_succ]
        refine take_run 36 (some 76) (v := ?_) rfl rfl (by kernel_rfl) (by kernel_rfl) (by kernel_rfl) (fun _ _ _ h => h) (by rfl) ?_ (by assumption) ?_
        rotate_left
        · (intro W hSw; (try dsimp only at hSw); go_simp; (try with_reducible rfl))
        simp only [Act.put, List.setIfInBounds_toArray, List.set_cons_zero, List.set_cons_succ]
        refine take_run 37 (some 77) (v := ?_) rfl rfl (by kernel_rfl) (by kernel_rfl) (by kernel_rfl) (fun _ _ _ h => h) (by rfl) ?_ (by assumption) ?_
        rotate_left
        · (intro W hSw; (try dsimp only at hSw); go_simp; (try with_reducible rfl))
        simp only [Act.put, List.setIfInBounds_toArray, List.set_cons_zero, List.set_cons_succ]
        refine take_run 38 (some 78) (v := ?_) rfl rfl (by kernel_rfl) (by kernel_rfl) (by kernel_rfl) (fun _ _ _ h => h) (by rfl) ?_ (by assumption) ?_
        rotate_left
        · (intro W hSw; (try dsimp only at hSw); go_simp; (try with_reducible rfl))
        simp only [Act.put, List.setIfInBounds_toArray, List.set_cons_zero, List.set_cons_succ]
        refine take_run 39 (some 79) (v := ?_) rfl rfl (by kernel_rfl) (by kernel_rfl) (by kernel_rfl) (fun _ _ _ h => h) (by rfl) ?_ (by assumption) ?_
        rotate_left
        · (intro W hSw; (try dsimp only at hSw); go_simp; (try with_reducible rfl))
        simp only [Act.put, List.setIfInBounds_toArray, List.set_cons_zero, List.set_cons_succ]
        refine take_run 40 (some 80) (v := ?_) rfl rfl (by kernel_rfl) (by kernel_rfl) (by kernel_rfl) (fun _ _ _ h => h) (by rfl) ?_ (by assumption) ?_
        rotate_left
        · (intro W hSw; (try dsimp only at hSw); go_simp; (try with_reducible rfl))
        simp only [Act.put, List.setIfInBounds_toArray, List.set_cons_zero, List.set_cons_succ]
        refine take_run 41 (some 81) (v := ?_) rfl rfl (by kernel_rfl) (by kernel_rfl) (by kernel_rfl) (fun _ _ _ h => h) (by rfl) ?_ (by assumption) ?_
        rotate_left
        · (intro W hSw; (try dsimp only at hSw); go_simp; (try with_reducible rfl))
        simp only [Act.put, List.setIfInBounds_toArray, List.set_cons_zero, List.set_cons_succ]
        refine take_run 42 (some 4) (v := ?_) rfl rfl (by kernel_rfl) (by kernel_rfl) (by kernel_rfl) (fun _ _ _ h => h) (by rfl) ?_ (by assumption) ?_
        rotate_left
        · (intro W hSw; (try dsimp only at hSw); go_simp; (try with_reducible rfl))
        simp only [Act.put, List.setIfInBounds_toArray, List.set_cons_zero, List.set_cons_succ]
        refine wpAnyH_done (by kernel_rfl) ?_ _
        go_wp2_with fail
        go_ret
        exact ⟨rfl, HB0.out.trans ((B6.out.trans (ge.out.mono B6.out.size)).mono HB0.out.size)⟩
      · have hq : ((l2.length : Int) == (l.length : Int)) = true := by rw [hl2]; simp
        cases hm1 : Ln.isSub s.data.toList with
        | false =>
          rintro e w5 ⟨rfl, rfl⟩
          have hb6 : Below w4.heap.size w4 w4 := Below.refl _ _
          have B6 := Lib.hid (B4.out.trans (hb6.mono B4.out.size))
          have HM6 := Lib.hid (HM4.out.below hb6 HM4.out.lt)
          have HV6 := Lib.hid (HV4.out.below hb6 (Nat.le_refl _))
          have HZ6 := Lib.hid (HZ0.out.below B6.out hl1)
          obtain ⟨A, hA⟩ : ∃ A, A = w3.heap.size := ⟨_, rfl⟩
          rw [← hA] at HM6
          have hl0 : w.heap.size < w4.heap.size := HZ6.out.lt
          have hlA : A < w4.heap.size := HM6.out.lt
          have x0 : w4.cell? ⟨w.heap.size, 0, none⟩ = some (.int .i64 a) := HZ6.out.cell 0
          have x1 : w4.cell? ⟨w.heap.size, 1, none⟩ = some (.int .i64 t) := HZ6.out.cell 1
          have x2 : w4.cell? ⟨w.heap.size, 2, none⟩ = some (.slice ad l.length c) := HZ6.out.cell 2
          have x3 : w4.cell? ⟨A, 0, none⟩ = some (.int .i64 a) := HM6.out.cell 0
          have x4 : w4.cell? ⟨A, 1, none⟩ = some (.int .i64 t) := HM6.out.cell 1
          have x5 : w4.cell? ⟨A, 2, none⟩ = some (.slice ad2 l2.length c2) := HM6.out.cell 2
          have HE6 := Lib.hid (fun (W : World) (h : Below w4.heap.size w4 W) => HE.out W (B6.out.trans (h.mono B6.out.size)))
          have KI := Lib.hid (fun W (h : Below w4.heap.size w4 W) => lineIs a t (.slice ad2 l2.length c2) l2 W (HE6.out W h) (HV6.out.below h (Nat.le_refl _)) HFI2.out hi)
          rw [HV2.out] at KI
          have KA := Lib.hid (fun W (h : Below w4.heap.size w4 W) => lineAdd a t (.slice ad2 l2.length c2) l2 s W (HE6.out W h) (HV6.out.below h (Nat.le_refl _)) (by omega) (by unfold maxLen; omega))
          unfold AddRes at KA
          rw [HAG2.out] at KA
          have KS : Hid (∀ W v', Below w4.heap.size w4 W → Strs W v' l2 → Calls Tryd.prog 15 #[.agg #[.int .i64 a, .int .i64 t, v'], .agg #[.int .i64 a, .int .i64 t, .slice ad2 l2.length c2]] W fun e w' => e = .returned (.bool true) ∧ Below W.heap.size W w') := Lib.hid (fun W v' hb hv' => by
            have := lineSame a t a t v' (.slice ad2 l2.length c2) l2 l2 W hv' (HV6.out.below hb (Nat.le_refl _))
            rwa [show sameB ⟨a, t, l2⟩ ⟨a, t, l2⟩ = true by unfold sameB; simp] at this)
          rw [← hA]
          clear hA hb6
          clear hm hm1 hl2 z4
          go_wp2_with fail
          refine wp_region_held_drew (S := (fun W => W.cell? ⟨w.heap.size, 0, none⟩ = some (.int .i64 a) ∧ W.cell? ⟨w.heap.size, 1, none⟩ = some (.int .i64 t) ∧ W.cell? ⟨w.heap.size, 2, none⟩ = some (.slice ad l.length c) ∧ W.cell? ⟨A, 0, none⟩ = some (.int .i64 a) ∧ W.cell? ⟨A, 1, none⟩ = some (.int .i64 t) ∧ W.cell? ⟨A, 2, none⟩ = some (.slice ad2 l2.length c2))) (by kernel_rfl) ?_ (fun hHeld => ?_)
          · exact ⟨x0, x1, x2, x3, x4, x5⟩
          have g0 : Hid (Below w4.heap.size w4 w4.drew) := Lib.hid ((Below.refl _ _).drew)
          refine wpAnyH_ready (rs := [0]) (by kernel_rfl) (by simp) ?_
          refine AllReadyH.cons rfl (fun K hK => ?_) AllReadyH.nil
          go_simp
          go_at_call 10
          refine (lineAlive _ (HE6.out _ g0.out)).mono ?_
          rintro e wa ⟨rfl, hba⟩
          have ga := Lib.hid (g0.out.trans (hba.mono g0.out.size))
          clear hba
          refine hK.out _ _ ⟨(ga.out.cell (p := ⟨w.heap.size, 0, none⟩) hl0).trans x0, (ga.out.cell (p := ⟨w.heap.size, 1, none⟩) hl0).trans x1, (ga.out.cell (p := ⟨w.heap.size, 2, none⟩) hl0).trans x2, (ga.out.cell (p := ⟨A, 0, none⟩) hlA).trans x3, (ga.out.cell (p := ⟨A, 1, none⟩) hlA).trans x4, (ga.out.cell (p := ⟨A, 2, none⟩) hlA).trans x5⟩ (fun hHeld => ?_)
          clear hK K
          try simp only [Act.put, List.setIfInBounds_toArray, List.set_cons_zero, List.set_cons_succ]
          refine take_run 1 (some 41) (v := ?_) rfl rfl (by kernel_rfl) (by kernel_rfl) (by kernel_rfl) (fun _ _ _ h => h) (by rfl) ?_ (by assumption) ?_
          rotate_left
          · (intro W hSw; (try dsimp only at hSw); go_simp; (try with_reducible rfl))
          simp only [Act.put, List.setIfInBounds_toArray, List.set_cons_zero, List.set_cons_succ]
          refine take_run 2 (some 42) (v := ?_) rfl rfl (by kernel_rfl) (by kernel_rfl) (by kernel_rfl) (fun _ _ _ h => h) (by rfl) ?_ (by assumption) ?_
          rotate_left
          · (intro W hSw; (try dsimp only at hSw); go_simp; (try with_reducible rfl))
          simp only [Act.put, List.setIfInBounds_toArray, List.set_cons_zero, List.set_cons_succ]
          refine wpAnyH_ready (rs := [3]) (by kernel_rfl) (by simp) ?_
          refine AllReadyH.cons rfl (fun K hK => ?_) AllReadyH.nil
          go_simp
          go_at_call 11
          refine (KI.out _ ga.out).mono ?_
          rintro e wb ⟨rfl, hbb⟩
          have gb := Lib.hid (ga.out.trans (hbb.mono ga.out.size))
          clear hbb
          refine hK.out _ _ ⟨(gb.out.cell (p := ⟨w.heap.size, 0, none⟩) hl0).trans x0, (gb.out.cell (p := ⟨w.heap.size, 1, none⟩) hl0).trans x1, (gb.out.cell (p := ⟨w.heap.size, 2, none⟩) hl0).trans x2, (gb.out.cell (p := ⟨A, 0, none⟩) hlA).trans x3, (gb.out.cell (p := ⟨A, 1, none⟩) hlA).trans x4, (gb.out.cell (p := ⟨A, 2, none⟩) hlA).trans x5⟩ (fun hHeld => ?_)
          clear hK K
          try simp only [Act.put, List.setIfInBounds_toArray, List.set_cons_zero, List.set_cons_succ]
          refine take_run 4 (some 44) (v := ?_) rfl rfl (by kernel_rfl) (by kernel_rfl) (by kernel_rfl) (fun _ _ _ h => h) (by rfl) ?_ (by assumption) ?_
          rotate_left
          · (intro W hSw; (try dsimp only at hSw); go_simp; (try with_reducible rfl))
          simp only [Act.put, List.setIfInBounds_toArray, List.set_cons_zero, List.set_cons_succ]
          refine take_run 5 (some 45) (v := ?_) rfl rfl (by kernel_rfl) (by kernel_rfl) (by kernel_rfl) (fun _ _ _ h => h) (by rfl) ?_ (by assumption) ?_
          rotate_left
          · (intro W hSw; (try dsimp only at hSw); go_simp; (try with_reducible rfl))
          simp only [Act.put, List.setIfInBounds_toArray, List.set_cons_zero, List.set_cons_succ]
          refine take_run 6 (some 46) (v := ?_) rfl rfl (by kernel_rfl) (by kernel_rfl) (by kernel_rfl) (fun _ _ _ h => h) (by rfl) ?_ (by assumption) ?_
          rotate_left
          · (intro W hSw; (try dsimp only at hSw); go_simp; (try with_reducible rfl))
          simp only [Act.put, List.setIfInBounds_toArray, List.set_cons_zero, List.set_cons_succ]
          refine take_run 7 (some 47) (v := ?_) rfl rfl (by kernel_rfl) (by kernel_rfl) (by kernel_rfl) (fun _ _ _ h => h) (by rfl) ?_ (by assumption) ?_
          rotate_left
          · (intro W hSw; (try dsimp only at hSw); go_simp; (try with_reducible rfl))
          simp only [Act.put, List.setIfInBounds_toArray, List.set_cons_zero, List.set_cons_succ]
          refine take_run 8 (some 48) (v := ?_) rfl rfl (by kernel_rfl) (by kernel_rfl) (by kernel_rfl) (fun _ _ _ h => h) (by rfl) ?_ (by assumption) ?_
          rotate_left
          · (intro W hSw; (try dsimp only at hSw); go_simp; (try with_reducible rfl))
          simp only [Act.put, List.setIfInBounds_toArray, List.set_cons_zero, List.set_cons_succ]
          refine take_run 9 (some 49) (v := ?_) rfl rfl (by kernel_rfl) (by kernel_rfl) (by kernel_rfl) (fun _ _ _ h => h) (by rfl) ?_ (by assumption) ?_
          rotate_left
          · (intro W hSw; (try dsimp only at hSw); go_simp; (try with_reducible rfl))
          simp only [Act.put, List.setIfInBounds_toArray, List.set_cons_zero, List.set_cons_succ]
          refine take_run 10 (some 50) (v := ?_) rfl rfl (by kernel_rfl) (by kernel_rfl) (by kernel_rfl) (fun _ _ _ h => h) (by rfl) ?_ (by assumption) ?_
          rotate_left
          · (intro W hSw; (try dsimp only at hSw); go_simp; (try with_reducible rfl))
          simp only [Act.put, List.setIfInBounds_toArray, List.set_cons_zero, List.set_cons_succ]
          refine take_run 11 (some 51) (v := ?_) rfl rfl (by kernel_rfl) (by kernel_rfl) (by kernel_rfl) (fun _ _ _ h => h) (by rfl) ?_ (by assumption) ?_
          rotate_left
          · (intro W hSw; (try dsimp only at hSw); go_simp; (try with_reducible rfl))
          simp only [Act.put, List.setIfInBounds_toArray, List.set_cons_zero, List.set_cons_succ]
          refine take_run 12 (some 52) (v := ?_) rfl rfl (by kernel_rfl) (by kernel_rfl) (by kernel_rfl) (fun _ _ _ h => h) (by rfl) ?_ (by assumption) ?_
          rotate_left
          · (intro W hSw; (try dsimp only at hSw); go_simp; (try with_reducible rfl))
          simp only [Act.put, List.setIfInBounds_toArray, List.set_cons_zero, List.set_cons_succ]
          refine take_run 13 (some 53) (v := ?_) rfl rfl (by kernel_rfl) (by kernel_rfl) (by kernel_rfl) (fun _ _ _ h => h) (by rfl) ?_ (by assumption) ?_
          rotate_left
          · (intro W hSw; (try dsimp only at hSw); go_simp; (try with_reducible rfl))
          simp only [Act.put, List.setIfInBounds_toArray, List.set_cons_zero, List.set_cons_succ]
          refine take_run 14 (some 54) (v := ?_) rfl rfl (by kernel_rfl) (by kernel_rfl) (by kernel_rfl) (fun _ _ _ h => h) (by rfl) ?_ (by assumption) ?_
          rotate_left
          · (intro W hSw; (try dsimp only at hSw); go_simp; (try with_reducible rfl))
          simp only [Act.put, List.setIfInBounds_toArray, List.set_cons_zero, List.set_cons_succ]
          refine take_run 16 (some 56) (v := ?_) rfl rfl (by kernel_rfl) (by kernel_rfl) (by kernel_rfl) (fun _ _ _ h => h) (by rfl) ?_ (by assumption) ?_
          rotate_left
          · (intro W hSw; (try dsimp only at hSw); go_simp; (try with_reducible rfl))
          simp only [Act.put, List.setIfInBounds_toArray, List.set_cons_zero, List.set_cons_succ]
          refine wpAnyH_ready (rs := [15]) (by kernel_rfl) (by simp) ?_
          refine AllReadyH.cons rfl (fun K hK => ?_) AllReadyH.nil
          go_simp
          go_at_call 27
          refine (KA.out _ gb.out).mono ?_
          rintro e wc ⟨v3, rfl, ho3, hbc⟩
          have gc := Lib.hid (gb.out.trans (hbc.mono gb.out.size))
          have HV3 := Lib.hid ho3.strs
          clear ho3 hbc
          refine hK.out _ _ ⟨(gc.out.cell (p := ⟨w.heap.size, 0, none⟩) hl0).trans x0, (gc.out.cell (p := ⟨w.heap.size, 1, none⟩) hl0).trans x1, (gc.out.cell (p := ⟨w.heap.size, 2, none⟩) hl0).trans x2, (gc.out.cell (p := ⟨A, 0, none⟩) hlA).trans x3, (gc.out.cell (p := ⟨A, 1, none⟩) hlA).trans x4, (gc.out.cell (p := ⟨A, 2, none⟩) hlA).trans x5⟩ (fun hHeld => ?_)
          clear hK K
          try simp only [Act.put, List.setIfInBounds_toArray, List.set_cons_zero, List.set_cons_succ]
          refine wpAnyH_ready (rs := [17]) (by kernel_rfl) (by simp) ?_
          refine AllReadyH.cons rfl (fun K hK => ?_) AllReadyH.nil
          go_simp
          go_at_call 15
          refine (KS.out _ _ gc.out HV3.out).mono ?_
          rintro e wd ⟨rfl, hbd⟩
          have gd := Lib.hid (gc.out.trans (hbd.mono gc.out.size))
          clear hbd
          refine hK.out _ _ ⟨(gd.out.cell (p := ⟨w.heap.size, 0, none⟩) hl0).trans x0, (gd.out.cell (p := ⟨w.heap.size, 1, none⟩) hl0).trans x1, (gd.out.cell (p := ⟨w.heap.size, 2, none⟩) hl0).trans x2, (gd.out.cell (p := ⟨A, 0, none⟩) hlA).trans x3, (gd.out.cell (p := ⟨A, 1, none⟩) hlA).trans x4, (gd.out.cell (p := ⟨A, 2, none⟩) hlA).trans x5⟩ (fun hHeld => ?_)
          clear hK K
          try simp only [Act.put, List.setIfInBounds_toArray, List.set_cons_zero, List.set_cons_succ]
          refine take_run 18 (some 58) (v := ?_) rfl rfl (by kernel_rfl) (by kernel_rfl) (by kernel_rfl) (fun _ _ _ h => h) (by rfl) ?_ (by assumption) ?_
          rotate_left
          · (intro W hSw; (try dsimp only at hSw); go_simp; (try with_reducible rfl))
          simp only [Act.put, List.setIfInBounds_toArray, List.set_cons_zero, List.set_cons_succ]
          refine take_run 19 (some 59) (v := ?_) rfl rfl (by kernel_rfl) (by kernel_rfl) (by kernel_rfl) (fun _ _ _ h => h) (by rfl) ?_ (by assumption) ?_
          rotate_left
          · (intro W hSw; (try dsimp only at hSw); go_simp; (try with_reducible rfl))
          simp only [Act.put, List.setIfInBounds_toArray, List.set_cons_zero, List.set_cons_succ]
          refine take_run 20 (some 60) (v := ?_) rfl rfl (by kernel_rfl) (by kernel_rfl) (by kernel_rfl) (fun _ _ _ h => h) (by rfl) ?_ (by assumption) ?_
          rotate_left
          · (intro W hSw; (try dsimp only at hSw); go_simp; (try with_reducible rfl))
          simp only [Act.put, List.setIfInBounds_toArray, List.set_cons_zero, List.set_cons_succ]
          refine take_run 21 (some 61) (v := ?_) rfl rfl (by kernel_rfl) (by kernel_rfl) (by kernel_rfl) (fun _ _ _ h => h) (by rfl) ?_ (by assumption) ?_
          rotate_left
          · (intro W hSw; (try dsimp only at hSw); go_simp; (try with_reducible rfl))
          simp only [Act.put, List.setIfInBounds_toArray, List.set_cons_zero, List.set_cons_succ]
          refine take_run 22 (some 62) (v := ?_) rfl rfl (by kernel_rfl) (by kernel_rfl) (by kernel_rfl) (fun _ _ _ h => h) (by rfl) ?_ (by assumption) ?_
          rotate_left
          · (intro W hSw; (try dsimp only at hSw); go_simp; (try with_reducible rfl))
          simp only [Act.put, List.setIfInBounds_toArray, List.set_cons_zero, List.set_cons_succ]
          have ge := gd
          refine take_skip 23 (some 63) rfl rfl (by kernel_rfl) (by kernel_rfl) (by kernel_rfl) (fun _ _ _ h => h) (by rfl) (by assumption) ?_
          simp only [Act.put, List.setIfInBounds_toArray, List.set_cons_zero, List.set_cons_succ]
          refine take_skip 24 (some 64) rfl rfl (by kernel_rfl) (by kernel_rfl) (by kernel_rfl) (fun _ _ _ h => h) (by rfl) (by assumption) ?_
          simp only [Act.put, List.setIfInBounds_toArray, List.set_cons_zero, List.set_cons_succ]
          refine take_skip 25 (some 65) rfl rfl (by kernel_rfl) (by kernel_rfl) (by kernel_rfl) (fun _ _ _ h => h) (by rfl) (by assumption) ?_
          simp only [Act.put, List.setIfInBounds_toArray, List.set_cons_zero, List.set_cons_succ]
          refine take_run 26 (some 66) (v := ?_) rfl rfl (by kernel_rfl) (by kernel_rfl) (by kernel_rfl) (fun _ _ _ h => h) (by rfl) ?_ (by assumption) ?_
          rotate_left
          · (intro W hSw; (try dsimp only at hSw); go_simp; (try with_reducible rfl))
          simp only [Act.put, List.setIfInBounds_toArray, List.set_cons_zero, List.set_cons_succ]
          refine take_run 27 (some 67) (v := ?_) rfl rfl (by kernel_rfl) (by kernel_rfl) (by kernel_rfl) (fun _ _ _ h => h) (by rfl) ?_ (by assumption) ?_
          rotate_left
          · (intro W hSw; (try dsimp only at hSw); go_simp; (try with_reducible rfl))
          simp only [Act.put, List.setIfInBounds_toArray, List.set_cons_zero, List.set_cons_succ]
          refine take_run 28 (some 68) (v := ?_) rfl rfl (by kernel_rfl) (by kernel_rfl) (by kernel_rfl) (fun _ _ _ h => h) (by rfl) ?_ (by assumption) ?_
          rotate_left
          · (intro W hSw; (try dsimp only at hSw); go_simp; (try with_reducible rfl))
          simp only [Act.put, List.setIfInBounds_toArray, List.set_cons_zero, List.set_cons_succ]
          refine take_run 29 (some 69) (v := ?_) rfl rfl (by kernel_rfl) (by kernel_rfl) (by kernel_rfl) (fun _ _ _ h => h) (by rfl) ?_ (by assumption) ?_
          rotate_left
          · (intro W hSw; (try dsimp only at hSw); go_simp; (try with_reducible rfl))
          simp only [Act.put, List.setIfInBounds_toArray, List.set_cons_zero, List.set_cons_succ]
          refine take_run 30 (some 70) (v := ?_) rfl rfl (by kernel_rfl) (by kernel_rfl) (by kernel_rfl) (fun _ _ _ h => h) (by rfl) ?_ (by assumption) ?_
          rotate_left
          · (intro W hSw; (try dsimp only at hSw); go_simp; (try with_reducible rfl))
          simp only [Act.put, List.setIfInBounds_toArray, List.set_cons_zero, List.set_cons_succ]
          refine take_run 31 (some 71) (v := ?_) rfl rfl (by kernel_rfl) (by kernel_rfl) (by kernel_rfl) (fun _ _ _ h => h) (by rfl) ?_ (by assumption) ?_
          rotate_left
          · (intro W hSw; (try dsimp only at hSw); go_simp; (try with_reducible rfl))
          simp only [Act.put, List.setIfInBounds_toArray, List.set_cons_zero, List.set_cons_succ]
          refine take_run 32 (some 72) (v := ?_) rfl rfl (by kernel_rfl) (by kernel_rfl) (by kernel_rfl) (fun _ _ _ h => h) (by rfl) ?_ (by assumption) ?_
          rotate_left
          · (intro W hSw; (try dsimp only at hSw); go_simp; (try with_reducible rfl))
          simp only [Act.put, List.setIfInBounds_toArray, List.set_cons_zero, List.set_cons_succ]
          refine take_run 33 (some 73) (v := ?_) rfl rfl (by kernel_rfl) (by kernel_rfl) (by kernel_rfl) (fun _ _ _ h => h) (by rfl) ?_ (by assumption) ?_
          rotate_left
          · (intro W hSw; (try dsimp only at hSw); go_simp; (try with_reducible rfl))
          simp only [Act.put, List.setIfInBounds_toArray, List.set_cons_zero, List.set_cons_succ]
          refine take_run 34 (some 74) (v := ?_) rfl rfl (by kernel_rfl) (by kernel_rfl) (by kernel_rfl) (fun _ _ _ h => h) (by rfl) ?_ (by assumption) ?_
          rotate_left
          · (intro W hSw; (try dsimp only at hSw); go_simp; (try with_reducible rfl))
          simp only [Act.put, List.setIfInBounds_toArray, List.set_cons_zero, List.set_cons_succ]
          refine take_run 35 (some 75) (v := ?_) rfl rfl (by kernel_rfl) (by kernel_rfl) (by kernel_rfl) (fun _ _ _ h => h) (by rfl) ?_ (by assumption) ?_
          rotate_left
          · (intro W hSw; (try dsimp only at hSw); go_simp; (try with_reducible rfl))
          simp only [Act.put, List.setIfInBounds_toArray, List.set_cons_zero, List.set_cons_succ]
          refine take_run 36 (some 76) (v := ?_) rfl rfl (by kernel_rfl) (by kernel_rfl) (by kernel_rfl) (fun _ _ _ h => h) (by rfl) ?_ (by assumption) ?_
          rotate_left
          · (intro W hSw; (try dsimp only at hSw); go_simp; (try with_reducible rfl))
          simp only [Act.put, List.setIfInBounds_toArray, List.set_cons_zero, List.set_cons_succ]
          refine take_run 37 (some 77) (v := ?_) rfl rfl (by kernel_rfl) (by kernel_rfl) (by kernel_rfl) (fun _ _ _ h => h) (by rfl) ?_ (by assumption) ?_
          rotate_left
          · (intro W hSw; (try dsimp only at hSw); go_simp; (try with_reducible rfl))
          simp only [Act.put, List.setIfInBounds_toArray, List.set_cons_zero, List.set_cons_succ]
          refine take_run 38 (some 78) (v := ?_) rfl rfl (by kernel_rfl) (by kernel_rfl) (by kernel_rfl) (fun _ _ _ h => h) (by rfl) ?_ (by assumption) ?_
          rotate_left
          · (intro W hSw; (try dsimp only at hSw); go_simp; (try with_reducible rfl))
          simp only [Act.put, List.setIfInBounds_toArray, List.set_cons_zero, List.set_cons_succ]
          refine take_run 39 (some 79) (v := ?_) rfl rfl (by kernel_rfl) (by kernel_rfl) (by kernel_rfl) (fun _ _ _ h => h) (by rfl) ?_ (by assumption) ?_
          rotate_left
          · (intro W hSw; (try dsimp only at hSw); go_simp; (try with_reducible rfl))
          simp only [Act.put, List.setIfInBounds_toArray, List.set_cons_zero, List.set_cons_succ]
          refine take_run 40 (some 80) (v := ?_) rfl rfl (by kernel_rfl) (by kernel_rfl) (by kernel_rfl) (fun _ _ _ h => h) (by rfl) ?_ (by assumption) ?_
          rotate_left
          · (intro W hSw; (try dsimp only at hSw); go_simp; (try with_reducible rfl))
          simp only [Act.put, List.setIfInBounds_toArray, List.set_cons_zero, List.set_cons_succ]
          refine take_run 41 (some 81) (v := ?_) rfl rfl (by kernel_rfl) (by kernel_rfl) (by kernel_rfl) (fun _ _ _ h => h) (by rfl) ?_ (by assumption) ?_
          rotate_left
          · (intro W hSw; (try dsimp only at hSw); go_simp; (try with_reducible rfl))
          simp only [Act.put, List.setIfInBounds_toArray, List.set_cons_zero, List.set_cons_succ]
          refine take_run 42 (some 4) (v := ?_) rfl rfl (by kernel_rfl) (by kernel_rfl) (by kernel_rfl) (fun _ _ _ h => h) (by rfl) ?_ (by assumption) ?_
          rotate_left
          · (intro W hSw; (try dsimp only at hSw); go_simp; (try with_reducible rfl))
          simp only [Act.put, List.setIfInBounds_toArray, List.set_cons_zero, List.set_cons_succ]
          refine wpAnyH_done (by kernel_rfl) ?_ _
          go_wp2_with fail
          go_ret
          exact ⟨rfl, HB0.out.trans ((B6.out.trans (ge.out.mono B6.out.size)).mono HB0.out.size)⟩
        | true =>
          rintro e w5 ⟨rfl, rfl⟩
          go_wp2_with fail
          refine (KHS.out _ B4.out).mono ?_
          cases hm2 : hasB l s.data.toList with
          | true =>
            rintro e w6 ⟨rfl, hb6⟩
            have B6 := Lib.hid (B4.out.trans (hb6.mono B4.out.size))
            have HM6 := Lib.hid (HM4.out.below hb6 HM4.out.lt)
            have HV6 := Lib.hid (HV4.out.below hb6 (Nat.le_refl _))
            have HZ6 := Lib.hid (HZ0.out.below B6.out hl1)
            obtain ⟨A, hA⟩ : ∃ A, A = w3.heap.size := ⟨_, rfl⟩
            rw [← hA] at HM6
            have hl0 : w.heap.size < w6.heap.size := HZ6.out.lt
            have hlA : A < w6.heap.size := HM6.out.lt
            have x0 : w6.cell? ⟨w.heap.size, 0, none⟩ = some (.int .i64 a) := HZ6.out.cell 0
            have x1 : w6.cell? ⟨w.heap.size, 1, none⟩ = some (.int .i64 t) := HZ6.out.cell 1
            have x2 : w6.cell? ⟨w.heap.size, 2, none⟩ = some (.slice ad l.length c) := HZ6.out.cell 2
            have x3 : w6.cell? ⟨A, 0, none⟩ = some (.int .i64 a) := HM6.out.cell 0
            have x4 : w6.cell? ⟨A, 1, none⟩ = some (.int .i64 t) := HM6.out.cell 1
            have x5 : w6.cell? ⟨A, 2, none⟩ = some (.slice ad2 l2.length c2) := HM6.out.cell 2
            have HE6 := Lib.hid (fun (W : World) (h : Below w6.heap.size w6 W) => HE.out W (B6.out.trans (h.mono B6.out.size)))
            have KI := Lib.hid (fun W (h : Below w6.heap.size w6 W) => lineIs a t (.slice ad2 l2.length c2) l2 W (HE6.out W h) (HV6.out.below h (Nat.le_refl _)) HFI2.out hi)
            rw [HV2.out] at KI
            have KA := Lib.hid (fun W (h : Below w6.heap.size w6 W) => lineAdd a t (.slice ad2 l2.length c2) l2 s W (HE6.out W h) (HV6.out.below h (Nat.le_refl _)) (by omega) (by unfold maxLen; omega))
            unfold AddRes at KA
            rw [HAG2.out] at KA
            have KS : Hid (∀ W v', Below w6.heap.size w6 W → Strs W v' l2 → Calls Tryd.prog 15 #[.agg #[.int .i64 a, .int .i64 t, v'], .agg #[.int .i64 a, .int .i64 t, .slice ad2 l2.length c2]] W fun e w' => e = .returned (.bool true) ∧ Below W.heap.size W w') := Lib.hid (fun W v' hb hv' => by
              have := lineSame a t a t v' (.slice ad2 l2.length c2) l2 l2 W hv' (HV6.out.below hb (Nat.le_refl _))
              rwa [show sameB ⟨a, t, l2⟩ ⟨a, t, l2⟩ = true by unfold sameB; simp] at this)
            rw [← hA]
            clear hA hb6
            clear hm hm1 hm2 hl2 z4
            go_wp2_with fail
            refine wp_region_held_drew (S := (fun W => W.cell? ⟨w.heap.size, 0, none⟩ = some (.int .i64 a) ∧ W.cell? ⟨w.heap.size, 1, none⟩ = some (.int .i64 t) ∧ W.cell? ⟨w.heap.size, 2, none⟩ = some (.slice ad l.length c) ∧ W.cell? ⟨A, 0, none⟩ = some (.int .i64 a) ∧ W.cell? ⟨A, 1, none⟩ = some (.int .i64 t) ∧ W.cell? ⟨A, 2, none⟩ = some (.slice ad2 l2.length c2))) (by kernel_rfl) ?_ (fun hHeld => ?_)
            · exact ⟨x0, x1, x2, x3, x4, x5⟩
            have g0 : Hid (Below w6.heap.size w6 w6.drew) := Lib.hid ((Below.refl _ _).drew)
            refine wpAnyH_ready (rs := [0]) (by kernel_rfl) (by simp) ?_
            refine AllReadyH.cons rfl (fun K hK => ?_) AllReadyH.nil
            go_simp
            go_at_call 10
            refine (lineAlive _ (HE6.out _ g0.out)).mono ?_
            rintro e wa ⟨rfl, hba⟩
            have ga := Lib.hid (g0.out.trans (hba.mono g0.out.size))
            clear hba
            refine hK.out _ _ ⟨(ga.out.cell (p := ⟨w.heap.size, 0, none⟩) hl0).trans x0, (ga.out.cell (p := ⟨w.heap.size, 1, none⟩) hl0).trans x1, (ga.out.cell (p := ⟨w.heap.size, 2, none⟩) hl0).trans x2, (ga.out.cell (p := ⟨A, 0, none⟩) hlA).trans x3, (ga.out.cell (p := ⟨A, 1, none⟩) hlA).trans x4, (ga.out.cell (p := ⟨A, 2, none⟩) hlA).trans x5⟩ (fun hHeld => ?_)
            clear hK K
            try simp only [Act.put, List.setIfInBounds_toArray, List.set_cons_zero, List.set_cons_succ]
            refine take_run 1 (some 41) (v := ?_) rfl rfl (by kernel_rfl) (by kernel_rfl) (by kernel_rfl) (fun _ _ _ h => h) (by rfl) ?_ (by assumption) ?_
            rotate_left
            · (intro W hSw; (try dsimp only at hSw); go_simp; (try with_reducible rfl))
            simp only [Act.put, List.setIfInBounds_toArray, List.set_cons_zero, List.set_cons_succ]
            refine take_run 2 (some 42) (v := ?_) rfl rfl (by kernel_rfl) (by kernel_rfl) (by kernel_rfl) (fun _ _ _ h => h) (by rfl) ?_ (by assumption) ?_
            rotate_left
            · (intro W hSw; (try dsimp only at hSw); go_simp; (try with_reducible rfl))
            simp only [Act.put, List.setIfInBounds_toArray, List.set_cons_zero, List.set_cons_succ]
            refine wpAnyH_ready (rs := [3]) (by kernel_rfl) (by simp) ?_
            refine AllReadyH.cons rfl (fun K hK => ?_) AllReadyH.nil
            go_simp
            go_at_call 11
            refine (KI.out _ ga.out).mono ?_
            rintro e wb ⟨rfl, hbb⟩
            have gb := Lib.hid (ga.out.trans (hbb.mono ga.out.size))
            clear hbb
            refine hK.out _ _ ⟨(gb.out.cell (p := ⟨w.heap.size, 0, none⟩) hl0).trans x0, (gb.out.cell (p := ⟨w.heap.size, 1, none⟩) hl0).trans x1, (gb.out.cell (p := ⟨w.heap.size, 2, none⟩) hl0).trans x2, (gb.out.cell (p := ⟨A, 0, none⟩) hlA).trans x3, (gb.out.cell (p := ⟨A, 1, none⟩) hlA).trans x4, (gb.out.cell (p := ⟨A, 2, none⟩) hlA).trans x5⟩ (fun hHeld => ?_)
            clear hK K
            try simp only [Act.put, List.setIfInBounds_toArray, List.set_cons_zero, List.set_cons_succ]
            refine take_run 4 (some 44) (v := ?_) rfl rfl (by kernel_rfl) (by kernel_rfl) (by kernel_rfl) (fun _ _ _ h => h) (by rfl) ?_ (by assumption) ?_
            rotate_left
            · (intro W hSw; (try dsimp only at hSw); go_simp; (try with_reducible rfl))
            simp only [Act.put, List.setIfInBounds_toArray, List.set_cons_zero, List.set_cons_succ]
            refine take_run 5 (some 45) (v := ?_) rfl rfl (by kernel_rfl) (by kernel_rfl) (by kernel_rfl) (fun _ _ _ h => h) (by rfl) ?_ (by assumption) ?_
            rotate_left
            · (intro W hSw; (try dsimp only at hSw); go_simp; (try with_reducible rfl))
            simp only [Act.put, List.setIfInBounds_toArray, List.set_cons_zero, List.set_cons_succ]
            refine take_run 6 (some 46) (v := ?_) rfl rfl (by kernel_rfl) (by kernel_rfl) (by kernel_rfl) (fun _ _ _ h => h) (by rfl) ?_ (by assumption) ?_
            rotate_left
            · (intro W hSw; (try dsimp only at hSw); go_simp; (try with_reducible rfl))
            simp only [Act.put, List.setIfInBounds_toArray, List.set_cons_zero, List.set_cons_succ]
            refine take_run 7 (some 47) (v := ?_) rfl rfl (by kernel_rfl) (by kernel_rfl) (by kernel_rfl) (fun _ _ _ h => h) (by rfl) ?_ (by assumption) ?_
            rotate_left
            · (intro W hSw; (try dsimp only at hSw); go_simp; (try with_reducible rfl))
            simp only [Act.put, List.setIfInBounds_toArray, List.set_cons_zero, List.set_cons_succ]
            refine take_run 8 (some 48) (v := ?_) rfl rfl (by kernel_rfl) (by kernel_rfl) (by kernel_rfl) (fun _ _ _ h => h) (by rfl) ?_ (by assumption) ?_
            rotate_left
            · (intro W hSw; (try dsimp only at hSw); go_simp; (try with_reducible rfl))
            simp only [Act.put, List.setIfInBounds_toArray, List.set_cons_zero, List.set_cons_succ]
            refine take_run 9 (some 49) (v := ?_) rfl rfl (by kernel_rfl) (by kernel_rfl) (by kernel_rfl) (fun _ _ _ h => h) (by rfl) ?_ (by assumption) ?_
            rotate_left
            · (intro W hSw; (try dsimp only at hSw); go_simp; (try with_reducible rfl))
            simp only [Act.put, List.setIfInBounds_toArray, List.set_cons_zero, List.set_cons_succ]
            refine take_run 10 (some 50) (v := ?_) rfl rfl (by kernel_rfl) (by kernel_rfl) (by kernel_rfl) (fun _ _ _ h => h) (by rfl) ?_ (by assumption) ?_
            rotate_left
            · (intro W hSw; (try dsimp only at hSw); go_simp; (try with_reducible rfl))
            simp only [Act.put, List.setIfInBounds_toArray, List.set_cons_zero, List.set_cons_succ]
            refine take_run 11 (some 51) (v := ?_) rfl rfl (by kernel_rfl) (by kernel_rfl) (by kernel_rfl) (fun _ _ _ h => h) (by rfl) ?_ (by assumption) ?_
            rotate_left
            · (intro W hSw; (try dsimp only at hSw); go_simp; (try with_reducible rfl))
            simp only [Act.put, List.setIfInBounds_toArray, List.set_cons_zero, List.set_cons_succ]
            refine take_run 12 (some 52) (v := ?_) rfl rfl (by kernel_rfl) (by kernel_rfl) (by kernel_rfl) (fun _ _ _ h => h) (by rfl) ?_ (by assumption) ?_
            rotate_left
            · (intro W hSw; (try dsimp only at hSw); go_simp; (try with_reducible rfl))
            simp only [Act.put, List.setIfInBounds_toArray, List.set_cons_zero, List.set_cons_succ]
            refine take_run 13 (some 53) (v := ?_) rfl rfl (by kernel_rfl) (by kernel_rfl) (by kernel_rfl) (fun _ _ _ h => h) (by rfl) ?_ (by assumption) ?_
            rotate_left
            · (intro W hSw; (try dsimp only at hSw); go_simp; (try with_reducible rfl))
            simp only [Act.put, List.setIfInBounds_toArray, List.set_cons_zero, List.set_cons_succ]
            refine take_run 14 (some 54) (v := ?_) rfl rfl (by kernel_rfl) (by kernel_rfl) (by kernel_rfl) (fun _ _ _ h => h) (by rfl) ?_ (by assumption) ?_
            rotate_left
            · (intro W hSw; (try dsimp only at hSw); go_simp; (try with_reducible rfl))
            simp only [Act.put, List.setIfInBounds_toArray, List.set_cons_zero, List.set_cons_succ]
            refine take_run 16 (some 56) (v := ?_) rfl rfl (by kernel_rfl) (by kernel_rfl) (by kernel_rfl) (fun _ _ _ h => h) (by rfl) ?_ (by assumption) ?_
            rotate_left
            · (intro W hSw; (try dsimp only at hSw); go_simp; (try with_reducible rfl))
            simp only [Act.put, List.setIfInBounds_toArray, List.set_cons_zero, List.set_cons_succ]
            refine wpAnyH_ready (rs := [15]) (by kernel_rfl) (by simp) ?_
            refine AllReadyH.cons rfl (fun K hK => ?_) AllReadyH.nil
            go_simp
            go_at_call 27
            refine (KA.out _ gb.out).mono ?_
            rintro e wc ⟨v3, rfl, ho3, hbc⟩
            have gc := Lib.hid (gb.out.trans (hbc.mono gb.out.size))
            have HV3 := Lib.hid ho3.strs
            clear ho3 hbc
            refine hK.out _ _ ⟨(gc.out.cell (p := ⟨w.heap.size, 0, none⟩) hl0).trans x0, (gc.out.cell (p := ⟨w.heap.size, 1, none⟩) hl0).trans x1, (gc.out.cell (p := ⟨w.heap.size, 2, none⟩) hl0).trans x2, (gc.out.cell (p := ⟨A, 0, none⟩) hlA).trans x3, (gc.out.cell (p := ⟨A, 1, none⟩) hlA).trans x4, (gc.out.cell (p := ⟨A, 2, none⟩) hlA).trans x5⟩ (fun hHeld => ?_)
            clear hK K
            try simp only [Act.put, List.setIfInBounds_toArray, List.set_cons_zero, List.set_cons_succ]
            refine wpAnyH_ready (rs := [17]) (by kernel_rfl) (by simp) ?_
            refine AllReadyH.cons rfl (fun K hK => ?_) AllReadyH.nil
            go_simp
            go_at_call 15
            refine (KS.out _ _ gc.out HV3.out).mono ?_
            rintro e wd ⟨rfl, hbd⟩
            have gd := Lib.hid (gc.out.trans (hbd.mono gc.out.size))
            clear hbd
            refine hK.out _ _ ⟨(gd.out.cell (p := ⟨w.heap.size, 0, none⟩) hl0).trans x0, (gd.out.cell (p := ⟨w.heap.size, 1, none⟩) hl0).trans x1, (gd.out.cell (p := ⟨w.heap.size, 2, none⟩) hl0).trans x2, (gd.out.cell (p := ⟨A, 0, none⟩) hlA).trans x3, (gd.out.cell (p := ⟨A, 1, none⟩) hlA).trans x4, (gd.out.cell (p := ⟨A, 2, none⟩) hlA).trans x5⟩ (fun hHeld => ?_)
            clear hK K
            try simp only [Act.put, List.setIfInBounds_toArray, List.set_cons_zero, List.set_cons_succ]
            refine take_run 18 (some 58) (v := ?_) rfl rfl (by kernel_rfl) (by kernel_rfl) (by kernel_rfl) (fun _ _ _ h => h) (by rfl) ?_ (by assumption) ?_
            rotate_left
            · (intro W hSw; (try dsimp only at hSw); go_simp; (try with_reducible rfl))
            simp only [Act.put, List.setIfInBounds_toArray, List.set_cons_zero, List.set_cons_succ]
            refine take_run 19 (some 59) (v := ?_) rfl rfl (by kernel_rfl) (by kernel_rfl) (by kernel_rfl) (fun _ _ _ h => h) (by rfl) ?_ (by assumption) ?_
            rotate_left
            · (intro W hSw; (try dsimp only at hSw); go_simp; (try with_reducible rfl))
            simp only [Act.put, List.setIfInBounds_toArray, List.set_cons_zero, List.set_cons_succ]
            refine take_run 20 (some 60) (v := ?_) rfl rfl (by kernel_rfl) (by kernel_rfl) (by kernel_rfl) (fun _ _ _ h => h) (by rfl) ?_ (by assumption) ?_
            rotate_left
            · (intro W hSw; (try dsimp only at hSw); go_simp; (try with_reducible rfl))
            simp only [Act.put, List.setIfInBounds_toArray, List.set_cons_zero, List.set_cons_succ]
            refine take_run 21 (some 61) (v := ?_) rfl rfl (by kernel_rfl) (by kernel_rfl) (by kernel_rfl) (fun _ _ _ h => h) (by rfl) ?_ (by assumption) ?_
            rotate_left
            · (intro W hSw; (try dsimp only at hSw); go_simp; (try with_reducible rfl))
            simp only [Act.put, List.setIfInBounds_toArray, List.set_cons_zero, List.set_cons_succ]
            refine take_run 22 (some 62) (v := ?_) rfl rfl (by kernel_rfl) (by kernel_rfl) (by kernel_rfl) (fun _ _ _ h => h) (by rfl) ?_ (by assumption) ?_
            rotate_left
            · (intro W hSw; (try dsimp only at hSw); go_simp; (try with_reducible rfl))
            simp only [Act.put, List.setIfInBounds_toArray, List.set_cons_zero, List.set_cons_succ]
            have ge := gd
            refine take_skip 23 (some 63) rfl rfl (by kernel_rfl) (by kernel_rfl) (by kernel_rfl) (fun _ _ _ h => h) (by rfl) (by assumption) ?_
            simp only [Act.put, List.setIfInBounds_toArray, List.set_cons_zero, List.set_cons_succ]
            refine take_skip 24 (some 64) rfl rfl (by kernel_rfl) (by kernel_rfl) (by kernel_rfl) (fun _ _ _ h => h) (by rfl) (by assumption) ?_
            simp only [Act.put, List.setIfInBounds_toArray, List.set_cons_zero, List.set_cons_succ]
            refine take_skip 25 (some 65) rfl rfl (by kernel_rfl) (by kernel_rfl) (by kernel_rfl) (fun _ _ _ h => h) (by rfl) (by assumption) ?_
            simp only [Act.put, List.setIfInBounds_toArray, List.set_cons_zero, List.set_cons_succ]
            refine take_run 26 (some 66) (v := ?_) rfl rfl (by kernel_rfl) (by kernel_rfl) (by kernel_rfl) (fun _ _ _ h => h) (by rfl) ?_ (by assumption) ?_
            rotate_left
            · (intro W hSw; (try dsimp only at hSw); go_simp; (try with_reducible rfl))
            simp only [Act.put, List.setIfInBounds_toArray, List.set_cons_zero, List.set_cons_succ]
            refine take_run 27 (some 67) (v := ?_) rfl rfl (by kernel_rfl) (by kernel_rfl) (by kernel_rfl) (fun _ _ _ h => h) (by rfl) ?_ (by assumption) ?_
            rotate_left
            · (intro W hSw; (try dsimp only at hSw); go_simp; (try with_reducible rfl))
            simp only [Act.put, List.setIfInBounds_toArray, List.set_cons_zero, List.set_cons_succ]
            refine take_run 28 (some 68) (v := ?_) rfl rfl (by kernel_rfl) (by kernel_rfl) (by kernel_rfl) (fun _ _ _ h => h) (by rfl) ?_ (by assumption) ?_
            rotate_left
            · (intro W hSw; (try dsimp only at hSw); go_simp; (try with_reducible rfl))
            simp only [Act.put, List.setIfInBounds_toArray, List.set_cons_zero, List.set_cons_succ]
            refine take_run 29 (some 69) (v := ?_) rfl rfl (by kernel_rfl) (by kernel_rfl) (by kernel_rfl) (fun _ _ _ h => h) (by rfl) ?_ (by assumption) ?_
            rotate_left
            · (intro W hSw; (try dsimp only at hSw); go_simp; (try with_reducible rfl))
            simp only [Act.put, List.setIfInBounds_toArray, List.set_cons_zero, List.set_cons_succ]
            refine take_run 30 (some 70) (v := ?_) rfl rfl (by kernel_rfl) (by kernel_rfl) (by kernel_rfl) (fun _ _ _ h => h) (by rfl) ?_ (by assumption) ?_
            rotate_left
            · (intro W hSw; (try dsimp only at hSw); go_simp; (try with_reducible rfl))
            simp only [Act.put, List.setIfInBounds_toArray, List.set_cons_zero, List.set_cons_succ]
            refine take_run 31 (some 71) (v := ?_) rfl rfl (by kernel_rfl) (by kernel_rfl) (by kernel_rfl) (fun _ _ _ h => h) (by rfl) ?_ (by assumption) ?_
            rotate_left
            · (intro W hSw; (try dsimp only at hSw); go_simp; (try with_reducible rfl))
            simp only [Act.put, List.setIfInBounds_toArray, List.set_cons_zero, List.set_cons_succ]
            refine take_run 32 (some 72) (v := ?_) rfl rfl (by kernel_rfl) (by kernel_rfl) (by kernel_rfl) (fun _ _ _ h => h) (by rfl) ?_ (by assumption) ?_
            rotate_left
            · (intro W hSw; (try dsimp only at hSw); go_simp; (try with_reducible rfl))
            simp only [Act.put, List.setIfInBounds_toArray, List.set_cons_zero, List.set_cons_succ]
            refine take_run 33 (some 73) (v := ?_) rfl rfl (by kernel_rfl) (by kernel_rfl) (by kernel_rfl) (fun _ _ _ h => h) (by rfl) ?_ (by assumption) ?_
            rotate_left
            · (intro W hSw; (try dsimp only at hSw); go_simp; (try with_reducible rfl))
            simp only [Act.put, List.setIfInBounds_toArray, List.set_cons_zero, List.set_cons_succ]
            refine take_run 34 (some 74) (v := ?_) rfl rfl (by kernel_rfl) (by kernel_rfl) (by kernel_rfl) (fun _ _ _ h => h) (by rfl) ?_ (by assumption) ?_
            rotate_left
            · (intro W hSw; (try dsimp only at hSw); go_simp; (try with_reducible rfl))
            simp only [Act.put, List.setIfInBounds_toArray, List.set_cons_zero, List.set_cons_succ]
            refine take_run 35 (some 75) (v := ?_) rfl rfl (by kernel_rfl) (by kernel_rfl) (by kernel_rfl) (fun _ _ _ h => h) (by rfl) ?_ (by assumption) ?_
            rotate_left
            · (intro W hSw; (try dsimp only at hSw); go_simp; (try with_reducible rfl))
            simp only [Act.put, List.setIfInBounds_toArray, List.set_cons_zero, List.set_cons_succ]
            refine take_run 36 (some 76) (v := ?_) rfl rfl (by kernel_rfl) (by kernel_rfl) (by kernel_rfl) (fun _ _ _ h => h) (by rfl) ?_ (by assumption) ?_
            rotate_left
            · (intro W hSw; (try dsimp only at hSw); go_simp; (try with_reducible rfl))
            simp only [Act.put, List.setIfInBounds_toArray, List.set_cons_zero, List.set_cons_succ]
            refine take_run 37 (some 77) (v := ?_) rfl rfl (by kernel_rfl) (by kernel_rfl) (by kernel_rfl) (fun _ _ _ h => h) (by rfl) ?_ (by assumption) ?_
            rotate_left
            · (intro W hSw; (try dsimp only at hSw); go_simp; (try with_reducible rfl))
            simp only [Act.put, List.setIfInBounds_toArray, List.set_cons_zero, List.set_cons_succ]
            refine take_run 38 (some 78) (v := ?_) rfl rfl (by kernel_rfl) (by kernel_rfl) (by kernel_rfl) (fun _ _ _ h => h) (by rfl) ?_ (by assumption) ?_
            rotate_left
            · (intro W hSw; (try dsimp only at hSw); go_simp; (try with_reducible rfl))
            simp only [Act.put, List.setIfInBounds_toArray, List.set_cons_zero, List.set_cons_succ]
            refine take_run 39 (some 79) (v := ?_) rfl rfl (by kernel_rfl) (by kernel_rfl) (by kernel_rfl) (fun _ _ _ h => h) (by rfl) ?_ (by assumption) ?_
            rotate_left
            · (intro W hSw; (try dsimp only at hSw); go_simp; (try with_reducible rfl))
            simp only [Act.put, List.setIfInBounds_toArray, List.set_cons_zero, List.set_cons_succ]
            refine take_run 40 (some 80) (v := ?_) rfl rfl (by kernel_rfl) (by kernel_rfl) (by kernel_rfl) (fun _ _ _ h => h) (by rfl) ?_ (by assumption) ?_
            rotate_left
            · (intro W hSw; (try dsimp only at hSw); go_simp; (try with_reducible rfl))
            simp only [Act.put, List.setIfInBounds_toArray, List.set_cons_zero, List.set_cons_succ]
            refine take_run 41 (some 81) (v := ?_) rfl rfl (by kernel_rfl) (by kernel_rfl) (by kernel_rfl) (fun _ _ _ h => h) (by rfl) ?_ (by assumption) ?_
            rotate_left
            · (intro W hSw; (try dsimp only at hSw); go_simp; (try with_reducible rfl))
            simp only [Act.put, List.setIfInBounds_toArray, List.set_cons_zero, List.set_cons_succ]
            refine take_run 42 (some 4) (v := ?_) rfl rfl (by kernel_rfl) (by kernel_rfl) (by kernel_rfl) (fun _ _ _ h => h) (by rfl) ?_ (by assumption) ?_
            rotate_left
            · (intro W hSw; (try dsimp only at hSw); go_simp; (try with_reducible rfl))
            simp only [Act.put, List.setIfInBounds_toArray, List.set_cons_zero, List.set_cons_succ]
            refine wpAnyH_done (by kernel_rfl) ?_ _
            go_wp2_with fail
            go_ret
            exact ⟨rfl, HB0.out.trans ((B6.out.trans (ge.out.mono B6.out.size)).mono HB0.out.size)⟩
          | false =>
            have hm3' : (4 : Int) ≤ (l.length : Int) := by
              unfold moreB at hm
              rw [hm1, hm2] at hm
              simp at hm
              omega
            have hd4 : decide ((l.length : Int) < 4) = false := by simp; omega
            rintro e w6 ⟨rfl, hb6⟩
            have B6 := Lib.hid (B4.out.trans (hb6.mono B4.out.size))
            have HM6 := Lib.hid (HM4.out.below hb6 HM4.out.lt)
            have HV6 := Lib.hid (HV4.out.below hb6 (Nat.le_refl _))
            have HZ6 := Lib.hid (HZ0.out.below B6.out hl1)
            obtain ⟨A, hA⟩ : ∃ A, A = w3.heap.size := ⟨_, rfl⟩
            rw [← hA] at HM6
            have hl0 : w.heap.size < w6.heap.size := HZ6.out.lt
            have hlA : A < w6.heap.size := HM6.out.lt
            have x0 : w6.cell? ⟨w.heap.size, 0, none⟩ = some (.int .i64 a) := HZ6.out.cell 0
            have x1 : w6.cell? ⟨w.heap.size, 1, none⟩ = some (.int .i64 t) := HZ6.out.cell 1
            have x2 : w6.cell? ⟨w.heap.size, 2, none⟩ = some (.slice ad l.length c) := HZ6.out.cell 2
            have x3 : w6.cell? ⟨A, 0, none⟩ = some (.int .i64 a) := HM6.out.cell 0
            have x4 : w6.cell? ⟨A, 1, none⟩ = some (.int .i64 t) := HM6.out.cell 1
            have x5 : w6.cell? ⟨A, 2, none⟩ = some (.slice ad2 l2.length c2) := HM6.out.cell 2
            have HE6 := Lib.hid (fun (W : World) (h : Below w6.heap.size w6 W) => HE.out W (B6.out.trans (h.mono B6.out.size)))
            have KI := Lib.hid (fun W (h : Below w6.heap.size w6 W) => lineIs a t (.slice ad2 l2.length c2) l2 W (HE6.out W h) (HV6.out.below h (Nat.le_refl _)) HFI2.out hi)
            rw [HV2.out] at KI
            have KA := Lib.hid (fun W (h : Below w6.heap.size w6 W) => lineAdd a t (.slice ad2 l2.length c2) l2 s W (HE6.out W h) (HV6.out.below h (Nat.le_refl _)) (by omega) (by unfold maxLen; omega))
            unfold AddRes at KA
            rw [HAG2.out] at KA
            have KS : Hid (∀ W v', Below w6.heap.size w6 W → Strs W v' l2 → Calls Tryd.prog 15 #[.agg #[.int .i64 a, .int .i64 t, v'], .agg #[.int .i64 a, .int .i64 t, .slice ad2 l2.length c2]] W fun e w' => e = .returned (.bool true) ∧ Below W.heap.size W w') := Lib.hid (fun W v' hb hv' => by
              have := lineSame a t a t v' (.slice ad2 l2.length c2) l2 l2 W hv' (HV6.out.below hb (Nat.le_refl _))
              rwa [show sameB ⟨a, t, l2⟩ ⟨a, t, l2⟩ = true by unfold sameB; simp] at this)
            rw [← hA]
            clear hA hb6
            clear hm hm1 hm2 hl2 z4
            go_wp2_with fail
            refine wp_region_held_drew (S := (fun W => W.cell? ⟨w.heap.size, 0, none⟩ = some (.int .i64 a) ∧ W.cell? ⟨w.heap.size, 1, none⟩ = some (.int .i64 t) ∧ W.cell? ⟨w.heap.size, 2, none⟩ = some (.slice ad l.length c) ∧ W.cell? ⟨A, 0, none⟩ = some (.int .i64 a) ∧ W.cell? ⟨A, 1, none⟩ = some (.int .i64 t) ∧ W.cell? ⟨A, 2, none⟩ = some (.slice ad2 l2.length c2))) (by kernel_rfl) ?_ (fun hHeld => ?_)
            · exact ⟨x0, x1, x2, x3, x4, x5⟩
            have g0 : Hid (Below w6.heap.size w6 w6.drew) := Lib.hid ((Below.refl _ _).drew)
            refine wpAnyH_ready (rs := [0]) (by kernel_rfl) (by simp) ?_
            refine AllReadyH.cons rfl (fun K hK => ?_) AllReadyH.nil
            go_simp
            go_at_call 10
            refine (lineAlive _ (HE6.out _ g0.out)).mono ?_
            rintro e wa ⟨rfl, hba⟩
            have ga := Lib.hid (g0.out.trans (hba.mono g0.out.size))
            clear hba
            refine hK.out _ _ ⟨(ga.out.cell (p := ⟨w.heap.size, 0, none⟩) hl0).trans x0, (ga.out.cell (p := ⟨w.heap.size, 1, none⟩) hl0).trans x1, (ga.out.cell (p := ⟨w.heap.size, 2, none⟩) hl0).trans x2, (ga.out.cell (p := ⟨A, 0, none⟩) hlA).trans x3, (ga.out.cell (p := ⟨A, 1, none⟩) hlA).trans x4, (ga.out.cell (p := ⟨A, 2, none⟩) hlA).trans x5⟩ (fun hHeld => ?_)
            clear hK K
            try simp only [Act.put, List.setIfInBounds_toArray, List.set_cons_zero, List.set_cons_succ]
            refine take_run 1 (some 41) (v := ?_) rfl rfl (by kernel_rfl) (by kernel_rfl) (by kernel_rfl) (fun _ _ _ h => h) (by rfl) ?_ (by assumption) ?_
            rotate_left
            · (intro W hSw; (try dsimp only at hSw); go_simp; (try with_reducible rfl))
            simp only [Act.put, List.setIfInBounds_toArray, List.set_cons_zero, List.set_cons_succ]
            refine take_run 2 (some 42) (v := ?_) rfl rfl (by kernel_rfl) (by kernel_rfl) (by kernel_rfl) (fun _ _ _ h => h) (by rfl) ?_ (by assumption) ?_
            rotate_left
            · (intro W hSw; (try dsimp only at hSw); go_simp; (try with_reducible rfl))
            simp only [Act.put, List.setIfInBounds_toArray, List.set_cons_zero, List.set_cons_succ]
            refine wpAnyH_ready (rs := [3]) (by kernel_rfl) (by simp) ?_
            refine AllReadyH.cons rfl (fun K hK => ?_) AllReadyH.nil
            go_simp
            go_at_call 11
            refine (KI.out _ ga.out).mono ?_
            rintro e wb ⟨rfl, hbb⟩
            have gb := Lib.hid (ga.out.trans (hbb.mono ga.out.size))
            clear hbb
            refine hK.out _ _ ⟨(gb.out.cell (p := ⟨w.heap.size, 0, none⟩) hl0).trans x0, (gb.out.cell (p := ⟨w.heap.size, 1, none⟩) hl0).trans x1, (gb.out.cell (p := ⟨w.heap.size, 2, none⟩) hl0).trans x2, (gb.out.cell (p := ⟨A, 0, none⟩) hlA).trans x3, (gb.out.cell (p := ⟨A, 1, none⟩) hlA).trans x4, (gb.out.cell (p := ⟨A, 2, none⟩) hlA).trans x5⟩ (fun hHeld => ?_)
            clear hK K
            try simp only [Act.put, List.setIfInBounds_toArray, List.set_cons_zero, List.set_cons_succ]
            refine take_run 4 (some 44) (v := ?_) rfl rfl (by kernel_rfl) (by kernel_rfl) (by kernel_rfl) (fun _ _ _ h => h) (by rfl) ?_ (by assumption) ?_
            rotate_left
            · (intro W hSw; (try dsimp only at hSw); go_simp; (try with_reducible rfl))
            simp only [Act.put, List.setIfInBounds_toArray, List.set_cons_zero, List.set_cons_succ]
            refine take_run 5 (some 45) (v := ?_) rfl rfl (by kernel_rfl) (by kernel_rfl) (by kernel_rfl) (fun _ _ _ h => h) (by rfl) ?_ (by assumption) ?_
            rotate_left
            · (intro W hSw; (try dsimp only at hSw); go_simp; (try with_reducible rfl))
            simp only [Act.put, List.setIfInBounds_toArray, List.set_cons_zero, List.set_cons_succ]
            refine take_run 6 (some 46) (v := ?_) rfl rfl (by kernel_rfl) (by kernel_rfl) (by kernel_rfl) (fun _ _ _ h => h) (by rfl) ?_ (by assumption) ?_
            rotate_left
            · (intro W hSw; (try dsimp only at hSw); go_simp; (try with_reducible rfl))
            simp only [Act.put, List.setIfInBounds_toArray, List.set_cons_zero, List.set_cons_succ]
            refine take_run 7 (some 47) (v := ?_) rfl rfl (by kernel_rfl) (by kernel_rfl) (by kernel_rfl) (fun _ _ _ h => h) (by rfl) ?_ (by assumption) ?_
            rotate_left
            · (intro W hSw; (try dsimp only at hSw); go_simp; (try with_reducible rfl))
            simp only [Act.put, List.setIfInBounds_toArray, List.set_cons_zero, List.set_cons_succ]
            refine take_run 8 (some 48) (v := ?_) rfl rfl (by kernel_rfl) (by kernel_rfl) (by kernel_rfl) (fun _ _ _ h => h) (by rfl) ?_ (by assumption) ?_
            rotate_left
            · (intro W hSw; (try dsimp only at hSw); go_simp; (try with_reducible rfl))
            simp only [Act.put, List.setIfInBounds_toArray, List.set_cons_zero, List.set_cons_succ]
            refine take_run 9 (some 49) (v := ?_) rfl rfl (by kernel_rfl) (by kernel_rfl) (by kernel_rfl) (fun _ _ _ h => h) (by rfl) ?_ (by assumption) ?_
            rotate_left
            · (intro W hSw; (try dsimp only at hSw); go_simp; (try with_reducible rfl))
            simp only [Act.put, List.setIfInBounds_toArray, List.set_cons_zero, List.set_cons_succ]
            refine take_run 10 (some 50) (v := ?_) rfl rfl (by kernel_rfl) (by kernel_rfl) (by kernel_rfl) (fun _ _ _ h => h) (by rfl) ?_ (by assumption) ?_
            rotate_left
            · (intro W hSw; (try dsimp only at hSw); go_simp; (try with_reducible rfl))
            simp only [Act.put, List.setIfInBounds_toArray, List.set_cons_zero, List.set_cons_succ]
            refine take_run 11 (some 51) (v := ?_) rfl rfl (by kernel_rfl) (by kernel_rfl) (by kernel_rfl) (fun _ _ _ h => h) (by rfl) ?_ (by assumption) ?_
            rotate_left
            · (intro W hSw; (try dsimp only at hSw); go_simp; (try with_reducible rfl))
            simp only [Act.put, List.setIfInBounds_toArray, List.set_cons_zero, List.set_cons_succ]
            refine take_run 12 (some 52) (v := ?_) rfl rfl (by kernel_rfl) (by kernel_rfl) (by kernel_rfl) (fun _ _ _ h => h) (by rfl) ?_ (by assumption) ?_
            rotate_left
            · (intro W hSw; (try dsimp only at hSw); go_simp; (try with_reducible rfl))
            simp only [Act.put, List.setIfInBounds_toArray, List.set_cons_zero, List.set_cons_succ]
            refine take_run 13 (some 53) (v := ?_) rfl rfl (by kernel_rfl) (by kernel_rfl) (by kernel_rfl) (fun _ _ _ h => h) (by rfl) ?_ (by assumption) ?_
            rotate_left
            · (intro W hSw; (try dsimp only at hSw); go_simp; (try with_reducible rfl))
            simp only [Act.put, List.setIfInBounds_toArray, List.set_cons_zero, List.set_cons_succ]
            refine take_run 14 (some 54) (v := ?_) rfl rfl (by kernel_rfl) (by kernel_rfl) (by kernel_rfl) (fun _ _ _ h => h) (by rfl) ?_ (by assumption) ?_
            rotate_left
            · (intro W hSw; (try dsimp only at hSw); go_simp; (try with_reducible rfl))
            simp only [Act.put, List.setIfInBounds_toArray, List.set_cons_zero, List.set_cons_succ]
            refine take_run 16 (some 56) (v := ?_) rfl rfl (by kernel_rfl) (by kernel_rfl) (by kernel_rfl) (fun _ _ _ h => h) (by rfl) ?_ (by assumption) ?_
            rotate_left
            · (intro W hSw; (try dsimp only at hSw); go_simp; (try with_reducible rfl))
            simp only [Act.put, List.setIfInBounds_toArray, List.set_cons_zero, List.set_cons_succ]
            refine wpAnyH_ready (rs := [15]) (by kernel_rfl) (by simp) ?_
            refine AllReadyH.cons rfl (fun K hK => ?_) AllReadyH.nil
            go_simp
            go_at_call 27
            refine (KA.out _ gb.out).mono ?_
            rintro e wc ⟨v3, rfl, ho3, hbc⟩
            have gc := Lib.hid (gb.out.trans (hbc.mono gb.out.size))
            have HV3 := Lib.hid ho3.strs
            clear ho3 hbc
            refine hK.out _ _ ⟨(gc.out.cell (p := ⟨w.heap.size, 0, none⟩) hl0).trans x0, (gc.out.cell (p := ⟨w.heap.size, 1, none⟩) hl0).trans x1, (gc.out.cell (p := ⟨w.heap.size, 2, none⟩) hl0).trans x2, (gc.out.cell (p := ⟨A, 0, none⟩) hlA).trans x3, (gc.out.cell (p := ⟨A, 1, none⟩) hlA).trans x4, (gc.out.cell (p := ⟨A, 2, none⟩) hlA).trans x5⟩ (fun hHeld => ?_)
            clear hK K
            try simp only [Act.put, List.setIfInBounds_toArray, List.set_cons_zero, List.set_cons_succ]
            refine wpAnyH_ready (rs := [17]) (by kernel_rfl) (by simp) ?_
            refine AllReadyH.cons rfl (fun K hK => ?_) AllReadyH.nil
            go_simp
            go_at_call 15
            refine (KS.out _ _ gc.out HV3.out).mono ?_
            rintro e wd ⟨rfl, hbd⟩
            have gd := Lib.hid (gc.out.trans (hbd.mono gc.out.size))
            clear hbd
            refine hK.out _ _ ⟨(gd.out.cell (p := ⟨w.heap.size, 0, none⟩) hl0).trans x0, (gd.out.cell (p := ⟨w.heap.size, 1, none⟩) hl0).trans x1, (gd.out.cell (p := ⟨w.heap.size, 2, none⟩) hl0).trans x2, (gd.out.cell (p := ⟨A, 0, none⟩) hlA).trans x3, (gd.out.cell (p := ⟨A, 1, none⟩) hlA).trans x4, (gd.out.cell (p := ⟨A, 2, none⟩) hlA).trans x5⟩ (fun hHeld => ?_)
            clear hK K
            try simp only [Act.put, List.setIfInBounds_toArray, List.set_cons_zero, List.set_cons_succ]
            refine take_run 18 (some 58) (v := ?_) rfl rfl (by kernel_rfl) (by kernel_rfl) (by kernel_rfl) (fun _ _ _ h => h) (by rfl) ?_ (by assumption) ?_
            rotate_left
            · (intro W hSw; (try dsimp only at hSw); go_simp; (try with_reducible rfl))
            simp only [Act.put, List.setIfInBounds_toArray, List.set_cons_zero, List.set_cons_succ]
            refine take_run 19 (some 59) (v := ?_) rfl rfl (by kernel_rfl) (by kernel_rfl) (by kernel_rfl) (fun _ _ _ h => h) (by rfl) ?_ (by assumption) ?_
            rotate_left
            · (intro W hSw; (try dsimp only at hSw); go_simp; (try with_reducible rfl))
            simp only [Act.put, List.setIfInBounds_toArray, List.set_cons_zero, List.set_cons_succ]
            refine take_run 20 (some 60) (v := ?_) rfl rfl (by kernel_rfl) (by kernel_rfl) (by kernel_rfl) (fun _ _ _ h => h) (by rfl) ?_ (by assumption) ?_
            rotate_left
            · (intro W hSw; (try dsimp only at hSw); go_simp; (try with_reducible rfl))
            simp only [Act.put, List.setIfInBounds_toArray, List.set_cons_zero, List.set_cons_succ]
            refine take_run 21 (some 61) (v := ?_) rfl rfl (by kernel_rfl) (by kernel_rfl) (by kernel_rfl) (fun _ _ _ h => h) (by rfl) ?_ (by assumption) ?_
            rotate_left
            · (intro W hSw; (try dsimp only at hSw); go_simp; (try with_reducible rfl))
            simp only [Act.put, List.setIfInBounds_toArray, List.set_cons_zero, List.set_cons_succ]
            refine take_run 22 (some 62) (v := ?_) rfl rfl (by kernel_rfl) (by kernel_rfl) (by kernel_rfl) (fun _ _ _ h => h) (by rfl) ?_ (by assumption) ?_
            rotate_left
            · (intro W hSw; (try dsimp only at hSw); go_simp; (try with_reducible rfl))
            simp only [Act.put, List.setIfInBounds_toArray, List.set_cons_zero, List.set_cons_succ]
            have ge := gd
            refine take_skip 23 (some 63) rfl rfl (by kernel_rfl) (by kernel_rfl) (by kernel_rfl) (fun _ _ _ h => h) (by rfl) (by assumption) ?_
            simp only [Act.put, List.setIfInBounds_toArray, List.set_cons_zero, List.set_cons_succ]
            refine take_skip 24 (some 64) rfl rfl (by kernel_rfl) (by kernel_rfl) (by kernel_rfl) (fun _ _ _ h => h) (by rfl) (by assumption) ?_
            simp only [Act.put, List.setIfInBounds_toArray, List.set_cons_zero, List.set_cons_succ]
            refine take_skip 25 (some 65) rfl rfl (by kernel_rfl) (by kernel_rfl) (by kernel_rfl) (fun _ _ _ h => h) (by rfl) (by assumption) ?_
            simp only [Act.put, List.setIfInBounds_toArray, List.set_cons_zero, List.set_cons_succ]
            refine take_run 26 (some 66) (v := ?_) rfl rfl (by kernel_rfl) (by kernel_rfl) (by kernel_rfl) (fun _ _ _ h => h) (by rfl) ?_ (by assumption) ?_
            rotate_left
            · (intro W hSw; (try dsimp only at hSw); go_simp; (try with_reducible rfl))
            simp only [Act.put, List.setIfInBounds_toArray, List.set_cons_zero, List.set_cons_succ]
            refine take_run 27 (some 67) (v := ?_) rfl rfl (by kernel_rfl) (by kernel_rfl) (by kernel_rfl) (fun _ _ _ h => h) (by rfl) ?_ (by assumption) ?_
            rotate_left
            · (intro W hSw; (try dsimp only at hSw); go_simp; (try with_reducible rfl))
            simp only [Act.put, List.setIfInBounds_toArray, List.set_cons_zero, List.set_cons_succ]
            refine take_run 28 (some 68) (v := ?_) rfl rfl (by kernel_rfl) (by kernel_rfl) (by kernel_rfl) (fun _ _ _ h => h) (by rfl) ?_ (by assumption) ?_
            rotate_left
            · (intro W hSw; (try dsimp only at hSw); go_simp; (try with_reducible rfl))
            simp only [Act.put, List.setIfInBounds_toArray, List.set_cons_zero, List.set_cons_succ]
            refine take_run 29 (some 69) (v := ?_) rfl rfl (by kernel_rfl) (by kernel_rfl) (by kernel_rfl) (fun _ _ _ h => h) (by rfl) ?_ (by assumption) ?_
            rotate_left
            · (intro W hSw; (try dsimp only at hSw); go_simp; (try with_reducible rfl))
            simp only [Act.put, List.setIfInBounds_toArray, List.set_cons_zero, List.set_cons_succ]
            refine take_run 30 (some 70) (v := ?_) rfl rfl (by kernel_rfl) (by kernel_rfl) (by kernel_rfl) (fun _ _ _ h => h) (by rfl) ?_ (by assumption) ?_
            rotate_left
            · (intro W hSw; (try dsimp only at hSw); go_simp; (try with_reducible rfl))
            simp only [Act.put, List.setIfInBounds_toArray, List.set_cons_zero, List.set_cons_succ]
            refine take_run 31 (some 71) (v := ?_) rfl rfl (by kernel_rfl) (by kernel_rfl) (by kernel_rfl) (fun _ _ _ h => h) (by rfl) ?_ (by assumption) ?_
            rotate_left
            · (intro W hSw; (try dsimp only at hSw); go_simp; (try with_reducible rfl))
            simp only [Act.put, List.setIfInBounds_toArray, List.set_cons_zero, List.set_cons_succ]
            refine take_run 32 (some 72) (v := ?_) rfl rfl (by kernel_rfl) (by kernel_rfl) (by kernel_rfl) (fun _ _ _ h => h) (by rfl) ?_ (by assumption) ?_
            rotate_left
            · (intro W hSw; (try dsimp only at hSw); go_simp; (try with_reducible rfl))
            simp only [Act.put, List.setIfInBounds_toArray, List.set_cons_zero, List.set_cons_succ]
            refine take_run 33 (some 73) (v := ?_) rfl rfl (by kernel_rfl) (by kernel_rfl) (by kernel_rfl) (fun _ _ _ h => h) (by rfl) ?_ (by assumption) ?_
            rotate_left
            · (intro W hSw; (try dsimp only at hSw); go_simp; (try with_reducible rfl))
            simp only [Act.put, List.setIfInBounds_toArray, List.set_cons_zero, List.set_cons_succ]
            refine take_run 34 (some 74) (v := ?_) rfl rfl (by kernel_rfl) (by kernel_rfl) (by kernel_rfl) (fun _ _ _ h => h) (by rfl) ?_ (by assumption) ?_
            rotate_left
            · (intro W hSw; (try dsimp only at hSw); go_simp; (try with_reducible rfl))
            simp only [Act.put, List.setIfInBounds_toArray, List.set_cons_zero, List.set_cons_succ]
            refine take_run 35 (some 75) (v := ?_) rfl rfl (by kernel_rfl) (by kernel_rfl) (by kernel_rfl) (fun _ _ _ h => h) (by rfl) ?_ (by assumption) ?_
            rotate_left
            · (intro W hSw; (try dsimp only at hSw); go_simp; (try with_reducible rfl))
            simp only [Act.put, List.setIfInBounds_toArray, List.set_cons_zero, List.set_cons_succ]
            refine take_run 36 (some 76) (v := ?_) rfl rfl (by kernel_rfl) (by kernel_rfl) (by kernel_rfl) (fun _ _ _ h => h) (by rfl) ?_ (by assumption) ?_
            rotate_left
            · (intro W hSw; (try dsimp only at hSw); go_simp; (try with_reducible rfl))
            simp only [Act.put, List.setIfInBounds_toArray, List.set_cons_zero, List.set_cons_succ]
            refine take_run 37 (some 77) (v := ?_) rfl rfl (by kernel_rfl) (by kernel_rfl) (by kernel_rfl) (fun _ _ _ h => h) (by rfl) ?_ (by assumption) ?_
            rotate_left
            · (intro W hSw; (try dsimp only at hSw); go_simp; (try with_reducible rfl))
            simp only [Act.put, List.setIfInBounds_toArray, List.set_cons_zero, List.set_cons_succ]
            refine take_run 38 (some 78) (v := ?_) rfl rfl (by kernel_rfl) (by kernel_rfl) (by kernel_rfl) (fun _ _ _ h => h) (by rfl) ?_ (by assumption) ?_
            rotate_left
            · (intro W hSw; (try dsimp only at hSw); go_simp; (try with_reducible rfl))
            simp only [Act.put, List.setIfInBounds_toArray, List.set_cons_zero, List.set_cons_succ]
            refine take_run 39 (some 79) (v := ?_) rfl rfl (by kernel_rfl) (by kernel_rfl) (by kernel_rfl) (fun _ _ _ h => h) (by rfl) ?_ (by assumption) ?_
            rotate_left
            · (intro W hSw; (try dsimp only at hSw); go_simp; (try with_reducible rfl))
            simp only [Act.put, List.setIfInBounds_toArray, List.set_cons_zero, List.set_cons_succ]
            refine take_run 40 (some 80) (v := ?_) rfl rfl (by kernel_rfl) (by kernel_rfl) (by kernel_rfl) (fun _ _ _ h => h) (by rfl) ?_ (by assumption) ?_
            rotate_left
            · (intro W hSw; (try dsimp only at hSw); go_simp; (try with_reducible rfl))
            simp only [Act.put, List.setIfInBounds_toArray, List.set_cons_zero, List.set_cons_succ]
            refine take_run 41 (some 81) (v := ?_) rfl rfl (by kernel_rfl) (by kernel_rfl) (by kernel_rfl) (fun _ _ _ h => h) (by rfl) ?_ (by assumption) ?_
            rotate_left
            · (intro W hSw; (try dsimp only at hSw); go_simp; (try with_reducible rfl))
            simp only [Act.put, List.setIfInBounds_toArray, List.set_cons_zero, List.set_cons_succ]
            refine take_run 42 (some 4) (v := ?_) rfl rfl (by kernel_rfl) (by kernel_rfl) (by kernel_rfl) (fun _ _ _ h => h) (by rfl) ?_ (by assumption) ?_
            rotate_left
            · (intro W hSw; (try dsimp only at hSw); go_simp; (try with_reducible rfl))
            simp only [Act.put, List.setIfInBounds_toArray, List.set_cons_zero, List.set_cons_succ]
            refine wpAnyH_done (by kernel_rfl) ?_ _
            go_wp2_with fail
            go_ret
            exact ⟨rfl, HB0.out.trans ((B6.out.trans (ge.out.mono B6.out.size)).mono HB0.out.size)⟩
  · rw [hf1] at HF1
    clear hf1
    go_enter Tryd.func8, Tryd.ntmps8
    go_wp2_with fail
    rw [← hw0]
    clear hw0
    refine HF1.out.mono ?_
    rintro e w1 ⟨rfl, hb1⟩
    have B1 := Lib.hid hb1
    clear hb1
    go_wp2_with fail
    refine (lineAlive _ (HE.out _ B1.out)).mono ?_
    rintro e w3 ⟨rfl, hb3⟩
    go_wp2_with fail
    go_ret
    exact ⟨rfl, HB0.out.trans ((B1.out.trans (hb3.mono B1.out.size)).mono HB0.out.size)⟩
end Go.Proofs.YtbichcmpggbfnaaDoor
