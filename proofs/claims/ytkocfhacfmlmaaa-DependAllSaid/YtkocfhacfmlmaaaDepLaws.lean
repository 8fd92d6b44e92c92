/-
  LAYER 7's LAWS: the helpers, the chapter's fixed calls; DependReady, DependNext, DependOrder. By an AI agent.
-/
import Derived.Test.YtkocfhacfmlmaaaDepRefC
import Derived.Test.YtkocfhacfmlmaaaDepConc
import Derived.RegionTactic
namespace Go.Proofs.Ytkocfhacfmlmaaa
open Go.RowKit

theorem eq_of_get {l m : List Int} (hl : l.length = m.length) (h : ∀ j, j < l.length → l.getD j 0 = m.getD j 0) : l = m := by
  refine List.ext_getElem hl fun j h1 h2 => ?_
  have := h j h1
  simpa [List.getD, h1, h2] using this
/-- are two lists one? -/
def sameI (l m : List Int) : Bool := l == m
theorem sameI_self (l : List Int) : sameI l l = true := by simp [sameI]
theorem sameI_ne {l m : List Int} (h : l ≠ m) : sameI l m = false := by simp [sameI, h]
set_option maxHeartbeats 1000000 in
set_option maxRecDepth 100000 in
theorem lawSame (va vb : Value) (l m : List Int) (w : World) (ha : Ints w va l) (hb : Ints w vb m) :
    Calls Try.prog 11 #[va, vb] w fun e w' => e = .returned (.bool (sameI l m)) ∧ Below w.heap.size w w' := by
  obtain ⟨a, c, rfl, hc1, hc2, -, hd⟩ := ha
  obtain ⟨a', c', rfl, hc1', hc2', -, hd'⟩ := hb
  unfold maxLen at hc2 hc2'
  have D := Lib.hid hd
  have D' := Lib.hid hd'
  clear hd hd'
  by_cases hlen : l.length = m.length
  · have HL := Lib.hid hlen
    rw [← hlen] at hc1' ⊢
    clear hlen
    go_enter Try.func11, Try.ntmps11
    go_wp2
    go_loopw [13] (fun i wr => ∃ k : Nat, k ≤ l.length ∧ i = .int .i64 (k : Int) ∧ Hid (∀ j, j < k → l.getD j 0 = m.getD j 0) ∧ Below w.heap.size w wr) (fun i _ => l.length - (intOf i).toNat)
    case atStart => exact ⟨0, by omega, rfl, Lib.hid (fun j hj => by omega), Below.refl _ _⟩
    case round =>
      obtain ⟨k, hk, rfl, HE, hb⟩ := hrel
      have i0 : (0 : Int) ≤ (k : Int) := by omega
      by_cases hlt : k < l.length
      · have i1 : (k : Int) < (l.length : Int) := by omega
        obtain ⟨b1, o1, rfl, -, -, hq, hcell⟩ := D.out k _ (getD_get (d := 0) hlt)
        obtain ⟨b2, o2, rfl, -, -, hq', hcell'⟩ := D'.out k _ (getD_get (d := 0) (by rw [← HL.out]; exact hlt))
        have c1 : wr.cell? ⟨b1, o1 + k, none⟩ = some (.int .i64 (l.getD k 0)) := (hb.cell hq).trans hcell
        have c2 : wr.cell? ⟨b2, o2 + k, none⟩ = some (.int .i64 (m.getD k 0)) := (hb.cell hq').trans hcell'
        clear hcell hcell'
        by_cases hxy : l.getD k 0 = m.getD k 0
        · have HE' : Hid (∀ j, j < k + 1 → l.getD j 0 = m.getD j 0) := Lib.hid fun j hj => by
            by_cases e : j = k
            · subst e; exact hxy
            · exact HE.out j (by omega)
          rw [← hxy] at c2
          generalize l.getD k 0 = x at c1 c2
          clear hxy HE
          go_wp2
          go_quiet (fail)
          go_wp2
          go_roundw
          case rel => exact ⟨k + 1, by omega, by go_num, HE', below_drewN hb _⟩
          case measure => simp [intOf]; omega
        · have hne : sameI l m = false := sameI_ne (by
            intro e
            exact hxy (by rw [e]))
          have HN := Lib.hid hne
          generalize l.getD k 0 = x at c1 hxy
          generalize m.getD k 0 = y at c2 hxy
          have t1 : (x == y) = false := by simp only [beq_eq_false_iff_ne]; exact hxy
          clear hxy HE hne
          go_wp2
          go_quiet (fail)
          go_wp2
          go_ret
          exact ⟨ret_bool HN.out.symm, below_drewN hb _⟩
      · obtain rfl : k = l.length := by omega
        have HN := Lib.hid (show sameI l m = true by rw [eq_of_get HL.out HE.out]; exact sameI_self _)
        go_wp2
        go_ret
        exact ⟨ret_bool HN.out.symm, hb⟩
  · have HN := Lib.hid (show sameI l m = false from sameI_ne (by
      intro e
      exact hlen (by rw [e])))
    have hne : ((l.length : Int) == (m.length : Int)) = false := by simp only [beq_eq_false_iff_ne]; omega
    have hne2 : ((l.length : Int) != (m.length : Int)) = true := by simp only [bne_iff_ne]; omega
    go_enter Try.func11, Try.ntmps11
    go_wp2
    go_ret
    exact ⟨ret_bool HN.out.symm, Below.refl _ _⟩
set_option maxRecDepth 100000 in
theorem few_yes (n : Nat) (hn : n ≤ 24) (w : World) : Calls Try.prog 9 #[.int .i64 (n : Int)] w fun e w' => e = .returned (.bool true) ∧ w' = w := by
  have h : (n : Int) ≤ 24 := by omega
  go_enter Try.func9, Try.ntmps9
  go_wp2
  go_ret
  exact ⟨rfl, rfl⟩
set_option maxRecDepth 100000 in
theorem few_no (n : Nat) (hn : ¬ n ≤ 24) (w : World) : Calls Try.prog 9 #[.int .i64 (n : Int)] w fun e w' => e = .returned (.bool false) ∧ w' = w := by
  have h : ¬ (n : Int) ≤ 24 := by omega
  go_enter Try.func9, Try.ntmps9
  go_wp2
  go_ret
  exact ⟨rfl, rfl⟩
set_option maxHeartbeats 1000000 in
set_option maxRecDepth 100000 in
theorem lawNeed (w : World) (nv : Value) (M : List (List Bool)) (x y : Int) (hx : 0 ≤ x) (hy : 0 ≤ y) (hM : Grid encB 0 w.heap.size w nv M) :
    Calls Try.prog 18 #[nv, .int .i64 x, .int .i64 y] w fun e w' => e = .returned (.bool (Dep.needS M x y)) ∧ w' = w := by
  obtain ⟨i, rfl⟩ : ∃ n : Nat, x = (n : Int) := ⟨x.toNat, by omega⟩
  obtain ⟨j, rfl⟩ : ∃ n : Nat, y = (n : Int) := ⟨y.toNat, by omega⟩
  rw [needS_row]
  have HM := Lib.hid hM
  obtain ⟨a, cap, rfl, hc, -⟩ := hM.len
  unfold maxLen at hc
  clear hM
  by_cases hi : i < M.length
  · have i1 : (i : Int) < (M.length : Int) := by omega
    have hii : (0 : Int) ≤ (i : Int) ∧ (i : Int) < (M.length : Int) := by omega
    obtain ⟨b, o, hd, rfl, -, -, hb, cr, hr⟩ := HM.out.row hi
    obtain ⟨ar, cr2, ehd, h1, h2, -, hcell⟩ := hr
    unfold maxLen at h2
    rw [ehd] at cr
    by_cases hj : j < (M.getD i []).length
    · have i2 : (j : Int) < ((M.getD i []).length : Int) := by omega
      have hjj : (0 : Int) ≤ (j : Int) ∧ (j : Int) < ((M.getD i []).length : Int) := by omega
      obtain ⟨b1, o1, rfl, -, -, -, c1⟩ := hcell j _ (getD_get (d := false) hj)
      replace c1 : w.cell? ⟨b1, o1 + j, none⟩ = some (.bool ((M.getD i []).getD j false)) := c1
      generalize (M.getD i []).getD j false = z at c1 ⊢
      generalize (M.getD i []).length = n at *
      clear hcell ehd
      go_enter Try.func18, Try.ntmps18
      go_wp2
      go_ret
      exact ⟨rfl, rfl⟩
    · have i2 : ¬ (j : Int) < ((M.getD i []).length : Int) := by omega
      have HZ : Hid ((M.getD i []).getD j false = false) := Lib.hid (by rw [List.getD_eq_getElem?_getD, List.getElem?_eq_none (by omega)]; rfl)
      generalize (M.getD i []).getD j false = z at HZ ⊢
      generalize (M.getD i []).length = n at *
      clear hcell ehd
      go_enter Try.func18, Try.ntmps18
      go_wp2
      go_ret
      exact ⟨ret_bool HZ.out.symm, rfl⟩
  · have i1 : ¬ (i : Int) < (M.length : Int) := by omega
    have HZ : Hid ((M.getD i []).getD j false = false) := Lib.hid (by
      have e : M.getD i [] = [] := by rw [List.getD_eq_getElem?_getD, List.getElem?_eq_none (by omega)]; rfl
      rw [e]
      rfl)
    generalize (M.getD i []).getD j false = z at HZ ⊢
    go_enter Try.func18, Try.ntmps18
    go_wp2
    go_ret
    exact ⟨ret_bool HZ.out.symm, rfl⟩
/-- a literal of slices -/
theorem grid_of {α : Type} {enc : α → Value} {w : World} {g : Nat} {t : TypeId} {hs : List Hd} {M : List (List α)} (hg : w.heap[g]? = some (.cells (hs.map encH).toArray t (0, 0))) (hl : hs.length = M.length) (hm : M.length ≤ 1000000)
    (hr : ∀ (i : Nat) h l, hs[i]? = some h → M[i]? = some l → RowIn enc 0 w.heap.size w (encH h) l) : Grid enc 0 w.heap.size w (.slice (some ⟨g, 0, none⟩) M.length M.length) M :=
  ⟨hs, (own_block (B := 0) (Nat.zero_le _) hl hm hg).row.all, hl, hr⟩
theorem row_of {α : Type} {enc : α → Value} {w : World} {g : Nat} {t : TypeId} {l : List α} (hg : w.heap[g]? = some (.cells (l.map enc).toArray t (0, 0))) (hm : l.length ≤ 1000000) : RowIn enc 0 w.heap.size w (.slice (some ⟨g, 0, none⟩) l.length l.length) l :=
  (own_block (B := 0) (Nat.zero_le _) rfl hm hg).row.all
theorem lit3 (w : World) (o0 o1 o2 : Obj) : (((w.alloc o0).alloc o1).alloc o2).heap[w.heap.size]? = some o0 ∧ (((w.alloc o0).alloc o1).alloc o2).heap[w.heap.size + 1]? = some o1 ∧ (((w.alloc o0).alloc o1).alloc o2).heap[w.heap.size + 1 + 1]? = some o2 := by
  have e : (((w.alloc o0).alloc o1).alloc o2).heap = ((w.heap.push o0).push o1).push o2 := rfl
  rw [e]
  simp only [Array.getElem?_push, Array.size_push]
  refine ⟨?_, ?_, ?_⟩
  · repeat (first | exact if_pos trivial | rw [if_neg (by omega)])
  · repeat (first | exact if_pos trivial | rw [if_neg (by omega)])
  · repeat (first | exact if_pos trivial | rw [if_neg (by omega)])
theorem lit4 (w : World) (o0 o1 o2 o3 : Obj) : ((((w.alloc o0).alloc o1).alloc o2).alloc o3).heap[w.heap.size]? = some o0 ∧ ((((w.alloc o0).alloc o1).alloc o2).alloc o3).heap[w.heap.size + 1]? = some o1 ∧
    ((((w.alloc o0).alloc o1).alloc o2).alloc o3).heap[w.heap.size + 1 + 1]? = some o2 ∧ ((((w.alloc o0).alloc o1).alloc o2).alloc o3).heap[w.heap.size + 1 + 1 + 1]? = some o3 := by
  have e : ((((w.alloc o0).alloc o1).alloc o2).alloc o3).heap = (((w.heap.push o0).push o1).push o2).push o3 := rfl
  rw [e]
  simp only [Array.getElem?_push, Array.size_push]
  refine ⟨?_, ?_, ?_, ?_⟩
  · repeat (first | exact if_pos trivial | rw [if_neg (by omega)])
  · repeat (first | exact if_pos trivial | rw [if_neg (by omega)])
  · repeat (first | exact if_pos trivial | rw [if_neg (by omega)])
  · repeat (first | exact if_pos trivial | rw [if_neg (by omega)])
abbrev o123 : Obj := .cells #[.int .i64 1, .int .i64 2, .int .i64 3] 3
abbrev oFFT : Obj := .cells #[.bool false, .bool false, .bool true] 4
theorem lits_1 (w : World) : let W := ((w.alloc o123).alloc oFFT).alloc (.cells #[.slice (some ⟨w.heap.size + 1, 0, none⟩) 3 3] 31)
    Ints W (.slice (some ⟨w.heap.size, 0, none⟩) 3 3) [1, 2, 3] ∧ Grid encB 0 W.heap.size W (.slice (some ⟨w.heap.size + 1 + 1, 0, none⟩) 1 1) Dep.M1 ∧ Below w.heap.size w W := by
  intro W
  obtain ⟨h0, h1, h2⟩ := lit3 w o123 oFFT (.cells #[.slice (some ⟨w.heap.size + 1, 0, none⟩) 3 3] 31)
  refine ⟨row_of (l := [1, 2, 3]) h0 (by decide), grid_of (hs := [(some ⟨w.heap.size + 1, 0, none⟩, 3, 3)]) (M := Dep.M1) h2 rfl (by decide) fun i h l e1 e2 => ?_, (((Below.refl w.heap.size w).alloc (Nat.le_refl _) _).alloc (by simp) _).alloc (by simp; omega) _⟩
  match i, e1, e2 with
  | 0, e1, e2 =>
    obtain rfl := Option.some.inj e1
    obtain rfl := Option.some.inj e2
    exact row_of (l := [false, false, true]) h1 (by decide)
theorem lits_2 (w : World) : let W := (((w.alloc o123).alloc oFFT).alloc (.cells #[.bool true] 4)).alloc (.cells #[.slice (some ⟨w.heap.size + 1, 0, none⟩) 3 3, nilS, .slice (some ⟨w.heap.size + 1 + 1, 0, none⟩) 1 1] 31)
    Ints W (.slice (some ⟨w.heap.size, 0, none⟩) 3 3) [1, 2, 3] ∧ Grid encB 0 W.heap.size W (.slice (some ⟨w.heap.size + 1 + 1 + 1, 0, none⟩) 3 3) Dep.M2 ∧ Below w.heap.size w W := by
  intro W
  obtain ⟨h0, h1, h2, h3⟩ := lit4 w o123 oFFT (.cells #[.bool true] 4) (.cells #[.slice (some ⟨w.heap.size + 1, 0, none⟩) 3 3, nilS, .slice (some ⟨w.heap.size + 1 + 1, 0, none⟩) 1 1] 31)
  refine ⟨row_of (l := [1, 2, 3]) h0 (by decide), grid_of (hs := [(some ⟨w.heap.size + 1, 0, none⟩, 3, 3), (none, 0, 0), (some ⟨w.heap.size + 1 + 1, 0, none⟩, 1, 1)]) (M := Dep.M2) h3 rfl (by decide) fun i h l e1 e2 => ?_,
    ((((Below.refl w.heap.size w).alloc (Nat.le_refl _) _).alloc (by simp) _).alloc (by simp; omega) _).alloc (by simp; omega) _⟩
  match i, e1, e2 with
  | 0, e1, e2 =>
    obtain rfl := Option.some.inj e1
    obtain rfl := Option.some.inj e2
    exact row_of (l := [false, false, true]) h1 (by decide)
  | 1, e1, e2 =>
    obtain rfl := Option.some.inj e1
    obtain rfl := Option.some.inj e2
    exact RowIn.nil _ _ _ _
  | 2, e1, e2 =>
    obtain rfl := Option.some.inj e1
    obtain rfl := Option.some.inj e2
    exact row_of (l := [true]) h2 (by decide)
theorem lit_ints (w : World) (l : List Int) (hl : l.length ≤ 1000) : Ints (w.alloc (.cells (l.map encI).toArray 3)) (.slice (some ⟨w.heap.size, 0, none⟩) l.length l.length) l := (OwnRow.lit encI 3 w l (by omega)).row.all
set_option maxHeartbeats 2000000 in
set_option maxRecDepth 100000 in
theorem alive (w : World) : Calls Try.prog 10 #[] w fun e w' => e = .returned (.bool true) ∧ Below w.heap.size w w' := by
  obtain ⟨a1, a2, a3⟩ := lits_1 w
  have H1 := Lib.hid (progOrder _ _ _ _ _ a1 a2 (by decide))
  have HB1 := Lib.hid a3
  rw [Dep.order_1] at H1
  clear a1 a2 a3
  go_enter Try.func10, Try.ntmps10
  go_wp2_with fail
  refine H1.out.mono ?_
  rintro e w1 ⟨u1, rfl, h1, hb1⟩
  have HR1 := Lib.hid h1.row.all
  have HB2 := Lib.hid (HB1.out.trans (hb1.mono HB1.out.size))
  obtain ⟨q1, q2, q3⟩ := lits_2 w1
  have H2 := Lib.hid (progOrder _ _ _ _ _ q1 q2 (by decide))
  have HBL := Lib.hid q3
  rw [Dep.order_2] at H2
  obtain ⟨ua, uc, rfl, -⟩ := h1.row
  clear q1 q2 q3 h1 hb1 H1
  go_wp2_with fail
  refine H2.out.mono ?_
  rintro e w2 ⟨u2, rfl, h2, hb2⟩
  have HR2 := Lib.hid h2.row.all
  have HB12 := Lib.hid (HBL.out.trans (hb2.mono HBL.out.size))
  have HB3 := Lib.hid (HB2.out.trans (HB12.out.mono HB2.out.size))
  obtain ⟨ua2, uc2, rfl, -⟩ := h2.row
  clear h2 hb2 H2 HBL
  have H3 := Lib.hid (lawSame _ _ [1, 2, 0] [1, 2, 0] _ ((HR1.out.under HB12.out (Nat.le_refl _)).under (below_alloc1 w2 _) (Nat.le_refl _)) (lit_ints w2 [1, 2, 0] (by decide)))
  rw [sameI_self] at H3
  go_wp2_with fail
  refine H3.out.mono ?_
  rintro e w3 ⟨rfl, hb3⟩
  have HB23 := Lib.hid ((below_alloc1 w2 (.cells #[.int .i64 1, .int .i64 2, .int .i64 0] 3)).trans (hb3.mono (by simp)))
  clear hb3 H3
  have H4 := Lib.hid (lawSame _ _ [0, 1, 2] [0, 1, 2] _ ((HR2.out.under HB23.out (Nat.le_refl _)).under (below_alloc1 w3 _) (Nat.le_refl _)) (lit_ints w3 [0, 1, 2] (by decide)))
  rw [sameI_self] at H4
  go_wp2_with fail
  refine H4.out.mono ?_
  rintro e w4 ⟨rfl, hb4⟩
  have HB34 := Lib.hid ((below_alloc1 w3 (.cells #[.int .i64 0, .int .i64 1, .int .i64 2] 3)).trans (hb4.mono (by simp)))
  have HB4 := Lib.hid ((HB3.out.trans (HB23.out.mono HB3.out.size)).trans (HB34.out.mono (Nat.le_trans HB3.out.size HB23.out.size)))
  clear hb4 H4 HB34 HB23 HR1 HR2 HB12 HB1 HB2 HB3
  have H5 := Lib.hid (progNext w4 nilS nilS nilS [] [] [] (RowIn.nil _ _ _ _) (RowIn.nil _ _ _ _) (fun x hx => by simp at hx) (Grid.nil _ _ _ _) (by decide))
  rw [Dep.next_0] at H5
  go_wp2_with fail
  refine H5.out.mono ?_
  rintro e w5 ⟨rfl, hb5⟩
  have HB5 := Lib.hid (HB4.out.trans (hb5.mono HB4.out.size))
  clear hb5 H5 HB4
  have H6 := Lib.hid (progNext _ _ nilS nilS [5, 3] [] [] (lit_ints w5 [5, 3] (by decide)) (RowIn.nil _ _ _ _) (fun x hx => by
    simp only [List.mem_cons, List.not_mem_nil, or_false] at hx
    rcases hx with rfl | rfl <;> exact WalkArith.wf_i64 (by decide)) (Grid.nil _ _ _ _) (by decide))
  rw [Dep.next_53] at H6
  go_wp2_with fail
  refine H6.out.mono ?_
  rintro e w6 ⟨rfl, hb6⟩
  have HB6 := Lib.hid ((HB5.out.trans ((below_alloc1 w5 (.cells #[.int .i64 5, .int .i64 3] 3)).mono HB5.out.size)).trans (hb6.mono (by have := HB5.out.size; simp; omega)))
  clear hb6 H6 HB5
  have H7 := Lib.hid (progReady _ _ nilS [4, -1, 4, 2] [] (lit_ints w6 [4, -1, 4, 2] (by decide)) (fun x hx => by
    simp only [List.mem_cons, List.not_mem_nil, or_false] at hx
    rcases hx with rfl | rfl | rfl | rfl <;> exact WalkArith.wf_i64 (by decide)) (Grid.nil _ _ _ _) (by decide))
  rw [Dep.ready_4] at H7
  go_wp2_with fail
  refine H7.out.mono ?_
  rintro e w7 ⟨u7, rfl, h7, hb7⟩
  have HB7 := Lib.hid ((HB6.out.trans ((below_alloc1 w6 (.cells #[.int .i64 4, .int .i64 (-1), .int .i64 4, .int .i64 2] 3)).mono HB6.out.size)).trans (hb7.mono (by have := HB6.out.size; simp; omega)))
  have H8 := Lib.hid (lawSame _ _ [4, 2] [4, 2] _ (h7.row.all.under (below_alloc1 w7 _) (Nat.le_refl _)) (lit_ints w7 [4, 2] (by decide)))
  rw [sameI_self] at H8
  obtain ⟨ua7, uc7, rfl, -⟩ := h7.row
  clear hb7 H7 HB6 h7
  go_wp2_with fail
  refine H8.out.mono ?_
  rintro e w8 ⟨rfl, hb8⟩
  have HB8 := Lib.hid ((HB7.out.trans ((below_alloc1 w7 (.cells #[.int .i64 4, .int .i64 2] 3)).mono HB7.out.size)).trans (hb8.mono (by have := HB7.out.size; simp; omega)))
  clear hb8 H8 HB7
  go_wp2_with fail
  go_ret
  exact ⟨rfl, HB8.out⟩
/-- a law's own end -/
abbrev LawTrue (w : World) : Ending → World → Prop := fun e w' => e = .returned (.bool true) ∧ Below w.heap.size w w'
set_option maxHeartbeats 2000000 in
set_option maxRecDepth 100000 in
theorem lawReady (w : World) (v nv : Value) (left : List Int) (M : List (List Bool)) (hv : Ints w v left) (hwf : ∀ x, x ∈ left → wfI x) (hM : Grid encB 0 w.heap.size w nv M) :
    Calls Try.prog 3 #[v, nv] w (LawTrue w) := by
  have HV := Lib.hid hv
  have HM := Lib.hid hM
  obtain ⟨a, cap, rfl, -⟩ := hv
  obtain ⟨a2, cap2, rfl, -⟩ := hM.len
  clear hM
  by_cases h : left.length ≤ 24
  · have hsm : left.length ≤ 1000000 := by omega
    have HF := Lib.hid (few_yes left.length h w)
    clear h
    go_enter Try.func3, Try.ntmps3
    go_wp2_with fail
    refine HF.out.mono ?_
    rintro e w0 ⟨rfl, rfl⟩
    go_wp2_with fail
    refine (alive _).mono ?_
    rintro e w1 ⟨rfl, hb1⟩
    have HB1 := Lib.hid hb1
    have HP := Lib.hid (progReady w1 _ _ left M (HV.out.under hb1 (Nat.le_refl _)) hwf (HM.out.under hb1 (Nat.le_refl _)) hsm)
    clear hb1
    go_wp2_with fail
    refine HP.out.mono ?_
    rintro e w2 ⟨u, rfl, hu, hb2⟩
    have HB2 := Lib.hid (HB1.out.trans (hb2.mono HB1.out.size))
    have HU := Lib.hid hu.row.all
    obtain ⟨a3, c3, rfl, -⟩ := hu.row
    have HQ := Lib.hid (refReady w2 _ _ left M (HV.out.under HB2.out (Nat.le_refl _)) (HM.out.under HB2.out (Nat.le_refl _)) hsm)
    clear hu hb2 HP
    go_wp2_with fail
    refine HQ.out.mono ?_
    rintro e w3 ⟨u3, rfl, hu3, hb3⟩
    have HB3 := Lib.hid (HB2.out.trans (hb3.mono HB2.out.size))
    have HS := Lib.hid (lawSame _ _ _ _ w3 (HU.out.under hb3 (Nat.le_refl _)) hu3.row.all)
    rw [sameI_self] at HS
    obtain ⟨a4, c4, rfl, -⟩ := hu3.row
    clear hu3 hb3 HQ
    go_wp2_with fail
    refine HS.out.mono ?_
    rintro e w4 ⟨rfl, hb4⟩
    have HB4 := Lib.hid (HB3.out.trans (hb4.mono HB3.out.size))
    clear hb4 HS
    go_wp2_with fail
    go_ret
    exact ⟨rfl, HB4.out⟩
  · have HF := Lib.hid (few_no left.length h w)
    clear h hwf
    go_enter Try.func3, Try.ntmps3
    go_wp2_with fail
    refine HF.out.mono ?_
    rintro e w0 ⟨rfl, rfl⟩
    go_wp2_with fail
    go_ret
    exact ⟨rfl, Below.refl _ _⟩
set_option maxHeartbeats 2000000 in
set_option maxRecDepth 100000 in
theorem lawNext (w : World) (v sv nv : Value) (left st : List Int) (M : List (List Bool)) (hv : Ints w v left) (hwf : ∀ x, x ∈ left → wfI x) (hs : Ints w sv st) (hM : Grid encB 0 w.heap.size w nv M) :
    Calls Try.prog 4 #[v, sv, nv] w (LawTrue w) := by
  have HV := Lib.hid hv
  have HM := Lib.hid hM
  have HSV := Lib.hid hs
  obtain ⟨a, cap, rfl, -⟩ := hv
  obtain ⟨a2, cap2, rfl, -⟩ := hM.len
  obtain ⟨a5, cap5, rfl, -⟩ := hs
  clear hM
  by_cases h : left.length ≤ 24
  · have hsm : left.length ≤ 1000000 := by omega
    have HF := Lib.hid (few_yes left.length h w)
    clear h
    go_enter Try.func4, Try.ntmps4
    go_wp2_with fail
    refine HF.out.mono ?_
    rintro e w0 ⟨rfl, rfl⟩
    go_wp2_with fail
    refine (alive _).mono ?_
    rintro e w1 ⟨rfl, hb1⟩
    have HB1 := Lib.hid hb1
    have HP := Lib.hid (progNext w1 _ _ _ left st M (HV.out.under hb1 (Nat.le_refl _)) (HSV.out.under hb1 (Nat.le_refl _)) hwf (HM.out.under hb1 (Nat.le_refl _)) hsm)
    clear hb1
    go_wp2_with fail
    refine HP.out.mono ?_
    rintro e w2 ⟨rfl, hb2⟩
    have HB2 := Lib.hid (HB1.out.trans (hb2.mono HB1.out.size))
    have HQ := Lib.hid (refNext w2 _ _ _ left st M (HV.out.under HB2.out (Nat.le_refl _)) (HSV.out.under HB2.out (Nat.le_refl _)) (HM.out.under HB2.out (Nat.le_refl _)) hsm)
    clear hb2 HP
    generalize Dep.nextS left st M = x at HQ ⊢
    go_wp2_with fail
    refine HQ.out.mono ?_
    rintro e w3 ⟨rfl, hb3⟩
    have HB3 := Lib.hid (HB2.out.trans (hb3.mono HB2.out.size))
    clear hb3 HQ
    go_wp2_with fail
    go_ret
    exact ⟨rfl, HB3.out⟩
  · have HF := Lib.hid (few_no left.length h w)
    clear h hwf
    go_enter Try.func4, Try.ntmps4
    go_wp2_with fail
    refine HF.out.mono ?_
    rintro e w0 ⟨rfl, rfl⟩
    go_wp2_with fail
    go_ret
    exact ⟨rfl, Below.refl _ _⟩
set_option maxHeartbeats 2000000 in
set_option maxRecDepth 100000 in
theorem lawOrder (w : World) (sv nv : Value) (st : List Int) (M : List (List Bool)) (hs : Ints w sv st) (hM : Grid encB 0 w.heap.size w nv M) :
    Calls Try.prog 5 #[sv, nv] w (LawTrue w) := by
  have HV := Lib.hid hs
  have HM := Lib.hid hM
  obtain ⟨a, cap, rfl, -⟩ := hs
  obtain ⟨a2, cap2, rfl, -⟩ := hM.len
  clear hM
  by_cases h : st.length ≤ 24
  · have hsm : st.length ≤ 1000000 := by omega
    have HF := Lib.hid (few_yes st.length h w)
    clear h
    go_enter Try.func5, Try.ntmps5
    go_wp2_with fail
    refine HF.out.mono ?_
    rintro e w0 ⟨rfl, rfl⟩
    go_wp2_with fail
    refine (alive _).mono ?_
    rintro e w1 ⟨rfl, hb1⟩
    have HB1 := Lib.hid hb1
    have HP := Lib.hid (progOrder w1 _ _ st M (HV.out.under hb1 (Nat.le_refl _)) (HM.out.under hb1 (Nat.le_refl _)) hsm)
    clear hb1
    go_wp2_with fail
    refine HP.out.mono ?_
    rintro e w2 ⟨u, rfl, hu, hb2⟩
    have HB2 := Lib.hid (HB1.out.trans (hb2.mono HB1.out.size))
    have HU := Lib.hid hu.row.all
    obtain ⟨a3, c3, rfl, -⟩ := hu.row
    have HQ := Lib.hid (refOrder w2 _ _ st M (HV.out.under HB2.out (Nat.le_refl _)) (HM.out.under HB2.out (Nat.le_refl _)) hsm)
    clear hu hb2 HP
    go_wp2_with fail
    refine HQ.out.mono ?_
    rintro e w3 ⟨u3, rfl, hu3, hb3⟩
    have HB3 := Lib.hid (HB2.out.trans (hb3.mono HB2.out.size))
    have HS := Lib.hid (lawSame _ _ _ _ w3 (HU.out.under hb3 (Nat.le_refl _)) hu3.row.all)
    rw [sameI_self] at HS
    obtain ⟨a4, c4, rfl, -⟩ := hu3.row
    clear hu3 hb3 HQ
    go_wp2_with fail
    refine HS.out.mono ?_
    rintro e w4 ⟨rfl, hb4⟩
    have HB4 := Lib.hid (HB3.out.trans (hb4.mono HB3.out.size))
    clear hb4 HS
    go_wp2_with fail
    go_ret
    exact ⟨rfl, HB4.out⟩
  · have HF := Lib.hid (few_no st.length h w)
    clear h
    go_enter Try.func5, Try.ntmps5
    go_wp2_with fail
    refine HF.out.mono ?_
    rintro e w0 ⟨rfl, rfl⟩
    go_wp2_with fail
    go_ret
    exact ⟨rfl, Below.refl _ _⟩
end Go.Proofs.Ytkocfhacfmlmaaa
