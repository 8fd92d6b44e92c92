/-
  CONTRACTS OF LAYER 3 (idset) AND OF ITS REFERENCE, that make no memory: Is, Same, Index, Has. By an AI agent.
-/
import Derived.Test.YtflbphmpohkkbaaIdPlain
import Derived.Test.YtflbphmpohkkbaaInts
import Derived.Test.YtflbphmpohkkbaaShelf
import Derived.Deep.QuietTactic
import Derived.Deep.LoopGhost
import Derived.WalkMore
namespace Go.Proofs.Ytflbphmpohkkbaa
open Go.RowKit

theorem ret_bool {b c : Bool} (h : b = c) : Ending.returned (.bool b) = .returned (.bool c) := by rw [h]
theorem ret_int {a b : Int} (h : a = b) : Ending.returned (.int .i64 a) = .returned (.int .i64 b) := by rw [h]
theorem getD_get {l : List Int} {k : Nat} (h : k < l.length) : l[k]? = some (l.getD k 0) := by simp [List.getD, h]
theorem sl_eq {a a' : Option Addr} {n n' c c' : Nat} (h : Value.slice a n c = .slice a' n' c') : a = a' ∧ n = n' ∧ c = c' := by injection h with h1 h2 h3; exact ⟨h1, h2, h3⟩
set_option maxHeartbeats 400000 in
set_option maxRecDepth 100000 in
theorem idsetIs (v : Value) (l : List Int) (w : World) (hv : Ints w v l) :
    Calls Try.prog 11 #[v] w fun e w' => e = .returned (.bool (Ids.isSet l)) ∧ Below w.heap.size w w' := by
  rcases hv.shape with ⟨a, c, rfl, rfl, -, -⟩ | ⟨b, o, c, rfl, p, q, n1, m1, d⟩
  · have HS : Hid (Ids.isSet [] = true) := Lib.hid rfl
    go_enter Try.func11, Try.ntmps11
    go_wp2
    refine wp_loop_rounds 1 ?_
    rw [rounds_succ]
    go_wp2
    go_ret
    exact ⟨ret_bool HS.out.symm, Below.refl _ _⟩
  · unfold maxLen at m1
    have D := Lib.hid (Ints.getD d)
    clear d hv
    go_enter Try.func11, Try.ntmps11
    go_wp2
    go_loopw [3] (fun i wr => ∃ k : Nat, k < l.length ∧ i = .int .i64 ((k + 1 : Nat) : Int) ∧ Hid (Ids.incTo l (k + 1)) ∧ Below w.heap.size w wr) (fun i _ => l.length - (intOf i).toNat)
    case atStart => exact ⟨0, p, rfl, Lib.hid (fun j hj => by omega), Below.refl _ _⟩
    case round =>
      obtain ⟨k, hk, rfl, hinc, hbr⟩ := hrel
      by_cases hlt : k + 1 < l.length
      · have c1 : wr.cell? ⟨b, o + k, none⟩ = some (.int .i64 (l.getD k 0)) := (hbr.cell q).trans (D.out k hk)
        have c2 : wr.cell? ⟨b, o + (k + 1), none⟩ = some (.int .i64 (l.getD (k + 1) 0)) := (hbr.cell q).trans (D.out (k + 1) hlt)
        have i0 : (0 : Int) ≤ (k : Int) := by omega
        have i1 : ((k + 1 : Nat) : Int) - 1 = (k : Int) := by omega
        have i3 : (k : Int) < (l.length : Int) := by omega
        have i4 : ((k + 1 : Nat) : Int) < (l.length : Int) := by omega
        have i5 : (0 : Int) ≤ ((k + 1 : Nat) : Int) := by omega
        generalize hx : l.getD k 0 = x at c1
        generalize hy : l.getD (k + 1) 0 = y at c2
        have HX := Lib.hid hx
        have HY := Lib.hid hy
        clear hx hy
        by_cases hxy : x < y
        · have t : ¬ y ≤ x := by omega
          go_wp2
          go_quiet (fail)
          go_wp2
          go_roundw
          case rel =>
            refine ⟨k + 1, hlt, by go_num, Lib.hid (fun j hj => ?_), below_drewN hbr _⟩
            by_cases e : j = k
            · subst e; rw [HX.out, HY.out]; exact hxy
            · exact hinc.out j (by omega)
          case measure => simp [intOf]; omega
        · have t : y ≤ x := by omega
          go_wp2
          go_quiet (fail)
          go_wp2
          go_ret
          exact ⟨ret_bool (Ids.isSet_false hlt (by rw [HX.out, HY.out]; exact t)).symm, below_drewN hbr _⟩
      · have hk' : (l.length : Int) ≤ ((k + 1 : Nat) : Int) := by omega
        go_wp2
        go_ret
        exact ⟨ret_bool (Ids.isSet_true hinc.out (by omega)).symm, hbr⟩
set_option maxHeartbeats 400000 in
set_option maxRecDepth 100000 in
theorem refIs (v : Value) (l : List Int) (w : World) (hv : Ints w v l) :
    Calls Try.prog 12 #[v] w fun e w' => e = .returned (.bool (Ids.isSet l)) ∧ Below w.heap.size w w' := by
  rcases hv.shape with ⟨a, c, rfl, rfl, -, -⟩ | ⟨b, o, c, rfl, p, q, n1, m1, d⟩
  · have HS : Hid (Ids.isSet [] = true) := Lib.hid rfl
    go_enter Try.func12, Try.ntmps12
    go_wp2
    refine wp_loop_rounds 1 ?_
    rw [rounds_succ]
    go_wp2
    go_ret
    exact ⟨ret_bool HS.out.symm, Below.refl _ _⟩
  · unfold maxLen at m1
    have D := Lib.hid (Ints.getD d)
    clear d hv
    go_enter Try.func12, Try.ntmps12
    go_wp2
    go_loopw [3] (fun i wr => ∃ k : Nat, k < l.length ∧ i = .int .i64 ((k + 1 : Nat) : Int) ∧ Hid (Ids.incTo l (k + 1)) ∧ Below w.heap.size w wr) (fun i _ => l.length - (intOf i).toNat)
    case atStart => exact ⟨0, p, rfl, Lib.hid (fun j hj => by omega), Below.refl _ _⟩
    case round =>
      obtain ⟨k, hk, rfl, hinc, hbr⟩ := hrel
      by_cases hlt : k + 1 < l.length
      · have c1 : wr.cell? ⟨b, o + k, none⟩ = some (.int .i64 (l.getD k 0)) := (hbr.cell q).trans (D.out k hk)
        have c2 : wr.cell? ⟨b, o + (k + 1), none⟩ = some (.int .i64 (l.getD (k + 1) 0)) := (hbr.cell q).trans (D.out (k + 1) hlt)
        have i0 : (0 : Int) ≤ (k : Int) := by omega
        have i1 : ((k + 1 : Nat) : Int) - 1 = (k : Int) := by omega
        have i3 : (k : Int) < (l.length : Int) := by omega
        have i4 : ((k + 1 : Nat) : Int) < (l.length : Int) := by omega
        have i5 : (0 : Int) ≤ ((k + 1 : Nat) : Int) := by omega
        generalize hx : l.getD k 0 = x at c1
        generalize hy : l.getD (k + 1) 0 = y at c2
        have HX := Lib.hid hx
        have HY := Lib.hid hy
        clear hx hy
        by_cases hxy : x < y
        · have t : ¬ y ≤ x := by omega
          go_wp2
          go_quiet (fail)
          go_wp2
          go_roundw
          case rel =>
            refine ⟨k + 1, hlt, by go_num, Lib.hid (fun j hj => ?_), below_drewN hbr _⟩
            by_cases e : j = k
            · subst e; rw [HX.out, HY.out]; exact hxy
            · exact hinc.out j (by omega)
          case measure => simp [intOf]; omega
        · have t : y ≤ x := by omega
          go_wp2
          go_quiet (fail)
          go_wp2
          go_ret
          exact ⟨ret_bool (Ids.isSet_false hlt (by rw [HX.out, HY.out]; exact t)).symm, below_drewN hbr _⟩
      · have hk' : (l.length : Int) ≤ ((k + 1 : Nat) : Int) := by omega
        go_wp2
        go_ret
        exact ⟨ret_bool (Ids.isSet_true hinc.out (by omega)).symm, hbr⟩
def SameTo (a b : List Int) (k : Nat) : Prop := ∀ j, j < k → a.getD j 0 = b.getD j 0
theorem lists_eq {a b : List Int} (hl : a.length = b.length) (h : SameTo a b a.length) : decide (a = b) = true := by
  rw [decide_eq_true_eq]
  refine List.ext_getElem hl fun i h1 h2 => ?_
  have := h i h1
  simpa [List.getD, h1, h2] using this
theorem lists_ne {a b : List Int} {k : Nat} (h : a.getD k 0 ≠ b.getD k 0) : decide (a = b) = false := by
  rw [decide_eq_false_iff_not]; rintro rfl; exact h rfl
set_option maxHeartbeats 400000 in
set_option maxRecDepth 100000 in
theorem refSame (v1 v2 : Value) (l1 l2 : List Int) (w : World) (s1 : Ints w v1 l1) (s2 : Ints w v2 l2) :
    Calls Try.prog 13 #[v1, v2] w fun e w' => e = .returned (.bool (decide (l1 = l2))) ∧ Below w.heap.size w w' := by
  obtain ⟨a1, c1, rfl, n1, m1, _⟩ := id s1
  obtain ⟨a2, c2, rfl, n2, m2, _⟩ := id s2
  unfold maxLen at m1 m2
  by_cases hl : l1.length = l2.length
  · have hl' : ((l1.length : Int) == (l2.length : Int)) = true := by rw [hl]; simp
    have HL := Lib.hid hl
    rcases s1.shape with ⟨b1, k1, e1, rfl, -, -⟩ | ⟨b1, o1, k1, e1, p1, q1, -, -, d1⟩
    · obtain rfl : l2 = [] := List.eq_nil_of_length_eq_zero hl.symm
      clear hl hl' e1
      go_enter Try.func13, Try.ntmps13
      go_wp2
      refine wp_loop_rounds 1 ?_
      rw [rounds_succ]
      go_wp2
      go_ret
      exact ⟨rfl, Below.refl _ _⟩
    · rcases s2.shape with ⟨b2, k2, e2, rfl, -, -⟩ | ⟨b2, o2, k2, e2, p2, q2, -, -, d2⟩
      · simp at hl; subst hl; simp at p1
      obtain ⟨rfl, -, rfl⟩ := sl_eq e1
      obtain ⟨rfl, -, rfl⟩ := sl_eq e2
      have D1 := Lib.hid (Ints.getD d1)
      have D2 := Lib.hid (Ints.getD d2)
      clear d1 d2 hl s1 s2 e1 e2
      have i1 : (l1.length : Int) ≤ l2.length := by have := HL.out; omega
      have i2 : (l2.length : Int) ≤ l1.length := by have := HL.out; omega
      go_enter Try.func13, Try.ntmps13
      go_wp2
      go_loopw [5] (fun i wr => ∃ k : Nat, k ≤ l1.length ∧ i = .int .i64 (k : Int) ∧ Hid (SameTo l1 l2 k) ∧ Below w.heap.size w wr) (fun i _ => l1.length - (intOf i).toNat)
      case atStart => exact ⟨0, by omega, rfl, Lib.hid (fun j hj => by omega), Below.refl _ _⟩
      case round =>
        obtain ⟨k, hk, rfl, hsame, hbr⟩ := hrel
        by_cases hlt : k < l1.length
        · have c1 : wr.cell? ⟨b1, o1 + k, none⟩ = some (.int .i64 (l1.getD k 0)) := (hbr.cell q1).trans (D1.out k hlt)
          have c2 : wr.cell? ⟨b2, o2 + k, none⟩ = some (.int .i64 (l2.getD k 0)) := (hbr.cell q2).trans (D2.out k (by omega))
          have i0 : (0 : Int) ≤ (k : Int) := by omega
          have i3 : (k : Int) < (l1.length : Int) := by omega
          have i4 : (k : Int) < (l2.length : Int) := by omega
          generalize hx : l1.getD k 0 = x at c1
          generalize hy : l2.getD k 0 = y at c2
          have HX := Lib.hid hx
          have HY := Lib.hid hy
          clear hx hy
          by_cases hxy : x = y
          · have ht : (x == y) = true := by rw [hxy]; simp
            have HXY := Lib.hid hxy
            clear hxy
            go_wp2
            go_quiet (fail)
            go_wp2
            go_roundw
            case rel =>
              refine ⟨k + 1, by omega, by go_num, Lib.hid (fun j hj => ?_), below_drewN hbr _⟩
              by_cases e : j = k
              · subst e; rw [HX.out, HY.out]; exact HXY.out
              · exact hsame.out j (by omega)
            case measure => simp [intOf]; omega
          · have ht : (x == y) = false := by simp [hxy]
            go_wp2
            go_quiet (fail)
            go_wp2
            go_ret
            exact ⟨ret_bool (lists_ne (k := k) (by rw [HX.out, HY.out]; exact hxy)).symm, below_drewN hbr _⟩
        · have hk' : (l1.length : Int) ≤ (k : Int) := by omega
          go_wp2
          go_ret
          exact ⟨ret_bool (lists_eq HL.out fun j hj => hsame.out j (by omega)).symm, hbr⟩
  · have hl' : ((l1.length : Int) == (l2.length : Int)) = false := by simp; omega
    have hd : decide (l1 = l2) = false := by simp; rintro rfl; exact hl rfl
    have HD := Lib.hid hd
    clear hd s1 s2
    go_enter Try.func13, Try.ntmps13
    go_wp2
    go_ret
    exact ⟨ret_bool HD.out.symm, Below.refl _ _⟩
theorem idx_hit {l : List Int} {n : Int} {k : Nat} (hk : k < l.length) (h : l.getD k 0 = n) (hne : ∀ j, j < k → l.getD j 0 ≠ n) : Lib.idxOf l n = k := by
  have := Lib.idxOf_hit l l.length k n hk (Nat.le_refl _) h hne
  rwa [List.take_length] at this
theorem idx_miss {l : List Int} {n : Int} (h : ∀ j, j < l.length → l.getD j 0 ≠ n) : Lib.idxOf l n = -1 := by
  have := Lib.idxOf_miss l l.length n h
  rwa [List.take_length] at this
set_option maxHeartbeats 400000 in
set_option maxRecDepth 100000 in
theorem refIndex (v : Value) (l : List Int) (n : Int) (w : World) (hv : Ints w v l) :
    Calls Try.prog 19 #[v, .int .i64 n] w fun e w' => e = .returned (.int .i64 (Lib.idxOf l n)) ∧ Below w.heap.size w w' := by
  rcases hv.shape with ⟨a, c, rfl, rfl, -, -⟩ | ⟨b, o, c, rfl, p, q, n1, m1, d⟩
  · have HS : Hid (Lib.idxOf [] n = -1) := Lib.hid rfl
    go_enter Try.func19, Try.ntmps19
    go_wp2
    refine wp_loop_rounds 1 ?_
    rw [rounds_succ]
    go_wp2
    go_ret
    exact ⟨ret_int HS.out.symm, Below.refl _ _⟩
  · unfold maxLen at m1
    have D := Lib.hid (Ints.getD d)
    clear d hv
    go_enter Try.func19, Try.ntmps19
    go_wp2
    go_loopw [5] (fun i wr => ∃ k : Nat, k ≤ l.length ∧ i = .int .i64 (k : Int) ∧ Hid (∀ j, j < k → l.getD j 0 ≠ n) ∧ Below w.heap.size w wr) (fun i _ => l.length - (intOf i).toNat)
    case atStart => exact ⟨0, Nat.zero_le _, rfl, Lib.hid (fun j hj => by omega), Below.refl _ _⟩
    case round =>
      obtain ⟨k, hk, rfl, hne, hbr⟩ := hrel
      by_cases hlt : k < l.length
      · have c1 : wr.cell? ⟨b, o + k, none⟩ = some (.int .i64 (l.getD k 0)) := (hbr.cell q).trans (D.out k hlt)
        have i0 : (0 : Int) ≤ (k : Int) := by omega
        have i3 : (k : Int) < (l.length : Int) := by omega
        generalize hx : l.getD k 0 = x at c1
        have HX := Lib.hid hx
        clear hx
        by_cases hxy : x = n
        · have t : (x == n) = true := by simp [hxy]
          have HXY := Lib.hid hxy
          clear hxy
          go_wp2
          go_ret
          exact ⟨ret_int (idx_hit hlt (HX.out.trans HXY.out) hne.out).symm, hbr⟩
        · have t : (x == n) = false := by simp [hxy]
          go_wp2
          go_roundw
          case rel =>
            refine ⟨k + 1, by omega, by go_num, Lib.hid (fun j hj => ?_), hbr⟩
            by_cases e : j = k
            · subst e; rw [HX.out]; exact hxy
            · exact hne.out j (by omega)
          case measure => simp [intOf]; omega
      · have hk' : (l.length : Int) ≤ (k : Int) := by omega
        go_wp2
        go_ret
        exact ⟨ret_int (idx_miss fun j hj => hne.out j (by omega)).symm, hbr⟩
theorem has_of_idx (l : List Int) (n : Int) : decide ((0 : Int) ≤ Lib.idxOf l n) = l.contains n := by
  have := Lib.idxOf_nonneg_iff l n
  simp [this]
set_option maxRecDepth 100000 in
theorem refHas (v : Value) (l : List Int) (n : Int) (w : World) (hv : Ints w v l) :
    Calls Try.prog 17 #[v, .int .i64 n] w fun e w' => e = .returned (.bool (l.contains n)) ∧ Below w.heap.size w w' := by
  have HH := Lib.hid (has_of_idx l n)
  have HV := Lib.hid hv
  obtain ⟨a, c, rfl, _⟩ := hv
  go_enter Try.func17, Try.ntmps17
  go_wp2_with fail
  refine (refIndex _ _ _ _ HV.out).mono ?_
  generalize Lib.idxOf l n = i at HH ⊢
  rintro e w1 ⟨rfl, hb⟩
  go_wp2_with fail
  go_ret
  exact ⟨ret_bool HH.out, hb⟩
theorem take_all (l : List Int) : l.take l.length = l := List.take_length
set_option maxRecDepth 100000 in
theorem idsetIndex (v : Value) (l : List Int) (n : Int) (w : World) (hv : Ints w v l) :
    Calls Try.prog 18 #[v, .int .i64 n] w fun e w' => e = .returned (.int .i64 (Lib.idxOf l n)) ∧ w = w' := by
  rcases hv.shape with ⟨a, c, rfl, rfl, -, -⟩ | ⟨b, o, c, rfl, p, q, n1, m1, d⟩
  · go_enter Try.func18, Try.ntmps18
    go_wp2_with fail
    refine (Try.slices_Index_int_empty _ _ _ _).mono ?_
    rintro e w1 ⟨rfl, rfl⟩
    go_wp2_with fail
    go_ret
    exact ⟨rfl, rfl⟩
  · unfold maxLen at m1
    have D := Lib.hid (Ints.getD d)
    clear d hv
    go_enter Try.func18, Try.ntmps18
    go_wp2_with fail
    refine (Try.slices_Index_int b o l.length c l n _ (Nat.le_refl _) (by omega) D.out).mono ?_
    rw [take_all]
    generalize hr : Lib.idxOf l n = r
    have HR := Lib.hid hr
    clear hr
    rintro e w1 ⟨rfl, rfl⟩
    go_wp2_with fail
    go_ret
    exact ⟨ret_int HR.out.symm, rfl⟩
set_option maxRecDepth 100000 in
theorem idsetHas (v : Value) (l : List Int) (n : Int) (w : World) (hv : Ints w v l) :
    Calls Try.prog 16 #[v, .int .i64 n] w fun e w' => e = .returned (.bool (l.contains n)) ∧ w = w' := by
  rcases hv.shape with ⟨a, c, rfl, rfl, -, -⟩ | ⟨b, o, c, rfl, p, q, n1, m1, d⟩
  · go_enter Try.func16, Try.ntmps16
    go_wp2_with fail
    refine (Try.slices_Contains_int_empty _ _ _ _).mono ?_
    rintro e w1 ⟨rfl, rfl⟩
    go_wp2_with fail
    go_ret
    exact ⟨rfl, rfl⟩
  · unfold maxLen at m1
    have D := Lib.hid (Ints.getD d)
    clear d hv
    go_enter Try.func16, Try.ntmps16
    go_wp2_with fail
    refine (Try.slices_Contains_int b o l.length c l n _ (Nat.le_refl _) (by omega) D.out).mono ?_
    rw [take_all]
    generalize hr : l.contains n = r
    have HR := Lib.hid hr
    clear hr
    rintro e w1 ⟨rfl, rfl⟩
    go_wp2_with fail
    go_ret
    exact ⟨ret_bool HR.out.symm, rfl⟩
set_option maxRecDepth 100000 in
theorem equal_lens (a1 a2 : Option Addr) (n m c1 c2 : Nat) (w : World) (h : n ≠ m) :
    Calls Try.prog 35 #[.slice a1 n c1, .slice a2 m c2] w fun e w' => e = .returned (.bool false) ∧ w' = w := by
  have t : ((n : Int) == (m : Int)) = false := by simp; omega
  go_enter Try.func35, Try.ntmps35
  go_wp2
  go_ret
  exact ⟨rfl, rfl⟩
theorem beq_dec (a b : List Int) : (a == b) = decide (a = b) := by
  by_cases h : a = b <;> simp [h]
set_option maxRecDepth 100000 in
theorem idsetSame (v1 v2 : Value) (l1 l2 : List Int) (w : World) (s1 : Ints w v1 l1) (s2 : Ints w v2 l2) :
    Calls Try.prog 28 #[v1, v2] w fun e w' => e = .returned (.bool (decide (l1 = l2))) ∧ Below w.heap.size w w' := by
  have m2' : l2.length ≤ 9223372036854775807 := by obtain ⟨_, c, _, h1, h2, _⟩ := id s2; unfold maxLen at h2; omega
  rcases s1.shape with ⟨a1, k1, rfl, rfl, -, -⟩ | ⟨b1, o1, k1, rfl, p1, q1, n1, m1, d1⟩
  · obtain ⟨a2, k2, rfl, _⟩ := id s2
    have HE : Hid (decide (l2.length = 0) = decide ([] = l2)) := Lib.hid (by cases l2 <;> simp)
    go_enter Try.func28, Try.ntmps28
    go_wp2_with fail
    refine (Try.slices_Equal_int_empty _ _ _ _ _ _ m2').mono ?_
    rw [HE.out]
    generalize hr : decide ([] = l2) = r
    have HR := Lib.hid hr
    clear hr
    rintro e w1 ⟨rfl, rfl⟩
    go_wp2_with fail
    go_ret
    exact ⟨ret_bool HR.out.symm, Below.refl _ _⟩
  · rcases s2.shape with ⟨a2, k2, rfl, rfl, -, -⟩ | ⟨b2, o2, k2, rfl, p2, q2, n2, -, d2⟩
    · have HE : Hid (decide (l1 = []) = false) := Lib.hid (by cases l1 <;> simp at p1 ⊢)
      clear d1 s1 s2 m2'
      go_enter Try.func28, Try.ntmps28
      go_wp2_with fail
      refine (equal_lens _ _ _ _ _ _ _ (by omega)).mono ?_
      rintro e w1 ⟨rfl, rfl⟩
      go_wp2_with fail
      go_ret
      exact ⟨ret_bool HE.out.symm, Below.refl _ _⟩
    · unfold maxLen at m1
      have D1 := Lib.hid (Ints.getD d1)
      have D2 := Lib.hid (Ints.getD d2)
      clear d1 d2 s1 s2
      go_enter Try.func28, Try.ntmps28
      go_wp2_with fail
      refine (Try.slices_Equal_int b1 o1 l1.length k1 b2 o2 l2.length k2 l1 l2 _ (Nat.le_refl _) (Nat.le_refl _) (by omega) m2' D1.out D2.out).mono ?_
      rw [take_all, take_all, beq_dec]
      generalize hr : decide (l1 = l2) = r
      have HR := Lib.hid hr
      clear hr
      rintro e w1 ⟨rfl, q, rfl⟩
      go_wp2_with fail
      go_ret
      exact ⟨ret_bool HR.out.symm, below_drewN (Below.refl _ _) _⟩
end Go.Proofs.Ytflbphmpohkkbaa
