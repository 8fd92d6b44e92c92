/-
  CONTRACTS OF LAYER 4: the program's reader: New, Err, Left, fail, Uint, Int, Bool. By an AI agent.
-/
import Derived.Test.YtafdkfojimnbnaaOctRead
namespace Go.Proofs.Ytafdkfojimnbnaa
open Go.RowKit
open Go.Lib (uvarint uvarint_small uvarint_big zigzag unzigzag)

theorem grownBy_set (w : World) (g i : Nat) (v : Value) : w.grownBy (w.setCell ⟨g, i, none⟩ v) (some g) :=
  ⟨rfl, rfl, rfl, by simp, fun k _ hk => heap_setCell_other w ⟨g, i, none⟩ k v (fun e => hk (by simp [e]))⟩
theorem box_cell {w : World} {g : Nat} {cs : Array Value} {t : TypeId} (h : w.heap[g]? = some (.cells cs t (0, 0))) (i : Nat) : w.cell? ⟨g, i, none⟩ = cs[i]? := by
  simp [World.cell?, h]
/-- the program's reader in block g, its row in the blocks lo .. g -/
def RdO (lo g : Nat) (w : World) (s : Oct.St) : Prop := ∃ v, w.heap[g]? = some (.cells #[v, .int .i64 s.2] 57 (0, 0)) ∧ RowIn encB lo g w v s.1
theorem RdO.keep {lo g : Nat} {w w' : World} {s : Oct.St} (h : RdO lo g w s) (hs : w.heap.size ≤ w'.heap.size) (hk : ∀ k, k ≤ g → w'.heap[k]? = w.heap[k]?) : RdO lo g w' s := by
  obtain ⟨v, h1, h2⟩ := h
  exact ⟨v, by rw [hk g (Nat.le_refl _)]; exact h1, h2.keep hs fun k _ h3 _ => hk k (by omega)⟩
theorem RdO.lt {lo g : Nat} {w : World} {s : Oct.St} (h : RdO lo g w s) : g < w.heap.size := by
  obtain ⟨v, h1, _⟩ := h
  exact (Array.getElem?_eq_some_iff.1 h1).1
theorem RowIn.set {α : Type} {enc : α → Value} {lo g : Nat} {w : World} {v u : Value} {l : List α} (h : RowIn enc lo g w v l) (i : Nat) : RowIn enc lo g (w.setCell ⟨g, i, none⟩ u) v l :=
  h.keep (by simp) fun k _ hk _ => heap_setCell_other w ⟨g, i, none⟩ k u (by simp; omega)
/-- the pointer to a reader -/
abbrev ptr (g : Nat) : Value := .pointer (some ⟨g, 0, none⟩)
/-- what a reader's method leaves -/
def Leaves (lo g : Nat) (w : World) (v : Value) (s : Oct.St) : Ending → World → Prop := fun e w' => e = .returned v ∧ RdO lo g w' s ∧ w.grownBy w' (some g)

set_option maxRecDepth 100000 in
theorem octErr {lo g : Nat} {s : Oct.St} (w : World) (h : RdO lo g w s) : Calls Try.prog 17 #[ptr g] w fun e w' => e = .returned (.int .i64 s.2) ∧ w = w' := by
  obtain ⟨v, h1, -⟩ := h
  have c1 : w.cell? ⟨g, 1, none⟩ = some (.int .i64 s.2) := by rw [box_cell h1]; rfl
  go_enter Try.func17, Try.ntmps17
  go_wp2
  go_ret
  exact ⟨rfl, rfl⟩
set_option maxRecDepth 100000 in
theorem octErrNil (w : World) : Calls Try.prog 17 #[.pointer none] w fun e w' => e = .returned (.int .i64 1) ∧ w = w' := by
  go_enter Try.func17, Try.ntmps17
  go_wp2
  go_ret
  exact ⟨rfl, rfl⟩
set_option maxRecDepth 100000 in
theorem octLeft {lo g : Nat} {s : Oct.St} (w : World) (h : RdO lo g w s) : Calls Try.prog 18 #[ptr g] w fun e w' => e = .returned (.int .i64 (s.1.length : Int)) ∧ w = w' := by
  obtain ⟨v, h1, a, c, rfl, -⟩ := h
  have c1 : w.cell? ⟨g, 0, none⟩ = some (.slice a s.1.length c) := by rw [box_cell h1]; rfl
  go_enter Try.func18, Try.ntmps18
  go_wp2
  go_ret
  exact ⟨rfl, rfl⟩
set_option maxRecDepth 100000 in
theorem octFail {lo g : Nat} {s : Oct.St} (x : Int) (w : World) (h : RdO lo g w s) : Calls Try.prog 44 #[ptr g, .int .i64 x] w fun e w' => e = .returned (.tuple #[]) ∧ RdO lo g w' ([], x) ∧ w.grownBy w' (some g) := by
  obtain ⟨v, h1, -⟩ := h
  have c0 : w.cell? ⟨g, 0, none⟩ = some v := by rw [box_cell h1]; rfl
  have c1 : w.cell? ⟨g, 1, none⟩ = some (.int .i64 s.2) := by rw [box_cell h1]; rfl
  have f0 := frozen_of_row w g 0 _ _ h1
  have f1 := frozen_of_row w g 1 _ _ h1
  have H1 := Lib.hid h1
  clear h1
  go_enter Try.func44, Try.ntmps44
  go_wp2
  go_end0
  exact ⟨rfl, ⟨_, heap_setCell_same _ g 1 _ _ _ (heap_setCell_same _ g 0 _ _ _ H1.out), RowIn.nil _ _ _ _⟩, (grownBy_set _ _ _ _).trans (grownBy_set _ _ _ _)⟩

theorem num_ok {l : List UInt8} (h : (Oct.dec l).2.2 = 0) : Oct.num (l, 0) = ((Oct.dec l).1, (l.drop (Oct.dec l).2.1, 0)) := by unfold Oct.num; simp [h]
theorem num_bad {l : List UInt8} (h : (Oct.dec l).2.2 ≠ 0) : Oct.num (l, 0) = (0, ([], (Oct.dec l).2.2)) := by unfold Oct.num; simp [h]
theorem dec_code (l : List UInt8) : (Oct.dec l).2.2 = 0 ∨ (Oct.dec l).2.2 = 3 ∨ (Oct.dec l).2.2 = 4 := by
  rcases Oct.decFrom_err l 0 0 with h | h | h
  · exact .inl h
  · exact .inr (.inl (by rw [Oct.dec, h]))
  · exact .inr (.inr (by rw [Oct.dec, h]))
set_option maxHeartbeats 1000000 in
set_option maxRecDepth 100000 in
theorem octUint {lo g : Nat} {s : Oct.St} (most : Nat) (w : World) (h : RdO lo g w s) :
    Calls Try.prog 19 #[ptr g, .int .u64 (most : Int)] w (Leaves lo g w (.int .u64 ((Oct.uintS most s).1 : Int)) (Oct.uintS most s).2) := by
  obtain ⟨l, er⟩ := s
  by_cases her : er = 0
  · subst her
    have h' := h
    obtain ⟨v, h1, hrow⟩ := h'
    have c0 : w.cell? ⟨g, 0, none⟩ = some v := by rw [box_cell h1]; rfl
    have c1 : w.cell? ⟨g, 1, none⟩ = some (.int .i64 0) := by rw [box_cell h1]; rfl
    have f0 := frozen_of_row w g 0 _ _ h1
    have H1 := Lib.hid h1
    clear h1
    have hfirst := octFirst v l w lo g hrow
    by_cases hd : (Oct.dec l).2.2 = 0
    · obtain ⟨k1, k2, k3⟩ := Oct.dec_ok hd
      have HN := Lib.hid (num_ok hd)
      rw [hd] at hfirst
      generalize (Oct.dec l).1 = n at hfirst HN k3
      generalize (Oct.dec l).2.1 = k at hfirst HN k1 k2
      clear hd
      rcases hrow.shape with ⟨a, c, rfl, hl0, -, -⟩ | ⟨b, o, c, rfl, hp, -, -, -, hlc, hcm, -⟩
      · replace hl0 : l = [] := hl0
        rw [hl0] at k2; simp at k2; omega
      have t0 : (0 : Int) ≤ (k : Int) := by omega
      have t1 : (k : Int) ≤ (l.length : Int) := by omega
      by_cases hm : n ≤ most
      · have HS := Lib.hid (show Oct.uintS most (l, 0) = (n, (l.drop k, 0)) by unfold Oct.uintS; rw [HN.out, if_pos hm])
        have t2 : ¬ (most : Int) < (n : Int) := by omega
        have t3 : (n : Int) ≤ (most : Int) := by omega
        clear hm
        unfold maxLen at hcm
        go_enter Try.func19, Try.ntmps19
        go_wp2_with fail
        refine (octErr w h).mono ?_
        rintro e w1 ⟨rfl, rfl⟩
        go_wp2_with fail
        refine hfirst.mono ?_
        rintro e w1 ⟨rfl, rfl⟩
        go_wp2_with fail
        all_goals go_ret
        all_goals rw [HS.out]
        all_goals exact ⟨rfl, ⟨_, heap_setCell_same _ g 0 _ _ _ H1.out, (hrow.cut rfl k k2 (by intro hck; first | rfl | (exfalso; omega)) (by omega)).set 0⟩, grownBy_set _ _ _ _⟩
      · have HS := Lib.hid (show Oct.uintS most (l, 0) = (0, ([], 2)) by unfold Oct.uintS; rw [HN.out, if_neg hm])
        have t2 : (most : Int) < (n : Int) := by omega
        clear hm
        go_enter Try.func19, Try.ntmps19
        go_wp2_with fail
        refine (octErr w h).mono ?_
        rintro e w1 ⟨rfl, rfl⟩
        go_wp2_with fail
        refine hfirst.mono ?_
        rintro e w1 ⟨rfl, rfl⟩
        go_wp2_with fail
        refine (octFail 2 w h).mono ?_
        rintro e w1 ⟨rfl, hr, hg⟩
        go_wp2_with fail
        go_ret
        rw [HS.out]
        exact ⟨rfl, hr, hg⟩
    · have HS := Lib.hid (show Oct.uintS most (l, 0) = (0, ([], (Oct.dec l).2.2)) by unfold Oct.uintS; rw [num_bad hd]; simp)
      have hz := Oct.dec_bad hd
      rw [hz.1, hz.2] at hfirst
      have hcode := dec_code l
      generalize (Oct.dec l).2.2 = x at hfirst HS hd hcode
      have t1 : ((x : Int) == 0) = false := by simp only [beq_eq_false_iff_ne]; exact hd
      clear hz hd hcode
      obtain ⟨a, c, rfl, -⟩ := hrow
      go_enter Try.func19, Try.ntmps19
      go_wp2_with fail
      refine (octErr w h).mono ?_
      rintro e w1 ⟨rfl, rfl⟩
      go_wp2_with fail
      refine hfirst.mono ?_
      rintro e w1 ⟨rfl, rfl⟩
      go_wp2_with fail
      refine (octFail x w h).mono ?_
      rintro e w1 ⟨rfl, hr, hg⟩
      go_wp2_with fail
      go_ret
      rw [HS.out]
      exact ⟨rfl, hr, hg⟩
  · have HS := Lib.hid (Oct.uintS_err (most := most) (s := (l, er)) her)
    have t1 : ((er : Int) == 0) = false := by simp only [beq_eq_false_iff_ne]; exact her
    clear her
    go_enter Try.func19, Try.ntmps19
    go_wp2_with fail
    refine (octErr w h).mono ?_
    rintro e w1 ⟨rfl, rfl⟩
    go_wp2_with fail
    go_ret
    rw [HS.out]
    exact ⟨rfl, h, grownBy_refl _ _⟩
end Go.Proofs.Ytafdkfojimnbnaa
