/-
  CONTRACTS OF LAYER 10: Same of both. By an AI agent.
-/
import Derived.Test.YtbichcmpggbfnaaDoorLineSub
namespace Go.Proofs.YtbichcmpggbfnaaDoor
open Go.RowKit
open Wd (Bs)

def sameB (a b : Ln.Line) : Bool := decide (a = b)
theorem same_super {a1 a2 t1 t2 : Int} {l1 l2 : List Bs} (h : a1 ≠ a2) : sameB ⟨a1, t1, l1⟩ ⟨a2, t2, l2⟩ = false := by unfold sameB; simp [h]
theorem same_types {a1 a2 t1 t2 : Int} {l1 l2 : List Bs} (h : t1 ≠ t2) : sameB ⟨a1, t1, l1⟩ ⟨a2, t2, l2⟩ = false := by unfold sameB; simp [h]
theorem same_subs {a t : Int} {l1 l2 : List Bs} : sameB ⟨a, t, l1⟩ ⟨a, t, l2⟩ = decide (l1 = l2) := by unfold sameB; simp
theorem map_ba_inj {l1 l2 : List Bs} : l1.map ba = l2.map ba ↔ l1 = l2 := by
  constructor
  · intro h
    have h2 : (l1.map ba).map (·.data.toList) = (l2.map ba).map (·.data.toList) := by rw [h]
    rwa [ba_lists, ba_lists] at h2
  · rintro rfl; rfl
theorem sEqual (v1 v2 : Value) (l1 l2 : List Bs) (w : World) (s1 : Strs w v1 l1) (s2 : Strs w v2 l2) :
    Calls Tryd.prog 34 #[v1, v2] w fun e w' => e = .returned (.bool (decide (l1 = l2))) ∧ Below w.heap.size w w' := by
  obtain ⟨a1, c1, rfl, n1, m1, _⟩ := id s1
  obtain ⟨a2, c2, rfl, n2, m2, _⟩ := id s2
  unfold maxLen at m1 m2
  by_cases hl : l1.length = l2.length
  · rcases s1.shape with ⟨b1, k1, e1, rfl⟩ | ⟨b1, o1, k1, e1, p1, q1, -, -, d1⟩
    · obtain rfl : l2 = [] := List.eq_nil_of_length_eq_zero hl.symm
      refine (Tryd.slices_Equal_string_empty _ _ _ _ _ _ (by simp)).mono ?_
      rintro e w1 ⟨rfl, rfl⟩
      exact ⟨rfl, Below.refl _ _⟩
    · rcases s2.shape with ⟨b2, k2, e2, rfl⟩ | ⟨b2, o2, k2, e2, p2, q2, -, -, d2⟩
      · simp at hl; subst hl; simp at p1
      injection e1 with e1 _ e1'
      injection e2 with e2 _ e2'
      subst e1 e1' e2 e2'
      have hd : ∀ {b o : Nat} {l : List Bs}, (∀ (i : Nat) x, l[i]? = some x → w.cell? ⟨b, o + i, none⟩ = some (str x)) → ∀ j, j < (l.map ba).length → w.cell? ⟨b, o + j, none⟩ = some (.string ((l.map ba).getD j ByteArray.empty)) := fun {b o l} d j hj => by
        have hj' : j < l.length := by simpa using hj
        rw [ba_getD l j hj']
        exact d j l[j] (List.getElem?_eq_getElem hj')
      refine (Tryd.slices_Equal_string b1 o1 l1.length c1 b2 o2 l2.length c2 (l1.map ba) (l2.map ba) w (by simp) (by simp) (by omega) (by omega) (hd d1) (hd d2)).mono ?_
      rintro e w1 ⟨rfl, q, rfl⟩
      refine ⟨?_, below_drewN (Below.refl _ _) _⟩
      rw [List.take_of_length_le (by simp), List.take_of_length_le (by simp)]
      simp only [map_ba_inj]
  · refine (Tryd.slices_Equal_string_lens _ _ _ _ _ _ _ hl).mono ?_
    rintro e w1 ⟨rfl, rfl⟩
    exact ⟨ret_bool (by simp; rintro rfl; exact hl rfl), Below.refl _ _⟩
set_option maxHeartbeats 400000 in
set_option maxRecDepth 100000 in
theorem lineSame (a1 t1 a2 t2 : Int) (v1 v2 : Value) (l1 l2 : List Bs) (w : World) (s1 : Strs w v1 l1) (s2 : Strs w v2 l2) :
    Calls Tryd.prog 15 #[.agg #[.int .i64 a1, .int .i64 t1, v1], .agg #[.int .i64 a2, .int .i64 t2, v2]] w fun e w' => e = .returned (.bool (sameB ⟨a1, t1, l1⟩ ⟨a2, t2, l2⟩)) ∧ Below w.heap.size w w' := by
  have hb : Below w.heap.size w ((w.alloc (.cells #[.int .i64 a1, .int .i64 t1, v1] 24)).alloc (.cells #[.int .i64 a2, .int .i64 t2, v2] 24)) := ((Below.refl _ _).alloc (Nat.le_refl _) _).alloc (by simp) _
  have H1 := Lib.hid (s1.below hb (Nat.le_refl _))
  have H2 := Lib.hid (s2.below hb (Nat.le_refl _))
  have HB := Lib.hid hb
  clear hb s1 s2
  by_cases ha : a1 = a2
  · subst ha
    by_cases ht : t1 = t2
    · subst ht
      have HR := Lib.hid (same_subs (a := a1) (t := t1) (l1 := l1) (l2 := l2))
      go_enter Tryd.func15, Tryd.ntmps15
      go_wp2_with fail
      refine (sEqual _ _ l1 l2 _ H1.out H2.out).mono ?_
      rw [← HR.out]
      rintro e w1 ⟨rfl, hb1⟩
      go_wp2_with fail
      go_ret
      exact ⟨rfl, HB.out.trans (hb1.mono HB.out.size)⟩
    · have HR := Lib.hid (same_types (a1 := a1) (a2 := a1) (l1 := l1) (l2 := l2) ht)
      have e1 : (t1 == t2) = false := by simpa using ht
      clear ht
      go_enter Tryd.func15, Tryd.ntmps15
      go_wp2_with fail
      go_ret
      exact ⟨ret_bool HR.out.symm, HB.out⟩
  · have HR := Lib.hid (same_super (t1 := t1) (t2 := t2) (l1 := l1) (l2 := l2) ha)
    have e1 : (a1 == a2) = false := by simpa using ha
    clear ha
    go_enter Tryd.func15, Tryd.ntmps15
    go_wp2_with fail
    go_ret
    exact ⟨ret_bool HR.out.symm, HB.out⟩
/-! the reference's Same -/
theorem lists_ne {a b : List Bs} {k : Nat} {x y : Bs} (hx : a[k]? = some x) (hy : b[k]? = some y) (h : x ≠ y) : decide (a = b) = false := by
  simp only [decide_eq_false_iff_not]
  rintro rfl
  rw [hx] at hy
  injection hy with hy
  exact h hy
theorem lists_eq {a b : List Bs} (hl : a.length = b.length) (h : ∀ j, j < a.length → a[j]? = b[j]?) : decide (a = b) = true := by
  simp only [decide_eq_true_eq]
  refine List.ext_getElem? fun i => ?_
  by_cases hi : i < a.length
  · exact h i hi
  · rw [List.getElem?_eq_none (by omega), List.getElem?_eq_none (by omega)]
theorem Strs.at {w : World} {a : Option Addr} {n c : Nat} {l : List Bs} (h : Strs w (.slice a n c) l) {k : Nat} {x : Bs} (hx : l[k]? = some x) : ∃ b o, a = some ⟨b, o, none⟩ ∧ b < w.heap.size ∧ w.cell? ⟨b, o + k, none⟩ = some (str x) := by
  obtain ⟨a', c', e, _, _, d⟩ := h
  injection e with e
  subst e
  exact d k x hx
def SameTo (a b : List Bs) (k : Nat) : Prop := ∀ j, j < k → a[j]? = b[j]?
theorem SameTo.next {a b : List Bs} {k : Nat} {x : Bs} (h : SameTo a b k) (hx : a[k]? = some x) (hy : b[k]? = some x) : SameTo a b (k + 1) := by
  intro j hj
  by_cases e : j = k
  · subst e; rw [hx, hy]
  · exact h j (by omega)
set_option maxHeartbeats 1000000 in
set_option maxRecDepth 100000 in
theorem refSame10 (a1 t1 a2 t2 : Int) (v1 v2 : Value) (l1 l2 : List Bs) (w : World) (s1 : Strs w v1 l1) (s2 : Strs w v2 l2) :
    Calls Tryd.prog 16 #[.agg #[.int .i64 a1, .int .i64 t1, v1], .agg #[.int .i64 a2, .int .i64 t2, v2]] w fun e w' => e = .returned (.bool (sameB ⟨a1, t1, l1⟩ ⟨a2, t2, l2⟩)) ∧ Below w.heap.size w w' := by
  obtain ⟨wB, hwB⟩ : ∃ wB, wB = (w.alloc (.cells #[.int .i64 a1, .int .i64 t1, v1] 24)).alloc (.cells #[.int .i64 a2, .int .i64 t2, v2] 24) := ⟨_, rfl⟩
  have hb : Below w.heap.size w wB := by rw [hwB]; exact ((Below.refl _ _).alloc (Nat.le_refl _) _).alloc (by simp) _
  have hszB : wB.heap.size = w.heap.size + 1 + 1 := by rw [hwB]; simp
  have H1 := Lib.hid (s1.below hb (Nat.le_refl _))
  have H2 := Lib.hid (s2.below hb (Nat.le_refl _))
  have HB := Lib.hid hb
  obtain ⟨ad1, c1, rfl, n1, m1, _⟩ := s1
  obtain ⟨ad2, c2, rfl, n2, m2, _⟩ := s2
  unfold maxLen at m1 m2
  have q1 : wB.cell? ⟨w.heap.size, 2, none⟩ = some (.slice ad1 l1.length c1) := by rw [hwB]; simp
  have q2 : wB.cell? ⟨w.heap.size + 1, 2, none⟩ = some (.slice ad2 l2.length c2) := by rw [hwB]; simp
  clear hb
  by_cases ha : a1 = a2
  · subst ha
    by_cases ht : t1 = t2
    · subst ht
      have HR := Lib.hid (same_subs (a := a1) (t := t1) (l1 := l1) (l2 := l2))
      by_cases hl : l1.length = l2.length
      · have HL := Lib.hid hl
        have hl' : ((l1.length : Int) != (l2.length : Int)) = false := by rw [hl]; simp
        have hl2 : (l1.length : Int) ≤ l2.length := by omega
        clear hl
        go_enter Tryd.func16, Tryd.ntmps16
        go_wp2_with fail
        rw [← hwB]
        clear hwB
        go_loopw [5] (fun i wr => ∃ k : Nat, k ≤ l1.length ∧ i = .int .i64 (k : Int) ∧ SameTo l1 l2 k ∧ Below wB.heap.size wB wr) (fun i _ => l1.length - (intOf i).toNat)
        case atStart => exact ⟨0, by omega, rfl, fun j hj => by omega, Below.refl _ _⟩
        case round =>
          obtain ⟨k, hk, rfl, hsame, hbr⟩ := hrel
          have HS := Lib.hid hsame
          have g1 : wr.cell? ⟨w.heap.size, 2, none⟩ = some (.slice ad1 l1.length c1) := (hbr.cell (p := ⟨w.heap.size, 2, none⟩) (by show w.heap.size < _; omega)).trans q1
          have g2 : wr.cell? ⟨w.heap.size + 1, 2, none⟩ = some (.slice ad2 l2.length c2) := (hbr.cell (p := ⟨w.heap.size + 1, 2, none⟩) (by show w.heap.size + 1 < _; omega)).trans q2
          clear hsame
          by_cases hlt : k < l1.length
          · obtain ⟨x, hx⟩ : ∃ x, l1[k]? = some x := ⟨l1[k], by simp [hlt]⟩
            obtain ⟨y, hy⟩ : ∃ y, l2[k]? = some y := ⟨l2[k]'(by omega), by simp [show k < l2.length by omega]⟩
            obtain ⟨sx, hsx, ex⟩ := exists_bytes x
            obtain ⟨sy, hsy, ey⟩ := exists_bytes y
            obtain ⟨b1, o1, rfl, hl1, d1⟩ := H1.out.at hx
            obtain ⟨b2, o2, rfl, hl3, d2⟩ := H2.out.at hy
            have d1' : wr.cell? ⟨b1, o1 + k, none⟩ = some (.string sx) := (hbr.cell (p := ⟨b1, o1 + k, none⟩) hl1).trans (d1.trans (congrArg some ex))
            have d2' : wr.cell? ⟨b2, o2 + k, none⟩ = some (.string sy) := (hbr.cell (p := ⟨b2, o2 + k, none⟩) hl3).trans (d2.trans (congrArg some ey))
            have i0 : (0 : Int) ≤ (k : Int) := by omega
            have i3 : (k : Int) < (l1.length : Int) := by omega
            have i4 : (k : Int) < (l2.length : Int) := by omega
            have HX := Lib.hid hx
            have HY := Lib.hid hy
            have SX := Lib.hid hsx
            have SY := Lib.hid hsy
            clear ex ey hx hy hsx hsy d1 d2
            by_cases hxy : x = y
            · have ht : (sx.toList == sy.toList) = true := bytes_eq (by rw [SX.out, SY.out, hxy])
              have HXY := Lib.hid hxy
              clear hxy
              go_wp2_with fail
              go_quiet (fail)
              go_wp2_with fail
              go_roundw
              case rel => exact ⟨k + 1, by omega, by go_num, HS.out.next HX.out (by rw [HXY.out]; exact HY.out), below_drewN hbr _⟩
              case measure => simp [intOf]; omega
            · have ht : (sx.toList == sy.toList) = false := bytes_ne (by rw [SX.out, SY.out]; exact hxy)
              have HF := Lib.hid (lists_ne HX.out HY.out hxy)
              clear hxy
              go_wp2_with fail
              go_quiet (fail)
              go_wp2_with fail
              go_ret
              exact ⟨ret_bool (by rw [HR.out, HF.out]), HB.out.trans ((below_drewN hbr _).mono HB.out.size)⟩
          · obtain rfl : k = l1.length := by omega
            have HF := Lib.hid (lists_eq HL.out HS.out)
            go_wp2_with fail
            go_ret
            exact ⟨ret_bool (by rw [HR.out, HF.out]), HB.out.trans (hbr.mono HB.out.size)⟩
      · have HF : Hid (decide (l1 = l2) = false) := Lib.hid (by simp; rintro rfl; exact hl rfl)
        have hl' : ((l1.length : Int) != (l2.length : Int)) = true := by simp; omega
        clear hl
        go_enter Tryd.func16, Tryd.ntmps16
        go_wp2_with fail
        go_ret
        exact ⟨ret_bool (by rw [HR.out, HF.out]), by rw [← hwB]; exact HB.out⟩
    · have HR := Lib.hid (same_types (a1 := a1) (a2 := a1) (l1 := l1) (l2 := l2) ht)
      have e1 : (t1 != t2) = true := by simpa using ht
      clear ht
      go_enter Tryd.func16, Tryd.ntmps16
      go_wp2_with fail
      go_ret
      exact ⟨ret_bool HR.out.symm, by rw [← hwB]; exact HB.out⟩
  · have HR := Lib.hid (same_super (t1 := t1) (t2 := t2) (l1 := l1) (l2 := l2) ha)
    have e1 : (a1 != a2) = true := by simpa using ha
    clear ha
    go_enter Tryd.func16, Tryd.ntmps16
    go_wp2_with fail
    go_ret
    exact ⟨ret_bool HR.out.symm, by rw [← hwB]; exact HB.out⟩
end Go.Proofs.YtbichcmpggbfnaaDoor
