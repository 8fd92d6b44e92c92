/-
  CONTRACTS OF LAYER 3 (idset): the sort of a set, Of, Without, Union (and slices.Grow, Concat, as it calls them). By an AI agent.
-/
import Derived.Test.YtflbphmpohkkbaaIdWalks
import Derived.Sort.Walk0
namespace Go.Proofs.Ytflbphmpohkkbaa
open Go.RowKit

def IntsRes (l : List Int) (w : World) (e : Ending) (w' : World) : Prop := ∃ v, e = .returned v ∧ OwnInts w.heap.size w' v l ∧ Below w.heap.size w w'
theorem IntsRes.of {l m : List Int} {w w' : World} {v : Value} (h : m = l) (ho : OwnInts w.heap.size w' v l) (hb : Below w.heap.size w w') : IntsRes m w (.returned v) w' := ⟨v, rfl, by rw [h]; exact ho, hb⟩
/-- a contract's world behind some memory of the caller's own -/
theorem IntsRes.later {l : List Int} {w1 w2 : World} {B : Nat} {v : Value} {w0 : World} (ho : OwnInts w1.heap.size w2 v l) (hb : Below B w0 w1) (hB : B ≤ w1.heap.size) (h2 : Below w1.heap.size w1 w2) :
    OwnInts B w2 v l ∧ Below B w0 w2 := ⟨ho.mono hB, hb.trans (h2.mono hB)⟩

set_option maxRecDepth 100000 in
theorem sortedInt (v : Value) (l : List Int) (w : World) (hv : Ints w v l) (hn : l.length ≤ 1000000000) :
    Calls Try.prog 29 #[v] w (IntsRes (Ids.norm l) w) := by
  rcases hv.shape with ⟨a, k, rfl, rfl, -, -⟩ | ⟨b, o, k, rfl, p, q, n1, m1, d⟩
  · have HS := Lib.hid Ids.norm_nil
    cases a with
    | none =>
      go_enter Try.func29, Try.ntmps29
      go_wp2_with fail
      refine (Try.slices_Clone_int_nil _ _ _).mono ?_
      rintro e w1 ⟨rfl, rfl⟩
      go_wp2_with fail
      refine (Try.slices_Sort_int_none _ _ _).mono ?_
      rintro e w1 ⟨rfl, rfl⟩
      go_wp2_with fail
      refine (Try.slices_Compact_int_empty _ _ _).mono ?_
      rintro e w1 ⟨rfl, rfl⟩
      go_wp2_with fail
      go_ret
      exact IntsRes.of HS.out (OwnInts.nil _ _) (Below.refl _ _)
    | some a =>
      go_enter Try.func29, Try.ntmps29
      go_wp2_with fail
      refine (Try.slices_Clone_int_zero _ _ _).mono ?_
      rintro e w1 ⟨v', rfl, ho, -, hb⟩
      have ho' : OwnInts w.heap.size w1 v' [] := ho
      obtain ⟨a', c', rfl⟩ : ∃ a' c', v' = .slice a' 0 c' := by
        rcases ho'.shape with ⟨rfl, _⟩ | ⟨g, cap, rfl, _⟩
        · exact ⟨_, _, rfl⟩
        · exact ⟨_, _, rfl⟩
      clear ho
      go_wp2_with fail
      refine (Try.slices_Sort_int_none _ _ _).mono ?_
      rintro e w2 ⟨rfl, rfl⟩
      go_wp2_with fail
      refine (Try.slices_Compact_int_empty _ _ _).mono ?_
      rintro e w2 ⟨rfl, rfl⟩
      go_wp2_with fail
      go_ret
      exact IntsRes.of HS.out ho' hb
  · unfold maxLen at m1
    have D := Lib.hid (Ints.getD d)
    clear d hv
    go_enter Try.func29, Try.ntmps29
    go_wp2_with fail
    refine (Try.slices_Clone_int b o l.length k l _ (Nat.le_refl _) (by omega) D.out).mono ?_
    rintro e w1 ⟨v', rfl, ho, -, hb⟩
    have ho' : OwnInts w.heap.size w1 v' l := by
      rw [take_all] at ho
      exact ho
    clear ho
    obtain ⟨g, cap, rfl, hBg, hgw, hlc, hcm, hH⟩ := ho'.holds p
    unfold maxLen at hcm
    have HH := Lib.hid hH
    have HO := Lib.hid ho'
    clear hH ho'
    go_wp2_with fail
    refine (Try.slices_Sort_int g 0 cap l w1 HH.out hgw (by omega)).mono ?_
    rintro e w2 ⟨rfl, n, os, hw2⟩
    have hperm : (l.mergeSort fun x y => decide (x ≤ y)).length = l.length := (List.mergeSort_perm l _).length_eq
    obtain ⟨ho2, hb2⟩ := HO.out.laid hb hBg hperm (Nat.le_refl _) hw2
    rw [List.take_of_length_le (by rw [hperm]; exact Nat.le_refl _)] at ho2
    clear hw2
    generalize hM : (l.mergeSort fun x y => decide (x ≤ y)) = M at *
    have ho2' : OwnInts w.heap.size w2 (.slice (some ⟨g, 0, none⟩) M.length cap) M := by rw [hperm]; exact ho2
    obtain ⟨g', cap', e1, _, _, _, _, hH2⟩ := ho2'.holds (by rw [hperm]; exact p)
    injection e1 with e1 _ e2
    injection e1 with e1
    injection e1 with e1
    subst e1 e2
    have HH2 := Lib.hid hH2
    have HP := Lib.hid hperm
    have HM := Lib.hid hM
    have HO2 := Lib.hid ho2'
    have hc := Try.slices_Compact_int g 0 cap M w2 HH2.out (by omega) (by omega)
    rw [hperm] at hc
    have HC := Lib.hid hc
    clear hH2 hperm hM ho2' ho2 hc
    go_wp2_with fail
    refine HC.out.mono ?_
    rintro e w3 ⟨rfl, q3, hw3⟩
    have hcl := Lib.compact_length_le M
    have hln : (Lib.compact M ++ List.replicate (l.length - (Lib.compact M).length) 0).length = M.length := by have h9 := HP.out; rw [List.length_append, List.length_replicate]; omega
    obtain ⟨ho3, hb3⟩ := HO2.out.laid (w' := w3) (os := #[]) hb2 hBg hln hcl (by rw [Go.Sort.grow_empty]; exact hw3)
    rw [List.take_left] at ho3
    have HO3 := Lib.hid ho3
    clear ho3 hw3 hln
    go_wp2_with fail
    go_ret
    exact IntsRes.of (by rw [Ids.norm, HM.out]) HO3.out hb3
set_option maxRecDepth 100000 in
theorem idsetOf (v : Value) (l : List Int) (w : World) (hv : Ints w v l) (hn : l.length ≤ 1000000000) :
    Calls Try.prog 14 #[v] w (IntsRes (Ids.norm l) w) := by
  have HV := Lib.hid hv
  obtain ⟨a, c, rfl, _⟩ := hv
  go_enter Try.func14, Try.ntmps14
  go_wp2_with fail
  refine (sortedInt _ _ _ HV.out hn).mono ?_
  rintro e w1 ⟨v, rfl, ho, hb⟩
  go_wp2_with fail
  go_ret
  exact ⟨_, rfl, ho, hb⟩
/-! ### slices.Grow at nil, slices.Concat of two -/
set_option maxHeartbeats 400000 in
set_option maxRecDepth 100000 in
theorem growNil (n : Nat) (w : World) (hn : n ≤ 1000000) :
    Calls Try.prog 39 #[.slice none 0 0, .int .i64 (n : Int)] w (IntsRes [] w) := by
  have i0 : ¬ (n : Int) < 0 := by omega
  by_cases hz : n = 0
  · subst hz
    go_enter Try.func39, Try.ntmps39
    go_wp2_with fail
    go_ret
    exact ⟨_, rfl, OwnInts.nil _ _, Below.refl _ _⟩
  · have i1 : (0 : Int) < (n : Int) := by omega
    have i2 : (n : Int) - 0 = n := by omega
    go_enter Try.func39, Try.ntmps39
    go_wp2_with (at_builtin; refine wpList_append_zeros rfl _ _ rfl n (by omega) hn rfl rfl (Nat.le_refl _) (Below.refl _ _) ?_)
    intro g cap w1 ho hc hm hb
    unfold maxLen at hm
    go_wp2_with fail
    go_ret
    exact ⟨_, rfl, ho, hb⟩
set_option maxHeartbeats 1600000 in
set_option maxRecDepth 100000 in
theorem concatTwo (t : Nat) (v1 v2 : Value) (l1 l2 : List Int) (w : World) (ht : t < w.heap.size) (c1 : w.cell? ⟨t, 0, none⟩ = some v1) (c2 : w.cell? ⟨t, 1, none⟩ = some v2)
    (h1 : Ints w v1 l1) (h2 : Ints w v2 l2) (hn : l1.length + l2.length ≤ 1000000) :
    Calls Try.prog 33 #[.slice (some ⟨t, 0, none⟩) 2 2] w (IntsRes (l1 ++ l2) w) := by
  have H1 := Lib.hid h1
  have H2 := Lib.hid h2
  obtain ⟨a1, k1, rfl, _⟩ := h1
  obtain ⟨a2, k2, rfl, _⟩ := h2
  have f1 : (0 : Int) ≤ (l1.length : Int) := by omega
  have f2 : ¬ (l1.length : Int) < 0 := by omega
  have f3 : (0 : Int) ≤ (l1.length : Int) + (l2.length : Int) := by omega
  have f4 : ¬ (l1.length : Int) + (l2.length : Int) < 0 := by omega
  have f5 : (l1.length : Int) + (l2.length : Int) ≤ 9223372036854775807 := by omega
  have hg := fun w' => growNil (l1.length + l2.length) w' hn
  rw [Int.natCast_add] at hg
  have HG := Lib.hid hg
  clear hg
  go_enter Try.func33, Try.ntmps33
  go_wp2_with fail
  go_loop [3, 11] (fun sz i => (i = .int .i64 0 ∧ sz = .int .i64 0) ∨ (i = .int .i64 1 ∧ sz = .int .i64 (l1.length : Int)) ∨ (i = .int .i64 2 ∧ sz = .int .i64 ((l1.length : Int) + (l2.length : Int)))) (fun _ i => 2 - (intOf i).toNat)
  case atStart => exact .inl ⟨rfl, rfl⟩
  case round =>
    rcases hrel with ⟨rfl, rfl⟩ | ⟨rfl, rfl⟩ | ⟨rfl, rfl⟩
    · go_wp2_with fail
      exact ⟨.inr (.inl ⟨rfl, rfl⟩), by simp [intOf]⟩
    · go_wp2_with fail
      exact ⟨.inr (.inr ⟨rfl, rfl⟩), by simp [intOf]⟩
    · go_wp2_with fail
      refine (HG.out _).mono ?_
      rintro e w1 ⟨v, rfl, ho, hb⟩
      go_wp2_with fail
      go_loopw [6, 27] (fun ns i wr => ((i = .int .i64 0 ∧ OwnInts w.heap.size wr ns []) ∨ (i = .int .i64 1 ∧ OwnInts w.heap.size wr ns l1) ∨ (i = .int .i64 2 ∧ OwnInts w.heap.size wr ns (l1 ++ l2))) ∧ Below w.heap.size w wr) (fun _ i _ => 2 - (intOf i).toNat)
      case atStart => exact ⟨.inl ⟨rfl, ho⟩, hb⟩
      case round =>
        obtain ⟨hcase, hbr⟩ := hrel
        have hsz := hbr.size
        have d1 := (hbr.cell (p := ⟨t, 0, none⟩) ht).trans c1
        have d2 := (hbr.cell (p := ⟨t, 1, none⟩) ht).trans c2
        have g1 := H1.out.below hbr (Nat.le_refl _)
        have g2 := H2.out.below hbr (Nat.le_refl _)
        rcases hcase with ⟨rfl, hown⟩ | ⟨rfl, hown⟩ | ⟨rfl, hown⟩
        · clear g2 d2
          go_wp2_with (at_builtin; refine wpList_append_ints rfl (.tmp 31) (.tmp 32) rfl rfl hown rfl g1 (by simp; omega) hsz hbr ?_)
          intro v' w2 ho' hb'
          clear hown hbr g1 d1
          go_wp2_with fail
          go_roundw
          case rel => exact ⟨.inr (.inl ⟨by go_num, ho'⟩), hb'⟩
          case measure => simp [intOf]
        · clear g1 d1
          go_wp2_with (at_builtin; refine wpList_append_ints rfl (.tmp 31) (.tmp 32) rfl rfl hown rfl g2 (by omega) hsz hbr ?_)
          intro v' w2 ho' hb'
          clear hown hbr g2 d2
          go_wp2_with fail
          go_roundw
          case rel => exact ⟨.inr (.inr ⟨by go_num, ho'⟩), hb'⟩
          case measure => simp [intOf]
        · clear g1 g2 d1 d2
          go_wp2_with fail
          go_ret
          exact ⟨_, rfl, hown, hbr⟩
end Go.Proofs.Ytflbphmpohkkbaa
