/-
  CONTRACTS OF LAYER 3 (idset) AND OF ITS REFERENCE: Without, slices.BinarySearch, Union, Meet, Minus. By an AI agent.
-/
import Derived.Test.YtflbphmpohkkbaaIdWalksB
namespace Go.Proofs.Ytflbphmpohkkbaa
open Go.RowKit

theorem small_filter (p : Int → Bool) (l : List Int) (k : Nat) (hn : l.length ≤ 1000000000) : ((l.take k).filter p).length ≤ 1000000000000 := by
  have := Ids.filter_len p l k; omega
set_option maxHeartbeats 800000 in
set_option maxRecDepth 100000 in
theorem idsetWithout (v : Value) (l : List Int) (n : Int) (w : World) (hv : Ints w v l) (hn : l.length ≤ 1000000000) :
    Calls Try.prog 20 #[v, .int .i64 n] w (IntsRes (Ids.without l n) w) := by
  obtain ⟨a, c, rfl, hlc, hm, -, d⟩ := hv
  unfold maxLen at hm
  have D := Lib.hid d
  clear d
  go_enter Try.func20, Try.ntmps20
  go_wp2_with fail
  go_loopw [5, 10] (fun ns i wr => ∃ k : Nat, k ≤ l.length ∧ i = .int .i64 (k : Int) ∧ OwnInts w.heap.size wr ns ((l.take k).filter fun x => decide (x ≠ n)) ∧ Below w.heap.size w wr) (fun _ i _ => l.length - (intOf i).toNat)
  case atStart => exact ⟨0, Nat.zero_le _, rfl, OwnInts.nil _ _, Below.refl _ _⟩
  case round =>
    obtain ⟨k, hk, rfl, hown, hbr⟩ := hrel
    have hsz := hbr.size
    have hL := small_filter (fun x => decide (x ≠ n)) l k hn
    by_cases hlt : k < l.length
    · obtain ⟨b, o, rfl, q, hc⟩ := D.out k _ (getD_get hlt)
      have hstep := Ids.filter_take_succ (fun x => decide (x ≠ n)) (getD_get hlt)
      have c1 : wr.cell? ⟨b, o + k, none⟩ = some (.int .i64 (l.getD k 0)) := (hbr.cell q).trans hc
      have i0 : (0 : Int) ≤ (k : Int) := by omega
      have i3 : (k : Int) < (l.length : Int) := by omega
      generalize l.getD k 0 = x at c1 hstep
      generalize ((l.take k).filter fun x => decide (x ≠ n)) = L at hown hL hstep
      clear hc
      by_cases hxy : x = n
      · have t : (x == n) = true := by simp [hxy]
        rw [if_neg (by simp [hxy]), List.append_nil] at hstep
        have HS := Lib.hid hstep
        clear hxy hstep
        go_wp2_with fail
        go_roundw
        case rel => exact ⟨k + 1, by omega, by go_num, by rw [HS.out]; exact hown, hbr⟩
        case measure => simp [intOf]; omega
      · have t : (x == n) = false := by simp [hxy]
        rw [if_pos (by simp [hxy])] at hstep
        have HS := Lib.hid hstep
        clear hxy hstep
        go_wp2_with (at_builtin; refine wpList_push_int rfl _ _ rfl rfl hown x rfl (by omega) hsz hbr ?_)
        intro v' w1 ho hb'
        clear hown hbr c1
        go_wp2_with fail
        go_roundw
        case rel => exact ⟨k + 1, by omega, by go_num, by rw [HS.out]; exact ho, hb'⟩
        case measure => simp [intOf]; omega
    · obtain rfl : k = l.length := by omega
      rw [List.take_length] at hown
      have HO := Lib.hid hown
      clear hown hL
      go_wp2_with fail
      go_ret
      exact IntsRes.of rfl HO.out hbr
set_option maxHeartbeats 800000 in
set_option maxRecDepth 100000 in
theorem refWithout (v : Value) (l : List Int) (n : Int) (w : World) (hv : Ints w v l) (hn : l.length ≤ 1000000000) :
    Calls Try.prog 21 #[v, .int .i64 n] w (IntsRes (Ids.without l n) w) := by
  obtain ⟨a, c, rfl, hlc, hm, -, d⟩ := hv
  unfold maxLen at hm
  have D := Lib.hid d
  clear d
  go_enter Try.func21, Try.ntmps21
  go_wp2_with fail
  go_loopw [5, 6] (fun ns i wr => ∃ k : Nat, k ≤ l.length ∧ i = .int .i64 (k : Int) ∧ OwnInts w.heap.size wr ns ((l.take k).filter fun x => decide (x ≠ n)) ∧ Below w.heap.size w wr) (fun _ i _ => l.length - (intOf i).toNat)
  case atStart => exact ⟨0, Nat.zero_le _, rfl, OwnInts.nil _ _, Below.refl _ _⟩
  case round =>
    obtain ⟨k, hk, rfl, hown, hbr⟩ := hrel
    have hsz := hbr.size
    have hL := small_filter (fun x => decide (x ≠ n)) l k hn
    by_cases hlt : k < l.length
    · obtain ⟨b, o, rfl, q, hc⟩ := D.out k _ (getD_get hlt)
      have hstep := Ids.filter_take_succ (fun x => decide (x ≠ n)) (getD_get hlt)
      have c1 : wr.cell? ⟨b, o + k, none⟩ = some (.int .i64 (l.getD k 0)) := (hbr.cell q).trans hc
      have i0 : (0 : Int) ≤ (k : Int) := by omega
      have i3 : (k : Int) < (l.length : Int) := by omega
      generalize l.getD k 0 = x at c1 hstep
      generalize ((l.take k).filter fun x => decide (x ≠ n)) = L at hown hL hstep
      clear hc
      by_cases hxy : x = n
      · have t : (x == n) = true := by simp [hxy]
        rw [if_neg (by simp [hxy]), List.append_nil] at hstep
        have HS := Lib.hid hstep
        clear hxy hstep
        go_wp2_with fail
        go_roundw
        case rel => exact ⟨k + 1, by omega, by go_num, by rw [HS.out]; exact hown, hbr⟩
        case measure => simp [intOf]; omega
      · have t : (x == n) = false := by simp [hxy]
        rw [if_pos (by simp [hxy])] at hstep
        have HS := Lib.hid hstep
        clear hxy hstep
        go_wp2_with (at_builtin; refine wpList_push_int rfl _ _ rfl rfl hown x rfl (by omega) hsz hbr ?_)
        intro v' w1 ho hb'
        clear hown hbr c1
        go_wp2_with fail
        go_roundw
        case rel => exact ⟨k + 1, by omega, by go_num, by rw [HS.out]; exact ho, hb'⟩
        case measure => simp [intOf]; omega
    · obtain rfl : k = l.length := by omega
      rw [List.take_length] at hown
      have HO := Lib.hid hown
      clear hown hL
      go_wp2_with fail
      go_ret
      exact IntsRes.of rfl HO.out hbr
set_option maxRecDepth 100000 in
theorem bsearch (v : Value) (l : List Int) (x : Int) (w : World) (hv : Ints w v l) (hs : l.Pairwise (· ≤ ·)) (hl : l.length ≤ 1000000000) :
    Calls Try.prog 40 #[v, .int .i64 x] w fun e w' => (∃ i : Int, e = .returned (.tuple #[.int .i64 i, .bool (l.contains x)])) ∧ Below w.heap.size w w' := by
  rcases hv.shape with ⟨a, c, rfl, rfl, -, -⟩ | ⟨b, o, c, rfl, p, q, n1, m1, d⟩
  · go_enter Try.func40, Try.ntmps40
    go_wp2
    go_loopg [7, 8] 0 (fun _ s7 s8 wr => s7 = .int .i64 0 ∧ s8 = .int .i64 0 ∧ wr = w)
    case atStart => exact ⟨rfl, rfl, rfl⟩
    case round =>
      obtain ⟨rfl, rfl, rfl⟩ := hrel
      go_wp2
      go_ret2
      exact ⟨⟨0, rfl⟩, Below.refl _ _⟩
  · refine (Try.slices_BinarySearch_int b o l.length c l x w (Nat.le_refl _) (by omega) (Ints.getD d) (by rw [take_all]; exact hs)).mono ?_
    rw [take_all]
    rintro e w1 ⟨rfl, q, rfl⟩
    exact ⟨⟨_, rfl⟩, below_drewN (Below.refl _ _) _⟩
theorem up_le {l : List Int} (h : Ids.Up l) : l.Pairwise (· ≤ ·) := h.imp fun h => Int.le_of_lt h
theorem lit_two (w : World) (v1 v2 : Value) : (w.alloc (.cells #[v1, v2] 22)).cell? ⟨w.heap.size, 0, none⟩ = some v1 ∧ (w.alloc (.cells #[v1, v2] 22)).cell? ⟨w.heap.size, 1, none⟩ = some v2 := by
  have h0 := cell_of_row (w.alloc (.cells #[v1, v2] 22)) w.heap.size 0 #[v1, v2] 22 (0, 0) (heap_alloc_new w _)
  have h1 := cell_of_row (w.alloc (.cells #[v1, v2] 22)) w.heap.size 1 #[v1, v2] 22 (0, 0) (heap_alloc_new w _)
  exact ⟨h0, h1⟩
set_option maxRecDepth 100000 in
theorem idsetUnion (v1 v2 : Value) (l1 l2 : List Int) (w : World) (h1 : Ints w v1 l1) (h2 : Ints w v2 l2) (hn : l1.length + l2.length ≤ 1000000) :
    Calls Try.prog 22 #[v1, v2] w (IntsRes (Ids.norm (l1 ++ l2)) w) := by
  have hb0 := (Below.refl w.heap.size w).alloc (Nat.le_refl _) (.cells #[v1, v2] 22)
  have hc := concatTwo w.heap.size v1 v2 l1 l2 (w.alloc (.cells #[v1, v2] 22)) (by simp) (lit_two w v1 v2).1 (lit_two w v1 v2).2 (h1.below hb0 (Nat.le_refl _)) (h2.below hb0 (Nat.le_refl _)) hn
  have HC := Lib.hid hc
  obtain ⟨a1, k1, rfl, _⟩ := h1
  obtain ⟨a2, k2, rfl, _⟩ := h2
  clear hc
  go_enter Try.func22, Try.ntmps22
  go_wp2_with fail
  refine HC.out.mono ?_
  rintro e w1 ⟨v, rfl, ho, hb⟩
  have hsz0 := hb0.size
  obtain ⟨ho1, hb1⟩ := IntsRes.later ho hb0 hsz0 hb
  have HI := Lib.hid ho1.ints
  have hlen : (l1 ++ l2).length ≤ 1000000000 := by simp; omega
  clear ho hb HC hb0
  go_wp2_with fail
  refine (sortedInt _ _ _ HI.out hlen).mono ?_
  rintro e w2 ⟨v2, rfl, ho2, hb2⟩
  obtain ⟨ho3, hb3⟩ := IntsRes.later ho2 hb1 hb1.size hb2
  clear ho2 hb2 hb1
  go_wp2_with fail
  go_ret
  exact ⟨_, rfl, ho3, hb3⟩
set_option maxHeartbeats 1600000 in
set_option maxRecDepth 100000 in
theorem idsetChosen (v1 v2 : Value) (l1 l2 : List Int) (t : Bool) (w : World) (h1 : Ints w v1 l1) (h2 : Ints w v2 l2) (n1 : l1.length ≤ 1000000) (n2 : l2.length ≤ 1000000) :
    Calls Try.prog 34 #[v1, v2, .bool t] w (IntsRes (Ids.chosen l1 l2 t) w) := by
  have H1 := Lib.hid h1
  have H2 := Lib.hid h2
  obtain ⟨a1, k1, rfl, _⟩ := h1
  obtain ⟨a2, k2, rfl, _⟩ := h2
  go_enter Try.func34, Try.ntmps34
  go_wp2_with fail
  refine (sortedInt _ _ _ H2.out (by omega)).mono ?_
  rintro e w1 ⟨vb, rfl, hob, hb1⟩
  have H1' := Lib.hid (H1.out.below hb1 (Nat.le_refl _))
  go_wp2_with fail
  refine (sortedInt _ _ _ H1'.out (by omega)).mono ?_
  rintro e w2 ⟨va, rfl, hoa, hb2⟩
  have HB := Lib.hid (hob.below hb2 (Nat.le_refl _)).ints
  have hI := hoa.ints
  have hb := Lib.hid (hb1.trans (hb2.mono hb1.size))
  clear hob hoa hb1 hb2 H1 H1' H2
  obtain ⟨a, c, rfl, hlc, hm, -, d⟩ := hI
  unfold maxLen at hm
  have D := Lib.hid d
  have hla := Ids.norm_length l1
  have hlb := Ids.norm_length l2
  have HU := Lib.hid (up_le (Ids.norm_up l2))
  have HC : Hid (Ids.chosen l1 l2 t = (Ids.norm l1).filter fun x => (Ids.norm l2).contains x == t) := Lib.hid rfl
  clear d
  generalize Ids.norm l1 = A at *
  generalize Ids.norm l2 = Bs at *
  go_wp2_with fail
  go_loopw [7, 18] (fun ns i wr => ∃ k : Nat, k ≤ A.length ∧ i = .int .i64 (k : Int) ∧ OwnInts w2.heap.size wr ns ((A.take k).filter fun x => Bs.contains x == t) ∧ Below w2.heap.size w2 wr) (fun _ i _ => A.length - (intOf i).toNat)
  case atStart => exact ⟨0, Nat.zero_le _, rfl, OwnInts.nil _ _, Below.refl _ _⟩
  case round =>
    obtain ⟨k, hk, rfl, hown, hbr⟩ := hrel
    have hsz := hbr.size
    have hL := small_filter (fun x => Bs.contains x == t) A k (by omega)
    by_cases hlt : k < A.length
    · obtain ⟨b, o, rfl, q, hc⟩ := D.out k _ (getD_get hlt)
      have hstep := Ids.filter_take_succ (fun x => Bs.contains x == t) (getD_get hlt)
      have c1 : wr.cell? ⟨b, o + k, none⟩ = some (.int .i64 (A.getD k 0)) := (hbr.cell q).trans hc
      have i0 : (0 : Int) ≤ (k : Int) := by omega
      have i3 : (k : Int) < (A.length : Int) := by omega
      generalize A.getD k 0 = x at c1 hstep
      generalize ((A.take k).filter fun x => Bs.contains x == t) = L at hown hL hstep
      have hB := HB.out.below hbr (Nat.le_refl _)
      have hlB : Bs.length ≤ 1000000000 := by omega
      have HS := Lib.hid hstep
      have HX := Lib.hid hB
      clear hc hstep hB
      go_wp2_with fail
      refine (bsearch _ _ _ _ HX.out HU.out hlB).mono ?_
      rintro e w3 ⟨⟨i, rfl⟩, hb3⟩
      have hown' := hown.below hb3 (Nat.le_refl _)
      have hbr' := hbr.trans (hb3.mono hbr.size)
      have hsz' := hbr'.size
      have hf := HS.out
      clear hown hbr hb3 HX c1 hsz HS
      generalize Bs.contains x = f at hf ⊢
      cases f <;> cases t
      · rw [if_pos (by rfl)] at hf
        have HS := Lib.hid hf
        clear hf
        go_wp2_with (at_builtin; refine wpList_push_int rfl _ _ rfl rfl hown' x rfl (by omega) hsz' hbr' ?_)
        intro v' w4 ho hb'
        clear hown' hbr'
        go_wp2_with fail
        go_roundw
        case rel => exact ⟨k + 1, by omega, by go_num, by rw [HS.out]; exact ho, hb'⟩
        case measure => simp [intOf]; omega
      · rw [if_neg (by decide), List.append_nil] at hf
        have HS := Lib.hid hf
        clear hf
        go_wp2_with fail
        go_roundw
        case rel => exact ⟨k + 1, by omega, by go_num, by rw [HS.out]; exact hown', hbr'⟩
        case measure => simp [intOf]; omega
      · rw [if_neg (by decide), List.append_nil] at hf
        have HS := Lib.hid hf
        clear hf
        go_wp2_with fail
        go_roundw
        case rel => exact ⟨k + 1, by omega, by go_num, by rw [HS.out]; exact hown', hbr'⟩
        case measure => simp [intOf]; omega
      · rw [if_pos (by rfl)] at hf
        have HS := Lib.hid hf
        clear hf
        go_wp2_with (at_builtin; refine wpList_push_int rfl _ _ rfl rfl hown' x rfl (by omega) hsz' hbr' ?_)
        intro v' w4 ho hb'
        clear hown' hbr'
        go_wp2_with fail
        go_roundw
        case rel => exact ⟨k + 1, by omega, by go_num, by rw [HS.out]; exact ho, hb'⟩
        case measure => simp [intOf]; omega
    · obtain rfl : k = A.length := by omega
      rw [List.take_length] at hown
      have HO := Lib.hid hown
      clear hown hL
      go_wp2_with fail
      go_ret
      have hsz2 := hb.out.size
      obtain ⟨ho3, hb3⟩ := IntsRes.later HO.out hb.out hsz2 hbr
      exact IntsRes.of HC.out ho3 hb3
set_option maxRecDepth 100000 in
theorem idsetMeet (v1 v2 : Value) (l1 l2 : List Int) (w : World) (h1 : Ints w v1 l1) (h2 : Ints w v2 l2) (n1 : l1.length ≤ 1000000) (n2 : l2.length ≤ 1000000) :
    Calls Try.prog 24 #[v1, v2] w (IntsRes (Ids.chosen l1 l2 true) w) := by
  have HC := Lib.hid (idsetChosen v1 v2 l1 l2 true w h1 h2 n1 n2)
  obtain ⟨a1, k1, rfl, _⟩ := h1
  obtain ⟨a2, k2, rfl, _⟩ := h2
  go_enter Try.func24, Try.ntmps24
  go_wp2_with fail
  refine HC.out.mono ?_
  rintro e w1 ⟨v, rfl, ho, hb⟩
  clear HC
  go_wp2_with fail
  go_ret
  exact ⟨_, rfl, ho, hb⟩
set_option maxRecDepth 100000 in
theorem idsetMinus (v1 v2 : Value) (l1 l2 : List Int) (w : World) (h1 : Ints w v1 l1) (h2 : Ints w v2 l2) (n1 : l1.length ≤ 1000000) (n2 : l2.length ≤ 1000000) :
    Calls Try.prog 26 #[v1, v2] w (IntsRes (Ids.chosen l1 l2 false) w) := by
  have HC := Lib.hid (idsetChosen v1 v2 l1 l2 false w h1 h2 n1 n2)
  obtain ⟨a1, k1, rfl, _⟩ := h1
  obtain ⟨a2, k2, rfl, _⟩ := h2
  go_enter Try.func26, Try.ntmps26
  go_wp2_with fail
  refine HC.out.mono ?_
  rintro e w1 ⟨v, rfl, ho, hb⟩
  clear HC
  go_wp2_with fail
  go_ret
  exact ⟨_, rfl, ho, hb⟩
end Go.Proofs.Ytflbphmpohkkbaa
