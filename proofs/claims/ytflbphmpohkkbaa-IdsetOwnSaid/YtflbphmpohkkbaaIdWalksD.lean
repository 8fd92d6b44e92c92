/-
  CONTRACTS OF LAYER 3's REFERENCE: insert, Of, Union, Meet, Minus. By an AI agent.
-/
import Derived.Test.YtflbphmpohkkbaaIdWalksC
namespace Go.Proofs.Ytflbphmpohkkbaa
open Go.RowKit

theorem insStep_ff {n x : Int} {O : List Int} (hx : x = n) : Ids.insStep n (O, false) x = (O ++ [n], true) := by simp [Ids.insStep, hx]
theorem insStep_fn {n x : Int} {O : List Int} (h : n ≤ x) (hx : x ≠ n) : Ids.insStep n (O, false) x = (O ++ [n] ++ [x], true) := by simp [Ids.insStep, h, hx]
theorem insStep_fl {n x : Int} {O : List Int} (h : ¬ n ≤ x) : Ids.insStep n (O, false) x = (O ++ [x], false) := by
  have hx : x ≠ n := by omega
  simp [Ids.insStep, h, hx]
theorem insStep_tt {n x : Int} {O : List Int} (hx : x = n) : Ids.insStep n (O, true) x = (O, true) := by simp [Ids.insStep, hx]
theorem insStep_tn {n x : Int} {O : List Int} (hx : x ≠ n) : Ids.insStep n (O, true) x = (O ++ [x], true) := by simp [Ids.insStep, hx]
set_option maxHeartbeats 1600000 in
set_option maxRecDepth 100000 in
theorem refInsert (v : Value) (l : List Int) (n : Int) (w : World) (hv : Ints w v l) (hn : l.length ≤ 1000000000) :
    Calls Try.prog 30 #[v, .int .i64 n] w (IntsRes (Ids.ins l n) w) := by
  obtain ⟨a, c, rfl, hlc, hm, -, d⟩ := hv
  unfold maxLen at hm
  have D := Lib.hid d
  clear d
  go_enter Try.func30, Try.ntmps30
  go_wp2_with fail
  go_loopw [5, 6, 7] (fun ns dn i wr => ∃ k : Nat, k ≤ l.length ∧ i = .int .i64 (k : Int) ∧ OwnInts w.heap.size wr ns (Ids.insAt l n k).1 ∧ dn = .bool (Ids.insAt l n k).2 ∧ Below w.heap.size w wr) (fun _ _ i _ => l.length - (intOf i).toNat)
  case atStart => exact ⟨0, Nat.zero_le _, rfl, OwnInts.nil _ _, rfl, Below.refl _ _⟩
  case round =>
    obtain ⟨k, hk, rfl, hown, rfl, hbr⟩ := hrel
    have hsz := hbr.size
    have hL := Ids.insAt_len l n k hk
    by_cases hlt : k < l.length
    · obtain ⟨b, o, rfl, q, hc⟩ := D.out k _ (getD_get hlt)
      have hstep := Ids.insAt_succ (n := n) (getD_get hlt)
      have c1 : wr.cell? ⟨b, o + k, none⟩ = some (.int .i64 (l.getD k 0)) := (hbr.cell q).trans hc
      have i0 : (0 : Int) ≤ (k : Int) := by omega
      have i3 : (k : Int) < (l.length : Int) := by omega
      generalize l.getD k 0 = x at c1 hstep hc
      generalize hS : Ids.insAt l n k = S at hown hL hstep ⊢
      clear hS
      obtain ⟨O, dd⟩ := S
      simp only at hown hL hstep ⊢
      cases dd with
      | true =>
        by_cases hxy : x = n
        · have t : (x == n) = true := by simp [hxy]
          rw [insStep_tt hxy] at hstep
          have HS := Lib.hid hstep
          clear hxy hstep hc
          go_wp2_with fail
          go_roundw
          case rel => exact ⟨k + 1, by omega, by go_num, by rw [HS.out]; exact hown, by rw [HS.out], hbr⟩
          case measure => simp [intOf]; omega
        · have t : (x == n) = false := by simp [hxy]
          rw [insStep_tn hxy] at hstep
          have HS := Lib.hid hstep
          clear hxy hstep hc
          go_wp2_with (at_builtin; refine wpList_push_int rfl _ _ rfl rfl hown x rfl (by omega) hsz hbr ?_)
          intro v' w1 ho hb'
          clear hown hbr c1
          go_wp2_with fail
          go_roundw
          case rel => exact ⟨k + 1, by omega, by go_num, by rw [HS.out]; exact ho, by rw [HS.out], hb'⟩
          case measure => simp [intOf]; omega
      | false =>
        by_cases hle : n ≤ x
        · by_cases hxy : x = n
          · have t : (x == n) = true := by simp [hxy]
            rw [insStep_ff hxy] at hstep
            have HS := Lib.hid hstep
            clear hxy hstep
            go_wp2_with (at_builtin; refine wpList_push_int rfl _ _ rfl rfl hown n rfl (by omega) hsz hbr ?_)
            intro v' w1 ho hb'
            have c2 : w1.cell? ⟨b, o + k, none⟩ = some (.int .i64 x) := (hb'.cell q).trans hc
            clear hown hbr c1 hc
            go_wp2_with fail
            go_roundw
            case rel => exact ⟨k + 1, by omega, by go_num, by rw [HS.out]; exact ho, by rw [HS.out], hb'⟩
            case measure => simp [intOf]; omega
          · have t : (x == n) = false := by simp [hxy]
            rw [insStep_fn hle hxy] at hstep
            have HS := Lib.hid hstep
            clear hxy hstep
            go_wp2_with (at_builtin; refine wpList_push_int rfl _ _ rfl rfl hown n rfl (by omega) hsz hbr ?_)
            intro v' w1 ho hb'
            have c2 : w1.cell? ⟨b, o + k, none⟩ = some (.int .i64 x) := (hb'.cell q).trans hc
            have hsz' := hb'.size
            have hL' : (O ++ [n]).length ≤ 1000000000000 := by simp; omega
            clear hown hbr c1 hc
            go_wp2_with (at_builtin; refine wpList_push_int rfl _ _ rfl rfl ho x rfl hL' hsz' hb' ?_)
            intro v2 w2 ho2 hb2
            clear ho hb' c2
            go_wp2_with fail
            go_roundw
            case rel => exact ⟨k + 1, by omega, by go_num, by rw [HS.out]; simpa using ho2, by rw [HS.out], hb2⟩
            case measure => simp [intOf]; omega
        · have t : (x == n) = false := by simp; omega
          rw [insStep_fl hle] at hstep
          have HS := Lib.hid hstep
          clear hstep hc
          go_wp2_with (at_builtin; refine wpList_push_int rfl _ _ rfl rfl hown x rfl (by omega) hsz hbr ?_)
          intro v' w1 ho hb'
          clear hown hbr c1
          go_wp2_with fail
          go_roundw
          case rel => exact ⟨k + 1, by omega, by go_num, by rw [HS.out]; exact ho, by rw [HS.out], hb'⟩
          case measure => simp [intOf]; omega
    · obtain rfl : k = l.length := by omega
      have HR : Hid (Ids.ins l n = if (Ids.insAt l n l.length).2 then (Ids.insAt l n l.length).1 else (Ids.insAt l n l.length).1 ++ [n]) := Lib.hid rfl
      generalize hS : Ids.insAt l n l.length = S at hown hL HR ⊢
      clear hS
      obtain ⟨O, dd⟩ := S
      simp only at hown hL HR ⊢
      cases dd with
      | true =>
        go_wp2_with fail
        go_ret
        exact IntsRes.of (by rw [HR.out]; rfl) hown hbr
      | false =>
        go_wp2_with (at_builtin; refine wpList_push_int rfl _ _ rfl rfl hown n rfl (by omega) hsz hbr ?_)
        intro v' w1 ho hb'
        clear hown hbr
        go_wp2_with fail
        go_ret
        exact IntsRes.of (by rw [HR.out]; rfl) ho hb'
/-! ### Of, Union -/
set_option maxHeartbeats 800000 in
set_option maxRecDepth 100000 in
theorem refOf (v : Value) (l : List Int) (w : World) (hv : Ints w v l) (hn : l.length ≤ 1000000) :
    Calls Try.prog 15 #[v] w (IntsRes (Ids.norm l) w) := by
  obtain ⟨a, c, rfl, hlc, hm, -, d⟩ := hv
  unfold maxLen at hm
  have D := Lib.hid d
  clear d
  go_enter Try.func15, Try.ntmps15
  go_wp2_with fail
  go_loopw [3, 4] (fun ns i wr => ∃ k : Nat, k ≤ l.length ∧ i = .int .i64 (k : Int) ∧ OwnInts w.heap.size wr ns (Ids.addAll [] (l.take k)) ∧ Below w.heap.size w wr) (fun _ i _ => l.length - (intOf i).toNat)
  case atStart => exact ⟨0, Nat.zero_le _, rfl, OwnInts.nil _ _, Below.refl _ _⟩
  case round =>
    obtain ⟨k, hk, rfl, hown, hbr⟩ := hrel
    have hsz := hbr.size
    have hL := Ids.addAll_len [] (l.take k) List.Pairwise.nil 0 (Nat.le_refl _)
    have hL2 : (l.take k).length ≤ l.length := by simp; omega
    by_cases hlt : k < l.length
    · obtain ⟨b, o, rfl, q, hc⟩ := D.out k _ (getD_get hlt)
      have hstep := Ids.addAll_snoc (acc := []) (getD_get hlt)
      have c1 : wr.cell? ⟨b, o + k, none⟩ = some (.int .i64 (l.getD k 0)) := (hbr.cell q).trans hc
      have i0 : (0 : Int) ≤ (k : Int) := by omega
      have i3 : (k : Int) < (l.length : Int) := by omega
      generalize l.getD k 0 = x at c1 hstep
      generalize Ids.addAll [] (l.take k) = L at hown hL hstep
      have HS := Lib.hid hstep
      have hI := Lib.hid hown.ints
      have hlL : L.length ≤ 1000000000 := by omega
      clear hc hstep hown
      go_wp2_with fail
      refine (refInsert _ _ _ _ hI.out hlL).mono ?_
      rintro e w1 ⟨v', rfl, ho, hb⟩
      obtain ⟨ho', hb'⟩ := IntsRes.later ho hbr hsz hb
      clear ho hb hbr hI c1
      go_wp2_with fail
      go_roundw
      case rel => exact ⟨k + 1, by omega, by go_num, by rw [HS.out]; exact ho', hb'⟩
      case measure => simp [intOf]; omega
    · obtain rfl : k = l.length := by omega
      rw [List.take_length] at hown
      have HO := Lib.hid hown
      clear hown hL
      go_wp2_with fail
      go_ret
      exact IntsRes.of (Ids.addAll_norm l).symm HO.out hbr
set_option maxHeartbeats 800000 in
set_option maxRecDepth 100000 in
theorem refUnion (v1 v2 : Value) (l1 l : List Int) (w : World) (h1 : Ints w v1 l1) (h2 : Ints w v2 l) (n1 : l1.length ≤ 1000000) (hn : l.length ≤ 1000000) :
    Calls Try.prog 23 #[v1, v2] w (IntsRes (Ids.norm (l1 ++ l)) w) := by
  have H1 := Lib.hid h1
  obtain ⟨a1, k1, rfl, _⟩ := h1
  obtain ⟨a, c, rfl, hlc, hm, -, d⟩ := h2
  unfold maxLen at hm
  have D := Lib.hid d
  clear d
  go_enter Try.func23, Try.ntmps23
  go_wp2_with fail
  refine (refOf _ _ _ H1.out n1).mono ?_
  rintro e w0 ⟨v0, rfl, ho0, hb0⟩
  have HU := Lib.hid (Ids.addAll_union l1 l)
  have hU := Ids.norm_up l1
  have hl0 := Ids.norm_length l1
  generalize Ids.norm l1 = A at *
  go_wp2_with fail
  go_loopw [5, 6] (fun ns i wr => ∃ k : Nat, k ≤ l.length ∧ i = .int .i64 (k : Int) ∧ OwnInts w.heap.size wr ns (Ids.addAll A (l.take k)) ∧ Below w.heap.size w wr) (fun _ i _ => l.length - (intOf i).toNat)
  case atStart => exact ⟨0, Nat.zero_le _, rfl, ho0, hb0⟩
  case round =>
    obtain ⟨k, hk, rfl, hown, hbr⟩ := hrel
    have hsz := hbr.size
    have hL := Ids.addAll_len A (l.take k) hU 1000000 (by omega)
    have hL2 : (l.take k).length ≤ l.length := by simp; omega
    by_cases hlt : k < l.length
    · obtain ⟨b, o, rfl, q, hc⟩ := D.out k _ (getD_get hlt)
      have hstep := Ids.addAll_snoc (acc := A) (getD_get hlt)
      have c1 : wr.cell? ⟨b, o + k, none⟩ = some (.int .i64 (l.getD k 0)) := (hbr.cell q).trans hc
      have i0 : (0 : Int) ≤ (k : Int) := by omega
      have i3 : (k : Int) < (l.length : Int) := by omega
      generalize l.getD k 0 = x at c1 hstep
      generalize Ids.addAll A (l.take k) = L at hown hL hstep
      have HS := Lib.hid hstep
      have hI := Lib.hid hown.ints
      have hlL : L.length ≤ 1000000000 := by omega
      clear hc hstep hown
      go_wp2_with fail
      refine (refInsert _ _ _ _ hI.out hlL).mono ?_
      rintro e w1 ⟨v', rfl, ho, hb⟩
      obtain ⟨ho', hb'⟩ := IntsRes.later ho hbr hsz hb
      clear ho hb hbr hI c1
      go_wp2_with fail
      go_roundw
      case rel => exact ⟨k + 1, by omega, by go_num, by rw [HS.out]; exact ho', hb'⟩
      case measure => simp [intOf]; omega
    · obtain rfl : k = l.length := by omega
      rw [List.take_length] at hown
      have HO := Lib.hid hown
      clear hown hL
      go_wp2_with fail
      go_ret
      exact IntsRes.of HU.out.symm HO.out hbr
set_option maxHeartbeats 1600000 in
set_option maxRecDepth 100000 in
theorem refMeet (v1 v2 : Value) (l l2 : List Int) (w : World) (h1 : Ints w v1 l) (h2 : Ints w v2 l2) (hn : l.length ≤ 1000000) :
    Calls Try.prog 25 #[v1, v2] w (IntsRes (Ids.chosen l l2 true) w) := by
  have H2 := Lib.hid h2
  obtain ⟨a2, k2, rfl, _⟩ := h2
  obtain ⟨a, c, rfl, hlc, hm, -, d⟩ := h1
  unfold maxLen at hm
  have D := Lib.hid d
  clear d
  go_enter Try.func25, Try.ntmps25
  go_wp2_with fail
  go_loopw [5, 6] (fun ns i wr => ∃ k : Nat, k ≤ l.length ∧ i = .int .i64 (k : Int) ∧ OwnInts w.heap.size wr ns (Ids.addAll [] ((l.take k).filter fun x => l2.contains x == true)) ∧ Below w.heap.size w wr) (fun _ i _ => l.length - (intOf i).toNat)
  case atStart => exact ⟨0, Nat.zero_le _, rfl, OwnInts.nil _ _, Below.refl _ _⟩
  case round =>
    obtain ⟨k, hk, rfl, hown, hbr⟩ := hrel
    have hsz := hbr.size
    have hL := Ids.addAll_len [] ((l.take k).filter fun x => l2.contains x == true) List.Pairwise.nil 0 (Nat.le_refl _)
    have hL2 := Ids.filter_len (fun x => l2.contains x == true) l k
    by_cases hlt : k < l.length
    · obtain ⟨b, o, rfl, q, hc⟩ := D.out k _ (getD_get hlt)
      have hstep := Ids.addAll_filter_snoc (p := fun x => l2.contains x == true) (getD_get hlt)
      have c1 : wr.cell? ⟨b, o + k, none⟩ = some (.int .i64 (l.getD k 0)) := (hbr.cell q).trans hc
      have i0 : (0 : Int) ≤ (k : Int) := by omega
      have i3 : (k : Int) < (l.length : Int) := by omega
      generalize l.getD k 0 = x at c1 hstep hc
      generalize Ids.addAll [] ((l.take k).filter fun x => l2.contains x == true) = L at hown hL hstep
      have HS := Lib.hid hstep
      have hX := Lib.hid (H2.out.below hbr (Nat.le_refl _))
      have HC := Lib.hid hc
      have hlL : L.length ≤ 1000000000 := by omega
      clear hstep hc
      go_wp2_with fail
      refine (refHas _ _ _ _ hX.out).mono ?_
      rintro e w1 ⟨rfl, hb1⟩
      have hown' := hown.below hb1 (Nat.le_refl _)
      have hbr' := hbr.trans (hb1.mono hsz)
      have hsz' := hbr'.size
      have c2 : w1.cell? ⟨b, o + k, none⟩ = some (.int .i64 x) := (hbr'.cell q).trans HC.out
      have hf := HS.out
      clear hown hbr hb1 hX c1 HC HS hsz
      generalize l2.contains x = f at hf ⊢
      cases f
      · rw [if_neg (by decide)] at hf
        have HS := Lib.hid hf
        clear hf c2
        go_wp2_with fail
        go_roundw
        case rel => exact ⟨k + 1, by omega, by go_num, by rw [HS.out]; exact hown', hbr'⟩
        case measure => simp [intOf]; omega
      · rw [if_pos (by rfl)] at hf
        have HS := Lib.hid hf
        have hI := Lib.hid hown'.ints
        clear hf hown'
        go_wp2_with fail
        refine (refInsert _ _ _ _ hI.out hlL).mono ?_
        rintro e w2 ⟨v', rfl, ho, hb⟩
        obtain ⟨ho', hb'⟩ := IntsRes.later ho hbr' hsz' hb
        clear ho hb hbr' hI c2
        go_wp2_with fail
        go_roundw
        case rel => exact ⟨k + 1, by omega, by go_num, by rw [HS.out]; exact ho', hb'⟩
        case measure => simp [intOf]; omega
    · obtain rfl : k = l.length := by omega
      rw [List.take_length] at hown
      have HO := Lib.hid hown
      clear hown hL hL2
      go_wp2_with fail
      go_ret
      exact IntsRes.of (by rw [Ids.addAll_norm]; exact (Ids.chosen_norm l l2 true).symm) HO.out hbr
set_option maxHeartbeats 1600000 in
set_option maxRecDepth 100000 in
theorem refMinus (v1 v2 : Value) (l l2 : List Int) (w : World) (h1 : Ints w v1 l) (h2 : Ints w v2 l2) (hn : l.length ≤ 1000000) :
    Calls Try.prog 27 #[v1, v2] w (IntsRes (Ids.chosen l l2 false) w) := by
  have H2 := Lib.hid h2
  obtain ⟨a2, k2, rfl, _⟩ := h2
  obtain ⟨a, c, rfl, hlc, hm, -, d⟩ := h1
  unfold maxLen at hm
  have D := Lib.hid d
  clear d
  go_enter Try.func27, Try.ntmps27
  go_wp2_with fail
  go_loopw [5, 6] (fun ns i wr => ∃ k : Nat, k ≤ l.length ∧ i = .int .i64 (k : Int) ∧ OwnInts w.heap.size wr ns (Ids.addAll [] ((l.take k).filter fun x => l2.contains x == false)) ∧ Below w.heap.size w wr) (fun _ i _ => l.length - (intOf i).toNat)
  case atStart => exact ⟨0, Nat.zero_le _, rfl, OwnInts.nil _ _, Below.refl _ _⟩
  case round =>
    obtain ⟨k, hk, rfl, hown, hbr⟩ := hrel
    have hsz := hbr.size
    have hL := Ids.addAll_len [] ((l.take k).filter fun x => l2.contains x == false) List.Pairwise.nil 0 (Nat.le_refl _)
    have hL2 := Ids.filter_len (fun x => l2.contains x == false) l k
    by_cases hlt : k < l.length
    · obtain ⟨b, o, rfl, q, hc⟩ := D.out k _ (getD_get hlt)
      have hstep := Ids.addAll_filter_snoc (p := fun x => l2.contains x == false) (getD_get hlt)
      have c1 : wr.cell? ⟨b, o + k, none⟩ = some (.int .i64 (l.getD k 0)) := (hbr.cell q).trans hc
      have i0 : (0 : Int) ≤ (k : Int) := by omega
      have i3 : (k : Int) < (l.length : Int) := by omega
      generalize l.getD k 0 = x at c1 hstep hc
      generalize Ids.addAll [] ((l.take k).filter fun x => l2.contains x == false) = L at hown hL hstep
      have HS := Lib.hid hstep
      have hX := Lib.hid (H2.out.below hbr (Nat.le_refl _))
      have HC := Lib.hid hc
      have hlL : L.length ≤ 1000000000 := by omega
      clear hstep hc
      go_wp2_with fail
      refine (refHas _ _ _ _ hX.out).mono ?_
      rintro e w1 ⟨rfl, hb1⟩
      have hown' := hown.below hb1 (Nat.le_refl _)
      have hbr' := hbr.trans (hb1.mono hsz)
      have hsz' := hbr'.size
      have c2 : w1.cell? ⟨b, o + k, none⟩ = some (.int .i64 x) := (hbr'.cell q).trans HC.out
      have hf := HS.out
      clear hown hbr hb1 hX c1 HC HS hsz
      generalize l2.contains x = f at hf ⊢
      cases f
      · rw [if_pos (by rfl)] at hf
        have HS := Lib.hid hf
        have hI := Lib.hid hown'.ints
        clear hf hown'
        go_wp2_with fail
        refine (refInsert _ _ _ _ hI.out hlL).mono ?_
        rintro e w2 ⟨v', rfl, ho, hb⟩
        obtain ⟨ho', hb'⟩ := IntsRes.later ho hbr' hsz' hb
        clear ho hb hbr' hI c2
        go_wp2_with fail
        go_roundw
        case rel => exact ⟨k + 1, by omega, by go_num, by rw [HS.out]; exact ho', hb'⟩
        case measure => simp [intOf]; omega
      · rw [if_neg (by decide)] at hf
        have HS := Lib.hid hf
        clear hf c2
        go_wp2_with fail
        go_roundw
        case rel => exact ⟨k + 1, by omega, by go_num, by rw [HS.out]; exact hown', hbr'⟩
        case measure => simp [intOf]; omega
    · obtain rfl : k = l.length := by omega
      rw [List.take_length] at hown
      have HO := Lib.hid hown
      clear hown hL hL2
      go_wp2_with fail
      go_ret
      exact IntsRes.of (by rw [Ids.addAll_norm]; exact (Ids.chosen_norm l l2 false).symm) HO.out hbr
end Go.Proofs.Ytflbphmpohkkbaa
