/-
  CONTRACTS OF LAYER 2 (word) AND OF ITS REFERENCE: Sort. By an AI agent.
-/
import Derived.Test.YtioedokokmjldaaWordWalksF
import Derived.Sort.Walk0
namespace Go.Proofs.Ytioedokokmjldaa
open Go.RowKit
open Wd (Bs)

theorem OwnStrs.drewN {B : Nat} {w : World} {v : Value} {l : List Bs} (h : OwnStrs B w v l) (n : Nat) : OwnStrs B (w.drewN n) v l := h.below (below_drewN (Below.refl w.heap.size w) n) (Nat.le_refl _)
set_option maxRecDepth 100000 in
theorem wordSort (v : Value) (l : List Bs) (w : World) (hv : Strs w v l) (hn : l.length ≤ 1000000000) :
    Calls Try.prog 23 #[v] w (StrsRes (Wd.sorted l) w) := by
  rcases hv.shape with ⟨a, k, rfl, rfl⟩ | ⟨b, o, k, rfl, p, q, n1, m1, d⟩
  · have HS := Lib.hid Wd.sorted_nil
    cases a with
    | none =>
      go_enter Try.func23, Try.ntmps23
      go_wp2_with fail
      refine (Try.slices_Clone_string_nil _ _ _).mono ?_
      rintro e w1 ⟨rfl, rfl⟩
      go_wp2_with fail
      refine (Try.slices_Sort_string_none _ _ _).mono ?_
      rintro e w1 ⟨rfl, rfl⟩
      go_wp2_with fail
      refine (Try.slices_Compact_string_empty _ _ _).mono ?_
      rintro e w1 ⟨rfl, rfl⟩
      go_wp2_with fail
      go_ret
      exact ⟨_, rfl, by rw [HS.out]; exact OwnStrs.nil _ _, Below.refl _ _⟩
    | some a =>
      go_enter Try.func23, Try.ntmps23
      go_wp2_with fail
      refine (Try.slices_Clone_string_zero _ _ _).mono ?_
      rintro e w1 ⟨v', rfl, ho, -, hb⟩
      have ho' : OwnStrs w.heap.size w1 v' [] := ho
      obtain ⟨a', c', rfl⟩ : ∃ a' c', v' = .slice a' 0 c' := by
        rcases ho'.shape with ⟨rfl, _⟩ | ⟨g, cap, rfl, _⟩
        · exact ⟨_, _, rfl⟩
        · exact ⟨_, _, rfl⟩
      clear ho
      go_wp2_with fail
      refine (Try.slices_Sort_string_none _ _ _).mono ?_
      rintro e w2 ⟨rfl, rfl⟩
      go_wp2_with fail
      refine (Try.slices_Compact_string_empty _ _ _).mono ?_
      rintro e w2 ⟨rfl, rfl⟩
      go_wp2_with fail
      go_ret
      exact ⟨_, rfl, by rw [HS.out]; exact ho', hb⟩
  · unfold maxLen at m1
    have D := Lib.hid d
    clear d hv
    go_enter Try.func23, Try.ntmps23
    go_wp2_with fail
    refine (Try.slices_Clone_string b o l.length k (l.map ba) _ (by simp) (by omega) (fun j hj => ?_)).mono ?_
    · have hj' : j < l.length := by simpa using hj
      rw [ba_getD l j hj']
      exact D.out j l[j] (List.getElem?_eq_getElem hj')
    rintro e w1 ⟨v', rfl, ho, -, hb⟩
    have ho' : OwnStrs w.heap.size w1 v' l := by
      have e1 : ((l.map ba).take l.length).map Value.string = l.map str := by
        rw [List.take_of_length_le (by simp), List.map_map]; rfl
      rw [e1] at ho
      exact ho
    clear ho
    obtain ⟨g, cap, rfl, hBg, hgw, hlc, hcm, hH⟩ := ho'.holds p
    unfold maxLen at hcm
    have HH := Lib.hid hH
    have HO := Lib.hid ho'
    clear hH ho'
    go_wp2_with fail
    refine (Try.slices_Sort_string g 0 cap l w1 HH.out hgw (by omega)).mono ?_
    rintro e w2 ⟨rfl, n, os, hw2⟩
    have hperm : (l.mergeSort fun x y => decide (x ≤ y)).length = l.length := (List.mergeSort_perm l _).length_eq
    obtain ⟨ho2, hb2⟩ := HO.out.laid hb hBg hperm (Nat.le_refl _) hw2
    rw [List.take_of_length_le (by rw [hperm]; exact Nat.le_refl _)] at ho2
    clear hw2
    generalize hM : (l.mergeSort fun x y => decide (x ≤ y)) = M at *
    have ho2' : OwnStrs w.heap.size w2 (.slice (some ⟨g, 0, none⟩) M.length cap) M := by rw [hperm]; exact ho2
    obtain ⟨g', cap', e1, _, _, _, _, hH2⟩ := ho2'.holds (by rw [hperm]; exact p)
    injection e1 with e1 _ e2
    injection e1 with e1
    injection e1 with e1
    subst e1 e2
    have HH2 := Lib.hid hH2
    have HP := Lib.hid hperm
    have HM := Lib.hid hM
    have HO2 := Lib.hid ho2'
    have hc := Try.slices_Compact_string g 0 cap M w2 HH2.out (by omega) (by omega)
    rw [hperm] at hc
    have HC := Lib.hid hc
    clear hH2 hperm hM ho2' ho2 hc
    go_wp2_with fail
    refine HC.out.mono ?_
    rintro e w3 ⟨rfl, q3, hw3⟩
    have hcl := Lib.compact_length_le M
    have hln : (Lib.compact M ++ List.replicate (l.length - (Lib.compact M).length) []).length = M.length := by have h9 := HP.out; rw [List.length_append, List.length_replicate]; omega
    obtain ⟨ho3, hb3⟩ := HO2.out.laid (w' := w3) (os := #[]) hb2 hBg hln hcl (by rw [Go.Sort.grow_empty]; exact hw3)
    rw [List.take_left] at ho3
    have HO3 := Lib.hid ho3
    clear ho3 hw3 hln
    go_wp2_with fail
    go_ret
    exact ⟨_, rfl, by rw [Wd.sorted, HM.out]; exact HO3.out, hb3⟩
/-! ### the reference: an insertion -/
def LessTo (out : List Bs) (x : Bs) (k : Nat) : Prop := ∀ i y, i < k → out[i]? = some y → y < x
theorem LessTo.next {out : List Bs} {x y : Bs} {k : Nat} (h : LessTo out x k) (hk : out[k]? = some y) (hy : y < x) : LessTo out x (k + 1) := by
  intro i z hi hz
  by_cases e : i = k
  · subst e; rw [hk] at hz; injection hz with hz; subst hz; exact hy
  · exact h i z (by omega) hz
theorem takeWhile_at : ∀ {out : List Bs} {x : Bs} {k : Nat}, LessTo out x k → k ≤ out.length → (∀ y, out[k]? = some y → ¬ y < x) → out.takeWhile (decide <| · < x) = out.take k ∧ out.dropWhile (decide <| · < x) = out.drop k
  | [], x, k, _, hk, _ => by simp
  | y :: r, x, 0, _, _, h => by
    have : ¬ y < x := h y rfl
    simp [this]
  | y :: r, x, k + 1, h1, hk, h => by
    have hy : y < x := h1 0 y (by omega) rfl
    have ih := takeWhile_at (out := r) (x := x) (k := k) (fun i z hi hz => h1 (i + 1) z (by omega) (by simpa using hz)) (by simpa using hk) (fun z hz => h z (by simpa using hz))
    simp [hy, ih.1, ih.2]
/-- the row under way: what was copied, the element, what of the rest differs from it -/
def mid (out : List Bs) (k : Nat) (x : Bs) (j : Nat) : List Bs := out.take k ++ [x] ++ ((out.drop k).take (j - k)).filter (decide <| · ≠ x)
theorem mid_start (out : List Bs) (k : Nat) (x : Bs) : mid out k x k = out.take k ++ [x] := by simp [mid]
theorem mid_take {out : List Bs} {k j : Nat} {y : Bs} (hkj : k ≤ j) (hy : out[j]? = some y) : (out.drop k).take (j + 1 - k) = (out.drop k).take (j - k) ++ [y] := by
  have h : (out.drop k)[j - k]? = some y := by rw [List.getElem?_drop, show k + (j - k) = j by omega]; exact hy
  obtain ⟨h1, h2⟩ := List.getElem?_eq_some_iff.1 h
  rw [show j + 1 - k = (j - k) + 1 by omega, List.take_succ_eq_append_getElem h1, h2]
theorem mid_yes {out : List Bs} {k j : Nat} {x y : Bs} (hkj : k ≤ j) (hy : out[j]? = some y) (hne : y ≠ x) : mid out k x (j + 1) = mid out k x j ++ [y] := by
  unfold mid
  rw [mid_take hkj hy, List.filter_append]
  simp [hne]
theorem mid_no {out : List Bs} {k j : Nat} {x y : Bs} (hkj : k ≤ j) (hy : out[j]? = some y) (he : y = x) : mid out k x (j + 1) = mid out k x j := by
  unfold mid
  rw [mid_take hkj hy, List.filter_append]
  simp [he]
theorem mid_end {out : List Bs} {k : Nat} {x : Bs} (h : out.takeWhile (decide <| · < x) = out.take k ∧ out.dropWhile (decide <| · < x) = out.drop k) : mid out k x out.length = Wd.put out x := by
  have e : (out.drop k).take (out.length - k) = out.drop k := List.take_of_length_le (by simp)
  unfold mid Wd.put
  rw [h.1, h.2, e]
theorem mid_len (out : List Bs) (k : Nat) (x : Bs) (j : Nat) : (mid out k x j).length ≤ out.length + 1 := by
  unfold mid
  have h1 := List.length_filter_le (decide <| · ≠ x) ((out.drop k).take (j - k))
  have h2 := List.length_take_le' (j - k) (out.drop k)
  simp only [List.length_append, List.length_singleton, List.length_take, List.length_drop] at *
  omega
theorem putAll_len (l : List Bs) : ∀ i, (Wd.putAll l i).length ≤ i
  | 0 => Nat.le_refl _
  | i + 1 => by
    have ih := putAll_len l i
    have h := mid_len (Wd.putAll l i) ((Wd.putAll l i).takeWhile (decide <| · < l.getD i [])).length (l.getD i []) (Wd.putAll l i).length
    rw [mid_end] at h
    · show (Wd.put _ _).length ≤ _
      omega
    · generalize Wd.putAll l i = o
      have e := List.takeWhile_append_dropWhile (p := fun z : Bs => decide (z < l.getD i [])) (l := o)
      have h1 := List.take_left (l₁ := o.takeWhile fun z : Bs => decide (z < l.getD i [])) (l₂ := o.dropWhile fun z : Bs => decide (z < l.getD i []))
      have h2 := List.drop_left (l₁ := o.takeWhile fun z : Bs => decide (z < l.getD i [])) (l₂ := o.dropWhile fun z : Bs => decide (z < l.getD i []))
      rw [e] at h1 h2
      exact ⟨h1.symm, h2.symm⟩
theorem less_yes {a b : ByteArray} {x y : Bs} (ha : a.data.toList = x) (hb : b.data.toList = y) (h : x < y) : Op.bytesLess a.toList b.toList = true := by
  rw [Proofs.bytesLess_eq, Lib.toList_data, Lib.toList_data, ha, hb]; simpa using h
theorem less_no {a b : ByteArray} {x y : Bs} (ha : a.data.toList = x) (hb : b.data.toList = y) (h : ¬ x < y) : Op.bytesLess a.toList b.toList = false := by
  rw [Proofs.bytesLess_eq, Lib.toList_data, Lib.toList_data, ha, hb]; simpa using h
set_option maxHeartbeats 1000000 in
set_option maxRecDepth 100000 in
theorem refSort (v : Value) (l : List Bs) (w : World) (hv : Strs w v l) (hn : l.length ≤ 1000000000) :
    Calls Try.prog 24 #[v] w (StrsRes (Wd.sorted l) w) := by
  have hfin := Lib.hid (Wd.putAll_sorted l)
  obtain ⟨a, c, rfl, n1, m1, hcells⟩ := hv
  unfold maxLen at m1
  have HC := Lib.hid hcells
  clear hcells
  go_enter Try.func24, Try.ntmps24
  go_wp2_with fail
  go_loopw [3, 4] (fun p i wr => ∃ k : Nat, k ≤ l.length ∧ i = .int .i64 (k : Int) ∧ OwnStrs w.heap.size wr p (Wd.putAll l k) ∧ Below w.heap.size w wr) (fun _ i _ => l.length - (intOf i).toNat)
  case atStart => exact ⟨0, by omega, rfl, OwnStrs.nil _ _, Below.refl _ _⟩
  case round =>
    revert wr
    intro w0 hrel
    obtain ⟨i, hi, rfl, hown, hb⟩ := hrel
    have hol := putAll_len l i
    by_cases hlt : i < l.length
    · obtain ⟨x, hx⟩ : ∃ x, l[i]? = some x := ⟨l[i], by simp [hlt]⟩
      obtain ⟨sx, hsx, ex⟩ := exists_bytes x
      obtain ⟨b, o, rfl, hbw, hcell⟩ := HC.out i x hx
      have hput : Wd.putAll l (i + 1) = Wd.put (Wd.putAll l i) x := by
        show Wd.put _ (l.getD i []) = _
        rw [List.getD, hx, Option.getD_some]
      have HPUT := Lib.hid hput
      rw [ex] at hcell
      have HCX := Lib.hid hcell
      have HX := Lib.hid hsx
      have hsz := hb.size
      clear hput hcell hx hsx ex
      generalize hO : Wd.putAll l i = out at *
      have HOWN := Lib.hid hown
      obtain ⟨a2, c2, e2, n2, m2, hc2⟩ := hown.strs
      subst e2
      unfold maxLen at m2
      have HC2 := Lib.hid hc2
      clear hc2 hown hO
      go_wp2_with fail
      go_loopw [5, 6] (fun q m wq => ∃ j : Nat, j ≤ out.length ∧ m = .int .i64 (j : Int) ∧ OwnStrs w0.heap.size wq q (out.take j) ∧ LessTo out x j ∧ Below w0.heap.size w0 wq) (fun _ m _ => out.length - (intOf m).toNat)
      case atStart => exact ⟨0, by omega, rfl, OwnStrs.nil _ _, fun _ _ h => by omega, Below.refl _ _⟩
      case round =>
        revert wr
        intro wq hrel
        obtain ⟨j, hj, rfl, hq, hless, hbq⟩ := hrel
        have hszq := hbq.size
        by_cases hcont : ∃ y, out[j]? = some y ∧ y < x
        · obtain ⟨y, hy, hyx⟩ := hcont
          have hjl : j < out.length := (List.getElem?_eq_some_iff.1 hy).1
          obtain ⟨sy, hsy, ey⟩ := exists_bytes y
          obtain ⟨b2, o2, rfl, hb2, hcy⟩ := HC2.out j y hy
          rw [ey] at hcy
          have d1 : wq.cell? ⟨b2, o2 + j, none⟩ = some (.string sy) := (hbq.cell (p := ⟨b2, o2 + j, none⟩) hb2).trans hcy
          have d2 : wq.cell? ⟨b, o + i, none⟩ = some (.string sx) := (hbq.cell (p := ⟨b, o + i, none⟩) (Nat.lt_of_lt_of_le hbw hsz)).trans ((hb.cell (p := ⟨b, o + i, none⟩) hbw).trans HCX.out)
          have t1 := less_yes hsy HX.out hyx
          have HN := Lib.hid (hless.next hy hyx)
          have htk : out.take (j + 1) = out.take j ++ [sy.data.toList] := by
            obtain ⟨h1, h2⟩ := List.getElem?_eq_some_iff.1 hy
            rw [List.take_succ_eq_append_getElem h1, h2, hsy]
          have HTK := Lib.hid htk
          have htl : (out.take j).length ≤ 1000000000000 := by rw [List.length_take]; omega
          clear hy hyx hsy ey hcy htk
          go_wp2_with fail
          go_quiet (fail)
          go_wp2_with (at_builtin; refine wpList_push_str rfl _ _ rfl rfl (hq.drewN _) sy rfl htl hszq (below_drewN hbq _) ?_)
          intro v' w1 ho hb'
          clear hq hbq
          go_wp2_with fail
          go_roundw
          case rel => exact ⟨j + 1, by omega, by go_num, by rw [HTK.out]; exact ho, HN.out, hb'⟩
          case measure => simp [intOf]; omega
        · have hTW := Lib.hid (takeWhile_at hless hj (fun y hy h => hcont ⟨y, hy, h⟩))
          have d2 : wq.cell? ⟨b, o + i, none⟩ = some (.string sx) := (hbq.cell (p := ⟨b, o + i, none⟩) (Nat.lt_of_lt_of_le hbw hsz)).trans ((hb.cell (p := ⟨b, o + i, none⟩) hbw).trans HCX.out)
          have htl : (out.take j).length ≤ 1000000000000 := by rw [List.length_take]; omega
          have htest : (¬ j < out.length ∧ (out.length : Int) ≤ (j : Int) ∧ decide (j < out.length) = false) ∨ (j < out.length ∧ ∃ sy b2 o2, a2 = some ⟨b2, o2, none⟩ ∧ wq.cell? ⟨b2, o2 + j, none⟩ = some (.string sy) ∧ Op.bytesLess sy.toList sx.toList = false) := by
            by_cases hjl : j < out.length
            · have hy : out[j]? = some out[j] := List.getElem?_eq_getElem hjl
              obtain ⟨sy, hsy, ey⟩ := exists_bytes out[j]
              obtain ⟨b2, o2, e, hb2, hcy⟩ := HC2.out j _ hy
              rw [ey] at hcy
              exact .inr ⟨hjl, sy, b2, o2, e, (hbq.cell (p := ⟨b2, o2 + j, none⟩) hb2).trans hcy, less_no hsy HX.out fun h => hcont ⟨_, hy, h⟩⟩
            · exact .inl ⟨hjl, by omega, by simpa using hjl⟩
          clear hcont hless
          rcases htest with ⟨hjl, hjl', hjd⟩ | ⟨hjl, sy, b2, o2, rfl, d1, t1⟩
          all_goals
            go_wp2_with fail
            go_quiet (fail)
            go_wp2_with (at_builtin; refine wpList_push_str rfl _ _ rfl rfl (hq.drewN _) sx rfl htl hszq (below_drewN hbq _) ?_)
            intro v' w1 ho hb1
            rw [HX.out, ← mid_start] at ho
            clear hq hbq d2
            try clear d1 t1
            go_wp2_with fail
            go_loopw [5, 6] (fun q m wz => ∃ j2 : Nat, j ≤ j2 ∧ j2 ≤ out.length ∧ m = .int .i64 (j2 : Int) ∧ OwnStrs w0.heap.size wz q (mid out j x j2) ∧ Below w0.heap.size w0 wz) (fun _ m _ => out.length - (intOf m).toNat)
            case atStart => exact ⟨j, Nat.le_refl _, hj, rfl, ho, hb1⟩
            case round =>
              clear ho hb1
              revert wr
              intro wz hrel
              obtain ⟨j2, hjj, hj2, rfl, hq, hbq⟩ := hrel
              have hszz := hbq.size
              have hml := mid_len out j x j2
              by_cases hjl2 : j2 < out.length
              · first
                | (exfalso; omega)
                | (
                    have hy : out[j2]? = some out[j2] := List.getElem?_eq_getElem hjl2
                    generalize hY : out[j2] = y at hy
                    clear hY
                    obtain ⟨sy2, hsy, ey⟩ := exists_bytes y
                    obtain ⟨b3, o3, e3, hb3, hcy⟩ := HC2.out j2 y hy
                    first
                      | subst e3
                      | (injection e3 with e3; injection e3 with e4 e5; subst e4 e5)
                    rw [ey] at hcy
                    have d1 : wz.cell? ⟨_, _ + j2, none⟩ = some (.string sy2) := (hbq.cell (p := ⟨_, _ + j2, none⟩) hb3).trans hcy
                    have d2 : wz.cell? ⟨b, o + i, none⟩ = some (.string sx) := (hbq.cell (p := ⟨b, o + i, none⟩) (Nat.lt_of_lt_of_le hbw hsz)).trans ((hb.cell (p := ⟨b, o + i, none⟩) hbw).trans HCX.out)
                    by_cases hyx : y = x
                    · have t1 : (sy2.toList == sx.toList) = true := bytes_eq (by rw [hsy, HX.out, hyx])
                      have HN := Lib.hid (mid_no hjj hy hyx)
                      clear hy hyx hsy ey hcy
                      go_wp2_with fail
                      go_quiet (fail)
                      go_wp2_with fail
                      go_roundw
                      case rel => exact ⟨j2 + 1, by omega, by omega, by go_num, by rw [HN.out]; exact hq.drewN _, below_drewN hbq _⟩
                      case measure => simp [intOf]; omega
                    · have t1 : (sy2.toList == sx.toList) = false := bytes_ne (by rw [hsy, HX.out]; exact hyx)
                      have HN := Lib.hid (mid_yes hjj hy hyx)
                      have HY := Lib.hid hsy
                      clear hy hyx hsy ey hcy
                      go_wp2_with fail
                      go_quiet (fail)
                      go_wp2_with (at_builtin; refine wpList_push_str rfl _ _ rfl rfl (hq.drewN _) sy2 rfl (by omega) hszz (below_drewN hbq _) ?_)
                      intro v3 w3 ho3 hb3'
                      clear hq hbq
                      go_wp2_with fail
                      go_roundw
                      case rel => exact ⟨j2 + 1, by omega, by omega, by go_num, by rw [HN.out, ← HY.out]; exact ho3, hb3'⟩
                      case measure => simp [intOf]; omega)
              · obtain rfl : j2 = out.length := by omega
                have hend := mid_end hTW.out
                have hq' := hq.mono hsz
                rw [hend, ← HPUT.out] at hq'
                have HQ := Lib.hid hq'
                clear hend hq hq'
                go_wp2_with fail
                go_roundw
                case rel => exact ⟨i + 1, by omega, by go_num, HQ.out, hb.trans (hbq.mono hsz)⟩
                case measure => simp [intOf]; omega
    · obtain rfl : i = l.length := by omega
      have hown' := hown
      rw [hfin.out] at hown'
      have HOWN := Lib.hid hown'
      clear hown hown'
      go_wp2_with fail
      go_ret
      exact ⟨_, rfl, HOWN.out, hb⟩
end Go.Proofs.Ytioedokokmjldaa
