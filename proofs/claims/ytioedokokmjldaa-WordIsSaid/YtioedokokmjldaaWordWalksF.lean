/-
  CONTRACTS OF LAYER 2 (word) AND OF ITS REFERENCE: Index, Join. By an AI agent.
-/
import Derived.Test.YtioedokokmjldaaWordWalksE
namespace Go.Proofs.Ytioedokokmjldaa
open Go.RowKit
open Wd (Bs)

theorem ba_getD (l : List Bs) (j : Nat) (h : j < l.length) : (l.map ba).getD j ByteArray.empty = ba l[j] := by simp [List.getD, h]
theorem ba_lists (l : List Bs) : (l.map ba).map (·.data.toList) = l := by
  rw [List.map_map]
  conv => rhs; rw [← List.map_id l]
  apply List.map_congr_left
  intro x _
  rfl
set_option maxRecDepth 100000 in
theorem wordIndex (v : Value) (l : List Bs) (s : ByteArray) (w : World) (hv : Strs w v l) :
    Calls Try.prog 25 #[v, .string s] w fun e w' => e = .returned (.int .i64 (idx l s.data.toList)) ∧ w = w' := by
  rcases hv.shape with ⟨b, k, rfl, rfl⟩ | ⟨b, o, k, rfl, p, q, n1, m1, d⟩
  · go_enter Try.func25, Try.ntmps25
    go_wp2_with fail
    refine (Try.slices_Index_string_empty _ _ _ _).mono ?_
    rintro e w1 ⟨rfl, rfl⟩
    go_wp2_with fail
    go_ret
    exact ⟨rfl, rfl⟩
  · unfold maxLen at m1
    have D := Lib.hid d
    clear d hv
    go_enter Try.func25, Try.ntmps25
    go_wp2_with fail
    refine (Try.slices_Index_string b o l.length k (l.map ba) s _ (by simp) (by omega) (fun j hj => ?_)).mono ?_
    · have hj' : j < l.length := by simpa using hj
      rw [ba_getD l j hj']
      exact D.out j l[j] (List.getElem?_eq_getElem hj')
    rintro e w1 ⟨rfl, rfl⟩
    go_wp2_with fail
    go_ret
    exact ⟨ret_int (by rw [List.take_of_length_le (by simp)]; rfl), rfl⟩
def JoinRes (l : List Bs) (c : Bs) (w : World) (e : Ending) (w' : World) : Prop := e = .returned (str (Lib.join l c)) ∧ Below w.heap.size w w'
set_option maxRecDepth 100000 in
theorem wordJoin (v : Value) (l : List Bs) (s : ByteArray) (w : World) (hv : Strs w v l) (hn : l.length ≤ 140737488355328) (hj : (Lib.join l s.data.toList).length ≤ 140737488355328) :
    Calls Try.prog 21 #[v, .string s] w (JoinRes l s.data.toList w) := by
  rcases hv.shape with ⟨b, k, rfl, rfl⟩ | ⟨b, o, k, rfl, p, q, n1, m1, d⟩
  · go_enter Try.func21, Try.ntmps21
    go_wp2_with fail
    refine (Try.strings_Join_none _ _ _ _).mono ?_
    rintro e w1 ⟨rfl, rfl⟩
    go_wp2_with fail
    go_ret
    exact ⟨rfl, Below.refl _ _⟩
  · unfold maxLen at m1
    have D := Lib.hid d
    clear d hv
    have hb : (l.map ba).map (·.data.toList) = l := ba_lists l
    have hlen : (l.map ba).length = l.length := by simp
    have hc := Try.strings_Join b o k (l.map ba) s w (fun j x hx => by
      obtain ⟨hj', rfl⟩ := List.getElem?_eq_some_iff.1 hx
      rw [List.getElem_map]
      exact D.out j _ (List.getElem?_eq_getElem (by simpa using hj'))) q (by rw [hlen]; exact hn) (by rw [hlen]; exact n1) (by rw [hb]; exact hj)
    rw [hb, hlen] at hc
    have HC : Hid (Calls Try.prog 35 #[.slice (some ⟨b, o, none⟩) l.length k, .string s] w fun e w' => e = .returned (.string ⟨(Lib.join l s.data.toList).toArray⟩) ∧ Below w.heap.size w w') := Lib.hid hc
    clear hc hb hlen hn hj
    go_enter Try.func21, Try.ntmps21
    go_wp2_with fail
    refine HC.out.mono ?_
    rintro e w1 ⟨rfl, hb⟩
    go_wp2_with fail
    go_ret
    exact ⟨rfl, hb⟩
theorem join_take_succ {l : List Bs} {c x : Bs} {k : Nat} (hx : l[k]? = some x) : Lib.join (l.take (k + 1)) c = if k = 0 then x else Lib.join (l.take k) c ++ c ++ x := by
  obtain ⟨h1, rfl⟩ := List.getElem?_eq_some_iff.1 hx
  rw [List.take_succ_eq_append_getElem h1]
  by_cases h0 : k = 0
  · subst h0; simp [Lib.join_one]
  · rw [if_neg h0, Wd.join_snoc _ _ _ (List.ne_nil_of_length_pos (by rw [List.length_take]; omega))]
    simp
theorem join_take_le (l : List Bs) (c : Bs) (k : Nat) : (Lib.join (l.take k) c).length ≤ (Lib.join l c).length := by
  by_cases hk : k < l.length
  · have h1 := join_take_le l c (k + 1)
    have h2 := join_take_succ (c := c) (List.getElem?_eq_getElem hk)
    by_cases h0 : k = 0
    · subst h0; simp [Lib.join]
    · rw [if_neg h0] at h2
      have h3 := congrArg List.length h2
      simp at h3
      omega
  · rw [List.take_of_length_le (by omega)]
    exact Nat.le_refl _
termination_by l.length - k
theorem bytes_cat (a b : ByteArray) : (a ++ b).data.toList = a.data.toList ++ b.data.toList := by simp
set_option maxHeartbeats 400000 in
set_option maxRecDepth 100000 in
theorem refJoin (v : Value) (l : List Bs) (s : ByteArray) (w : World) (hv : Strs w v l) (hj : (Lib.join l s.data.toList).length ≤ 140737488355328) :
    Calls Try.prog 22 #[v, .string s] w fun e w' => e = .returned (str (Lib.join l s.data.toList)) ∧ w = w' := by
  rcases hv.shape with ⟨b, k, rfl, rfl⟩ | ⟨b, o, k, rfl, p, q, n1, m1, d⟩
  · clear hj
    go_enter Try.func22, Try.ntmps22
    go_wp2
    refine wp_loop_rounds 1 ?_
    rw [rounds_succ]
    go_wp2
    go_ret
    exact ⟨rfl, rfl⟩
  · unfold maxLen at m1
    have D := Lib.hid d
    clear d hv
    go_enter Try.func22, Try.ntmps22
    go_wp2
    go_loop [5, 6] (fun t i => ∃ (k : Nat) (r : ByteArray), k ≤ l.length ∧ i = .int .i64 (k : Int) ∧ t = .string r ∧ r.data.toList = Lib.join (l.take k) s.data.toList) (fun _ i => l.length - (intOf i).toNat)
    case atStart => exact ⟨0, ⟨#[]⟩, by omega, rfl, rfl, rfl⟩
    case round =>
      obtain ⟨j, r, hjl, rfl, rfl, hr⟩ := hrel
      by_cases hlt : j < l.length
      · obtain ⟨x, hx⟩ : ∃ x, l[j]? = some x := ⟨l[j], by simp [hlt]⟩
        obtain ⟨sx, hsx, ex⟩ := exists_bytes x
        have d1 : w.cell? ⟨b, o + j, none⟩ = some (.string sx) := (D.out j x hx).trans (congrArg some ex)
        have hs1 := join_take_succ (c := s.data.toList) hx
        have hle := join_take_le l s.data.toList (j + 1)
        have HR := Lib.hid hr
        have HX := Lib.hid hsx
        have HS := Lib.hid hs1
        by_cases h0 : j = 0
        · have h0' : (j : Int) ≤ 0 := by omega
          have hr0 : r = ByteArray.empty := by
            subst h0
            have : r.data.toList = [] := hr
            cases r with | mk d => cases d with | mk l => simp at this; subst this; rfl
          have hcat : (r ++ sx).data.toList = Lib.join (l.take (j + 1)) s.data.toList := by rw [HS.out, if_pos h0, bytes_cat, hr0, HX.out]; rfl
          have HCAT := Lib.hid hcat
          have H0 := Lib.hid h0
          have HR0 := Lib.hid hr0
          have hsz : r.size + sx.size ≤ 140737488355328 := by
            have h5 := congrArg List.length hcat
            rw [bytes_cat] at h5
            simp at h5
            omega
          clear hx hsx ex hs1 hr h0 hr0 hcat
          go_wp2
          go_round
          case rel => exact ⟨j + 1, _, by omega, by go_num, rfl, HCAT.out⟩
          case measure => simp [intOf]; omega
        · have h0' : 0 < (j : Int) := by omega
          have hcat : (r ++ s ++ sx).data.toList = Lib.join (l.take (j + 1)) s.data.toList := by rw [HS.out, if_neg h0, bytes_cat, bytes_cat, hr, HX.out]
          have HCAT := Lib.hid hcat
          have hsz : r.size + s.size + sx.size ≤ 140737488355328 := by
            have h5 := congrArg List.length hcat
            rw [bytes_cat, bytes_cat] at h5
            simp at h5
            omega
          clear hx hsx ex hs1 hr hcat
          go_wp2
          go_round
          case rel => exact ⟨j + 1, _, by omega, by go_num, rfl, HCAT.out⟩
          case measure => simp [intOf]; omega
      · obtain rfl : j = l.length := by omega
        rw [List.take_length] at hr
        have HR := Lib.hid hr
        clear hr
        go_wp2
        go_ret
        exact ⟨congrArg Ending.returned (by rw [← HR.out]; rfl), rfl⟩
end Go.Proofs.Ytioedokokmjldaa
