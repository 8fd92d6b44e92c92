/-
  CONTRACTS OF LAYER 1 (num): Number, the program's and the reference's. By an AI agent.
-/
import Derived.Test.YtbobapnenadopaaDoorNumWalksB
import Derived.Lib.Strings
namespace Go.Proofs.YtbobapnenadopaaDoor
open Go.RowKit

theorem numClampIn {v : Int} (h0 : -1000000 ≤ v) (h1 : v ≤ 1000000) (w : World) :
    Calls Tryd.prog 10 #[.int .i64 v] w fun e w' => e = .returned (.int .i64 v) ∧ w = w' := by
  have h := numClamp v w
  rw [Num.clampI_in h0 h1] at h
  exact h
/-- the results of Number -/
def numRes (l : List UInt8) (e : Ending) : Prop := e = .returned (.tuple #[.int .i64 ((Num.numberL l).getD 0), .bool (Num.numberL l).isSome])
theorem numRes_none {l : List UInt8} (h : Num.numberL l = none) : numRes l (.returned (.tuple #[.int .i64 0, .bool false])) := by unfold numRes; rw [h]; rfl
theorem numRes_some {l : List UInt8} {n : Int} (h : Num.numberL l = some n) : numRes l (.returned (.tuple #[.int .i64 n, .bool true])) := by unfold numRes; rw [h]; rfl

theorem numClampOut {v : Int} (h : ¬ (-1000000 ≤ v ∧ v ≤ 1000000)) : ∃ c : Int, ¬ v = c ∧ ∀ w : World,
    Calls Tryd.prog 10 #[.int .i64 v] w fun e w' => e = .returned (.int .i64 c) ∧ w = w' :=
  ⟨Num.clampI v, fun e => h (by rw [e]; exact Num.clampI_bd v), fun w => numClamp v w⟩
theorem atoiBelow {w w1 : World} {t : TypeId} (hw : w1 = w ∨ ∃ s, w1 = Lib.bytesWorld w t s) : Below w.heap.size w w1 := by
  rcases hw with rfl | ⟨s, rfl⟩
  · exact Below.refl _ _
  · exact Lib.bytesWorld_below _ _ _
theorem bytes_list (s : ByteArray) : s.toList = s.data.toList := Lib.toList_data s
theorem eq_of_test {l : List UInt8} {s : ByteArray} (h : (!l == s.toList) = false) : l = s.data.toList := by
  rw [bytes_list] at h; simpa using h
theorem ne_of_test {l : List UInt8} {s : ByteArray} (h : (!l == s.toList) = true) : ¬ l = s.data.toList := by
  rw [bytes_list] at h; simpa using h

set_option maxRecDepth 100000 in
theorem numNumber (s : ByteArray) (hs : s.size ≤ 281474976710656) (w : World) (hE : Env w) :
    Calls Tryd.prog 22 #[.string s] w fun e w' => numRes s.data.toList e ∧ Below w.heap.size w w' := by
  rcases h : Lib.atoiAll s.data.toList with v | _ | _
  ·
    obtain ⟨v0, v1⟩ := Lib.atoiAll_bounds h
    have hA := Lib.hid (Tryd.strconv_Atoi_ok s (by omega) v h w)
    have HN := Lib.hid (Num.numberL_ok h)
    clear h
    by_cases hin : -1000000 ≤ v ∧ v ≤ 1000000
    · obtain ⟨i0, i1⟩ := hin
      go_enter Tryd.func22, Tryd.ntmps22
      go_wp2_with fail
      refine hA.out.mono ?_
      rintro e w1 ⟨rfl, hw⟩
      have hb1 : Below w.heap.size w w1 := atoiBelow hw
      clear hw
      go_wp2_with fail
      refine (numClampIn i0 i1 _).mono ?_
      rintro e w2 ⟨rfl, rfl⟩
      go_wp2_with fail
      refine (numText v v0 v1 _ (hE.below hb1)).mono ?_
      rintro e w2 ⟨rfl, hb2⟩
      go_wp2_with fail
      · have ht : (!Lib.itoa v == s.toList) = true := by assumption
        go_ret2
        exact ⟨numRes_none (by rw [HN.out, if_neg (fun h => ne_of_test ht h.2.2)]), hb1.trans (hb2.mono hb1.size)⟩
      · have ht := (by assumption : (!Lib.itoa v == s.toList) = false)
        go_wp2
        go_ret2
        exact ⟨numRes_some (by rw [HN.out, if_pos ⟨i0, i1, eq_of_test ht⟩]), hb1.trans (hb2.mono hb1.size)⟩
    · obtain ⟨c, hc, hcl⟩ := numClampOut hin
      go_enter Tryd.func22, Tryd.ntmps22
      go_wp2_with fail
      refine hA.out.mono ?_
      rintro e w1 ⟨rfl, hw⟩
      have hb1 : Below w.heap.size w w1 := atoiBelow hw
      clear hw
      go_wp2_with fail
      refine (hcl _).mono ?_
      rintro e w2 ⟨rfl, rfl⟩
      go_wp2_with fail
      go_ret2
      exact ⟨numRes_none (by rw [HN.out, if_neg (fun h => hin ⟨h.1, h.2.1⟩)]), hb1⟩
  ·
    obtain ⟨tp, p, hv⟩ := hE.syn
    have hA := Lib.hid (Tryd.strconv_Atoi_syntax_var s hs h tp p w hv)
    have HN := Lib.hid (Num.numberL_bad h)
    clear h hv
    go_enter Tryd.func22, Tryd.ntmps22
    go_wp2_with fail
    refine hA.out.mono ?_
    rintro e w1 ⟨N, rfl, -, -, hb⟩
    go_wp2
    go_ret2
    exact ⟨numRes_none HN.out, hb⟩
  ·
    obtain ⟨tp, p, hv⟩ := hE.rng
    have hA := Lib.hid (Tryd.strconv_Atoi_range_var s hs h tp p w hv)
    have HN := Lib.hid (Num.numberL_range h)
    clear h hv
    go_enter Tryd.func22, Tryd.ntmps22
    go_wp2_with fail
    refine hA.out.mono ?_
    rintro e w1 ⟨N, rfl, -, -, hb⟩
    go_wp2
    go_ret2
    exact ⟨numRes_none HN.out, hb⟩
theorem refClampIn {v : Int} (h0 : -1000000 ≤ v) (h1 : v ≤ 1000000) (w : World) :
    Calls Tryd.prog 11 #[.int .i64 v] w fun e w' => e = .returned (.int .i64 v) ∧ w = w' := by
  have h := refClamp v w
  rw [Num.clampI_in h0 h1] at h
  exact h
theorem refClampOut {v : Int} (h : ¬ (-1000000 ≤ v ∧ v ≤ 1000000)) : ∃ c : Int, ¬ c = v ∧ ∀ w : World,
    Calls Tryd.prog 11 #[.int .i64 v] w fun e w' => e = .returned (.int .i64 c) ∧ w = w' :=
  ⟨Num.clampI v, fun e => h (by rw [← e]; exact Num.clampI_bd v), fun w => refClamp v w⟩

set_option maxRecDepth 100000 in
theorem refNumber_short (s : ByteArray) (w : World) (hp : 0 < s.size) (h45 : ((s[0].toNat : Int) == 45) = true) (hl : s.size = 1 ∨ 8 < s.size) (_hs : s.size ≤ 281474976710656) :
    Calls Tryd.prog 23 #[.string s] w fun e w' => numRes s.data.toList e ∧ Below w.heap.size w w' := by
  have HN := Lib.hid (Num.number_neg_len hp h45 hl)
  have hl' : ((s.size : Int) == 1) = true ∨ 8 < (s.size : Int) := hl.imp (fun h => by rw [h]; rfl) (fun h => by omega)
  go_enter Tryd.func23, Tryd.ntmps23
  go_wp2
  all_goals (go_ret2; exact ⟨numRes_none HN.out, Below.refl _ _⟩)
set_option maxRecDepth 100000 in
theorem refNumber_neg (s : ByteArray) (w : World) (hp : 0 < s.size) (h45 : ((s[0].toNat : Int) == 45) = true) (_hl : ¬ (s.size : Int) = 1) (hl1 : ((s.size : Int) == 1) = false) (hl8 : (s.size : Int) ≤ 8) :
    Calls Tryd.prog 23 #[.string s] w fun e w' => numRes s.data.toList e ∧ Below w.heap.size w w' := by
  go_enter Tryd.func23, Tryd.ntmps23
  go_wp2
  go_loop [5, 6] (fun v i => ∃ k m : Nat, 1 ≤ k ∧ k ≤ s.size ∧ i = .int .i64 (k : Int) ∧ v = .int .i64 (m : Int) ∧ Num.Scan s 1 k m) (fun _ i => s.size - (intOf i).toNat)
  case atStart => exact ⟨1, 0, by omega, by omega, rfl, rfl, Num.scan_start s 1⟩
  case round =>
    obtain ⟨k, m, hk1, hk, rfl, rfl, hsc⟩ := hrel
    by_cases hlt : k < s.size
    · have hm := Num.scan_smaller hsc (by omega)
      have hb := (s[k]).toNat_lt
      by_cases hd : 48 ≤ s[k].toNat ∧ s[k].toNat ≤ 57
      · obtain ⟨hd0, hd1⟩ := hd
        go_wp2
        go_round
        case rel => exact ⟨k + 1, m * 10 + (s[k].toNat - 48), by omega, by omega, by go_num, by go_num, Num.scan_step hsc hlt hk1 hd0 hd1⟩
        case measure => simp [intOf]; omega
      · have HN := Lib.hid (Num.number_neg_digit hp h45 hlt hk1 (by omega))
        have hd' : (s[k].toNat : Int) < 48 ∨ 57 < (s[k].toNat : Int) := by omega
        clear hd
        rcases hd' with hd' | hd'
        all_goals
          go_wp2
          go_ret2
          exact ⟨numRes_none HN.out, Below.refl _ _⟩
    · have HK : Hid (k = s.size) := Lib.hid (by omega)
      have hk2 : (s.size : Int) ≤ k := by omega
      have hm := Num.scan_small hsc (by omega)
      have hsc' : Hid (Num.Scan s 1 s.size m) := by have h := HK.out; rw [h] at hsc; exact Lib.hid hsc
      by_cases hin : (m : Int) ≤ 1000000
      · go_wp2_with fail
        refine (refClampIn (by omega) (by omega) _).mono ?_
        rintro e w2 ⟨rfl, rfl⟩
        go_wp2_with fail
        refine (refText (-(m : Int)) (by omega) (by omega) _).mono ?_
        rintro e w2 ⟨rfl, hb2⟩
        go_wp2_with fail
        · have ht : (!Lib.itoa (-(m : Int)) == s.toList) = true := by assumption
          go_ret2
          exact ⟨numRes_none (Num.number_neg_out hp h45 hsc'.out (Or.inr (ne_of_test ht))), hb2⟩
        · have ht : (!Lib.itoa (-(m : Int)) == s.toList) = false := by assumption
          go_wp2
          go_ret2
          exact ⟨numRes_some (Num.numberL_some.2 ⟨by omega, by omega, eq_of_test ht⟩), hb2⟩
      · obtain ⟨c, hc, hcl⟩ := refClampOut (v := -(m : Int)) (by omega)
        go_wp2_with fail
        refine (hcl _).mono ?_
        rintro e w2 ⟨rfl, rfl⟩
        go_wp2_with fail
        go_ret2
        exact ⟨numRes_none (Num.number_neg_out hp h45 hsc'.out (Or.inl (by omega))), Below.refl _ _⟩
set_option maxRecDepth 100000 in
theorem refNumber_pos (s : ByteArray) (w : World) (hp : 0 < s.size) (h45 : ((s[0].toNat : Int) == 45) = false) (_hne : ¬ s = ByteArray.empty) (hl0 : ((s.size : Int) == 0) = false) (hl8 : (s.size : Int) ≤ 7) :
    Calls Tryd.prog 23 #[.string s] w fun e w' => numRes s.data.toList e ∧ Below w.heap.size w w' := by
  go_enter Tryd.func23, Tryd.ntmps23
  go_wp2
  go_loop [5, 6] (fun v i => ∃ k m : Nat, k ≤ s.size ∧ i = .int .i64 (k : Int) ∧ v = .int .i64 (m : Int) ∧ Num.Scan s 0 k m) (fun _ i => s.size - (intOf i).toNat)
  case atStart => exact ⟨0, 0, by omega, rfl, rfl, Num.scan_start s 0⟩
  case round =>
    obtain ⟨k, m, hk, rfl, rfl, hsc⟩ := hrel
    by_cases hlt : k < s.size
    · have hm := Num.scan_smaller hsc (by omega)
      have hb := (s[k]).toNat_lt
      by_cases hd : 48 ≤ s[k].toNat ∧ s[k].toNat ≤ 57
      · obtain ⟨hd0, hd1⟩ := hd
        go_wp2
        go_round
        case rel => exact ⟨k + 1, m * 10 + (s[k].toNat - 48), by omega, by go_num, by go_num, Num.scan_step hsc hlt (by omega) hd0 hd1⟩
        case measure => simp [intOf]; omega
      · have HN := Lib.hid (Num.number_pos_digit hp h45 hlt (by omega))
        have hd' : (s[k].toNat : Int) < 48 ∨ 57 < (s[k].toNat : Int) := by omega
        clear hd
        rcases hd' with hd' | hd'
        all_goals
          go_wp2
          go_ret2
          exact ⟨numRes_none HN.out, Below.refl _ _⟩
    · have HK : Hid (k = s.size) := Lib.hid (by omega)
      have hk2 : (s.size : Int) ≤ k := by omega
      have hm := Num.scan_small hsc (by omega)
      have hsc' : Hid (Num.Scan s 0 s.size m) := by have h := HK.out; rw [h] at hsc; exact Lib.hid hsc
      by_cases hin : (m : Int) ≤ 1000000
      · go_wp2_with fail
        refine (refClampIn (by omega) (by omega) _).mono ?_
        rintro e w2 ⟨rfl, rfl⟩
        go_wp2_with fail
        refine (refText (m : Int) (by omega) (by omega) _).mono ?_
        rintro e w2 ⟨rfl, hb2⟩
        go_wp2_with fail
        · have ht : (!Lib.itoa (m : Int) == s.toList) = true := by assumption
          go_ret2
          exact ⟨numRes_none (Num.number_pos_out hp h45 hsc'.out (Or.inr (ne_of_test ht))), hb2⟩
        · have ht : (!Lib.itoa (m : Int) == s.toList) = false := by assumption
          go_wp2
          go_ret2
          exact ⟨numRes_some (Num.numberL_some.2 ⟨by omega, by omega, eq_of_test ht⟩), hb2⟩
      · obtain ⟨c, hc, hcl⟩ := refClampOut (v := (m : Int)) (by omega)
        go_wp2_with fail
        refine (hcl _).mono ?_
        rintro e w2 ⟨rfl, rfl⟩
        go_wp2_with fail
        go_ret2
        exact ⟨numRes_none (Num.number_pos_out hp h45 hsc'.out (Or.inl (by omega))), Below.refl _ _⟩
set_option maxRecDepth 100000 in
theorem refNumber_long (s : ByteArray) (w : World) (hp : 0 < s.size) (h45 : ((s[0].toNat : Int) == 45) = false) (_hne : ¬ s = ByteArray.empty) (hl0 : ((s.size : Int) == 0) = false) (hl : (7 : Int) < (s.size : Int)) (_hs : s.size ≤ 281474976710656) :
    Calls Tryd.prog 23 #[.string s] w fun e w' => numRes s.data.toList e ∧ Below w.heap.size w w' := by
  have HN := Lib.hid (Num.number_pos_len hp h45 (by omega))
  go_enter Tryd.func23, Tryd.ntmps23
  go_wp2
  all_goals (go_ret2; exact ⟨numRes_none HN.out, Below.refl _ _⟩)
set_option maxRecDepth 100000 in
theorem refNumber_empty (w : World) :
    Calls Tryd.prog 23 #[.string ByteArray.empty] w fun e w' => numRes ByteArray.empty.data.toList e ∧ Below w.heap.size w w' := by
  have HN := Lib.hid (Num.number_empty ByteArray.empty rfl)
  go_enter Tryd.func23, Tryd.ntmps23
  go_wp2
  all_goals (go_ret2; exact ⟨numRes_none HN.out, Below.refl _ _⟩)
theorem refNumber (s : ByteArray) (hs : s.size ≤ 281474976710656) (w : World) :
    Calls Tryd.prog 23 #[.string s] w fun e w' => numRes s.data.toList e ∧ Below w.heap.size w w' := by
  rcases Nat.eq_zero_or_pos s.size with h | hp
  · obtain rfl : s = ByteArray.empty := by
      apply ByteArray.ext
      exact Array.eq_empty_of_size_eq_zero h
    exact refNumber_empty w
  · have hne : ¬ s = ByteArray.empty := by intro e; rw [e] at hp; exact absurd hp (by decide)
    cases h45 : ((s[0].toNat : Int) == 45) with
    | true =>
      by_cases hl : s.size = 1 ∨ 8 < s.size
      · exact refNumber_short s w hp h45 hl hs
      · exact refNumber_neg s w hp h45 (by omega) (by rw [beq_eq_false_iff_ne]; omega) (by omega)
    | false =>
      have h0 : ((s.size : Int) == 0) = false := by rw [beq_eq_false_iff_ne]; omega
      by_cases hl : (7 : Int) < (s.size : Int)
      · exact refNumber_long s w hp h45 hne h0 hl hs
      · exact refNumber_pos s w hp h45 hne h0 (by omega)
end Go.Proofs.YtbobapnenadopaaDoor
