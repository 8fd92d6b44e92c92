/-
  CONTRACTS OF LAYER 1's REFERENCE that layer 13 reaches: Text, Number. By an AI agent.
-/
import Derived.Test.YtkohfomiigcifaaGreatDoorFNum
namespace Go.Proofs.YtkohfomiigcifaaGreatDoor
open Go.RowKit
open Wd (Bs)

set_option maxRecDepth 100000 in
theorem refClamp (n : Int) (w : World) :
    Calls Tryz.prog 135 #[.int .i64 n] w fun e w' => e = .returned (.int .i64 (Num.clampI n)) ∧ w = w' := by
  rcases (show 1000000 < n ∨ n < -1000000 ∨ (-1000000 ≤ n ∧ n ≤ 1000000) by omega) with h | h | ⟨h, h'⟩
  · rw [Num.clampI_hi h]
    go_enter Tryz.func135, Tryz.ntmps135
    go_wp2
    all_goals (go_ret; exact ⟨rfl, rfl⟩)
  · rw [Num.clampI_lo h]
    go_enter Tryz.func135, Tryz.ntmps135
    go_wp2
    all_goals (go_ret; exact ⟨rfl, rfl⟩)
  · rw [Num.clampI_in h h']
    go_enter Tryz.func135, Tryz.ntmps135
    go_wp2
    all_goals (go_ret; exact ⟨ret_int (by omega), rfl⟩)


/-- 'string([]byte{x})': the one byte, out of the block that the literal has just laid. -/
theorem run_string_one (x : Nat) (v : Int) (hv : v = x) (hx : x < 256) (c : UInt8) (hc : c = UInt8.ofNat x) (W : World) :
    (convert 92 9 (.slice (some ⟨W.heap.size, 0, none⟩) 1 1)).run Tryz.prog (W.alloc (.cells #[.int .u8 v] 5)) = .ok (.string ⟨#[c]⟩) (W.alloc (.cells #[.int .u8 v] 5)) := by
  subst hv hc
  have h := run_convert_bytes_back (P := Tryz.prog) (W.alloc (.cells #[.int .u8 (x : Int)] 5)) 92 9 5 ⟨W.heap.size, 0, none⟩ 1 [UInt8.ofNat x] Tryz.underlying92 Tryz.underlying5 Tryz.underlying9 (fun j hj => by
    obtain rfl : j = 0 := by simpa using hj
    show (W.alloc _).cell? ⟨W.heap.size, 0, none⟩ = _
    rw [World.cell?_alloc_mark]
    simp
    omega)
  simpa using h

theorem str_cat (a b : List UInt8) : (ByteArray.mk a.toArray) ++ (ByteArray.mk b.toArray) = ByteArray.mk (a ++ b).toArray := by
  apply ByteArray.ext
  show (ByteArray.append _ _).data = _
  simp
set_option maxRecDepth 100000 in
theorem refDigits (u : Nat) (hu : u < 18446744073709551616) (w : World) :
    Calls Tryz.prog 98 #[.int .u64 u] w fun e w' => e = .returned (.string ⟨(Lib.decDigits u).toArray⟩) ∧ Below w.heap.size w w' := by
  have HU : Hid (u < 18446744073709551616) := Lib.hid hu
  have hu' : (u : Int) ≤ 18446744073709551615 := by omega
  clear hu
  have hone := fun W => run_string_one (48 + u % 10) (48 + (u : Int) % 10) (by omega) (by omega) (Num.dig u) rfl W
  go_enter Tryz.func98, Tryz.ntmps98
  go_wp2
  clear hone
  go_loopw [0, 3] (fun v s wr => ∃ k : Nat, v = .int .u64 (k : Int) ∧ (k : Int) ≤ 18446744073709551615 ∧ ∃ l : List UInt8, s = .string ⟨l.toArray⟩ ∧ Num.DigRel u k l ∧ Below w.heap.size w wr) (fun v _ _ => (intOf v).toNat)
  case atStart => exact ⟨u / 10, by go_num, by omega, _, rfl, Num.digRel_start u, by go_grown⟩
  case round =>
    obtain ⟨k, rfl, hk, l, rfl, hrel, hb⟩ := hrel
    rcases Nat.eq_zero_or_pos k with h0 | h0
    · subst h0
      go_wp2
      go_ret
      exact ⟨ret_str (Num.digRel_end hrel), hb⟩
    · have hone := fun W => run_string_one (48 + k % 10) (48 + (k : Int) % 10) (by omega) (by omega) (Num.dig k) rfl W
      have hlen := Num.digRel_len hrel HU.out
      have hsz := hb.size
      go_wp2
      go_roundw
      case rel => exact ⟨k / 10, by go_num, by omega, [Num.dig k] ++ l, congrArg Value.string (str_cat [Num.dig k] l), Num.digRel_step hrel h0, by go_grown⟩
      case measure => simp [intOf]; omega
set_option maxRecDepth 100000 in
theorem refText (n : Int) (h0 : -9223372036854775808 ≤ n) (h1 : n ≤ 9223372036854775807) (w : World) :
    Calls Tryz.prog 66 #[.int .i64 n] w fun e w' => e = .returned (.string ⟨(Lib.itoa n).toArray⟩) ∧ Below w.heap.size w w' := by
  rcases Int.lt_or_le n 0 with hn | hn
  · obtain ⟨u, hu⟩ : ∃ u : Nat, n = -(u : Int) := ⟨(-n).toNat, by omega⟩
    have E : Hid (Lib.itoa n = [45] ++ Lib.decDigits u) := by rw [Num.itoa_neg hn, show (-n).toNat = u by omega]; exact rfl
    have hlen := Num.decDigits_len 19 u (by omega)
    have h2 : IntKind.u64.wrap n = 18446744073709551616 - u := by rw [IntKind.wrap_u64]; omega
    have h3 : IntKind.u64.wrap (-(18446744073709551616 - (u : Int))) = u := by rw [IntKind.wrap_u64]; omega
    have hd := Lib.hid (refDigits u (by omega))
    clear hu
    go_enter Tryz.func66, Tryz.ntmps66
    go_wp2_with fail
    refine (hd.out _).mono ?_
    rintro e w1 ⟨rfl, hb⟩
    go_wp2
    go_ret
    exact ⟨by rw [E.out]; exact congrArg (fun s => Ending.returned (Value.string s)) (str_cat [45] (Lib.decDigits u)), hb⟩
  · obtain ⟨u, rfl⟩ : ∃ u : Nat, n = (u : Int) := ⟨n.toNat, by omega⟩
    have E : Hid (Lib.itoa (u : Int) = Lib.decDigits u) := by rw [Num.itoa_nonneg hn]; exact rfl
    have h2 : IntKind.u64.wrap (u : Int) = u := by rw [IntKind.wrap_u64]; omega
    have hd := Lib.hid (refDigits u (by omega))
    go_enter Tryz.func66, Tryz.ntmps66
    go_wp2_with fail
    refine (hd.out _).mono ?_
    rintro e w1 ⟨rfl, hb⟩
    go_wp2
    go_ret
    exact ⟨ret_str E.out.symm, hb⟩

theorem refClampIn {v : Int} (h0 : -1000000 ≤ v) (h1 : v ≤ 1000000) (w : World) :
    Calls Tryz.prog 135 #[.int .i64 v] w fun e w' => e = .returned (.int .i64 v) ∧ w = w' := by
  have h := refClamp v w
  rw [Num.clampI_in h0 h1] at h
  exact h
theorem refClampOut {v : Int} (h : ¬ (-1000000 ≤ v ∧ v ≤ 1000000)) : ∃ c : Int, ¬ c = v ∧ ∀ w : World,
    Calls Tryz.prog 135 #[.int .i64 v] w fun e w' => e = .returned (.int .i64 c) ∧ w = w' :=
  ⟨Num.clampI v, fun e => h (by rw [← e]; exact Num.clampI_bd v), fun w => refClamp v w⟩

set_option maxRecDepth 100000 in
theorem refNumber_short (s : ByteArray) (w : World) (hp : 0 < s.size) (h45 : ((s[0].toNat : Int) == 45) = true) (hl : s.size = 1 ∨ 8 < s.size) (_hs : s.size ≤ 281474976710656) :
    Calls Tryz.prog 112 #[.string s] w fun e w' => numRes s.data.toList e ∧ Below w.heap.size w w' := by
  have HN := Lib.hid (Num.number_neg_len hp h45 hl)
  have hl' : ((s.size : Int) == 1) = true ∨ 8 < (s.size : Int) := hl.imp (fun h => by rw [h]; rfl) (fun h => by omega)
  go_enter Tryz.func112, Tryz.ntmps112
  go_wp2
  all_goals (go_ret2; exact ⟨numRes_none HN.out, Below.refl _ _⟩)
set_option maxRecDepth 100000 in
theorem refNumber_neg (s : ByteArray) (w : World) (hp : 0 < s.size) (h45 : ((s[0].toNat : Int) == 45) = true) (_hl : ¬ (s.size : Int) = 1) (hl1 : ((s.size : Int) == 1) = false) (hl8 : (s.size : Int) ≤ 8) :
    Calls Tryz.prog 112 #[.string s] w fun e w' => numRes s.data.toList e ∧ Below w.heap.size w w' := by
  go_enter Tryz.func112, Tryz.ntmps112
  go_wp2
  go_loop [5, 6] (fun v i => ∃ k m : Nat, 1 ≤ k ∧ k ≤ s.size ∧ i = .int .i64 (k : Int) ∧ v = .int .i64 (m : Int) ∧ Num.Scan s 1 k m) (fun _ i => s.size - (intOf i).toNat)
  case atStart => exact ⟨1, 0, by omega, by omega, rfl, rfl, Num.scan_start s 1⟩
  case round =>
    obtain ⟨k, m, hk1, hk, rfl, rfl, hsc⟩ := hrel
    by_cases hlt : k < s.size
    · have hm := Num.scan_smaller hsc (by omega)
      have hb := (s[k]).toNat_lt
      by_cases hd : 48 ≤ s[k].toNat ∧ s[k].toNat ≤ 57
      · obtain ⟨hd0, hd1⟩ := hd
        go_wp2
        go_round
        case rel => exact ⟨k + 1, m * 10 + (s[k].toNat - 48), by omega, by omega, by go_num, by go_num, Num.scan_step hsc hlt hk1 hd0 hd1⟩
        case measure => simp [intOf]; omega
      · have HN := Lib.hid (Num.number_neg_digit hp h45 hlt hk1 (by omega))
        have hd' : (s[k].toNat : Int) < 48 ∨ 57 < (s[k].toNat : Int) := by omega
        clear hd
        rcases hd' with hd' | hd'
        all_goals
          go_wp2
          go_ret2
          exact ⟨numRes_none HN.out, Below.refl _ _⟩
    · have HK : Hid (k = s.size) := Lib.hid (by omega)
      have hk2 : (s.size : Int) ≤ k := by omega
      have hm := Num.scan_small hsc (by omega)
      have hsc' : Hid (Num.Scan s 1 s.size m) := by have h := HK.out; rw [h] at hsc; exact Lib.hid hsc
      by_cases hin : (m : Int) ≤ 1000000
      · go_wp2_with fail
        refine (refClampIn (by omega) (by omega) _).mono ?_
        rintro e w2 ⟨rfl, rfl⟩
        go_wp2_with fail
        refine (refText (-(m : Int)) (by omega) (by omega) _).mono ?_
        rintro e w2 ⟨rfl, hb2⟩
        go_wp2_with fail
        · have ht : (!Lib.itoa (-(m : Int)) == s.toList) = true := by assumption
          go_ret2
          exact ⟨numRes_none (Num.number_neg_out hp h45 hsc'.out (Or.inr (ne_of_test ht))), hb2⟩
        · have ht : (!Lib.itoa (-(m : Int)) == s.toList) = false := by assumption
          go_wp2
          go_ret2
          exact ⟨numRes_some (Num.numberL_some.2 ⟨by omega, by omega, eq_of_test ht⟩), hb2⟩
      · obtain ⟨c, hc, hcl⟩ := refClampOut (v := -(m : Int)) (by omega)
        go_wp2_with fail
        refine (hcl _).mono ?_
        rintro e w2 ⟨rfl, rfl⟩
        go_wp2_with fail
        go_ret2
        exact ⟨numRes_none (Num.number_neg_out hp h45 hsc'.out (Or.inl (by omega))), Below.refl _ _⟩
set_option maxRecDepth 100000 in
theorem refNumber_pos (s : ByteArray) (w : World) (hp : 0 < s.size) (h45 : ((s[0].toNat : Int) == 45) = false) (_hne : ¬ s = ByteArray.empty) (hl0 : ((s.size : Int) == 0) = false) (hl8 : (s.size : Int) ≤ 7) :
    Calls Tryz.prog 112 #[.string s] w fun e w' => numRes s.data.toList e ∧ Below w.heap.size w w' := by
  go_enter Tryz.func112, Tryz.ntmps112
  go_wp2
  go_loop [5, 6] (fun v i => ∃ k m : Nat, k ≤ s.size ∧ i = .int .i64 (k : Int) ∧ v = .int .i64 (m : Int) ∧ Num.Scan s 0 k m) (fun _ i => s.size - (intOf i).toNat)
  case atStart => exact ⟨0, 0, by omega, rfl, rfl, Num.scan_start s 0⟩
  case round =>
    obtain ⟨k, m, hk, rfl, rfl, hsc⟩ := hrel
    by_cases hlt : k < s.size
    · have hm := Num.scan_smaller hsc (by omega)
      have hb := (s[k]).toNat_lt
      by_cases hd : 48 ≤ s[k].toNat ∧ s[k].toNat ≤ 57
      · obtain ⟨hd0, hd1⟩ := hd
        go_wp2
        go_round
        case rel => exact ⟨k + 1, m * 10 + (s[k].toNat - 48), by omega, by go_num, by go_num, Num.scan_step hsc hlt (by omega) hd0 hd1⟩
        case measure => simp [intOf]; omega
      · have HN := Lib.hid (Num.number_pos_digit hp h45 hlt (by omega))
        have hd' : (s[k].toNat : Int) < 48 ∨ 57 < (s[k].toNat : Int) := by omega
        clear hd
        rcases hd' with hd' | hd'
        all_goals
          go_wp2
          go_ret2
          exact ⟨numRes_none HN.out, Below.refl _ _⟩
    · have HK : Hid (k = s.size) := Lib.hid (by omega)
      have hk2 : (s.size : Int) ≤ k := by omega
      have hm := Num.scan_small hsc (by omega)
      have hsc' : Hid (Num.Scan s 0 s.size m) := by have h := HK.out; rw [h] at hsc; exact Lib.hid hsc
      by_cases hin : (m : Int) ≤ 1000000
      · go_wp2_with fail
        refine (refClampIn (by omega) (by omega) _).mono ?_
        rintro e w2 ⟨rfl, rfl⟩
        go_wp2_with fail
        refine (refText (m : Int) (by omega) (by omega) _).mono ?_
        rintro e w2 ⟨rfl, hb2⟩
        go_wp2_with fail
        · have ht : (!Lib.itoa (m : Int) == s.toList) = true := by assumption
          go_ret2
          exact ⟨numRes_none (Num.number_pos_out hp h45 hsc'.out (Or.inr (ne_of_test ht))), hb2⟩
        · have ht : (!Lib.itoa (m : Int) == s.toList) = false := by assumption
          go_wp2
          go_ret2
          exact ⟨numRes_some (Num.numberL_some.2 ⟨by omega, by omega, eq_of_test ht⟩), hb2⟩
      · obtain ⟨c, hc, hcl⟩ := refClampOut (v := (m : Int)) (by omega)
        go_wp2_with fail
        refine (hcl _).mono ?_
        rintro e w2 ⟨rfl, rfl⟩
        go_wp2_with fail
        go_ret2
        exact ⟨numRes_none (Num.number_pos_out hp h45 hsc'.out (Or.inl (by omega))), Below.refl _ _⟩
set_option maxRecDepth 100000 in
theorem refNumber_long (s : ByteArray) (w : World) (hp : 0 < s.size) (h45 : ((s[0].toNat : Int) == 45) = false) (_hne : ¬ s = ByteArray.empty) (hl0 : ((s.size : Int) == 0) = false) (hl : (7 : Int) < (s.size : Int)) (_hs : s.size ≤ 281474976710656) :
    Calls Tryz.prog 112 #[.string s] w fun e w' => numRes s.data.toList e ∧ Below w.heap.size w w' := by
  have HN := Lib.hid (Num.number_pos_len hp h45 (by omega))
  go_enter Tryz.func112, Tryz.ntmps112
  go_wp2
  all_goals (go_ret2; exact ⟨numRes_none HN.out, Below.refl _ _⟩)
set_option maxRecDepth 100000 in
theorem refNumber_empty (w : World) :
    Calls Tryz.prog 112 #[.string ByteArray.empty] w fun e w' => numRes ByteArray.empty.data.toList e ∧ Below w.heap.size w w' := by
  have HN := Lib.hid (Num.number_empty ByteArray.empty rfl)
  go_enter Tryz.func112, Tryz.ntmps112
  go_wp2
  all_goals (go_ret2; exact ⟨numRes_none HN.out, Below.refl _ _⟩)
theorem refNumber (s : ByteArray) (hs : s.size ≤ 281474976710656) (w : World) :
    Calls Tryz.prog 112 #[.string s] w fun e w' => numRes s.data.toList e ∧ Below w.heap.size w w' := by
  rcases Nat.eq_zero_or_pos s.size with h | hp
  · obtain rfl : s = ByteArray.empty := by
      apply ByteArray.ext
      exact Array.eq_empty_of_size_eq_zero h
    exact refNumber_empty w
  · have hne : ¬ s = ByteArray.empty := by intro e; rw [e] at hp; exact absurd hp (by decide)
    cases h45 : ((s[0].toNat : Int) == 45) with
    | true =>
      by_cases hl : s.size = 1 ∨ 8 < s.size
      · exact refNumber_short s w hp h45 hl hs
      · exact refNumber_neg s w hp h45 (by omega) (by rw [beq_eq_false_iff_ne]; omega) (by omega)
    | false =>
      have h0 : ((s.size : Int) == 0) = false := by rw [beq_eq_false_iff_ne]; omega
      by_cases hl : (7 : Int) < (s.size : Int)
      · exact refNumber_long s w hp h45 hne h0 hl hs
      · exact refNumber_pos s w hp h45 hne h0 (by omega)
end Go.Proofs.YtkohfomiigcifaaGreatDoor
