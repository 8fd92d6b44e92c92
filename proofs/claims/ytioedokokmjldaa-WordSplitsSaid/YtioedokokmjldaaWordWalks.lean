/-
  CONTRACTS OF LAYER 2 (word) AND OF ITS REFERENCE, the small ones: letters, digits, brackets, depths. By an AI agent.
-/
import Derived.Test.YtioedokokmjldaaWordPlain
import Derived.Test.YtioedokokmjldaaStrs
import Derived.WalkKit
import Derived.WalkLawsBesides
import Derived.BigQuiet
import Derived.Deep.QuietTactic
import Derived.Handy
import Derived.Lib.Hide
namespace Go.Proofs.Ytioedokokmjldaa
open Go.RowKit
open Wd (Bs)

theorem ret_int {k : IntKind} {a b : Int} (h : a = b) : Ending.returned (.int k a) = .returned (.int k b) := by rw [h]
theorem ret_bool {a b : Bool} (h : a = b) : Ending.returned (.bool a) = .returned (.bool b) := by rw [h]
theorem u8_ne {c : UInt8} {k : Nat} (hk : k < 256) (h : c ≠ UInt8.ofNat k) : (c.toNat : Int) ≠ k := by
  intro e
  exact h (UInt8.toNat_inj.1 (by rw [UInt8.toNat_ofNat_of_lt' (by simpa using hk)]; omega))

set_option maxRecDepth 100000 in
theorem wordIsLetter (c : UInt8) (w : World) :
    Calls Try.prog 27 #[.int .u8 c.toNat] w fun e w' => e = .returned (.bool (Wd.low c)) ∧ w = w' := by
  have hc := UInt8.toNat_lt c
  by_cases h1 : 97 ≤ (c.toNat : Int) <;> by_cases h2 : (c.toNat : Int) ≤ 122
  all_goals
    go_enter Try.func27, Try.ntmps27
    go_wp2
    go_ret
    exact ⟨ret_bool (by simp [Wd.low]; omega), rfl⟩
set_option maxRecDepth 100000 in
theorem refLow (c : UInt8) (w : World) :
    Calls Try.prog 30 #[.int .u8 c.toNat] w fun e w' => e = .returned (.bool (Wd.low c)) ∧ w = w' := by
  have hc := UInt8.toNat_lt c
  by_cases h1 : 97 ≤ (c.toNat : Int) <;> by_cases h2 : (c.toNat : Int) ≤ 122
  all_goals
    go_enter Try.func30, Try.ntmps30
    go_wp2
    go_ret
    exact ⟨ret_bool (by simp [Wd.low]; omega), rfl⟩
set_option maxRecDepth 100000 in
theorem wordIsDigit (c : UInt8) (w : World) :
    Calls Try.prog 29 #[.int .u8 c.toNat] w fun e w' => e = .returned (.bool (Wd.dig c)) ∧ w = w' := by
  have hc := UInt8.toNat_lt c
  by_cases h1 : 48 ≤ (c.toNat : Int) <;> by_cases h2 : (c.toNat : Int) ≤ 57
  all_goals
    go_enter Try.func29, Try.ntmps29
    go_wp2
    go_ret
    exact ⟨ret_bool (by simp [Wd.dig]; omega), rfl⟩
theorem brk_false {c : UInt8} (h1 : (c.toNat : Int) ≠ 40) (h2 : (c.toNat : Int) ≠ 41) (h3 : (c.toNat : Int) ≠ 91) (h4 : (c.toNat : Int) ≠ 93) : Wd.brk c = false := by
  have e1 : c ≠ 40 := fun e => h1 (by rw [e]; rfl)
  have e2 : c ≠ 41 := fun e => h2 (by rw [e]; rfl)
  have e3 : c ≠ 91 := fun e => h3 (by rw [e]; rfl)
  have e4 : c ≠ 93 := fun e => h4 (by rw [e]; rfl)
  simp [Wd.brk, e1, e2, e3, e4]
set_option maxRecDepth 100000 in
theorem wordIsBracket (c : UInt8) (w : World) :
    Calls Try.prog 31 #[.int .u8 c.toNat] w fun e w' => e = .returned (.bool (Wd.brk c)) ∧ w = w' := by
  by_cases k1 : c = 40
  · subst k1
    go_enter Try.func31, Try.ntmps31
    go_wp2
    go_ret
    exact ⟨rfl, rfl⟩
  by_cases k2 : c = 41
  · subst k2
    go_enter Try.func31, Try.ntmps31
    go_wp2
    go_ret
    exact ⟨rfl, rfl⟩
  by_cases k3 : c = 91
  · subst k3
    go_enter Try.func31, Try.ntmps31
    go_wp2
    go_ret
    exact ⟨rfl, rfl⟩
  by_cases k4 : c = 93
  · subst k4
    go_enter Try.func31, Try.ntmps31
    go_wp2
    go_ret
    exact ⟨rfl, rfl⟩
  have h1 : (c.toNat : Int) ≠ 40 := u8_ne (k := 40) (by omega) k1
  have h2 : (c.toNat : Int) ≠ 41 := u8_ne (k := 41) (by omega) k2
  have h3 : (c.toNat : Int) ≠ 91 := u8_ne (k := 91) (by omega) k3
  have h4 : (c.toNat : Int) ≠ 93 := u8_ne (k := 93) (by omega) k4
  have hb := Lib.hid (brk_false h1 h2 h3 h4)
  have e1 : ((c.toNat : Int) == 40) = false := by simpa using h1
  have e2 : ((c.toNat : Int) == 41) = false := by simpa using h2
  have e3 : ((c.toNat : Int) == 91) = false := by simpa using h3
  have e4 : ((c.toNat : Int) == 93) = false := by simpa using h4
  go_enter Try.func31, Try.ntmps31
  go_wp2
  go_ret
  exact ⟨ret_bool hb.out.symm, rfl⟩
theorem stepD_open {d : Nat} {c : UInt8} (h : c = 40 ∨ c = 91) : Wd.stepD d c = d + 1 := by simp [Wd.stepD, h]
theorem stepD_close {d : Nat} {c : UInt8} (h : c = 41 ∨ c = 93) : Wd.stepD d c = d - 1 := by
  rcases h with rfl | rfl <;> simp [Wd.stepD]
theorem stepD_else {d : Nat} {c : UInt8} (h1 : (c.toNat : Int) ≠ 40) (h2 : (c.toNat : Int) ≠ 41) (h3 : (c.toNat : Int) ≠ 91) (h4 : (c.toNat : Int) ≠ 93) : Wd.stepD d c = d := Wd.stepD_plain (brk_false h1 h2 h3 h4)
set_option maxRecDepth 100000 in
theorem wordDepthAfter (d : Nat) (c : UInt8) (w : World) (hd : d ≤ 1000000000000) :
    Calls Try.prog 32 #[.int .i64 d, .int .u8 c.toNat] w fun e w' => e = .returned (.int .i64 (Wd.stepD d c)) ∧ w = w' := by
  have hd' : (d : Int) ≤ 1000000000000 := by omega
  by_cases k1 : c = 40 ∨ c = 91
  · have hs := Lib.hid (stepD_open (d := d) k1)
    rcases k1 with k1 | k1
    all_goals
      subst k1
      go_enter Try.func32, Try.ntmps32
      go_wp2
      go_ret
      exact ⟨ret_int (by rw [hs.out]; omega), rfl⟩
  by_cases k2 : c = 41 ∨ c = 93
  · have hs := Lib.hid (stepD_close (d := d) k2)
    rcases k2 with k2 | k2
    all_goals
      subst k2
      go_enter Try.func32, Try.ntmps32
      go_wp2
      all_goals
        go_ret
        exact ⟨ret_int (by rw [hs.out]; omega), rfl⟩
  have h1 : (c.toNat : Int) ≠ 40 := u8_ne (k := 40) (by omega) fun e => k1 (.inl e)
  have h2 : (c.toNat : Int) ≠ 41 := u8_ne (k := 41) (by omega) fun e => k2 (.inl e)
  have h3 : (c.toNat : Int) ≠ 91 := u8_ne (k := 91) (by omega) fun e => k1 (.inr e)
  have h4 : (c.toNat : Int) ≠ 93 := u8_ne (k := 93) (by omega) fun e => k2 (.inr e)
  have hs := Lib.hid (stepD_else (d := d) h1 h2 h3 h4)
  have e1 : ((c.toNat : Int) == 40) = false := by simpa using h1
  have e2 : ((c.toNat : Int) == 41) = false := by simpa using h2
  have e3 : ((c.toNat : Int) == 91) = false := by simpa using h3
  have e4 : ((c.toNat : Int) == 93) = false := by simpa using h4
  clear k1 k2
  go_enter Try.func32, Try.ntmps32
  go_wp2
  go_ret
  exact ⟨ret_int (by rw [hs.out]), rfl⟩
/-- what a walk asks of a byte before it steps on: the four tests, and where the depth goes -/
def Tests (c : UInt8) (a b x y : Bool) : Prop := ((c.toNat : Int) == 40) = a ∧ ((c.toNat : Int) == 91) = b ∧ ((c.toNat : Int) == 41) = x ∧ ((c.toNat : Int) == 93) = y
theorem brk_cases (c : UInt8) (d : Nat) : (Tests c true false false false ∧ Wd.stepD d c = d + 1) ∨ (Tests c false true false false ∧ Wd.stepD d c = d + 1) ∨
    (Tests c false false true false ∧ Wd.stepD d c = d - 1) ∨ (Tests c false false false true ∧ Wd.stepD d c = d - 1) ∨ (Tests c false false false false ∧ Wd.stepD d c = d) := by
  by_cases k1 : c = 40
  · subst k1; exact .inl ⟨⟨rfl, rfl, rfl, rfl⟩, stepD_open (.inl rfl)⟩
  by_cases k2 : c = 91
  · subst k2; exact .inr (.inl ⟨⟨rfl, rfl, rfl, rfl⟩, stepD_open (.inr rfl)⟩)
  by_cases k3 : c = 41
  · subst k3; exact .inr (.inr (.inl ⟨⟨rfl, rfl, rfl, rfl⟩, stepD_close (.inl rfl)⟩))
  by_cases k4 : c = 93
  · subst k4; exact .inr (.inr (.inr (.inl ⟨⟨rfl, rfl, rfl, rfl⟩, stepD_close (.inr rfl)⟩)))
  have h1 : (c.toNat : Int) ≠ 40 := u8_ne (k := 40) (by omega) k1
  have h2 : (c.toNat : Int) ≠ 41 := u8_ne (k := 41) (by omega) k3
  have h3 : (c.toNat : Int) ≠ 91 := u8_ne (k := 91) (by omega) k2
  have h4 : (c.toNat : Int) ≠ 93 := u8_ne (k := 93) (by omega) k4
  exact .inr (.inr (.inr (.inr ⟨⟨by simpa using h1, by simpa using h3, by simpa using h2, by simpa using h4⟩, stepD_else h1 h2 h3 h4⟩)))
theorem getD_byte (s : ByteArray) (k : Nat) (h : k < s.size) : s.data.toList.getD k 0 = s[k] := by
  have h' : k < s.data.toList.length := by simpa using h
  simp only [List.getD, List.getElem?_eq_getElem h', Option.getD_some, Array.getElem_toList]
  rfl
theorem depAt_byte (s : ByteArray) (k : Nat) (h : k < s.size) : Wd.depAt s.data.toList (k + 1) = Wd.stepD (Wd.depAt s.data.toList k) s[k] := by
  show Wd.stepD _ _ = _
  rw [getD_byte s k h]
set_option maxHeartbeats 400000 in
set_option maxRecDepth 100000 in
theorem refDepth (s : ByteArray) (n : Nat) (w : World) (hn : n ≤ s.size) (hs : s.size ≤ 1000000000000) :
    Calls Try.prog 33 #[.string s, .int .i64 n] w fun e w' => e = .returned (.int .i64 (Wd.depAt s.data.toList n)) ∧ w = w' := by
  go_enter Try.func33, Try.ntmps33
  go_wp2
  go_loop [5, 6] (fun d i => ∃ k : Nat, k ≤ n ∧ i = .int .i64 k ∧ d = .int .i64 (Wd.depAt s.data.toList k)) (fun _ i => n - (intOf i).toNat)
  case atStart => exact ⟨0, Nat.zero_le _, rfl, rfl⟩
  case round =>
    obtain ⟨k, hk, rfl, rfl⟩ := hrel
    have hle := Wd.depAt_le s.data.toList k
    by_cases hlt : k < n
    · have hks : k < s.size := by omega
      have hb := Lib.hid (depAt_byte s k hks)
      by_cases hz : 0 < Wd.depAt s.data.toList k
      all_goals
        rcases brk_cases s[k] (Wd.depAt s.data.toList k) with ⟨⟨q1, q2, q3, q4⟩, hs'⟩ | ⟨⟨q1, q2, q3, q4⟩, hs'⟩ | ⟨⟨q1, q2, q3, q4⟩, hs'⟩ | ⟨⟨q1, q2, q3, q4⟩, hs'⟩ | ⟨⟨q1, q2, q3, q4⟩, hs'⟩
        all_goals
          have HS := Lib.hid hs'
          clear hs'
          go_wp2
          go_round
          case rel => exact ⟨k + 1, by omega, by go_num, by rw [hb.out, HS.out] <;> go_num⟩
          case measure => simp [intOf]; omega
    · obtain rfl : k = n := by omega
      go_wp2
      go_ret
      exact ⟨rfl, rfl⟩
end Go.Proofs.Ytioedokokmjldaa
