/-
  CONTRACTS OF LAYER 2's REFERENCE that layer 13 reaches: letters, depth, Split, Is, Join. By an AI agent.
-/
import Derived.Test.YtkohfomiigcifaaGreatDoorFWord
namespace Go.Proofs.YtkohfomiigcifaaGreatDoor
open Go.RowKit
open Wd (Bs)

set_option maxRecDepth 100000 in
theorem refLow (c : UInt8) (w : World) :
    Calls Tryz.prog 137 #[.int .u8 c.toNat] w fun e w' => e = .returned (.bool (Wd.low c)) ∧ w = w' := by
  have hc := UInt8.toNat_lt c
  by_cases h1 : 97 ≤ (c.toNat : Int) <;> by_cases h2 : (c.toNat : Int) ≤ 122
  all_goals
    go_enter Tryz.func137, Tryz.ntmps137
    go_wp2
    go_ret
    exact ⟨ret_bool (by simp [Wd.low]; omega), rfl⟩
/-- what a walk asks of a byte before it steps on: the four tests, and where the depth goes -/
def Tests (c : UInt8) (a b x y : Bool) : Prop := ((c.toNat : Int) == 40) = a ∧ ((c.toNat : Int) == 91) = b ∧ ((c.toNat : Int) == 41) = x ∧ ((c.toNat : Int) == 93) = y
theorem brk_cases (c : UInt8) (d : Nat) : (Tests c true false false false ∧ Wd.stepD d c = d + 1) ∨ (Tests c false true false false ∧ Wd.stepD d c = d + 1) ∨
    (Tests c false false true false ∧ Wd.stepD d c = d - 1) ∨ (Tests c false false false true ∧ Wd.stepD d c = d - 1) ∨ (Tests c false false false false ∧ Wd.stepD d c = d) := by
  by_cases k1 : c = 40
  · subst k1; exact .inl ⟨⟨rfl, rfl, rfl, rfl⟩, stepD_open (.inl rfl)⟩
  by_cases k2 : c = 91
  · subst k2; exact .inr (.inl ⟨⟨rfl, rfl, rfl, rfl⟩, stepD_open (.inr rfl)⟩)
  by_cases k3 : c = 41
  · subst k3; exact .inr (.inr (.inl ⟨⟨rfl, rfl, rfl, rfl⟩, stepD_close (.inl rfl)⟩))
  by_cases k4 : c = 93
  · subst k4; exact .inr (.inr (.inr (.inl ⟨⟨rfl, rfl, rfl, rfl⟩, stepD_close (.inr rfl)⟩)))
  have h1 : (c.toNat : Int) ≠ 40 := u8_ne (k := 40) (by omega) k1
  have h2 : (c.toNat : Int) ≠ 41 := u8_ne (k := 41) (by omega) k3
  have h3 : (c.toNat : Int) ≠ 91 := u8_ne (k := 91) (by omega) k2
  have h4 : (c.toNat : Int) ≠ 93 := u8_ne (k := 93) (by omega) k4
  exact .inr (.inr (.inr (.inr ⟨⟨by simpa using h1, by simpa using h3, by simpa using h2, by simpa using h4⟩, stepD_else h1 h2 h3 h4⟩)))
set_option maxHeartbeats 400000 in
set_option maxRecDepth 100000 in
theorem refDepth (s : ByteArray) (n : Nat) (w : World) (hn : n ≤ s.size) (hs : s.size ≤ 1000000000000) :
    Calls Tryz.prog 107 #[.string s, .int .i64 n] w fun e w' => e = .returned (.int .i64 (Wd.depAt s.data.toList n)) ∧ w = w' := by
  go_enter Tryz.func107, Tryz.ntmps107
  go_wp2
  go_loop [5, 6] (fun d i => ∃ k : Nat, k ≤ n ∧ i = .int .i64 k ∧ d = .int .i64 (Wd.depAt s.data.toList k)) (fun _ i => n - (intOf i).toNat)
  case atStart => exact ⟨0, Nat.zero_le _, rfl, rfl⟩
  case round =>
    obtain ⟨k, hk, rfl, rfl⟩ := hrel
    have hle := Wd.depAt_le s.data.toList k
    by_cases hlt : k < n
    · have hks : k < s.size := by omega
      have hb := Lib.hid (depAt_byte s k hks)
      by_cases hz : 0 < Wd.depAt s.data.toList k
      all_goals
        rcases brk_cases s[k] (Wd.depAt s.data.toList k) with ⟨⟨q1, q2, q3, q4⟩, hs'⟩ | ⟨⟨q1, q2, q3, q4⟩, hs'⟩ | ⟨⟨q1, q2, q3, q4⟩, hs'⟩ | ⟨⟨q1, q2, q3, q4⟩, hs'⟩ | ⟨⟨q1, q2, q3, q4⟩, hs'⟩
        all_goals
          have HS := Lib.hid hs'
          clear hs'
          go_wp2
          go_round
          case rel => exact ⟨k + 1, by omega, by go_num, by rw [hb.out, HS.out] <;> go_num⟩
          case measure => simp [intOf]; omega
    · obtain rfl : k = n := by omega
      go_wp2
      go_ret
      exact ⟨rfl, rfl⟩
theorem sepAt_byte (s : ByteArray) (c : UInt8) (k : Nat) (h : k < s.size) : Wd.sepAt s.data.toList c k = (s[k] == c && Wd.depAt s.data.toList k == 0) := by
  rw [Wd.sepAt, getD_byte s k h]
theorem split_brk {l : Bs} {c : UInt8} (h : Wd.brk c = true) : Wd.split l c = [l] := by simp [Wd.split, h]
theorem split_plain {l : Bs} {c : UInt8} (h : Wd.brk c = false) : Wd.split l c = (Wd.partsTo (Wd.sepAt l c) l l.length).1 ++ [Wd.slice l (Wd.partsTo (Wd.sepAt l c) l l.length).2 l.length] := by simp [Wd.split, h]
theorem lit_one (w : World) (s : ByteArray) : OwnStrs w.heap.size (w.alloc (.cells #[.string s] 9)) (.slice (some ⟨w.heap.size, 0, none⟩) 1 1) [s.data.toList] := OwnStrs.lit w [s.data.toList] (by simp)

theorem brk_tests {c : UInt8} (h : Wd.brk c = false) : ((c.toNat : Int) == 40) = false ∧ ((c.toNat : Int) == 41) = false ∧ ((c.toNat : Int) == 91) = false ∧ ((c.toNat : Int) == 93) = false := by
  simp [Wd.brk] at h
  obtain ⟨⟨⟨h1, h2⟩, h3⟩, h4⟩ := h
  refine ⟨?_, ?_, ?_, ?_⟩
  · simpa using u8_ne (k := 40) (by omega) h1
  · simpa using u8_ne (k := 41) (by omega) h2
  · simpa using u8_ne (k := 91) (by omega) h3
  · simpa using u8_ne (k := 93) (by omega) h4
theorem brk_is {c : UInt8} (h : Wd.brk c = true) : c = 40 ∨ c = 41 ∨ c = 91 ∨ c = 93 := by
  simp [Wd.brk] at h
  rcases h with ((h | h) | h) | h
  · exact .inl h
  · exact .inr (.inl h)
  · exact .inr (.inr (.inl h))
  · exact .inr (.inr (.inr h))
set_option maxHeartbeats 800000 in
set_option maxRecDepth 100000 in
theorem refSplit (s : ByteArray) (c : UInt8) (w : World) (hs : s.size ≤ 1000000000) :
    Calls Tryz.prog 74 #[.string s, .int .u8 c.toNat] w (StrsRes (Wd.split s.data.toList c) w) := by
  cases hbk : Wd.brk c with
  | true =>
    have hsp := Lib.hid (split_brk (l := s.data.toList) hbk)
    rcases brk_is hbk with hb | hb | hb | hb
    all_goals
      subst hb
      clear hbk
      go_enter Tryz.func74, Tryz.ntmps74
      go_wp2_with fail
      go_ret
      exact ⟨_, rfl, by rw [hsp.out]; exact lit_one _ _, (Below.refl _ _).alloc (Nat.le_refl _) _⟩
  | false =>
    have hsp := Lib.hid (split_plain (l := s.data.toList) hbk)
    obtain ⟨b1, b2, b3, b4⟩ := brk_tests hbk
    clear hbk
    go_enter Tryz.func74, Tryz.ntmps74
    go_wp2_with fail
    go_loopw [5, 6, 7] (fun p st i wr => ∃ k : Nat, k ≤ s.size ∧ i = .int .i64 (k : Int) ∧ st = .int .i64 ((Wd.partsTo (Wd.sepAt s.data.toList c) s.data.toList k).2 : Int) ∧
      OwnStrs w.heap.size wr p (Wd.partsTo (Wd.sepAt s.data.toList c) s.data.toList k).1 ∧ Below w.heap.size w wr) (fun _ _ i _ => s.size - (intOf i).toNat)
    case atStart => exact ⟨0, Nat.zero_le _, rfl, rfl, OwnStrs.nil _ _, Below.refl _ _⟩
    case round =>
      obtain ⟨k, hk, rfl, rfl, hown, hb⟩ := hrel
      have hsz := hb.size
      have hst := Wd.partsTo_start (Wd.sepAt s.data.toList c) s.data.toList k
      have hpl := Wd.partsTo_len (Wd.sepAt s.data.toList c) s.data.toList k
      generalize hP : (Wd.partsTo (Wd.sepAt s.data.toList c) s.data.toList k).1 = P at *
      generalize hS : (Wd.partsTo (Wd.sepAt s.data.toList c) s.data.toList k).2 = S at *
      by_cases hlt : k < s.size
      · have hsep := sepAt_byte s c k hlt
        cases hf : Wd.sepAt s.data.toList c k with
        | true =>
          have hyes := Wd.partsTo_yes (l := s.data.toList) hf
          rw [hP, hS] at hyes
          rw [hf] at hsep
          have h2 := Bool.and_eq_true_iff.1 hsep.symm
          have t1 : ((Wd.depAt s.data.toList k : Int) == 0) = true := by have := h2.2; simp at this; simp [this]
          have t2 : ((s[k].toNat : Int) == (c.toNat : Int)) = true := by rw [byte_eq_int]; exact h2.1
          have HY := Lib.hid hyes
          clear hyes hsep h2 hf hP hS
          go_wp2_with fail
          refine (refDepth s k _ (by omega) (by omega)).mono ?_
          rintro e w2 ⟨rfl, rfl⟩
          go_wp2_with (at_builtin; refine wpList_push_str rfl _ _ rfl rfl hown (s.extract S k) rfl (by omega) hsz hb ?_)
          intro v' w1 ho hb'
          clear hown hb
          go_wp2_with fail
          go_roundw
          case rel => exact ⟨k + 1, by omega, by go_num, by rw [HY.out]; go_num, by rw [HY.out, slice_eq]; exact ho, hb'⟩
          case measure => simp [intOf]; omega
        | false =>
          have hno := Wd.partsTo_no (l := s.data.toList) hf
          rw [hf] at hsep
          have h2 : (s[k] == c) = false ∨ (Wd.depAt s.data.toList k == 0) = false := by
            cases h : (s[k] == c) with
            | false => exact .inl rfl
            | true => rw [h] at hsep; exact .inr (by simpa using hsep.symm)
          have HN := Lib.hid hno
          have HP := Lib.hid hP
          have HS := Lib.hid hS
          clear hno hsep hf hP hS
          cases hbc : (s[k] == c) with
          | true =>
            have t2 : ((s[k].toNat : Int) == (c.toNat : Int)) = true := by rw [byte_eq_int]; exact hbc
            have t1 : ((Wd.depAt s.data.toList k : Int) == 0) = false := by have := h2.resolve_left (by rw [hbc]; simp); simpa using this
            clear hbc h2
            go_wp2_with fail
            refine (refDepth s k _ (by omega) (by omega)).mono ?_
            rintro e w2 ⟨rfl, rfl⟩
            go_wp2_with fail
            go_roundw
            case rel => exact ⟨k + 1, by omega, by go_num, by rw [HN.out, HS.out], by rw [HN.out, HP.out]; exact hown, hb⟩
            case measure => simp [intOf]; omega
          | false =>
            have t2 : ((s[k].toNat : Int) == (c.toNat : Int)) = false := by rw [byte_eq_int]; exact hbc
            clear hbc h2
            go_wp2_with fail
            go_roundw
            case rel => exact ⟨k + 1, by omega, by go_num, by rw [HN.out, HS.out], by rw [HN.out, HP.out]; exact hown, hb⟩
            case measure => simp [intOf]; omega
      · obtain rfl : k = s.size := by omega
        have HP := Lib.hid hP
        have HS := Lib.hid hS
        clear hP hS
        go_wp2_with (at_builtin; refine wpList_push_str rfl _ _ rfl rfl hown (s.extract S s.size) rfl (by omega) hsz hb ?_)
        intro v' w1 ho hb'
        clear hown hb
        go_wp2_with fail
        go_ret
        exact ⟨_, rfl, by rw [hsp.out, show s.data.toList.length = s.size by simp, HP.out, HS.out, slice_eq]; exact ho, hb'⟩

/-- the reference's loop: so far each byte may stand in a name, and no two hyphens are adjacent -/
def RefTo (l : Bs) (k : Nat) : Prop := CharsTo l k ∧ ∀ i, i + 1 < k → ¬ (l.getD i 0 = 45 ∧ l.getD (i + 1) 0 = 45)
theorem RefTo.next {l : Bs} {k : Nat} (h : RefTo l k) (h1 : Wd.nameCh (l.getD k 0) = true) (h2 : 0 < k → ¬ (l.getD (k - 1) 0 = 45 ∧ l.getD k 0 = 45)) : RefTo l (k + 1) := by
  refine ⟨h.1.next h1, fun i hi => ?_⟩
  by_cases e : i + 1 = k
  · have := h2 (by omega)
    rw [show k - 1 = i by omega, ← e] at this
    exact this
  · exact h.2 i (by omega)
theorem dig_range {c : UInt8} : Wd.dig c = true ↔ 48 ≤ (c.toNat : Int) ∧ (c.toNat : Int) ≤ 57 := by simp [Wd.dig]; omega
set_option maxHeartbeats 1000000 in
set_option maxRecDepth 100000 in
theorem refIs (s : ByteArray) (w : World) (hs : s.size ≤ maxLen) :
    Calls Tryz.prog 116 #[.string s] w fun e w' => e = .returned (.bool (Wd.isName s.data.toList)) ∧ w = w' := by
  unfold maxLen at hs
  have hlen : s.data.toList.length = s.size := by simp
  by_cases hpos : 0 < s.size
  case neg =>
    have h0 : (s.size : Int) < 1 := by omega
    have HN := Lib.hid (no_len (l := s.data.toList) (.inl (by omega)))
    clear hlen hpos
    go_enter Tryz.func116, Tryz.ntmps116
    go_wp2_with fail
    go_ret
    exact ⟨ret_bool HN.out.symm, rfl⟩
  by_cases h32 : 32 < s.size
  · have HN := Lib.hid (no_len (l := s.data.toList) (.inr (by omega)))
    clear hlen
    go_enter Tryz.func116, Tryz.ntmps116
    go_wp2_with fail
    go_ret
    exact ⟨ret_bool HN.out.symm, rfl⟩
  have h32' : (s.size : Int) ≤ 32 := by omega
  have g0 := getD_byte s 0 hpos
  have gl := getD_byte s (s.size - 1) (Nat.sub_lt hpos (by omega))
  have HLEN := Lib.hid hlen
  clear hlen h32
  cases hl0 : Wd.low s[0] with
  | false =>
    have HN := Lib.hid (no_first (l := s.data.toList) (by rw [g0]; exact hl0))
    have HL := Lib.hid hl0
    clear g0 gl hl0
    go_enter Tryz.func116, Tryz.ntmps116
    go_wp2_with fail
    refine (refLow s[0] _).mono ?_
    rw [HL.out]
    rintro e w1 ⟨rfl, rfl⟩
    go_wp2_with fail
    go_ret
    exact ⟨ret_bool HN.out.symm, rfl⟩
  | true =>
    have HL := Lib.hid hl0
    clear hl0
    cases h45 : (((s[s.size - 1]'(Nat.sub_lt hpos (by omega))).toNat : Int) == 45) with
    | true =>
      have HN := Lib.hid (no_last (l := s.data.toList) (by rw [HLEN.out, gl]; exact nameCh_45 h45))
      clear g0 gl
      go_enter Tryz.func116, Tryz.ntmps116
      go_wp2_with fail
      refine (refLow s[0] _).mono ?_
      rw [HL.out]
      rintro e w1 ⟨rfl, rfl⟩
      go_wp2_with fail
      go_ret
      exact ⟨ret_bool HN.out.symm, rfl⟩
    | false =>
      have hlast : s.data.toList.getD (s.data.toList.length - 1) 0 ≠ 45 := by rw [HLEN.out, gl]; exact not_45 h45
      have HLA := Lib.hid hlast
      have hfirst : Wd.low (s.data.toList.getD 0 0) = true := by rw [g0]; exact HL.out
      have HF := Lib.hid hfirst
      clear g0 gl hlast hfirst
      go_enter Tryz.func116, Tryz.ntmps116
      go_wp2_with fail
      refine (refLow s[0] _).mono ?_
      rw [HL.out]
      rintro e w1 ⟨rfl, rfl⟩
      go_wp2_with fail
      go_loop [3] (fun i => ∃ k : Nat, k ≤ s.size ∧ i = .int .i64 (k : Int) ∧ RefTo s.data.toList k) (fun i => s.size - (intOf i).toNat)
      case atStart => exact ⟨0, Nat.zero_le _, rfl, fun j hj => by omega, fun i hi => by omega⟩
      case round =>
        obtain ⟨k, hk, rfl, hch⟩ := hrel
        by_cases hlt : k < s.size
        · have gk := getD_byte s k hlt
          cases hok : Wd.nameCh s[k] with
          | false =>
            have HN := Lib.hid (no_char (l := s.data.toList) k (by rw [HLEN.out]; exact hlt) (by rw [gk]; exact hok))
            have h3 : Wd.low s[k] = false ∧ Wd.dig s[k] = false ∧ s[k] ≠ 45 := by simpa [Wd.nameCh, and_assoc] using hok
            have HLK := Lib.hid h3.1
            have hd : ¬ (48 ≤ (s[k].toNat : Int) ∧ (s[k].toNat : Int) ≤ 57) := fun h => by have := dig_range.2 h; rw [h3.2.1] at this; cases this
            have hy : ((s[k].toNat : Int) == 45) = false := by simpa using u8_ne (k := 45) (by omega) h3.2.2
            clear gk hok h3
            rcases (show (s[k].toNat : Int) < 48 ∨ (48 ≤ (s[k].toNat : Int) ∧ 57 < (s[k].toNat : Int)) by omega) with hd2 | ⟨hd1, hd2⟩
            all_goals
              clear hd
              go_wp2_with fail
              refine (refLow s[k] _).mono ?_
              rw [HLK.out]
              rintro e w1 ⟨rfl, rfl⟩
              go_wp2_with fail
              go_ret
              exact ⟨ret_bool HN.out.symm, rfl⟩
          | true =>
            -- what the first test asks, and then the second
            have h3 : Wd.low s[k] = true ∨ (Wd.low s[k] = false ∧ 48 ≤ (s[k].toNat : Int) ∧ (s[k].toNat : Int) ≤ 57) ∨ (Wd.low s[k] = false ∧ ((s[k].toNat : Int) == 45) = true) := by
              cases h : Wd.low s[k] with
              | true => exact .inl rfl
              | false =>
                cases h2 : Wd.dig s[k] with
                | true => exact .inr (.inl ⟨rfl, dig_range.1 h2⟩)
                | false =>
                  rw [Wd.nameCh, h, h2] at hok
                  exact .inr (.inr ⟨rfl, by have e : s[k] = 45 := by simpa using hok
                                            rw [e]; rfl⟩)
            have hlow45 : Wd.low s[k] = true → ((s[k].toNat : Int) == 45) = false := fun h => by
              have : 97 ≤ (s[k].toNat : Int) := by simp [Wd.low] at h; omega
              simp; omega
            by_cases hk0 : 0 < k
            · have gp := getD_byte s (k - 1) (by omega)
              have hk0' : (0 : Int) < (k : Int) := by omega
              cases hprev : (((s[k - 1]'(by omega)).toNat : Int) == 45) with
              | true =>
                rcases h3 with h3 | ⟨h3, hd1, hd2⟩ | ⟨h3, hy⟩
                · have HLK := Lib.hid h3
                  have hy := hlow45 h3
                  have HN := Lib.hid (hch.next (by rw [gk]; exact hok) fun _ ⟨_, h2⟩ => not_45 hy (by rw [← gk]; exact h2))
                  clear gk gp hok h3 hlow45
                  go_wp2_with fail
                  refine (refLow s[k] _).mono ?_
                  rw [HLK.out]
                  rintro e w1 ⟨rfl, rfl⟩
                  go_wp2_with fail
                  go_round
                  case rel => exact ⟨k + 1, by omega, by go_num, HN.out⟩
                  case measure => simp [intOf]; omega
                · have HLK := Lib.hid h3
                  have hy : ((s[k].toNat : Int) == 45) = false := by simp; omega
                  have HN := Lib.hid (hch.next (by rw [gk]; exact hok) fun _ ⟨_, h2⟩ => not_45 hy (by rw [← gk]; exact h2))
                  clear gk gp hok h3 hlow45
                  go_wp2_with fail
                  refine (refLow s[k] _).mono ?_
                  rw [HLK.out]
                  rintro e w1 ⟨rfl, rfl⟩
                  go_wp2_with fail
                  go_round
                  case rel => exact ⟨k + 1, by omega, by go_num, HN.out⟩
                  case measure => simp [intOf]; omega
                · have HLK := Lib.hid h3
                  have HN := Lib.hid (no_hyph (l := s.data.toList) (k - 1) (by rw [HLEN.out]; omega) (by rw [gp]; exact nameCh_45 hprev) (by rw [show k - 1 + 1 = k by omega, gk]; exact nameCh_45 hy))
                  have hlo : (s[k].toNat : Int) < 48 := by simp at hy; omega
                  clear gk gp hok h3 hlow45
                  go_wp2_with fail
                  refine (refLow s[k] _).mono ?_
                  rw [HLK.out]
                  rintro e w1 ⟨rfl, rfl⟩
                  go_wp2_with fail
                  go_ret
                  exact ⟨ret_bool HN.out.symm, rfl⟩
              | false =>
                have HN := Lib.hid (hch.next (by rw [gk]; exact hok) fun _ ⟨h2, _⟩ => not_45 hprev (by rw [← gp]; exact h2))
                clear gk gp hok
                rcases h3 with h3 | ⟨h3, hd1, hd2⟩ | ⟨h3, hy⟩
                · have HLK := Lib.hid h3
                  have hy := hlow45 h3
                  clear h3 hlow45
                  go_wp2_with fail
                  refine (refLow s[k] _).mono ?_
                  rw [HLK.out]
                  rintro e w1 ⟨rfl, rfl⟩
                  go_wp2_with fail
                  go_round
                  case rel => exact ⟨k + 1, by omega, by go_num, HN.out⟩
                  case measure => simp [intOf]; omega
                · have HLK := Lib.hid h3
                  have hy : ((s[k].toNat : Int) == 45) = false := by simp; omega
                  clear h3 hlow45
                  go_wp2_with fail
                  refine (refLow s[k] _).mono ?_
                  rw [HLK.out]
                  rintro e w1 ⟨rfl, rfl⟩
                  go_wp2_with fail
                  go_round
                  case rel => exact ⟨k + 1, by omega, by go_num, HN.out⟩
                  case measure => simp [intOf]; omega
                · have HLK := Lib.hid h3
                  clear h3 hlow45
                  have hlo : (s[k].toNat : Int) < 48 := by simp at hy; omega
                  go_wp2_with fail
                  refine (refLow s[k] _).mono ?_
                  rw [HLK.out]
                  rintro e w1 ⟨rfl, rfl⟩
                  go_wp2_with fail
                  go_round
                  case rel => exact ⟨k + 1, by omega, by go_num, HN.out⟩
                  case measure => simp [intOf]; omega
            · have HN := Lib.hid (hch.next (by rw [gk]; exact hok) fun h => absurd h hk0)
              have hk0' : (k : Int) ≤ 0 := by omega
              clear gk hok
              rcases h3 with h3 | ⟨h3, hd1, hd2⟩ | ⟨h3, hy⟩
              · have HLK := Lib.hid h3
                have hy := hlow45 h3
                clear h3 hlow45
                go_wp2_with fail
                refine (refLow s[k] _).mono ?_
                rw [HLK.out]
                rintro e w1 ⟨rfl, rfl⟩
                go_wp2_with fail
                go_round
                case rel => exact ⟨k + 1, by omega, by go_num, HN.out⟩
                case measure => simp [intOf]; omega
              · have HLK := Lib.hid h3
                have hy : ((s[k].toNat : Int) == 45) = false := by simp; omega
                clear h3 hlow45
                go_wp2_with fail
                refine (refLow s[k] _).mono ?_
                rw [HLK.out]
                rintro e w1 ⟨rfl, rfl⟩
                go_wp2_with fail
                go_round
                case rel => exact ⟨k + 1, by omega, by go_num, HN.out⟩
                case measure => simp [intOf]; omega
              · have HLK := Lib.hid h3
                clear h3 hlow45
                have hlo : (s[k].toNat : Int) < 48 := by simp at hy; omega
                go_wp2_with fail
                refine (refLow s[k] _).mono ?_
                rw [HLK.out]
                rintro e w1 ⟨rfl, rfl⟩
                go_wp2_with fail
                go_round
                case rel => exact ⟨k + 1, by omega, by go_num, HN.out⟩
                case measure => simp [intOf]; omega
        · obtain rfl : k = s.size := by omega
          have HN := Lib.hid (Wd.isName_true (l := s.data.toList) ⟨by rw [HLEN.out]; omega, by rw [HLEN.out]; omega, HF.out, HLA.out, by rw [HLEN.out]; exact hch.1, by rw [HLEN.out]; exact hch.2⟩)
          go_wp2_with fail
          go_ret
          exact ⟨ret_bool HN.out.symm, rfl⟩

theorem join_take_succ {l : List Bs} {c x : Bs} {k : Nat} (hx : l[k]? = some x) : Lib.join (l.take (k + 1)) c = if k = 0 then x else Lib.join (l.take k) c ++ c ++ x := by
  obtain ⟨h1, rfl⟩ := List.getElem?_eq_some_iff.1 hx
  rw [List.take_succ_eq_append_getElem h1]
  by_cases h0 : k = 0
  · subst h0; simp [Lib.join_one]
  · rw [if_neg h0, Wd.join_snoc _ _ _ (List.ne_nil_of_length_pos (by rw [List.length_take]; omega))]
    simp
theorem join_take_le (l : List Bs) (c : Bs) (k : Nat) : (Lib.join (l.take k) c).length ≤ (Lib.join l c).length := by
  by_cases hk : k < l.length
  · have h1 := join_take_le l c (k + 1)
    have h2 := join_take_succ (c := c) (List.getElem?_eq_getElem hk)
    by_cases h0 : k = 0
    · subst h0; simp [Lib.join]
    · rw [if_neg h0] at h2
      have h3 := congrArg List.length h2
      simp at h3
      omega
  · rw [List.take_of_length_le (by omega)]
    exact Nat.le_refl _
termination_by l.length - k
theorem bytes_cat (a b : ByteArray) : (a ++ b).data.toList = a.data.toList ++ b.data.toList := by simp
set_option maxHeartbeats 400000 in
set_option maxRecDepth 100000 in
theorem refJoin (v : Value) (l : List Bs) (s : ByteArray) (w : World) (hv : Strs w v l) (hj : (Lib.join l s.data.toList).length ≤ 140737488355328) :
    Calls Tryz.prog 65 #[v, .string s] w fun e w' => e = .returned (str (Lib.join l s.data.toList)) ∧ w = w' := by
  rcases hv.shape with ⟨b, k, rfl, rfl⟩ | ⟨b, o, k, rfl, p, q, n1, m1, d⟩
  · clear hj
    go_enter Tryz.func65, Tryz.ntmps65
    go_wp2
    refine wp_loop_rounds 1 ?_
    rw [rounds_succ]
    go_wp2
    go_ret
    exact ⟨rfl, rfl⟩
  · unfold maxLen at m1
    have D := Lib.hid d
    clear d hv
    go_enter Tryz.func65, Tryz.ntmps65
    go_wp2
    go_loop [5, 6] (fun t i => ∃ (k : Nat) (r : ByteArray), k ≤ l.length ∧ i = .int .i64 (k : Int) ∧ t = .string r ∧ r.data.toList = Lib.join (l.take k) s.data.toList) (fun _ i => l.length - (intOf i).toNat)
    case atStart => exact ⟨0, ⟨#[]⟩, by omega, rfl, rfl, rfl⟩
    case round =>
      obtain ⟨j, r, hjl, rfl, rfl, hr⟩ := hrel
      by_cases hlt : j < l.length
      · obtain ⟨x, hx⟩ : ∃ x, l[j]? = some x := ⟨l[j], by simp [hlt]⟩
        obtain ⟨sx, hsx, ex⟩ := exists_bytes x
        have d1 : w.cell? ⟨b, o + j, none⟩ = some (.string sx) := (D.out j x hx).trans (congrArg some ex)
        have hs1 := join_take_succ (c := s.data.toList) hx
        have hle := join_take_le l s.data.toList (j + 1)
        have HR := Lib.hid hr
        have HX := Lib.hid hsx
        have HS := Lib.hid hs1
        by_cases h0 : j = 0
        · have h0' : (j : Int) ≤ 0 := by omega
          have hr0 : r = ByteArray.empty := by
            subst h0
            have : r.data.toList = [] := hr
            cases r with | mk d => cases d with | mk l => simp at this; subst this; rfl
          have hcat : (r ++ sx).data.toList = Lib.join (l.take (j + 1)) s.data.toList := by rw [HS.out, if_pos h0, bytes_cat, hr0, HX.out]; rfl
          have HCAT := Lib.hid hcat
          have H0 := Lib.hid h0
          have HR0 := Lib.hid hr0
          have hsz : r.size + sx.size ≤ 140737488355328 := by
            have h5 := congrArg List.length hcat
            rw [bytes_cat] at h5
            simp at h5
            omega
          clear hx hsx ex hs1 hr h0 hr0 hcat
          go_wp2
          go_round
          case rel => exact ⟨j + 1, _, by omega, by go_num, rfl, HCAT.out⟩
          case measure => simp [intOf]; omega
        · have h0' : 0 < (j : Int) := by omega
          have hcat : (r ++ s ++ sx).data.toList = Lib.join (l.take (j + 1)) s.data.toList := by rw [HS.out, if_neg h0, bytes_cat, bytes_cat, hr, HX.out]
          have HCAT := Lib.hid hcat
          have hsz : r.size + s.size + sx.size ≤ 140737488355328 := by
            have h5 := congrArg List.length hcat
            rw [bytes_cat, bytes_cat] at h5
            simp at h5
            omega
          clear hx hsx ex hs1 hr hcat
          go_wp2
          go_round
          case rel => exact ⟨j + 1, _, by omega, by go_num, rfl, HCAT.out⟩
          case measure => simp [intOf]; omega
      · obtain rfl : j = l.length := by omega
        rw [List.take_length] at hr
        have HR := Lib.hid hr
        clear hr
        go_wp2
        go_ret
        exact ⟨congrArg Ending.returned (by rw [← HR.out]; rfl), rfl⟩
end Go.Proofs.YtkohfomiigcifaaGreatDoor
