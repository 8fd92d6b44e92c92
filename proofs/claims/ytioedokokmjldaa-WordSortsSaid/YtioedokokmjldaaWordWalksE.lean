/-
  CONTRACTS OF LAYER 2 (word) AND OF ITS REFERENCE: Is. By an AI agent.
-/
import Derived.Test.YtioedokokmjldaaWordWalksD
namespace Go.Proofs.Ytioedokokmjldaa
open Go.RowKit
open Wd (Bs)

/-- what is told of the package-level variable that strings.Contains reads: it holds some number -/
def Env (w : World) : Prop := ∃ m, w.cell? ⟨0, 0, none⟩ = some (.int .i64 m)
theorem Env.below {w w' : World} (h : Env w) (hb : Below w.heap.size w w') : Env w' := by
  obtain ⟨m, hm⟩ := h
  exact ⟨m, (hb.cell (p := ⟨0, 0, none⟩) (World.block_lt_of_cell? w _ hm)).trans hm⟩

theorem no_len {l : Bs} (h : l.length < 1 ∨ 32 < l.length) : Wd.isName l = false := Wd.isName_false fun ⟨h1, h2, _⟩ => by omega
theorem no_first {l : Bs} (h : Wd.low (l.getD 0 0) = false) : Wd.isName l = false := Wd.isName_false fun ⟨_, _, h1, _⟩ => by rw [h] at h1; cases h1
theorem no_last {l : Bs} (h : l.getD (l.length - 1) 0 = 45) : Wd.isName l = false := Wd.isName_false fun ⟨_, _, _, h1, _⟩ => h1 h
theorem no_hyph {l : Bs} (i : Nat) (hi : i + 1 < l.length) (h1 : l.getD i 0 = 45) (h2 : l.getD (i + 1) 0 = 45) : Wd.isName l = false := Wd.isName_false fun ⟨_, _, _, _, _, h⟩ => h i hi ⟨h1, h2⟩
theorem no_char {l : Bs} (i : Nat) (hi : i < l.length) (h : Wd.nameCh (l.getD i 0) = false) : Wd.isName l = false := Wd.isName_false fun ⟨_, _, _, _, h1, _⟩ => by rw [h1 i hi] at h; cases h
def CharsTo (l : Bs) (k : Nat) : Prop := ∀ i, i < k → Wd.nameCh (l.getD i 0) = true
theorem CharsTo.next {l : Bs} {k : Nat} (h : CharsTo l k) (hk : Wd.nameCh (l.getD k 0) = true) : CharsTo l (k + 1) := by
  intro j hj
  by_cases e : j = k
  · subst e; exact hk
  · exact h j (by omega)
theorem nameCh_no {c : UInt8} (h1 : Wd.low c = false) (h2 : Wd.dig c = false) (h3 : ((c.toNat : Int) == 45) = false) : Wd.nameCh c = false := by
  have : (c == 45) = false := by rw [← byte_eq_int]; exact h3
  simp [Wd.nameCh, h1, h2, this]
theorem nameCh_45 {c : UInt8} (h : ((c.toNat : Int) == 45) = true) : c = 45 := by
  have : (c == 45) = true := by rw [← byte_eq_int]; exact h
  simpa using this
theorem not_45 {c : UInt8} (h : ((c.toNat : Int) == 45) = false) : c ≠ 45 := by
  rintro rfl; simp at h
set_option maxHeartbeats 1000000 in
set_option maxRecDepth 100000 in
theorem wordIs (s : ByteArray) (w : World) (hE : Env w) (hs : s.size ≤ maxLen) :
    Calls Try.prog 11 #[.string s] w fun e w' => e = .returned (.bool (Wd.isName s.data.toList)) ∧ w = w' := by
  unfold maxLen at hs
  have hlen : s.data.toList.length = s.size := by simp
  by_cases h0 : s.size = 0
  · have e1 : (s.toList == []) = true := by
      rw [Lib.toList_data]
      have : s.data.toList = [] := List.length_eq_zero_iff.1 (by omega)
      simpa using this
    have HN := Lib.hid (no_len (l := s.data.toList) (.inl (by omega)))
    clear h0 hlen
    go_enter Try.func11, Try.ntmps11
    go_wp2_with fail
    go_ret
    exact ⟨ret_bool HN.out.symm, rfl⟩
  have e1 : (s.toList == []) = false := by
    rw [Lib.toList_data]
    have : s.data.toList ≠ [] := fun e => h0 (by rw [e] at hlen; simpa using hlen.symm)
    simpa using this
  have hpos : 0 < s.size := by omega
  clear h0
  by_cases h32 : 32 < s.size
  · have HN := Lib.hid (no_len (l := s.data.toList) (.inr (by omega)))
    clear hlen
    go_enter Try.func11, Try.ntmps11
    go_wp2_with fail
    go_ret
    exact ⟨ret_bool HN.out.symm, rfl⟩
  have h32' : (s.size : Int) ≤ 32 := by omega
  have g0 := getD_byte s 0 hpos
  have gl := getD_byte s (s.size - 1) (Nat.sub_lt hpos (by omega))
  have HLEN := Lib.hid hlen
  clear hlen h32
  cases hl0 : Wd.low s[0] with
  | false =>
    have HN := Lib.hid (no_first (l := s.data.toList) (by rw [g0]; exact hl0))
    have HL := Lib.hid hl0
    clear g0 gl hl0
    go_enter Try.func11, Try.ntmps11
    go_wp2_with fail
    refine (wordIsLetter s[0] _).mono ?_
    rw [HL.out]
    rintro e w1 ⟨rfl, rfl⟩
    go_wp2_with fail
    go_ret
    exact ⟨ret_bool HN.out.symm, rfl⟩
  | true =>
    have HL := Lib.hid hl0
    clear hl0
    cases h45 : (((s[s.size - 1]'(Nat.sub_lt hpos (by omega))).toNat : Int) == 45) with
    | true =>
      have HN := Lib.hid (no_last (l := s.data.toList) (by rw [HLEN.out, gl]; exact nameCh_45 h45))
      clear g0 gl
      go_enter Try.func11, Try.ntmps11
      go_wp2_with fail
      refine (wordIsLetter s[0] _).mono ?_
      rw [HL.out]
      rintro e w1 ⟨rfl, rfl⟩
      go_wp2_with fail
      go_ret
      exact ⟨ret_bool HN.out.symm, rfl⟩
    | false =>
      obtain ⟨m, hm⟩ := hE
      have hlast : s.data.toList.getD (s.data.toList.length - 1) 0 ≠ 45 := by rw [HLEN.out, gl]; exact not_45 h45
      cases hc : Lib.contains s.data.toList (ByteArray.mk #[45, 45]).data.toList with
      | true =>
        have HN : Hid (Wd.isName s.data.toList = false) := Lib.hid (by
          obtain ⟨i, hi, h1, h2⟩ := (Wd.hyphens s.data.toList).1 hc
          exact no_hyph i hi h1 h2)
        have HC := Lib.hid hc
        have HM := Lib.hid hm
        clear g0 gl hlast hc hm
        go_enter Try.func11, Try.ntmps11
        go_wp2_with fail
        refine (wordIsLetter s[0] _).mono ?_
        rw [HL.out]
        rintro e w1 ⟨rfl, rfl⟩
        go_wp2_with fail
        refine (Try.strings_Contains s ⟨#[45, 45]⟩ m _ (by omega) HM.out).mono ?_
        rw [HC.out]
        rintro e w1 ⟨rfl, rfl⟩
        go_wp2_with fail
        go_ret
        exact ⟨ret_bool HN.out.symm, rfl⟩
      | false =>
        have hnh : ∀ i, i + 1 < s.data.toList.length → ¬ (s.data.toList.getD i 0 = 45 ∧ s.data.toList.getD (i + 1) 0 = 45) := fun i hi ⟨h1, h2⟩ => by
          have := (Wd.hyphens s.data.toList).2 ⟨i, hi, h1, h2⟩
          have hc' : Lib.contains s.data.toList [45, 45] = false := hc
          rw [hc'] at this
          cases this
        have HNH := Lib.hid hnh
        have HLA := Lib.hid hlast
        have hfirst : Wd.low (s.data.toList.getD 0 0) = true := by rw [g0]; exact HL.out
        have HF := Lib.hid hfirst
        have HC := Lib.hid hc
        have HM := Lib.hid hm
        clear g0 gl hlast hc hm hnh hfirst
        go_enter Try.func11, Try.ntmps11
        go_wp2_with fail
        refine (wordIsLetter s[0] _).mono ?_
        rw [HL.out]
        rintro e w1 ⟨rfl, rfl⟩
        go_wp2_with fail
        refine (Try.strings_Contains s ⟨#[45, 45]⟩ m _ (by omega) HM.out).mono ?_
        rw [HC.out]
        rintro e w1 ⟨rfl, rfl⟩
        go_wp2_with fail
        go_loop [29] (fun i => ∃ k : Nat, k ≤ s.size ∧ i = .int .i64 (k : Int) ∧ CharsTo s.data.toList k) (fun i => s.size - (intOf i).toNat)
        case atStart => exact ⟨0, Nat.zero_le _, rfl, fun j hj => by omega⟩
        case round =>
          obtain ⟨k, hk, rfl, hch⟩ := hrel
          by_cases hlt : k < s.size
          · have gk := getD_byte s k hlt
            cases hlow : Wd.low s[k] with
            | true =>
              have HN := Lib.hid (hch.next (by rw [gk, Wd.nameCh, hlow]; simp))
              have HLK := Lib.hid hlow
              clear gk hlow
              go_wp2_with fail
              refine (wordIsLetter s[k] _).mono ?_
              rw [HLK.out]
              rintro e w1 ⟨rfl, rfl⟩
              go_wp2_with fail
              go_round
              case rel => exact ⟨k + 1, by omega, by go_num, HN.out⟩
              case measure => simp [intOf]; omega
            | false =>
              cases hdig : Wd.dig s[k] with
              | true =>
                have HN := Lib.hid (hch.next (by rw [gk, Wd.nameCh, hdig]; simp))
                have HLK := Lib.hid hlow
                have HDK := Lib.hid hdig
                clear gk hlow hdig
                go_wp2_with fail
                refine (wordIsLetter s[k] _).mono ?_
                rw [HLK.out]
                rintro e w1 ⟨rfl, rfl⟩
                go_wp2_with fail
                refine (wordIsDigit s[k] _).mono ?_
                rw [HDK.out]
                rintro e w1 ⟨rfl, rfl⟩
                go_wp2_with fail
                go_round
                case rel => exact ⟨k + 1, by omega, by go_num, HN.out⟩
                case measure => simp [intOf]; omega
              | false =>
                cases hy : ((s[k].toNat : Int) == 45) with
                | true =>
                  have HN := Lib.hid (hch.next (by rw [gk, nameCh_45 hy]; decide))
                  have HLK := Lib.hid hlow
                  have HDK := Lib.hid hdig
                  clear gk hlow hdig
                  go_wp2_with fail
                  refine (wordIsLetter s[k] _).mono ?_
                  rw [HLK.out]
                  rintro e w1 ⟨rfl, rfl⟩
                  go_wp2_with fail
                  refine (wordIsDigit s[k] _).mono ?_
                  rw [HDK.out]
                  rintro e w1 ⟨rfl, rfl⟩
                  go_wp2_with fail
                  go_round
                  case rel => exact ⟨k + 1, by omega, by go_num, HN.out⟩
                  case measure => simp [intOf]; omega
                | false =>
                  have HN := Lib.hid (no_char (l := s.data.toList) k (by rw [HLEN.out]; exact hlt) (by rw [gk]; exact nameCh_no hlow hdig hy))
                  have HLK := Lib.hid hlow
                  have HDK := Lib.hid hdig
                  clear gk hlow hdig
                  go_wp2_with fail
                  refine (wordIsLetter s[k] _).mono ?_
                  rw [HLK.out]
                  rintro e w1 ⟨rfl, rfl⟩
                  go_wp2_with fail
                  refine (wordIsDigit s[k] _).mono ?_
                  rw [HDK.out]
                  rintro e w1 ⟨rfl, rfl⟩
                  go_wp2_with fail
                  go_ret
                  exact ⟨ret_bool HN.out.symm, rfl⟩
          · obtain rfl : k = s.size := by omega
            have HN := Lib.hid (Wd.isName_true (l := s.data.toList) ⟨by rw [HLEN.out]; omega, by rw [HLEN.out]; omega, HF.out, HLA.out, by rw [HLEN.out]; exact hch, HNH.out⟩)
            go_wp2_with fail
            go_ret
            exact ⟨ret_bool HN.out.symm, rfl⟩
/-- the reference's loop: so far each byte may stand in a name, and no two hyphens are adjacent -/
def RefTo (l : Bs) (k : Nat) : Prop := CharsTo l k ∧ ∀ i, i + 1 < k → ¬ (l.getD i 0 = 45 ∧ l.getD (i + 1) 0 = 45)
theorem RefTo.next {l : Bs} {k : Nat} (h : RefTo l k) (h1 : Wd.nameCh (l.getD k 0) = true) (h2 : 0 < k → ¬ (l.getD (k - 1) 0 = 45 ∧ l.getD k 0 = 45)) : RefTo l (k + 1) := by
  refine ⟨h.1.next h1, fun i hi => ?_⟩
  by_cases e : i + 1 = k
  · have := h2 (by omega)
    rw [show k - 1 = i by omega, ← e] at this
    exact this
  · exact h.2 i (by omega)
theorem dig_range {c : UInt8} : Wd.dig c = true ↔ 48 ≤ (c.toNat : Int) ∧ (c.toNat : Int) ≤ 57 := by simp [Wd.dig]; omega
set_option maxHeartbeats 1000000 in
set_option maxRecDepth 100000 in
theorem refIs (s : ByteArray) (w : World) (hs : s.size ≤ maxLen) :
    Calls Try.prog 12 #[.string s] w fun e w' => e = .returned (.bool (Wd.isName s.data.toList)) ∧ w = w' := by
  unfold maxLen at hs
  have hlen : s.data.toList.length = s.size := by simp
  by_cases hpos : 0 < s.size
  case neg =>
    have h0 : (s.size : Int) < 1 := by omega
    have HN := Lib.hid (no_len (l := s.data.toList) (.inl (by omega)))
    clear hlen hpos
    go_enter Try.func12, Try.ntmps12
    go_wp2_with fail
    go_ret
    exact ⟨ret_bool HN.out.symm, rfl⟩
  by_cases h32 : 32 < s.size
  · have HN := Lib.hid (no_len (l := s.data.toList) (.inr (by omega)))
    clear hlen
    go_enter Try.func12, Try.ntmps12
    go_wp2_with fail
    go_ret
    exact ⟨ret_bool HN.out.symm, rfl⟩
  have h32' : (s.size : Int) ≤ 32 := by omega
  have g0 := getD_byte s 0 hpos
  have gl := getD_byte s (s.size - 1) (Nat.sub_lt hpos (by omega))
  have HLEN := Lib.hid hlen
  clear hlen h32
  cases hl0 : Wd.low s[0] with
  | false =>
    have HN := Lib.hid (no_first (l := s.data.toList) (by rw [g0]; exact hl0))
    have HL := Lib.hid hl0
    clear g0 gl hl0
    go_enter Try.func12, Try.ntmps12
    go_wp2_with fail
    refine (refLow s[0] _).mono ?_
    rw [HL.out]
    rintro e w1 ⟨rfl, rfl⟩
    go_wp2_with fail
    go_ret
    exact ⟨ret_bool HN.out.symm, rfl⟩
  | true =>
    have HL := Lib.hid hl0
    clear hl0
    cases h45 : (((s[s.size - 1]'(Nat.sub_lt hpos (by omega))).toNat : Int) == 45) with
    | true =>
      have HN := Lib.hid (no_last (l := s.data.toList) (by rw [HLEN.out, gl]; exact nameCh_45 h45))
      clear g0 gl
      go_enter Try.func12, Try.ntmps12
      go_wp2_with fail
      refine (refLow s[0] _).mono ?_
      rw [HL.out]
      rintro e w1 ⟨rfl, rfl⟩
      go_wp2_with fail
      go_ret
      exact ⟨ret_bool HN.out.symm, rfl⟩
    | false =>
      have hlast : s.data.toList.getD (s.data.toList.length - 1) 0 ≠ 45 := by rw [HLEN.out, gl]; exact not_45 h45
      have HLA := Lib.hid hlast
      have hfirst : Wd.low (s.data.toList.getD 0 0) = true := by rw [g0]; exact HL.out
      have HF := Lib.hid hfirst
      clear g0 gl hlast hfirst
      go_enter Try.func12, Try.ntmps12
      go_wp2_with fail
      refine (refLow s[0] _).mono ?_
      rw [HL.out]
      rintro e w1 ⟨rfl, rfl⟩
      go_wp2_with fail
      go_loop [3] (fun i => ∃ k : Nat, k ≤ s.size ∧ i = .int .i64 (k : Int) ∧ RefTo s.data.toList k) (fun i => s.size - (intOf i).toNat)
      case atStart => exact ⟨0, Nat.zero_le _, rfl, fun j hj => by omega, fun i hi => by omega⟩
      case round =>
        obtain ⟨k, hk, rfl, hch⟩ := hrel
        by_cases hlt : k < s.size
        · have gk := getD_byte s k hlt
          cases hok : Wd.nameCh s[k] with
          | false =>
            have HN := Lib.hid (no_char (l := s.data.toList) k (by rw [HLEN.out]; exact hlt) (by rw [gk]; exact hok))
            have h3 : Wd.low s[k] = false ∧ Wd.dig s[k] = false ∧ s[k] ≠ 45 := by simpa [Wd.nameCh, and_assoc] using hok
            have HLK := Lib.hid h3.1
            have hd : ¬ (48 ≤ (s[k].toNat : Int) ∧ (s[k].toNat : Int) ≤ 57) := fun h => by have := dig_range.2 h; rw [h3.2.1] at this; cases this
            have hy : ((s[k].toNat : Int) == 45) = false := by simpa using u8_ne (k := 45) (by omega) h3.2.2
            clear gk hok h3
            rcases (show (s[k].toNat : Int) < 48 ∨ (48 ≤ (s[k].toNat : Int) ∧ 57 < (s[k].toNat : Int)) by omega) with hd2 | ⟨hd1, hd2⟩
            all_goals
              clear hd
              go_wp2_with fail
              refine (refLow s[k] _).mono ?_
              rw [HLK.out]
              rintro e w1 ⟨rfl, rfl⟩
              go_wp2_with fail
              go_ret
              exact ⟨ret_bool HN.out.symm, rfl⟩
          | true =>
            -- what the first test asks, and then the second
            have h3 : Wd.low s[k] = true ∨ (Wd.low s[k] = false ∧ 48 ≤ (s[k].toNat : Int) ∧ (s[k].toNat : Int) ≤ 57) ∨ (Wd.low s[k] = false ∧ ((s[k].toNat : Int) == 45) = true) := by
              cases h : Wd.low s[k] with
              | true => exact .inl rfl
              | false =>
                cases h2 : Wd.dig s[k] with
                | true => exact .inr (.inl ⟨rfl, dig_range.1 h2⟩)
                | false =>
                  rw [Wd.nameCh, h, h2] at hok
                  exact .inr (.inr ⟨rfl, by have e : s[k] = 45 := by simpa using hok
                                            rw [e]; rfl⟩)
            have hlow45 : Wd.low s[k] = true → ((s[k].toNat : Int) == 45) = false := fun h => by
              have : 97 ≤ (s[k].toNat : Int) := by simp [Wd.low] at h; omega
              simp; omega
            by_cases hk0 : 0 < k
            · have gp := getD_byte s (k - 1) (by omega)
              have hk0' : (0 : Int) < (k : Int) := by omega
              cases hprev : (((s[k - 1]'(by omega)).toNat : Int) == 45) with
              | true =>
                rcases h3 with h3 | ⟨h3, hd1, hd2⟩ | ⟨h3, hy⟩
                · have HLK := Lib.hid h3
                  have hy := hlow45 h3
                  have HN := Lib.hid (hch.next (by rw [gk]; exact hok) fun _ ⟨_, h2⟩ => not_45 hy (by rw [← gk]; exact h2))
                  clear gk gp hok h3 hlow45
                  go_wp2_with fail
                  refine (refLow s[k] _).mono ?_
                  rw [HLK.out]
                  rintro e w1 ⟨rfl, rfl⟩
                  go_wp2_with fail
                  go_round
                  case rel => exact ⟨k + 1, by omega, by go_num, HN.out⟩
                  case measure => simp [intOf]; omega
                · have HLK := Lib.hid h3
                  have hy : ((s[k].toNat : Int) == 45) = false := by simp; omega
                  have HN := Lib.hid (hch.next (by rw [gk]; exact hok) fun _ ⟨_, h2⟩ => not_45 hy (by rw [← gk]; exact h2))
                  clear gk gp hok h3 hlow45
                  go_wp2_with fail
                  refine (refLow s[k] _).mono ?_
                  rw [HLK.out]
                  rintro e w1 ⟨rfl, rfl⟩
                  go_wp2_with fail
                  go_round
                  case rel => exact ⟨k + 1, by omega, by go_num, HN.out⟩
                  case measure => simp [intOf]; omega
                · have HLK := Lib.hid h3
                  have HN := Lib.hid (no_hyph (l := s.data.toList) (k - 1) (by rw [HLEN.out]; omega) (by rw [gp]; exact nameCh_45 hprev) (by rw [show k - 1 + 1 = k by omega, gk]; exact nameCh_45 hy))
                  have hlo : (s[k].toNat : Int) < 48 := by simp at hy; omega
                  clear gk gp hok h3 hlow45
                  go_wp2_with fail
                  refine (refLow s[k] _).mono ?_
                  rw [HLK.out]
                  rintro e w1 ⟨rfl, rfl⟩
                  go_wp2_with fail
                  go_ret
                  exact ⟨ret_bool HN.out.symm, rfl⟩
              | false =>
                have HN := Lib.hid (hch.next (by rw [gk]; exact hok) fun _ ⟨h2, _⟩ => not_45 hprev (by rw [← gp]; exact h2))
                clear gk gp hok
                rcases h3 with h3 | ⟨h3, hd1, hd2⟩ | ⟨h3, hy⟩
                · have HLK := Lib.hid h3
                  have hy := hlow45 h3
                  clear h3 hlow45
                  go_wp2_with fail
                  refine (refLow s[k] _).mono ?_
                  rw [HLK.out]
                  rintro e w1 ⟨rfl, rfl⟩
                  go_wp2_with fail
                  go_round
                  case rel => exact ⟨k + 1, by omega, by go_num, HN.out⟩
                  case measure => simp [intOf]; omega
                · have HLK := Lib.hid h3
                  have hy : ((s[k].toNat : Int) == 45) = false := by simp; omega
                  clear h3 hlow45
                  go_wp2_with fail
                  refine (refLow s[k] _).mono ?_
                  rw [HLK.out]
                  rintro e w1 ⟨rfl, rfl⟩
                  go_wp2_with fail
                  go_round
                  case rel => exact ⟨k + 1, by omega, by go_num, HN.out⟩
                  case measure => simp [intOf]; omega
                · have HLK := Lib.hid h3
                  clear h3 hlow45
                  have hlo : (s[k].toNat : Int) < 48 := by simp at hy; omega
                  go_wp2_with fail
                  refine (refLow s[k] _).mono ?_
                  rw [HLK.out]
                  rintro e w1 ⟨rfl, rfl⟩
                  go_wp2_with fail
                  go_round
                  case rel => exact ⟨k + 1, by omega, by go_num, HN.out⟩
                  case measure => simp [intOf]; omega
            · have HN := Lib.hid (hch.next (by rw [gk]; exact hok) fun h => absurd h hk0)
              have hk0' : (k : Int) ≤ 0 := by omega
              clear gk hok
              rcases h3 with h3 | ⟨h3, hd1, hd2⟩ | ⟨h3, hy⟩
              · have HLK := Lib.hid h3
                have hy := hlow45 h3
                clear h3 hlow45
                go_wp2_with fail
                refine (refLow s[k] _).mono ?_
                rw [HLK.out]
                rintro e w1 ⟨rfl, rfl⟩
                go_wp2_with fail
                go_round
                case rel => exact ⟨k + 1, by omega, by go_num, HN.out⟩
                case measure => simp [intOf]; omega
              · have HLK := Lib.hid h3
                have hy : ((s[k].toNat : Int) == 45) = false := by simp; omega
                clear h3 hlow45
                go_wp2_with fail
                refine (refLow s[k] _).mono ?_
                rw [HLK.out]
                rintro e w1 ⟨rfl, rfl⟩
                go_wp2_with fail
                go_round
                case rel => exact ⟨k + 1, by omega, by go_num, HN.out⟩
                case measure => simp [intOf]; omega
              · have HLK := Lib.hid h3
                clear h3 hlow45
                have hlo : (s[k].toNat : Int) < 48 := by simp at hy; omega
                go_wp2_with fail
                refine (refLow s[k] _).mono ?_
                rw [HLK.out]
                rintro e w1 ⟨rfl, rfl⟩
                go_wp2_with fail
                go_round
                case rel => exact ⟨k + 1, by omega, by go_num, HN.out⟩
                case measure => simp [intOf]; omega
        · obtain rfl : k = s.size := by omega
          have HN := Lib.hid (Wd.isName_true (l := s.data.toList) ⟨by rw [HLEN.out]; omega, by rw [HLEN.out]; omega, HF.out, HLA.out, by rw [HLEN.out]; exact hch.1, by rw [HLEN.out]; exact hch.2⟩)
          go_wp2_with fail
          go_ret
          exact ⟨ret_bool HN.out.symm, rfl⟩
end Go.Proofs.Ytioedokokmjldaa
