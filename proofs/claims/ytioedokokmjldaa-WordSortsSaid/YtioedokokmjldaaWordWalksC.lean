/-
  CONTRACTS OF LAYER 2 (word) AND OF ITS REFERENCE: Split, Lines. By an AI agent.
-/
import Derived.Test.YtioedokokmjldaaWordWalksB
import Derived.WalkSpells
import Derived.Lib.Strings
import Derived.WalkMore
import Derived.Deep.LoopGhost
namespace Go.Proofs.Ytioedokokmjldaa
open Go.RowKit
open Wd (Bs)

theorem extract_slice (s : ByteArray) (a b : Nat) : (s.extract a b).data.toList = Wd.slice s.data.toList a b := by
  rw [ByteArray.data_extract, Array.toList_extract]
  unfold Wd.slice List.extract
  rw [List.drop_take]
theorem slice_eq (l : Bs) (a b : Nat) : Wd.slice l a b = (l.drop a).take (b - a) := by unfold Wd.slice; rw [List.drop_take]
theorem sepAt_byte (s : ByteArray) (c : UInt8) (k : Nat) (h : k < s.size) : Wd.sepAt s.data.toList c k = (s[k] == c && Wd.depAt s.data.toList k == 0) := by
  rw [Wd.sepAt, getD_byte s k h]
theorem byte_eq_int (a c : UInt8) : ((a.toNat : Int) == (c.toNat : Int)) = (a == c) := by
  rw [Bool.eq_iff_iff]
  simp [← UInt8.toNat_inj]
  omega
/-- a list of strings is what the call returns, in new memory -/
def StrsRes (l : List Bs) (w : World) (e : Ending) (w' : World) : Prop := ∃ v, e = .returned v ∧ OwnStrs w.heap.size w' v l ∧ Below w.heap.size w w'
theorem split_brk {l : Bs} {c : UInt8} (h : Wd.brk c = true) : Wd.split l c = [l] := by simp [Wd.split, h]
theorem split_plain {l : Bs} {c : UInt8} (h : Wd.brk c = false) : Wd.split l c = (Wd.partsTo (Wd.sepAt l c) l l.length).1 ++ [Wd.slice l (Wd.partsTo (Wd.sepAt l c) l l.length).2 l.length] := by simp [Wd.split, h]
theorem lit_one (w : World) (s : ByteArray) : OwnStrs w.heap.size (w.alloc (.cells #[.string s] 9)) (.slice (some ⟨w.heap.size, 0, none⟩) 1 1) [s.data.toList] := OwnStrs.lit w [s.data.toList] (by simp)

set_option maxHeartbeats 800000 in
set_option maxRecDepth 100000 in
theorem wordSplit (s : ByteArray) (c : UInt8) (w : World) (hs : s.size ≤ 1000000000) :
    Calls Try.prog 14 #[.string s, .int .u8 c.toNat] w (StrsRes (Wd.split s.data.toList c) w) := by
  cases hbk : Wd.brk c with
  | true =>
    have hsp := Lib.hid (split_brk (l := s.data.toList) hbk)
    have HB := Lib.hid hbk
    clear hbk
    go_enter Try.func14, Try.ntmps14
    go_wp2_with fail
    refine (wordIsBracket c _).mono ?_
    rintro e w1 ⟨rfl, rfl⟩
    simp only [HB.out]
    go_wp2_with fail
    go_ret
    exact ⟨_, rfl, by rw [hsp.out]; exact lit_one _ _, (Below.refl _ _).alloc (Nat.le_refl _) _⟩
  | false =>
    have hsp := Lib.hid (split_plain (l := s.data.toList) hbk)
    have HB := Lib.hid hbk
    clear hbk
    go_enter Try.func14, Try.ntmps14
    go_wp2_with fail
    refine (wordIsBracket c _).mono ?_
    rintro e w1 ⟨rfl, rfl⟩
    simp only [HB.out]
    go_wp2_with fail
    go_loopw [5, 6, 7, 15] (fun p st d i wr => ∃ k : Nat, k ≤ s.size ∧ i = .int .i64 (k : Int) ∧ st = .int .i64 ((Wd.partsTo (Wd.sepAt s.data.toList c) s.data.toList k).2 : Int) ∧ d = .int .i64 (Wd.depAt s.data.toList k : Int) ∧
      OwnStrs w.heap.size wr p (Wd.partsTo (Wd.sepAt s.data.toList c) s.data.toList k).1 ∧ Below w.heap.size w wr) (fun _ _ _ i _ => s.size - (intOf i).toNat)
    case atStart => exact ⟨0, Nat.zero_le _, rfl, rfl, rfl, OwnStrs.nil _ _, Below.refl _ _⟩
    case round =>
      obtain ⟨k, hk, rfl, rfl, rfl, hown, hb⟩ := hrel
      have hsz := hb.size
      have hdle := Wd.depAt_le s.data.toList k
      have hst := Wd.partsTo_start (Wd.sepAt s.data.toList c) s.data.toList k
      have hpl := Wd.partsTo_len (Wd.sepAt s.data.toList c) s.data.toList k
      generalize hP : (Wd.partsTo (Wd.sepAt s.data.toList c) s.data.toList k).1 = P at *
      generalize hS : (Wd.partsTo (Wd.sepAt s.data.toList c) s.data.toList k).2 = S at *
      generalize hD : Wd.depAt s.data.toList k = D at *
      by_cases hlt : k < s.size
      · have hsep := sepAt_byte s c k hlt
        have hdb := depAt_byte s k hlt
        rw [hD] at hsep hdb
        cases hf : Wd.sepAt s.data.toList c k with
        | true =>
          have hyes := Wd.partsTo_yes (l := s.data.toList) hf
          rw [hP, hS] at hyes
          rw [hf] at hsep
          have h2 := Bool.and_eq_true_iff.1 hsep.symm
          have t1 : ((D : Int) == 0) = true := by have := h2.2; simp at this; simp [this]
          have t2 : ((s[k].toNat : Int) == (c.toNat : Int)) = true := by rw [byte_eq_int]; exact h2.1
          have HY := Lib.hid hyes
          have HD := Lib.hid hdb
          have h0 := Lib.hid hD
          clear hyes hdb hsep h2 hf hP hS hD
          go_wp2_with (at_builtin; refine wpList_push_str rfl _ _ rfl rfl hown (s.extract S k) rfl (by omega) hsz hb ?_)
          intro v' w1 ho hb'
          clear hown hb
          go_wp2_with fail
          refine (wordDepthAfter D s[k] _ (by omega)).mono ?_
          rintro e w2 ⟨rfl, rfl⟩
          go_wp2_with fail
          go_roundw
          case rel => exact ⟨k + 1, by omega, by go_num, by rw [HY.out]; go_num, by rw [HD.out], by rw [HY.out, slice_eq]; exact ho, hb'⟩
          case measure => simp [intOf]; omega
        | false =>
          have hno := Wd.partsTo_no (l := s.data.toList) hf
          rw [hf] at hsep
          have h2 : (s[k] == c) = false ∨ (D == 0) = false := by
            cases h : (s[k] == c) with
            | false => exact .inl rfl
            | true => rw [h] at hsep; exact .inr (by simpa using hsep.symm)
          have HN := Lib.hid hno
          have HD := Lib.hid hdb
          have h0 := Lib.hid hD
          have HP := Lib.hid hP
          have HS := Lib.hid hS
          clear hno hdb hsep hf hP hS hD
          by_cases hD0 : D = 0
          · have t1 : ((D : Int) == 0) = true := by simp [hD0]
            have t2 : ((s[k].toNat : Int) == (c.toNat : Int)) = false := by rw [byte_eq_int]; exact h2.resolve_right (by simp [hD0])
            have H0 := Lib.hid hD0
            clear hD0 h2
            go_wp2_with fail
            refine (wordDepthAfter D s[k] _ (by omega)).mono ?_
            rintro e w2 ⟨rfl, rfl⟩
            go_wp2_with fail
            go_roundw
            case rel => exact ⟨k + 1, by omega, by go_num, by rw [HN.out, HS.out], by rw [HD.out], by rw [HN.out, HP.out]; exact hown, hb⟩
            case measure => simp [intOf]; omega
          · have t1 : ((D : Int) == 0) = false := by simpa using hD0
            clear h2
            go_wp2_with fail
            refine (wordDepthAfter D s[k] _ (by omega)).mono ?_
            rintro e w2 ⟨rfl, rfl⟩
            go_wp2_with fail
            go_roundw
            case rel => exact ⟨k + 1, by omega, by go_num, by rw [HN.out, HS.out], by rw [HD.out], by rw [HN.out, HP.out]; exact hown, hb⟩
            case measure => simp [intOf]; omega
      · obtain rfl : k = s.size := by omega
        have HP := Lib.hid hP
        have HS := Lib.hid hS
        clear hP hS hD
        go_wp2_with (at_builtin; refine wpList_push_str rfl _ _ rfl rfl hown (s.extract S s.size) rfl (by omega) hsz hb ?_)
        intro v' w1 ho hb'
        clear hown hb
        go_wp2_with fail
        go_ret
        exact ⟨_, rfl, by rw [hsp.out, show s.data.toList.length = s.size by simp, HP.out, HS.out, slice_eq]; exact ho, hb'⟩
theorem brk_tests {c : UInt8} (h : Wd.brk c = false) : ((c.toNat : Int) == 40) = false ∧ ((c.toNat : Int) == 41) = false ∧ ((c.toNat : Int) == 91) = false ∧ ((c.toNat : Int) == 93) = false := by
  simp [Wd.brk] at h
  obtain ⟨⟨⟨h1, h2⟩, h3⟩, h4⟩ := h
  refine ⟨?_, ?_, ?_, ?_⟩
  · simpa using u8_ne (k := 40) (by omega) h1
  · simpa using u8_ne (k := 41) (by omega) h2
  · simpa using u8_ne (k := 91) (by omega) h3
  · simpa using u8_ne (k := 93) (by omega) h4
theorem brk_is {c : UInt8} (h : Wd.brk c = true) : c = 40 ∨ c = 41 ∨ c = 91 ∨ c = 93 := by
  simp [Wd.brk] at h
  rcases h with ((h | h) | h) | h
  · exact .inl h
  · exact .inr (.inl h)
  · exact .inr (.inr (.inl h))
  · exact .inr (.inr (.inr h))
set_option maxHeartbeats 800000 in
set_option maxRecDepth 100000 in
theorem refSplit (s : ByteArray) (c : UInt8) (w : World) (hs : s.size ≤ 1000000000) :
    Calls Try.prog 15 #[.string s, .int .u8 c.toNat] w (StrsRes (Wd.split s.data.toList c) w) := by
  cases hbk : Wd.brk c with
  | true =>
    have hsp := Lib.hid (split_brk (l := s.data.toList) hbk)
    rcases brk_is hbk with hb | hb | hb | hb
    all_goals
      subst hb
      clear hbk
      go_enter Try.func15, Try.ntmps15
      go_wp2_with fail
      go_ret
      exact ⟨_, rfl, by rw [hsp.out]; exact lit_one _ _, (Below.refl _ _).alloc (Nat.le_refl _) _⟩
  | false =>
    have hsp := Lib.hid (split_plain (l := s.data.toList) hbk)
    obtain ⟨b1, b2, b3, b4⟩ := brk_tests hbk
    clear hbk
    go_enter Try.func15, Try.ntmps15
    go_wp2_with fail
    go_loopw [5, 6, 7] (fun p st i wr => ∃ k : Nat, k ≤ s.size ∧ i = .int .i64 (k : Int) ∧ st = .int .i64 ((Wd.partsTo (Wd.sepAt s.data.toList c) s.data.toList k).2 : Int) ∧
      OwnStrs w.heap.size wr p (Wd.partsTo (Wd.sepAt s.data.toList c) s.data.toList k).1 ∧ Below w.heap.size w wr) (fun _ _ i _ => s.size - (intOf i).toNat)
    case atStart => exact ⟨0, Nat.zero_le _, rfl, rfl, OwnStrs.nil _ _, Below.refl _ _⟩
    case round =>
      obtain ⟨k, hk, rfl, rfl, hown, hb⟩ := hrel
      have hsz := hb.size
      have hst := Wd.partsTo_start (Wd.sepAt s.data.toList c) s.data.toList k
      have hpl := Wd.partsTo_len (Wd.sepAt s.data.toList c) s.data.toList k
      generalize hP : (Wd.partsTo (Wd.sepAt s.data.toList c) s.data.toList k).1 = P at *
      generalize hS : (Wd.partsTo (Wd.sepAt s.data.toList c) s.data.toList k).2 = S at *
      by_cases hlt : k < s.size
      · have hsep := sepAt_byte s c k hlt
        cases hf : Wd.sepAt s.data.toList c k with
        | true =>
          have hyes := Wd.partsTo_yes (l := s.data.toList) hf
          rw [hP, hS] at hyes
          rw [hf] at hsep
          have h2 := Bool.and_eq_true_iff.1 hsep.symm
          have t1 : ((Wd.depAt s.data.toList k : Int) == 0) = true := by have := h2.2; simp at this; simp [this]
          have t2 : ((s[k].toNat : Int) == (c.toNat : Int)) = true := by rw [byte_eq_int]; exact h2.1
          have HY := Lib.hid hyes
          clear hyes hsep h2 hf hP hS
          go_wp2_with fail
          refine (refDepth s k _ (by omega) (by omega)).mono ?_
          rintro e w2 ⟨rfl, rfl⟩
          go_wp2_with (at_builtin; refine wpList_push_str rfl _ _ rfl rfl hown (s.extract S k) rfl (by omega) hsz hb ?_)
          intro v' w1 ho hb'
          clear hown hb
          go_wp2_with fail
          go_roundw
          case rel => exact ⟨k + 1, by omega, by go_num, by rw [HY.out]; go_num, by rw [HY.out, slice_eq]; exact ho, hb'⟩
          case measure => simp [intOf]; omega
        | false =>
          have hno := Wd.partsTo_no (l := s.data.toList) hf
          rw [hf] at hsep
          have h2 : (s[k] == c) = false ∨ (Wd.depAt s.data.toList k == 0) = false := by
            cases h : (s[k] == c) with
            | false => exact .inl rfl
            | true => rw [h] at hsep; exact .inr (by simpa using hsep.symm)
          have HN := Lib.hid hno
          have HP := Lib.hid hP
          have HS := Lib.hid hS
          clear hno hsep hf hP hS
          cases hbc : (s[k] == c) with
          | true =>
            have t2 : ((s[k].toNat : Int) == (c.toNat : Int)) = true := by rw [byte_eq_int]; exact hbc
            have t1 : ((Wd.depAt s.data.toList k : Int) == 0) = false := by have := h2.resolve_left (by rw [hbc]; simp); simpa using this
            clear hbc h2
            go_wp2_with fail
            refine (refDepth s k _ (by omega) (by omega)).mono ?_
            rintro e w2 ⟨rfl, rfl⟩
            go_wp2_with fail
            go_roundw
            case rel => exact ⟨k + 1, by omega, by go_num, by rw [HN.out, HS.out], by rw [HN.out, HP.out]; exact hown, hb⟩
            case measure => simp [intOf]; omega
          | false =>
            have t2 : ((s[k].toNat : Int) == (c.toNat : Int)) = false := by rw [byte_eq_int]; exact hbc
            clear hbc h2
            go_wp2_with fail
            go_roundw
            case rel => exact ⟨k + 1, by omega, by go_num, by rw [HN.out, HS.out], by rw [HN.out, HP.out]; exact hown, hb⟩
            case measure => simp [intOf]; omega
      · obtain rfl : k = s.size := by omega
        have HP := Lib.hid hP
        have HS := Lib.hid hS
        clear hP hS
        go_wp2_with (at_builtin; refine wpList_push_str rfl _ _ rfl rfl hown (s.extract S s.size) rfl (by omega) hsz hb ?_)
        intro v' w1 ho hb'
        clear hown hb
        go_wp2_with fail
        go_ret
        exact ⟨_, rfl, by rw [hsp.out, show s.data.toList.length = s.size by simp, HP.out, HS.out, slice_eq]; exact ho, hb'⟩

/-- what Lines answers -/
def LinesRes (l : Bs) (w : World) (e : Ending) (w' : World) : Prop := ∃ v, e = .returned (.tuple #[v, .bool (Wd.lines l).2]) ∧ OwnStrs w.heap.size w' v (Wd.lines l).1 ∧ Below w.heap.size w w'
theorem LinesRes.of {l : Bs} {ps : List Bs} {ok : Bool} {w w' : World} {v : Value} (h : Wd.lines l = (ps, ok)) (ho : OwnStrs w.heap.size w' v ps) (hb : Below w.heap.size w w') : LinesRes l w (.returned (.tuple #[v, .bool ok])) w' :=
  ⟨v, by rw [h], by rw [h]; exact ho, hb⟩
theorem lfAt_byte (s : ByteArray) (k : Nat) (h : k < s.size) : Wd.lfAt s.data.toList k = ((s[k].toNat : Int) == 10) := by
  rw [Wd.lfAt, getD_byte s k h, show ((10 : Int)) = ((10 : UInt8).toNat : Int) from rfl, byte_eq_int]
set_option maxHeartbeats 800000 in
set_option maxRecDepth 100000 in
theorem wordLines (s : ByteArray) (w : World) (hs : s.size ≤ 1000000000) :
    Calls Try.prog 18 #[.string s] w (LinesRes s.data.toList w) := by
  go_enter Try.func18, Try.ntmps18
  go_wp2_with fail
  go_step3
  go_wp2_with fail
  go_step3
  go_wp2_with fail
  go_loopg [4, 5] s.size (fun g p st wr => ∃ k P, k + g = s.size ∧ st = .int .i64 (k : Int) ∧ Wd.partsTo (Wd.lfAt s.data.toList) s.data.toList k = (P, k) ∧
      OwnStrs w.heap.size wr p P ∧ Below w.heap.size w wr)
  case atStart => exact ⟨0, [], by omega, rfl, rfl, OwnStrs.nil _ _, Below.refl _ _⟩
  case round =>
    obtain ⟨k, P, hkg, rfl, hPk, hown, hb⟩ := hrel
    have hk : k ≤ s.size := by omega
    have HKG := Lib.hid hkg
    clear hkg
    have hsz := hb.size
    have hpl := Wd.partsTo_len (Wd.lfAt s.data.toList) s.data.toList k
    rw [hPk] at hpl
    have hpl' : P.length ≤ k := hpl
    clear hpl
    have HPK := Lib.hid hPk
    clear hPk
    by_cases hlt : k < s.size
    · go_wp2_with fail
      go_loopg [4, 5, 6] (s.size - k) (fun g' p st i wr' => ∃ j, k ≤ j ∧ j + g' = s.size ∧ i = .int .i64 (j : Int) ∧ st = .int .i64 (k : Int) ∧ OwnStrs w.heap.size wr' p P ∧ Below w.heap.size w wr' ∧ Wd.partsTo (Wd.lfAt s.data.toList) s.data.toList j = (P, k))
      case atStart => exact ⟨k, Nat.le_refl _, by omega, rfl, rfl, hown, hb, HPK.out⟩
      case round =>
        clear hown hb hsz
        obtain ⟨j, hkj, hjg, rfl, rfl, hown, hb, hJ⟩ := hrel
        have hsz := hb.size
        have hj : j ≤ s.size := by omega
        have HJG := Lib.hid hjg
        have HJ := Lib.hid hJ
        clear hjg hJ
        by_cases hjl : j < s.size
        · have hlf := lfAt_byte s j hjl
          cases hf : Wd.lfAt s.data.toList j with
          | true =>
            have t1 : ((s[j].toNat : Int) == 10) = true := by rw [← hlf]; exact hf
            have hy := Wd.partsTo_yes (l := s.data.toList) hf
            rw [HJ.out] at hy
            have HY := Lib.hid hy
            clear hy hlf hf
            go_wp2_with (at_builtin; refine wpList_push_str rfl _ _ rfl rfl hown (s.extract k j) rfl (by omega) hsz hb ?_)
            intro v' w1 ho hb'
            clear hown hb
            go_wp2_with fail
            go_roundg (s.size - (j + 1))
            case rel => exact ⟨j + 1, _, by omega, by go_num, HY.out, by rw [slice_eq]; exact ho, hb'⟩
            case measure => have := HKG.out; omega
          | false =>
            have t1 : ((s[j].toNat : Int) == 10) = false := by rw [← hlf]; exact hf
            have hn := Wd.partsTo_no (l := s.data.toList) hf
            rw [HJ.out] at hn
            have HN := Lib.hid hn
            clear hn hlf hf
            go_wp2_with fail
            go_roundg (s.size - (j + 1))
            case rel => exact ⟨j + 1, by omega, by omega, by go_num, rfl, hown, hb, HN.out⟩
            case measure => have := HJG.out; omega
        · obtain rfl : j = s.size := by omega
          have hbad : Wd.badEnd s.data.toList = true := Wd.badEnd_of_start (by rw [show s.data.toList.length = s.size by simp, HJ.out]; exact hlt)
          have HL := Lib.hid (Wd.lines_bad hbad)
          clear hbad
          go_wp2_with fail
          (try rw [Exit.noGoto_ret])
          go_ret2
          exact LinesRes.of HL.out (OwnStrs.nil _ _) hb
    · obtain rfl : k = s.size := by omega
      have hgood : Wd.badEnd s.data.toList = false := Wd.goodEnd_of_start (by rw [show s.data.toList.length = s.size by simp, HPK.out])
      have hl := Wd.lines_good hgood
      rw [show s.data.toList.length = s.size by simp, HPK.out] at hl
      have HL := Lib.hid hl
      clear hgood hl
      go_wp2_with fail
      (try rw [Exit.noGoto_ret])
      go_ret2
      exact LinesRes.of HL.out hown hb
set_option maxHeartbeats 800000 in
set_option maxRecDepth 100000 in
theorem refLines (s : ByteArray) (w : World) (hs : s.size ≤ 1000000000) :
    Calls Try.prog 19 #[.string s] w (LinesRes s.data.toList w) := by
  have hlen : s.data.toList.length = s.size := by simp
  cases hbd : Wd.badEnd s.data.toList with
  | true =>
    have HL := Lib.hid (Wd.lines_bad hbd)
    have h2 : s.data.toList ≠ [] ∧ s.data.toList.getD (s.size - 1) 0 ≠ 10 := by simpa [Wd.badEnd] using hbd
    have hpos : 0 < s.size := by rw [← hlen]; exact List.length_pos_iff.2 h2.1
    have hi : (((s[s.size - 1]'(Nat.sub_lt hpos (by omega))).toNat : Int) == 10) = false := by
      have := lfAt_byte s (s.size - 1) (by omega)
      rw [← this]
      simpa [Wd.lfAt] using h2.2
    have e1 : (s.toList == []) = false := by rw [Lib.toList_data]; simpa using h2.1
    have hne : s ≠ ByteArray.empty := by rintro rfl; simp at hpos
    have H2 := Lib.hid h2
    have HLEN := Lib.hid hlen
    clear hbd h2 hlen
    go_enter Try.func19, Try.ntmps19
    go_wp2_with fail
    go_ret2
    exact LinesRes.of HL.out (OwnStrs.nil _ _) (Below.refl _ _)
  | false =>
    have hl := Wd.lines_good hbd
    have hend := Wd.start_of_goodEnd hbd
    rw [hlen] at hl hend
    have HL := Lib.hid hl
    have HEND := Lib.hid hend
    have hcase : s.toList = [] ∨ (s.toList ≠ [] ∧ 0 < s.size ∧ s.data.toList.getD (s.size - 1) 0 = 10) := by
      rw [Lib.toList_data]
      by_cases h0 : s.data.toList = []
      · exact .inl h0
      · refine .inr ⟨h0, by rw [← hlen]; exact List.length_pos_iff.2 h0, ?_⟩
        have h0' : ¬ s.data = #[] := fun e => h0 (by rw [e])
        simpa [Wd.badEnd, h0'] using hbd
    have HLEN := Lib.hid hlen
    clear hbd hl hend hlen
    have key : (s.toList == []) = true ∨ (∃ hpos : 0 < s.size, (s.toList == []) = false ∧ (((s[s.size - 1]'(Nat.sub_lt hpos (by omega))).toNat : Int) != 10) = false) := by
      rcases hcase with h | ⟨h1, h2, h3⟩
      · exact .inl (by simp [h])
      · refine .inr ⟨h2, by simpa using h1, ?_⟩
        have := lfAt_byte s (s.size - 1) (by omega)
        rw [bne, ← this, Bool.not_eq_false']
        simpa [Wd.lfAt] using h3
    clear hcase
    rcases key with e1 | ⟨hpos, e1, hi⟩
    all_goals
      go_enter Try.func19, Try.ntmps19
      go_wp2_with fail
      go_loopw [4, 5, 6] (fun p st i wr => ∃ (k : Nat) (P : List Bs) (S : Nat), k ≤ s.size ∧ i = .int .i64 (k : Int) ∧ st = .int .i64 (S : Int) ∧ Wd.partsTo (Wd.lfAt s.data.toList) s.data.toList k = (P, S) ∧
        OwnStrs w.heap.size wr p P ∧ Below w.heap.size w wr) (fun _ _ i _ => s.size - (intOf i).toNat)
      case atStart => exact ⟨0, [], 0, Nat.zero_le _, rfl, rfl, rfl, OwnStrs.nil _ _, Below.refl _ _⟩
      case round =>
        obtain ⟨k, P, S, hk, rfl, rfl, hPk, hown, hb⟩ := hrel
        have hsz := hb.size
        have hpl := Wd.partsTo_len (Wd.lfAt s.data.toList) s.data.toList k
        have hst := Wd.partsTo_start (Wd.lfAt s.data.toList) s.data.toList k
        rw [hPk] at hpl hst
        have hpl' : P.length ≤ k := hpl
        have hst' : S ≤ k := hst
        clear hpl hst
        have HPK := Lib.hid hPk
        clear hPk
        by_cases hlt : k < s.size
        · have hlf := lfAt_byte s k hlt
          cases hf : Wd.lfAt s.data.toList k with
          | true =>
            have t1 : ((s[k].toNat : Int) == 10) = true := by rw [← hlf]; exact hf
            have hy := Wd.partsTo_yes (l := s.data.toList) hf
            rw [HPK.out] at hy
            have HY := Lib.hid hy
            clear hy hlf hf
            go_wp2_with (at_builtin; refine wpList_push_str rfl _ _ rfl rfl hown (s.extract S k) rfl (by omega) hsz hb ?_)
            intro v' w1 ho hb'
            clear hown hb
            go_wp2_with fail
            go_roundw
            case rel => exact ⟨k + 1, _, k + 1, by omega, by go_num, by go_num, HY.out, by rw [slice_eq]; exact ho, hb'⟩
            case measure => simp [intOf]; omega
          | false =>
            have t1 : ((s[k].toNat : Int) == 10) = false := by rw [← hlf]; exact hf
            have hn := Wd.partsTo_no (l := s.data.toList) hf
            rw [HPK.out] at hn
            have HN := Lib.hid hn
            clear hn hlf hf
            go_wp2_with fail
            go_roundw
            case rel => exact ⟨k + 1, P, S, by omega, by go_num, rfl, HN.out, hown, hb⟩
            case measure => simp [intOf]; omega
        · obtain rfl : k = s.size := by omega
          have hl2 := HL.out
          rw [HPK.out] at hl2
          have HL2 := Lib.hid hl2
          clear hl2
          go_wp2_with fail
          go_ret2
          exact LinesRes.of HL2.out hown hb
end Go.Proofs.Ytioedokokmjldaa
