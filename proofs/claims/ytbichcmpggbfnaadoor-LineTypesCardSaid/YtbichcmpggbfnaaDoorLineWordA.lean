/-
  CONTRACTS OF LAYER 2 (word) AND OF ITS REFERENCE, those that layer 10 reaches: letters, digits, depths; Split. By an AI agent.
-/
import Derived.Test.YtbichcmpggbfnaaDoorWordPlain
import Derived.Test.YtbichcmpggbfnaaDoorStrs
import Derived.WalkKit
import Derived.WalkLawsBesides
import Derived.BigQuiet
import Derived.Deep.QuietTactic
import Derived.Handy
import Derived.Lib.Hide
import Derived.Lib.SlicesS
import Derived.WalkSmall
import Derived.Laws.IdiomStrings
import Derived.WalkSpells
import Derived.Lib.Strings
import Derived.WalkMore
import Derived.Deep.LoopGhost
import Derived.IntWalk
namespace Go.Proofs.YtbichcmpggbfnaaDoor
open Go.RowKit
open Wd (Bs)


theorem ret_int {k : IntKind} {a b : Int} (h : a = b) : Ending.returned (.int k a) = .returned (.int k b) := by rw [h]
theorem ret_bool {a b : Bool} (h : a = b) : Ending.returned (.bool a) = .returned (.bool b) := by rw [h]
theorem u8_ne {c : UInt8} {k : Nat} (hk : k < 256) (h : c ≠ UInt8.ofNat k) : (c.toNat : Int) ≠ k := by
  intro e
  exact h (UInt8.toNat_inj.1 (by rw [UInt8.toNat_ofNat_of_lt' (by simpa using hk)]; omega))

set_option maxRecDepth 100000 in
theorem wordIsLetter (c : UInt8) (w : World) :
    Calls Tryd.prog 48 #[.int .u8 c.toNat] w fun e w' => e = .returned (.bool (Wd.low c)) ∧ w = w' := by
  have hc := UInt8.toNat_lt c
  by_cases h1 : 97 ≤ (c.toNat : Int) <;> by_cases h2 : (c.toNat : Int) ≤ 122
  all_goals
    go_enter Tryd.func48, Tryd.ntmps48
    go_wp2
    go_ret
    exact ⟨ret_bool (by simp [Wd.low]; omega), rfl⟩
set_option maxRecDepth 100000 in
theorem refLow (c : UInt8) (w : World) :
    Calls Tryd.prog 51 #[.int .u8 c.toNat] w fun e w' => e = .returned (.bool (Wd.low c)) ∧ w = w' := by
  have hc := UInt8.toNat_lt c
  by_cases h1 : 97 ≤ (c.toNat : Int) <;> by_cases h2 : (c.toNat : Int) ≤ 122
  all_goals
    go_enter Tryd.func51, Tryd.ntmps51
    go_wp2
    go_ret
    exact ⟨ret_bool (by simp [Wd.low]; omega), rfl⟩
set_option maxRecDepth 100000 in
theorem wordIsDigit (c : UInt8) (w : World) :
    Calls Tryd.prog 50 #[.int .u8 c.toNat] w fun e w' => e = .returned (.bool (Wd.dig c)) ∧ w = w' := by
  have hc := UInt8.toNat_lt c
  by_cases h1 : 48 ≤ (c.toNat : Int) <;> by_cases h2 : (c.toNat : Int) ≤ 57
  all_goals
    go_enter Tryd.func50, Tryd.ntmps50
    go_wp2
    go_ret
    exact ⟨ret_bool (by simp [Wd.dig]; omega), rfl⟩
theorem brk_false {c : UInt8} (h1 : (c.toNat : Int) ≠ 40) (h2 : (c.toNat : Int) ≠ 41) (h3 : (c.toNat : Int) ≠ 91) (h4 : (c.toNat : Int) ≠ 93) : Wd.brk c = false := by
  have e1 : c ≠ 40 := fun e => h1 (by rw [e]; rfl)
  have e2 : c ≠ 41 := fun e => h2 (by rw [e]; rfl)
  have e3 : c ≠ 91 := fun e => h3 (by rw [e]; rfl)
  have e4 : c ≠ 93 := fun e => h4 (by rw [e]; rfl)
  simp [Wd.brk, e1, e2, e3, e4]
theorem stepD_open {d : Nat} {c : UInt8} (h : c = 40 ∨ c = 91) : Wd.stepD d c = d + 1 := by simp [Wd.stepD, h]
theorem stepD_close {d : Nat} {c : UInt8} (h : c = 41 ∨ c = 93) : Wd.stepD d c = d - 1 := by
  rcases h with rfl | rfl <;> simp [Wd.stepD]
theorem stepD_else {d : Nat} {c : UInt8} (h1 : (c.toNat : Int) ≠ 40) (h2 : (c.toNat : Int) ≠ 41) (h3 : (c.toNat : Int) ≠ 91) (h4 : (c.toNat : Int) ≠ 93) : Wd.stepD d c = d := Wd.stepD_plain (brk_false h1 h2 h3 h4)
set_option maxRecDepth 100000 in
theorem wordDepthAfter (d : Nat) (c : UInt8) (w : World) (hd : d ≤ 1000000000000) :
    Calls Tryd.prog 60 #[.int .i64 d, .int .u8 c.toNat] w fun e w' => e = .returned (.int .i64 (Wd.stepD d c)) ∧ w = w' := by
  have hd' : (d : Int) ≤ 1000000000000 := by omega
  by_cases k1 : c = 40 ∨ c = 91
  · have hs := Lib.hid (stepD_open (d := d) k1)
    rcases k1 with k1 | k1
    all_goals
      subst k1
      go_enter Tryd.func60, Tryd.ntmps60
      go_wp2
      go_ret
      exact ⟨ret_int (by rw [hs.out]; omega), rfl⟩
  by_cases k2 : c = 41 ∨ c = 93
  · have hs := Lib.hid (stepD_close (d := d) k2)
    rcases k2 with k2 | k2
    all_goals
      subst k2
      go_enter Tryd.func60, Tryd.ntmps60
      go_wp2
      all_goals
        go_ret
        exact ⟨ret_int (by rw [hs.out]; omega), rfl⟩
  have h1 : (c.toNat : Int) ≠ 40 := u8_ne (k := 40) (by omega) fun e => k1 (.inl e)
  have h2 : (c.toNat : Int) ≠ 41 := u8_ne (k := 41) (by omega) fun e => k2 (.inl e)
  have h3 : (c.toNat : Int) ≠ 91 := u8_ne (k := 91) (by omega) fun e => k1 (.inr e)
  have h4 : (c.toNat : Int) ≠ 93 := u8_ne (k := 93) (by omega) fun e => k2 (.inr e)
  have hs := Lib.hid (stepD_else (d := d) h1 h2 h3 h4)
  have e1 : ((c.toNat : Int) == 40) = false := by simpa using h1
  have e2 : ((c.toNat : Int) == 41) = false := by simpa using h2
  have e3 : ((c.toNat : Int) == 91) = false := by simpa using h3
  have e4 : ((c.toNat : Int) == 93) = false := by simpa using h4
  clear k1 k2
  go_enter Tryd.func60, Tryd.ntmps60
  go_wp2
  go_ret
  exact ⟨ret_int (by rw [hs.out]), rfl⟩
/-- what a walk asks of a byte before it steps on: the four tests, and where the depth goes -/
def Tests (c : UInt8) (a b x y : Bool) : Prop := ((c.toNat : Int) == 40) = a ∧ ((c.toNat : Int) == 91) = b ∧ ((c.toNat : Int) == 41) = x ∧ ((c.toNat : Int) == 93) = y
theorem brk_cases (c : UInt8) (d : Nat) : (Tests c true false false false ∧ Wd.stepD d c = d + 1) ∨ (Tests c false true false false ∧ Wd.stepD d c = d + 1) ∨
    (Tests c false false true false ∧ Wd.stepD d c = d - 1) ∨ (Tests c false false false true ∧ Wd.stepD d c = d - 1) ∨ (Tests c false false false false ∧ Wd.stepD d c = d) := by
  by_cases k1 : c = 40
  · subst k1; exact .inl ⟨⟨rfl, rfl, rfl, rfl⟩, stepD_open (.inl rfl)⟩
  by_cases k2 : c = 91
  · subst k2; exact .inr (.inl ⟨⟨rfl, rfl, rfl, rfl⟩, stepD_open (.inr rfl)⟩)
  by_cases k3 : c = 41
  · subst k3; exact .inr (.inr (.inl ⟨⟨rfl, rfl, rfl, rfl⟩, stepD_close (.inl rfl)⟩))
  by_cases k4 : c = 93
  · subst k4; exact .inr (.inr (.inr (.inl ⟨⟨rfl, rfl, rfl, rfl⟩, stepD_close (.inr rfl)⟩)))
  have h1 : (c.toNat : Int) ≠ 40 := u8_ne (k := 40) (by omega) k1
  have h2 : (c.toNat : Int) ≠ 41 := u8_ne (k := 41) (by omega) k3
  have h3 : (c.toNat : Int) ≠ 91 := u8_ne (k := 91) (by omega) k2
  have h4 : (c.toNat : Int) ≠ 93 := u8_ne (k := 93) (by omega) k4
  exact .inr (.inr (.inr (.inr ⟨⟨by simpa using h1, by simpa using h3, by simpa using h2, by simpa using h4⟩, stepD_else h1 h2 h3 h4⟩)))
theorem getD_byte (s : ByteArray) (k : Nat) (h : k < s.size) : s.data.toList.getD k 0 = s[k] := by
  have h' : k < s.data.toList.length := by simpa using h
  simp only [List.getD, List.getElem?_eq_getElem h', Option.getD_some, Array.getElem_toList]
  rfl
theorem depAt_byte (s : ByteArray) (k : Nat) (h : k < s.size) : Wd.depAt s.data.toList (k + 1) = Wd.stepD (Wd.depAt s.data.toList k) s[k] := by
  show Wd.stepD _ _ = _
  rw [getD_byte s k h]
set_option maxHeartbeats 400000 in
set_option maxRecDepth 100000 in
theorem refDepth (s : ByteArray) (n : Nat) (w : World) (hn : n ≤ s.size) (hs : s.size ≤ 1000000000000) :
    Calls Tryd.prog 53 #[.string s, .int .i64 n] w fun e w' => e = .returned (.int .i64 (Wd.depAt s.data.toList n)) ∧ w = w' := by
  go_enter Tryd.func53, Tryd.ntmps53
  go_wp2
  go_loop [5, 6] (fun d i => ∃ k : Nat, k ≤ n ∧ i = .int .i64 k ∧ d = .int .i64 (Wd.depAt s.data.toList k)) (fun _ i => n - (intOf i).toNat)
  case atStart => exact ⟨0, Nat.zero_le _, rfl, rfl⟩
  case round =>
    obtain ⟨k, hk, rfl, rfl⟩ := hrel
    have hle := Wd.depAt_le s.data.toList k
    by_cases hlt : k < n
    · have hks : k < s.size := by omega
      have hb := Lib.hid (depAt_byte s k hks)
      by_cases hz : 0 < Wd.depAt s.data.toList k
      all_goals
        rcases brk_cases s[k] (Wd.depAt s.data.toList k) with ⟨⟨q1, q2, q3, q4⟩, hs'⟩ | ⟨⟨q1, q2, q3, q4⟩, hs'⟩ | ⟨⟨q1, q2, q3, q4⟩, hs'⟩ | ⟨⟨q1, q2, q3, q4⟩, hs'⟩ | ⟨⟨q1, q2, q3, q4⟩, hs'⟩
        all_goals
          have HS := Lib.hid hs'
          clear hs'
          go_wp2
          go_round
          case rel => exact ⟨k + 1, by omega, by go_num, by rw [hb.out, HS.out] <;> go_num⟩
          case measure => simp [intOf]; omega
    · obtain rfl : k = n := by omega
      go_wp2
      go_ret
      exact ⟨rfl, rfl⟩

/-- a row's value as a byte array -/
theorem exists_bytes (x : Bs) : ∃ s : ByteArray, s.data.toList = x ∧ str x = .string s := ⟨⟨x.toArray⟩, rfl, rfl⟩
theorem bytes_ne {a b : ByteArray} (h : a.data.toList ≠ b.data.toList) : (a.toList == b.toList) = false := (Lib.bytes_beq_false_iff a b).2 fun e => h (by rw [e])
theorem bytes_eq {a b : ByteArray} (h : a.data.toList = b.data.toList) : (a.toList == b.toList) = true := (Lib.bytes_beq_iff a b).2 (by cases a; cases b; congr; exact Array.toList_inj.1 h)
/-- a list of strings as byte arrays -/
def ba (x : Bs) : ByteArray := ⟨x.toArray⟩
def idx (l : List Bs) (x : Bs) : Int := Lib.idxOfS (l.map ba) (ba x)
theorem ba_inj {x y : Bs} (h : ba x = ba y) : x = y := by
  unfold ba at h
  injection h with h
  simpa using congrArg Array.toList h
theorem idx_hit {l : List Bs} {k : Nat} {x : Bs} (hk : l[k]? = some x) (hn : ∀ j y, j < k → l[j]? = some y → y ≠ x) : idx l x = k := by
  obtain ⟨h1, rfl⟩ := List.getElem?_eq_some_iff.1 hk
  have := Lib.idxOfS_hit (l.map ba) l.length k (ba l[k]) h1 (by simp) (by simp [List.getD, h1]) (fun j hj => by
    simp only [List.getD, List.getElem?_map, List.getElem?_eq_getElem (show j < l.length by omega), Option.map_some, Option.getD_some]
    intro e
    exact hn j _ hj (List.getElem?_eq_getElem _) (ba_inj e))
  rw [List.take_of_length_le (by simp)] at this
  exact this
theorem idx_miss {l : List Bs} {x : Bs} (hn : ∀ j y, j < l.length → l[j]? = some y → y ≠ x) : idx l x = -1 := by
  have := Lib.idxOfS_miss (l.map ba) l.length (ba x) (fun j hj => by
    simp only [List.getD, List.getElem?_map, List.getElem?_eq_getElem hj, Option.map_some, Option.getD_some]
    intro e
    exact hn j _ hj (List.getElem?_eq_getElem _) (ba_inj e))
  rw [List.take_of_length_le (by simp)] at this
  exact this
theorem idx_mem {l : List Bs} {x : Bs} : 0 ≤ idx l x ↔ x ∈ l := by
  unfold idx
  rw [Lib.idxOfS_nonneg_iff, List.mem_map]
  constructor
  · rintro ⟨y, hy, e⟩; rw [← ba_inj e]; exact hy
  · intro h; exact ⟨x, h, rfl⟩
def NotTo (l : List Bs) (x : Bs) (k : Nat) : Prop := ∀ j y, j < k → l[j]? = some y → y ≠ x
theorem NotTo.next {l : List Bs} {x y : Bs} {k : Nat} (h : NotTo l x k) (hk : l[k]? = some y) (hy : y ≠ x) : NotTo l x (k + 1) := by
  intro j z hj hz
  by_cases e : j = k
  · subst e; rw [hk] at hz; injection hz with hz; subst hz; exact hy
  · exact h j z (by omega) hz

theorem extract_slice (s : ByteArray) (a b : Nat) : (s.extract a b).data.toList = Wd.slice s.data.toList a b := by
  rw [ByteArray.data_extract, Array.toList_extract]
  unfold Wd.slice List.extract
  rw [List.drop_take]
theorem slice_eq (l : Bs) (a b : Nat) : Wd.slice l a b = (l.drop a).take (b - a) := by unfold Wd.slice; rw [List.drop_take]
theorem sepAt_byte (s : ByteArray) (c : UInt8) (k : Nat) (h : k < s.size) : Wd.sepAt s.data.toList c k = (s[k] == c && Wd.depAt s.data.toList k == 0) := by
  rw [Wd.sepAt, getD_byte s k h]
theorem byte_eq_int (a c : UInt8) : ((a.toNat : Int) == (c.toNat : Int)) = (a == c) := by
  rw [Bool.eq_iff_iff]
  simp [← UInt8.toNat_inj]
  omega
/-- a list of strings is what the call returns, in new memory -/
def StrsRes (l : List Bs) (w : World) (e : Ending) (w' : World) : Prop := ∃ v, e = .returned v ∧ OwnStrs w.heap.size w' v l ∧ Below w.heap.size w w'
theorem split_brk {l : Bs} {c : UInt8} (h : Wd.brk c = true) : Wd.split l c = [l] := by simp [Wd.split, h]
theorem split_plain {l : Bs} {c : UInt8} (h : Wd.brk c = false) : Wd.split l c = (Wd.partsTo (Wd.sepAt l c) l l.length).1 ++ [Wd.slice l (Wd.partsTo (Wd.sepAt l c) l l.length).2 l.length] := by simp [Wd.split, h]
theorem lit_one (w : World) (s : ByteArray) : OwnStrs w.heap.size (w.alloc (.cells #[.string s] 9)) (.slice (some ⟨w.heap.size, 0, none⟩) 1 1) [s.data.toList] := OwnStrs.lit w [s.data.toList] (by simp)

theorem brk_tests {c : UInt8} (h : Wd.brk c = false) : ((c.toNat : Int) == 40) = false ∧ ((c.toNat : Int) == 41) = false ∧ ((c.toNat : Int) == 91) = false ∧ ((c.toNat : Int) == 93) = false := by
  simp [Wd.brk] at h
  obtain ⟨⟨⟨h1, h2⟩, h3⟩, h4⟩ := h
  refine ⟨?_, ?_, ?_, ?_⟩
  · simpa using u8_ne (k := 40) (by omega) h1
  · simpa using u8_ne (k := 41) (by omega) h2
  · simpa using u8_ne (k := 91) (by omega) h3
  · simpa using u8_ne (k := 93) (by omega) h4
theorem brk_is {c : UInt8} (h : Wd.brk c = true) : c = 40 ∨ c = 41 ∨ c = 91 ∨ c = 93 := by
  simp [Wd.brk] at h
  rcases h with ((h | h) | h) | h
  · exact .inl h
  · exact .inr (.inl h)
  · exact .inr (.inr (.inl h))
  · exact .inr (.inr (.inr h))
set_option maxHeartbeats 800000 in
set_option maxRecDepth 100000 in
theorem refSplit (s : ByteArray) (c : UInt8) (w : World) (hs : s.size ≤ 1000000000) :
    Calls Tryd.prog 40 #[.string s, .int .u8 c.toNat] w (StrsRes (Wd.split s.data.toList c) w) := by
  cases hbk : Wd.brk c with
  | true =>
    have hsp := Lib.hid (split_brk (l := s.data.toList) hbk)
    rcases brk_is hbk with hb | hb | hb | hb
    all_goals
      subst hb
      clear hbk
      go_enter Tryd.func40, Tryd.ntmps40
      go_wp2_with fail
      go_ret
      exact ⟨_, rfl, by rw [hsp.out]; exact lit_one _ _, (Below.refl _ _).alloc (Nat.le_refl _) _⟩
  | false =>
    have hsp := Lib.hid (split_plain (l := s.data.toList) hbk)
    obtain ⟨b1, b2, b3, b4⟩ := brk_tests hbk
    clear hbk
    go_enter Tryd.func40, Tryd.ntmps40
    go_wp2_with fail
    go_loopw [5, 6, 7] (fun p st i wr => ∃ k : Nat, k ≤ s.size ∧ i = .int .i64 (k : Int) ∧ st = .int .i64 ((Wd.partsTo (Wd.sepAt s.data.toList c) s.data.toList k).2 : Int) ∧
      OwnStrs w.heap.size wr p (Wd.partsTo (Wd.sepAt s.data.toList c) s.data.toList k).1 ∧ Below w.heap.size w wr) (fun _ _ i _ => s.size - (intOf i).toNat)
    case atStart => exact ⟨0, Nat.zero_le _, rfl, rfl, OwnStrs.nil _ _, Below.refl _ _⟩
    case round =>
      obtain ⟨k, hk, rfl, rfl, hown, hb⟩ := hrel
      have hsz := hb.size
      have hst := Wd.partsTo_start (Wd.sepAt s.data.toList c) s.data.toList k
      have hpl := Wd.partsTo_len (Wd.sepAt s.data.toList c) s.data.toList k
      generalize hP : (Wd.partsTo (Wd.sepAt s.data.toList c) s.data.toList k).1 = P at *
      generalize hS : (Wd.partsTo (Wd.sepAt s.data.toList c) s.data.toList k).2 = S at *
      by_cases hlt : k < s.size
      · have hsep := sepAt_byte s c k hlt
        cases hf : Wd.sepAt s.data.toList c k with
        | true =>
          have hyes := Wd.partsTo_yes (l := s.data.toList) hf
          rw [hP, hS] at hyes
          rw [hf] at hsep
          have h2 := Bool.and_eq_true_iff.1 hsep.symm
          have t1 : ((Wd.depAt s.data.toList k : Int) == 0) = true := by have := h2.2; simp at this; simp [this]
          have t2 : ((s[k].toNat : Int) == (c.toNat : Int)) = true := by rw [byte_eq_int]; exact h2.1
          have HY := Lib.hid hyes
          clear hyes hsep h2 hf hP hS
          go_wp2_with fail
          refine (refDepth s k _ (by omega) (by omega)).mono ?_
          rintro e w2 ⟨rfl, rfl⟩
          go_wp2_with (at_builtin; refine wpList_push_str rfl _ _ rfl rfl hown (s.extract S k) rfl (by omega) hsz hb ?_)
          intro v' w1 ho hb'
          clear hown hb
          go_wp2_with fail
          go_roundw
          case rel => exact ⟨k + 1, by omega, by go_num, by rw [HY.out]; go_num, by rw [HY.out, slice_eq]; exact ho, hb'⟩
          case measure => simp [intOf]; omega
        | false =>
          have hno := Wd.partsTo_no (l := s.data.toList) hf
          rw [hf] at hsep
          have h2 : (s[k] == c) = false ∨ (Wd.depAt s.data.toList k == 0) = false := by
            cases h : (s[k] == c) with
            | false => exact .inl rfl
            | true => rw [h] at hsep; exact .inr (by simpa using hsep.symm)
          have HN := Lib.hid hno
          have HP := Lib.hid hP
          have HS := Lib.hid hS
          clear hno hsep hf hP hS
          cases hbc : (s[k] == c) with
          | true =>
            have t2 : ((s[k].toNat : Int) == (c.toNat : Int)) = true := by rw [byte_eq_int]; exact hbc
            have t1 : ((Wd.depAt s.data.toList k : Int) == 0) = false := by have := h2.resolve_left (by rw [hbc]; simp); simpa using this
            clear hbc h2
            go_wp2_with fail
            refine (refDepth s k _ (by omega) (by omega)).mono ?_
            rintro e w2 ⟨rfl, rfl⟩
            go_wp2_with fail
            go_roundw
            case rel => exact ⟨k + 1, by omega, by go_num, by rw [HN.out, HS.out], by rw [HN.out, HP.out]; exact hown, hb⟩
            case measure => simp [intOf]; omega
          | false =>
            have t2 : ((s[k].toNat : Int) == (c.toNat : Int)) = false := by rw [byte_eq_int]; exact hbc
            clear hbc h2
            go_wp2_with fail
            go_roundw
            case rel => exact ⟨k + 1, by omega, by go_num, by rw [HN.out, HS.out], by rw [HN.out, HP.out]; exact hown, hb⟩
            case measure => simp [intOf]; omega
      · obtain rfl : k = s.size := by omega
        have HP := Lib.hid hP
        have HS := Lib.hid hS
        clear hP hS
        go_wp2_with (at_builtin; refine wpList_push_str rfl _ _ rfl rfl hown (s.extract S s.size) rfl (by omega) hsz hb ?_)
        intro v' w1 ho hb'
        clear hown hb
        go_wp2_with fail
        go_ret
        exact ⟨_, rfl, by rw [hsp.out, show s.data.toList.length = s.size by simp, HP.out, HS.out, slice_eq]; exact ho, hb'⟩

end Go.Proofs.YtbichcmpggbfnaaDoor
