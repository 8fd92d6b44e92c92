/-
  PLAIN TEXTS OF LAYER 1 (num): the numeral of a number, and the number of a numeral; no program in it. By an AI agent.
-/
import Derived.Test.YtokenooggmnbaaaDoorNumPlain
import Derived.Lib.AtoiAllCases
import Derived.Lib.Atoi
import Derived.Lib.Strings
namespace Go.Proofs.YtokenooggmnbaaaDoor.Num
open Go

theorem digitVal_dig (k : Nat) : Lib.digitVal (UInt8.ofNat (48 + k % 10)) = some (k % 10) := by
  have h : (UInt8.ofNat (48 + k % 10)).toNat = 48 + k % 10 := by simp; omega
  unfold Lib.digitVal
  rw [h, if_pos (by omega)]
  congr 1
  omega
theorem decFrom_snoc (b : UInt8) : ∀ (l : List UInt8) (acc : Nat), Lib.decFrom acc (l ++ [b]) = (Lib.decFrom acc l).bind fun m => (Lib.digitVal b).map fun d => m * 10 + d
  | [], acc => by
    simp only [List.nil_append, Lib.decFrom, Option.bind_some]
    cases Lib.digitVal b <;> rfl
  | c :: r, acc => by
    simp only [List.cons_append, Lib.decFrom]
    cases Lib.digitVal c with
    | none => rfl
    | some d => exact decFrom_snoc b r _
theorem decFrom_decDigits (u : Nat) : Lib.decFrom 0 (Lib.decDigits u) = some u := by
  induction u using Nat.strongRecOn with
  | _ u ih =>
    rw [Lib.decDigits]
    split
    · rename_i h
      have := digitVal_dig u
      rw [Nat.mod_eq_of_lt h] at this
      simp only [Lib.decFrom, this]
      simp
    · rename_i h
      rw [decFrom_snoc, ih (u / 10) (by omega), digitVal_dig]
      simp only [Option.bind_some, Option.map_some]
      congr 1
      omega
theorem decFrom_le : ∀ (l : List UInt8) (acc m : Nat), Lib.decFrom acc l = some m → acc ≤ m
  | [], acc, m, h => by simp only [Lib.decFrom] at h; injection h with h; omega
  | c :: r, acc, m, h => by
    simp only [Lib.decFrom] at h
    split at h
    · have := decFrom_le r _ m h; omega
    · cases h
theorem parseUint10_of : ∀ (l : List UInt8) (acc m : Nat), Lib.decFrom acc l = some m → m < 18446744073709551616 → Lib.parseUint10 acc l = .ok m
  | [], acc, m, h, _ => by simp only [Lib.decFrom] at h; injection h with h; subst h; rfl
  | c :: r, acc, m, h, hm => by
    simp only [Lib.decFrom] at h
    split at h
    · rename_i d hd
      have hle := decFrom_le r _ m h
      unfold Lib.digitVal at hd
      split at hd
      · rename_i hc
        injection hd with hd
        subst hd
        simp only [Lib.parseUint10]
        rw [if_pos hc, if_neg (by omega), if_neg (by omega)]
        exact parseUint10_of r _ m h hm
      · cases hd
    · cases h
theorem decDigits_ne (u : Nat) : Lib.decDigits u ≠ [] := by
  rw [Lib.decDigits]; split <;> simp
theorem decDigits_digit (u : Nat) : ∀ b ∈ Lib.decDigits u, 48 ≤ b.toNat ∧ b.toNat ≤ 57 := by
  induction u using Nat.strongRecOn with
  | _ u ih =>
    intro b hb
    rw [Lib.decDigits] at hb
    split at hb
    · rename_i h
      simp only [List.mem_singleton] at hb
      subst hb
      have e : (UInt8.ofNat (48 + u)).toNat = 48 + u := by simp; omega
      rw [e]; omega
    · rename_i h
      simp only [List.mem_append, List.mem_singleton] at hb
      rcases hb with hb | hb
      · exact ih (u / 10) (by omega) b hb
      · subst hb
        have e : (UInt8.ofNat (48 + u % 10)).toNat = 48 + u % 10 := by simp; omega
        rw [e]; omega
theorem itoa_nonneg {n : Int} (h : 0 ≤ n) : Lib.itoa n = Lib.decDigits n.toNat := by unfold Lib.itoa; rw [if_neg (by omega)]
theorem itoa_neg {n : Int} (h : n < 0) : Lib.itoa n = [45] ++ Lib.decDigits (-n).toNat := by
  unfold Lib.itoa; rw [if_pos h, show n.natAbs = (-n).toNat by omega]; rfl
/-- Atoi reads what Itoa writes. -/
theorem atoiAll_itoa {n : Int} (h0 : -9223372036854775808 ≤ n) (h1 : n ≤ 9223372036854775807) : Lib.atoiAll (Lib.itoa n) = .ok n := by
  rcases Int.lt_or_le n 0 with hn | hn
  · have hp : Lib.parseMag (Lib.decDigits (-n).toNat) = .ok (-n).toNat := by
      unfold Lib.parseMag
      rw [if_neg (decDigits_ne _)]
      exact parseUint10_of _ _ _ (decFrom_decDigits _) (by omega)
    rw [itoa_neg hn]
    simp only [List.cons_append, List.nil_append, Lib.atoiAll]
    rw [if_pos (by decide), hp]
    simp only []
    rw [if_neg (by simp), if_neg (by omega), if_pos (by decide)]
    congr 1
    omega
  · have hp : Lib.parseMag (Lib.decDigits n.toNat) = .ok n.toNat := by
      unfold Lib.parseMag
      rw [if_neg (decDigits_ne _)]
      exact parseUint10_of _ _ _ (decFrom_decDigits _) (by omega)
    rw [itoa_nonneg hn]
    have hd := decDigits_digit n.toNat
    have hne := decDigits_ne n.toNat
    generalize Lib.decDigits n.toNat = l at *
    cases l with
    | nil => exact absurd rfl hne
    | cons c r =>
      have hc := hd c (by simp)
      simp only [Lib.atoiAll]
      rw [if_neg (by omega), hp]
      simp only []
      rw [if_neg (by omega), if_neg (by omega), if_neg (by omega)]
      congr 1
      omega

/-- The number from -1000000 to 1000000 whose numeral is l. -/
def numberL (l : List UInt8) : Option Int :=
  match Lib.atoiAll l with
  | .ok n => if -1000000 ≤ n ∧ n ≤ 1000000 ∧ Lib.itoa n = l then some n else none
  | _ => none
theorem numberL_some {l : List UInt8} {n : Int} : numberL l = some n ↔ (-1000000 ≤ n ∧ n ≤ 1000000 ∧ Lib.itoa n = l) := by
  constructor
  · intro h
    unfold numberL at h
    split at h
    · split at h
      · injection h with h; subst h; assumption
      · cases h
    · cases h
  · rintro ⟨h0, h1, rfl⟩
    unfold numberL
    rw [atoiAll_itoa (by omega) (by omega)]
    simp only []
    rw [if_pos ⟨h0, h1, trivial⟩]
theorem numberL_none {l : List UInt8} (h : ∀ n, -1000000 ≤ n → n ≤ 1000000 → Lib.itoa n = l → False) : numberL l = none := by
  cases hn : numberL l with
  | none => rfl
  | some n => obtain ⟨h0, h1, h2⟩ := numberL_some.1 hn; exact (h n h0 h1 h2).elim
theorem numberL_ok {l : List UInt8} {n : Int} (h : Lib.atoiAll l = .ok n) : numberL l = if -1000000 ≤ n ∧ n ≤ 1000000 ∧ Lib.itoa n = l then some n else none := by
  unfold numberL; rw [h]
theorem numberL_bad {l : List UInt8} (h : Lib.atoiAll l = Lib.NumEnd.syntax) : numberL l = none := by unfold numberL; rw [h]
theorem numberL_range {l : List UInt8} (h : Lib.atoiAll l = .range) : numberL l = none := by unfold numberL; rw [h]
theorem itoa_injective {a b : Int} (a0 : -9223372036854775808 ≤ a) (a1 : a ≤ 9223372036854775807) (b0 : -9223372036854775808 ≤ b) (b1 : b ≤ 9223372036854775807) (h : Lib.itoa a = Lib.itoa b) : a = b := by
  have ha := atoiAll_itoa a0 a1
  rw [h, atoiAll_itoa b0 b1] at ha
  injection ha with ha
  exact ha.symm

/-! the numerals of numbers in the range: their shape -/
theorem small_len {n : Nat} (h : n ≤ 1000000) : (Lib.decDigits n).length ≤ 7 := decDigits_len 6 n (by omega)
/-- what the reference's scan knows of l: 'neg' says that it begins with '-', 'r' what is behind the sign -/
theorem shape_neg {r : List UInt8} {n : Int} (_h0 : -1000000 ≤ n) (h : Lib.itoa n = 45 :: r) : n < 0 ∧ r = Lib.decDigits (-n).toNat := by
  rcases Int.lt_or_le n 0 with hn | hn
  · rw [itoa_neg hn] at h
    exact ⟨hn, by simpa using h.symm⟩
  · rw [itoa_nonneg hn] at h
    have := decDigits_digit n.toNat 45 (by rw [h]; simp)
    exact absurd this (by decide)
theorem shape_pos {c : UInt8} {r : List UInt8} {n : Int} (hc : ¬ c.toNat = 45) (h : Lib.itoa n = c :: r) : 0 ≤ n ∧ c :: r = Lib.decDigits n.toNat := by
  rcases Int.lt_or_le n 0 with hn | hn
  · rw [itoa_neg hn] at h
    simp at h
    exact absurd h.1 (by intro e; apply hc; rw [← e]; rfl)
  · rw [itoa_nonneg hn] at h
    exact ⟨hn, h.symm⟩
theorem itoa_ne (n : Int) : Lib.itoa n ≠ [] := by
  rcases Int.lt_or_le n 0 with hn | hn
  · rw [itoa_neg hn]; simp
  · rw [itoa_nonneg hn]; exact decDigits_ne _
theorem numberL_nil : numberL [] = none := numberL_none fun n _ _ h => itoa_ne n h
theorem numberL_neg_len {r : List UInt8} (h : r.length = 0 ∨ 7 < r.length) : numberL (45 :: r) = none := numberL_none fun n h0 h1 hn => by
  obtain ⟨hneg, rfl⟩ := shape_neg h0 hn
  have a := small_len (n := (-n).toNat) (by omega)
  have b := decDigits_ne (-n).toNat
  rcases h with h | h
  · exact b (List.eq_nil_of_length_eq_zero h)
  · omega
theorem numberL_pos_len {c : UInt8} {r : List UInt8} (hc : ¬ c.toNat = 45) (h : 7 < (c :: r).length) : numberL (c :: r) = none := numberL_none fun n _ h1 hn => by
  obtain ⟨hpos, e⟩ := shape_pos hc hn
  have a := small_len (n := n.toNat) (by omega)
  rw [← e] at a
  omega
theorem numberL_neg_digit {r : List UInt8} {b : UInt8} (hb : b ∈ r) (h : b.toNat < 48 ∨ 57 < b.toNat) : numberL (45 :: r) = none := numberL_none fun n h0 h1 hn => by
  obtain ⟨hneg, rfl⟩ := shape_neg h0 hn
  have := decDigits_digit _ b hb
  omega
theorem numberL_pos_digit {c : UInt8} {r : List UInt8} (hc : ¬ c.toNat = 45) {b : UInt8} (hb : b ∈ c :: r) (h : b.toNat < 48 ∨ 57 < b.toNat) : numberL (c :: r) = none := numberL_none fun n _ h1 hn => by
  obtain ⟨hpos, e⟩ := shape_pos hc hn
  rw [e] at hb
  have := decDigits_digit _ b hb
  omega
theorem numberL_neg_val {r : List UInt8} {m : Nat} (hm : Lib.decFrom 0 r = some m) (h : ¬ (m : Int) ≤ 1000000 ∨ ¬ Lib.itoa (-(m : Int)) = 45 :: r) : numberL (45 :: r) = none := numberL_none fun n h0 h1 hn => by
  obtain ⟨hneg, rfl⟩ := shape_neg h0 hn
  rw [decFrom_decDigits] at hm
  injection hm with hm
  have e : n = -(m : Int) := by omega
  subst e
  rcases h with h | h
  · omega
  · exact h hn
theorem numberL_pos_val {c : UInt8} {r : List UInt8} (hc : ¬ c.toNat = 45) {m : Nat} (hm : Lib.decFrom 0 (c :: r) = some m) (h : ¬ (m : Int) ≤ 1000000 ∨ ¬ Lib.itoa (m : Int) = c :: r) : numberL (c :: r) = none := numberL_none fun n _ h1 hn => by
  obtain ⟨hpos, e⟩ := shape_pos hc hn
  rw [e, decFrom_decDigits] at hm
  injection hm with hm
  have e : n = (m : Int) := by omega
  subst e
  rcases h with h | h
  · omega
  · exact h hn
theorem numberL_itoa_in {n : Int} (h0 : -1000000 ≤ n) (h1 : n ≤ 1000000) : numberL (Lib.itoa n) = some n := numberL_some.2 ⟨h0, h1, rfl⟩
theorem numberL_itoa_out {n : Int} (a0 : -9223372036854775808 ≤ n) (a1 : n ≤ 9223372036854775807) (h : ¬ (-1000000 ≤ n ∧ n ≤ 1000000)) : numberL (Lib.itoa n) = none := numberL_none fun m h0 h1 hm => by
  have := itoa_injective (by omega) (by omega) a0 a1 hm
  subst this
  exact h ⟨h0, h1⟩
theorem decFrom_digit (r : List UInt8) (m : Nat) (h : Lib.decFrom 0 (48 :: r) = some m) : Lib.decFrom 0 r = some m := by
  have hd : Lib.digitVal 48 = some 0 := by decide
  simp only [Lib.decFrom, hd] at h
  exact h
theorem numberL_zero (n : Int) : numberL ([48] ++ Lib.itoa n) = none := numberL_none fun m _ _ hm => by
  rcases Int.lt_or_le m 0 with hn | hn
  · rw [itoa_neg hn] at hm
    simp at hm
  · rw [itoa_nonneg hn] at hm
    have h1 := decFrom_decDigits m.toNat
    rw [hm] at h1
    have h2 : Lib.decFrom 0 (Lib.itoa n) = some m.toNat := decFrom_digit _ _ h1
    rcases Int.lt_or_le n 0 with hk | hk
    · rw [itoa_neg hk] at h2
      have hd : Lib.digitVal 45 = none := by decide
      simp [Lib.decFrom, hd] at h2
    · rw [itoa_nonneg hk, decFrom_decDigits] at h2
      injection h2 with h2
      rw [itoa_nonneg hk, h2] at hm
      have := congrArg List.length hm
      simp at this
theorem numberL_plus (n : Int) : numberL ([43] ++ Lib.itoa n) = none := numberL_none fun m _ _ hm => by
  rcases Int.lt_or_le m 0 with hn | hn
  · rw [itoa_neg hn] at hm
    simp at hm
  · rw [itoa_nonneg hn] at hm
    have := decDigits_digit m.toNat 43 (by rw [hm]; simp)
    exact absurd this (by decide)
theorem itoa_len {n : Int} (h0 : -9223372036854775808 ≤ n) (h1 : n ≤ 9223372036854775807) : (Lib.itoa n).length ≤ 21 := by
  rcases Int.lt_or_le n 0 with hn | hn
  · rw [itoa_neg hn]
    have := decDigits_len 19 (-n).toNat (by omega)
    simp; omega
  · rw [itoa_nonneg hn]
    have := decDigits_len 19 n.toNat (by omega)
    omega
/-! the reference's scan -/
/-- the bytes from place a to place k are digits, and spell m -/
def Scan (s : ByteArray) (a k m : Nat) : Prop := Lib.decFrom 0 ((s.data.toList.take k).drop a) = some m ∧ m < 10 ^ (k - a)
theorem scan_start (s : ByteArray) (a : Nat) : Scan s a a 0 := by
  unfold Scan
  rw [List.drop_eq_nil_of_le (by simp; omega)]
  simp [Lib.decFrom]
theorem scan_step {s : ByteArray} {a k m : Nat} (h : Scan s a k m) (hk : k < s.size) (ha : a ≤ k) (h0 : 48 ≤ s[k].toNat) (h1 : s[k].toNat ≤ 57) : Scan s a (k + 1) (m * 10 + (s[k].toNat - 48)) := by
  unfold Scan at *
  have hl : k < s.data.toList.length := by simpa using hk
  have e : s.data.toList.take (k + 1) = s.data.toList.take k ++ [s[k]] := by
    rw [List.take_succ_eq_append_getElem hl]; rfl
  have hn : (s.data.toList.take k).length = k := by rw [List.length_take]; omega
  rw [e, List.drop_append_of_le_length (by omega), decFrom_snoc, h.1]
  have hd : Lib.digitVal s[k] = some (s[k].toNat - 48) := by unfold Lib.digitVal; rw [if_pos ⟨h0, h1⟩]
  rw [hd]
  refine ⟨rfl, ?_⟩
  have hp : 10 ^ (k + 1 - a) = 10 ^ (k - a) * 10 := by rw [show k + 1 - a = (k - a) + 1 by omega]; exact Nat.pow_succ ..
  omega
theorem scan_small {s : ByteArray} {a k m : Nat} (h : Scan s a k m) (hk : k - a ≤ 7) : (m : Int) ≤ 9999999 := by
  have : 10 ^ (k - a) ≤ 10 ^ 7 := Nat.pow_le_pow_right (by decide) hk
  have := h.2
  omega
theorem scan_smaller {s : ByteArray} {a k m : Nat} (h : Scan s a k m) (hk : k - a ≤ 6) : (m : Int) ≤ 999999 := by
  have : 10 ^ (k - a) ≤ 10 ^ 6 := Nat.pow_le_pow_right (by decide) hk
  have := h.2
  omega
theorem list_cons {s : ByteArray} (hp : 0 < s.size) : ∃ r, s.data.toList = s[0] :: r ∧ r.length + 1 = s.size := by
  have hl : 0 < s.data.toList.length := by simpa using hp
  obtain ⟨c, r, e⟩ := List.exists_cons_of_length_pos hl
  have e0 : s[0] = c := by
    have : s[0] = s.data.toList[0] := rfl
    rw [this]; simp [e]
  refine ⟨r, by rw [e0]; exact e, ?_⟩
  have : s.size = s.data.toList.length := Lib.size_eq s
  rw [this, e]; rfl
theorem getElem_mem {s : ByteArray} {k : Nat} (hk : k < s.size) : s[k] ∈ s.data.toList := by
  have hl : k < s.data.toList.length := by simpa using hk
  exact List.getElem_mem hl
theorem byte45 {b : UInt8} (h : ((b.toNat : Int) == 45) = true) : b = 45 := by
  have h : b.toNat = 45 := by have := beq_iff_eq.1 h; omega
  exact UInt8.toNat_inj.1 h
theorem not45 {b : UInt8} (h : ((b.toNat : Int) == 45) = false) : ¬ b.toNat = 45 := by
  intro e; rw [e] at h; exact absurd h (by decide)
theorem number_empty (s : ByteArray) (h : s.size = 0) : numberL s.data.toList = none := by
  have : s.data.toList = [] := List.eq_nil_of_length_eq_zero (by rw [← Lib.size_eq]; exact h)
  rw [this, numberL_nil]
theorem number_neg_len {s : ByteArray} (hp : 0 < s.size) (h : ((s[0].toNat : Int) == 45) = true) (hl : s.size = 1 ∨ 8 < s.size) : numberL s.data.toList = none := by
  obtain ⟨r, e, hr⟩ := list_cons hp
  rw [e, byte45 h]
  exact numberL_neg_len (by omega)
theorem number_pos_len {s : ByteArray} (hp : 0 < s.size) (h : ((s[0].toNat : Int) == 45) = false) (hl : 7 < s.size) : numberL s.data.toList = none := by
  obtain ⟨r, e, hr⟩ := list_cons hp
  rw [e]
  exact numberL_pos_len (not45 h) (by simp; omega)
theorem number_neg_digit {s : ByteArray} (hp : 0 < s.size) (h : ((s[0].toNat : Int) == 45) = true) {k : Nat} (hk : k < s.size) (h1 : 1 ≤ k) (hd : s[k].toNat < 48 ∨ 57 < s[k].toNat) : numberL s.data.toList = none := by
  obtain ⟨r, e, hr⟩ := list_cons hp
  have hm : s[k] ∈ r := by
    have hl : k < s.data.toList.length := by simpa using hk
    have e1 : s[k] = s.data.toList[k] := rfl
    rw [e1, List.getElem_of_eq e, List.getElem_cons]
    split
    · omega
    · exact List.getElem_mem _
  rw [e, byte45 h]
  exact numberL_neg_digit hm hd
theorem number_pos_digit {s : ByteArray} (hp : 0 < s.size) (h : ((s[0].toNat : Int) == 45) = false) {k : Nat} (hk : k < s.size) (hd : s[k].toNat < 48 ∨ 57 < s[k].toNat) : numberL s.data.toList = none := by
  obtain ⟨r, e, hr⟩ := list_cons hp
  have hm := getElem_mem hk
  rw [e] at hm ⊢
  exact numberL_pos_digit (not45 h) hm hd
theorem scan_end_neg {s : ByteArray} (hp : 0 < s.size) (h : ((s[0].toNat : Int) == 45) = true) {m : Nat} (hm : Scan s 1 s.size m) : ∃ r, s.data.toList = 45 :: r ∧ Lib.decFrom 0 r = some m := by
  obtain ⟨r, e, hr⟩ := list_cons hp
  refine ⟨r, by rw [e, byte45 h], ?_⟩
  have h1 := hm.1
  rw [List.take_of_length_le (by rw [← Lib.size_eq]; exact Nat.le_refl _), e] at h1
  exact h1
theorem scan_end_pos {s : ByteArray} (hp : 0 < s.size) (h : ((s[0].toNat : Int) == 45) = false) {m : Nat} (hm : Scan s 0 s.size m) : ∃ c r, ¬ c.toNat = 45 ∧ s.data.toList = c :: r ∧ Lib.decFrom 0 (c :: r) = some m := by
  obtain ⟨r, e, hr⟩ := list_cons hp
  refine ⟨s[0], r, not45 h, e, ?_⟩
  have h1 := hm.1
  rw [List.take_of_length_le (by rw [← Lib.size_eq]; exact Nat.le_refl _), List.drop_zero, e] at h1
  exact h1
theorem number_neg_out {s : ByteArray} (hp : 0 < s.size) (h : ((s[0].toNat : Int) == 45) = true) {m : Nat} (hm : Scan s 1 s.size m) (hv : ¬ (m : Int) ≤ 1000000 ∨ ¬ Lib.itoa (-(m : Int)) = s.data.toList) : numberL s.data.toList = none := by
  obtain ⟨r, e, hd⟩ := scan_end_neg hp h hm
  rw [e] at hv ⊢
  exact numberL_neg_val hd hv
theorem number_pos_out {s : ByteArray} (hp : 0 < s.size) (h : ((s[0].toNat : Int) == 45) = false) {m : Nat} (hm : Scan s 0 s.size m) (hv : ¬ (m : Int) ≤ 1000000 ∨ ¬ Lib.itoa (m : Int) = s.data.toList) : numberL s.data.toList = none := by
  obtain ⟨c, r, hc, e, hd⟩ := scan_end_pos hp h hm
  rw [e] at hv ⊢
  exact numberL_pos_val hc hd hv
end Go.Proofs.YtokenooggmnbaaaDoor.Num
