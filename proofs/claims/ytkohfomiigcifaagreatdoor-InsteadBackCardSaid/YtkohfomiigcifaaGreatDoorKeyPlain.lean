/-
  PLAIN FACTS OF LAYER 11 (keyword): names, texts, what is gathered from a text, the mask with a text, what the reference's parser takes; no program in it. By an AI agent.
-/
import Derived.Test.YtkohfomiigcifaaGreatDoorCutPlain
import Derived.Test.YtkohfomiigcifaaGreatDoorNumPlain
namespace Go.Proofs.YtkohfomiigcifaaGreatDoor.Kw
open Num (bitsL bitB)
open Wd (cut)

abbrev Bs := List UInt8
def names : List Bs := [[102, 108, 121, 105, 110, 103], [114, 101, 97, 99, 104], [104, 97, 115, 116, 101], [118, 105, 103, 105, 108, 97, 110, 116], [116, 114, 97, 109, 112, 108, 101],
  [102, 105, 114, 115, 116, 45, 115, 116, 114, 105, 107, 101], [100, 111, 117, 98, 108, 101, 45, 115, 116, 114, 105, 107, 101], [100, 101, 97, 100, 108, 121], [108, 105, 102, 101, 108, 105, 110, 107],
  [109, 101, 110, 97, 99, 101], [100, 101, 102, 101, 110, 100, 101, 114], [119, 97, 114, 100, 101, 100], [115, 116, 117, 114, 100, 121], [101, 108, 117, 115, 105, 118, 101],
  [110, 111, 45, 97, 116, 116, 97, 99, 107], [110, 111, 45, 98, 108, 111, 99, 107], [109, 117, 115, 116, 45, 97, 116, 116, 97, 99, 107]]
def name (k : Nat) : Bs := names.getD k []
def nameI (i : Int) : Bs := if 0 ≤ i then name i.toNat else []
/-- the names from bit i on -/
def fromI (i : Int) : List Bs := if 0 ≤ i then names.drop i.toNat else []
def validB (m : Int) : Bool := decide (0 ≤ m) && decide (m ≤ 131071)
/-- the names of the keywords of m below k -/
def parts (m k : Nat) : List Bs := (bitsL m k).map fun i => nameI i
def textN (m : Nat) : Bs := if m = 0 then [110, 111, 110, 101] else Lib.join (parts m 31) [43]
def textI (m : Int) : Bs := if validB m then textN m.toNat else []

theorem nameI_nat (k : Nat) : nameI (k : Int) = name k := by unfold nameI; rw [if_pos (by omega)]; rfl
theorem name_big (k : Nat) (h : 17 ≤ k) : name k = [] := by
  unfold name List.getD
  rw [List.getElem?_eq_none (by show 17 ≤ k; exact h)]
  rfl
theorem nameI_out {i : Int} (h : i < 0 ∨ 17 ≤ i) : nameI i = [] := by
  unfold nameI
  split
  · exact name_big _ (by omega)
  · rfl
theorem fromI_out {i : Int} (h : i < 0 ∨ 17 ≤ i) : fromI i = [] := by
  unfold fromI
  split
  · rw [List.drop_eq_nil_of_le (by show 17 ≤ i.toNat; omega)]
  · rfl
theorem fromI_nat (k : Nat) : fromI (k : Int) = names.drop k := by unfold fromI; rw [if_pos (by omega)]; rfl
theorem validB_nat {m : Nat} (h : m ≤ 131071) : validB (m : Int) = true := by unfold validB; simp; omega
theorem valid_cases (m : Int) : (∃ k : Nat, m = (k : Int) ∧ k ≤ 131071 ∧ validB m = true) ∨ ((m < 0 ∨ 131071 < m) ∧ validB m = false) := by
  by_cases h : 0 ≤ m ∧ m ≤ 131071
  · exact .inl ⟨m.toNat, by omega, by omega, by unfold validB; simp; omega⟩
  · exact .inr ⟨by omega, by unfold validB; simp; omega⟩
theorem textI_nat {m : Nat} (h : m ≤ 131071) : textI (m : Int) = textN m := by unfold textI; rw [validB_nat h]; rfl
theorem textI_bad {m : Int} (h : validB m = false) : textI m = [] := by unfold textI; rw [h]; rfl
theorem parts_yes {m k : Nat} (h : bitB m k = true) : parts m (k + 1) = parts m k ++ [name k] := by unfold parts; rw [Num.bitsL_yes h, List.map_append, List.map_singleton, nameI_nat]
theorem parts_no {m k : Nat} (h : bitB m k = false) : parts m (k + 1) = parts m k := by unfold parts; rw [Num.bitsL_no h]
theorem parts_len (m k : Nat) : (parts m k).length ≤ k := by unfold parts; rw [List.length_map]; exact Num.bitsL_len m k
theorem bits_top {m : Nat} (h : m ≤ 131071) : bitsL m 31 = bitsL m 17 := (Num.bitsL_full (Nat.div_eq_of_lt (by omega)) (by omega)).symm
theorem parts_top {m : Nat} (h : m ≤ 131071) : parts m 31 = parts m 17 := by unfold parts; rw [bits_top h]
theorem name_ne : ∀ k, k < 17 → name k ≠ [] := by decide +kernel
theorem name_len : ∀ k, k < 17 → 1 ≤ (name k).length ∧ (name k).length ≤ 13 := by decide +kernel
theorem name_plain : ∀ k, k < 17 → Ct.plainB 43 (name k) = true := by decide +kernel
theorem names_apart : ∀ k, k < 17 → ∀ i, i < k → name i ≠ name k := by decide +kernel
theorem name_inj {i k : Nat} (hi : i < 17) (hk : k < 17) (h : name i = name k) : i = k := by
  rcases Nat.lt_trichotomy i k with h1 | h1 | h1
  · exact absurd h (names_apart k hk i h1)
  · exact h1
  · exact absurd h.symm (names_apart i hi k h1)
theorem mem_parts {m k : Nat} {x : Bs} (h : x ∈ parts m k) : ∃ i, i < k ∧ bitB m i = true ∧ x = name i := by
  unfold parts bitsL at h
  rw [List.map_map] at h
  obtain ⟨i, hi, rfl⟩ := List.mem_map.1 h
  have h1 := List.mem_filter.1 hi
  exact ⟨i, List.mem_range.1 h1.1, h1.2, nameI_nat i⟩
theorem parts_plain {m k : Nat} (hk : k ≤ 17) : ∀ x ∈ parts m k, Ct.PlainP 43 x := by
  intro x hx
  obtain ⟨i, hi, _, rfl⟩ := mem_parts hx
  exact Ct.plain_of (name_plain i (by omega))
theorem parts_some {m k : Nat} (hk : k ≤ 17) : ∀ x ∈ parts m k, x ≠ [] := by
  intro x hx
  obtain ⟨i, hi, _, rfl⟩ := mem_parts hx
  exact name_ne i (by omega)
theorem join_empty {xs : List Bs} {sep : Bs} (h : ∀ x ∈ xs, x ≠ []) : Lib.join xs sep = [] ↔ xs = [] := by
  match xs with
  | [] => exact ⟨fun _ => rfl, fun _ => rfl⟩
  | y :: r =>
    rw [Lib.join_cons]
    have := h y (by simp)
    simp [this]
/-- what the reference has written below bit k -/
def outTo (m k : Nat) : Bs := Lib.join (parts m k) [43]
theorem outTo_zero (m : Nat) : outTo m 0 = [] := rfl
theorem outTo_no {m k : Nat} (h : bitB m k = false) : outTo m (k + 1) = outTo m k := by unfold outTo; rw [parts_no h]
theorem outTo_first {m k : Nat} (h : bitB m k = true) (hk : k < 17) (h0 : outTo m k = []) : outTo m (k + 1) = name k := by
  unfold outTo at *
  rw [parts_yes h, (join_empty (parts_some (by omega))).1 h0]
  exact Lib.join_one _ _
theorem outTo_next {m k : Nat} (h : bitB m k = true) (h0 : outTo m k ≠ []) : outTo m (k + 1) = outTo m k ++ [43] ++ name k := by
  unfold outTo at *
  rw [parts_yes h, Wd.join_snoc _ _ _ (fun e => h0 (by rw [e]; rfl))]
  simp
theorem outTo_len (m k : Nat) (hk : k ≤ 17) : (outTo m k).length ≤ 14 * k := by
  induction k with
  | zero => exact Nat.zero_le _
  | succ k ih =>
    have ih := ih (by omega)
    have := name_len k (by omega)
    cases h : bitB m k with
    | false => rw [outTo_no h]; omega
    | true =>
      by_cases h0 : outTo m k = []
      · rw [outTo_first h (by omega) h0]; omega
      · rw [outTo_next h h0]; simp; omega
theorem textN_pos {m : Nat} (h0 : 0 < m) (h : m ≤ 131071) : textN m = outTo m 17 := by
  unfold textN outTo
  rw [if_neg (by omega), parts_top h]
theorem textN_len {m : Nat} (h : m ≤ 131071) : (textN m).length ≤ 238 := by
  by_cases h0 : m = 0
  · subst h0; decide
  · rw [textN_pos (by omega) h]; exact outTo_len m 17 (by omega)
/-! what is gathered -/
/-- which of the names w is (17: none) -/
def ix (w : Bs) : Nat := names.findIdx (· == w)
theorem ix_name : ∀ k, k < 17 → ix (name k) = k := by decide +kernel
theorem ix_le (w : Bs) : ix w ≤ 17 := List.findIdx_le_length
def addW (m : Nat) (w : Bs) : Nat := if ix w < 17 then m ||| 2 ^ ix w else m
theorem addW_hit {m k : Nat} {w : Bs} (hk : k < 17) (h : ix w = k) : addW m w = m ||| 2 ^ k := by unfold addW; rw [if_pos (by omega), h]
theorem addW_none {m : Nat} {w : Bs} (h : ix w = 17) : addW m w = m := by unfold addW; rw [if_neg (by omega)]
theorem addW_lt {m : Nat} (w : Bs) (h : m < 131072) : addW m w < 131072 := by
  unfold addW
  split
  · rename_i h1
    exact Nat.or_lt_two_pow (n := 17) h (Nat.pow_lt_pow_right (by omega) h1)
  · exact h
theorem mod_step (m k : Nat) : m % 2 ^ (k + 1) = m % 2 ^ k + 2 ^ k * (m / 2 ^ k % 2) := Nat.mod_pow_succ
theorem mod_no {m k : Nat} (h : bitB m k = false) : m % 2 ^ (k + 1) = m % 2 ^ k := by
  have h1 : m / 2 ^ k % 2 = 0 := by unfold bitB at h; simp at h; omega
  rw [mod_step, h1, Nat.mul_zero, Nat.add_zero]
theorem mod_yes {m k : Nat} (h : bitB m k = true) : m % 2 ^ (k + 1) = m % 2 ^ k + 2 ^ k := by
  have h1 : m / 2 ^ k % 2 = 1 := by unfold bitB at h; simpa using h
  rw [mod_step, h1, Nat.mul_one]
theorem or_pow {a k : Nat} (h : a < 2 ^ k) : a ||| 2 ^ k = a + 2 ^ k := by
  have := Nat.two_pow_add_eq_or_of_lt h 1
  rw [Nat.mul_one] at this
  rw [Nat.or_comm, ← this, Nat.add_comm]
theorem foldl_parts (m : Nat) : ∀ k, k ≤ 17 → (parts m k).foldl addW 0 = m % 2 ^ k
  | 0, _ => by rw [Nat.pow_zero, Nat.mod_one]; rfl
  | k + 1, h => by
    have ih := foldl_parts m k (by omega)
    cases hb : bitB m k with
    | false => rw [parts_no hb, ih, mod_no hb]
    | true => rw [parts_yes hb, List.foldl_append, ih, List.foldl_cons, List.foldl_nil, addW_hit (by omega) (ix_name k (by omega)), or_pow (Nat.mod_lt _ (Nat.two_pow_pos k)), mod_yes hb]
def collectF : Nat → Nat → Bs → Bool → Nat
  | 0, k, _, _ => k
  | n + 1, k, s, more => if more then collectF n (addW k (cut s [43]).1) (cut s [43]).2.1 (cut s [43]).2.2 else k
def collectL (s : Bs) : Nat := collectF (s.length + 1) 0 s true
theorem collectF_stop {n k : Nat} {s : Bs} : collectF n k s false = k := by
  cases n with
  | zero => rfl
  | succ n => rw [collectF, if_neg (by simp)]
theorem collectF_go {n k : Nat} {s : Bs} : collectF (n + 1) k s true = collectF n (addW k (cut s [43]).1) (cut s [43]).2.1 (cut s [43]).2.2 := by
  rw [collectF, if_pos rfl]
theorem collectF_lt : ∀ (n : Nat) {k : Nat} {s : Bs} {more : Bool}, k < 131072 → collectF n k s more < 131072
  | 0, _, _, _, h => h
  | n + 1, k, s, more, h => by
    rw [collectF]
    split
    · exact collectF_lt n (addW_lt _ h)
    · exact h
theorem collectL_lt (s : Bs) : collectL s < 131072 := collectF_lt _ (by decide)
theorem collectF_join : ∀ {ps : List Bs} {n k : Nat}, ps ≠ [] → (∀ p ∈ ps, Ct.PlainP 43 p) → ps.length ≤ n → collectF n k (Lib.join ps [43]) true = ps.foldl addW k
  | [], _, _, h, _, _ => absurd rfl h
  | [p], 0, _, _, _, h => by simp at h
  | [p], n + 1, k, _, hp, _ => by
    rw [collectF_go, Lib.join_one, Ct.cut_plain (hp p (by simp)), collectF_stop]
    rfl
  | p :: q :: r, 0, _, _, _, h => by simp at h
  | p :: q :: r, n + 1, k, _, hp, hn => by
    rw [collectF_go, Ct.join_two, Ct.cut_at (hp p (by simp))]
    exact collectF_join (by simp) (fun x hx => hp x (List.mem_cons_of_mem _ hx)) (by simp at hn ⊢; omega)
theorem parts_zero {m : Nat} (h : m ≤ 131071) (h0 : parts m 17 = []) : m = 0 := by
  have := foldl_parts m 17 (by omega)
  rw [h0, Nat.mod_eq_of_lt (by omega)] at this
  exact this.symm
theorem collect_zero : collectL (textN 0) = 0 := by decide +kernel
/-- gathering finds the mask again -/
theorem collect_text {m : Nat} (h : m ≤ 131071) : collectL (textN m) = m := by
  by_cases h0 : m = 0
  · subst h0; exact collect_zero
  · rw [textN_pos (by omega) h]
    unfold collectL outTo
    rw [collectF_join (fun e => h0 (parts_zero h e)) (parts_plain (by omega)) (Ct.join_long _), foldl_parts m 17 (by omega), Nat.mod_eq_of_lt (by omega)]
/-! the mask with a text -/
def parseO (s : Bs) : Option Nat := if textN (collectL s) = s then some (collectL s) else none
def parseI (s : Bs) : Int := match parseO s with | some m => (m : Int) | none => 0
def parseE (s : Bs) : Int := match parseO s with | some _ => 0 | none => 3
theorem parse_yes {s : Bs} (h : textN (collectL s) = s) : parseI s = (collectL s : Nat) ∧ parseE s = 0 := by unfold parseI parseE parseO; rw [if_pos h]; exact ⟨rfl, rfl⟩
theorem parse_no {s : Bs} (h : textN (collectL s) ≠ s) : parseI s = 0 ∧ parseE s = 3 := by unfold parseI parseE parseO; rw [if_neg h]; exact ⟨rfl, rfl⟩
theorem parse_text {m : Nat} (h : m ≤ 131071) : parseI (textN m) = m ∧ parseE (textN m) = 0 := by
  have := parse_yes (s := textN m) (by rw [collect_text h])
  rwa [collect_text h] at this
theorem textN_ne {m : Nat} (h : m ≤ 131071) : textN m ≠ [] := by
  by_cases h0 : m = 0
  · subst h0; decide
  · rw [textN_pos (by omega) h]
    intro e
    exact h0 (parts_zero h ((join_empty (parts_some (by omega))).1 e))
theorem parse_empty : parseI [] = 0 ∧ parseE [] = 3 := parse_no (textN_ne (by have := collectL_lt []; omega))
/-! what the reference's parser takes -/
/-- the rest begins with name i, and it ends there or goes on with a plus -/
def hit (i : Nat) (r : Bs) : Bool := decide ((name i).length ≤ r.length) && (r.take (name i).length == name i) && (decide (r.length = (name i).length) || r.getD (name i).length 0 == 43)
def rstep (i : Nat) (x : Nat × Bs) : Nat × Bs := if hit i x.2 then (x.1 + 2 ^ i, x.2.drop ((name i).length + 1)) else x
def rTo (s : Bs) : Nat → Nat × Bs
  | 0 => (0, s)
  | k + 1 => rstep k (rTo s k)
theorem rTo_lt (s : Bs) : ∀ k, (rTo s k).1 < 2 ^ k
  | 0 => by show 0 < 1; omega
  | k + 1 => by
    have ih := rTo_lt s k
    show (rstep k (rTo s k)).1 < _
    unfold rstep
    rw [Nat.pow_succ]
    split
    · show (rTo s k).1 + 2 ^ k < _
      omega
    · omega
theorem rTo_len (s : Bs) : ∀ k, (rTo s k).2.length ≤ s.length
  | 0 => Nat.le_refl _
  | k + 1 => by
    have ih := rTo_len s k
    show (rstep k (rTo s k)).2.length ≤ _
    unfold rstep
    split
    · simp; omega
    · exact ih
/-- the names of the keywords of m from bit k on -/
def restP (m k : Nat) : List Bs := ((List.range' k (17 - k)).filter (bitB m)).map name
theorem restP_yes {m k : Nat} (hk : k < 17) (h : bitB m k = true) : restP m k = name k :: restP m (k + 1) := by
  unfold restP
  rw [show 17 - k = (17 - (k + 1)) + 1 by omega, List.range'_succ, List.filter_cons_of_pos h, List.map_cons]
theorem restP_no {m k : Nat} (hk : k < 17) (h : bitB m k = false) : restP m k = restP m (k + 1) := by
  unfold restP
  rw [show 17 - k = (17 - (k + 1)) + 1 by omega, List.range'_succ, List.filter_cons_of_neg (by simp [h])]
theorem restP_all (m : Nat) : restP m 0 = parts m 17 := by
  unfold restP parts bitsL
  rw [List.map_map, ← List.range_eq_range']
  refine List.map_congr_left fun i _ => ?_
  exact (nameI_nat i).symm
theorem mem_restP {m k : Nat} {x : Bs} (h : x ∈ restP m k) : ∃ i, k ≤ i ∧ i < 17 ∧ x = name i := by
  unfold restP at h
  obtain ⟨i, hi, rfl⟩ := List.mem_map.1 h
  have h1 := List.mem_range'_1.1 (List.mem_filter.1 hi).1
  exact ⟨i, h1.1, by omega, rfl⟩
/-- two ways to read a first word end alike -/
theorem first_word {c : UInt8} {x y u v : Bs} (hx : c ∉ x) (hy : c ∉ y) (hu : u = [] ∨ ∃ t, u = c :: t) (hv : v = [] ∨ ∃ t, v = c :: t) (h : x ++ u = y ++ v) : x = y := by
  have key : ∀ {x u : Bs}, c ∉ x → (u = [] ∨ ∃ t, u = c :: t) → (x ++ u).takeWhile (· != c) = x := by
    intro x u hx hu
    rw [List.takeWhile_append_of_pos (fun a ha => by simp; rintro rfl; exact hx ha)]
    rcases hu with rfl | ⟨t, rfl⟩ <;> simp
  rw [← key hx hu, h, key hy hv]
theorem hit_shape {i : Nat} {r : Bs} (h : hit i r = true) : r = name i ++ r.drop (name i).length ∧ (r.drop (name i).length = [] ∨ ∃ t, r.drop (name i).length = 43 :: t) := by
  unfold hit at h
  simp only [Bool.and_eq_true, Bool.or_eq_true, decide_eq_true_eq, beq_iff_eq] at h
  obtain ⟨⟨h1, h2⟩, h3⟩ := h
  refine ⟨?_, ?_⟩
  · conv => lhs; rw [← List.take_append_drop (name i).length r, h2]
  · by_cases h4 : (name i).length < r.length
    · right
      rcases h3 with h3 | h3
      · omega
      · refine ⟨r.drop ((name i).length + 1), ?_⟩
        rw [List.getD, List.getElem?_eq_getElem h4, Option.getD_some] at h3
        rw [List.drop_eq_getElem_cons h4, h3]
    · left
      exact List.drop_eq_nil_of_le (by omega)
theorem hit_yes {i : Nat} {t : Bs} (ht : t = [] ∨ ∃ u, t = 43 :: u) : hit i (name i ++ t) = true := by
  unfold hit
  rcases ht with rfl | ⟨u, rfl⟩
  · simp
  · simp [List.getD]
theorem plus_out {i : Nat} (hi : i < 17) : (43 : UInt8) ∉ name i := fun hm => ((Ct.plain_of (name_plain i hi)) _ hm).1 rfl
theorem join_tail (q : List Bs) (p : Bs) : ∃ t, Lib.join (p :: q) [43] = p ++ t ∧ (t = [] ∨ ∃ u, t = 43 :: u) ∧ t.drop 1 = Lib.join q [43] := by
  cases q with
  | nil => exact ⟨[], by rw [Lib.join_one]; simp, .inl rfl, rfl⟩
  | cons a r => exact ⟨43 :: Lib.join (a :: r) [43], Ct.join_two _ _ _ _, .inr ⟨_, rfl⟩, rfl⟩
theorem hit_no {m k : Nat} (hk : k < 17) : hit k (Lib.join (restP m (k + 1)) [43]) = false := by
  cases hq : restP m (k + 1) with
  | nil =>
    have := name_len k hk
    unfold hit
    rw [show Lib.join ([] : List Bs) [43] = [] from rfl]
    simp
    omega
  | cons p q =>
    obtain ⟨i, h1, h2, rfl⟩ := mem_restP (m := m) (k := k + 1) (x := p) (by rw [hq]; simp)
    obtain ⟨t, ht, hs, _⟩ := join_tail q (name i)
    cases hh : hit k (Lib.join (name i :: q) [43]) with
    | false => rfl
    | true =>
      obtain ⟨e, hd⟩ := hit_shape hh
      rw [ht] at e hd
      have := name_inj (by omega) (by omega) (first_word (plus_out h2) (plus_out hk) hs hd e)
      omega
theorem rTo_text (m : Nat) : ∀ k, k ≤ 17 → rTo (Lib.join (restP m 0) [43]) k = (m % 2 ^ k, Lib.join (restP m k) [43])
  | 0, _ => by rw [Nat.pow_zero, Nat.mod_one]; rfl
  | k + 1, h => by
    have ih := rTo_text m k (by omega)
    show rstep k (rTo _ k) = _
    rw [ih]
    unfold rstep
    cases hb : bitB m k with
    | false => rw [restP_no (by omega) hb, hit_no (by omega), if_neg (by simp), mod_no hb]
    | true =>
      rw [restP_yes (by omega) hb]
      obtain ⟨t, ht, hs, hd⟩ := join_tail (restP m (k + 1)) (name k)
      rw [ht, hit_yes hs, if_pos rfl, mod_yes hb, ← hd]
      simp [List.drop_append]
def refMask (s : Bs) : Nat := (rTo s 17).1
theorem refMask_lt (s : Bs) : refMask s < 131072 := rTo_lt s 17
theorem refMask_text {m : Nat} (h0 : 0 < m) (h : m ≤ 131071) : refMask (textN m) = m := by
  rw [textN_pos h0 h]
  unfold refMask outTo
  rw [← restP_all, rTo_text m 17 (by omega)]
  exact Nat.mod_eq_of_lt (by omega)
theorem none_zero {m : Nat} (h : m ≤ 131071) (ht : textN m = [110, 111, 110, 101]) : m = 0 := by
  have h1 := collect_text h
  rw [ht] at h1
  rw [← h1]
  decide +kernel
/-- the reference reads as the program does -/
theorem ref_none : parseI [110, 111, 110, 101] = 0 ∧ parseE [110, 111, 110, 101] = 0 := by decide +kernel
theorem ref_yes {s : Bs} (h : textN (refMask s) = s) : parseI s = (refMask s : Nat) ∧ parseE s = 0 := by
  have := parse_text (m := refMask s) (by have := refMask_lt s; omega)
  rwa [h] at this
theorem ref_no {s : Bs} (hs : s ≠ [110, 111, 110, 101]) (h : textN (refMask s) ≠ s) : parseI s = 0 ∧ parseE s = 3 := by
  refine parse_no fun e => h ?_
  have hl := collectL_lt s
  generalize hm : collectL s = m at e hl
  by_cases h0 : m = 0
  · subst h0; exact absurd e.symm hs
  · rw [← e, refMask_text (by omega) (by omega)]
end Go.Proofs.YtkohfomiigcifaaGreatDoor.Kw
