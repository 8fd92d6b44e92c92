/-
  PLAIN FACTS OF LAYER 9 (color): names, texts, counts of masks, the mask with a text; no program in it. By an AI agent.
-/
import Derived.Test.YtkohfomiigcifaaGreatDoorNumPlain
import Derived.Lib.Join
namespace Go.Proofs.YtkohfomiigcifaaGreatDoor.Col
open Num (bitsL bitB)

abbrev Bs := List UInt8
def name (k : Nat) : Bs := match k with
  | 0 => [97, 109, 98, 101, 114]
  | 1 => [99, 111, 98, 97, 108, 116]
  | 2 => [106, 101, 116]
  | 3 => [114, 117, 98, 121]
  | 4 => [101, 109, 101, 114, 97, 108, 100]
  | _ => []
def nameI (i : Int) : Bs := if 0 ≤ i then name i.toNat else []
def validB (m : Int) : Bool := decide (0 ≤ m) && decide (m ≤ 31)
/-- the names of the colours of m below k -/
def parts (m k : Nat) : List Bs := (bitsL m k).map fun i => nameI i
def textN (m : Nat) : Bs := if m = 0 then [110, 111, 110, 101] else Lib.join (parts m 31) [43]
def textI (m : Int) : Bs := if validB m then textN m.toNat else []
def countI (m : Int) : Int := if validB m then ((bitsL m.toNat 31).length : Int) else 0
/-- the least mask with the text -/
def parseN (s : Bs) : Option Nat := (List.range 32).find? fun m => textN m == s
def parseI (s : Bs) : Int := match parseN s with | some m => (m : Int) | none => 0
def parseE (s : Bs) : Int := match parseN s with | some _ => 0 | none => 3

theorem nameI_nat (k : Nat) : nameI (k : Int) = name k := by unfold nameI; rw [if_pos (by omega)]; rfl
theorem name_big (k : Nat) (h : 5 ≤ k) : name k = [] := by
  match k, h with
  | n + 5, _ => rfl
theorem nameI_out {i : Int} (h : i < 0 ∨ 5 ≤ i) : nameI i = [] := by
  unfold nameI
  split
  · exact name_big _ (by omega)
  · rfl
theorem validB_nat {m : Nat} (h : m ≤ 31) : validB (m : Int) = true := by unfold validB; simp; omega
theorem valid_cases (m : Int) : (∃ k : Nat, m = (k : Int) ∧ k ≤ 31 ∧ validB m = true) ∨ ((m < 0 ∨ 31 < m) ∧ validB m = false) := by
  by_cases h : 0 ≤ m ∧ m ≤ 31
  · exact .inl ⟨m.toNat, by omega, by omega, by unfold validB; simp; omega⟩
  · exact .inr ⟨by omega, by unfold validB; simp; omega⟩
theorem textI_nat {m : Nat} (h : m ≤ 31) : textI (m : Int) = textN m := by unfold textI; rw [validB_nat h]; rfl
theorem textI_bad {m : Int} (h : validB m = false) : textI m = [] := by unfold textI; rw [h]; rfl
theorem countI_nat {m : Nat} (h : m ≤ 31) : countI (m : Int) = ((bitsL m 31).length : Int) := by unfold countI; rw [validB_nat h]; rfl
theorem countI_bad {m : Int} (h : validB m = false) : countI m = 0 := by unfold countI; rw [h]; rfl
theorem parts_yes {m k : Nat} (h : bitB m k = true) : parts m (k + 1) = parts m k ++ [name k] := by unfold parts; rw [Num.bitsL_yes h, List.map_append, List.map_singleton, nameI_nat]
theorem parts_no {m k : Nat} (h : bitB m k = false) : parts m (k + 1) = parts m k := by unfold parts; rw [Num.bitsL_no h]
theorem parts_len (m k : Nat) : (parts m k).length ≤ k := by unfold parts; rw [List.length_map]; exact Num.bitsL_len m k
theorem bits_five {m : Nat} (h : m ≤ 31) : bitsL m 31 = bitsL m 5 := (Num.bitsL_full (Nat.div_eq_of_lt (by omega)) (by omega)).symm
theorem parts_five {m : Nat} (h : m ≤ 31) : parts m 31 = parts m 5 := by unfold parts; rw [bits_five h]
theorem join_snoc (xs : List Bs) (sep x : Bs) (h : xs ≠ []) : Lib.join (xs ++ [x]) sep = Lib.join xs sep ++ (sep ++ x) := by
  match xs, h with
  | y :: r, _ => rw [List.cons_append, Lib.join_cons, Lib.join_cons]; simp [Lib.joinTail]
theorem name_ne {k : Nat} (h : k < 5) : name k ≠ [] := by
  match k, h with
  | 0, _ => decide
  | 1, _ => decide
  | 2, _ => decide
  | 3, _ => decide
  | 4, _ => decide
theorem join_empty {xs : List Bs} {sep : Bs} (h : ∀ x ∈ xs, x ≠ []) : Lib.join xs sep = [] ↔ xs = [] := by
  match xs with
  | [] => exact ⟨fun _ => rfl, fun _ => rfl⟩
  | y :: r =>
    rw [Lib.join_cons]
    have := h y (by simp)
    simp [this]
theorem parts_ne {m k : Nat} (h : k ≤ 5) : ∀ x ∈ parts m k, x ≠ [] := by
  intro x hx
  unfold parts bitsL at hx
  rw [List.map_map] at hx
  obtain ⟨i, hi, rfl⟩ := List.mem_map.1 hx
  have hlt := List.mem_range.1 (List.mem_filter.1 hi).1
  show nameI (i : Int) ≠ []
  rw [nameI_nat]
  exact name_ne (by omega)
/-- what the reference has written below bit k -/
def outTo (m k : Nat) : Bs := Lib.join (parts m k) [43]
theorem outTo_zero (m : Nat) : outTo m 0 = [] := rfl
theorem outTo_no {m k : Nat} (h : bitB m k = false) : outTo m (k + 1) = outTo m k := by unfold outTo; rw [parts_no h]
theorem outTo_first {m k : Nat} (h : bitB m k = true) (hk : k < 5) (h0 : outTo m k = []) : outTo m (k + 1) = name k := by
  unfold outTo at *
  rw [parts_yes h, (join_empty (parts_ne (by omega))).1 h0]
  exact Lib.join_one _ _
theorem outTo_next {m k : Nat} (h : bitB m k = true) (h0 : outTo m k ≠ []) : outTo m (k + 1) = outTo m k ++ [43] ++ name k := by
  unfold outTo at *
  rw [parts_yes h, join_snoc _ _ _ (fun e => h0 (by rw [e]; rfl))]
  simp
theorem outTo_len (m k : Nat) (hk : k ≤ 5) : (outTo m k).length ≤ 8 * k := by
  have hn : ∀ j, (name j).length ≤ 7 := fun j => by
    match j with
    | 0 => decide
    | 1 => decide
    | 2 => decide
    | 3 => decide
    | 4 => decide
    | n + 5 => exact Nat.zero_le _
  induction k with
  | zero => exact Nat.zero_le _
  | succ k ih =>
    have ih := ih (by omega)
    have := hn k
    cases h : bitB m k with
    | false => rw [outTo_no h]; omega
    | true =>
      by_cases h0 : outTo m k = []
      · rw [outTo_first h (by omega) h0]; omega
      · rw [outTo_next h h0]; simp; omega
theorem textN_pos {m : Nat} (h0 : 0 < m) (h : m ≤ 31) : textN m = outTo m 5 := by
  unfold textN outTo
  rw [if_neg (by omega), parts_five h]
theorem textN_len {m : Nat} (h : m ≤ 31) : (textN m).length ≤ 40 := by
  by_cases h0 : m = 0
  · subst h0; decide
  · rw [textN_pos (by omega) h]; exact outTo_len m 5 (by omega)
/-! the mask with a text -/
theorem parse_hit {s : Bs} {k : Nat} (hk : k < 32) (hno : ∀ j, j < k → textN j ≠ s) (h : textN k = s) : parseN s = some k := by
  unfold parseN
  rw [List.find?_range_eq_some]
  refine ⟨by simp [h], by simp; omega, fun j hj => by simp [hno j hj]⟩
theorem parse_none {s : Bs} (hno : ∀ j, j < 32 → textN j ≠ s) : parseN s = none := by
  unfold parseN
  rw [List.find?_range_eq_none]
  intro j hj
  simp [hno j hj]
theorem parse_hit_out {s : Bs} {k : Nat} (hk : k < 32) (hno : ∀ j, j < k → textN j ≠ s) (h : textN k = s) : parseI s = k ∧ parseE s = 0 := by
  unfold parseI parseE; rw [parse_hit hk hno h]; exact ⟨rfl, rfl⟩
theorem parse_none_out {s : Bs} (hno : ∀ j, j < 32 → textN j ≠ s) : parseI s = 0 ∧ parseE s = 3 := by
  unfold parseI parseE; rw [parse_none hno]; exact ⟨rfl, rfl⟩
theorem texts_apart : ∀ m, m < 32 → ∀ j, j < m → textN j ≠ textN m := by decide +kernel
theorem text_some : ∀ m, m < 32 → textN m ≠ [] := by decide +kernel
theorem parse_text {m : Nat} (h : m ≤ 31) : parseI (textN m) = m ∧ parseE (textN m) = 0 := parse_hit_out (by omega) (texts_apart m (by omega)) rfl
theorem parse_empty : parseI [] = 0 ∧ parseE [] = 3 := parse_none_out text_some
/-- what is read as a mask is its text -/
theorem text_parse (s : Bs) : parseE s = 3 ∧ parseI s = 0 ∨ ∃ m : Nat, m ≤ 31 ∧ parseE s = 0 ∧ parseI s = m ∧ textN m = s := by
  cases h : parseN s with
  | none => exact .inl ⟨by unfold parseE; rw [h], by unfold parseI; rw [h]⟩
  | some m =>
    refine .inr ⟨m, ?_, by unfold parseE; rw [h], by unfold parseI; rw [h], ?_⟩
    all_goals
      unfold parseN at h
      rw [List.find?_range_eq_some] at h
      simp at h
      first
        | exact h.1
        | omega
/-! the law of two names -/
theorem pow_one : ∀ i, i < 5 → textN (2 ^ i) = name i := by decide +kernel
theorem pow_two : ∀ k, k < 5 → ∀ i, i < k → textN (2 ^ i + 2 ^ k) = name i ++ [43] ++ name k ∧ (bitsL (2 ^ i + 2 ^ k) 31).length = 2 ∧ 2 ^ i + 2 ^ k ≤ 31 := by decide +kernel
end Go.Proofs.YtkohfomiigcifaaGreatDoor.Col
