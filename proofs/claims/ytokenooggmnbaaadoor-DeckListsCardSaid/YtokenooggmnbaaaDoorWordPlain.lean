/-
  LAYER 2 IN PLAIN LEAN: names, depths, parts, lines, sorted rows: what the package's functions answer, on lists of bytes. By an AI agent.
-/
import Derived.Lib.SlicesCompact
import Derived.Lib.Join
import Derived.Lib.IndexMore
namespace Go.Proofs.YtokenooggmnbaaaDoor.Wd
abbrev Bs := List UInt8

/-! ### depth -/
def stepD (d : Nat) (c : UInt8) : Nat := if c = 40 ∨ c = 91 then d + 1 else if c = 41 ∨ c = 93 then d - 1 else d
def depAt (l : Bs) : Nat → Nat
  | 0 => 0
  | i + 1 => stepD (depAt l i) (l.getD i 0)
theorem stepD_le (d : Nat) (c : UInt8) : stepD d c ≤ d + 1 := by unfold stepD; split <;> (try split) <;> omega
theorem depAt_le (l : Bs) : ∀ i, depAt l i ≤ i
  | 0 => Nat.le_refl _
  | i + 1 => by have := depAt_le l i; have := stepD_le (depAt l i) (l.getD i 0); simp only [depAt]; omega

/-! ### parts -/
def slice (l : Bs) (a b : Nat) : Bs := (l.take b).drop a
def brk (c : UInt8) : Bool := c == 40 || c == 41 || c == 91 || c == 93
/-- the parts that end before offset i, and where the next one begins -/
def partsTo (cutB : Nat → Bool) (l : Bs) : Nat → List Bs × Nat
  | 0 => ([], 0)
  | i + 1 => if cutB i then ((partsTo cutB l i).1 ++ [slice l (partsTo cutB l i).2 i], i + 1) else partsTo cutB l i
def sepAt (l : Bs) (by_ : UInt8) (i : Nat) : Bool := l.getD i 0 == by_ && depAt l i == 0
def split (l : Bs) (by_ : UInt8) : List Bs := if brk by_ then [l] else (partsTo (sepAt l by_) l l.length).1 ++ [slice l (partsTo (sepAt l by_) l l.length).2 l.length]
theorem partsTo_start (f : Nat → Bool) (l : Bs) : ∀ i, (partsTo f l i).2 ≤ i
  | 0 => Nat.le_refl _
  | i + 1 => by
    have := partsTo_start f l i
    simp only [partsTo]
    split <;> simp <;> omega
theorem partsTo_len (f : Nat → Bool) (l : Bs) : ∀ i, (partsTo f l i).1.length ≤ i
  | 0 => Nat.le_refl _
  | i + 1 => by
    have := partsTo_len f l i
    simp only [partsTo]
    split <;> simp <;> omega
theorem partsTo_yes {f : Nat → Bool} {l : Bs} {i : Nat} (h : f i = true) : partsTo f l (i + 1) = ((partsTo f l i).1 ++ [slice l (partsTo f l i).2 i], i + 1) := by simp [partsTo, h]
theorem partsTo_no {f : Nat → Bool} {l : Bs} {i : Nat} (h : f i = false) : partsTo f l (i + 1) = partsTo f l i := by simp [partsTo, h]
theorem split_len (l : Bs) (c : UInt8) : 1 ≤ (split l c).length ∧ (split l c).length ≤ l.length + 1 := by
  have := partsTo_len (sepAt l c) l l.length
  unfold split
  split <;> simp <;> omega

/-! ### cut -/
def cutP (l sep : Bs) (i : Nat) : Bool := depAt l i == 0 && sep.isPrefixOf (l.drop i)
def cutAt (l sep : Bs) : Option Nat := (List.range l.length).find? (cutP l sep)
def cut (l sep : Bs) : Bs × Bs × Bool := if sep = [] then (l, [], false) else match cutAt l sep with
  | some i => (l.take i, l.drop (i + sep.length), true)
  | none => (l, [], false)
theorem cut_nil (l : Bs) : cut l [] = (l, [], false) := rfl
theorem cut_none {l sep : Bs} (hs : sep ≠ []) (h : ∀ j, j < l.length → cutP l sep j = false) : cut l sep = (l, [], false) := by
  have : cutAt l sep = none := by simp [cutAt]; exact h
  simp [cut, hs, this]
theorem find_range {p : Nat → Bool} {n k : Nat} (hk : k < n) (h : p k = true) (hn : ∀ j, j < k → p j = false) : (List.range n).find? p = some k := by
  induction n with
  | zero => omega
  | succ n ih =>
    rw [List.range_succ, List.find?_append]
    by_cases hkn : k < n
    · rw [ih hkn]; rfl
    · have : k = n := by omega
      subst this
      have h0 : (List.range k).find? p = none := by simp; exact hn
      rw [h0]
      simp [h]
theorem cut_some {l sep : Bs} {k : Nat} (hs : sep ≠ []) (hk : k < l.length) (h : cutP l sep k = true) (hn : ∀ j, j < k → cutP l sep j = false) : cut l sep = (l.take k, l.drop (k + sep.length), true) := by
  have : cutAt l sep = some k := find_range hk h hn
  simp [cut, hs, this]
theorem isPrefixOf_len {a b : Bs} (h : a.isPrefixOf b = true) : a.length ≤ b.length := (List.isPrefixOf_iff_prefix.1 h).length_le
theorem cutP_len {l sep : Bs} {i : Nat} (h : cutP l sep i = true) : sep.length ≤ l.length - i := by
  simp [cutP] at h
  have := h.2.length_le
  simpa using this
theorem cutP_far {l sep : Bs} {i : Nat} (hs : sep ≠ []) (h : l.length < i + sep.length) : cutP l sep i = false := by
  cases hc : cutP l sep i with
  | false => rfl
  | true =>
    have := cutP_len hc
    have : 0 < sep.length := List.length_pos_iff.2 hs
    omega
/-- a prefix of what is behind offset i: the bytes between are the same -/
theorem prefix_slice (l sep : Bs) (i : Nat) : sep.isPrefixOf (l.drop i) = (slice l i (i + sep.length) == sep) := by
  rw [Bool.eq_iff_iff, List.isPrefixOf_iff_prefix, beq_iff_eq, slice, List.drop_take, List.prefix_iff_eq_take]
  constructor
  · intro h; rw [show i + sep.length - i = sep.length by omega]; exact h.symm
  · intro h; rw [show i + sep.length - i = sep.length by omega] at h; exact h.symm

/-! ### lines -/
def lfAt (l : Bs) (i : Nat) : Bool := l.getD i 0 == 10
def badEnd (l : Bs) : Bool := !(l == []) && !(l.getD (l.length - 1) 0 == 10)
def lines (l : Bs) : List Bs × Bool := if badEnd l then ([], false) else ((partsTo (lfAt l) l l.length).1, true)
theorem lines_bad {l : Bs} (h : badEnd l = true) : lines l = ([], false) := by simp [lines, h]
theorem lines_good {l : Bs} (h : badEnd l = false) : lines l = ((partsTo (lfAt l) l l.length).1, true) := by simp [lines, h]
theorem badEnd_of_start {l : Bs} (h : (partsTo (lfAt l) l l.length).2 < l.length) : badEnd l = true := by
  cases hl : l.length with
  | zero => omega
  | succ n =>
    rw [hl] at h
    have : lfAt l n = false := by
      cases hf : lfAt l n with
      | false => rfl
      | true => rw [partsTo_yes hf] at h; simp at h
    have hne : l ≠ [] := by intro e; simp [e] at hl
    have hn : n < l.length := by omega
    simp [badEnd, hne, hl]
    simpa [lfAt, hn] using this
theorem goodEnd_of_start {l : Bs} (h : (partsTo (lfAt l) l l.length).2 = l.length) : badEnd l = false := by
  cases hl : l.length with
  | zero => have := List.length_eq_zero_iff.1 hl; subst this; rfl
  | succ n =>
    rw [hl] at h
    have : lfAt l n = true := by
      cases hf : lfAt l n with
      | true => rfl
      | false => rw [partsTo_no hf] at h; have := partsTo_start (lfAt l) l n; omega
    have hn : n < l.length := by omega
    simp [badEnd, hl]
    intro _
    simpa [lfAt, hn] using this
theorem start_of_goodEnd {l : Bs} (h : badEnd l = false) : (partsTo (lfAt l) l l.length).2 = l.length := by
  have h1 := partsTo_start (lfAt l) l l.length
  by_cases h2 : (partsTo (lfAt l) l l.length).2 < l.length
  · rw [badEnd_of_start h2] at h; cases h
  · omega
/-- the lines, each with its line feed, are the text -/
def glued (ps : List Bs) : Bs := (ps.map (· ++ [10])).flatten
theorem slice_snoc (l : Bs) (a i : Nat) (ha : a ≤ i) (hi : i < l.length) : slice l a i ++ [l.getD i 0] = slice l a (i + 1) := by
  unfold slice
  rw [List.take_succ_eq_append_getElem hi, List.drop_append_of_le_length (by simp; omega)]
  simp [List.getD, hi]
theorem glued_to (l : Bs) : ∀ i, i ≤ l.length → glued (partsTo (lfAt l) l i).1 ++ slice l (partsTo (lfAt l) l i).2 i = l.take i
  | 0, _ => by simp [partsTo, glued, slice]
  | i + 1, hi => by
    have ih := glued_to l i (by omega)
    have hst := partsTo_start (lfAt l) l i
    have hs := slice_snoc l _ i hst (by omega)
    have ht : l.take (i + 1) = l.take i ++ [l.getD i 0] := by rw [List.take_succ_eq_append_getElem (by omega)]; simp [List.getD, show i < l.length by omega]
    cases hf : lfAt l i with
    | true =>
      have h10 : l.getD i 0 = 10 := by simpa [lfAt] using hf
      rw [partsTo_yes hf, ht, ← ih, h10]
      simp [glued, slice]
    | false =>
      rw [partsTo_no hf, ht, ← ih, ← hs]
      simp
theorem glued_lines {l : Bs} (h : badEnd l = false) : glued (lines l).1 = l := by
  have h1 := glued_to l l.length (Nat.le_refl _)
  rw [start_of_goodEnd h] at h1
  rw [lines_good h]
  simpa [slice] using h1

/-! ### joined again -/
theorem joinTail_snoc (sep : Bs) (r : List Bs) (x : Bs) : Lib.joinTail sep (r ++ [x]) = Lib.joinTail sep r ++ (sep ++ x) := by simp [Lib.joinTail]
theorem join_snoc (xs : List Bs) (sep x : Bs) (h : xs ≠ []) : Lib.join (xs ++ [x]) sep = Lib.join xs sep ++ (sep ++ x) := by
  cases xs with
  | nil => exact absurd rfl h
  | cons a r =>
    induction r generalizing a with
    | nil => simp [Lib.join, List.intercalate, List.intersperse]
    | cons b r ih =>
      have := ih b (by simp)
      simp [Lib.join, List.intercalate, List.intersperse] at this ⊢
      exact this
theorem join_last (xs : List Bs) (sep a b : Bs) : Lib.join (xs ++ [a ++ b]) sep = Lib.join (xs ++ [a]) sep ++ b := by
  cases hx : xs with
  | nil => simp [Lib.join, List.intercalate]
  | cons y r =>
    rw [join_snoc _ _ _ (by simp), join_snoc _ _ _ (by simp)]
    simp
theorem join_parts (f : Nat → Bool) (c : UInt8) (l : Bs) (hf : ∀ i, i < l.length → f i = true → l.getD i 0 = c) : ∀ i, i ≤ l.length → Lib.join ((partsTo f l i).1 ++ [slice l (partsTo f l i).2 i]) [c] = l.take i
  | 0, _ => by simp [partsTo, slice, Lib.join, List.intercalate]
  | i + 1, hi => by
    have ih := join_parts f c l hf i (by omega)
    have hst := partsTo_start f l i
    have hs := slice_snoc l _ i hst (by omega)
    have ht : l.take (i + 1) = l.take i ++ [l.getD i 0] := by rw [List.take_succ_eq_append_getElem (by omega)]; simp [List.getD, show i < l.length by omega]
    cases hb : f i with
    | true =>
      have h10 : l.getD i 0 = c := hf i (by omega) hb
      rw [partsTo_yes hb, ht, ← ih, h10]
      rw [join_snoc _ _ _ (by simp)]
      simp [slice]
    | false =>
      rw [partsTo_no hb, ht, ← ih, ← hs, join_last]
theorem join_split (l : Bs) (c : UInt8) : Lib.join (split l c) [c] = l := by
  unfold split
  split
  · simp [Lib.join, List.intercalate]
  · rw [join_parts _ c l (fun i _ h => by simp [sepAt] at h; exact h.1) _ (Nat.le_refl _)]
    simp

/-! ### no part has further parts -/
theorem slice_getD {l : Bs} {a b j : Nat} (h : a + j < b) : (slice l a b).getD j 0 = l.getD (a + j) 0 := by
  unfold slice
  simp [List.getD, h]
theorem depAt_slice {l : Bs} {a b : Nat} (h0 : depAt l a = 0) : ∀ j, a + j ≤ b → depAt (slice l a b) j = depAt l (a + j)
  | 0, _ => by simp [depAt, h0]
  | j + 1, h => by
    rw [← Nat.add_assoc]
    simp only [depAt]
    rw [depAt_slice h0 j (by omega), slice_getD (by omega)]
theorem stepD_plain {d : Nat} {c : UInt8} (h : brk c = false) : stepD d c = d := by
  simp [brk] at h
  simp [stepD, h]
/-- at a part's begin the depth is 0, and no separator lies between it and i -/
theorem parts_clean (l : Bs) (c : UInt8) (hb : brk c = false) : ∀ i, depAt l (partsTo (sepAt l c) l i).2 = 0 ∧ (∀ j, (partsTo (sepAt l c) l i).2 ≤ j → j < i → sepAt l c j = false) ∧
    ∀ p ∈ (partsTo (sepAt l c) l i).1, ∃ a b, p = slice l a b ∧ depAt l a = 0 ∧ ∀ j, a ≤ j → j < b → sepAt l c j = false
  | 0 => by simp [partsTo, depAt]
  | i + 1 => by
    obtain ⟨h1, h2, h3⟩ := parts_clean l c hb i
    cases hs : sepAt l c i with
    | true =>
      rw [partsTo_yes hs]
      refine ⟨?_, fun j h4 h5 => by simp at h4; omega, ?_⟩
      · simp [sepAt] at hs
        have e : depAt l (i + 1) = stepD (depAt l i) (l.getD i 0) := rfl
        have hc : brk (l.getD i 0) = false := by rw [List.getD, hs.1]; exact hb
        show depAt l (i + 1) = 0
        rw [e, stepD_plain hc, hs.2]
      · intro p hp
        simp at hp
        rcases hp with hp | rfl
        · exact h3 p hp
        · exact ⟨_, _, rfl, h1, h2⟩
    | false =>
      rw [partsTo_no hs]
      refine ⟨h1, fun j h4 h5 => ?_, h3⟩
      by_cases e : j = i
      · subst e; exact hs
      · exact h2 j h4 (by omega)
theorem partsTo_none {f : Nat → Bool} {l : Bs} : ∀ i, (∀ j, j < i → f j = false) → partsTo f l i = ([], 0)
  | 0, _ => rfl
  | i + 1, h => by rw [partsTo_no (h i (by omega)), partsTo_none i fun j hj => h j (by omega)]
theorem split_part {l p : Bs} {c : UInt8} (h : p ∈ split l c) : (split p c).length = 1 := by
  by_cases hb : brk c = true
  · simp [split, hb]
  · have hb' : brk c = false := by simpa using hb
    obtain ⟨h1, h2, h3⟩ := parts_clean l c hb' l.length
    have hall : ∃ a b, p = slice l a b ∧ depAt l a = 0 ∧ ∀ j, a ≤ j → j < b → sepAt l c j = false := by
      rw [split, if_neg hb] at h
      simp at h
      rcases h with h | rfl
      · exact h3 p h
      · exact ⟨_, _, rfl, h1, h2⟩
    obtain ⟨a, b, rfl, ha, hn⟩ := hall
    have : partsTo (sepAt (slice l a b) c) (slice l a b) (slice l a b).length = ([], 0) := by
      refine partsTo_none _ fun j hj => ?_
      have hjb : a + j < b := by simp [slice] at hj; omega
      have := hn (a + j) (by omega) hjb
      rw [sepAt, slice_getD hjb, depAt_slice ha j (by omega)]
      exact this
    rw [split, if_neg hb, this]
    simp

/-! ### names -/
def low (c : UInt8) : Bool := decide (97 ≤ c.toNat ∧ c.toNat ≤ 122)
def dig (c : UInt8) : Bool := decide (48 ≤ c.toNat ∧ c.toNat ≤ 57)
def nameCh (c : UInt8) : Bool := low c || dig c || c == 45
def NameP (l : Bs) : Prop := 1 ≤ l.length ∧ l.length ≤ 32 ∧ low (l.getD 0 0) = true ∧ l.getD (l.length - 1) 0 ≠ 45 ∧ (∀ i, i < l.length → nameCh (l.getD i 0) = true) ∧ ∀ i, i + 1 < l.length → ¬ (l.getD i 0 = 45 ∧ l.getD (i + 1) 0 = 45)
open Classical in
noncomputable def isName (l : Bs) : Bool := decide (NameP l)
theorem isName_true {l : Bs} (h : NameP l) : isName l = true := by simp [isName, h]
theorem isName_false {l : Bs} (h : ¬ NameP l) : isName l = false := by simp [isName, h]
theorem occ_hyphens (l : Bs) (i : Nat) : Lib.occAt l [45, 45] i = true ↔ i + 1 < l.length ∧ l.getD i 0 = 45 ∧ l.getD (i + 1) 0 = 45 := by
  unfold Lib.occAt
  rw [List.isPrefixOf_iff_prefix, List.prefix_iff_eq_take]
  constructor
  · intro h
    have hl := congrArg List.length h
    simp at hl
    have h0 := congrArg (fun z : Bs => z.getD 0 0) h
    have h1 := congrArg (fun z : Bs => z.getD 1 0) h
    simp [List.getD] at h0 h1
    refine ⟨by omega, ?_, ?_⟩
    · simp [List.getD]; exact h0.symm
    · simp [List.getD]; exact h1.symm
  · rintro ⟨h1, h2, h3⟩
    simp [List.getD, h1, show i < l.length by omega] at h2 h3
    rw [List.drop_eq_getElem_cons (by omega), List.drop_eq_getElem_cons h1, h2, h3]
    simp
/-- strings.Contains at two hyphens -/
theorem hyphens (l : Bs) : Lib.contains l [45, 45] = true ↔ ∃ i, i + 1 < l.length ∧ l.getD i 0 = 45 ∧ l.getD (i + 1) 0 = 45 := by
  unfold Lib.contains
  rw [decide_eq_true_eq]
  rcases Lib.index_spec l [45, 45] with ⟨h1, h2⟩ | ⟨i, h1, h2, h3, _⟩
  · rw [h1]
    constructor
    · intro h; omega
    · rintro ⟨i, hi⟩
      have := (occ_hyphens l i).2 hi
      rw [h2 i (by omega)] at this
      cases this
  · rw [h1]
    exact ⟨fun _ => ⟨i, (occ_hyphens l i).1 h3⟩, fun _ => by omega⟩

/-! ### sorted, each once -/
def sorted (ls : List Bs) : List Bs := Lib.compact (ls.mergeSort fun x y => decide (x ≤ y))
def Up (l : List Bs) : Prop := l.Pairwise (· < ·)
theorem lt_of_le_ne {a b : Bs} (h : a ≤ b) (hn : a ≠ b) : a < b := by
  by_cases h2 : a < b
  · exact h2
  · exact absurd (List.le_antisymm h (List.not_lt.1 h2)) hn
theorem up_eq : ∀ {a b : List Bs}, Up a → Up b → (∀ x, x ∈ a ↔ x ∈ b) → a = b
  | [], [], _, _, _ => rfl
  | [], y :: b, _, _, h => by have := (h y).2 (by simp); simp at this
  | x :: a, [], _, _, h => by have := (h x).1 (by simp); simp at this
  | x :: a, y :: b, ha, hb, h => by
    obtain ⟨ha1, ha2⟩ := List.pairwise_cons.1 ha
    obtain ⟨hb1, hb2⟩ := List.pairwise_cons.1 hb
    have hxy : x = y := by
      have h1 := (h x).1 (by simp)
      have h2 := (h y).2 (by simp)
      simp at h1 h2
      rcases h1 with h1 | h1
      · exact h1
      · rcases h2 with h2 | h2
        · exact h2.symm
        · exact absurd (List.lt_trans (ha1 _ h2) (hb1 _ h1)) (List.lt_irrefl _)
    subst hxy
    have : a = b := up_eq ha2 hb2 fun z => by
      have hz := h z
      simp at hz
      constructor
      · intro hza
        rcases hz.1 (Or.inr hza) with e | e
        · subst e; exact absurd (ha1 _ hza) (List.lt_irrefl _)
        · exact e
      · intro hzb
        rcases hz.2 (Or.inr hzb) with e | e
        · subst e; exact absurd (hb1 _ hzb) (List.lt_irrefl _)
        · exact e
    rw [this]
theorem compact_up (zs : List Bs) (hs : zs.Pairwise (· ≤ ·)) : ∀ m, m ≤ zs.length →
    Up (Lib.compactUpTo zs.toArray m) ∧ (∀ x, x ∈ Lib.compactUpTo zs.toArray m ↔ x ∈ zs.take m) := by
  have hle : ∀ i j, i ≤ j → j < zs.length → zs[i]! ≤ zs[j]! := by
    intro i j hij hj
    by_cases e : i = j
    · subst e; exact List.le_refl _
    · rw [getElem!_pos zs i (by omega), getElem!_pos zs j hj]
      exact List.pairwise_iff_getElem.1 hs i j (by omega) hj (by omega)
  intro m
  induction m with
  | zero => intro _; simp [Lib.compactUpTo, Up]
  | succ m ih =>
    intro hm
    obtain ⟨h1, h2⟩ := ih (by omega)
    have hg : zs.toArray[m]! = zs[m]! := by simp [getElem!_def]
    have hg1 : zs.toArray[m - 1]! = zs[m - 1]! := by simp [getElem!_def]
    have htk : zs.take (m + 1) = zs.take m ++ [zs[m]!] := by rw [List.take_succ_eq_append_getElem (by omega), getElem!_pos zs m (by omega)]
    rw [Lib.compactUpTo_succ]
    by_cases hk : m = 0 ∨ zs[m]! ≠ zs[m - 1]!
    · have hkeep : Lib.keeps zs.toArray m = true := by simp only [Lib.keeps, hg, hg1]; simpa using hk
      rw [hkeep, if_pos rfl, hg]
      refine ⟨?_, fun x => by rw [htk, List.mem_append, List.mem_append, h2 x]⟩
      unfold Up
      rw [List.pairwise_append]
      refine ⟨h1, by simp, fun a ha b hb => ?_⟩
      obtain rfl : b = zs[m]! := List.mem_singleton.1 hb
      have ham := (h2 a).1 ha
      obtain ⟨i, hi, rfl⟩ := List.mem_iff_getElem.1 ham
      simp at hi
      rw [List.getElem_take]
      rcases hk with hk | hk
      · omega
      · have e1 := hle i (m - 1) (by omega) (by omega)
        have e2 := hle (m - 1) m (by omega) (by omega)
        have e3 : zs[m - 1]! < zs[m]! := lt_of_le_ne e2 (Ne.symm hk)
        rw [getElem!_pos zs i (by omega)] at e1
        by_cases e4 : zs[i] < zs[m]!
        · exact e4
        · exact absurd (List.le_antisymm e2 (List.le_trans (List.not_lt.1 e4) e1)) (Ne.symm hk)
    · have hk' : ¬ m = 0 ∧ zs[m]! = zs[m - 1]! := by simpa using hk
      have hkeep : Lib.keeps zs.toArray m = false := Lib.keeps_neg (by omega) (by rw [hg, hg1]; exact hk'.2)
      rw [hkeep, if_neg (by simp), List.append_nil]
      refine ⟨h1, fun x => ?_⟩
      rw [htk, List.mem_append, h2 x]
      constructor
      · exact Or.inl
      · rintro (h | h)
        · exact h
        · obtain rfl : x = zs[m]! := List.mem_singleton.1 h
          rw [hk'.2, List.mem_take_iff_getElem]
          exact ⟨m - 1, by omega, by rw [getElem!_pos zs (m - 1) (by omega)]⟩
theorem sorted_le (ls : List Bs) : (ls.mergeSort fun x y => decide (x ≤ y)).Pairwise (· ≤ ·) := by
  have := List.pairwise_mergeSort (le := fun x y : Bs => decide (x ≤ y)) (fun a b c h1 h2 => by simp at h1 h2 ⊢; exact List.le_trans h1 h2) (fun a b => by simp; exact List.le_total a b) ls
  simpa using this
theorem sorted_up (ls : List Bs) : Up (sorted ls) := (compact_up _ (sorted_le ls) _ (Nat.le_refl _)).1
theorem mem_sorted (ls : List Bs) (x : Bs) : x ∈ sorted ls ↔ x ∈ ls := by
  rw [sorted, Lib.compact, (compact_up _ (sorted_le ls) _ (Nat.le_refl _)).2 x, List.take_length]
  exact (List.mergeSort_perm ls _).mem_iff
theorem sorted_nil : sorted [] = [] := by simp [sorted, Lib.compact, Lib.compactUpTo]
/-- the reference: one element put into a row -/
def put (out : List Bs) (x : Bs) : List Bs := out.takeWhile (decide <| · < x) ++ [x] ++ (out.dropWhile (decide <| · < x)).filter (decide <| · ≠ x)
def putAll : List Bs → Nat → List Bs
  | _, 0 => []
  | ls, i + 1 => put (putAll ls i) (ls.getD i [])
theorem mem_put {out : List Bs} {x y : Bs} : y ∈ put out x ↔ y = x ∨ y ∈ out := by
  have h := List.takeWhile_append_dropWhile (p := fun z : Bs => decide (z < x)) (l := out)
  have hm : y ∈ out ↔ y ∈ out.takeWhile (decide <| · < x) ∨ y ∈ out.dropWhile (decide <| · < x) := by rw [← List.mem_append, h]
  rw [hm, put, List.mem_append, List.mem_append, List.mem_filter]
  by_cases e : y = x <;> simp [e]
theorem put_up {x : Bs} : ∀ {out : List Bs}, Up out → Up (put out x)
  | [], _ => by simp [put, Up]
  | a :: r, h => by
    obtain ⟨h1, h2⟩ := List.pairwise_cons.1 h
    by_cases ha : a < x
    · have e : put (a :: r) x = a :: put r x := by simp [put, ha]
      rw [e]
      refine List.pairwise_cons.2 ⟨fun b hb => ?_, put_up h2⟩
      rcases mem_put.1 hb with rfl | hb
      · exact ha
      · exact h1 b hb
    · have e : put (a :: r) x = x :: (a :: r).filter (decide <| · ≠ x) := by simp [put, ha]
      rw [e]
      refine List.pairwise_cons.2 ⟨fun b hb => ?_, List.Pairwise.filter _ h⟩
      obtain ⟨hb1, hb2⟩ := List.mem_filter.1 hb
      have hb2' : b ≠ x := by simpa using hb2
      have hxb : x ≤ b := by
        rcases List.mem_cons.1 hb1 with rfl | hb1
        · exact List.not_lt.1 ha
        · exact List.le_trans (List.not_lt.1 ha) (List.le_of_lt (h1 b hb1))
      exact lt_of_le_ne hxb (Ne.symm hb2')
theorem putAll_sorted (ls : List Bs) : putAll ls ls.length = sorted ls := by
  have key : ∀ i, i ≤ ls.length → Up (putAll ls i) ∧ ∀ x, x ∈ putAll ls i ↔ x ∈ ls.take i := by
    intro i
    induction i with
    | zero => intro _; simp [putAll, Up]
    | succ i ih =>
      intro hi
      obtain ⟨h1, h2⟩ := ih (by omega)
      refine ⟨put_up h1, fun x => ?_⟩
      rw [putAll, mem_put, h2, List.take_succ_eq_append_getElem (by omega), List.mem_append]
      simp [List.getD, show i < ls.length by omega]
      exact Or.comm
  obtain ⟨h1, h2⟩ := key _ (Nat.le_refl _)
  exact up_eq h1 (sorted_up ls) fun x => by rw [h2, List.take_length, mem_sorted]
end Go.Proofs.YtokenooggmnbaaaDoor.Wd
