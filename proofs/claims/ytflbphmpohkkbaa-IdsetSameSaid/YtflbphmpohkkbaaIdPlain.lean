/-
  LAYER 3 IN PLAIN LEAN: sets of ints: what the package's functions answer, on lists. By an AI agent.
-/
import Derived.Lib.SlicesCompact
import Derived.Lib.Slices
namespace Go.Proofs.Ytflbphmpohkkbaa.Ids

/-! ### sorted, each once -/
def norm (ls : List Int) : List Int := Lib.compact (ls.mergeSort fun x y => decide (x ≤ y))
def Up (l : List Int) : Prop := l.Pairwise (· < ·)
theorem lt_of_le_ne {a b : Int} (h : a ≤ b) (hn : a ≠ b) : a < b := by
  by_cases h2 : a < b
  · exact h2
  · exact absurd (Int.le_antisymm h (Int.not_lt.1 h2)) hn
theorem up_eq : ∀ {a b : List Int}, Up a → Up b → (∀ x, x ∈ a ↔ x ∈ b) → a = b
  | [], [], _, _, _ => rfl
  | [], y :: b, _, _, h => by have := (h y).2 (by simp); simp at this
  | x :: a, [], _, _, h => by have := (h x).1 (by simp); simp at this
  | x :: a, y :: b, ha, hb, h => by
    obtain ⟨ha1, ha2⟩ := List.pairwise_cons.1 ha
    obtain ⟨hb1, hb2⟩ := List.pairwise_cons.1 hb
    have hxy : x = y := by
      have h1 := (h x).1 (by simp)
      have h2 := (h y).2 (by simp)
      simp at h1 h2
      rcases h1 with h1 | h1
      · exact h1
      · rcases h2 with h2 | h2
        · exact h2.symm
        · exact absurd (Int.lt_trans (ha1 _ h2) (hb1 _ h1)) (Int.lt_irrefl _)
    subst hxy
    have : a = b := up_eq ha2 hb2 fun z => by
      have hz := h z
      simp at hz
      constructor
      · intro hza
        rcases hz.1 (Or.inr hza) with e | e
        · subst e; exact absurd (ha1 _ hza) (Int.lt_irrefl _)
        · exact e
      · intro hzb
        rcases hz.2 (Or.inr hzb) with e | e
        · subst e; exact absurd (hb1 _ hzb) (Int.lt_irrefl _)
        · exact e
    rw [this]
theorem compact_up (zs : List Int) (hs : zs.Pairwise (· ≤ ·)) : ∀ m, m ≤ zs.length →
    Up (Lib.compactUpTo zs.toArray m) ∧ (∀ x, x ∈ Lib.compactUpTo zs.toArray m ↔ x ∈ zs.take m) := by
  have hle : ∀ i j, i ≤ j → j < zs.length → zs[i]! ≤ zs[j]! := by
    intro i j hij hj
    by_cases e : i = j
    · subst e; exact Int.le_refl _
    · rw [getElem!_pos zs i (by omega), getElem!_pos zs j hj]
      exact List.pairwise_iff_getElem.1 hs i j (by omega) hj (by omega)
  intro m
  induction m with
  | zero => intro _; simp [Lib.compactUpTo, Up]
  | succ m ih =>
    intro hm
    obtain ⟨h1, h2⟩ := ih (by omega)
    have hg : zs.toArray[m]! = zs[m]! := by simp [getElem!_def]
    have hg1 : zs.toArray[m - 1]! = zs[m - 1]! := by simp [getElem!_def]
    have htk : zs.take (m + 1) = zs.take m ++ [zs[m]!] := by rw [List.take_succ_eq_append_getElem (by omega), getElem!_pos zs m (by omega)]
    rw [Lib.compactUpTo_succ]
    by_cases hk : m = 0 ∨ zs[m]! ≠ zs[m - 1]!
    · have hkeep : Lib.keeps zs.toArray m = true := by simp only [Lib.keeps, hg, hg1]; simpa using hk
      rw [hkeep, if_pos rfl, hg]
      refine ⟨?_, fun x => by rw [htk, List.mem_append, List.mem_append, h2 x]⟩
      unfold Up
      rw [List.pairwise_append]
      refine ⟨h1, by simp, fun a ha b hb => ?_⟩
      obtain rfl : b = zs[m]! := List.mem_singleton.1 hb
      have ham := (h2 a).1 ha
      obtain ⟨i, hi, rfl⟩ := List.mem_iff_getElem.1 ham
      simp at hi
      rw [List.getElem_take]
      rcases hk with hk | hk
      · omega
      · have e1 := hle i (m - 1) (by omega) (by omega)
        have e2 := hle (m - 1) m (by omega) (by omega)
        have e3 : zs[m - 1]! < zs[m]! := lt_of_le_ne e2 (Ne.symm hk)
        rw [getElem!_pos zs i (by omega)] at e1
        by_cases e4 : zs[i] < zs[m]!
        · exact e4
        · exact absurd (Int.le_antisymm e2 (Int.le_trans (Int.not_lt.1 e4) e1)) (Ne.symm hk)
    · have hk' : ¬ m = 0 ∧ zs[m]! = zs[m - 1]! := by simpa using hk
      have hkeep : Lib.keeps zs.toArray m = false := Lib.keeps_neg (by omega) (by rw [hg, hg1]; exact hk'.2)
      rw [hkeep, if_neg (by simp), List.append_nil]
      refine ⟨h1, fun x => ?_⟩
      rw [htk, List.mem_append, h2 x]
      constructor
      · exact Or.inl
      · rintro (h | h)
        · exact h
        · obtain rfl : x = zs[m]! := List.mem_singleton.1 h
          rw [hk'.2, List.mem_take_iff_getElem]
          exact ⟨m - 1, by omega, by rw [getElem!_pos zs (m - 1) (by omega)]⟩
theorem norm_le (ls : List Int) : (ls.mergeSort fun x y => decide (x ≤ y)).Pairwise (· ≤ ·) := by
  have := List.pairwise_mergeSort (le := fun x y : Int => decide (x ≤ y)) (fun a b c h1 h2 => by simp at h1 h2 ⊢; exact Int.le_trans h1 h2) (fun a b => by simp; exact Int.le_total a b) ls
  simpa using this
theorem norm_up (ls : List Int) : Up (norm ls) := (compact_up _ (norm_le ls) _ (Nat.le_refl _)).1
theorem mem_norm (ls : List Int) (x : Int) : x ∈ norm ls ↔ x ∈ ls := by
  rw [norm, Lib.compact, (compact_up _ (norm_le ls) _ (Nat.le_refl _)).2 x, List.take_length]
  exact (List.mergeSort_perm ls _).mem_iff
theorem norm_nil : norm [] = [] := by simp [norm, Lib.compact, Lib.compactUpTo]
theorem norm_length (ls : List Int) : (norm ls).length ≤ ls.length := by
  have h := (norm_up ls)
  have h1 : (norm ls).length ≤ (ls.mergeSort fun x y => decide (x ≤ y)).length := by
    unfold norm Lib.compact Lib.compactUpTo
    rw [List.length_map]
    exact Nat.le_trans (List.length_filter_le _ _) (by simp)
  simpa using h1
theorem norm_eq {a b : List Int} (h : ∀ x, x ∈ a ↔ x ∈ b) : norm a = norm b :=
  up_eq (norm_up a) (norm_up b) fun x => by rw [mem_norm, mem_norm, h]

/-! ### Is -/
def incTo (l : List Int) (i : Nat) : Prop := ∀ j, j + 1 < i → l.getD j 0 < l.getD (j + 1) 0
def isSet (l : List Int) : Bool := decide (∀ j, j < l.length - 1 → l.getD j 0 < l.getD (j + 1) 0)
theorem isSet_true {l : List Int} {i : Nat} (h : incTo l i) (hi : l.length ≤ i) : isSet l = true := by
  unfold isSet
  simp only [decide_eq_true_eq]
  exact fun j hj => h j (by omega)
theorem isSet_false {l : List Int} {i : Nat} (hi : i + 1 < l.length) (h : l.getD (i + 1) 0 ≤ l.getD i 0) : isSet l = false := by
  unfold isSet
  simp only [decide_eq_false_iff_not]
  intro hc
  have := hc i (by omega)
  omega
theorem isSet_up {l : List Int} (h : Up l) : isSet l = true := by
  unfold isSet
  simp only [decide_eq_true_eq]
  intro j hj
  have := List.pairwise_iff_getElem.1 h j (j + 1) (by omega) (by omega) (by omega)
  rw [List.getD_eq_getElem?_getD, List.getD_eq_getElem?_getD, List.getElem?_eq_getElem (by omega), List.getElem?_eq_getElem (by omega)]
  exact this

/-! ### Without -/
def without (l : List Int) (n : Int) : List Int := l.filter fun x => decide (x ≠ n)
theorem filter_take_succ (p : Int → Bool) {l : List Int} {i : Nat} {x : Int} (h : l[i]? = some x) :
    (l.take (i + 1)).filter p = (l.take i).filter p ++ (if p x then [x] else []) := by
  have hi := (List.getElem?_eq_some_iff.1 h).1
  have e := (List.getElem?_eq_some_iff.1 h).2
  rw [List.take_succ_eq_append_getElem hi, e, List.filter_append]
  by_cases hp : p x = true <;> simp [hp]
theorem filter_len (p : Int → Bool) (l : List Int) (i : Nat) : ((l.take i).filter p).length ≤ l.length := by
  have := List.length_filter_le p (l.take i)
  have : (l.take i).length ≤ l.length := by simp; omega
  omega

/-! ### the reference's insert -/
def insStep (n : Int) (s : List Int × Bool) (x : Int) : List Int × Bool :=
  let s1 := if !s.2 && decide (n ≤ x) then (s.1 ++ [n], true) else s
  if x ≠ n then (s1.1 ++ [x], s1.2) else s1
def insAt (l : List Int) (n : Int) (i : Nat) : List Int × Bool := (l.take i).foldl (insStep n) ([], false)
def ins (l : List Int) (n : Int) : List Int := if (insAt l n l.length).2 then (insAt l n l.length).1 else (insAt l n l.length).1 ++ [n]
theorem insAt_zero (l : List Int) (n : Int) : insAt l n 0 = ([], false) := rfl
theorem insAt_succ {l : List Int} {n : Int} {i : Nat} {x : Int} (h : l[i]? = some x) : insAt l n (i + 1) = insStep n (insAt l n i) x := by
  have hi := (List.getElem?_eq_some_iff.1 h).1
  have e := (List.getElem?_eq_some_iff.1 h).2
  rw [insAt, List.take_succ_eq_append_getElem hi, e, List.foldl_append]
  rfl
theorem insStep_len (n : Int) (s : List Int × Bool) (x : Int) : (insStep n s x).1.length ≤ s.1.length + 2 := by
  unfold insStep
  simp only
  split <;> split <;> simp
theorem insAt_len (l : List Int) (n : Int) : ∀ i, i ≤ l.length → (insAt l n i).1.length ≤ 2 * i
  | 0, _ => by simp [insAt_zero]
  | i + 1, hi => by
    rw [insAt_succ (List.getElem?_eq_getElem (by omega : i < l.length))]
    have := insStep_len n (insAt l n i) l[i]
    have := insAt_len l n i (by omega)
    omega
def insR (n : Int) : List Int → List Int
  | [] => [n]
  | x :: r => if n < x then n :: x :: r else if n = x then x :: r else x :: insR n r
theorem fold_done (n : Int) : ∀ (l acc : List Int), (∀ x ∈ l, x ≠ n) → l.foldl (insStep n) (acc, true) = (acc ++ l, true)
  | [], acc, _ => by simp
  | x :: r, acc, h => by
    have hx := h x (by simp)
    have e : insStep n (acc, true) x = (acc ++ [x], true) := by simp [insStep, hx]
    rw [List.foldl_cons, e, fold_done n r _ fun y hy => h y (by simp [hy])]
    simp
theorem fold_open (n : Int) : ∀ (l acc : List Int), Up l →
    (if (l.foldl (insStep n) (acc, false)).2 then (l.foldl (insStep n) (acc, false)).1 else (l.foldl (insStep n) (acc, false)).1 ++ [n]) = acc ++ insR n l
  | [], acc, _ => by simp [insR]
  | x :: r, acc, h => by
    obtain ⟨h1, h2⟩ := List.pairwise_cons.1 h
    by_cases c1 : n < x
    · have e : insStep n (acc, false) x = (acc ++ [n] ++ [x], true) := by
        have c2 : n ≤ x := by omega
        have c3 : x ≠ n := by omega
        simp [insStep, c2, c3]
      rw [List.foldl_cons, e, fold_done n r _ fun y hy => by have := h1 y hy; omega]
      simp [insR, c1]
    · by_cases c2 : n = x
      · subst c2
        have e : insStep n (acc, false) n = (acc ++ [n], true) := by simp [insStep]
        rw [List.foldl_cons, e, fold_done n r _ fun y hy => by have := h1 y hy; omega]
        simp [insR]
      · have e : insStep n (acc, false) x = (acc ++ [x], false) := by
          have c3 : ¬ n ≤ x := by omega
          have c4 : x ≠ n := by omega
          simp [insStep, c3, c4]
        rw [List.foldl_cons, e, fold_open n r _ h2]
        simp [insR, c1, c2]
theorem ins_eq {l : List Int} (n : Int) (h : Up l) : ins l n = insR n l := by
  have := fold_open n l [] h
  rw [List.nil_append] at this
  rw [← this, ins, insAt, List.take_length]
theorem mem_insR (n x : Int) : ∀ l : List Int, x ∈ insR n l ↔ x = n ∨ x ∈ l
  | [] => by simp [insR]
  | y :: r => by
    unfold insR
    split
    · simp
    · split
      · rename_i h; subst h; simp
      · rw [List.mem_cons, mem_insR n x r, List.mem_cons]
        constructor
        · rintro (h | h | h) <;> simp [h]
        · rintro (h | h | h) <;> simp [h]
theorem insR_up (n : Int) : ∀ l : List Int, Up l → Up (insR n l)
  | [], _ => by simp [insR, Up]
  | y :: r, h => by
    obtain ⟨h1, h2⟩ := List.pairwise_cons.1 h
    unfold insR
    split
    · rename_i c
      refine List.pairwise_cons.2 ⟨fun z hz => ?_, h⟩
      rcases List.mem_cons.1 hz with rfl | hz
      · exact c
      · have := h1 z hz; omega
    · split
      · exact h
      · refine List.pairwise_cons.2 ⟨fun z hz => ?_, insR_up n r h2⟩
        rcases (mem_insR n z r).1 hz with rfl | hz
        · omega
        · exact h1 z hz
def addAll (acc l : List Int) : List Int := l.foldl ins acc
theorem addAll_spec : ∀ (l acc : List Int), Up acc → Up (addAll acc l) ∧ ∀ x, x ∈ addAll acc l ↔ x ∈ acc ∨ x ∈ l
  | [], acc, h => ⟨h, by simp [addAll]⟩
  | y :: r, acc, h => by
    have e : addAll acc (y :: r) = addAll (ins acc y) r := rfl
    have hu : Up (ins acc y) := by rw [ins_eq y h]; exact insR_up y acc h
    obtain ⟨h1, h2⟩ := addAll_spec r (ins acc y) hu
    rw [e]
    refine ⟨h1, fun x => ?_⟩
    rw [h2, ins_eq y h, mem_insR, List.mem_cons]
    constructor
    · rintro ((h | h) | h) <;> simp [h]
    · rintro (h | h | h) <;> simp [h]
theorem addAll_snoc {acc l : List Int} {i : Nat} {x : Int} (h : l[i]? = some x) : addAll acc (l.take (i + 1)) = ins (addAll acc (l.take i)) x := by
  have hi := (List.getElem?_eq_some_iff.1 h).1
  have e := (List.getElem?_eq_some_iff.1 h).2
  rw [addAll, List.take_succ_eq_append_getElem hi, e, List.foldl_append]
  rfl
theorem addAll_filter_snoc {p : Int → Bool} {l : List Int} {i : Nat} {x : Int} (h : l[i]? = some x) :
    addAll [] ((l.take (i + 1)).filter p) = if p x then ins (addAll [] ((l.take i).filter p)) x else addAll [] ((l.take i).filter p) := by
  rw [filter_take_succ p h]
  by_cases hp : p x = true
  · simp [hp, addAll]
  · simp [hp]
theorem addAll_norm (l : List Int) : addAll [] l = norm l := by
  obtain ⟨h1, h2⟩ := addAll_spec l [] List.Pairwise.nil
  exact up_eq h1 (norm_up l) fun x => by rw [h2, mem_norm]; simp
theorem addAll_union (a b : List Int) : addAll (norm a) b = norm (a ++ b) := by
  obtain ⟨h1, h2⟩ := addAll_spec b (norm a) (norm_up a)
  exact up_eq h1 (norm_up _) fun x => by rw [h2, mem_norm, mem_norm, List.mem_append]
theorem addAll_len (acc l : List Int) (h : Up acc) (m : Nat) (ha : acc.length ≤ m) : (addAll acc l).length ≤ m + l.length := by
  have e : addAll acc l = norm (acc ++ l) := by
    obtain ⟨h1, h2⟩ := addAll_spec l acc h
    exact up_eq h1 (norm_up _) fun x => by rw [h2, mem_norm, List.mem_append]
  rw [e]
  have := norm_length (acc ++ l)
  simp at this
  omega

/-! ### Meet, Minus -/
def chosen (a b : List Int) (t : Bool) : List Int := (norm a).filter fun x => (norm b).contains x == t
theorem mem_chosen (a b : List Int) (t : Bool) (x : Int) : x ∈ chosen a b t ↔ x ∈ a ∧ b.contains x = t := by
  have e : (norm b).contains x = b.contains x := by
    rw [Bool.eq_iff_iff, List.contains_iff_mem, List.contains_iff_mem, mem_norm]
  rw [chosen, List.mem_filter, mem_norm, e]
  simp
theorem chosen_up (a b : List Int) (t : Bool) : Up (chosen a b t) := List.Pairwise.filter _ (norm_up a)
theorem chosen_norm (a b : List Int) (t : Bool) : norm (a.filter fun x => b.contains x == t) = chosen a b t :=
  up_eq (norm_up _) (chosen_up a b t) fun x => by rw [mem_norm, mem_chosen, List.mem_filter]; simp
theorem chosen_split (a b : List Int) : norm (chosen a b true ++ chosen a b false) = norm a :=
  norm_eq fun x => by
    rw [List.mem_append, mem_chosen, mem_chosen]
    cases b.contains x <;> simp
theorem chosen_length (a b : List Int) (t : Bool) : (chosen a b t).length ≤ a.length :=
  Nat.le_trans (List.length_filter_le _ _) (norm_length a)
end Go.Proofs.Ytflbphmpohkkbaa.Ids
