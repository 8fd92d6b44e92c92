/-
  PLAIN FACTS OF CUTTING AND JOINING: words that hold neither the separator nor a bracket (out of layer 10's plain facts, in a namespace of their own); no program in it. By an AI agent.
-/
import Derived.Test.YtkohfomiigcifaaGreatDoorWordPlain
import Derived.Lib.Join
namespace Go.Proofs.YtkohfomiigcifaaGreatDoor.Ct
open Wd (Bs brk depAt slice cut cutP split Up)

/-- no byte of p is c or a bracket -/
def PlainP (c : UInt8) (p : Bs) : Prop := ∀ b ∈ p, b ≠ c ∧ brk b = false
def plainB (c : UInt8) (p : Bs) : Bool := p.all fun b => b != c && !brk b
theorem plain_of {c : UInt8} {p : Bs} (h : plainB c p = true) : PlainP c p := by
  intro b hb
  have := List.all_eq_true.1 h b hb
  simp at this
  exact ⟨this.1, this.2⟩
theorem depAt_plain {l : Bs} : ∀ i, (∀ j, j < i → brk (l.getD j 0) = false) → depAt l i = 0
  | 0, _ => rfl
  | i + 1, h => by
    show Wd.stepD (depAt l i) (l.getD i 0) = 0
    rw [Wd.stepD_plain (h i (by omega)), depAt_plain i fun j hj => h j (by omega)]
theorem brk_getD {l : Bs} (h : ∀ b ∈ l, brk b = false) (j : Nat) : brk (l.getD j 0) = false := by
  rw [List.getD]
  by_cases hj : j < l.length
  · rw [List.getElem?_eq_getElem hj]; exact h _ (List.getElem_mem hj)
  · rw [List.getElem?_eq_none (by omega)]; rfl
theorem cutP_plain {p r : Bs} {c : UInt8} (h : PlainP c p) (i : Nat) (hi : i < p.length) : cutP (p ++ r) [c] i = false := by
  have h1 := (h _ (List.getElem_mem hi)).1
  unfold cutP
  have h2 : (c == p[i]) = false := by simpa using Ne.symm h1
  rw [List.drop_append_of_le_length (by omega), List.drop_eq_getElem_cons hi, List.cons_append]
  rw [show [c].isPrefixOf (p[i] :: (List.drop (i + 1) p ++ r)) = (c == p[i] && true) from rfl, h2]
  simp
theorem cut_plain {p : Bs} {c : UInt8} (h : PlainP c p) : cut p [c] = (p, [], false) :=
  Wd.cut_none (by simp) fun j hj => by have := cutP_plain (r := []) h j hj; rwa [List.append_nil] at this
theorem cut_at {p r : Bs} {c : UInt8} (h : PlainP c p) : cut (p ++ c :: r) [c] = (p, r, true) := by
  have := Wd.cut_some (l := p ++ c :: r) (sep := [c]) (k := p.length) (by simp) (by simp) (by
    unfold cutP
    rw [List.drop_left, depAt_plain p.length (fun j hj => by
      rw [List.getD, List.getElem?_append_left hj, List.getElem?_eq_getElem hj]
      exact (h _ (List.getElem_mem hj)).2)]
    simp [List.isPrefixOf]) (fun j hj => cutP_plain h j hj)
  rw [this]
  simp
theorem join_two (p q : Bs) (r : List Bs) (c : UInt8) : Lib.join (p :: q :: r) [c] = p ++ c :: Lib.join (q :: r) [c] := by
  rw [Lib.join_cons, Lib.join_cons]
  simp [Lib.joinTail]
theorem apart {c : UInt8} : ∀ {x y u v : Bs}, c ∉ x → c ∉ y → x ++ c :: u = y ++ c :: v → x = y ∧ u = v
  | [], [], u, v, _, _, h => by simpa using h
  | [], b :: y, u, v, _, h2, h => by
    simp at h
    exact absurd (by simp [h.1]) h2
  | a :: x, [], u, v, h1, _, h => by
    simp at h
    exact absurd (by simp [h.1]) h1
  | a :: x, b :: y, u, v, h1, h2, h => by
    simp at h h1 h2
    obtain ⟨rfl, h3⟩ := h
    obtain ⟨rfl, rfl⟩ := apart h1.2 h2.2 h3
    exact ⟨rfl, rfl⟩
theorem join_inj {c : UInt8} : ∀ {xs ys : List Bs}, xs ≠ [] → ys ≠ [] → (∀ x ∈ xs, c ∉ x) → (∀ y ∈ ys, c ∉ y) → Lib.join xs [c] = Lib.join ys [c] → xs = ys
  | [], _, h, _, _, _, _ => absurd rfl h
  | _, [], _, h, _, _, _ => absurd rfl h
  | [x], [y], _, _, _, _, h => by rw [Lib.join_one, Lib.join_one] at h; rw [h]
  | [x], y :: z :: r, _, _, h1, _, h => by
    rw [Lib.join_one, join_two] at h
    exact absurd (by rw [h]; simp) (h1 x (by simp))
  | x :: z :: r, [y], _, _, _, h2, h => by
    rw [Lib.join_one, join_two] at h
    exact absurd (by rw [← h]; simp) (h2 y (by simp))
  | x :: x' :: r, y :: y' :: r', _, _, h1, h2, h => by
    rw [join_two, join_two] at h
    obtain ⟨rfl, h3⟩ := apart (h1 x (by simp)) (h2 y (by simp)) h
    have := join_inj (xs := x' :: r) (ys := y' :: r') (by simp) (by simp) (fun z hz => h1 z (List.mem_cons_of_mem _ hz)) (fun z hz => h2 z (List.mem_cons_of_mem _ hz)) h3
    rw [this]
theorem mem_join {b c : UInt8} : ∀ {ps : List Bs}, b ∈ Lib.join ps [c] → b = c ∨ ∃ p ∈ ps, b ∈ p
  | [], h => by simp [Lib.join] at h
  | [p], h => by rw [Lib.join_one] at h; exact .inr ⟨p, by simp, h⟩
  | p :: q :: r, h => by
    rw [join_two] at h
    simp only [List.mem_append, List.mem_cons] at h
    rcases h with h | h | h
    · exact .inr ⟨p, by simp, h⟩
    · exact .inl h
    · rcases mem_join h with h | ⟨x, hx, hb⟩
      · exact .inl h
      · exact .inr ⟨x, List.mem_cons_of_mem _ hx, hb⟩
theorem split_join {c : UInt8} (hc : brk c = false) {ps : List Bs} (hne : ps ≠ []) (h : ∀ p ∈ ps, PlainP c p) : split (Lib.join ps [c]) c = ps := by
  refine join_inj (c := c) ?_ hne ?_ (fun p hp hm => (h p hp _ hm).1 rfl) (Wd.join_split _ c)
  · intro e
    have := (Wd.split_len (Lib.join ps [c]) c).1
    rw [e] at this
    simp at this
  · intro p hp hm
    have hbr : ∀ b ∈ Lib.join ps [c], brk b = false := fun b hb => by
      rcases mem_join hb with rfl | ⟨x, hx, hbx⟩
      · exact hc
      · exact (h x hx b hbx).2
    generalize Lib.join ps [c] = l at *
    obtain ⟨h1, h2, h3⟩ := Wd.parts_clean l c hc l.length
    have hall : ∃ a b, p = slice l a b ∧ ∀ j, a ≤ j → j < b → Wd.sepAt l c j = false := by
      rw [split, if_neg (by simp [hc])] at hp
      simp at hp
      rcases hp with hp | rfl
      · obtain ⟨a, b, e, _, hn⟩ := h3 p hp
        exact ⟨a, b, e, hn⟩
      · exact ⟨_, _, rfl, h2⟩
    obtain ⟨a, b, rfl, hn⟩ := hall
    obtain ⟨j, hj, e⟩ := List.mem_iff_getElem.1 hm
    have hj' : a + j < b ∧ a + j < l.length := by simp [slice] at hj; omega
    have h4 := Wd.slice_getD (l := l) hj'.1
    rw [List.getD, List.getElem?_eq_getElem hj, Option.getD_some, e] at h4
    have h5 := hn (a + j) (by omega) hj'.1
    rw [Wd.sepAt, ← h4, depAt_plain _ (fun i _ => brk_getD hbr i)] at h5
    simp at h5
/-! gathering by cuts -/
def meas (s : Bs) (more : Bool) : Nat := if more then s.length + 1 else 0
theorem cut_short {s c : Bs} (hc : c ≠ []) (h : (cut s c).2.2 = true) : (cut s c).2.1.length < s.length := by
  unfold cut at *
  rw [if_neg hc] at *
  split at h
  · rename_i i hi
    simp
    have h1 := List.find?_some hi
    have h2 := Wd.cutP_len h1
    have h3 : 0 < c.length := List.length_pos_iff.2 hc
    omega
  · cases h
theorem meas_cut {s c : Bs} (hc : c ≠ []) : meas (cut s c).2.1 (cut s c).2.2 < meas s true := by
  unfold meas
  rw [if_pos rfl]
  split
  · rename_i h
    have := cut_short hc h
    omega
  · omega
theorem join_long {c : UInt8} : ∀ (ps : List Bs), ps.length ≤ (Lib.join ps [c]).length + 1
  | [] => by simp
  | [p] => by simp
  | p :: q :: r => by
    have := join_long (c := c) (q :: r)
    rw [join_two]
    simp at this ⊢
    omega
/-- no text begins or ends with a blank -/
theorem join_head {c : UInt8} : ∀ {ps : List Bs}, (∀ p ∈ ps, p ≠ [] ∧ c ∉ p) → ∀ t, Lib.join ps [c] ≠ c :: t
  | [], _, t => by simp [Lib.join]
  | p :: r, h, t => by
    obtain ⟨h1, h2⟩ := h p (by simp)
    rw [Lib.join_cons]
    cases p with
    | nil => exact absurd rfl h1
    | cons a x =>
      intro e
      simp at e
      exact h2 (by rw [← e.1]; simp)
theorem join_end {c : UInt8} : ∀ {ps : List Bs}, (∀ p ∈ ps, p ≠ [] ∧ c ∉ p) → ∀ t, Lib.join ps [c] ≠ t ++ [c]
  | [], _, t => by simp [Lib.join]
  | [p], h, t => by
    obtain ⟨h1, h2⟩ := h p (by simp)
    rw [Lib.join_one]
    rintro rfl
    exact h2 (by simp)
  | p :: q :: r, h, t => by
    rw [join_two]
    intro e
    have e1 := congrArg List.getLast? e
    have hne : Lib.join (q :: r) [c] ≠ [] := by
      rw [Lib.join_cons]
      have := (h q (by simp)).1
      simp [this]
    obtain ⟨b, u, hu⟩ : ∃ b u, Lib.join (q :: r) [c] = u ++ [b] := ⟨_, _, (List.dropLast_concat_getLast hne).symm⟩
    rw [hu] at e1
    have e2 : b = c := by
      have : p ++ c :: (u ++ [b]) = (p ++ c :: u) ++ [b] := by simp
      rw [this, List.getLast?_concat, List.getLast?_concat] at e1
      simpa using e1
    exact join_end (ps := q :: r) (fun x hx => h x (List.mem_cons_of_mem _ hx)) u (by rw [hu, e2])
end Go.Proofs.YtkohfomiigcifaaGreatDoor.Ct
