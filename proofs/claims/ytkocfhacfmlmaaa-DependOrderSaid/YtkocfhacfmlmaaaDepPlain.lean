/-
  LAYER 7 AS PLAIN FUNCTIONS: needs, elements, who is ready, who is next, the order; and what they keep. By an AI agent.
-/
import Derived.Test.YtkocfhacfmlmaaaDepTarjan
namespace Go.Proofs.Ytkocfhacfmlmaaa.Dep

def needS (M : List (List Bool)) (i j : Int) : Bool := decide (0 ≤ i) && decide (0 ≤ j) && (M.getD i.toNat []).getD j.toNat false
def elemS : List Int → List Int → List Int
  | out, [] => out
  | out, x :: r => elemS (if 0 ≤ x ∧ x ∉ out then out ++ [x] else out) r
/-- el: each once, none of them negative -/
def Good (el : List Int) : Prop := el.Nodup ∧ ∀ x ∈ el, 0 ≤ x
theorem elemS_good : ∀ (l out : List Int), Good out → Good (elemS out l)
  | [], _, h => h
  | x :: r, out, h => by
    rw [elemS]
    refine elemS_good r _ ?_
    by_cases e : 0 ≤ x ∧ x ∉ out
    · rw [if_pos e]
      refine ⟨?_, ?_⟩
      · rw [List.nodup_append]
        refine ⟨h.1, by simp, ?_⟩
        intro a ha b hb
        rw [List.mem_singleton] at hb
        subst hb
        exact fun e2 => e.2 (e2 ▸ ha)
      · intro y hy
        rcases List.mem_append.1 hy with hy | hy
        · exact h.2 y hy
        · rw [List.mem_singleton] at hy; rw [hy]; exact e.1
    · rw [if_neg e]; exact h
theorem elemS_id : ∀ (l out : List Int), (out ++ l).Nodup → (∀ x ∈ l, 0 ≤ x) → elemS out l = out ++ l
  | [], out, _, _ => by simp [elemS]
  | x :: r, out, h, hn => by
    have h1 : x ∉ out := fun hx => by
      rw [List.nodup_append] at h
      exact h.2.2 x hx x (by simp) rfl
    rw [elemS, if_pos ⟨hn x (by simp), h1⟩, elemS_id r _ (by simpa using h) (fun y hy => hn y (by simp [hy]))]
    simp
theorem elemS_length : ∀ (l out : List Int), (elemS out l).length ≤ out.length + l.length
  | [], out => by simp [elemS]
  | x :: r, out => by
    rw [elemS]
    have := elemS_length r (if 0 ≤ x ∧ x ∉ out then out ++ [x] else out)
    have h2 : (if 0 ≤ x ∧ x ∉ out then out ++ [x] else out).length ≤ out.length + 1 := by split <;> simp
    rw [List.length_cons]
    omega
theorem good_nil : Good [] := ⟨.nil, fun x hx => by simp at hx⟩
theorem elems_good (l : List Int) : Good (elemS [] l) := elemS_good l [] good_nil
theorem elems_id {l : List Int} (h : Good l) : elemS [] l = l := by
  have := elemS_id l [] (by simpa using h.1) h.2
  simpa using this
theorem elems_length (l : List Int) : (elemS [] l).length ≤ l.length := by
  have := elemS_length l []
  simpa using this

/-- among el, a needs b -/
def NE (el : List Int) (M : List (List Bool)) (a b : Int) : Prop := a ∈ el ∧ b ∈ el ∧ needS M a b = true
def Plus {α : Type} (E : α → α → Prop) (a b : α) : Prop := ∃ c, E a c ∧ Reach E c b
theorem plus_of {α : Type} {E : α → α → Prop} {a b : α} (h : Reach E a b) (hne : a ≠ b) : Plus E a b := by
  rcases h.head with h | ⟨c, h1, h2⟩
  · exact absurd h hne
  · exact ⟨c, h1, h2⟩
theorem Plus.reach {α : Type} {E : α → α → Prop} {a b : α} (h : Plus E a b) : Reach E a b := let ⟨_, h1, h2⟩ := h; .step h1 h2
def rdyP (el : List Int) (M : List (List Bool)) (a : Int) : Prop := ∀ b, b ∈ el → needS M a b = true → Reach (NE el M) b a
open Classical in
noncomputable def rdyL (el : List Int) (M : List (List Bool)) : List Int := el.filter fun a => decide (rdyP el M a)
noncomputable def readyS (left : List Int) (M : List (List Bool)) : List Int := rdyL (elemS [] left) M
theorem mem_rdyL {el : List Int} {M : List (List Bool)} {a : Int} : a ∈ rdyL el M ↔ a ∈ el ∧ rdyP el M a := by simp [rdyL]
theorem rdyL_good {el : List Int} {M : List (List Bool)} (h : Good el) : Good (rdyL el M) := ⟨h.1.filter _, fun x hx => h.2 x (mem_rdyL.1 hx).1⟩
theorem rdyL_length (el : List Int) (M : List (List Bool)) : (rdyL el M).length ≤ el.length := List.length_filter_le _ _
theorem readyS_good (left : List Int) (M : List (List Bool)) : Good (readyS left M) := rdyL_good (elems_good left)
theorem readyS_length (left : List Int) (M : List (List Bool)) : (readyS left M).length ≤ left.length := Nat.le_trans (rdyL_length _ _) (elems_length _)
theorem rdyP_perm {el el' : List Int} {M : List (List Bool)} (h : ∀ x, x ∈ el ↔ x ∈ el') {a : Int} (hr : rdyP el M a) : rdyP el' M a := fun b hb hn =>
  (hr b ((h b).2 hb) hn).map id fun x y hxy => ⟨(h x).1 hxy.1, (h y).1 hxy.2.1, hxy.2.2⟩
theorem readyS_of_good {el : List Int} {M : List (List Bool)} (h : Good el) : readyS el M = rdyL el M := by rw [readyS, elems_id h]

theorem exists_min {α : Type} (f : α → Nat) : ∀ l : List α, l ≠ [] → ∃ a, a ∈ l ∧ ∀ b, b ∈ l → f a ≤ f b
  | [], h => absurd rfl h
  | [x], _ => ⟨x, by simp, fun b hb => by rw [List.mem_singleton] at hb; rw [hb]; exact Nat.le_refl _⟩
  | x :: y :: r, _ => by
    obtain ⟨a, ha, hm⟩ := exists_min f (y :: r) (by simp)
    by_cases e : f x ≤ f a
    · refine ⟨x, by simp, fun b hb => ?_⟩
      rcases List.mem_cons.1 hb with rfl | hb
      · exact Nat.le_refl _
      · exact Nat.le_trans e (hm b hb)
    · refine ⟨a, List.mem_cons_of_mem _ ha, fun b hb => ?_⟩
      rcases List.mem_cons.1 hb with rfl | hb
      · omega
      · exact hm b hb
theorem filter_lt {α : Type} (p q : α → Bool) (hpq : ∀ x, p x = true → q x = true) : ∀ l : List α, (l.filter p).length ≤ (l.filter q).length ∧ ((∃ x, x ∈ l ∧ q x = true ∧ p x = false) → (l.filter p).length < (l.filter q).length)
  | [] => ⟨Nat.le_refl _, fun ⟨x, hx, _⟩ => by simp at hx⟩
  | y :: r => by
    obtain ⟨h1, h2⟩ := filter_lt p q hpq r
    rw [List.filter_cons, List.filter_cons]
    by_cases hp : p y = true
    · rw [if_pos hp, if_pos (hpq y hp), List.length_cons, List.length_cons]
      refine ⟨by omega, ?_⟩
      rintro ⟨x, hx, hq, hx2⟩
      rcases List.mem_cons.1 hx with rfl | hx
      · rw [hp] at hx2; cases hx2
      · have := h2 ⟨x, hx, hq, hx2⟩; omega
    · rw [if_neg hp]
      by_cases hq : q y = true
      · rw [if_pos hq, List.length_cons]
        exact ⟨by omega, fun _ => by omega⟩
      · rw [if_neg hq]
        refine ⟨h1, ?_⟩
        rintro ⟨x, hx, hq2, hx2⟩
        rcases List.mem_cons.1 hx with rfl | hx
        · exact absurd hq2 hq
        · exact h2 ⟨x, hx, hq2, hx2⟩
open Classical in
/-- one is ready as long as one is left -/
theorem rdyL_ne {el : List Int} {M : List (List Bool)} (h : el ≠ []) : rdyL el M ≠ [] := by
  obtain ⟨a, ha, hmin⟩ := exists_min (fun a => (el.filter fun b => decide (Reach (NE el M) a b)).length) el h
  have hr : a ∈ rdyL el M := by
    refine mem_rdyL.2 ⟨ha, fun b hb hn => ?_⟩
    apply Classical.byContradiction
    intro hno
    have h1 : NE el M a b := ⟨ha, hb, hn⟩
    have h2 := (filter_lt (fun x => decide (Reach (NE el M) b x)) (fun x => decide (Reach (NE el M) a x)) (fun x hx => by
      rw [decide_eq_true_eq] at hx ⊢
      exact .step h1 hx) el).2 ⟨a, ha, by simpa using Reach.refl a, by simpa using hno⟩
    have h3 := hmin b hb
    omega
  intro e
  rw [e] at hr
  simp at hr
theorem readyS_ne {left : List Int} {M : List (List Bool)} (hg : Good left) (h : left ≠ []) : readyS left M ≠ [] := by
  rw [readyS_of_good hg]; exact rdyL_ne h

def stampS (st : List Int) (i : Int) : Int := st.getD i.toNat 0
def bet (st : List Int) (a b : Int) : Bool := decide (stampS st a < stampS st b ∨ (stampS st a = stampS st b ∧ a < b))
def pick (st : List Int) (m : Int) (l : List Int) : Int := l.foldl (fun m y => if bet st y m then y else m) m
def nextL (st : List Int) : List Int → Int
  | [] => -1
  | x :: r => pick st x r
noncomputable def nextS (left st : List Int) (M : List (List Bool)) : Int := nextL st (readyS left M)
theorem bet_trans {st : List Int} {a b c : Int} (h1 : bet st a b = false) (h2 : bet st b c = false) : bet st a c = false := by
  unfold bet at *
  rw [decide_eq_false_iff_not] at *
  omega
theorem bet_asymm {st : List Int} {a b : Int} (h1 : bet st a b = true) : bet st b a = false := by
  unfold bet at *
  rw [decide_eq_true_eq] at h1
  rw [decide_eq_false_iff_not]
  omega
theorem bet_irrefl (st : List Int) (a : Int) : bet st a a = false := by
  unfold bet
  rw [decide_eq_false_iff_not]
  omega
theorem pick_spec (st : List Int) : ∀ (l : List Int) (m : Int), (pick st m l = m ∨ pick st m l ∈ l) ∧ bet st m (pick st m l) = false ∧ ∀ y, y ∈ l → bet st y (pick st m l) = false
  | [], m => ⟨.inl rfl, bet_irrefl _ _, fun y hy => by simp at hy⟩
  | x :: r, m => by
    have e : pick st m (x :: r) = pick st (if bet st x m then x else m) r := rfl
    rw [e]
    obtain ⟨h1, h2, h3⟩ := pick_spec st r (if bet st x m then x else m)
    cases hb : bet st x m with
    | true =>
      simp only [hb, if_true] at h1 h2 h3 ⊢
      refine ⟨.inr ?_, bet_trans (bet_asymm hb) h2, ?_⟩
      · rcases h1 with h1 | h1
        · rw [h1]; exact List.mem_cons_self
        · exact List.mem_cons_of_mem _ h1
      · intro y hy
        rcases List.mem_cons.1 hy with rfl | hy
        · exact h2
        · exact h3 y hy
    | false =>
      simp only [hb, Bool.false_eq_true, if_false] at h1 h2 h3 ⊢
      refine ⟨?_, h2, ?_⟩
      · rcases h1 with h1 | h1
        · exact .inl h1
        · exact .inr (List.mem_cons_of_mem _ h1)
      · intro y hy
        rcases List.mem_cons.1 hy with rfl | hy
        · exact bet_trans hb h2
        · exact h3 y hy
theorem nextL_mem {st l : List Int} (h : l ≠ []) : nextL st l ∈ l := by
  cases l with
  | nil => exact absurd rfl h
  | cons x r =>
    rcases (pick_spec st r x).1 with h1 | h1
    · show pick st x r ∈ _
      rw [h1]; exact List.mem_cons_self
    · exact List.mem_cons_of_mem _ h1
theorem nextL_min {st l : List Int} {y : Int} (h : y ∈ l) : bet st y (nextL st l) = false := by
  cases l with
  | nil => simp at h
  | cons x r =>
    rcases List.mem_cons.1 h with rfl | h
    · exact (pick_spec st r y).2.1
    · exact (pick_spec st r x).2.2 y h
theorem nextS_mem {left st : List Int} {M : List (List Bool)} (hg : Good left) (h : left ≠ []) : nextS left st M ∈ left := by
  have := nextL_mem (st := st) (readyS_ne (M := M) hg h)
  rw [readyS_of_good hg] at this
  have h2 := (mem_rdyL.1 this).1
  rw [nextS, readyS_of_good hg]
  exact h2

noncomputable def orderF (st : List Int) (M : List (List Bool)) : Nat → List Int → List Int
  | 0, _ => []
  | k + 1, left => nextS left st M :: orderF st M k (left.filter fun y => y != nextS left st M)
def idx (n : Nat) : List Int := (List.range n).map fun (i : Nat) => (i : Int)
noncomputable def orderS (st : List Int) (M : List (List Bool)) : List Int := orderF st M st.length (idx st.length)
theorem idx_length (n : Nat) : (idx n).length = n := by simp [idx]
theorem mem_idx {n : Nat} {x : Int} : x ∈ idx n ↔ 0 ≤ x ∧ x < (n : Int) := by
  unfold idx
  rw [List.mem_map]
  constructor
  · rintro ⟨i, hi, rfl⟩
    rw [List.mem_range] at hi
    omega
  · rintro ⟨h1, h2⟩
    exact ⟨x.toNat, List.mem_range.2 (by omega), by omega⟩
theorem idx_good (n : Nat) : Good (idx n) := by
  refine ⟨?_, fun x hx => (mem_idx.1 hx).1⟩
  unfold idx
  rw [List.nodup_iff_pairwise_ne, List.pairwise_map]
  exact (List.nodup_iff_pairwise_ne.1 List.nodup_range).imp fun h e => h (by omega)
theorem idx_succ (n : Nat) : idx (n + 1) = idx n ++ [(n : Int)] := by simp [idx, List.range_succ]
theorem idx_get {n k : Nat} (h : k < n) : (idx n).getD k 0 = (k : Int) := by simp [idx, List.getD, h]
theorem rest_perm {left : List Int} {x : Int} (hg : left.Nodup) (hx : x ∈ left) : left.Perm (x :: left.filter fun y => y != x) := by
  have h1 := List.perm_cons_erase hx
  rw [List.Nodup.erase_eq_filter hg] at h1
  exact h1
theorem rest_good {left : List Int} (x : Int) (hg : Good left) : Good (left.filter fun y => y != x) := ⟨hg.1.filter _, fun y hy => hg.2 y (List.mem_filter.1 hy).1⟩
theorem rest_length {left : List Int} {x : Int} (hg : left.Nodup) (hx : x ∈ left) : (left.filter fun y => y != x).length + 1 = left.length := by
  have := (rest_perm hg hx).length_eq
  rw [List.length_cons] at this
  omega
theorem orderF_length (st : List Int) (M : List (List Bool)) : ∀ (k : Nat) (left : List Int), (orderF st M k left).length = k
  | 0, _ => rfl
  | k + 1, left => by rw [orderF, List.length_cons, orderF_length st M k]
theorem orderF_perm (st : List Int) (M : List (List Bool)) : ∀ (k : Nat) (left : List Int), Good left → left.length = k → left.Perm (orderF st M k left)
  | 0, left, _, h => by rw [List.eq_nil_of_length_eq_zero h]; exact .refl _
  | k + 1, left, hg, h => by
    have hx : nextS left st M ∈ left := nextS_mem hg (fun e => by rw [e] at h; simp at h)
    rw [orderF]
    refine (rest_perm hg.1 hx).trans (.cons _ ?_)
    exact orderF_perm st M k _ (rest_good _ hg) (by have := rest_length hg.1 hx; omega)
theorem orderF_at (st : List Int) (M : List (List Bool)) : ∀ (k i : Nat) (left : List Int), Good left → left.length = k → i < k →
    ∃ li, Good li ∧ li ≠ [] ∧ li.Perm ((orderF st M k left).drop i) ∧ (orderF st M k left)[i]? = some (nextS li st M)
  | 0, _, _, _, _, hi => by omega
  | k + 1, 0, left, hg, h, _ => ⟨left, hg, fun e => by rw [e] at h; simp at h, by rw [List.drop_zero]; exact orderF_perm st M _ left hg h, by rw [orderF]; rfl⟩
  | k + 1, i + 1, left, hg, h, hi => by
    have hx : nextS left st M ∈ left := nextS_mem hg (fun e => by rw [e] at h; simp at h)
    obtain ⟨li, h1, h2, h3, h4⟩ := orderF_at st M k i (left.filter fun y => y != nextS left st M) (rest_good _ hg) (by have := rest_length hg.1 hx; omega) (by omega)
    exact ⟨li, h1, h2, by rw [orderF, List.drop_succ_cons]; exact h3, by rw [orderF, List.getElem?_cons_succ]; exact h4⟩

section
variable {st : List Int} {M : List (List Bool)}
theorem orderS_length : (orderS st M).length = st.length := orderF_length _ _ _ _
theorem orderS_perm : (idx st.length).Perm (orderS st M) := orderF_perm _ _ _ _ (idx_good _) (idx_length _)
theorem orderS_good : Good (orderS st M) := ⟨(orderS_perm (st := st) (M := M)).nodup_iff.1 (idx_good _).1, fun x hx => (idx_good st.length).2 x ((orderS_perm (st := st) (M := M)).mem_iff.2 hx)⟩
theorem orderS_mem {x : Int} (h : x ∈ orderS st M) : 0 ≤ x ∧ x < (st.length : Int) := mem_idx.1 ((orderS_perm (st := st) (M := M)).mem_iff.2 h)
theorem orderS_range {i : Nat} (h : i < st.length) : 0 ≤ (orderS st M).getD i 0 ∧ (orderS st M).getD i 0 < (st.length : Int) := by
  refine orderS_mem (M := M) ?_
  have hl := orderS_length (st := st) (M := M)
  rw [List.getD_eq_getElem?_getD, List.getElem?_eq_getElem (by omega)]
  exact List.getElem_mem _
theorem drop_good {l : List Int} (h : Good l) (i : Nat) : Good (l.drop i) := ⟨(List.drop_sublist i l).nodup h.1, fun x hx => h.2 x (List.mem_of_mem_drop hx)⟩
/-- one is ready as long as one is left -/
theorem orderS_left {i : Nat} (h : i < st.length) : readyS ((orderS st M).drop i) M ≠ [] := by
  refine readyS_ne (drop_good orderS_good i) fun e => ?_
  have := congrArg List.length e
  rw [List.length_drop, orderS_length] at this
  simp at this
  omega
theorem orderS_at {i : Nat} (h : i < st.length) : ∃ li, Good li ∧ li ≠ [] ∧ li.Perm ((orderS st M).drop i) ∧ (orderS st M).getD i 0 = nextS li st M := by
  obtain ⟨li, h1, h2, h3, h4⟩ := orderF_at st M st.length i (idx st.length) (idx_good _) (idx_length _) h
  refine ⟨li, h1, h2, h3, ?_⟩
  rw [List.getD_eq_getElem?_getD]
  unfold orderS
  rw [h4]
  rfl
/-- of two that are ready the one with the smaller timestamp comes first -/
theorem orderS_first {i : Nat} (h : i < st.length) {y : Int} (hy : y ∈ readyS ((orderS st M).drop i) M) : bet st y ((orderS st M).getD i 0) = false := by
  obtain ⟨li, h1, _, h3, h4⟩ := orderS_at (M := M) h
  rw [h4, nextS]
  refine nextL_min ?_
  rw [readyS_of_good (drop_good orderS_good i)] at hy
  rw [readyS_of_good h1]
  obtain ⟨e1, e2⟩ := mem_rdyL.1 hy
  exact mem_rdyL.2 ⟨h3.mem_iff.2 e1, rdyP_perm (fun x => h3.mem_iff.symm) e2⟩
/-- without loops each comes after all that it needs -/
theorem orderS_after (hup : ∀ a b, needS M a b = true → a < b) {i : Nat} (h : i < st.length) {y : Int} (hy : y ∈ (orderS st M).drop i) : needS M ((orderS st M).getD i 0) y = false := by
  obtain ⟨li, h1, h2, h3, h4⟩ := orderS_at (M := M) h
  cases hn : needS M ((orderS st M).getD i 0) y with
  | false => rfl
  | true =>
    have hm := nextL_mem (st := st) (readyS_ne (M := M) h1 h2)
    rw [readyS_of_good h1] at hm
    have hr := (mem_rdyL.1 hm).2 y (h3.mem_iff.2 hy) (by rw [← readyS_of_good h1]; rw [h4] at hn; exact hn)
    have h5 := hup _ _ hn
    rw [h4, nextS, readyS_of_good h1] at h5
    have h6 := hr.closed (P := fun x => y ≤ x) (fun a b ha he => by have := hup a b he.2.2; omega) (Int.le_refl _)
    omega
end
theorem needS_nil (i j : Int) : needS [] i j = false := by simp [needS]
open Classical in
theorem rdyL_nil (el : List Int) : rdyL el [] = el := by
  unfold rdyL
  rw [List.filter_eq_self]
  intro a _
  rw [decide_eq_true_eq]
  intro b _ hn
  rw [needS_nil] at hn
  cases hn
theorem readyS_nil {el : List Int} (h : Good el) : readyS el [] = el := by rw [readyS_of_good h, rdyL_nil]
end Go.Proofs.Ytkocfhacfmlmaaa.Dep
