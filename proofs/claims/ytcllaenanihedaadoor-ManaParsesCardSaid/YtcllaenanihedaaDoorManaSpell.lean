/-
  BOTH PARSERS READ WHAT TEXT WRITES, AND NOTHING ELSE, PLAIN; no program in it. By an AI agent.
-/
import Derived.Test.YtcllaenanihedaaDoorManaText
namespace Go.Proofs.YtcllaenanihedaaDoor.Mana
open Go

theorem dropWhile_all {α : Type} {p : α → Bool} : ∀ {a b : List α}, (∀ x ∈ a, p x = true) → (a ++ b).dropWhile p = b.dropWhile p
  | [], _, _ => rfl
  | x :: a, b, h => by
    rw [List.cons_append, List.dropWhile_cons, if_pos (h x (by simp))]
    exact dropWhile_all fun y hy => h y (by simp [hy])
theorem dropWhile_stop {α : Type} {p : α → Bool} {m b : List α} (hm : ∀ x ∈ m, p x = false) (hne : m ≠ []) : (m ++ b).dropWhile p = m ++ b := by
  cases m with
  | nil => exact absurd rfl hne
  | cons x m => rw [List.cons_append, List.dropWhile_cons, if_neg (by rw [hm x (by simp)]; simp)]
theorem trim_mid {a m z cs : List UInt8} (ha : ∀ x ∈ a, cs.contains x = true) (hm : ∀ x ∈ m, cs.contains x = false) (hz : ∀ x ∈ z, cs.contains x = true) : Lib.trimS (a ++ m ++ z) cs = m := by
  unfold Lib.trimS Lib.trimLeftS Lib.trimRightS
  by_cases hne : m = []
  · subst hne
    rw [List.append_nil, List.reverse_append, dropWhile_all (fun x hx => hz x (by simpa using hx))]
    have h2 := dropWhile_all (p := (cs.contains ·)) (a := a.reverse) (b := []) (fun x hx => ha x (by simpa using hx))
    rw [List.append_nil] at h2
    rw [h2]
    rfl
  · have h1 : (a ++ m ++ z).reverse = z.reverse ++ (m.reverse ++ a.reverse) := by simp
    rw [h1, dropWhile_all (fun x hx => hz x (by simpa using hx)), dropWhile_stop (fun x hx => hm x (by simpa using hx)) (by simpa using hne)]
    have h2 : (m.reverse ++ a.reverse).reverse = a ++ m := by simp
    rw [h2, dropWhile_all ha]
    have h3 := dropWhile_stop (p := (cs.contains ·)) (b := []) hm hne
    rw [List.append_nil] at h3
    exact h3
def cutset : List UInt8 := [88, 65, 67, 74, 82, 69]
theorem gen_digit {g : Int} : ∀ b ∈ genL g, 48 ≤ b.toNat ∧ b.toNat ≤ 57 := by
  intro b hb
  unfold genL at hb
  split at hb
  · rw [Num.itoa_nonneg (by omega)] at hb
    exact Num.decDigits_digit _ b hb
  · cases hb
theorem digit_not {b : UInt8} (h : 48 ≤ b.toNat ∧ b.toNat ≤ 57) : cutset.contains b = false := by
  rw [Bool.eq_false_iff]
  intro e
  have : b ∈ cutset := by simpa using e
  simp only [cutset, List.mem_cons, List.not_mem_nil, or_false] at this
  rcases this with rfl | rfl | rfl | rfl | rfl | rfl <;> exact absurd h (by decide)
theorem rep_in {b : UInt8} {n : Int} (h : cutset.contains b = true) : ∀ x ∈ rep b n, cutset.contains x = true := by
  intro x hx
  unfold rep at hx
  rw [(List.mem_replicate.1 hx).2]
  exact h
theorem letters_in (c : Cst) : ∀ k, ∀ x ∈ lettersTo c k, cutset.contains x = true
  | 0, x, hx => by cases hx
  | k + 1, x, hx => by
    rw [lettersTo, List.mem_append] at hx
    rcases hx with hx | hx
    · exact letters_in c k x hx
    · refine rep_in ?_ x hx
      match k with
      | 0 => decide
      | 1 => decide
      | 2 => decide
      | 3 => decide
      | k + 4 => rfl
theorem gen_number {g : Int} (h0 : 0 ≤ g) (h1 : g ≤ 99) : (Num.numberL (genL g)).getD 0 = g := by
  unfold genL
  split
  · rw [Num.numberL_itoa_in (by omega) (by omega)]; rfl
  · rw [Num.numberL_nil]; show 0 = g; omega
theorem genOf_body {c : Cst} (h : okC c = true) : genOf (bodyTo c 5) = c.g := by
  have hg := (okC_iff.1 h).1
  unfold genOf
  rw [show Lib.trimS (bodyTo c 5) [88, 65, 67, 74, 82, 69] = genL c.g from trim_mid (rep_in (by decide)) (fun x hx => digit_not (gen_digit x hx)) (letters_in c 5)]
  exact gen_number hg.1 hg.2
theorem count_gen {g : Int} {b : UInt8} (hb : 57 < b.toNat) : (genL g).count b = 0 := by
  rw [List.count_eq_zero]
  intro h
  have := gen_digit b h
  omega
theorem count_body (c : Cst) (b : UInt8) (hb : 57 < b.toNat) : (bodyTo c 5).count b = (if b = 88 then c.x.toNat else 0) + ((if b = 65 then c.c0.toNat else 0) + ((if b = 67 then c.c1.toNat else 0) + ((if b = 74 then c.c2.toNat else 0) + ((if b = 82 then c.c3.toNat else 0) + (if b = 69 then c.c4.toNat else 0))))) := by
  simp only [bodyTo, lettersTo, letter, Cst.col, rep, List.count_append, count_gen hb, List.count_replicate, List.count_nil, beq_iff_eq, Nat.zero_add, Nat.add_zero]
  simp only [eq_comm (b := b), Nat.add_assoc]
theorem countC_body {c : Cst} (h : okC c = true) : countC (bodyTo c 5) = c := by
  obtain ⟨hg, hx, h0, h1, h2, h3, h4⟩ := okC_iff.1 h
  unfold countC Lib.countByte
  rw [genOf_body h, count_body c 88 (by decide), count_body c 65 (by decide), count_body c 67 (by decide), count_body c 74 (by decide), count_body c 82 (by decide), count_body c 69 (by decide)]
  cases c
  simp at hx h0 h1 h2 h3 h4 ⊢
  omega
theorem zero_of_nil {c : Cst} (h : okC c = true) (hb : bodyTo c 5 = []) : c = zeroC := by
  have hc := countC_body h
  rw [hb] at hc
  rw [← hc]
  unfold countC genOf
  have : Num.numberL (Lib.trimS [] [88, 65, 67, 74, 82, 69]) = none := Num.numberL_nil
  rw [this]
  rfl
theorem number_zero : Num.numberL [48] = some 0 := by
  have h : Lib.itoa 0 = [48] := by rw [Num.itoa_nonneg (by decide)]; exact Lib.decDigits_one (by decide)
  rw [← h]
  exact Num.numberL_itoa_in (by decide) (by decide)
theorem countC_zero : countC [48] = zeroC := by
  unfold countC genOf
  have : Lib.trimS [48] [88, 65, 67, 74, 82, 69] = [48] := trim_mid (a := []) (m := [48]) (z := []) (fun _ h => by cases h) (fun x hx => by simp at hx; subst hx; decide) (fun _ h => by cases h)
  rw [this, number_zero]
  rfl
theorem ok_zero : okC zeroC = true := by decide
theorem body_zeroC : bodyTo zeroC 5 = [] := by decide
/-- THE COUNTS OF A TEXT ARE THE COST. -/
theorem countC_text {c : Cst} (h : okC c = true) : countC (textL c) = c := by
  by_cases hb : bodyTo c 5 = []
  · rw [text_nil h hb, zero_of_nil h hb, countC_zero]
  · rw [text_body h hb, countC_body h]
theorem text_ne {c : Cst} (h : okC c = true) : textL c ≠ [] := by
  by_cases hb : bodyTo c 5 = []
  · rw [text_nil h hb]; simp
  · rw [text_body h hb]; exact hb
theorem ok_of_text {c : Cst} {l : List UInt8} (hl : l ≠ []) (h : textL c = l) : okC c = true := by
  cases hc : okC c with
  | true => rfl
  | false => rw [text_no hc] at h; exact absurd h.symm hl
theorem countC_nil : countC [] = zeroC := by
  have := countC_body ok_zero
  rwa [body_zeroC] at this
theorem text_zeroC : textL zeroC = [48] := text_nil ok_zero body_zeroC
/-! the scan -/
theorem scan_append : ∀ (l r : List UInt8) (c : Cst), scanC c (l ++ r) = (scanC c l).bind fun d => scanC d r
  | [], _, _ => rfl
  | b :: l, r, c => by
    rw [List.cons_append, scanC, scanC]
    cases addSym c b with
    | none => rfl
    | some d =>
      simp only []
      split
      · rfl
      · exact scan_append l r d
theorem addSym_x (c : Cst) : addSym c 88 = some { c with x := c.x + 1 } := rfl
theorem addSym_letter (c : Cst) (k : Nat) (hk : k < 5) : addSym c (letter k) = some (c.setCol k (c.col k + 1)) := by
  match k, hk with
  | 0, _ => rfl
  | 1, _ => rfl
  | 2, _ => rfl
  | 3, _ => rfl
  | 4, _ => rfl
theorem scan_x : ∀ (n : Nat) (c : Cst), c.g ≤ 99 → scanC c (List.replicate n 88) = some { c with x := c.x + n }
  | 0, c, _ => by simp [scanC]
  | n + 1, c, h => by
    rw [List.replicate_succ, scan_go (addSym_x c) (by show ¬ 99 < c.g; omega), scan_x n { c with x := c.x + 1 } h]
    simp only [Option.some.injEq, Cst.mk.injEq, and_self, and_true, true_and]
    omega
theorem setCol_setCol (c : Cst) (k : Nat) (a b : Int) : (c.setCol k a).setCol k b = c.setCol k b := by
  match k with
  | 0 => rfl
  | 1 => rfl
  | 2 => rfl
  | 3 => rfl
  | 4 => rfl
  | k + 5 => rfl
theorem setCol_self (c : Cst) (k : Nat) (hk : k < 5) : c.setCol k (c.col k) = c := by
  match k, hk with
  | 0, _ => rfl
  | 1, _ => rfl
  | 2, _ => rfl
  | 3, _ => rfl
  | 4, _ => rfl
theorem scan_letter (k : Nat) (hk : k < 5) : ∀ (n : Nat) (c : Cst), c.g ≤ 99 → scanC c (List.replicate n (letter k)) = some (c.setCol k (c.col k + n))
  | 0, c, _ => by rw [List.replicate_zero, scanC, show c.col k + ((0 : Nat) : Int) = c.col k by omega, setCol_self c k hk]
  | n + 1, c, h => by
    rw [List.replicate_succ, scan_go (addSym_letter c k hk) (by rw [setCol_g]; omega), scan_letter k hk n _ (by rw [setCol_g]; exact h), setCol_setCol, Cst.col_set c _ hk]
    rw [show c.col k + 1 + (n : Int) = c.col k + ((n + 1 : Nat) : Int) by omega]
theorem addSym_digit (c : Cst) (d : Nat) (hd : d < 10) : addSym c (UInt8.ofNat (48 + d)) = some { c with g := 10 * c.g + d } := by
  have e : (UInt8.ofNat (48 + d)).toNat = 48 + d := by simp; omega
  have n88 : ¬ UInt8.ofNat (48 + d) = 88 := by
    intro h
    have := congrArg UInt8.toNat h
    rw [e] at this
    have h88 : (88 : UInt8).toNat = 88 := rfl
    omega
  unfold addSym
  rw [if_neg n88, if_pos (by omega)]
  simp only [Option.some.injEq, Cst.mk.injEq, and_self, and_true]
  omega
theorem scan_gen {g : Int} (h0 : 0 ≤ g) (h1 : g ≤ 99) (c : Cst) (hc : c.g = 0) : scanC c (genL g) = some { c with g := g } := by
  unfold genL
  split
  · rw [Num.itoa_nonneg h0]
    obtain ⟨n, rfl⟩ : ∃ n : Nat, g = n := ⟨g.toNat, by omega⟩
    rw [Int.toNat_natCast]
    by_cases h10 : n < 10
    · rw [Lib.decDigits_one h10, scan_go (addSym_digit c n h10) (by show ¬ 99 < 10 * c.g + n; omega), scanC]
      simp only [Option.some.injEq, Cst.mk.injEq, and_self, and_true]
      omega
    · rw [Lib.decDigits, dif_neg h10, Lib.decDigits_one (by omega : n / 10 < 10)]
      rw [List.cons_append, List.nil_append, scan_go (addSym_digit c (n / 10) (by omega)) (by show ¬ 99 < 10 * c.g + ((n / 10 : Nat) : Int); omega),
        scan_go (addSym_digit _ (n % 10) (by omega)) (by show ¬ 99 < 10 * (10 * c.g + ((n / 10 : Nat) : Int)) + ((n % 10 : Nat) : Int); omega), scanC]
      simp only [Option.some.injEq, Cst.mk.injEq, and_self, and_true]
      omega
  · rw [scanC]
    cases c
    simp at hc ⊢
    omega
theorem scan_letters (c : Cst) (h : okC c = true) : ∀ k, k ≤ 5 → ∀ d : Cst, d.g ≤ 99 → (∀ j, j < 5 → d.col j = 0) → ∃ e, scanC d (lettersTo c k) = some e ∧ e.g = d.g ∧ e.x = d.x ∧ (∀ j, j < k → e.col j = c.col j) ∧ ∀ j, k ≤ j → j < 5 → e.col j = 0
  | 0, _, d, _, hd => ⟨d, rfl, rfl, rfl, fun j hj => absurd hj (by omega), fun j _ hj => hd j hj⟩
  | k + 1, hk, d, hg, hd => by
    obtain ⟨e, h1, h2, h3, h4, h5⟩ := scan_letters c h k (by omega) d hg hd
    have hck := okC_col h k
    refine ⟨e.setCol k (c.col k), ?_, by rw [setCol_g, h2], by rw [setCol_x, h3], fun j hj => ?_, fun j hj hj5 => ?_⟩
    · rw [lettersTo, scan_append, h1, Option.bind_some, rep, scan_letter k (by omega) _ e (by omega), h5 k (Nat.le_refl _) (by omega)]
      rw [show (0 : Int) + ((c.col k).toNat : Int) = c.col k by omega]
    · rcases Nat.lt_or_ge j k with hj' | hj'
      · rw [Cst.col_set_ne _ _ (by omega), h4 j hj']
      · obtain rfl : j = k := by omega
        rw [Cst.col_set _ _ (by omega)]
    · rw [Cst.col_set_ne _ _ (by omega), h5 j (by omega) hj5]
theorem Cst.ext' {c d : Cst} (hg : c.g = d.g) (hx : c.x = d.x) (h : ∀ k, k < 5 → c.col k = d.col k) : c = d := by
  have h0 := h 0 (by omega); have h1 := h 1 (by omega); have h2 := h 2 (by omega); have h3 := h 3 (by omega); have h4 := h 4 (by omega)
  cases c; cases d
  simp only [Cst.col] at h0 h1 h2 h3 h4
  simp only at hg hx
  simp only [hg, hx, h0, h1, h2, h3, h4]
theorem scan_body {c : Cst} (h : okC c = true) : scanC zeroC (bodyTo c 5) = some c := by
  obtain ⟨⟨g0, g1⟩, ⟨x0, x1⟩, -⟩ := okC_iff.1 h
  unfold bodyTo
  rw [scan_append, scan_append, rep, scan_x _ _ (by decide), Option.bind_some, scan_gen g0 g1 _ rfl, Option.bind_some]
  obtain ⟨e, h1, h2, h3, h4, -⟩ := scan_letters c h 5 (Nat.le_refl _) { zeroC with x := zeroC.x + (c.x.toNat : Int), g := c.g } g1 (fun j hj => by
    match j, hj with
    | 0, _ => rfl
    | 1, _ => rfl
    | 2, _ => rfl
    | 3, _ => rfl
    | 4, _ => rfl)
  rw [h1]
  congr 1
  refine Cst.ext' h2 (h3.trans ?_) h4
  show (0 : Int) + (c.x.toNat : Int) = c.x
  omega
theorem scan_text {c : Cst} (h : okC c = true) : scanC zeroC (textL c) = some c := by
  by_cases hb : bodyTo c 5 = []
  · rw [text_nil h hb, zero_of_nil h hb]
    rfl
  · rw [text_body h hb, scan_body h]
theorem text_len {c : Cst} (h : okC c = true) : (textL c).length ≤ 49 := by
  by_cases hb : bodyTo c 5 = []
  · rw [text_nil h hb]; simp
  · rw [text_body h hb]; exact body_len h 5 (Nat.le_refl _)
theorem parse_text {c : Cst} (h : okC c = true) : parseC (textL c) = c ∧ parseE (textL c) = 0 := by
  unfold parseC parseE
  rw [countC_text h, if_pos rfl, if_pos rfl]
  exact ⟨rfl, rfl⟩
theorem ref_text {c : Cst} (h : okC c = true) : refC (textL c) = c ∧ refE (textL c) = 0 :=
  ref_good (by have := text_len h; omega) (scan_text h) ⟨text_ne h, rfl⟩
/-- BOTH PARSERS AGREE. -/
theorem parse_ref (l : List UInt8) : refC l = parseC l ∧ refE l = parseE l := by
  by_cases ht : textL (countC l) = l
  · have hne : l ≠ [] := by
      intro e
      subst e
      rw [countC_nil, text_zeroC] at ht
      cases ht
    have hok := ok_of_text hne ht
    have h1 := ref_text hok
    have h2 := parse_text hok
    rw [ht] at h1 h2
    exact ⟨h1.1.trans h2.1.symm, h1.2.trans h2.2.symm⟩
  · have hp : parseC l = zeroC ∧ parseE l = 3 := by unfold parseC parseE; rw [if_neg ht, if_neg ht]; exact ⟨rfl, rfl⟩
    rw [hp.1, hp.2]
    by_cases h60 : 60 < l.length
    · exact ref_long h60
    · cases hs : scanC zeroC l with
      | none => exact ref_stop h60 hs
      | some c =>
        by_cases hb : l ≠ [] ∧ textL c = l
        · exfalso
          have hok := ok_of_text hb.1 hb.2
          have := countC_text hok
          rw [hb.2] at this
          rw [this] at ht
          exact ht hb.2
        · exact ref_bad h60 hs hb
end Go.Proofs.YtcllaenanihedaaDoor.Mana
