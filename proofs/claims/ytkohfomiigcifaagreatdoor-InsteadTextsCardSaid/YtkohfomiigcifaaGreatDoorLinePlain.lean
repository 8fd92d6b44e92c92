/-
  PLAIN FACTS OF LAYER 10 (line): words, subtypes, lines, texts, what is gathered from a text, the line with a text; no program in it. By an AI agent.
-/
import Derived.Test.YtkohfomiigcifaaGreatDoorWordPlain
import Derived.Test.YtkohfomiigcifaaGreatDoorNumPlain
import Derived.Lib.Join
namespace Go.Proofs.YtkohfomiigcifaaGreatDoor.Ln
open Num (bitsL bitB)
open Wd (brk depAt slice cut cutP split Up)

abbrev Bs := List UInt8
structure Line where
  super : Int
  types : Int
  subs : List Bs
deriving DecidableEq
/-- the words of the supertypes and then those of the types -/
def words : List Bs := [[98, 97, 115, 105, 99], [117, 110, 105, 113, 117, 101], [99, 114, 101, 97, 116, 117, 114, 101], [105, 110, 115, 116, 97, 110, 116],
  [114, 105, 116, 117, 97, 108], [114, 101, 108, 105, 99], [99, 104, 97, 114, 109], [108, 97, 110, 100]]
def word (k : Nat) : Bs := words.getD k []
/-- which of the words w is (8: none) -/
def ix (w : Bs) : Nat := words.findIdx (· == w)
theorem ix_word : ∀ k, k < 8 → ix (word k) = k := by decide +kernel
theorem ix_le (w : Bs) : ix w ≤ 8 := List.findIdx_le_length
theorem ix_hit {w : Bs} {k : Nat} (hk : k < 8) (h : word k = w) : ix w = k := by rw [← h]; exact ix_word k hk
theorem ix_some {w : Bs} (h : ix w < 8) : word (ix w) = w := by
  have h1 : words.findIdx (· == w) < words.length := h
  have h2 := List.findIdx_getElem (w := h1)
  have h3 : words[words.findIdx (· == w)] = w := by simpa using h2
  unfold word List.getD
  rw [show ix w = words.findIdx (· == w) from rfl, List.getElem?_eq_getElem h1, h3]
  rfl
theorem ix_none {w : Bs} (h : ∀ k, k < 8 → word k ≠ w) : ix w = 8 := by
  by_cases h1 : ix w < 8
  · exact absurd (ix_some h1) (h _ h1)
  · have := ix_le w; omega
noncomputable def isSub (s : Bs) : Bool := Wd.isName s && decide (ix s = 8)
theorem isSub_word {s : Bs} (h : ix s < 8) : isSub s = false := by unfold isSub; rw [show decide (ix s = 8) = false by simp; omega]; simp
theorem isSub_else {s : Bs} (h : ix s = 8) : isSub s = Wd.isName s := by unfold isSub; rw [h]; simp
theorem isSub_name {s : Bs} (h : isSub s = true) : Wd.isName s = true ∧ ix s = 8 := by unfold isSub at h; simpa using h
theorem name_p {s : Bs} (h : Wd.isName s = true) : Wd.NameP s := by unfold Wd.isName at h; simpa using h
/-! lines -/
/-- types that may occur together -/
def fitN (t : Nat) : Bool := t == 2 || t == 4 || (decide (1 ≤ t) && decide (t ≤ 63) && !bitB t 1 && !bitB t 2)
def fitI (t : Int) : Bool := decide (0 ≤ t) && fitN t.toNat
theorem fitI_nat (t : Nat) : fitI (t : Int) = fitN t := by unfold fitI; simp
theorem fitI_neg {t : Int} (h : t < 0) : fitI t = false := by unfold fitI; simp; omega
theorem fitN_bd {t : Nat} (h : fitN t = true) : 1 ≤ t ∧ t ≤ 63 := by
  unfold fitN at h
  simp only [Bool.or_eq_true, Bool.and_eq_true, decide_eq_true_eq, beq_iff_eq] at h
  omega
def AreP (l : List Bs) : Prop := l.length ≤ 4 ∧ (∀ x ∈ l, isSub x = true) ∧ Up l
open Classical in
noncomputable def areB (l : List Bs) : Bool := decide (AreP l)
def ValidP (l : Line) : Prop := 0 ≤ l.super ∧ l.super ≤ 3 ∧ fitI l.types = true ∧ AreP l.subs
open Classical in
noncomputable def validB (l : Line) : Bool := decide (ValidP l)
theorem areB_true {l : List Bs} (h : AreP l) : areB l = true := by simp [areB, h]
theorem areB_false {l : List Bs} (h : ¬ AreP l) : areB l = false := by simp [areB, h]
theorem validB_iff {l : Line} : validB l = true ↔ ValidP l := by simp [validB]
theorem validB_eq (l : Line) : validB l = (decide (0 ≤ l.super) && decide (l.super ≤ 3) && fitI l.types && areB l.subs) := by
  rw [Bool.eq_iff_iff, validB_iff]
  simp [ValidP, areB, and_assoc]
theorem valid_cases (l : Line) : (∃ s t : Nat, l.super = s ∧ l.types = t ∧ s ≤ 3 ∧ 1 ≤ t ∧ t ≤ 63 ∧ ValidP l ∧ validB l = true) ∨ (¬ ValidP l ∧ validB l = false) := by
  by_cases h : ValidP l
  · obtain ⟨h0, h1, h2, h3⟩ := id h
    have h4 : 0 ≤ l.types := by
      rcases Int.lt_or_le l.types 0 with h5 | h5
      · rw [fitI_neg h5] at h2; cases h2
      · exact h5
    obtain ⟨t, ht⟩ : ∃ t : Nat, l.types = t := ⟨l.types.toNat, by omega⟩
    rw [ht, fitI_nat] at h2
    have := fitN_bd h2
    exact .inl ⟨l.super.toNat, t, by omega, ht, by omega, this.1, this.2, h, validB_iff.2 h⟩
  · exact .inr ⟨h, by simpa using fun e => h (validB_iff.1 e)⟩
/-- the words of the bits of m; that of bit 0 is word f -/
def wordsOf (m f : Nat) : List Bs := (bitsL m 31).map fun i => word (f + i.toNat)
def parts (l : Line) : List Bs := wordsOf l.super.toNat 0 ++ wordsOf l.types.toNat 2 ++ l.subs
noncomputable def textL (l : Line) : Bs := if validB l then Lib.join (parts l) [32] else []
theorem textL_valid {l : Line} (h : validB l = true) : textL l = Lib.join (parts l) [32] := by unfold textL; rw [if_pos h]
theorem textL_bad {l : Line} (h : validB l = false) : textL l = [] := by unfold textL; rw [if_neg (by simp [h])]
/-! what is gathered from words -/
def orBit (m i : Nat) : Nat := if bitB m i then m else m + 2 ^ i
structure Col where
  s : Nat
  t : Nat
  u : List Bs
deriving DecidableEq
def Col.line (c : Col) : Line := ⟨c.s, c.t, c.u⟩
def zero : Col := ⟨0, 0, []⟩
def addW (c : Col) (w : Bs) : Col := if ix w < 2 then { c with s := orBit c.s (ix w) } else if ix w < 8 then { c with t := orBit c.t (ix w - 2) } else { c with u := c.u ++ [w] }
def addAll (ws : List Bs) : Col := ws.foldl addW zero
def Col.Ok (c : Col) : Prop := c.s < 4 ∧ c.t < 64
theorem zero_ok : zero.Ok := ⟨by decide, by decide⟩
theorem orBit_s : ∀ m, m < 4 → ∀ i, i < 2 → orBit m i < 4 := by decide
theorem orBit_t : ∀ m, m < 64 → ∀ i, i < 6 → orBit m i < 64 := by decide +kernel
theorem addW_super {c : Col} {w : Bs} (h : ix w < 2) : addW c w = { c with s := orBit c.s (ix w) } := by unfold addW; rw [if_pos h]
theorem addW_type {c : Col} {w : Bs} (h : 2 ≤ ix w) (h8 : ix w < 8) : addW c w = { c with t := orBit c.t (ix w - 2) } := by unfold addW; rw [if_neg (by omega), if_pos h8]
theorem addW_sub {c : Col} {w : Bs} (h : ix w = 8) : addW c w = { c with u := c.u ++ [w] } := by unfold addW; rw [if_neg (by omega), if_neg (by omega)]
theorem addW_ok {c : Col} (w : Bs) (h : c.Ok) : (addW c w).Ok := by
  by_cases h1 : ix w < 2
  · rw [addW_super h1]; exact ⟨orBit_s _ h.1 _ h1, h.2⟩
  · by_cases h2 : ix w < 8
    · rw [addW_type (by omega) h2]; exact ⟨h.1, orBit_t _ h.2 _ (by omega)⟩
    · rw [addW_sub (by have := ix_le w; omega)]; exact h
theorem foldl_ok : ∀ (ws : List Bs) {c : Col}, c.Ok → (ws.foldl addW c).Ok
  | [], _, h => h
  | w :: r, _, h => foldl_ok r (addW_ok w h)
theorem addW_len (c : Col) (w : Bs) : c.u.length ≤ (addW c w).u.length ∧ (addW c w).u.length ≤ c.u.length + 1 := by
  unfold addW
  split
  · exact ⟨Nat.le_refl _, by simp⟩
  · split
    · exact ⟨Nat.le_refl _, by simp⟩
    · simp
theorem foldl_len : ∀ (ws : List Bs) (c : Col), c.u.length ≤ (ws.foldl addW c).u.length ∧ (ws.foldl addW c).u.length ≤ c.u.length + ws.length
  | [], c => ⟨Nat.le_refl _, by simp⟩
  | w :: r, c => by
    have h1 := addW_len c w
    have h2 := foldl_len r (addW c w)
    simp only [List.foldl_cons, List.length_cons]
    omega
theorem addAll_heads : ∀ s, s < 4 → ∀ t, t < 64 → addAll (wordsOf s 0 ++ wordsOf t 2) = ⟨s, t, []⟩ := by decide +kernel
theorem foldl_subs : ∀ (u : List Bs) (c : Col), (∀ x ∈ u, ix x = 8) → u.foldl addW c = ⟨c.s, c.t, c.u ++ u⟩
  | [], c, _ => by simp
  | x :: r, c, h => by
    rw [List.foldl_cons, foldl_subs r _ (fun y hy => h y (by simp [hy])), addW_sub (h x (by simp))]
    simp
theorem addAll_parts {l : Line} (h : ValidP l) : addAll (parts l) = ⟨l.super.toNat, l.types.toNat, l.subs⟩ ∧ (addAll (parts l)).line = l := by
  obtain ⟨h0, h1, h2, h3⟩ := id h
  rcases valid_cases l with ⟨s, t, e1, e2, l1, l2, l3, _⟩ | ⟨hn, _⟩
  · have e : addAll (parts l) = ⟨l.super.toNat, l.types.toNat, l.subs⟩ := by
      unfold addAll parts
      rw [List.foldl_append]
      have := addAll_heads s (by omega) t (by omega)
      unfold addAll at this
      rw [e1, e2, Int.toNat_natCast, Int.toNat_natCast, this, foldl_subs _ _ (fun x hx => (isSub_name (h3.2.1 x hx)).2)]
      simp
    refine ⟨e, ?_⟩
    rw [e]
    obtain ⟨a, b, u⟩ := l
    have e1' : a = s := e1
    have e2' : b = t := e2
    subst e1' e2'
    rfl
  · exact absurd h hn
/-! words that can be parted -/
/-- no byte of p is c or a bracket -/
def PlainP (c : UInt8) (p : Bs) : Prop := ∀ b ∈ p, b ≠ c ∧ brk b = false
theorem name_plain {c : UInt8} (hc : Wd.nameCh c = false) {s : Bs} (h : Wd.isName s = true) : PlainP c s := by
  intro b hb
  obtain ⟨j, hj, rfl⟩ := List.mem_iff_getElem.1 hb
  have h1 := (name_p h).2.2.2.2.1 j hj
  rw [List.getD, List.getElem?_eq_getElem hj, Option.getD_some] at h1
  refine ⟨fun e => (by rw [e] at h1; rw [h1] at hc; cases hc), ?_⟩
  cases hk : brk s[j] with
  | false => rfl
  | true =>
    exfalso
    simp [brk] at hk
    rcases hk with ((hk | hk) | hk) | hk <;> rw [hk] at h1 <;> exact absurd h1 (by decide)
def plainB (c : UInt8) (p : Bs) : Bool := p.all fun b => b != c && !brk b
theorem plain_of {c : UInt8} {p : Bs} (h : plainB c p = true) : PlainP c p := by
  intro b hb
  have := List.all_eq_true.1 h b hb
  simp at this
  exact ⟨this.1, this.2⟩
theorem words_plain : ∀ k, k < 8 → plainB 32 (word k) = true ∧ plainB 43 (word k) = true := by decide +kernel
theorem mem_wordsOf {m f : Nat} {x : Bs} (hm : m < 64) (h : x ∈ wordsOf m f) : ∃ i, i < 6 ∧ bitB m i = true ∧ x = word (f + i) := by
  unfold wordsOf bitsL at h
  rw [List.map_map] at h
  obtain ⟨i, hi, rfl⟩ := List.mem_map.1 h
  have h1 := List.mem_filter.1 hi
  refine ⟨i, ?_, h1.2, rfl⟩
  by_cases h6 : i < 6
  · exact h6
  · have : bitB m i = false := Num.bitB_zero (k := 6) (Nat.div_eq_of_lt (by omega)) i (by omega)
    rw [this] at h1
    cases h1.2
theorem super_bits : ∀ s, s < 4 → ∀ i, i < 6 → bitB s i = true → i < 2 := by decide
theorem parts_mem {l : Line} (h : ValidP l) {x : Bs} (hx : x ∈ parts l) : PlainP 32 x ∧ x ≠ [] := by
  rcases valid_cases l with ⟨s, t, e1, e2, l1, l2, l3, _⟩ | ⟨hn, _⟩
  · have key : ∀ k, k < 8 → PlainP 32 (word k) ∧ word k ≠ [] := fun k hk => ⟨plain_of (words_plain k hk).1, by
      have : ∀ k, k < 8 → word k ≠ [] := by decide +kernel
      exact this k hk⟩
    unfold parts at hx
    rw [e1, e2, Int.toNat_natCast, Int.toNat_natCast, List.mem_append, List.mem_append] at hx
    rcases hx with (hx | hx) | hx
    · obtain ⟨i, hi, hb, rfl⟩ := mem_wordsOf (by omega) hx
      exact key _ (by have := super_bits s (by omega) i hi hb; omega)
    · obtain ⟨i, hi, hb, rfl⟩ := mem_wordsOf (by omega) hx
      exact key _ (by omega)
    · have h1 := (isSub_name (h.2.2.2.2.1 x hx)).1
      refine ⟨name_plain (by decide) h1, fun e => ?_⟩
      have := (name_p h1).1
      rw [e] at this
      simp at this
  · exact absurd h hn
theorem types_ne : ∀ t, t < 64 → 1 ≤ t → wordsOf t 2 ≠ [] := by decide +kernel
theorem parts_ne {l : Line} (h : ValidP l) : parts l ≠ [] := by
  rcases valid_cases l with ⟨s, t, e1, e2, l1, l2, l3, _⟩ | ⟨hn, _⟩
  · have := types_ne t (by omega) l2
    unfold parts
    rw [e2, Int.toNat_natCast]
    simp [this]
  · exact absurd h hn
theorem depAt_plain {l : Bs} : ∀ i, (∀ j, j < i → brk (l.getD j 0) = false) → depAt l i = 0
  | 0, _ => rfl
  | i + 1, h => by
    show Wd.stepD (depAt l i) (l.getD i 0) = 0
    rw [Wd.stepD_plain (h i (by omega)), depAt_plain i fun j hj => h j (by omega)]
theorem brk_getD {l : Bs} (h : ∀ b ∈ l, brk b = false) (j : Nat) : brk (l.getD j 0) = false := by
  rw [List.getD]
  by_cases hj : j < l.length
  · rw [List.getElem?_eq_getElem hj]; exact h _ (List.getElem_mem hj)
  · rw [List.getElem?_eq_none (by omega)]; rfl
theorem cutP_plain {p r : Bs} {c : UInt8} (h : PlainP c p) (i : Nat) (hi : i < p.length) : cutP (p ++ r) [c] i = false := by
  have h1 := (h _ (List.getElem_mem hi)).1
  unfold cutP
  have h2 : (c == p[i]) = false := by simpa using Ne.symm h1
  rw [List.drop_append_of_le_length (by omega), List.drop_eq_getElem_cons hi, List.cons_append]
  rw [show [c].isPrefixOf (p[i] :: (List.drop (i + 1) p ++ r)) = (c == p[i] && true) from rfl, h2]
  simp
theorem cut_plain {p : Bs} {c : UInt8} (h : PlainP c p) : cut p [c] = (p, [], false) :=
  Wd.cut_none (by simp) fun j hj => by have := cutP_plain (r := []) h j hj; rwa [List.append_nil] at this
theorem cut_at {p r : Bs} {c : UInt8} (h : PlainP c p) : cut (p ++ c :: r) [c] = (p, r, true) := by
  have := Wd.cut_some (l := p ++ c :: r) (sep := [c]) (k := p.length) (by simp) (by simp) (by
    unfold cutP
    rw [List.drop_left, depAt_plain p.length (fun j hj => by
      rw [List.getD, List.getElem?_append_left hj, List.getElem?_eq_getElem hj]
      exact (h _ (List.getElem_mem hj)).2)]
    simp [List.isPrefixOf]) (fun j hj => cutP_plain h j hj)
  rw [this]
  simp
theorem join_two (p q : Bs) (r : List Bs) (c : UInt8) : Lib.join (p :: q :: r) [c] = p ++ c :: Lib.join (q :: r) [c] := by
  rw [Lib.join_cons, Lib.join_cons]
  simp [Lib.joinTail]
theorem apart {c : UInt8} : ∀ {x y u v : Bs}, c ∉ x → c ∉ y → x ++ c :: u = y ++ c :: v → x = y ∧ u = v
  | [], [], u, v, _, _, h => by simpa using h
  | [], b :: y, u, v, _, h2, h => by
    simp at h
    exact absurd (by simp [h.1]) h2
  | a :: x, [], u, v, h1, _, h => by
    simp at h
    exact absurd (by simp [h.1]) h1
  | a :: x, b :: y, u, v, h1, h2, h => by
    simp at h h1 h2
    obtain ⟨rfl, h3⟩ := h
    obtain ⟨rfl, rfl⟩ := apart h1.2 h2.2 h3
    exact ⟨rfl, rfl⟩
theorem join_inj {c : UInt8} : ∀ {xs ys : List Bs}, xs ≠ [] → ys ≠ [] → (∀ x ∈ xs, c ∉ x) → (∀ y ∈ ys, c ∉ y) → Lib.join xs [c] = Lib.join ys [c] → xs = ys
  | [], _, h, _, _, _, _ => absurd rfl h
  | _, [], _, h, _, _, _ => absurd rfl h
  | [x], [y], _, _, _, _, h => by rw [Lib.join_one, Lib.join_one] at h; rw [h]
  | [x], y :: z :: r, _, _, h1, _, h => by
    rw [Lib.join_one, join_two] at h
    exact absurd (by rw [h]; simp) (h1 x (by simp))
  | x :: z :: r, [y], _, _, _, h2, h => by
    rw [Lib.join_one, join_two] at h
    exact absurd (by rw [← h]; simp) (h2 y (by simp))
  | x :: x' :: r, y :: y' :: r', _, _, h1, h2, h => by
    rw [join_two, join_two] at h
    obtain ⟨rfl, h3⟩ := apart (h1 x (by simp)) (h2 y (by simp)) h
    have := join_inj (xs := x' :: r) (ys := y' :: r') (by simp) (by simp) (fun z hz => h1 z (List.mem_cons_of_mem _ hz)) (fun z hz => h2 z (List.mem_cons_of_mem _ hz)) h3
    rw [this]
theorem mem_join {b c : UInt8} : ∀ {ps : List Bs}, b ∈ Lib.join ps [c] → b = c ∨ ∃ p ∈ ps, b ∈ p
  | [], h => by simp [Lib.join] at h
  | [p], h => by rw [Lib.join_one] at h; exact .inr ⟨p, by simp, h⟩
  | p :: q :: r, h => by
    rw [join_two] at h
    simp only [List.mem_append, List.mem_cons] at h
    rcases h with h | h | h
    · exact .inr ⟨p, by simp, h⟩
    · exact .inl h
    · rcases mem_join h with h | ⟨x, hx, hb⟩
      · exact .inl h
      · exact .inr ⟨x, List.mem_cons_of_mem _ hx, hb⟩
theorem split_join {c : UInt8} (hc : brk c = false) {ps : List Bs} (hne : ps ≠ []) (h : ∀ p ∈ ps, PlainP c p) : split (Lib.join ps [c]) c = ps := by
  refine join_inj (c := c) ?_ hne ?_ (fun p hp hm => (h p hp _ hm).1 rfl) (Wd.join_split _ c)
  · intro e
    have := (Wd.split_len (Lib.join ps [c]) c).1
    rw [e] at this
    simp at this
  · intro p hp hm
    have hbr : ∀ b ∈ Lib.join ps [c], brk b = false := fun b hb => by
      rcases mem_join hb with rfl | ⟨x, hx, hbx⟩
      · exact hc
      · exact (h x hx b hbx).2
    generalize Lib.join ps [c] = l at *
    obtain ⟨h1, h2, h3⟩ := Wd.parts_clean l c hc l.length
    have hall : ∃ a b, p = slice l a b ∧ ∀ j, a ≤ j → j < b → Wd.sepAt l c j = false := by
      rw [split, if_neg (by simp [hc])] at hp
      simp at hp
      rcases hp with hp | rfl
      · obtain ⟨a, b, e, _, hn⟩ := h3 p hp
        exact ⟨a, b, e, hn⟩
      · exact ⟨_, _, rfl, h2⟩
    obtain ⟨a, b, rfl, hn⟩ := hall
    obtain ⟨j, hj, e⟩ := List.mem_iff_getElem.1 hm
    have hj' : a + j < b ∧ a + j < l.length := by simp [slice] at hj; omega
    have h4 := Wd.slice_getD (l := l) hj'.1
    rw [List.getD, List.getElem?_eq_getElem hj, Option.getD_some, e] at h4
    have h5 := hn (a + j) (by omega) hj'.1
    rw [Wd.sepAt, ← h4, depAt_plain _ (fun i _ => brk_getD hbr i)] at h5
    simp at h5
/-! gathering by cuts -/
def collectF (c : Bs) : Nat → Col → Bs → Bool → Col
  | 0, k, _, _ => k
  | n + 1, k, s, more => if (more && decide (k.u.length ≤ 4)) = true then collectF c n (addW k (cut s c).1) (cut s c).2.1 (cut s c).2.2 else k
def collectL (s c : Bs) : Col := collectF c (s.length + 1) zero s true
def meas (s : Bs) (more : Bool) : Nat := if more then s.length + 1 else 0
theorem cut_short {s c : Bs} (hc : c ≠ []) (h : (cut s c).2.2 = true) : (cut s c).2.1.length < s.length := by
  unfold cut at *
  rw [if_neg hc] at *
  split at h
  · rename_i i hi
    simp
    have h1 := List.find?_some hi
    have h2 := Wd.cutP_len h1
    have h3 : 0 < c.length := List.length_pos_iff.2 hc
    omega
  · cases h
theorem meas_cut {s c : Bs} (hc : c ≠ []) : meas (cut s c).2.1 (cut s c).2.2 < meas s true := by
  unfold meas
  rw [if_pos rfl]
  split
  · rename_i h
    have := cut_short hc h
    omega
  · omega
theorem collectF_stop {c : Bs} {n : Nat} {k : Col} {s : Bs} {more : Bool} (h : more = false ∨ 4 < k.u.length) : collectF c n k s more = k := by
  cases n with
  | zero => rfl
  | succ n =>
    rw [collectF, if_neg]
    rcases h with rfl | h
    · simp
    · simp; omega
theorem collectF_go {c : Bs} {n : Nat} {k : Col} {s : Bs} (h : k.u.length ≤ 4) : collectF c (n + 1) k s true = collectF c n (addW k (cut s c).1) (cut s c).2.1 (cut s c).2.2 := by
  rw [collectF, if_pos (by simp; omega)]
theorem collectF_ok {c : Bs} : ∀ (n : Nat) {k : Col} {s : Bs} {more : Bool}, k.Ok → (collectF c n k s more).Ok
  | 0, _, _, _, h => h
  | n + 1, k, s, more, h => by
    rw [collectF]
    split
    · exact collectF_ok n (addW_ok _ h)
    · exact h
theorem collectL_ok (s c : Bs) : (collectL s c).Ok := collectF_ok _ zero_ok
theorem collectF_len {c : Bs} : ∀ (n : Nat) {k : Col} {s : Bs} {more : Bool}, k.u.length ≤ 5 → (collectF c n k s more).u.length ≤ 5
  | 0, _, _, _, h => h
  | n + 1, k, s, more, h => by
    rw [collectF]
    split
    · rename_i h1
      simp at h1
      exact collectF_len n (by have := addW_len k (cut s c).1; omega)
    · exact h
theorem collectL_len (s c : Bs) : (collectL s c).u.length ≤ 5 := collectF_len _ (by decide)
theorem collectF_join {c : UInt8} : ∀ {ps : List Bs} {n : Nat} {k : Col}, ps ≠ [] → (∀ p ∈ ps, PlainP c p) → ps.length ≤ n → (ps.foldl addW k).u.length ≤ 4 → collectF [c] n k (Lib.join ps [c]) true = ps.foldl addW k
  | [], _, _, h, _, _, _ => absurd rfl h
  | [p], 0, _, _, _, h, _ => by simp at h
  | [p], n + 1, k, _, hp, _, hu => by
    have h1 := foldl_len [p] k
    rw [collectF_go (by omega), Lib.join_one, cut_plain (hp p (by simp)), collectF_stop (.inl rfl)]
    rfl
  | p :: q :: r, 0, _, _, _, h, _ => by simp at h
  | p :: q :: r, n + 1, k, _, hp, hn, hu => by
    have h1 := foldl_len (p :: q :: r) k
    rw [collectF_go (by omega), join_two, cut_at (hp p (by simp))]
    exact collectF_join (by simp) (fun x hx => hp x (List.mem_cons_of_mem _ hx)) (by simp at hn ⊢; omega) hu
theorem join_long {c : UInt8} : ∀ (ps : List Bs), ps.length ≤ (Lib.join ps [c]).length + 1
  | [] => by simp
  | [p] => by simp
  | p :: q :: r => by
    have := join_long (c := c) (q :: r)
    rw [join_two]
    simp at this ⊢
    omega
theorem collectL_join {c : UInt8} {ps : List Bs} (hne : ps ≠ []) (hp : ∀ p ∈ ps, PlainP c p) (hu : (addAll ps).u.length ≤ 4) : collectL (Lib.join ps [c]) [c] = addAll ps :=
  collectF_join hne hp (join_long ps) hu
/-! the line with a text -/
theorem collect_text {l : Line} (h : ValidP l) : (collectL (textL l) [32]).line = l := by
  rw [textL_valid (validB_iff.2 h), collectL_join (parts_ne h) (fun p hp => (parts_mem h hp).1) (by rw [(addAll_parts h).1]; exact h.2.2.2.1)]
  exact (addAll_parts h).2
theorem split_text {l : Line} (h : ValidP l) : (addAll (split (textL l) 32)).line = l := by
  rw [textL_valid (validB_iff.2 h), split_join (by decide) (parts_ne h) (fun p hp => (parts_mem h hp).1)]
  exact (addAll_parts h).2
open Classical in
/-- a candidate, if it is valid and has the text -/
noncomputable def pick (c : Line) (s : Bs) : Option Line := if validB c = true ∧ textL c = s then some c else none
noncomputable def parseO (s : Bs) : Option Line := pick (addAll (split s 32)).line s
theorem pick_sound {c l : Line} {s : Bs} (h : pick c s = some l) : c = l ∧ validB l = true ∧ textL l = s := by
  unfold pick at h
  split at h
  · rename_i h1
    injection h with h
    subst h
    exact ⟨rfl, h1⟩
  · cases h
theorem parse_collect (s : Bs) : pick (collectL s [32]).line s = parseO s := by
  unfold parseO
  cases h1 : pick (collectL s [32]).line s with
  | some l =>
    obtain ⟨e, h2, h3⟩ := pick_sound h1
    have := split_text (validB_iff.1 h2)
    rw [h3] at this
    rw [this]
    unfold pick
    rw [if_pos ⟨h2, h3⟩]
  | none =>
    cases h2 : pick (addAll (split s 32)).line s with
    | none => rfl
    | some l =>
      obtain ⟨e, h3, h4⟩ := pick_sound h2
      have := collect_text (validB_iff.1 h3)
      rw [h4] at this
      unfold pick at h1
      rw [this, if_pos ⟨h3, h4⟩] at h1
      cases h1
theorem pick_yes {c : Line} {s : Bs} (h1 : validB c = true) (h2 : textL c = s) : pick c s = some c := by unfold pick; rw [if_pos ⟨h1, h2⟩]
theorem pick_bad {c : Line} {s : Bs} (h1 : validB c = false) : pick c s = none := by unfold pick; rw [if_neg (by simp [h1])]
theorem pick_no {c : Line} {s : Bs} (h2 : textL c ≠ s) : pick c s = none := by unfold pick; rw [if_neg (fun h => h2 h.2)]
noncomputable def parseL (s : Bs) : Line := (parseO s).getD ⟨0, 0, []⟩
noncomputable def parseE (s : Bs) : Int := if (parseO s).isSome then 0 else 3
theorem parse_some {s : Bs} {l : Line} (h : parseO s = some l) : parseL s = l ∧ parseE s = 0 := by unfold parseL parseE; rw [h]; exact ⟨rfl, rfl⟩
theorem parse_none {s : Bs} (h : parseO s = none) : parseL s = ⟨0, 0, []⟩ ∧ parseE s = 3 := by unfold parseL parseE; rw [h]; exact ⟨rfl, rfl⟩
theorem parse_text {l : Line} (h : validB l = true) : parseO (textL l) = some l := by
  unfold parseO
  rw [split_text (validB_iff.1 h)]
  exact pick_yes h rfl
theorem parse_cases (s : Bs) : (parseO s = none ∧ parseL s = ⟨0, 0, []⟩ ∧ parseE s = 3) ∨ ∃ l, parseO s = some l ∧ parseL s = l ∧ parseE s = 0 ∧ validB l = true ∧ textL l = s := by
  cases h : parseO s with
  | none => exact .inl ⟨rfl, parse_none h⟩
  | some l => exact .inr ⟨l, rfl, (parse_some h).1, (parse_some h).2, (pick_sound h).2⟩
/-- no text begins or ends with a blank -/
theorem join_head {c : UInt8} : ∀ {ps : List Bs}, (∀ p ∈ ps, p ≠ [] ∧ c ∉ p) → ∀ t, Lib.join ps [c] ≠ c :: t
  | [], _, t => by simp [Lib.join]
  | p :: r, h, t => by
    obtain ⟨h1, h2⟩ := h p (by simp)
    rw [Lib.join_cons]
    cases p with
    | nil => exact absurd rfl h1
    | cons a x =>
      intro e
      simp at e
      exact h2 (by rw [← e.1]; simp)
theorem join_end {c : UInt8} : ∀ {ps : List Bs}, (∀ p ∈ ps, p ≠ [] ∧ c ∉ p) → ∀ t, Lib.join ps [c] ≠ t ++ [c]
  | [], _, t => by simp [Lib.join]
  | [p], h, t => by
    obtain ⟨h1, h2⟩ := h p (by simp)
    rw [Lib.join_one]
    rintro rfl
    exact h2 (by simp)
  | p :: q :: r, h, t => by
    rw [join_two]
    intro e
    have e1 := congrArg List.getLast? e
    have hne : Lib.join (q :: r) [c] ≠ [] := by
      rw [Lib.join_cons]
      have := (h q (by simp)).1
      simp [this]
    obtain ⟨b, u, hu⟩ : ∃ b u, Lib.join (q :: r) [c] = u ++ [b] := ⟨_, _, (List.dropLast_concat_getLast hne).symm⟩
    rw [hu] at e1
    have e2 : b = c := by
      have : p ++ c :: (u ++ [b]) = (p ++ c :: u) ++ [b] := by simp
      rw [this, List.getLast?_concat, List.getLast?_concat] at e1
      simpa using e1
    exact join_end (ps := q :: r) (fun x hx => h x (List.mem_cons_of_mem _ hx)) u (by rw [hu, e2])
theorem textL_parts {l : Line} (h : ValidP l) : ∀ p ∈ parts l, p ≠ [] ∧ (32 : UInt8) ∉ p := fun _ hp => ⟨(parts_mem h hp).2, fun hm => ((parts_mem h hp).1 _ hm).1 rfl⟩
theorem parse_blank_end (t : Bs) : parseO (t ++ [32]) = none := by
  cases h : parseO (t ++ [32]) with
  | none => rfl
  | some l =>
    obtain ⟨_, h1, h2⟩ := pick_sound h
    rw [textL_valid h1] at h2
    exact absurd h2 (join_end (textL_parts (validB_iff.1 h1)) t)
theorem parse_blank_head (t : Bs) : parseO (32 :: t) = none := by
  cases h : parseO (32 :: t) with
  | none => rfl
  | some l =>
    obtain ⟨_, h1, h2⟩ := pick_sound h
    rw [textL_valid h1] at h2
    exact absurd h2 (join_head (textL_parts (validB_iff.1 h1)) t)
theorem textL_ne {l : Line} (h : validB l = true) : textL l ≠ [] := by
  rw [textL_valid h]
  have h1 := parts_ne (validB_iff.1 h)
  have h2 := textL_parts (validB_iff.1 h)
  cases hp : parts l with
  | nil => exact absurd hp h1
  | cons p r =>
    rw [Lib.join_cons]
    have := (h2 p (by rw [hp]; simp)).1
    simp [this]
theorem parse_nil : parseO [] = none := by
  cases h : parseO [] with
  | none => rfl
  | some l =>
    obtain ⟨_, h1, h2⟩ := pick_sound h
    exact absurd h2 (textL_ne h1)
end Go.Proofs.YtkohfomiigcifaaGreatDoor.Ln
