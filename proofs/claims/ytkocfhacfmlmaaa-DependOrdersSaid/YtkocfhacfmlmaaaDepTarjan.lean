/-
  LAYER 7 AS PLAIN MATHEMATICS: reachability; what a depth-first visit of a graph keeps, and what it has found when it ends (Tarjan's loops). By an AI agent.
-/
namespace Go.Proofs.Ytkocfhacfmlmaaa.Dep

/-- from a one comes to b (by no step, too): whatever holds of a and is handed on along E holds of b -/
def Reach {α : Type} (E : α → α → Prop) (a b : α) : Prop := ∀ P : α → Prop, P a → (∀ x y, P x → E x y → P y) → P b
theorem Reach.refl {α : Type} {E : α → α → Prop} (a : α) : Reach E a a := fun _ h _ => h
theorem Reach.step {α : Type} {E : α → α → Prop} {a b c : α} (h : E a b) (h2 : Reach E b c) : Reach E a c := fun P ha hs => h2 P (hs a b ha h) hs
theorem Reach.single {α : Type} {E : α → α → Prop} {a b : α} (h : E a b) : Reach E a b := fun _ ha hs => hs a b ha h
theorem Reach.trans {α : Type} {E : α → α → Prop} {a b c : α} (h : Reach E a b) (h2 : Reach E b c) : Reach E a c := fun P ha hs => h2 P (h P ha hs) hs
theorem Reach.closed {α : Type} {E : α → α → Prop} {P : α → Prop} (hP : ∀ a b, P a → E a b → P b) {a b : α} (h : Reach E a b) : P a → P b := fun ha => h P ha hP
theorem Reach.map {α β : Type} {E : α → α → Prop} {F : β → β → Prop} (f : α → β) (hf : ∀ a b, E a b → F (f a) (f b)) {a b : α} (h : Reach E a b) : Reach F (f a) (f b) :=
  fun P ha hs => h (fun x => P (f x)) ha fun _ _ hx he => hs _ _ hx (hf _ _ he)
/-- one is there already, or goes one step -/
theorem Reach.head {α : Type} {E : α → α → Prop} {a b : α} (h : Reach E a b) : a = b ∨ ∃ c, E a c ∧ Reach E c b := by
  refine h (fun x => a = x ∨ ∃ c, E a c ∧ Reach E c x) (.inl rfl) fun x y hx he => ?_
  rcases hx with rfl | ⟨c, h1, h2⟩
  · exact .inr ⟨y, he, .refl _⟩
  · exact .inr ⟨c, h1, h2.trans (.single he)⟩

theorem nodup_bound : ∀ (n : Nat) (V : List Nat), V.Nodup → (∀ x ∈ V, x < n) → V.length ≤ n
  | 0, V, _, h => by
    cases V with
    | nil => simp
    | cons x r => exact absurd (h x (by simp)) (by omega)
  | n + 1, V, hn, h => by
    have h1 := nodup_bound n (V.erase n) (hn.erase n) (fun x hx => by
      have h2 := h x (List.mem_of_mem_erase hx)
      have h3 : x ≠ n := fun e => by
        subst e
        exact absurd hx (List.Nodup.not_mem_erase hn)
      omega)
    have h2 := List.length_erase_of_mem (a := n) (l := V)
    by_cases hm : n ∈ V
    · have := h2 hm; omega
    · rw [List.erase_of_not_mem hm] at h1; omega

/-- what holds at every moment of the visits: E the needs among what is left; g: which are being visited; l: the loops that are known; r: the ranks; S: the path; c: how many were visited -/
structure Inv (n : Nat) (E : Nat → Nat → Prop) (rm : Nat → Bool) (g : Nat → Prop) (l : Nat → Int) (r : Nat → Nat) (S : List Nat) (c : Nat) : Prop where
  gone : ∀ q, q < n → (l q = -1 ↔ rm q = true)
  low : ∀ q, -1 ≤ l q
  noRank : ∀ q, rm q = true → r q = 0
  mem : ∀ q, q ∈ S ↔ q < n ∧ r q ≠ 0 ∧ l q = 0
  ord : S.Pairwise (fun a b => r a < r b)
  top : ∀ q, r q ≤ c
  one : ∀ p q, r p = r q → r p ≠ 0 → p = q
  dom : ∀ q, r q ≠ 0 → q < n
  ldom : ∀ q, l q ≠ 0 → q < n
  count : ∃ V : List Nat, V.Nodup ∧ V.length = c ∧ ∀ x ∈ V, x < n ∧ r x ≠ 0
  grayMem : ∀ q, g q → q ∈ S
  chain : ∀ a b, a ∈ S → b ∈ S → r a ≤ r b → Reach E a b
  back : ∀ y, y ∈ S → ∃ x, g x ∧ r x ≤ r y ∧ Reach E y x
  black : ∀ b, r b ≠ 0 → ¬ g b → ∀ q, E b q → r q ≠ 0
  done : ∀ b, 0 < l b → ∀ q, E b q → 0 < l q
  doneRank : ∀ b, 0 < l b → r b ≠ 0
  label : ∀ b, 0 < l b → ∃ d, 0 < l d ∧ (r d : Int) = l b
  loop : ∀ a b, 0 < l a → 0 < l b → (l a = l b ↔ Reach E a b ∧ Reach E b a)

/-- what E says, and of whom: of those that are left -/
structure Graph (n : Nat) (E : Nat → Nat → Prop) (rm : Nat → Bool) : Prop where
  left : ∀ a b, E a b → a < n ∧ rm a = false
  right : ∀ a b, E a b → b < n ∧ rm b = false

/-- what a visit of p leaves: T is what it has left on the path -/
structure Post (E : Nat → Nat → Prop) (p : Nat) (l : Nat → Int) (r : Nat → Nat) (S : List Nat) (c : Nat) (l' : Nat → Int) (r' : Nat → Nat) (S' : List Nat) (c' low : Nat) (T : List Nat) : Prop where
  path : S' = S ++ T
  more : c + 1 ≤ c'
  own : r' p = c + 1
  keepR : ∀ q, r q ≠ 0 → r' q = r q
  keepL : ∀ q, l q ≠ 0 → l' q = l q
  fin : (T = [] ∧ l' p ≠ 0 ∧ low = c + 1) ∨ (low ≤ c ∧ 1 ≤ low ∧ ∃ y, y ∈ S ∧ r y = low ∧ Reach E p y)
  cross : ∀ t, t ∈ T → ∀ y, y ∈ S → E t y → low ≤ r y

/-- a visit of p under way: those of p's needs that are in D have been looked at -/
structure Mid (n : Nat) (E : Nat → Nat → Prop) (rm : Nat → Bool) (g : Nat → Prop) (p : Nat) (l0 : Nat → Int) (r0 : Nat → Nat) (S0 : List Nat) (c0 : Nat) (D : Nat → Prop)
    (l : Nat → Int) (r : Nat → Nat) (S : List Nat) (c low : Nat) (T : List Nat) : Prop where
  inv : Inv n E rm (fun q => g q ∨ q = p) l r S c
  path : S = S0 ++ p :: T
  more : c0 + 1 ≤ c
  own : r p = c0 + 1
  keepR : ∀ q, r0 q ≠ 0 → r q = r0 q
  keepL : ∀ q, l0 q ≠ 0 → l q = l0 q
  pos : 1 ≤ low
  lowP : low ≤ c0 + 1
  wit : ∃ y, y ∈ S ∧ r y = low ∧ Reach E p y
  seen : ∀ q, D q → E p q → r q ≠ 0
  cross : ∀ t, t ∈ T → ∀ y, y ∈ S0 → E t y → low ≤ r y
  crossP : ∀ y, D y → E p y → y ∈ S0 → low ≤ r y
  gray0 : ∀ q, g q → q ∈ S0
  r0ne : ∀ q, q ∈ S0 → r0 q ≠ 0

variable {n : Nat} {E : Nat → Nat → Prop} {rm : Nat → Bool} {g : Nat → Prop} {p c c0 low low2 : Nat} {l l0 l' : Nat → Int} {r r0 r' : Nat → Nat} {S S0 S' T T2 : List Nat} {D : Nat → Prop}

theorem Inv.count_le (h : Inv n E rm g l r S c) : c ≤ n := by
  obtain ⟨V, h1, h2, h3⟩ := h.count
  rw [← h2]
  exact nodup_bound n V h1 fun x hx => (h3 x hx).1
theorem Inv.count_lt (h : Inv n E rm g l r S c) (hp : p < n) (hr : r p = 0) : c < n := by
  obtain ⟨V, h1, h2, h3⟩ := h.count
  have := nodup_bound n (p :: V) (List.nodup_cons.2 ⟨fun hm => (h3 p hm).2 hr, h1⟩) (fun x hx => by
    rcases List.mem_cons.1 hx with rfl | hx
    · exact hp
    · exact (h3 x hx).1)
  rw [List.length_cons, h2] at this
  omega

def upd {α : Type} (f : Nat → α) (p : Nat) (v : α) : Nat → α := fun q => if q = p then v else f q
theorem upd_same {α : Type} (f : Nat → α) (p : Nat) (v : α) : upd f p v p = v := if_pos rfl
theorem upd_other {α : Type} (f : Nat → α) {p q : Nat} (v : α) (h : q ≠ p) : upd f p v q = f q := if_neg h

theorem Inv.enter (h : Inv n E rm g l r S c) (hp : p < n) (hr : r p = 0) (hl : l p = 0) (hg : ∀ x, g x → Reach E x p) :
    Mid n E rm g p l r S c (fun _ => False) l (upd r p (c + 1)) (S ++ [p]) (c + 1) (c + 1) [] := by
  have hne : ∀ q, r q ≠ 0 → q ≠ p := fun q hq e => hq (e ▸ hr)
  have hnS : p ∉ S := fun hm => ((h.mem p).1 hm).2.1 hr
  have hSne : ∀ q, q ∈ S → q ≠ p := fun q hq e => hnS (e ▸ hq)
  have hup : ∀ q, q ≠ p → upd r p (c + 1) q = r q := fun q hq => upd_other r _ hq
  have hupS : ∀ q, q ∈ S → upd r p (c + 1) q = r q := fun q hq => hup q (hSne q hq)
  have hps := upd_same r p (c + 1)
  refine ⟨⟨h.gone, h.low, ?_, ?_, ?_, ?_, ?_, ?_, h.ldom, ?_, ?_, ?_, ?_, ?_, h.done, ?_, ?_, h.loop⟩, rfl, Nat.le_refl _, hps, fun q hq => hup q (hne q hq), fun _ _ => rfl, by omega, Nat.le_refl _, ⟨p, by simp, hps, .refl _⟩, fun q hq => hq.elim, fun t ht => by simp at ht, fun y hy => hy.elim, h.grayMem, fun q hq => ((h.mem q).1 hq).2.1⟩
  · intro q hq
    by_cases e : q = p
    · subst e
      have := (h.gone q hp).2 hq
      omega
    · rw [hup q e]; exact h.noRank q hq
  · intro q
    rw [List.mem_append, List.mem_singleton, h.mem q]
    by_cases e : q = p
    · subst e
      rw [hps]
      simp [hp, hl]
    · rw [hup q e]
      simp [e]
  · rw [List.pairwise_append]
    refine ⟨?_, by simp, ?_⟩
    · refine h.ord.imp_of_mem ?_
      intro a b ha hb hab
      rw [hupS a ha, hupS b hb]
      exact hab
    · intro a ha b hb
      rw [List.mem_singleton] at hb
      subst hb
      rw [hupS a ha, hps]
      have := h.top a
      omega
  · intro q
    by_cases e : q = p
    · subst e; rw [hps]; exact Nat.le_refl _
    · rw [hup q e]; have := h.top q; omega
  · intro a b hab ha0
    by_cases ea : a = p
    · by_cases eb : b = p
      · rw [ea, eb]
      · rw [ea, hps, hup b eb] at hab
        have := h.top b
        omega
    · by_cases eb : b = p
      · rw [eb, hps, hup a ea] at hab
        have := h.top a
        omega
      · rw [hup a ea, hup b eb] at hab
        rw [hup a ea] at ha0
        exact h.one a b hab ha0
  · intro q hq
    by_cases e : q = p
    · rw [e]; exact hp
    · rw [hup q e] at hq; exact h.dom q hq
  · obtain ⟨V, h1, h2, h3⟩ := h.count
    refine ⟨p :: V, List.nodup_cons.2 ⟨fun hm => (h3 p hm).2 hr, h1⟩, by simp [h2], ?_⟩
    intro x hx
    rcases List.mem_cons.1 hx with rfl | hx
    · exact ⟨hp, by rw [hps]; omega⟩
    · exact ⟨(h3 x hx).1, by rw [hup x (hne x (h3 x hx).2)]; exact (h3 x hx).2⟩
  · rintro q (hq | rfl)
    · exact List.mem_append_left _ (h.grayMem q hq)
    · simp
  · intro a b ha hb hab
    rcases List.mem_append.1 ha with ha | ha
    · rcases List.mem_append.1 hb with hb | hb
      · rw [hupS a ha, hupS b hb] at hab
        exact h.chain a b ha hb hab
      · rw [List.mem_singleton] at hb
        rw [hb]
        obtain ⟨x, hx, _, hax⟩ := h.back a ha
        exact hax.trans (hg x hx)
    · rw [List.mem_singleton] at ha
      subst ha
      rcases List.mem_append.1 hb with hb | hb
      · rw [hps, hupS b hb] at hab
        have := h.top b
        omega
      · rw [List.mem_singleton] at hb
        subst hb
        exact .refl _
  · intro y hy
    rcases List.mem_append.1 hy with hy | hy
    · obtain ⟨x, hx, hle, hyx⟩ := h.back y hy
      refine ⟨x, .inl hx, ?_, hyx⟩
      rw [hupS x (h.grayMem x hx), hupS y hy]
      exact hle
    · rw [List.mem_singleton] at hy
      exact ⟨p, .inr rfl, by rw [hy]; exact Nat.le_refl _, by rw [hy]; exact .refl _⟩
  · intro b hb hgb q hq
    have e : b ≠ p := fun e => hgb (.inr e)
    rw [hup b e] at hb
    have := h.black b hb (fun hx => hgb (.inl hx)) q hq
    rw [hup q (hne q this)]
    exact this
  · intro b hb
    have := h.doneRank b hb
    rw [hup b (hne b this)]
    exact this
  · intro b hb
    obtain ⟨d, hd, he⟩ := h.label b hb
    exact ⟨d, hd, by rw [hup d (hne d (h.doneRank d hd))]; exact he⟩

theorem Mid.mono {D' : Nat → Prop} (h : Mid n E rm g p l0 r0 S0 c0 D l r S c low T) (h1 : ∀ q, D' q → E p q → D q ∨ (r q ≠ 0 ∧ (q ∈ S0 → low ≤ r q))) : Mid n E rm g p l0 r0 S0 c0 D' l r S c low T := by
  refine ⟨h.inv, h.path, h.more, h.own, h.keepR, h.keepL, h.pos, h.lowP, h.wit, ?_, h.cross, ?_, ?_, ?_⟩
  · intro q hq he
    rcases h1 q hq he with h2 | h2
    · exact h.seen q h2 he
    · exact h2.1
  · intro y hy he hm
    rcases h1 y hy he with h2 | h2
    · exact h.crossP y h2 he hm
    · exact h2.2 hm
  · exact h.gray0
  · exact h.r0ne
/-- one that was removed, or whose loop is known -/
theorem Mid.skip {q : Nat} (h : Mid n E rm g p l0 r0 S0 c0 D l r S c low T) (G : Graph n E rm) (hq : l q ≠ 0) : Mid n E rm g p l0 r0 S0 c0 (fun x => D x ∨ x = q) l r S c low T := by
  refine h.mono ?_
  rintro x (hx | rfl) he
  · exact .inl hx
  · refine .inr ⟨?_, fun hm => ?_⟩
    · have h1 := h.inv.low x
      have h2 : l x ≠ -1 := fun e => by
        have := (h.inv.gone x (G.right p x he).1).1 e
        rw [(G.right p x he).2] at this
        cases this
      exact h.inv.doneRank x (by omega)
    · have : x ∈ S := by rw [h.path]; exact List.mem_append_left _ hm
      exact absurd ((h.inv.mem x).1 this).2.2 hq
theorem Mid.lower (h : Mid n E rm g p l0 r0 S0 c0 D l r S c low T) (hle : low2 ≤ low) (hpos : 1 ≤ low2) (hw : ∃ y, y ∈ S ∧ r y = low2 ∧ Reach E p y) : Mid n E rm g p l0 r0 S0 c0 D l r S c low2 T :=
  ⟨h.inv, h.path, h.more, h.own, h.keepR, h.keepL, hpos, by have := h.lowP; omega, hw, h.seen, fun t ht y hy he => by have := h.cross t ht y hy he; omega, fun y hy he hm => by have := h.crossP y hy he hm; omega, h.gray0, h.r0ne⟩
/-- one that is on the path -/
theorem Mid.seenStep {q : Nat} (h : Mid n E rm g p l0 r0 S0 c0 D l r S c low T) (he : E p q) (hq : q < n) (hl : l q = 0) (hr : r q ≠ 0) :
    Mid n E rm g p l0 r0 S0 c0 (fun x => D x ∨ x = q) l r S c (min low (r q)) T := by
  have hm : q ∈ S := (h.inv.mem q).2 ⟨hq, hr, hl⟩
  have h1 : Mid n E rm g p l0 r0 S0 c0 D l r S c (min low (r q)) T := by
    refine h.lower (Nat.min_le_left _ _) (by have := h.pos; omega) ?_
    by_cases e : low ≤ r q
    · rw [Nat.min_eq_left e]; exact h.wit
    · rw [Nat.min_eq_right (by omega)]; exact ⟨q, hm, rfl, .single he⟩
  refine h1.mono ?_
  rintro x (hx | rfl) _
  · exact .inl hx
  · exact .inr ⟨hr, fun _ => Nat.min_le_right _ _⟩
/-- what the visit of one of p's needs asks -/
theorem Mid.before {q : Nat} (h : Mid n E rm g p l0 r0 S0 c0 D l r S c low T) (he : E p q) : ∀ x, (g x ∨ x = p) → Reach E x q := by
  rintro x hx
  refine Reach.trans ?_ (.single he)
  rcases hx with hx | rfl
  · have hord := h.inv.ord
    have hx0 := h.gray0 x hx
    rw [h.path, List.pairwise_append] at hord
    exact h.inv.chain x p (by rw [h.path]; exact List.mem_append_left _ hx0) (by rw [h.path]; simp) (Nat.le_of_lt (hord.2.2 x hx0 p (by simp)))
  · exact .refl _
theorem Inv.ranked (h : Inv n E rm g l r S c) {q : Nat} (hq : q ∈ S) : r q ≠ 0 := ((h.mem q).1 hq).2.1
/-- one that had not been visited -/
theorem Mid.call {q c2 low2 : Nat} {l2 : Nat → Int} {r2 : Nat → Nat} {S2 T2 : List Nat} (h : Mid n E rm g p l0 r0 S0 c0 D l r S c low T) (he : E p q) (hr : r q = 0)
    (hi : Inv n E rm (fun x => g x ∨ x = p) l2 r2 S2 c2) (hp : Post E q l r S c l2 r2 S2 c2 low2 T2) :
    Mid n E rm g p l0 r0 S0 c0 (fun x => D x ∨ x = q) l2 r2 S2 c2 (min low low2) (T ++ T2) := by
  have hmemS : ∀ x, x ∈ S → r2 x = r x := fun x hx => hp.keepR x (h.inv.ranked hx)
  have hS0 : ∀ x, x ∈ S0 → x ∈ S := fun x hx => by rw [h.path]; exact List.mem_append_left _ hx
  have hSS : ∀ x, x ∈ S → x ∈ S2 := fun x hx => by rw [hp.path]; exact List.mem_append_left _ hx
  have hpS : p ∈ S := by rw [h.path]; simp
  have hlow : low ≤ c := Nat.le_trans h.lowP h.more
  obtain ⟨y, hy, hyr, hpy⟩ := h.wit
  have hw : ∃ y, y ∈ S2 ∧ r2 y = min low low2 ∧ Reach E p y := by
    by_cases e : low ≤ low2
    · exact ⟨y, hSS y hy, by rw [hmemS y hy, hyr, Nat.min_eq_left e], hpy⟩
    · rcases hp.fin with ⟨_, _, h3⟩ | ⟨_, _, z, hz, hzr, hqz⟩
      · omega
      · exact ⟨z, hSS z hz, by rw [hmemS z hz, hzr, Nat.min_eq_right (by omega)], (Reach.single he).trans hqz⟩
  have hpos2 : 1 ≤ low2 := by
    rcases hp.fin with ⟨_, _, h3⟩ | ⟨_, h2, _⟩ <;> omega
  refine ⟨hi, by rw [hp.path, h.path]; simp, ?_, ?_, ?_, ?_, ?_, ?_, hw, ?_, ?_, ?_, h.gray0, h.r0ne⟩
  · have := h.more; have := hp.more; omega
  · rw [hmemS p hpS]; exact h.own
  · intro x hx
    have h1 := h.keepR x hx
    rw [hp.keepR x (by rw [h1]; exact hx), h1]
  · intro x hx
    have h1 := h.keepL x hx
    rw [hp.keepL x (by rw [h1]; exact hx), h1]
  · have := h.pos; omega
  · have := h.lowP; omega
  · rintro x (hx | rfl) hex
    · have := h.seen x hx hex
      rw [hp.keepR x this]
      exact this
    · rw [hp.own]; omega
  · intro t ht z hz hez
    rw [hmemS z (hS0 z hz)]
    rcases List.mem_append.1 ht with ht | ht
    · have := h.cross t ht z hz hez; omega
    · have := hp.cross t ht z (hS0 z hz) hez; omega
  · rintro z (hz | rfl) hez hm
    · rw [hmemS z (hS0 z hm)]
      have := h.crossP z hz hez hm
      omega
    · exact absurd hr (h.inv.ranked (hS0 z hm))
/-- the ranks along the path -/
theorem Mid.lt (h : Mid n E rm g p l0 r0 S0 c0 D l r S c low T) {x : Nat} (hx : x ∈ S0) : r x < c0 + 1 := by
  have hord := h.inv.ord
  rw [h.path, List.pairwise_append] at hord
  have := hord.2.2 x hx p (by simp)
  rw [h.own] at this
  exact this
theorem Mid.ge (h : Mid n E rm g p l0 r0 S0 c0 D l r S c low T) {x : Nat} (hx : x ∈ T) : c0 + 1 < r x := by
  have hord := h.inv.ord
  rw [h.path, List.pairwise_append, List.pairwise_cons] at hord
  have := hord.2.1.1 x hx
  rw [h.own] at this
  exact this
/-- a visit that ends below another one's -/
theorem Mid.stay (h : Mid n E rm g p l0 r0 S0 c0 D l r S c low T) (hD : ∀ q, E p q → D q) (hlt : low < c0 + 1) :
    Inv n E rm g l r S c ∧ Post E p l0 r0 S0 c0 l r S c low (p :: T) := by
  have i := h.inv
  obtain ⟨z, hz, hzr, hpz⟩ := h.wit
  have hz0 : z ∈ S0 := by
    rw [h.path] at hz
    rcases List.mem_append.1 hz with hz | hz
    · exact hz
    · rcases List.mem_cons.1 hz with rfl | hz
      · rw [h.own] at hzr; omega
      · have := h.ge hz; omega
  refine ⟨⟨i.gone, i.low, i.noRank, i.mem, i.ord, i.top, i.one, i.dom, i.ldom, i.count, fun q hq => i.grayMem q (.inl hq), i.chain, ?_, ?_, i.done, i.doneRank, i.label, i.loop⟩,
    ⟨h.path, by have := h.more; omega, h.own, h.keepR, h.keepL, .inr ⟨by omega, h.pos, z, hz0, (h.keepR z (h.r0ne z hz0)).symm.trans hzr, hpz⟩, ?_⟩⟩
  · intro y hy
    obtain ⟨x, hx | rfl, hle, hyx⟩ := i.back y hy
    · exact ⟨x, hx, hle, hyx⟩
    · obtain ⟨x2, hx2 | rfl, hle2, hzx⟩ := i.back z hz
      · refine ⟨x2, hx2, ?_, (hyx.trans hpz).trans hzx⟩
        rw [h.own] at hle
        omega
      · rw [h.own] at hle2; omega
  · intro b hb hgb q hq
    by_cases e : b = p
    · subst e; exact h.seen q (hD q hq) hq
    · exact i.black b hb (fun hx => hx.elim hgb e) q hq
  · intro t ht y hy he
    have hle : low ≤ r y := by
      rcases List.mem_cons.1 ht with rfl | ht
      · exact h.crossP y (hD y he) he hy
      · exact h.cross t ht y hy he
    rw [← h.keepR y (h.r0ne y hy)]
    exact hle
open Classical in
/-- the loop that ends at p is known -/
theorem Mid.pop (h : Mid n E rm g p l0 r0 S0 c0 D l r S c low T) (G : Graph n E rm) (hD : ∀ q, E p q → D q) (heq : low = c0 + 1) :
    Inv n E rm g (fun q => if q ∈ p :: T then (low : Int) else l q) r S0 c ∧ Post E p l0 r0 S0 c0 (fun q => if q ∈ p :: T then (low : Int) else l q) r S0 c low [] := by
  have i := h.inv
  have hS : ∀ x, x ∈ S ↔ x ∈ S0 ∨ x ∈ p :: T := fun x => by rw [h.path, List.mem_append]
  have hC : ∀ x, x ∈ p :: T → c0 + 1 ≤ r x := fun x hx => by
    rcases List.mem_cons.1 hx with rfl | hx
    · rw [h.own]; exact Nat.le_refl _
    · exact Nat.le_of_lt (h.ge hx)
  have hnot : ∀ x, x ∈ S0 → x ∉ p :: T := fun x h1 h2 => by have := h.lt h1; have := hC x h2; omega
  have hCS : ∀ x, x ∈ p :: T → x ∈ S := fun x hx => (hS x).2 (.inr hx)
  have hl0 : ∀ x, x ∈ p :: T → l x = 0 := fun x hx => ((i.mem x).1 (hCS x hx)).2.2
  have hpC : p ∈ p :: T := List.mem_cons_self
  have hto : ∀ x, x ∈ p :: T → Reach E p x := fun x hx => i.chain p x (hCS p hpC) (hCS x hx) (by rw [h.own]; exact hC x hx)
  have hfrom : ∀ x, x ∈ p :: T → Reach E x p := fun x hx => by
    obtain ⟨y, hy, _, hxy⟩ := i.back x (hCS x hx)
    refine hxy.trans ?_
    rcases hy with hy | rfl
    · exact i.chain y p ((hS y).2 (.inl (h.gray0 y hy))) (hCS p hpC) (by have := h.lt (h.gray0 y hy); rw [h.own]; omega)
    · exact .refl _
  have hedge : ∀ x, x ∈ p :: T → ∀ q, E x q → q ∈ p :: T ∨ 0 < l q := fun x hx q he => by
    have hrq : r q ≠ 0 := by
      rcases List.mem_cons.1 hx with rfl | hx
      · exact h.seen q (hD q he) he
      · refine i.black x (by have := h.ge hx; omega) ?_ q he
        rintro (hg | e)
        · exact hnot x (h.gray0 x hg) (List.mem_cons_of_mem _ hx)
        · have := h.ge hx; rw [e, h.own] at this; omega
    have h1 := i.low q
    have h2 : l q ≠ -1 := fun e => by
      have := (i.gone q (G.right x q he).1).1 e
      rw [(G.right x q he).2] at this
      cases this
    by_cases h3 : l q = 0
    · rcases (hS q).1 ((i.mem q).2 ⟨(G.right x q he).1, hrq, h3⟩) with hq | hq
      · have hlt := h.lt hq
        rcases List.mem_cons.1 hx with rfl | hx
        · have := h.crossP q (hD q he) he hq; omega
        · have := h.cross x hx q hq he; omega
      · exact .inl hq
    · exact .inr (by omega)
  have hin : ∀ x, x ∈ p :: T → (if x ∈ p :: T then (low : Int) else l x) = low := fun x hx => if_pos hx
  have hout : ∀ x, x ∉ p :: T → (if x ∈ p :: T then (low : Int) else l x) = l x := fun x hx => if_neg hx
  have hposC : ∀ x, 0 < l x → 0 < (if x ∈ p :: T then (low : Int) else l x) := fun x hx => by
    by_cases e : x ∈ p :: T
    · rw [hin x e]; omega
    · rw [hout x e]; exact hx
  have hlab : ∀ b, 0 < l b → l b ≠ (low : Int) := fun b hb e => by
    obtain ⟨d, hd, hdr⟩ := i.label b hb
    have h1 : r d = r p := by rw [h.own]; omega
    have h2 := i.one d p h1 (i.doneRank d hd)
    rw [h2, hl0 p hpC] at hd
    omega
  have hsep : ∀ a b, a ∈ p :: T → 0 < l b → ¬ Reach E b a := fun a b ha hb hr => by
    have := hr.closed (P := fun x => 0 < l x) (fun x y hx he => i.done x hx y he) hb
    have h2 := hl0 a ha
    have h3 : 0 < l a := this
    omega
  refine ⟨⟨?_, ?_, i.noRank, ?_, ?_, i.top, i.one, i.dom, ?_, i.count, h.gray0, ?_, ?_, ?_, ?_, ?_, ?_, ?_⟩, ⟨by simp, by have := h.more; omega, h.own, h.keepR, ?_, .inl ⟨rfl, ?_, heq⟩, fun t ht => by simp at ht⟩⟩
  · intro q hq
    by_cases e : q ∈ p :: T
    · rw [hin q e]
      have h1 := i.gone q hq
      rw [hl0 q e] at h1
      constructor
      · intro h2; omega
      · intro h2
        have := h1.2 h2
        omega
    · rw [hout q e]; exact i.gone q hq
  · intro q
    by_cases e : q ∈ p :: T
    · rw [hin q e]; omega
    · rw [hout q e]; exact i.low q
  · intro q
    by_cases e : q ∈ p :: T
    · rw [hin q e]
      constructor
      · intro h1; exact absurd e (hnot q h1)
      · rintro ⟨_, _, h1⟩; omega
    · rw [hout q e, ← i.mem q, hS q]
      simp [e]
  · have := i.ord
    rw [h.path, List.pairwise_append] at this
    exact this.1
  · intro q hq
    by_cases e : q ∈ p :: T
    · exact ((i.mem q).1 (hCS q e)).1
    · rw [hout q e] at hq; exact i.ldom q hq
  · intro a b ha hb hab
    exact i.chain a b ((hS a).2 (.inl ha)) ((hS b).2 (.inl hb)) hab
  · intro y hy
    obtain ⟨x, hx | rfl, hle, hyx⟩ := i.back y ((hS y).2 (.inl hy))
    · exact ⟨x, hx, hle, hyx⟩
    · have := h.lt hy
      rw [h.own] at hle
      omega
  · intro b hb hgb q hq
    by_cases e : b = p
    · subst e; exact h.seen q (hD q hq) hq
    · exact i.black b hb (fun hx => hx.elim hgb e) q hq
  · intro b hb q he
    by_cases e : b ∈ p :: T
    · rcases hedge b e q he with hq | hq
      · rw [hin q hq]; omega
      · exact hposC q hq
    · rw [hout b e] at hb
      exact hposC q (i.done b hb q he)
  · intro b hb
    by_cases e : b ∈ p :: T
    · have := hC b e; omega
    · rw [hout b e] at hb; exact i.doneRank b hb
  · intro b hb
    by_cases e : b ∈ p :: T
    · exact ⟨p, by rw [hin p hpC]; omega, by rw [hin b e, h.own, heq]⟩
    · rw [hout b e] at hb ⊢
      obtain ⟨d, hd, hdr⟩ := i.label b hb
      exact ⟨d, hposC d hd, hdr⟩
  · intro a b ha hb
    by_cases ea : a ∈ p :: T
    · by_cases eb : b ∈ p :: T
      · rw [hin a ea, hin b eb]
        exact ⟨fun _ => ⟨(hfrom a ea).trans (hto b eb), (hfrom b eb).trans (hto a ea)⟩, fun _ => rfl⟩
      · rw [hout b eb] at hb
        rw [hin a ea, hout b eb]
        exact ⟨fun e => absurd e.symm (hlab b hb), fun hr => absurd hr.2 (hsep a b ea hb)⟩
    · rw [hout a ea] at ha
      by_cases eb : b ∈ p :: T
      · rw [hout a ea, hin b eb]
        exact ⟨fun e => absurd e (hlab a ha), fun hr => absurd hr.1 (hsep b a eb ha)⟩
      · rw [hout b eb] at hb
        rw [hout a ea, hout b eb]
        exact i.loop a b ha hb
  · intro q hq
    have h1 := h.keepL q hq
    by_cases e : q ∈ p :: T
    · rw [hl0 q e] at h1
      exact absurd h1.symm hq
    · rw [hout q e]; exact h1
  · rw [hin p hpC]; omega
theorem Inv.start (hgone : ∀ q, l q = if q < n ∧ rm q = true then -1 else 0) : Inv n E rm (fun _ => False) l (fun _ => 0) [] 0 := by
  have hl : ∀ q, l q = -1 ∨ l q = 0 := fun q => by
    rw [hgone q]
    by_cases e : q < n ∧ rm q = true
    · rw [if_pos e]; exact .inl rfl
    · rw [if_neg e]; exact .inr rfl
  have hnp : ∀ q, ¬ 0 < l q := fun q h => by have := hl q; omega
  refine ⟨?_, fun q => by have := hl q; omega, fun _ _ => rfl, fun q => by simp, .nil, fun _ => Nat.le_refl _, fun p q _ h => absurd rfl h, fun q h => absurd rfl h, ?_, ⟨[], .nil, rfl, fun x hx => by simp at hx⟩,
    fun q h => h.elim, fun a b ha => by simp at ha, fun y hy => by simp at hy, fun b h => absurd rfl h, fun b h => absurd h (hnp b), fun b h => absurd h (hnp b), fun b h => absurd h (hnp b), fun a b h => absurd h (hnp a)⟩
  · intro q hq
    rw [hgone q]
    by_cases e : rm q = true
    · rw [if_pos ⟨hq, e⟩]; simp [e]
    · rw [if_neg (fun h => e h.2)]; simp [e]
  · intro q hq
    rw [hgone q] at hq
    by_cases e : q < n ∧ rm q = true
    · exact e.1
    · rw [if_neg e] at hq; exact absurd rfl hq
/-- between two visits -/
theorem Inv.next (h : Post E p l r [] c l' r' S' c0 low T) : S' = [] ∧ l' p ≠ 0 := by
  rcases h.fin with ⟨h1, h2, _⟩ | ⟨_, _, y, hy, _⟩
  · exact ⟨by rw [h.path, h1]; rfl, h2⟩
  · simp at hy
/-- what the loops say, once all are known -/
theorem Inv.found (h : Inv n E rm g l r S c) (hall : ∀ q, q < n → l q ≠ 0) : (∀ q, q < n → (l q = -1 ↔ rm q = true)) ∧ ∀ a b, a < n → b < n → rm a = false → rm b = false → (l a = l b ↔ Reach E a b ∧ Reach E b a) := by
  refine ⟨h.gone, fun a b ha hb hra hrb => ?_⟩
  have h1 : ∀ q, q < n → rm q = false → 0 < l q := fun q hq hr => by
    have e1 := h.low q
    have e2 := hall q hq
    have e3 : l q ≠ -1 := fun e => by
      have := (h.gone q hq).1 e
      rw [hr] at this
      cases this
    omega
  exact h.loop a b (h1 a ha hra) (h1 b hb hrb)
end Go.Proofs.Ytkocfhacfmlmaaa.Dep
