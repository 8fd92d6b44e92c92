/-
  RUNS RECKONED AHEAD, part two: the interpreter of the model's actions over numbered blocks, and its soundness. By an AI agent.
-/
import Derived.Test.YtpejbfdmiinokaaSyA
import Derived.Below
namespace Go.Sx
variable [Th]
open Go.RowKit

/-- two programs of actions go the same way, whatever numbers the blocks have -/
def SR (P : Program) {α β : Type} (RA : List Nat → α → β → Prop) : List Nat → Sem α → Sem β → Prop
  | r, .pure a, t => ∃ b, t = .pure b ∧ RA r a b
  | r, .load m a k, t => ∃ a' k', t = .load m a' k' ∧ AR r a a' ∧ ∀ v v', V1 r v v' → SR P RA r (k v) (k' v')
  | r, .store m a v k, t => ∃ a' v' k', t = .store m a' v' k' ∧ AR r a a' ∧ V1 r v v' ∧ SR P RA r k k'
  | r, .new o k, t => ∃ c c' T k', o = .cells c T ∧ t = .new (.cells c' T) k' ∧ All (V1 r) c c' ∧ ∀ b, SR P RA (r ++ [b]) (k r.length) (k' b)
  | r, .shape b k, t => ∃ b' k', t = .shape b' k' ∧ r[b]? = some b' ∧ ∀ s, SR P RA r (k s) (k' s)
  | r, .frozen a k, t => ∃ a' k', t = .frozen a' k' ∧ AR r a a' ∧ ∀ s, SR P RA r (k s) (k' s)
  | r, .program k, t => ∃ k', t = .program k' ∧ SR P RA r (k P) (k' P)
  | r, .mark _ k, t => ∃ m' k', t = .mark m' k' ∧ SR P RA r k k'
  | _, _, _ => True
theorem SR.bind {P : Program} {α β γ δ : Type} {RA : List Nat → α → β → Prop} {RB : List Nat → γ → δ → Prop} {f : α → Sem γ} {g : β → Sem δ} :
    ∀ (s : Sem α) (t : Sem β) (r : List Nat), SR P RA r s t → (∀ r' a b, Ext r r' → RA r' a b → SR P RB r' (f a) (g b)) → SR P RB r (s.bind f) (t.bind g) := by
  intro s
  induction s with
  | pure a =>
    intro t r h k
    obtain ⟨b, rfl, hb⟩ := h
    exact k r a b (Ext.refl r) hb
  | load m a k ih =>
    intro t r h q
    obtain ⟨a', k', rfl, ha, hk⟩ := h
    exact ⟨a', _, rfl, ha, fun v v' hv => ih v _ r (hk v v' hv) q⟩
  | store m a v k ih =>
    intro t r h q
    obtain ⟨a', v', k', rfl, ha, hv, hk⟩ := h
    exact ⟨a', v', _, rfl, ha, hv, ih _ r hk q⟩
  | new o k ih =>
    intro t r h q
    obtain ⟨c, c', T, k', rfl, rfl, hc, hk⟩ := h
    exact ⟨c, c', T, _, rfl, rfl, hc, fun b => ih _ _ _ (hk b) fun r' a b' he => q r' a b' ((Ext.snoc r b).trans he)⟩
  | shape b k ih =>
    intro t r h q
    obtain ⟨b', k', rfl, hb, hk⟩ := h
    exact ⟨b', _, rfl, hb, fun s => ih s _ r (hk s) q⟩
  | frozen a k ih =>
    intro t r h q
    obtain ⟨b', k', rfl, hb, hk⟩ := h
    exact ⟨b', _, rfl, hb, fun s => ih s _ r (hk s) q⟩
  | program k ih =>
    intro t r h q
    obtain ⟨k', rfl, hk⟩ := h
    exact ⟨_, rfl, ih P _ r hk q⟩
  | mark m k ih =>
    intro t r h q
    obtain ⟨m', k', rfl, hk⟩ := h
    exact ⟨m', _, rfl, ih _ r hk q⟩
  | freeze => intros; trivial
  | getObj => intros; trivial
  | setObj => intros; trivial
  | choose => intros; trivial
  | sys => intros; trivial
  | halt => intros; trivial

/-- a block that is known: its number, its cells, their type, whether these are all, whether it is only read -/
structure Bk where
  i : Nat
  c : Array Value
  T : TypeId
  ex : Bool
  ro : Bool
/-- what is known: how many numbers are given out, the blocks -/
structure AM where
  n : Nat
  bs : List Bk
def find : List Bk → Nat → Option Bk
  | [], _ => none
  | x :: l, b => match Nat.beq x.i b with
    | true => some x
    | false => find l b
/-- made out first: numbers, addresses, values, blocks, the memory -/
def fN {α : Type} (n : Nat) (k : Nat → α) : α := match n with
  | 0 => k 0
  | m + 1 => k (Nat.succ m)
omit [Th] in
theorem fN_eq {α : Type} (n : Nat) (k : Nat → α) : fN n k = k n := by cases n <;> rfl
def fI {α : Type} (n : Int) (k : Int → α) : α := match n with
  | .ofNat m => fN m fun m => k (.ofNat m)
  | .negSucc m => fN m fun m => k (.negSucc m)
omit [Th] in
theorem fI_eq {α : Type} (n : Int) (k : Int → α) : fI n k = k n := by
  cases n <;> simp only [fI, fN_eq]
def fA {α : Type} (a : Addr) (k : Addr → α) : α := match a with
  | ⟨b, o, s⟩ => fN b fun b => fN o fun o => k ⟨b, o, s⟩
omit [Th] in
theorem fA_eq {α : Type} (a : Addr) (k : Addr → α) : fA a k = k a := by
  cases a
  simp only [fA, fN_eq]
def fV {α : Type} (v : Value) (k : Value → α) : α := match v with
  | .bool true => k (.bool true)
  | .bool false => k (.bool false)
  | .int i n => fI n fun n => k (.int i n)
  | .string ⟨⟨l⟩⟩ => k (.string ⟨⟨l⟩⟩)
  | .pointer none => k (.pointer none)
  | .pointer (some a) => fA a fun a => k (.pointer (some a))
  | .slice none n c => fN n fun n => fN c fun c => k (.slice none n c)
  | .slice (some a) n c => fA a fun a => fN n fun n => fN c fun c => k (.slice (some a) n c)
  | .agg a => k (.agg a)
  | .tuple a => k (.tuple a)
  | .func f a b => k (.func f a b)
  | .iface c u => fN c fun c => k (.iface c u)
  | v => k v
omit [Th] in
theorem fV_eq {α : Type} (v : Value) (k : Value → α) : fV v k = k v := by
  unfold fV
  split <;> simp only [fN_eq, fI_eq, fA_eq]
def fM {α : Type} (m : AM) (k : Nat → List Bk → α) : α := match m with
  | ⟨n, l⟩ => k n l
omit [Th] in
theorem fM_eq {α : Type} (m : AM) (k : Nat → List Bk → α) : fM m k = k m.n m.bs := rfl
def fB {α : Type} (x : Bk) (k : Nat → Array Value → TypeId → Bool → Bool → α) : α := match x with
  | ⟨i, c, T, ex, ro⟩ => k i c T ex ro
omit [Th] in
theorem fB_eq {α : Type} (x : Bk) (k : Nat → Array Value → TypeId → Bool → Bool → α) : fB x k = k x.i x.c x.T x.ex x.ro := rfl
def setB : List Bk → Nat → Nat → Value → List Bk
  | [], _, _, _ => []
  | x :: l, b, o, v => match Nat.beq x.i b with
    | true => fB x fun i c T ex ro => ⟨i, c.setIfInBounds o v, T, ex, ro⟩ :: l
    | false => x :: setB l b o v
def isWide : Value → Bool
  | .agg _ | .tuple _ | .map _ => true
  | _ => false
def arun (P : Program) {α : Type} : Sem α → AM → Option (α × AM)
  | .pure a, m => some (a, m)
  | .load _ a k, m => match a.spot, find m.bs a.block with
    | none, some x => match x.c[a.off]? with
      | some v => fV v fun v => arun P (k v) m
      | none => none
    | _, _ => none
  | .store _ a v k, m => match isWide v, a.spot, find m.bs a.block with
    | false, none, some x => match x.ro, Nat.ble (a.off + 1) x.c.size with
      | false, true => fV v fun v => fM m fun n l => arun P k ⟨n, setB l a.block a.off v⟩
      | _, _ => none
    | _, _, _ => none
  | .new o k, m => match o with
    | .cells c T _ => fM m fun n l => fN n fun n => arun P (k n) ⟨n + 1, ⟨n, c, T, true, false⟩ :: l⟩
    | _ => none
  | .shape b k, m => match find m.bs b with
    | some x => match x.ex with
      | true => arun P (k (some (x.T, x.c.size))) m
      | false => none
    | none => none
  | .frozen a k, m => match find m.bs a.block with
    | some _ => arun P (k false) m
    | none => none
  | .program k, m => arun P (k P) m
  | .mark _ k, m => arun P k m
  | _, _ => none

/-- the real cells of a known block -/
def Pre (P : Program) (r : List Nat) (x : Bk) (c' : Array Value) : Prop := x.c.size ≤ c'.size ∧ (x.ex = true → x.c.size = c'.size) ∧ (x.ex = false → ∃ i cap, P.info? x.T = some i ∧ r[x.i + 1]? = some cap ∧ c'.size = cap * i.size) ∧ ∀ (i : Nat) u v, x.c[i]? = some u → c'[i]? = some v → V1 r u v
/-- of what was there in the world that loads look at nothing has turned, but for the open blocks -/
structure Low (w : World) : Prop where
  os : w.os = Th.W.os
  tape : w.tape = Th.W.tape
  output : w.output = Th.W.output
  size : Th.W.heap.size ≤ w.heap.size
  block : ∀ k, k < Th.W.heap.size → ¬ Th.S k → w.heap[k]? = Th.W.heap[k]?
/-- a block that may be written -/
def Opn (b : Nat) : Prop := Th.S b ∨ Th.W.heap.size ≤ b
theorem Low.upd {w w' : World} (h : Low w) (h1 : w'.os = w.os) (h2 : w'.tape = w.tape) (h3 : w'.output = w.output) (h4 : w.heap.size ≤ w'.heap.size) (hb : ∀ k, ¬ Opn k → w'.heap[k]? = w.heap[k]?) : Low w' :=
  ⟨h1.trans h.os, h2.trans h.tape, h3.trans h.output, Nat.le_trans h.size h4, fun k hk hs => (hb k fun ho => by
    rcases ho with ho | ho
    · exact hs ho
    · omega).trans (h.block k hk hs)⟩
theorem Low.setCell {w : World} (h : Low w) {b o : Nat} {v : Value} (hb : Opn b) : Low (w.setCell ⟨b, o, none⟩ v) := by
  refine h.upd rfl rfl rfl (by simp [World.setCell]) fun k hk => ?_
  have hne : b ≠ k := fun e => hk (e ▸ hb)
  simp only [World.setCell, Array.getElem?_modify]
  rw [if_neg (by simpa using hne)]
theorem Low.push {w w' : World} (h : Low w) {x : Obj} (h1 : w'.os = w.os) (h2 : w'.tape = w.tape) (h3 : w'.output = w.output) (hh : w'.heap = w.heap.push x) : Low w' := by
  refine h.upd h1 h2 h3 (by rw [hh]; simp) fun k hk => ?_
  rw [hh, Array.getElem?_push]
  split
  · rename_i e
    exact absurd (.inr (by have := h.size; omega)) hk
  · rfl
theorem Low.below {w w' : World} (h : Low w) (hb : Below w.heap.size w w') : Low w' := by
  refine ⟨hb.os.trans h.os, hb.tape.trans h.tape, hb.output.trans h.output, Nat.le_trans h.size hb.size, fun k hk hs => ?_⟩
  have := h.size
  exact (hb.block k (by omega)).trans (h.block k hk hs)
structure Wd (P : Program) (G : Nat) (W : World) (r : List Nat) (m : AM) (w : World) : Prop where
  low : Below W.heap.size W w
  n : m.n = r.length
  g : ∀ i, i < G → r[i]? = some i
  at_ : ∀ i x, find m.bs i = some x → ∃ b c', r[i]? = some b ∧ (x.ro = false → W.heap.size ≤ b) ∧ w.heap[b]? = some (.cells c' x.T (0, 0)) ∧ Pre P r x c'
  inj : ∀ i j b x y, find m.bs i = some x → find m.bs j = some y → r[i]? = some b → r[j]? = some b → i = j
  low2 : Low w
  opn : ∀ i b x, find m.bs i = some x → x.ro = false → r[i]? = some b → Opn b
/-- block b is known, and may be written -/
def D (r : List Nat) (m : AM) (b : Nat) : Prop := ∃ i x, find m.bs i = some x ∧ x.ro = false ∧ r[i]? = some b
/-- what a step leaves -/
structure Step (r : List Nat) (m : AM) (w : World) (r' : List Nat) (m' : AM) (w' : World) : Prop where
  ext : Ext r r'
  os : w'.os = w.os
  tape : w'.tape = w.tape
  output : w'.output = w.output
  size : w.heap.size ≤ w'.heap.size
  block : ∀ b, b < w.heap.size → ¬ D r m b → w'.heap[b]? = w.heap[b]?
  dom : ∀ b, D r' m' b → D r m b ∨ w.heap.size ≤ b
omit [Th] in
theorem Step.refl (r : List Nat) (m : AM) (w : World) : Step r m w r m w := ⟨Ext.refl r, rfl, rfl, rfl, Nat.le_refl _, fun _ _ _ => rfl, fun _ h => .inl h⟩
omit [Th] in
theorem Step.trans {r r1 r2 : List Nat} {m m1 m2 : AM} {w w1 w2 : World} (h : Step r m w r1 m1 w1) (k : Step r1 m1 w1 r2 m2 w2) : Step r m w r2 m2 w2 := by
  refine ⟨h.ext.trans k.ext, k.os.trans h.os, k.tape.trans h.tape, k.output.trans h.output, Nat.le_trans h.size k.size, fun b hb hn => ?_, fun b hb => ?_⟩
  · rw [k.block b (Nat.lt_of_lt_of_le hb h.size) (fun hd => ?_), h.block b hb hn]
    rcases h.dom b hd with h1 | h1
    · exact hn h1
    · omega
  · rcases k.dom b hb with h1 | h1
    · exact h.dom b h1
    · exact .inr (Nat.le_trans h.size h1)

omit [Th] in
theorem find_set {l : List Bk} {b o : Nat} {v : Value} {i : Nat} {x : Bk} (h : find (setB l b o v) i = some x) :
    ∃ y, find l i = some y ∧ x.i = y.i ∧ x.T = y.T ∧ x.ex = y.ex ∧ x.ro = y.ro ∧ x.c = if i = b then y.c.setIfInBounds o v else y.c := by
  induction l with
  | nil => simp [setB, find] at h
  | cons y l ih =>
    simp only [setB, fB_eq] at h
    cases hb : Nat.beq y.i b with
    | true =>
      rw [hb] at h
      simp only [find] at h ⊢
      have eb := Nat.eq_of_beq_eq_true hb
      cases hi : Nat.beq y.i i with
      | true =>
        rw [hi] at h
        have ei := Nat.eq_of_beq_eq_true hi
        injection h with h
        subst h
        exact ⟨y, rfl, rfl, rfl, rfl, rfl, by rw [if_pos (by omega)]⟩
      | false =>
        rw [hi] at h
        have ei := Nat.ne_of_beq_eq_false hi
        refine ⟨x, h, rfl, rfl, rfl, rfl, ?_⟩
        rw [if_neg (by omega)]
    | false =>
      rw [hb] at h
      simp only [find] at h ⊢
      cases hi : Nat.beq y.i i with
      | true =>
        rw [hi] at h
        injection h with h
        subst h
        have eb := Nat.ne_of_beq_eq_false hb
        have ei := Nat.eq_of_beq_eq_true hi
        exact ⟨y, rfl, rfl, rfl, rfl, rfl, by rw [if_neg (by omega)]⟩
      | false =>
        rw [hi] at h
        exact ih h
omit [Th] in
theorem find_set_some {l : List Bk} {b o : Nat} {v : Value} {i : Nat} {y : Bk} (h : find l i = some y) : ∃ x, find (setB l b o v) i = some x := by
  induction l with
  | nil => simp [find] at h
  | cons z l ih =>
    simp only [find, setB, fB_eq] at h ⊢
    cases hb : Nat.beq z.i b <;> cases hi : Nat.beq z.i i <;> rw [hi] at h <;> simp only [find, hi]
    · exact ih h
    · exact ⟨_, rfl⟩
    · exact ⟨_, h⟩
    · exact ⟨_, rfl⟩

section
variable {P : Program} {G : Nat} {W : World}
theorem Wd.store {r : List Nat} {m : AM} {w : World} (h : Wd P G W r m w) {b o : Nat} {x : Bk} {b' : Nat} (hx : find m.bs b = some x) (hro : x.ro = false) (hb : r[b]? = some b') {u v : Value} (hv : V1 r u v) :
    Wd P G W r { m with bs := setB m.bs b o u } (w.setCell ⟨b', o, none⟩ v) := by
  have hlow : W.heap.size ≤ b' := by
    obtain ⟨b2, c2, k1, k2, -⟩ := h.at_ b x hx
    rw [hb] at k1
    injection k1 with k1
    subst k1
    exact k2 hro
  refine ⟨h.low.setCell hlow v, h.n, h.g, fun i y hy => ?_, fun i j c y z hy hz => ?_, h.low2.setCell (h.opn b b' x hx hro hb), fun i c y hy hry hri => ?_⟩
  · obtain ⟨z, hz, eI, eT, eE, eR, eC⟩ := find_set hy
    obtain ⟨c, c', hr, hB, hc, hp⟩ := h.at_ i z hz
    by_cases hi : i = b
    · subst hi
      rw [hb] at hr
      injection hr with hr
      subst hr
      refine ⟨b', c'.setIfInBounds o v, hb, by rw [eR]; exact hB, ?_, ?_⟩
      · rw [eT]
        simp only [World.setCell, Array.getElem?_modify, hc]
        simp
      · rw [if_pos rfl] at eC
        obtain ⟨p1, p2, p4, p3⟩ := hp
        refine ⟨by rw [eC]; simpa using p1, by rw [eC, eE]; simpa using p2, by rw [eE, eT, eI]; simpa using p4, fun j s t hs ht => ?_⟩
        rw [eC, Array.getElem?_setIfInBounds] at hs
        rw [Array.getElem?_setIfInBounds] at ht
        by_cases hj : o = j
        · subst hj
          by_cases hsz : o < z.c.size
          · have hsz' : o < c'.size := Nat.lt_of_lt_of_le hsz p1
            simp [hsz] at hs
            simp [hsz'] at ht
            subst hs ht
            exact hv
          · simp [hsz] at hs
        · simp [hj] at hs ht
          exact p3 j s t hs ht
    · rw [if_neg hi] at eC
      refine ⟨c, c', hr, by rw [eR]; exact hB, ?_, ?_⟩
      · rw [eT]
        have hne : b' ≠ c := by
          intro e
          subst e
          exact hi (h.inj i b b' z x hz hx hr hb)
        simp only [World.setCell, Array.getElem?_modify]
        rw [if_neg (by simpa using hne)]
        exact hc
      · unfold Pre
        rw [eC, eE, eI, eT]
        exact hp
  · obtain ⟨y', hy', -⟩ := find_set hy
    obtain ⟨z', hz', -⟩ := find_set hz
    exact h.inj i j c y' z' hy' hz'
  · obtain ⟨z, hz, -, -, -, eR, -⟩ := find_set hy
    exact h.opn i c z hz (by rw [← eR]; exact hry) hri
theorem Wd.new {r : List Nat} {m : AM} {w : World} (h : Wd P G W r m w) (hB : W.heap.size ≤ w.heap.size) {c c' : Array Value} {T : TypeId} (hc : All (V1 r) c c') :
    Wd P G W (r ++ [w.heap.size]) { n := m.n + 1, bs := ⟨m.n, c, T, true, false⟩ :: m.bs } { w with heap := w.heap.push (.cells c' T) } := by
  have hl : ∀ i b, r[i]? = some b → (r ++ [w.heap.size])[i]? = some b := fun i b hi => (Ext.snoc r _).get hi
  have hlast : (r ++ [w.heap.size])[m.n]? = some w.heap.size := by rw [h.n]; simp
  refine ⟨h.low.alloc hB _, by simp [h.n], fun i hi => hl _ _ (h.g i hi), fun i x hx => ?_, fun i j b x y hx hy hi hj => ?_, h.low2.push (x := .cells c' T) rfl rfl rfl rfl, fun i b x hx hro hi => ?_⟩
  · simp only [find] at hx
    cases hi : Nat.beq m.n i with
    | true =>
      rw [hi] at hx
      have e := Nat.eq_of_beq_eq_true hi
      subst e
      injection hx with hx
      subst hx
      exact ⟨w.heap.size, c', hlast, fun _ => hB, by simp, Nat.le_of_eq hc.1, fun _ => hc.1, fun h => (by cases h), fun i u v hu hv => (hc.2 i u v hu hv).ext (Ext.snoc r _)⟩
    | false =>
      rw [hi] at hx
      obtain ⟨b, d, h1, h2, h3, h4⟩ := h.at_ i x hx
      have hlt : b < w.heap.size := (Array.getElem?_eq_some_iff.1 h3).1
      exact ⟨b, d, hl _ _ h1, h2, by simp only [Array.getElem?_push]; rw [if_neg (by omega)]; exact h3, h4.1, h4.2.1, fun he => (by obtain ⟨q, cap, a1, a2, a3⟩ := h4.2.2.1 he; exact ⟨q, cap, a1, hl _ _ a2, a3⟩), fun i u v hu hv => (h4.2.2.2 i u v hu hv).ext (Ext.snoc r _)⟩
  · have key : ∀ i x, find (⟨m.n, c, T, true, false⟩ :: m.bs) i = some x → (r ++ [w.heap.size])[i]? = some b → (i = m.n ∧ b = w.heap.size) ∨ (find m.bs i = some x ∧ r[i]? = some b ∧ b < w.heap.size) := by
      intro i x hx hi
      simp only [find] at hx
      cases e : Nat.beq m.n i with
      | true =>
        have e' := Nat.eq_of_beq_eq_true e
        subst e'
        rw [hlast] at hi
        injection hi with hi
        exact .inl ⟨rfl, hi.symm⟩
      | false =>
        rw [e] at hx
        obtain ⟨b', d, h1, h2, h3, h4⟩ := h.at_ i x hx
        rw [hl _ _ h1] at hi
        injection hi with hi
        subst hi
        exact .inr ⟨hx, h1, (Array.getElem?_eq_some_iff.1 h3).1⟩
    rcases key i x hx hi with ⟨e1, e2⟩ | ⟨a1, a2, a3⟩ <;> rcases key j y hy hj with ⟨e3, e4⟩ | ⟨c1, c2, c3⟩
    · omega
    · omega
    · omega
    · exact h.inj i j b x y a1 c1 a2 c2
  · simp only [find] at hx
    cases e : Nat.beq m.n i with
    | true =>
      have e' := Nat.eq_of_beq_eq_true e
      subst e'
      rw [hlast] at hi
      injection hi with hi
      subst hi
      exact .inr h.low2.size
    | false =>
      rw [e] at hx
      obtain ⟨b', d, h1, h2, h3, h4⟩ := h.at_ i x hx
      rw [hl _ _ h1] at hi
      injection hi with hi
      subst hi
      exact h.opn i b' x hx hro h1

theorem arun_sound {α β : Type} {RA : List Nat → α → β → Prop} : ∀ (s : Sem α) (t : Sem β) (r : List Nat) (m : AM) (w : World) (x : α) (m' : AM), SR P RA r s t → arun P s m = some (x, m') → Wd P G W r m w → W.heap.size ≤ w.heap.size →
    ∃ r' y w', t.run P w = .ok y w' ∧ RA r' x y ∧ Wd P G W r' m' w' ∧ Step r m w r' m' w' := by
  intro s
  induction s with
  | pure a =>
    intro t r m w x m' h e hw hB
    obtain ⟨b, rfl, hb⟩ := h
    simp only [arun, Option.some.injEq, Prod.mk.injEq] at e
    obtain ⟨rfl, rfl⟩ := e
    exact ⟨r, b, w, rfl, hb, hw, Step.refl r m w⟩
  | load q a k ih =>
    intro t r m w x m' h e hw hB
    obtain ⟨a', k', rfl, ha, hk⟩ := h
    simp only [arun, fV_eq] at e
    split at e
    · rename_i y h1 h2
      split at e
      · rename_i v hv
        obtain ⟨b, c', g1, g2, g3, g4⟩ := hw.at_ _ _ h2
        have hlt : a.off < c'.size := Nat.lt_of_lt_of_le (Array.getElem?_eq_some_iff.1 hv).1 g4.1
        have hvr := g4.2.2.2 a.off v _ hv (Array.getElem?_eq_getElem hlt)
        rw [ha.1] at g1
        injection g1 with g1
        have hc : w.cell? a' = some c'[a.off] := by
          unfold World.cell?
          rw [g1, g3]
          simp only
          rw [ha.2.2, h1, ha.2.1]
          simp [hlt]
        obtain ⟨r', z, w', e1, e2⟩ := ih v (k' c'[a.off]) r m w x m' (hk _ _ hvr) e hw hB
        exact ⟨r', z, w', by simp only [Sem.run, hc]; exact e1, e2⟩
      · cases e
    · cases e
  | store q a v k ih =>
    intro t r m w x m' h e hw hB
    obtain ⟨a', v', k', rfl, ha, hv, hk⟩ := h
    simp only [arun, fV_eq, fM_eq] at e
    split at e
    · rename_i y h0 h1 h2
      split at e
      · rename_i hro hsz
        have hsz := Nat.le_of_ble_eq_true hsz
        obtain ⟨b, c', g1, g2, g3, g4⟩ := hw.at_ _ _ h2
        have hlt : a.off < c'.size := Nat.lt_of_lt_of_le hsz g4.1
        rw [ha.1] at g1
        injection g1 with g1
        have ea : a' = ⟨b, a.off, none⟩ := by
          obtain ⟨a1, a2, a3⟩ := a'
          simp only [AR] at ha
          simp only at g1
          rw [g1, ha.2.1, ha.2.2, h1]
        subst ea
        have hc : w.cell? ⟨b, a.off, none⟩ = some c'[a.off] := by
          unfold World.cell?
          rw [g3]
          simp [hlt]
        have hf : w.frozen? ⟨b, a.off, none⟩ = false := by
          unfold World.frozen?
          rw [g3]
          simp
        have hr : r[a.block]? = some b := ha.1
        have hw2 := hw.store (o := a.off) h2 hro hr hv
        have hsz2 : (w.setCell ⟨b, a.off, none⟩ v').heap.size = w.heap.size := by simp [World.setCell]
        obtain ⟨r', z, w', e1, e2, e3, e4⟩ := ih k' r _ _ x m' hk e hw2 (by rw [hsz2]; exact hB)
        have hst : Step r m w r { m with bs := setB m.bs a.block a.off v } (w.setCell ⟨b, a.off, none⟩ v') := by
          refine ⟨Ext.refl r, rfl, rfl, rfl, Nat.le_of_eq hsz2.symm, fun c hc hn => ?_, fun c hd => ?_⟩
          · simp only [World.setCell, Array.getElem?_modify]
            rw [if_neg]
            intro e
            subst e
            exact hn ⟨_, _, h2, hro, hr⟩
          · obtain ⟨i, z, hz, hzr, hi⟩ := hd
            obtain ⟨z', hz', -, -, -, e3, -⟩ := find_set hz
            exact .inl ⟨i, z', hz', e3 ▸ hzr, hi⟩
        refine ⟨r', z, w', ?_, e2, e3, hst.trans e4⟩
        have hn := hv.notAgg
        cases v' with
        | agg c => exact absurd rfl (hn.2.2.1 c)
        | tuple c => exact absurd rfl (hn.2.2.2 c)
        | _ => simp only [Sem.run, hc, hf]; exact e1
      · cases e
    · cases e
  | new o k ih =>
    intro t r m w x m' h e hw hB
    obtain ⟨c, c', T, k', rfl, rfl, hc, hk⟩ := h
    simp only [arun, fM_eq, fN_eq] at e
    have hw2 := hw.new hB (T := T) hc
    rw [hw.n] at e hw2
    obtain ⟨r', z, w', e1, e2, e3, e4⟩ := ih _ (k' w.heap.size) _ _ _ x m' (hk w.heap.size) e hw2 (by simp; omega)
    refine ⟨r', z, w', e1, e2, e3, Step.trans ?_ e4⟩
    refine ⟨Ext.snoc r _, rfl, rfl, rfl, by simp, fun b hb hn => ?_, fun b hd => ?_⟩
    · simp only [Array.getElem?_push]
      rw [if_neg (by omega)]
    · obtain ⟨i, y, hy, hyr, hi⟩ := hd
      simp only [find] at hy
      cases e : Nat.beq r.length i with
      | true =>
        have e' := Nat.eq_of_beq_eq_true e
        subst e'
        simp at hi
        exact .inr (by omega)
      | false =>
        rw [e] at hy
        have hne := Nat.ne_of_beq_eq_false e
        obtain ⟨b', d, h1, -⟩ := hw.at_ i y hy
        rw [(Ext.snoc r _).get h1] at hi
        injection hi with hi
        subst hi
        exact .inl ⟨i, y, hy, hyr, h1⟩
  | shape b k ih =>
    intro t r m w x m' h e hw hB
    obtain ⟨b', k', rfl, hb, hk⟩ := h
    simp only [arun] at e
    split at e
    · rename_i y h2
      split at e
      · rename_i hex
        obtain ⟨b2, c', g1, g2, g3, g4⟩ := hw.at_ _ _ h2
        rw [hb] at g1
        injection g1 with g1
        subst g1
        have hs : w.shape? b' = some (y.T, y.c.size) := by
          unfold World.shape?
          rw [g3, g4.2.1 hex]
        obtain ⟨r', z, w', e1, e2⟩ := ih _ (k' _) r m w x m' (hk _) e hw hB
        exact ⟨r', z, w', by simp only [Sem.run, hs]; exact e1, e2⟩
      · cases e
    · cases e
  | frozen a k ih =>
    intro t r m w x m' h e hw hB
    obtain ⟨a', k', rfl, ha, hk⟩ := h
    simp only [arun] at e
    split at e
    · rename_i y h2
      obtain ⟨b2, c', g1, g2, g3, g4⟩ := hw.at_ _ _ h2
      rw [ha.1] at g1
      injection g1 with g1
      have hs : w.frozen? a' = false := by
        unfold World.frozen?
        rw [g1, g3]
        simp
      obtain ⟨r', z, w', e1, e2⟩ := ih _ (k' _) r m w x m' (hk _) e hw hB
      exact ⟨r', z, w', by simp only [Sem.run, hs]; exact e1, e2⟩
    · cases e
  | program k ih =>
    intro t r m w x m' h e hw hB
    obtain ⟨k', rfl, hk⟩ := h
    simp only [arun] at e
    obtain ⟨r', z, w', e1, e2⟩ := ih P _ r m w x m' hk e hw hB
    exact ⟨r', z, w', by simp only [Sem.run]; exact e1, e2⟩
  | mark q k ih =>
    intro t r m w x m' h e hw hB
    obtain ⟨q', k', rfl, hk⟩ := h
    simp only [arun] at e
    obtain ⟨r', z, w', e1, e2⟩ := ih _ r m w x m' hk e hw hB
    exact ⟨r', z, w', by simp only [Sem.run]; exact e1, e2⟩
  | freeze => intro t r m w x m' h e; simp [arun] at e
  | getObj => intro t r m w x m' h e; simp [arun] at e
  | setObj => intro t r m w x m' h e; simp [arun] at e
  | choose => intro t r m w x m' h e; simp [arun] at e
  | sys => intro t r m w x m' h e; simp [arun] at e
  | halt => intro t r m w x m' h e; simp [arun] at e
end
end Go.Sx
