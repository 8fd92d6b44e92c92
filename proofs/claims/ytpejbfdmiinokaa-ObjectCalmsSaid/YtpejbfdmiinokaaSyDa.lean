/-
  RUNS RECKONED AHEAD: data of any depth (cells; slices of cells), and what it is that two of them are the same. By an AI agent.
-/
import Derived.Test.YtpejbfdmiinokaaSyYC
namespace Go.Sx
open Go.RowKit
/-- data: a scalar, or a list -/
inductive Da where
  | v (x : Value)
  | l (xs : List Da)
/-- the cells of a type: a scalar's tag, a slice with its elements' cells -/
inductive Shp where
  | nil
  | t (g : Nat) (l : Shp)
  | s (e l : Shp)
def Shp.tags : Shp → List Nat
  | .nil => []
  | .t g l => g :: l.tags
  | .s _ l => 10 :: l.tags
def Shp.elem : Shp → Nat → Option Shp
  | .nil, _ => none
  | .t _ l, i + 1 => l.elem i
  | .t _ _, 0 => none
  | .s e _, 0 => some e
  | .s _ l, i + 1 => l.elem i
def Shp.drop : Shp → Nat → Shp
  | z, 0 => z
  | .nil, _ => .nil
  | .t _ l, i + 1 => l.drop i
  | .s _ l, i + 1 => l.drop i
def Shp.take : Shp → Nat → Shp
  | _, 0 => .nil
  | .nil, _ => .nil
  | .t g l, i + 1 => .t g (l.take i)
  | .s e l, i + 1 => .s e (l.take i)
/-- no scalar bears a slice's tag -/
def Shp.good : Shp → Bool
  | .nil => true
  | .t g l => Nat.ble g 9 && l.good
  | .s e l => e.good && l.good
def Shp.flat : Shp → Bool
  | .nil => true
  | .t _ l => l.flat
  | .s _ _ => false
/-- what lies in memory as such data -/
def Dat (W : World) : Shp → List Value → List Da → Prop
  | .nil, xs, ds => xs = [] ∧ ds = []
  | .t g l, xs, ds => ∃ x xs' ds', xs = x :: xs' ∧ ds = .v x :: ds' ∧ hasTag g x ∧ Dat W l xs' ds'
  | .s e l, xs, ds => ∃ x xs' rs ds', xs = x :: xs' ∧ ds = .l rs :: ds' ∧ (∃ rows, RowAt W e.tags x rows ∧ rows.length = rs.length ∧ ∀ (k : Nat) row, rows[k]? = some row → ∃ r, rs[k]? = some (.l r) ∧ Dat W e row r) ∧ Dat W l xs' ds'
/-- a slice of such elements -/
def SlD (W : World) (e : Shp) (x : Value) (rs : List Da) : Prop := ∃ rows, RowAt W e.tags x rows ∧ rows.length = rs.length ∧ ∀ (k : Nat) row, rows[k]? = some row → ∃ r, rs[k]? = some (.l r) ∧ Dat W e row r
section
variable {W : World}
theorem Dat.below {w : World} (hb : Below W.heap.size W w) : ∀ {s : Shp} {xs : List Value} {ds : List Da}, Dat W s xs ds → Dat w s xs ds := by
  intro s
  induction s with
  | nil => intro xs ds h; exact h
  | t g l ih =>
    rintro xs ds ⟨x, xs', ds', h1, h2, h3, h4⟩
    exact ⟨x, xs', ds', h1, h2, h3, ih h4⟩
  | s e l ihe ihl =>
    rintro xs ds ⟨x, xs', rs, ds', h1, h2, ⟨rows, k1, k2, k3⟩, h4⟩
    refine ⟨x, xs', rs, ds', h1, h2, ⟨rows, k1.below hb, k2, fun k row hk => ?_⟩, ihl h4⟩
    obtain ⟨r, g1, g2⟩ := k3 k row hk
    exact ⟨r, g1, ihe g2⟩
theorem SlD.below {w : World} (hb : Below W.heap.size W w) {e : Shp} {x : Value} {rs : List Da} (h : SlD W e x rs) : SlD w e x rs := by
  obtain ⟨rows, k1, k2, k3⟩ := h
  refine ⟨rows, k1.below hb, k2, fun k row hk => ?_⟩
  obtain ⟨r, g1, g2⟩ := k3 k row hk
  exact ⟨r, g1, g2.below hb⟩
theorem Dat.len : ∀ {s : Shp} {xs : List Value} {ds : List Da}, Dat W s xs ds → xs.length = s.tags.length ∧ ds.length = s.tags.length := by
  intro s
  induction s with
  | nil => rintro xs ds ⟨rfl, rfl⟩; exact ⟨rfl, rfl⟩
  | t g l ih =>
    rintro xs ds ⟨x, xs', ds', rfl, rfl, h3, h4⟩
    have := ih h4
    simp [Shp.tags, this]
  | s e l ihe ihl =>
    rintro xs ds ⟨x, xs', rs, ds', rfl, rfl, -, h4⟩
    have := ihl h4
    simp [Shp.tags, this]
theorem Dat.get : ∀ {s : Shp} {xs : List Value} {ds : List Da}, Dat W s xs ds → ∀ (i : Nat) g, s.tags[i]? = some g → ∃ x, xs[i]? = some x ∧ hasTag g x ∧ (s.elem i = none → ds[i]? = some (.v x)) ∧ ∀ e, s.elem i = some e → g = 10 ∧ ∃ rs, ds[i]? = some (.l rs) ∧ SlD W e x rs := by
  intro s
  induction s with
  | nil => rintro xs ds - i g hi; simp [Shp.tags] at hi
  | t g l ih =>
    rintro xs ds ⟨x, xs', ds', rfl, rfl, h3, h4⟩ i g' hi
    cases i with
    | zero =>
      simp [Shp.tags] at hi
      subst hi
      exact ⟨x, rfl, h3, fun _ => rfl, fun e he => by simp [Shp.elem] at he⟩
    | succ i => exact ih h4 i g' (by simpa [Shp.tags] using hi)
  | s e l ihe ihl =>
    rintro xs ds ⟨x, xs', rs, ds', rfl, rfl, h3, h4⟩ i g' hi
    cases i with
    | zero =>
      simp [Shp.tags] at hi
      subst hi
      refine ⟨x, rfl, ?_, fun h => by simp [Shp.elem] at h, fun e' he => ?_⟩
      · obtain ⟨rows, k1, -⟩ := h3
        exact k1.tag
      · simp [Shp.elem] at he
        subst he
        exact ⟨rfl, rs, rfl, h3⟩
    | succ i => exact ihl h4 i g' (by simpa [Shp.tags] using hi)
theorem Dat.tags {s : Shp} {xs : List Value} {ds : List Da} (h : Dat W s xs ds) : Tags s.tags xs := ⟨h.len.1, fun j g hg => by
  obtain ⟨x, h1, h2, -⟩ := h.get j g hg
  exact ⟨x, h1, h2⟩⟩
theorem Shp.elem_ten : ∀ {s : Shp}, s.good = true → ∀ (i : Nat) g, s.tags[i]? = some g → (g = 10 ↔ (s.elem i).isSome = true) := by
  intro s
  induction s with
  | nil => intro _ i g h; simp [Shp.tags] at h
  | t g l ih =>
    intro hg i g' h
    rw [Shp.good, Bool.and_eq_true] at hg
    cases i with
    | zero =>
      simp [Shp.tags] at h
      subst h
      have := Nat.le_of_ble_eq_true hg.1
      simp [Shp.elem]
      omega
    | succ i => exact ih hg.2 i g' (by simpa [Shp.tags] using h)
  | s e l ihe ihl =>
    intro hg i g' h
    rw [Shp.good, Bool.and_eq_true] at hg
    cases i with
    | zero =>
      simp [Shp.tags] at h
      subst h
      simp [Shp.elem]
    | succ i => exact ihl hg.2 i g' (by simpa [Shp.tags] using h)
/-- a scalar cell is the same as its data is -/
theorem Dat.scal {w : World} {s : Shp} (hs : s.good = true) {xs ys : List Value} {ds es : List Da} (h : Dat W s xs ds) (h' : Dat w s ys es) {i g : Nat} (hg : s.tags[i]? = some g) (h10 : g ≠ 10) : xs[i]? = ys[i]? ↔ ds[i]? = es[i]? := by
  obtain ⟨x, h1, -, h2, -⟩ := h.get i g hg
  obtain ⟨y, h3, -, h4, -⟩ := h'.get i g hg
  have hn : s.elem i = none := by
    have := Shp.elem_ten hs i g hg
    cases he : s.elem i with
    | none => rfl
    | some e => exact absurd (this.2 (by rw [he]; rfl)) h10
  rw [h1, h3, h2 hn, h4 hn]
  simp
theorem Dat.drop : ∀ {s : Shp} {xs : List Value} {ds : List Da} (o : Nat), Dat W s xs ds → Dat W (s.drop o) (xs.drop o) (ds.drop o)
  | s, xs, ds, 0, h => by simpa [Shp.drop] using h
  | .nil, xs, ds, o + 1, h => by
    obtain ⟨rfl, rfl⟩ := h
    show Dat W .nil _ _
    exact ⟨by simp, by simp⟩
  | .t g l, xs, ds, o + 1, h => by
    obtain ⟨x, xs', ds', rfl, rfl, -, h4⟩ := h
    exact h4.drop o
  | .s e l, xs, ds, o + 1, h => by
    obtain ⟨x, xs', rs, ds', rfl, rfl, -, h4⟩ := h
    exact h4.drop o
theorem Dat.take : ∀ {s : Shp} {xs : List Value} {ds : List Da} (n : Nat), Dat W s xs ds → Dat W (s.take n) (xs.take n) (ds.take n)
  | s, xs, ds, 0, h => by
    cases s <;> exact ⟨by simp, by simp⟩
  | .nil, xs, ds, n + 1, h => by
    obtain ⟨rfl, rfl⟩ := h
    exact ⟨by simp, by simp⟩
  | .t g l, xs, ds, n + 1, h => by
    obtain ⟨x, xs', ds', rfl, rfl, h3, h4⟩ := h
    exact ⟨x, _, _, rfl, rfl, h3, h4.take n⟩
  | .s e l, xs, ds, n + 1, h => by
    obtain ⟨x, xs', rs, ds', rfl, rfl, h3, h4⟩ := h
    exact ⟨x, _, _, _, rfl, rfl, h3, h4.take n⟩
theorem Shp.tags_drop : ∀ (s : Shp) (o : Nat), (s.drop o).tags = s.tags.drop o
  | z, 0 => by simp [Shp.drop]
  | .nil, o + 1 => by simp [Shp.drop, Shp.tags]
  | .t g l, o + 1 => by simpa [Shp.drop, Shp.tags] using l.tags_drop o
  | .s e l, o + 1 => by simpa [Shp.drop, Shp.tags] using l.tags_drop o
theorem Shp.tags_take : ∀ (s : Shp) (o : Nat), (s.take o).tags = s.tags.take o
  | z, 0 => by cases z <;> simp [Shp.take, Shp.tags]
  | .nil, o + 1 => by simp [Shp.take, Shp.tags]
  | .t g l, o + 1 => by simpa [Shp.take, Shp.tags] using l.tags_take o
  | .s e l, o + 1 => by simpa [Shp.take, Shp.tags] using l.tags_take o
theorem Dat.flat : ∀ {s : Shp} {xs : List Value} {ds : List Da}, s.flat = true → Dat W s xs ds → ds = xs.map .v
  | .nil, xs, ds, _, h => by
    obtain ⟨rfl, rfl⟩ := h
    rfl
  | .t g l, xs, ds, hf, h => by
    obtain ⟨x, xs', ds', rfl, rfl, h3, h4⟩ := h
    rw [h4.flat (show l.flat = true from hf)]
    rfl
  | .s e l, _, _, hf, _ => by cases hf
theorem mapV_inj : ∀ {a b : List Value}, a.map Da.v = b.map Da.v → a = b
  | [], [], _ => rfl
  | [], _ :: _, h => by cases h
  | _ :: _, [], h => by cases h
  | x :: a, y :: b, h => by
    simp only [List.map_cons, List.cons.injEq, Da.v.injEq] at h
    rw [h.1, mapV_inj h.2]
/-- rows of scalars are the same as their data is -/
theorem SlD.flat {w : World} {e : Shp} (hf : e.flat = true) {rs qs : List Da} {ra rb : List (List Value)} (h1 : ra.length = rs.length) (h2 : ∀ (k : Nat) row, ra[k]? = some row → ∃ r, rs[k]? = some (.l r) ∧ Dat W e row r)
    (h3 : rb.length = qs.length) (h4 : ∀ (k : Nat) row, rb[k]? = some row → ∃ r, qs[k]? = some (.l r) ∧ Dat w e row r) : (ra = rb ↔ rs = qs) ∧ ∀ k : Nat, (ra[k]? = rb[k]? ↔ rs[k]? = qs[k]?) := by
  have key : ∀ k : Nat, (ra[k]? = rb[k]? ↔ rs[k]? = qs[k]?) := fun k => by
    cases ha : ra[k]? with
    | none =>
      have e1 : rs[k]? = none := List.getElem?_eq_none (by rw [← h1]; exact List.getElem?_eq_none_iff.1 ha)
      cases hb : rb[k]? with
      | none =>
        have e2 : qs[k]? = none := List.getElem?_eq_none (by rw [← h3]; exact List.getElem?_eq_none_iff.1 hb)
        rw [e1, e2]
        exact ⟨fun _ => rfl, fun _ => rfl⟩
      | some y =>
        obtain ⟨r, g1, -⟩ := h4 k y hb
        rw [e1, g1]
        simp
    | some x =>
      obtain ⟨r, g1, g2⟩ := h2 k x ha
      cases hb : rb[k]? with
      | none =>
        have e2 : qs[k]? = none := List.getElem?_eq_none (by rw [← h3]; exact List.getElem?_eq_none_iff.1 hb)
        rw [e2, g1]
        simp
      | some y =>
        obtain ⟨r', g3, g4⟩ := h4 k y hb
        rw [g1, g3, g2.flat hf, g4.flat hf]
        simp only [Option.some.injEq, Da.l.injEq]
        exact ⟨fun h => by rw [h], mapV_inj⟩
  refine ⟨⟨fun h => ?_, fun h => ?_⟩, key⟩
  · apply List.ext_getElem?
    intro k
    rw [← key k, h]
  · apply List.ext_getElem?
    intro k
    rw [key k, h]
end
/-- a function tells whether two slices are the same -/
def SliceSame (P : Program) (G : Nat) (l : List Bk) (f : FuncId) (ext : List Value) (e : Shp) : Prop :=
  ∀ w sa sb da db, Knows G l w → SlD w e sa da → SlD w e sb db → Calls P f (sa :: sb :: ext).toArray w fun X w' => ∃ q, X = .returned (.bool q) ∧ (q = true ↔ da = db) ∧ Below w.heap.size w w'
/-- a function tells whether two structs are the same -/
def StructSame (P : Program) (G : Nat) (l : List Bk) (f : FuncId) (s : Shp) : Prop :=
  ∀ w xa xb da db, Knows G l w → Dat w s xa da → Dat w s xb db → Calls P f #[.agg ⟨xa⟩, .agg ⟨xb⟩] w fun X w' => ∃ q, X = .returned (.bool q) ∧ (q = true ↔ da = db) ∧ Below w.heap.size w w'
theorem Knows.on {G : Nat} {l : List Bk} {W w : World} (h : Knows G l W) (hb : Below W.heap.size W w) : Knows G l w :=
  ⟨Nat.le_trans h.1 hb.size, fun i x hx => (by
    obtain ⟨h1, h2, h3, h4, h5⟩ := h.2 i x hx
    exact ⟨h1, h2, h3, by rw [hb.block i (Array.getElem?_eq_some_iff.1 h4).1]; exact h4, h5⟩)⟩
section
variable {P : Program} {G : Nat} {l : List Bk}
/-- slices of scalars, or of structs of scalars -/
theorem flatSame (hN : NoGo P) (hM : P.follows .mixedOrders = true) {f : FuncId} {fn : Func} {c : Code} {np : Nat} {t tE tB tG : Tr} {ng : Bool} {e : Shp} (hf : P.funcs[f]? = some fn) (hb : fn.body = some c)
    (hck : SameCk P G 4 l fn c np [L 10 0, L 10 1] t tE tB tG 0 ex2 noE (M2 e.tags) F2 Fe2 (bod2 ng e.tags)) (hng : ng = true → ∃ g, e.tags = [g] ∧ g ≠ 8) (hgs : e.tags.length ≤ 48 ∧ ∀ g ∈ e.tags, g ≤ 9) (hfl : e.flat = true) : SliceSame P G l f [] e := by
  rintro w sa sb da db hK ⟨ra, a1, a2, a3⟩ ⟨rb, b1, b2, b3⟩
  refine (flatRows hN hM hf hb hck hng hgs a1 b1 hK).mono ?_
  rintro X w' ⟨q, rfl, h1, h2⟩
  exact ⟨q, rfl, h1.trans (SlD.flat hfl a2 a3 b2 b3).1, h2⟩
/-- slices of structs by their elements' function -/
theorem rowsSame (hN : NoGo P) (hM : P.follows .mixedOrders = true) {f g : FuncId} {fn : Func} {c : Code} {np : Nat} {ext : List Value} {t tE tB tG : Tr} {e : Shp} (hf : P.funcs[f]? = some fn) (hb : fn.body = some c)
    (hck : SameCk P G 4 l fn c np (L 10 0 :: L 10 1 :: ext) t tE tB tG 0 ex2 (fun _ => envAgg g e.tags) (M3 e.tags) F2 Fe2 bod3) (hgs : e.tags.length < 1000 ∧ ∀ g ∈ e.tags, g ≤ 11) (hex : ext.all still = true) (hg : StructSame P G l g e) : SliceSame P G l f ext e := by
  rintro w sa sb da db hK ⟨ra, a1, a2, a3⟩ ⟨rb, b1, b2, b3⟩
  refine (structRows hN hM hf hb hck hgs hex a1 b1 hK (fun k => da[k]? = db[k]?) fun k xa xb hxa hxb w1 hw => ?_).mono ?_
  · obtain ⟨r, g1, g2⟩ := a3 k xa hxa
    obtain ⟨r', g3, g4⟩ := b3 k xb hxb
    refine (hg w1 xa xb r r' (hK.on hw) (g2.below hw) (g4.below hw)).mono ?_
    rintro X w' ⟨q, rfl, h1, h2⟩
    exact ⟨q, rfl, h1.trans (by rw [g1, g3]; simp), h2⟩
  · rintro X w' ⟨q, rfl, h1, h2⟩
    refine ⟨q, rfl, h1.trans ⟨fun ⟨h3, h4⟩ => ?_, fun h => ?_⟩, h2⟩
    · apply List.ext_getElem?
      intro k
      by_cases hk : k < ra.length
      · exact h4 k hk
      · rw [List.getElem?_eq_none (by omega), List.getElem?_eq_none (by omega)]
    · subst h
      exact ⟨by omega, fun _ _ => rfl⟩
/-- a call on a struct inside: its function, where it lies, its letter's name -/
structure AEnt where
  g : FuncId
  o : Nat
  n : Nat
  nm : Nat
def covOf : List AEnt → Nat → List Nat
  | [], i => [i]
  | a :: l, i => match Nat.beq a.nm i with
    | true => List.range' a.o a.n
    | false => covOf l i
def envAs (gs : List Nat) : List AEnt → EnvF
  | [] => fun _ _ _ => none
  | a :: l => envOr (envAgB a.g ((gs.drop a.o).take a.n) (1000 + a.o) (2000 + a.o) (3000 + a.nm)) (envAs gs l)
/-- every cell is compared -/
def covers (n : Nat) (items : List It) (as : List AEnt) (zi : Option Nat) (ls : List Nat) : Bool :=
  (List.range n).all fun j => items.any (fun x => match Nat.beq x.g 10 with | true => (covOf as x.i).contains j | false => Nat.beq x.i j) || (match zi with | some i => (covOf as i).contains j | none => false) || ls.contains j
/-- the cells that a letter's name tells of are the same -/
def slD (as : List AEnt) (da db : List Da) (i : Nat) : Prop := ∀ j ∈ covOf as i, da[j]? = db[j]?
theorem same_iff {W w : World} {s : Shp} (hs : s.good = true) {items : List It} (hit : items.all (itOk s.tags) = true) {as : List AEnt} {zi : Option Nat} {ls : List Nat} (hc : covers s.tags.length items as zi ls = true) {xa xb : List Value} {da db : List Da} (ha : Dat W s xa da) (hb : Dat w s xb db) :
    da = db ↔ ((∀ x ∈ items, if x.g = 10 then slD as da db x.i else xa[x.i]? = xb[x.i]?) ∧ endP (slD as da db) zi) ∧ ∀ i ∈ ls, da[i]? = db[i]? := by
  have sc : ∀ x ∈ items, x.g ≠ 10 → (xa[x.i]? = xb[x.i]? ↔ da[x.i]? = db[x.i]?) := fun x hx h10 => by
    have h := List.all_eq_true.1 hit x hx
    unfold itOk at h
    split at h
    · rename_i g hg
      rw [Bool.and_eq_true] at h
      have e1 := Nat.eq_of_beq_eq_true h.1
      subst e1
      exact Dat.scal hs ha hb hg h10
    · cases h
  constructor
  · intro h
    subst h
    refine ⟨⟨fun x hx => ?_, ?_⟩, fun i _ => rfl⟩
    · split
      · exact fun j _ => rfl
      · rename_i h10
        exact (sc x hx h10).2 rfl
    · cases zi with
      | none => trivial
      | some i => exact fun j _ => rfl
  · rintro ⟨⟨h1, h2⟩, h3⟩
    apply List.ext_getElem?
    intro j
    by_cases hj : j < s.tags.length
    · have hc := List.all_eq_true.1 hc j (List.mem_range.2 hj)
      rw [Bool.or_eq_true, Bool.or_eq_true] at hc
      rcases hc with (hc | hc) | hc
      · obtain ⟨x, hx, hc⟩ := List.any_eq_true.1 hc
        have hh := h1 x hx
        split at hc
        · rename_i h10
          rw [if_pos (Nat.eq_of_beq_eq_true h10)] at hh
          exact hh j (by simpa using hc)
        · rename_i h10
          have h10 : x.g ≠ 10 := fun e => by rw [e] at h10; cases h10
          rw [if_neg h10] at hh
          have := Nat.eq_of_beq_eq_true hc
          subst this
          exact (sc x hx h10).1 hh
      · cases zi with
        | none => cases hc
        | some i => exact h2 j (by simpa using hc)
      · exact h3 j (by simpa using hc)
    · rw [List.getElem?_eq_none (by have := ha.len.2; omega), List.getElem?_eq_none (by have := hb.len.2; omega)]
open Classical in
theorem envAs_ok {W : World} {s : Shp} (hgs : s.tags.length < 1000 ∧ ∀ g ∈ s.tags, g < 16) {xa xb : List Value} {da db : List Da} (ha : Dat W s xa da) (hb : Dat W s xb db) (hK : Knows G l W) {sl : Nat → Prop} : ∀ {as : List AEnt}, (∀ a ∈ as, a.o + a.n ≤ s.tags.length ∧ StructSame P G l a.g ((s.drop a.o).take a.n) ∧ (sl a.nm ↔ ∀ j ∈ List.range' a.o a.n, da[j]? = db[j]?)) →
    @EnvOk (thOf (rhoS xa xb sl) W) P G W (envAs s.tags as)
  | [], _ => fun _ _ _ _ _ h => by cases h
  | a :: as, h => by
    letI := thOf (rhoS xa xb sl) W
    obtain ⟨h0, h1, h2⟩ := h a List.mem_cons_self
    have e : (s.tags.drop a.o).take a.n = ((s.drop a.o).take a.n).tags := by rw [Shp.tags_take, Shp.tags_drop]
    have hlen : ((s.tags.drop a.o).take a.n).length = a.n := by simp; omega
    have da' := (ha.drop a.o).take a.n
    have db' := (hb.drop a.o).take a.n
    refine envOr_ok ?_ (envAs_ok hgs ha hb hK fun b hb => h b (List.mem_cons_of_mem _ hb))
    refine envAgB_ok (xa := (xa.drop a.o).take a.n) (xb := (xb.drop a.o).take a.n) (by rw [e]; exact da'.tags) (by rw [e]; exact db'.tags) (fun g hg => hgs.2 g (List.mem_of_mem_drop (List.mem_of_mem_take hg))) (fun j hj => ?_) (fun j hj => ?_) (q := decide (sl a.nm)) rhoS_s fun w hw => ?_
    · rw [hlen] at hj
      rw [Nat.add_assoc, rhoS_a (by omega), List.getElem?_take, if_pos hj, List.getElem?_drop]
    · rw [hlen] at hj
      rw [Nat.add_assoc, rhoS_b (by omega), List.getElem?_take, if_pos hj, List.getElem?_drop]
    · refine (h1 w _ _ _ _ (hK.on hw) (da'.below hw) (db'.below hw)).mono ?_
      rintro X w' ⟨q, rfl, g1, g2⟩
      refine ⟨?_, g2⟩
      have : (q = true ↔ sl a.nm) := by
        rw [g1, h2]
        constructor
        · intro hh j hj
          rw [List.mem_range'_1] at hj
          have := congrArg (·[j - a.o]?) hh
          simp only [List.getElem?_take, List.getElem?_drop] at this
          rw [if_pos (by omega), if_pos (by omega), show a.o + (j - a.o) = j by omega] at this
          exact this
        · intro hh
          apply List.ext_getElem?
          intro j
          simp only [List.getElem?_take, List.getElem?_drop]
          split
          · exact hh _ (by rw [List.mem_range'_1]; omega)
          · rfl
      rw [Bool.eq_iff_iff.2 (this.trans (by simp : sl a.nm ↔ decide (sl a.nm) = true))]
open Classical in
theorem envEnts_same {W : World} {s : Shp} (hgs : s.tags.length < 1000) {xa xb : List Value} {da db : List Da} (ha : Dat W s xa da) (hb : Dat W s xb db) (hK : Knows G l W) {sl : Nat → Prop} {ents : List Ent}
    (h : ∀ e ∈ ents, ∃ i el, e = ⟨e.f, e.x, 1000 + i, 2000 + i, 3000 + i⟩ ∧ s.elem i = some el ∧ s.tags[i]? = some 10 ∧ (sl i ↔ da[i]? = db[i]?) ∧ SliceSame P G l e.f (extA e.x) el) : @EnvOk (thOf (rhoS xa xb sl) W) P G W (envEnts ents) := by
  refine envEnts_ok fun e he => ?_
  obtain ⟨i, el, he1, hel, hg, hsl, hc⟩ := h e he
  have hi := (List.getElem?_eq_some_iff.1 hg).1
  obtain ⟨va, a1, a2, -, a4⟩ := ha.get i 10 hg
  obtain ⟨vb, b1, b2, -, b4⟩ := hb.get i 10 hg
  obtain ⟨-, ra, a5, a6⟩ := a4 el hel
  obtain ⟨-, rb, b5, b6⟩ := b4 el hel
  have ep : e.p = 1000 + i := congrArg Ent.p he1
  have eq : e.q = 2000 + i := congrArg Ent.q he1
  have es : e.s = 3000 + i := congrArg Ent.s he1
  have va' : rhoS xa xb sl e.p = va := by rw [ep, rhoS_a (by omega), a1]; rfl
  have vb' : rhoS xa xb sl e.q = vb := by rw [eq, rhoS_b (by omega), b1]; rfl
  refine ⟨by rw [va']; exact a2, by rw [vb']; exact b2, ⟨_, by rw [es]; exact rhoS_s⟩, fun w hw => ?_⟩
  rw [va', vb', es, rhoS_s]
  refine (hc w va vb ra rb (hK.on hw) (a6.below hw) (b6.below hw)).mono ?_
  rintro X w' ⟨q', rfl, hq', hb⟩
  refine ⟨?_, hb⟩
  have : q' = true ↔ sl i := by
    rw [hq', hsl, a5, b5]
    simp
  rw [Bool.eq_iff_iff.2 (this.trans (by simp : sl i ↔ decide (sl i) = true))]
/-- what the calls inside a comparison answer -/
structure Parts (P : Program) (G : Nat) (l : List Bk) (s : Shp) (ents : List Ent) (as : List AEnt) : Prop where
  e : ∀ e ∈ ents, ∃ i el, e = ⟨e.f, e.x, 1000 + i, 2000 + i, 3000 + i⟩ ∧ s.elem i = some el ∧ s.tags[i]? = some 10 ∧ covOf as i = [i] ∧ SliceSame P G l e.f (extA e.x) el
  a : ∀ a ∈ as, a.o + a.n ≤ s.tags.length ∧ covOf as a.nm = List.range' a.o a.n ∧ StructSame P G l a.g ((s.drop a.o).take a.n)
theorem Parts.env {s : Shp} {ents : List Ent} {as : List AEnt} (h : Parts P G l s ents as) {W : World} (hgs : s.tags.length < 1000 ∧ ∀ g ∈ s.tags, g < 16) {xa xb : List Value} {da db : List Da} (ha : Dat W s xa da) (hb : Dat W s xb db) (hK : Knows G l W) :
    @EnvOk (thOf (rhoS xa xb (slD as da db)) W) P G W (envOr (envEnts ents) (envAs s.tags as)) := by
  letI := thOf (rhoS xa xb (slD as da db)) W
  refine envOr_ok (envEnts_same hgs.1 ha hb hK fun e he => ?_) (envAs_ok hgs ha hb hK fun a ha => ?_)
  · obtain ⟨i, el, h1, h2, h3, h4, h5⟩ := h.e e he
    exact ⟨i, el, h1, h2, h3, by unfold slD; rw [h4]; simp, h5⟩
  · obtain ⟨h1, h2, h3⟩ := h.a a ha
    exact ⟨h1, h3, by unfold slD; rw [h2]⟩
/-- STRUCTS WITHOUT LOOPS -/
theorem structSame (hN : NoGo P) (hM : P.follows .mixedOrders = true) {f : FuncId} {s : Shp} {items : List It} {ents : List Ent} {as : List AEnt} {zi : Option Nat} {n : Nat}
    (hc : chk (runF P G (fun _ => envOr (envEnts ents) (envAs s.tags as)) [] n l f #[.agg ⟨letR s.tags 1000⟩, .agg ⟨letR s.tags 2000⟩]) (eq3 1000 2000 3000 (endV zi) items) [] = true) (hit : items.all (itOk s.tags) = true) (hgs : s.tags.length < 1000 ∧ ∀ g ∈ s.tags, g < 16) (hs : s.good = true)
    (hcov : covers s.tags.length items as zi [] = true) (hp : Parts P G l s ents as) : StructSame P G l f s := by
  intro w xa xb da db hK ha hb
  refine (structEq0 hN hM hc hit hgs ha.tags hb.tags (slD as da db) (hp.env hgs ha hb hK) hK).mono ?_
  rintro X w' ⟨q, rfl, h1, h2⟩
  refine ⟨q, rfl, h1.trans ?_, h2⟩
  rw [same_iff hs hit hcov ha hb]
  simp
/-- STRUCTS WITH LOOPS: the cells ls are compared by loops, behind the tests -/
theorem loopSame (hN : NoGo P) (hM : P.follows .mixedOrders = true) {f : FuncId} {fn : Func} {c : Code} {np : Nat} {s : Shp} {items : List It} {ls : List Nat} {ents : List Ent} {as : List AEnt} {m : AM} {t tB : Tr} (hf : P.funcs[f]? = some fn) (hb : fn.body = some c)
    (hpre : chkP (fun F => runL P G (fun _ => envOr (envEnts ents) (envAs s.tags as)) [] 400 fn.ntmps F ((flat c).take np) (argsT fn.ntmps 0 [.agg ⟨letR s.tags 1000⟩, .agg ⟨letR s.tags 2000⟩] (.leaf undef)) ⟨G, l⟩) 4000 G fn.ntmps [⟨.normal, t, m⟩, ⟨.ret, tB, m⟩] (eqTo 1000 2000 3000 (lensTo ls) (.o 1 []) items) [] = true)
    (hB : resL P fn.ntmps tB m fn.results.toList = some [.bool false]) (hsz : (Nat.ble fn.ntmps 512 && Nat.ble 2 fn.ntmps) = true) (hit : items.all (itOk s.tags) = true) (hls : ls.all (fun i => s.tags[i]? == some 10 && (s.elem i).isSome) = true) (hgs : s.tags.length < 1000 ∧ ∀ g ∈ s.tags, g < 16) (hs : s.good = true)
    (hcov : covers s.tags.length items as none ls = true) (hp : Parts P G l s ents as)
    (hrest : ∀ W xa xb da db, Knows G l W → Dat W s xa da → Dat W s xb db → (∀ i ∈ ls, lenOf ((xa[i]?).getD undef) = lenOf ((xb[i]?).getD undef)) → Tail P G W fn m (rhoS xa xb (slD as da db)) true ((flat c).drop np) t (∀ i ∈ ls, da[i]? = db[i]?)) : StructSame P G l f s := by
  intro w xa xb da db hK ha hb'
  have hiff := same_iff hs hit hcov ha hb'
  have hls' : ∀ i ∈ ls, ∃ e, s.tags[i]? = some 10 ∧ s.elem i = some e := fun i hi => by
    have := List.all_eq_true.1 hls i hi
    rw [Bool.and_eq_true] at this
    obtain ⟨e, he⟩ := Option.isSome_iff_exists.1 this.2
    exact ⟨e, by simpa using this.1, he⟩
  refine cmpFn hN hM hf hb hpre hB hsz hit (List.all_eq_true.2 fun i hi => by
    have := List.all_eq_true.1 hls i hi
    rw [Bool.and_eq_true] at this
    exact this.1) hgs ha.tags hb'.tags (slD as da db) (hp.env hgs ha hb' hK) hK (A := da = db) (fun h => ⟨(hiff.1 h).1.1, fun i hi => ?_⟩) fun h1 h2 => ?_
  · obtain ⟨e, g1, g2⟩ := hls' i hi
    obtain ⟨va, a1, -, -, a4⟩ := ha.get i 10 g1
    obtain ⟨vb, b1, -, -, b4⟩ := hb'.get i 10 g1
    obtain ⟨-, ra, a5, ⟨rowa, ⟨pa, ca, rfl, -⟩, a7, -⟩⟩ := a4 e g2
    obtain ⟨-, rb, b5, ⟨rowb, ⟨pb, cb, rfl, -⟩, b7, -⟩⟩ := b4 e g2
    have := (hiff.1 h).2 i hi
    rw [a5, b5] at this
    injection this with this
    injection this with this
    rw [a1, b1]
    show rowa.length = rowb.length
    rw [a7, b7, this]
  · have e : (da = db) = (∀ i ∈ ls, da[i]? = db[i]?) := propext ⟨fun h => (hiff.1 h).2, fun h => hiff.2 ⟨⟨h1, trivial⟩, h⟩⟩
    rw [e]
    exact hrest w xa xb da db hK ha hb' h2
/-- a loop over one of the cells -/
theorem flatLoop (hN : NoGo P) (hM : P.follows .mixedOrders = true) {W : World} {nt : Nat} {cl : Code} {t tE tB : Tr} {m : AM} {ng : Bool} {i : Nat} {s e : Shp} (hck : WalkCk P G nt 4000 2 40 cl t tE tB m .ret noE noE (MRw (1000 + i) (2000 + i) e.tags) (FRw (1000 + i) (2000 + i)) (FeRw (1000 + i)) (bodR ng e.tags))
    (hi : i < 1000 ∧ s.tags[i]? = some 10 ∧ s.elem i = some e) (hng : ng = true → ∃ g, e.tags = [g] ∧ g ≠ 8) (hgs : e.tags.length < 1000 ∧ ∀ g ∈ e.tags, g ≤ 9) (hfl : e.flat = true) {xa xb : List Value} {da db : List Da} (ha : Dat W s xa da) (hb : Dat W s xb db) {sl : Nat → Prop} (hlen : lenOf ((xa[i]?).getD undef) = lenOf ((xb[i]?).getD undef)) :
    LoopOk P G W nt m (rhoS xa xb sl) cl t tE tB (da[i]? = db[i]?) := by
  obtain ⟨i1, i2, i3⟩ := hi
  obtain ⟨va, a1, -, -, a4⟩ := ha.get i 10 i2
  obtain ⟨vb, b1, -, -, b4⟩ := hb.get i 10 i2
  obtain ⟨-, ra, a5, ⟨rowa, a6, a7, a8⟩⟩ := a4 e i3
  obtain ⟨-, rb, b5, ⟨rowb, b6, b7, b8⟩⟩ := b4 e i3
  have ea : rhoS xa xb sl (1000 + i) = va := by rw [rhoS_a i1, a1]; rfl
  have eb : rhoS xa xb sl (2000 + i) = vb := by rw [rhoS_b i1, b1]; rfl
  have hl : rowa.length = rowb.length := by
    obtain ⟨pa, ca, rfl, -⟩ := id a6
    obtain ⟨pb, cb, rfl, -⟩ := id b6
    rw [a1, b1] at hlen
    exact hlen
  have := walkFlat hN hM hck ⟨by omega, by omega, by omega, by omega⟩ hng hgs (ρ1 := rhoS xa xb sl) (ra := rowa) (rb := rowb) (by rw [ea]; exact a6) (by rw [eb]; exact b6) hl
  have e : (∀ k, k < rowa.length → rowa[k]? = rowb[k]?) ↔ da[i]? = db[i]? := by
    have k := SlD.flat hfl a7 a8 b7 b8
    rw [a5, b5]
    simp only [Option.some.injEq, Da.l.injEq]
    rw [← k.1]
    constructor
    · intro h
      apply List.ext_getElem?
      intro j
      by_cases hj : j < rowa.length
      · exact h j hj
      · rw [List.getElem?_eq_none (by omega), List.getElem?_eq_none (by omega)]
    · intro h j _
      rw [h]
  rw [← propext e]
  exact this
theorem callLoop (hN : NoGo P) (hM : P.follows .mixedOrders = true) {W : World} {nt : Nat} {cl : Code} {t tE tB : Tr} {m : AM} {g : FuncId} {i : Nat} {s e : Shp} (hck : WalkCk P G nt 4000 2 40 cl t tE tB m .ret (fun _ => envAgB g e.tags 4000 5000 6000) noE (MRw (1000 + i) (2000 + i) e.tags) (FRw (1000 + i) (2000 + i)) (FeRw (1000 + i)) bodC)
    (hi : i < 1000 ∧ s.tags[i]? = some 10 ∧ s.elem i = some e) (hgs : e.tags.length < 1000 ∧ ∀ g ∈ e.tags, g ≤ 11) (hg : StructSame P G l g e) (hK : Knows G l W) {xa xb : List Value} {da db : List Da} (ha : Dat W s xa da) (hb : Dat W s xb db) {sl : Nat → Prop} (hlen : lenOf ((xa[i]?).getD undef) = lenOf ((xb[i]?).getD undef)) :
    LoopOk P G W nt m (rhoS xa xb sl) cl t tE tB (da[i]? = db[i]?) := by
  obtain ⟨i1, i2, i3⟩ := hi
  obtain ⟨va, a1, -, -, a4⟩ := ha.get i 10 i2
  obtain ⟨vb, b1, -, -, b4⟩ := hb.get i 10 i2
  obtain ⟨-, ra, a5, ⟨rowa, a6, a7, a8⟩⟩ := a4 e i3
  obtain ⟨-, rb, b5, ⟨rowb, b6, b7, b8⟩⟩ := b4 e i3
  have ea : rhoS xa xb sl (1000 + i) = va := by rw [rhoS_a i1, a1]; rfl
  have eb : rhoS xa xb sl (2000 + i) = vb := by rw [rhoS_b i1, b1]; rfl
  have hl : rowa.length = rowb.length := by
    obtain ⟨pa, ca, rfl, -⟩ := id a6
    obtain ⟨pb, cb, rfl, -⟩ := id b6
    rw [a1, b1] at hlen
    exact hlen
  have := walkCall hN hM hck ⟨by omega, by omega, by omega, by omega⟩ hgs (ρ1 := rhoS xa xb sl) (ra := rowa) (rb := rowb) (by rw [ea]; exact a6) (by rw [eb]; exact b6) hl (fun k => ra[k]? = rb[k]?) fun k x y hx hy w hw => by
    obtain ⟨r, g1, g2⟩ := a8 k x hx
    obtain ⟨r', g3, g4⟩ := b8 k y hy
    refine (hg w x y r r' (hK.on hw) (g2.below hw) (g4.below hw)).mono ?_
    rintro X w' ⟨q, rfl, h1, h2⟩
    exact ⟨q, rfl, h1.trans (by rw [g1, g3]; simp), h2⟩
  have e : (∀ k, k < rowa.length → ra[k]? = rb[k]?) ↔ da[i]? = db[i]? := by
    rw [a5, b5]
    simp only [Option.some.injEq, Da.l.injEq]
    constructor
    · intro h
      apply List.ext_getElem?
      intro j
      by_cases hj : j < rowa.length
      · exact h j hj
      · rw [List.getElem?_eq_none (by omega), List.getElem?_eq_none (by omega)]
    · intro h j _
      rw [h]
  rw [← propext e]
  exact this
end
end Go.Sx
