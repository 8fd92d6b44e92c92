/-
  RUNS RECKONED AHEAD, part seven: a region that draws its order. By an AI agent.
-/
import Derived.Test.YtpejbfdmiinokaaSyF
import Derived.OrdersHeld
namespace Go.Sx
variable [Th] [Fx]
section
variable {P : Program} {G : Nat} {W : World}
omit [Fx] in
theorem V0.one {r : List Nat} {u v v' : Value} (hf : fixB u = true) (h : V0 r u v) (k : V0 r u v') : v' = v := by
  have A : ∀ {a b c : Addr}, AR r a b → AR r a c → c = b := by
    intro a b c h k
    obtain ⟨h1, h2, h3⟩ := h
    obtain ⟨k1, k2, k3⟩ := k
    rw [h1] at k1
    injection k1 with k1
    cases b; cases c
    simp_all
  unfold V0 at h k
  split at h
  · obtain ⟨b, rfl, hb⟩ := h
    obtain ⟨c, rfl, hc⟩ := k
    rw [A hb hc]
  · obtain ⟨b, b', rfl, hb, h2⟩ := h
    obtain ⟨c, c', rfl, hc, k2⟩ := k
    rw [A (hb.ar (fixB_or hf)) (hc.ar (fixB_or hf)), h2.one k2]
  · exact k.trans h.symm
  · have hd := h.1
    split at k
    · simp [dry] at hd
    · simp [dry] at hd
    · simp [dry] at hd
    · rw [h.2, k.2]
omit [Th] [Fx] in
theorem All.one {R : Value → Value → Prop} (hR : ∀ u v w, R u v → R u w → w = v) {xs ys zs : Array Value} (h : All R xs ys) (k : All R xs zs) : zs = ys := by
  apply Array.ext (k.1.symm.trans h.1)
  intro i hi hj
  have hx : i < xs.size := h.1 ▸ hj
  exact hR _ _ _ (h.2 i _ _ (Array.getElem?_eq_getElem hx) (Array.getElem?_eq_getElem hj)) (k.2 i _ _ (Array.getElem?_eq_getElem hx) (Array.getElem?_eq_getElem hi))
omit [Fx] in
theorem V1.one {r : List Nat} {u v v' : Value} (hn : ∀ f a b, u ≠ .func f a b) (hf : fixB u = true) (h : V1 r u v) (k : V1 r u v') : v' = v := by
  unfold V1 at h k
  split at h
  · exact absurd rfl (hn _ _ _)
  · split at k
    · exact absurd rfl (hn _ _ _)
    · exact V0.one hf h k

/-- a cell that was looked at -/
structure Fact where
  i : Nat
  o : Nat
  v : Value
def look (P : Program) {α : Type} : Sem α → AM → Option (α × List Fact)
  | .pure a, _ => some (a, [])
  | .load _ a k, m => match a.spot, find m.bs a.block with
    | none, some x => match x.c[a.off]? with
      | some v => fV v fun v => match look P (k v) m with
        | some (y, F) => some (y, ⟨a.block, a.off, v⟩ :: F)
        | none => none
      | none => none
    | _, _ => none
  | .program k, m => look P (k P) m
  | .mark _ k, m => look P k m
  | _, _ => none
structure Real where
  a : Addr
  v : Value
def FR (r : List Nat) (x : Fact) (y : Real) : Prop := ∃ b, r[x.i]? = some b ∧ y.a = ⟨b, x.o, none⟩ ∧ V1 r x.v y.v
def Told (r : List Nat) (F : List Fact) (Z : List Real) : Prop := ∀ y ∈ Z, ∃ x ∈ F, FR r x y
def Holds (Z : List Real) (w : World) : Prop := ∀ y ∈ Z, w.cell? y.a = some y.v
/-- and of the first world nothing has turned -/
def HoldsL (Z : List Real) (w : World) : Prop := Low w ∧ Holds Z w
omit [Fx] in
theorem Told.ext {r s : List Nat} (h : Ext r s) {F : List Fact} {Z : List Real} (k : Told r F Z) : Told s F Z := fun y hy => by
  obtain ⟨x, hx, b, h1, h2, h3⟩ := k y hy
  exact ⟨x, hx, b, h.get h1, h2, h3.ext h⟩
omit [Fx] in
theorem look_sound {α β : Type} {RA : List Nat → α → β → Prop} : ∀ (s : Sem α) (t : Sem β) (r : List Nat) (m : AM) (w : World) (x : α) (F : List Fact), SR P RA r s t → look P s m = some (x, F) → Wd P G W r m w →
    ∃ y Z, RA r x y ∧ Told r F Z ∧ Holds Z w ∧ ∀ W, Holds Z W → t.run P W = .ok y W := by
  intro s
  induction s with
  | pure a =>
    intro t r m w x F h e hw
    obtain ⟨b, rfl, hb⟩ := h
    simp only [look, Option.some.injEq, Prod.mk.injEq] at e
    obtain ⟨rfl, rfl⟩ := e
    exact ⟨b, [], hb, fun y hy => by simp at hy, fun y hy => by simp at hy, fun W _ => rfl⟩
  | load q a k ih =>
    intro t r m w x F h e hw
    obtain ⟨a', k', rfl, ha, hk⟩ := h
    simp only [look, fV_eq] at e
    split at e
    · rename_i y h1 h2
      split at e
      · rename_i v hv
        split at e
        · rename_i z F' hz
          injection e with e
          injection e with e1 e2
          subst e1 e2
          obtain ⟨b, c', g1, g2, g3, g4⟩ := hw.at_ _ _ h2
          have hlt : a.off < c'.size := Nat.lt_of_lt_of_le (Array.getElem?_eq_some_iff.1 hv).1 g4.1
          have hvr := g4.2.2.2 a.off v _ hv (Array.getElem?_eq_getElem hlt)
          have hb := ha.1
          rw [g1] at hb
          injection hb with hb
          have ea : a' = ⟨b, a.off, none⟩ := by
            obtain ⟨a1, a2, a3⟩ := a'
            simp only [AR] at ha
            simp only at hb
            rw [← hb, ha.2.1, ha.2.2, h1]
          subst ea
          have hc : w.cell? ⟨b, a.off, none⟩ = some c'[a.off] := by
            unfold World.cell?
            rw [g3]
            simp [hlt]
          obtain ⟨y, Z, e1, e2, e3, e4⟩ := ih v (k' c'[a.off]) r m w z F' (hk _ _ hvr) hz hw
          refine ⟨y, ⟨⟨b, a.off, none⟩, c'[a.off]⟩ :: Z, e1, fun y hy => ?_, fun y hy => ?_, fun W hW => ?_⟩
          · rcases List.mem_cons.1 hy with rfl | hy
            · exact ⟨_, List.mem_cons_self, b, g1, rfl, hvr⟩
            · obtain ⟨x, hx, hxy⟩ := e2 y hy
              exact ⟨x, List.mem_cons_of_mem _ hx, hxy⟩
          · rcases List.mem_cons.1 hy with rfl | hy
            · exact hc
            · exact e3 y hy
          · have h0 := hW _ List.mem_cons_self
            simp only at h0
            simp only [Sem.run, h0]
            exact e4 W fun y hy => hW y (List.mem_cons_of_mem _ hy)
        · cases e
      · cases e
    · cases e
  | program k ih =>
    intro t r m w x F h e hw
    obtain ⟨k', rfl, hk⟩ := h
    simp only [look] at e
    obtain ⟨y, Z, e1, e2, e3, e4⟩ := ih P _ r m w x F hk e hw
    exact ⟨y, Z, e1, e2, e3, fun W hW => by simp only [Sem.run]; exact e4 W hW⟩
  | mark q k ih =>
    intro t r m w x F h e hw
    obtain ⟨q', k', rfl, hk⟩ := h
    simp only [look] at e
    obtain ⟨y, Z, e1, e2, e3, e4⟩ := ih _ r m w x F hk e hw
    exact ⟨y, Z, e1, e2, e3, fun W hW => by simp only [Sem.run]; exact e4 W hW⟩
  | _ => intro t r m w x F h e; simp [look] at e

def aeq (a b : Addr) : Bool := Nat.beq a.block b.block && Nat.beq a.off b.off && a.spot.isNone && b.spot.isNone
omit [Th] [Fx] in
theorem aeq_eq {a b : Addr} (h : aeq a b = true) : a = b := by
  obtain ⟨a1, a2, a3⟩ := a
  obtain ⟨b1, b2, b3⟩ := b
  simp only [aeq, Bool.and_eq_true] at h
  obtain ⟨⟨⟨h1, h2⟩, h3⟩, h4⟩ := h
  rw [Nat.eq_of_beq_eq_true h1, Nat.eq_of_beq_eq_true h2, Option.isNone_iff_eq_none.1 h3, Option.isNone_iff_eq_none.1 h4]
def veq : Value → Value → Bool
  | .bool a, .bool b => a == b
  | .int j a, .int k b => decide (j = k) && decide (a = b)
  | .string a, .string b => decide (a = b)
  | .pointer none, .pointer none => true
  | .pointer (some a), .pointer (some b) => aeq a b
  | .slice none n c, .slice none n' c' => Nat.beq n n' && Nat.beq c c'
  | .slice (some a) n c, .slice (some b) n' c' => aeq a b && Nat.beq n n' && Nat.beq c c' && fixB (.slice (some a) n c)
  | .nilFunc, .nilFunc => true
  | .nilIface, .nilIface => true
  | .iface c u, .iface d v => teq 40 (.iface c u) (.iface d v)
  | _, _ => false
omit [Th] [Fx] in
theorem veq_eq {u v : Value} (h : veq u v = true) : u = v := by
  unfold veq at h
  split at h <;> try simp only [Bool.and_eq_true, decide_eq_true_eq, beq_iff_eq, Bool.false_eq_true] at h
  · rw [h]
  · rw [h.1, h.2]
  · rw [h]
  · rfl
  · rw [aeq_eq h]
  · rw [Nat.eq_of_beq_eq_true h.1, Nat.eq_of_beq_eq_true h.2]
  · rw [aeq_eq h.1.1.1, Nat.eq_of_beq_eq_true h.1.1.2, Nat.eq_of_beq_eq_true h.1.2]
  · rfl
  · rfl
  · exact teq_eq _ _ _ h
omit [Th] [Fx] in
theorem veq_fix {u v : Value} (h : veq u v = true) : (∀ f a b, u ≠ .func f a b) ∧ fixB u = true := by
  unfold veq at h
  split at h <;> first | (cases h; done) | refine ⟨fun f a b e => (by cases e), ?_⟩ <;> first | rfl | (rw [Bool.and_eq_true] at h; exact h.2)
def stays (m : AM) (x : Fact) : Bool := match find m.bs x.i with
  | some y => match y.c[x.o]? with
    | some u => veq u x.v
    | none => false
  | none => false
omit [Fx] in
theorem stays_holds {r s : List Nat} {m : AM} {w : World} {F : List Fact} {Z : List Real} (h : Told r F Z) (he : Ext r s) (hw : Wd P G W s m w) (k : F.all (stays m) = true) : Holds Z w := fun y hy => by
  obtain ⟨x, hx, b, h1, h2, h3⟩ := h y hy
  have hs := List.all_eq_true.1 k x hx
  unfold stays at hs
  split at hs
  · rename_i z hz
    split at hs
    · rename_i u hu
      have e := veq_eq hs
      obtain ⟨hnf, hfx⟩ := veq_fix hs
      subst e
      obtain ⟨b', c', g1, g2, g3, g4⟩ := hw.at_ _ _ hz
      rw [he.get h1] at g1
      injection g1 with g1
      subst g1
      have hlt : x.o < c'.size := Nat.lt_of_lt_of_le (Array.getElem?_eq_some_iff.1 hu).1 g4.1
      have hvr := g4.2.2.2 x.o _ _ hu (Array.getElem?_eq_getElem hlt)
      rw [h2, hvr.one hnf hfx (h3.ext he)]
      unfold World.cell?
      rw [g3]
      simp [hlt]
    · cases hs
  · cases hs

omit [Th] [Fx] in
theorem look_bind {α β : Type} {f : α → Sem β} : ∀ (s : Sem α) (m : AM), look P (s.bind f) m = match look P s m with
    | some (x, F) => match look P (f x) m with
      | some (y, F') => some (y, F ++ F')
      | none => none
    | none => none := by
  intro s
  induction s with
  | pure a =>
    intro m
    simp only [Sem.bind, look]
    cases look P (f a) m <;> rfl
  | load q a k ih =>
    intro m
    simp only [Sem.bind, look, fV_eq]
    split
    · split
      · rename_i v hv
        rw [ih v m]
        cases look P (k v) m with
        | none => rfl
        | some z =>
          obtain ⟨x, F⟩ := z
          simp only
          cases look P (f x) m <;> rfl
      · rfl
    · rfl
  | program k ih => intro m; simp only [Sem.bind, look]; exact ih _ _
  | mark t k ih => intro m; simp only [Sem.bind, look]; exact ih _
  | store => intro m; simp [Sem.bind, look]
  | new => intro m; simp [Sem.bind, look]
  | shape => intro m; simp [Sem.bind, look]
  | frozen => intro m; simp [Sem.bind, look]
  | freeze => intro m; simp [Sem.bind, look]
  | getObj => intro m; simp [Sem.bind, look]
  | setObj => intro m; simp [Sem.bind, look]
  | choose => intro m; simp [Sem.bind, look]
  | sys => intro m; simp [Sem.bind, look]
  | halt => intro m; simp [Sem.bind, look]
omit [Th] [Fx] in
theorem look_pre {α β : Type} {s : Sem α} {f : α → Sem β} {m : AM} {x : α} (h : look P s m = some (x, [])) : look P (s >>= f) m = look P (f x) m := by
  show look P (s.bind f) m = _
  rw [look_bind, h]
  simp only
  cases look P (f x) m <;> rfl
omit [Th] [Fx] in
theorem look_underlying {t : TypeId} {d : TypeDesc} (h : P.underlying t = some d) (m : AM) : look P (underlying t) m = some (d, []) := by
  show look P (match P.underlying t with | some d => pure d | none => stuck "no such type") m = _
  rw [h]
  rfl
omit [Th] [Fx] in
theorem look_sizeOf {t : TypeId} {i : TypeInfo} (h : P.info? t = some i) (m : AM) : look P (sizeOf t) m = some (i.size, []) := by
  show look P ((match P.info? t with | some d => pure d | none => stuck "no such type") >>= fun i => pure i.size) m = _
  rw [h]
  rfl
omit [Th] [Fx] in
theorem look_isAgg {T : TypeId} {n : Option Nat} (h : rowN P T = some n) (m : AM) : look P (isAgg T) m = some (n.isSome, []) ∧ ∀ k, n = some k → look P (sizeOf T) m = some (k, []) := by
  unfold rowN at h
  split at h
  · rename_i d i hd hi
    have hs := look_sizeOf hi m
    unfold isAgg
    rw [look_pre (look_underlying hd m)]
    cases d <;> simp only at h <;> injection h with h <;> subst h <;> refine ⟨rfl, fun k hk => ?_⟩ <;> first
      | (injection hk with hk; subst hk; exact hs)
      | cases hk
  · cases h
def factsOf (b : Nat) : Nat → List Value → List Fact
  | _, [] => []
  | o, v :: l => ⟨b, o, v⟩ :: factsOf b (o + 1) l
omit [Th] [Fx] in
theorem look_load {α : Type} {a : Addr} {m : AM} {x : Bk} {v : Value} {k : Value → Sem α} (hs : a.spot = none) (hx : find m.bs a.block = some x) (hv : x.c[a.off]? = some v) :
    look P (load a >>= k) m = match look P (k v) m with
      | some (y, F) => some (y, ⟨a.block, a.off, v⟩ :: F)
      | none => none := by
  show look P (Sem.load .plain a k) m = _
  simp only [look, fV_eq, hs, hx, hv]
omit [Th] [Fx] in
theorem look_loadCellsFrom {a : Addr} {m : AM} {x : Bk} (hs : a.spot = none) (hx : find m.bs a.block = some x) : ∀ (n i : Nat) (acc : Array Value), ((x.c.toList.drop (a.off + i)).take n).length = n →
    look P (loadCellsFrom a i n acc) m = some (acc ++ ((x.c.toList.drop (a.off + i)).take n).toArray, factsOf a.block (a.off + i) ((x.c.toList.drop (a.off + i)).take n))
  | 0, i, acc, _ => by simp [loadCellsFrom, look, factsOf, pure]
  | n + 1, i, acc, h => by
    have hlt : a.off + i < x.c.toList.length := by
      simp at h
      simp
      omega
    rw [List.drop_eq_getElem_cons hlt, List.take_succ_cons] at h ⊢
    obtain ⟨e1, e2, e3⟩ := add_eq a hs i
    unfold loadCellsFrom
    rw [look_load (a := a.add i) e3 (by rw [e1]; exact hx) (v := x.c.toList[a.off + i]) (by rw [e2]; simp at hlt; simp [hlt])]
    rw [look_loadCellsFrom hs hx n (i + 1) _ (by simpa [Nat.add_assoc] using h)]
    simp [Nat.add_assoc, factsOf, e1, e2]
/-- a load that only looks, by a short way -/
def qLd (P : Program) (a : Operand → Value) (m : AM) : Op → Option (Value × List Fact)
  | .load T x => match a x with
    | .pointer (some p) => match p.spot, find m.bs p.block with
      | none, some b => match rowN P T with
        | some none => match nthV b.c.toList p.off with
          | some v => some (v, [⟨p.block, p.off, v⟩])
          | none => none
        | some (some n) => match Nat.beq ((b.c.toList.drop p.off).take n).length n with
          | true => some (.agg ((b.c.toList.drop p.off).take n).toArray, factsOf p.block p.off ((b.c.toList.drop p.off).take n))
          | false => none
        | none => none
      | _, _ => none
    | _ => none
  | _ => none
omit [Th] [Fx] in
theorem qLd_spec {a : Operand → Value} {m : AM} {o : Oper} {v : Value} {F : List Fact} (h : qLd P a m o.op = some (v, F)) : look P (execOp a o) m = some (.value v, F) := by
  obtain ⟨dst, op, type, pos, after, guard⟩ := o
  simp only at h ⊢
  unfold qLd at h
  split at h
  · rename_i T x
    split at h
    · rename_i p hp
      simp only [execOp, hp]
      show look P ((loadVar T p).bind fun q => Sem.pure (Next.value q)) m = _
      rw [look_bind]
      split at h
      · rename_i b hs hb
        split at h
        · rename_i ht
          split at h
          · rename_i u hu
            injection h with h
            injection h with h1 h2
            subst h1 h2
            have : look P (loadVar T p) m = some (u, [⟨p.block, p.off, u⟩]) := by
              unfold loadVar
              rw [look_pre (look_isAgg ht m).1]
              show look P (Sem.load .plain p Sem.pure) m = _
              simp only [look, fV_eq, hs, hb]
              rw [nthV_eq] at hu
              rw [show b.c[p.off]? = some u by simpa using hu]
            rw [this]
            rfl
          · cases h
        · rename_i n ht
          split at h
          · rename_i hl
            injection h with h
            injection h with h1 h2
            subst h1 h2
            obtain ⟨g1, g2⟩ := look_isAgg ht m
            have : look P (loadVar T p) m = some (.agg ((b.c.toList.drop p.off).take n).toArray, factsOf p.block p.off ((b.c.toList.drop p.off).take n)) := by
              unfold loadVar
              rw [look_pre g1]
              show look P (sizeOf T >>= fun n => loadCells p n >>= fun c => pure (Value.agg c)) m = _
              rw [look_pre (g2 n rfl)]
              unfold loadCells
              show look P ((loadCellsFrom p 0 n #[]).bind fun c => Sem.pure (Value.agg c)) m = _
              rw [look_bind, look_loadCellsFrom hs hb n 0 #[] (by simpa using Nat.eq_of_beq_eq_true hl)]
              simp [look]
            rw [this]
            simp [look]
          · cases h
        · cases h
      · cases h
    · cases h
  · cases h
omit [Th] [Fx] in
theorem arun_more : ∀ {α : Type} (s : Sem α) (m : AM) (x : α) (m' : AM), arun P s m = some (x, m') → m.n ≤ m'.n := by
  intro α s
  induction s with
  | pure a =>
    intro m x m' h
    simp only [arun, Option.some.injEq, Prod.mk.injEq] at h
    rw [h.2]
    exact Nat.le_refl _
  | load q a k ih =>
    intro m x m' h
    simp only [arun, fV_eq] at h
    split at h
    · split at h
      · exact ih _ _ _ _ h
      · cases h
    · cases h
  | store q a v k ih =>
    intro m x m' h
    simp only [arun, fV_eq, fM_eq] at h
    split at h
    · split at h
      · have := ih _ _ _ h
        exact this
      · cases h
    · cases h
  | new o k ih =>
    intro m x m' h
    cases o <;> simp only [arun, fM_eq, fN_eq] at h <;> try cases h
    exact Nat.le_of_succ_le (ih _ _ _ _ h)
  | shape b k ih =>
    intro m x m' h
    simp only [arun] at h
    split at h
    · split at h
      · exact ih _ _ _ _ h
      · cases h
    · cases h
  | frozen a k ih =>
    intro m x m' h
    simp only [arun] at h
    split at h
    · exact ih _ _ _ _ h
    · cases h
  | program k ih => intro m x m' h; simp only [arun] at h; exact ih _ _ _ _ h
  | mark t k ih => intro m x m' h; simp only [arun] at h; exact ih _ _ _ h
  | freeze => intro m x m' h; simp [arun] at h
  | getObj => intro m x m' h; simp [arun] at h
  | setObj => intro m x m' h; simp [arun] at h
  | choose => intro m x m' h; simp [arun] at h
  | sys => intro m x m' h; simp [arun] at h
  | halt => intro m x m' h; simp [arun] at h
omit [Th] [Fx] in
/-- what answers in an empty memory looks at nothing -/
theorem look_of_empty : ∀ {α : Type} (s : Sem α) (x : α), arun P s ⟨0, []⟩ = some (x, ⟨0, []⟩) → ∀ m, look P s m = some (x, []) := by
  intro α s
  induction s with
  | pure a =>
    intro x h m
    simp only [arun, Option.some.injEq, Prod.mk.injEq, and_true] at h
    rw [h]
    rfl
  | load q a k ih =>
    intro x h m
    simp [arun, find] at h
  | store q a v k ih =>
    intro x h m
    simp [arun, find] at h
  | new o k ih =>
    intro x h m
    cases o <;> simp only [arun, fM_eq, fN_eq] at h <;> try cases h
    have := arun_more _ _ _ _ h
    simp at this
  | shape b k ih => intro x h m; simp [arun, find] at h
  | frozen a k ih => intro x h m; simp [arun, find] at h
  | program k ih => intro x h m; simp only [arun] at h; simp only [look]; exact ih _ _ h m
  | mark t k ih => intro x h m; simp only [arun] at h; simp only [look]; exact ih _ h m
  | freeze => intro x h m; simp [arun] at h
  | getObj => intro x h m; simp [arun] at h
  | setObj => intro x h m; simp [arun] at h
  | choose => intro x h m; simp [arun] at h
  | sys => intro x h m; simp [arun] at h
  | halt => intro x h m; simp [arun] at h
/-- an operation that looks at nothing, by a short way -/
def qFst (P : Program) (a : Operand → Value) (o : Op) : Option Value := match fast P a ⟨0, []⟩ o with
  | some (v, ⟨0, []⟩) => match nt v with
    | true => some v
    | false => none
  | _ => none
omit [Th] [Fx] in
theorem qFst_spec {a : Operand → Value} {o : Oper} {v : Value} (h : qFst P a o.op = some v) (hk : okOp P a o.op = true) (m : AM) : look P (execOp a o) m = some (.value v, []) := by
  unfold qFst at h
  split at h
  · rename_i u hf
    split at h
    · rename_i hn
      injection h with h
      subst h
      rcases fast_spec hf with ⟨-, h1 | ⟨-, h2⟩⟩ | ⟨h1, -⟩
      · exact look_of_empty _ _ h1 m
      · rw [h2] at hn
        cases hn
      · rw [h1] at hk
        cases hk
    · cases h
  · cases h
/-- an operation that only looks: its value, what it looked at -/
def quiet (P : Program) (G : Nat) (a : Operand → Value) (m : AM) (o : Oper) : Option (Value × List Fact) :=
  match o.op.operands.all (opd G) with
  | false => none
  | true => match okOp P a o.op with
    | true => match qLd P a m o.op with
      | some r => some r
      | none => match qFst P a o.op with
        | some v => some (v, [])
        | none => match look P (execOp a o) m with
          | some (.value v, F) => some (v, F)
          | _ => none
    | false => match noSel o.op, o.op.operands.all fun x => still (a x) with
      | true, true => match fast P a m o.op with
        | some (v, _) => match still3 v with
          | true => some (v, [])
          | false => none
        | none => match ans P (execOp a o) with
          | some (.value v) => match still3 v with
            | true => some (v, [])
            | false => none
          | _ => none
      | _, _ => none
omit [Fx] in
theorem quiet_sound {r : List Nat} {a : Operand → Value} {b : Act} {m : AM} {o : Oper} {w : World} {v : Value} {F : List Fact} (e : quiet P G a m o = some (v, F)) (h : EvR G r a b.eval) (hw : Wd P G W r m w) :
    ∃ v' Z, V3 r v v' ∧ Told r F Z ∧ Holds Z w ∧ ∀ w2, Holds Z w2 → (execOp b.eval o).run P w2 = .ok (.value v') w2 := by
  unfold quiet at e
  split at e
  · cases e
  · rename_i ho
    have hv : ∀ x ∈ o.op.operands, V3 r (a x) (b.eval x) := fun x hx => h x (by
      rw [Array.all_eq_true_iff_forall_mem] at ho
      exact ho x hx)
    split at e
    · rename_i hk
      split at e
      · rename_i q hq
        injection e with e
        subst e
        obtain ⟨y, Z, hn, h1, h2, h3⟩ := look_sound _ _ r m w _ _ (sr_exec o a b.eval hv hk) (qLd_spec hq) hw
        obtain ⟨v', rfl, hv'⟩ := hn
        exact ⟨v', Z, hv', h1, h2, h3⟩
      split at e
      · rename_i q hq
        injection e with e
        injection e with e1 e2
        subst e1 e2
        obtain ⟨y, Z, hn, h1, h2, h3⟩ := look_sound _ _ r m w _ _ (sr_exec o a b.eval hv hk) (qFst_spec hq hk m) hw
        obtain ⟨v', rfl, hv'⟩ := hn
        exact ⟨v', Z, hv', h1, h2, h3⟩
      split at e
      · rename_i u F' hl
        injection e with e
        injection e with e1 e2
        subst e1 e2
        obtain ⟨y, Z, hn, h1, h2, h3⟩ := look_sound _ _ r m w _ _ (sr_exec o a b.eval hv hk) hl hw
        obtain ⟨v', rfl, hv'⟩ := hn
        exact ⟨v', Z, hv', h1, h2, h3⟩
      · cases e
    · rename_i hk
      split at e
      · rename_i hs hst
        have fin : ∀ u, ans P (execOp a o) = some (.value u) → still3 u = true → u = v ∧ F = [] → ∃ v' Z, V3 r v v' ∧ Told r F Z ∧ Holds Z w ∧ ∀ w2, Holds Z w2 → (execOp b.eval o).run P w2 = .ok (.value v') w2 := by
          intro u hans h3 ⟨e1, e2⟩
          subst e1 e2
          have : execOp b.eval o = execOp a o := execOp_congr o (fun cs q heq => by rw [heq] at hs; cases hs) fun x hx => still3_eq (hv x hx) (by
            rw [Array.all_eq_true_iff_forall_mem] at hst
            have := hst x hx
            revert this
            cases a x <;> intro h <;> first | exact h | cases h)
          exact ⟨u, [], still3_V3 h3, fun y hy => by simp at hy, fun y hy => by simp at hy, fun w2 _ => by rw [this]; exact ans_run w2 _ _ hans⟩
        split at e
        · rename_i u m2 hf
          split at e
          · rename_i h3
            injection e with e
            injection e with e1 e2
            rcases fast_spec hf with ⟨h1, -⟩ | ⟨-, -, -, h4, -, -⟩
            · rw [h1] at hk
              cases hk
            · exact fin u h4 h3 ⟨e1, e2.symm⟩
          · cases e
        · split at e
          · rename_i u hans
            split at e
            · rename_i h3
              injection e with e
              injection e with e1 e2
              exact fin u hans h3 ⟨e1, e2.symm⟩
            · cases e
          · cases e
      · cases e
/-- an operation that only looks, or one over letters -/
noncomputable def quietT (P : Program) (G : Nat) (a : Operand → Value) (m : AM) (o : Oper) : Option (Value × List Fact) := match quiet P G a m o with
  | some r => some r
  | none => match tokG P G a o.op with
    | some v => some (v, [])
    | none => match tokM P G a o.op with
      | some v => some (v, [])
      | none => quiet P G (fun x => litV Fx.F (a x)) m o
theorem quietT_sound [Ts] [Sat] {r : List Nat} {a : Operand → Value} {b : Act} {m : AM} {o : Oper} {w : World} {v : Value} {F : List Fact} (e : quietT P G a m o = some (v, F)) (h : EvR G r a b.eval) (hw : Wd P G W r m w) :
    ∃ v' Z, V3 r v v' ∧ Told r F Z ∧ HoldsL Z w ∧ ∀ w2, HoldsL Z w2 → (execOp b.eval o).run P w2 = .ok (.value v') w2 := by
  unfold quietT at e
  split at e
  · rename_i q hq
    injection e with e
    subst e
    obtain ⟨v', Z, h1, h2, h3, h4⟩ := quiet_sound hq h hw
    exact ⟨v', Z, h1, h2, ⟨hw.lowT, h3⟩, fun w2 h => h4 w2 h.2⟩
  · split at e
    · rename_i u hu
      injection e with e
      injection e with e1 e2
      subst e1 e2
      obtain ⟨v', h1, h2⟩ := tokG_sound hu h
      exact ⟨v', [], h1, fun y hy => by simp at hy, ⟨hw.lowT, fun y hy => by simp at hy⟩, fun w2 _ => h2 w2⟩
    · split at e
      · rename_i u hu
        injection e with e
        injection e with e1 e2
        subst e1 e2
        obtain ⟨v', h1, h2⟩ := tokM_sound hu h
        exact ⟨v', [], h1, fun y hy => by simp at hy, ⟨hw.lowT, fun y hy => by simp at hy⟩, fun w2 hl => h2 w2 hl.1⟩
      · obtain ⟨v', Z, h1, h2, h3, h4⟩ := quiet_sound e (fun x hx => litV_v3 Sat.ok (h x hx)) hw
        exact ⟨v', Z, h1, h2, ⟨hw.lowT, h3⟩, fun w2 h => h4 w2 h.2⟩
/-- operations that look at most -/
def looks : Op → Bool
  | .alloc _ | .box _ _ | .store _ _ _ | .buildSlice _ _ _ | .makeSlice _ _ _ | .makeMap _ _ | .makeChan _ _ | .insert _ _ _ _ | .mapUpdate _ _ _ _ | .mapEntry _ _ _ | .entryStore _ _ _ _ | .go _ | .defer _ | .panic _ | .send _ _ | .select _ _ | .recv _ _ _ | .range _ _ | .next _ _ => false
  | .call c => match c.callee with
    | .builtin .len => true
    | .builtin .cap => true
    | _ => false
  | _ => true
inductive PStep where
  | q (i : Nat)
  | h (i : Nat)
/-- a set of numbers as a number's bits -/
def mk : List Nat → Nat
  | [] => 0
  | i :: l => Nat.lor (Nat.pow 2 i) (mk l)
omit [Th] [Fx] in
theorem mk_bit (j : Nat) : ∀ l : List Nat, (mk l).testBit j = true ↔ j ∈ l
  | [] => by simp [mk]
  | i :: l => by
    have e : mk (i :: l) = 2 ^ i ||| mk l := rfl
    rw [e, Nat.testBit_or, Bool.or_eq_true, mk_bit j l, Nat.testBit_two_pow, List.mem_cons, decide_eq_true_eq]
    constructor
    · rintro (h | h)
      · exact .inl h.symm
      · exact .inr h
    · rintro (h | h)
      · exact .inl h.symm
      · exact .inr h
/-- what an operation waits for, writes, looks at -/
structure OM where
  i : Nat
  d : Nat
  w : Nat
  r : Nat
  q : Bool
def omOf (ops : Array Oper) (i : Nat) (o : Oper) : OM := ⟨i, mk ((o.after.toList.filter fun e => Region.binds .any e).map (·.on)), mk o.dst.toList, mk (o.looksAt ops), looks o.op⟩
def omsL (ops : Array Oper) : Nat → List Oper → List OM
  | _, [] => []
  | i, o :: l => omOf ops i o :: omsL ops (i + 1) l
omit [Th] [Fx] in
theorem oms_get (ops : Array Oper) : ∀ (l : List Oper) (i j : Nat) o, l[j]? = some o → omOf ops (i + j) o ∈ omsL ops i l
  | [], _, _, _, h => by simp at h
  | x :: l, i, 0, o, h => by
    simp at h
    subst h
    exact List.mem_cons_self
  | x :: l, i, j + 1, o, h => by
    have := oms_get ops l (i + 1) j o (by simpa using h)
    rw [show i + (j + 1) = i + 1 + j by omega]
    exact List.mem_cons_of_mem _ this
omit [Th] [Fx] in
theorem oms_mem (ops : Array Oper) : ∀ (l : List Oper) (i : Nat) x, x ∈ omsL ops i l → ∃ j o, l[j]? = some o ∧ x = omOf ops (i + j) o
  | [], _, _, h => by simp [omsL] at h
  | y :: l, i, x, h => by
    rcases List.mem_cons.1 h with rfl | h
    · exact ⟨0, y, rfl, rfl⟩
    · obtain ⟨j, o, h1, h2⟩ := oms_mem ops l (i + 1) x h
      exact ⟨j + 1, o, by simpa using h1, by rw [h2, show i + 1 + j = i + (j + 1) by omega]⟩
def has (A k : Nat) : Bool := match Nat.beq (Nat.land (Nat.pow 2 k) A) 0 with
  | true => false
  | false => true
omit [Th] [Fx] in
theorem has_bit (A k : Nat) : has A k = A.testBit k := by
  have e : Nat.land (Nat.pow 2 k) A = 2 ^ k &&& A := rfl
  unfold has
  rw [e]
  cases h : A.testBit k with
  | false =>
    have : 2 ^ k &&& A = 0 := by
      apply Nat.eq_of_testBit_eq
      intro j
      rw [Nat.testBit_and, Nat.testBit_two_pow, Nat.zero_testBit]
      by_cases hj : k = j
      · subst hj
        rw [h]
        simp
      · simp [hj]
    rw [this]
  | true =>
    cases hb : Nat.beq (2 ^ k &&& A) 0 with
    | false => rfl
    | true =>
      have h0 := Nat.eq_of_beq_eq_true hb
      have h1 : (2 ^ k &&& A).testBit k = true := by rw [Nat.testBit_and, Nat.testBit_two_pow, h]; simp
      rw [h0] at h1
      simp at h1
omit [Th] [Fx] in
theorem om_d (ops : Array Oper) (j : Nat) (o : Oper) (k : Nat) : (omOf ops j o).d.testBit k = true ↔ ∃ e ∈ o.after, Region.binds .any e = true ∧ e.on = k := by
  show (mk _).testBit k = true ↔ _
  rw [mk_bit, List.mem_map]
  constructor
  · rintro ⟨e, he, rfl⟩
    rw [List.mem_filter] at he
    exact ⟨e, by simpa using he.1, he.2, rfl⟩
  · rintro ⟨e, he, hb, rfl⟩
    exact ⟨e, by rw [List.mem_filter]; exact ⟨by simpa using he, hb⟩, rfl⟩
/-- what is waited for, by way of others too -/
def upA : List OM → Nat → Nat
  | [], A => A
  | x :: l, A => match has A x.i with
    | true => upA l (Nat.lor x.d A)
    | false => upA l A
def depM (ops : Array Oper) (j : Nat) : Nat := match ops[j]? with
  | some o => upA (omsL ops 0 ops.toList).reverse (omOf ops j o).d
  | none => 0
/-- operation j waits for operation i -/
def dep (ops : Array Oper) (j i : Nat) : Bool := has (depM ops j) i
abbrev Held := List (Nat × List Fact)
def still_ (ops : Array Oper) (j : Nat) (F : Held) : Held := F.filter fun p => !dep ops j p.1
abbrev HeldR := List (Nat × List Real)
def Now (S : HeldR) (w : World) : Prop := ∀ p ∈ S, HoldsL p.2 w
def stillR (ops : Array Oper) (j : Nat) (S : HeldR) : HeldR := S.filter fun p => !dep ops j p.1
/-- whatever order is picked from here on; behind each operation what was looked at stays, but for those who waited -/
def wpAnyO (P : Program) (ops : Array Oper) (Q : Exit → Act → World → Prop) : Nat → HeldR → Array Bool → Act → World → Prop
  | 0, _, listed, a, w => Region.ready .any ops listed = [] ∧ Q .normal a w
  | fuel + 1, S, listed, a, w => (Region.ready .any ops listed = [] → Q .normal a w) ∧
    ∀ i ∈ Region.ready .any ops listed, wpOp P ops Q i (fun a' w' => Now (stillR ops i S) w' ∧ wpAnyO P ops Q fuel (stillR ops i S) (listed.setIfInBounds i true) a' w') a w
section
variable {ops : Array Oper} {Q : Exit → Act → World → Prop}
omit [Fx] in
theorem wpAny_of_O : ∀ (fuel : Nat) (S : HeldR) (listed : Array Bool) (a : Act) (w : World), wpAnyO P ops Q fuel S listed a w → wpAny P .any ops Q fuel listed a w
  | 0, _, _, _, _, h => h
  | fuel + 1, _, _, _, _, h => ⟨h.1, fun i hi => wpOp_mono (fun _ _ h' => wpAny_of_O fuel _ _ _ _ h'.2) (h.2 i hi)⟩
omit [Fx] in
theorem wpAnyO_less : ∀ (fuel : Nat) (S S' : HeldR) (listed : Array Bool) (a : Act) (w : World), (∀ p ∈ S', p ∈ S) → wpAnyO P ops Q fuel S listed a w → wpAnyO P ops Q fuel S' listed a w
  | 0, _, _, _, _, _, _, h => h
  | fuel + 1, S, S', listed, a, w, hs, h => ⟨h.1, fun i hi => wpOp_mono (fun a' w' h' => by
      have hs' : ∀ p ∈ stillR ops i S', p ∈ stillR ops i S := fun p hp => by
        unfold stillR at hp ⊢
        rw [List.mem_filter] at hp ⊢
        exact ⟨hs p hp.1, hp.2⟩
      exact ⟨fun p hp => h'.1 p (hs' p hp), wpAnyO_less fuel _ _ _ _ _ hs' h'.2⟩) (h.2 i hi)⟩
/-- what is listed has all that it waits for listed -/
def Closed (ops : Array Oper) (L : Array Bool) : Prop := ∀ (k : Nat) o, L.getD k false = true → ops[k]? = some o → ∀ e ∈ o.after, Region.binds .any e = true → L.getD e.on false = true
omit [Th] [Fx] in
theorem upA_listed {L : Array Bool} (hL : Closed ops L) : ∀ (l : List OM) (A : Nat), (∀ x ∈ l, ∃ o, ops[x.i]? = some o ∧ x = omOf ops x.i o) → (∀ k, A.testBit k = true → L.getD k false = true) → ∀ k, (upA l A).testBit k = true → L.getD k false = true
  | [], _, _, h, k, hk => h k hk
  | x :: l, A, hx, h, k, hk => by
    unfold upA at hk
    split at hk
    · rename_i hh
      rw [has_bit] at hh
      refine upA_listed hL l _ (fun y hy => hx y (List.mem_cons_of_mem _ hy)) (fun q hq => ?_) k hk
      have hq : (x.d ||| A).testBit q = true := hq
      rw [Nat.testBit_or, Bool.or_eq_true] at hq
      rcases hq with hq | hq
      · obtain ⟨o, h1, h2⟩ := hx x List.mem_cons_self
        rw [h2] at hq
        obtain ⟨e, he, hb, rfl⟩ := (om_d ops _ o q).1 hq
        exact hL _ o (h _ hh) h1 e he hb
      · exact h q hq
    · exact upA_listed hL l _ (fun y hy => hx y (List.mem_cons_of_mem _ hy)) h k hk
omit [Th] [Fx] in
theorem dep_listed {L : Array Bool} (hL : Closed ops L) (j i : Nat) (o : Oper) (ho : ops[j]? = some o) (hd : ∀ e ∈ o.after, Region.binds .any e = true → L.getD e.on false = true) (h : dep ops j i = true) : L.getD i false = true := by
  unfold dep depM at h
  rw [has_bit, ho] at h
  refine upA_listed hL _ _ (fun x hx => ?_) (fun k hk => ?_) i h
  · obtain ⟨q, o, h1, h2⟩ := oms_mem ops _ 0 x (List.mem_reverse.1 hx)
    rw [Nat.zero_add] at h2
    have e : x.i = q := by rw [h2]; rfl
    exact ⟨o, by rw [e]; simpa using h1, by rw [e]; exact h2⟩
  · obtain ⟨e, he, hb, rfl⟩ := (om_d ops j o k).1 hk
    exact hd e he hb
omit [Th] [Fx] in
theorem getD_true_false {L : Array Bool} {i : Nat} (h : L.getD i true = false) : L.getD i false = false := by
  rcases Nat.lt_or_ge i L.size with h' | h'
  · simpa [h'] using h
  · simp [Array.getElem?_eq_none h'] at h
omit [Th] [Fx] in
theorem closed_set {L : Array Bool} (hL : Closed ops L) {j : Nat} (hj : j ∈ Region.ready .any ops L) : Closed ops (L.setIfInBounds j true) := by
  intro k o hk ho e he hb
  obtain ⟨_, oj, hoj, hall⟩ := mem_ready.1 hj
  by_cases h : j = k
  · subst h
    rw [hoj] at ho
    injection ho with ho
    subst ho
    exact getD_set_true (hall e he hb)
  · rw [getD_set_ne false h] at hk
    exact getD_set_true (hL k o hk ho e he hb)
omit [Th] [Fx] in
theorem closed_none : Closed ops (Array.replicate ops.size false) := by
  intro k o hk
  rw [Array.getD_eq_getD_getElem?, Array.getElem?_replicate] at hk
  split at hk <;> cases hk
omit [Fx] in
theorem wpAnyO_first {i : Nat} {oi : Oper} {v : Value} {Z : List Real} (hi : ops[i]? = some oi) (hsel : ∀ (j : Nat) (o : Oper) cs b, ops[j]? = some o → o.op ≠ .select cs b)
    (hQ : ∀ c a w, Q (.panic c) (a.put oi.dst v) w → Q (.panic c) a w) :
    ∀ (fuel : Nat) (S : HeldR) (listed : Array Bool) (a : Act) (w : World), Closed ops listed →
      (∀ j oj, ops[j]? = some oj → j ≠ i → listed.getD j true = false → (∀ e ∈ oj.after, Region.binds .any e = true → e.on ≠ i) → oi.apart ops oj = true) →
      i ∈ Region.ready .any ops listed → YieldsIf P ops (HoldsL Z) oi v a → HoldsL Z w → Now S w →
      wpAnyO P ops Q fuel ((i, Z) :: S) (listed.setIfInBounds i true) (a.put oi.dst v) w → wpAnyO P ops Q (fuel + 1) S listed a w := by
  have sub : ∀ (S : HeldR), ∀ p ∈ stillR ops i S, p ∈ (i, Z) :: S := fun S p hp => List.mem_cons_of_mem _ (List.mem_filter.1 hp).1
  intro fuel
  induction fuel with
  | zero =>
    intro S listed a w _ _ hr hy hS hN H
    refine ⟨fun h => (by rw [h] at hr; cases hr), fun j hj => ?_⟩
    by_cases hji : j = i
    · subst hji
      exact hy.wpOp hi hS ⟨fun p hp => hN p (List.mem_filter.1 hp).1, wpAnyO_less _ _ _ _ _ _ (sub S) H⟩
    · have := ready_mono hj hji
      rw [H.1] at this
      cases this
  | succ fuel ih =>
    intro S listed a w hL hfree hr hy hS hN H
    refine ⟨fun h => (by rw [h] at hr; cases hr), fun j hj => ?_⟩
    by_cases hji : j = i
    · subst hji
      exact hy.wpOp hi hS ⟨fun p hp => hN p (List.mem_filter.1 hp).1, wpAnyO_less _ _ _ _ _ _ (sub S) H⟩
    · have h1 := H.2 j (ready_mono hj hji)
      obtain ⟨hjun, oj, hoj, hall⟩ := mem_ready.1 hj
      have hiun := getD_true_false (mem_ready.1 hr).1
      have hnot : ∀ e ∈ oj.after, Region.binds .any e = true → e.on ≠ i := fun e he hb heq => by
        have h1 := hall e he hb
        rw [heq, hiun] at h1
        cases h1
      have hdep : dep ops j i = false := by
        cases hd : dep ops j i with
        | false => rfl
        | true =>
          have := dep_listed hL j i oj hoj hall hd
          rw [hiun] at this
          cases this
      have hst : stillR ops j ((i, Z) :: S) = (i, Z) :: stillR ops j S := by
        unfold stillR
        rw [List.filter_cons_of_pos (by simp [hdep])]
      rw [hst] at h1
      have h2 := wpOp_putIf hoj (hfree j oj hoj hji hjun hnot) (fun cs b => hsel i oi cs b hi) (fun cs b => hsel j oj cs b hoj) hQ hy h1
      have hfree' : ∀ k ok, ops[k]? = some ok → k ≠ i → (listed.setIfInBounds j true).getD k true = false →
          (∀ e ∈ ok.after, Region.binds .any e = true → e.on ≠ i) → oi.apart ops ok = true := fun k ok hk hki hun hno => by
        refine hfree k ok hk hki ?_ hno
        by_cases hjk : j = k
        · subst hjk; exact hjun
        · rw [getD_set_ne true hjk] at hun; exact hun
      refine wpOp_mono (fun a' w' h3 => ?_) h2
      obtain ⟨h4, h5, h6⟩ := h3
      have hG := h5 _ List.mem_cons_self
      have hN' : Now (stillR ops j S) w' := fun p hp => h5 p (List.mem_cons_of_mem _ hp)
      refine ⟨hN', ih (stillR ops j S) (listed.setIfInBounds j true) a' w' (closed_set hL hj) hfree' (ready_mono hr (Ne.symm hji)) h4 hG hN' ?_⟩
      rw [Array.setIfInBounds_comm _ _ hji]
      exact h6
end
/-- what was looked at, and the real cells -/
def ToldH (r : List Nat) (F : Held) (S : HeldR) : Prop := ∀ q ∈ S, ∃ p ∈ F, p.1 = q.1 ∧ Told r p.2 q.2
omit [Fx] in
theorem ToldH.ext {r s : List Nat} (h : Ext r s) {F : Held} {S : HeldR} (k : ToldH r F S) : ToldH s F S := fun q hq => by
  obtain ⟨p, hp, h1, h2⟩ := k q hq
  exact ⟨p, hp, h1, h2.ext h⟩
omit [Fx] in
theorem ToldH.still {r : List Nat} {F : Held} {S : HeldR} (k : ToldH r F S) (ops : Array Oper) (j : Nat) : ToldH r (still_ ops j F) (stillR ops j S) := fun q hq => by
  unfold stillR at hq
  rw [List.mem_filter] at hq
  obtain ⟨p, hp, h1, h2⟩ := k q hq.1
  refine ⟨p, ?_, h1, h2⟩
  unfold still_
  rw [List.mem_filter, h1]
  exact ⟨hp, hq.2⟩

def rdy (L : Nat) (x : OM) : Bool := Nat.beq (Nat.land x.d L) x.d
def apM (x y : OM) : Bool := Nat.beq y.i x.i || (has y.d x.i || (Nat.beq (Nat.land x.w (Nat.lor y.r y.w)) 0 && Nat.beq (Nat.land y.w x.r) 0))
def fstQ (L : Nat) (todo : List OM) : List OM → Option Nat
  | [] => none
  | x :: l => match x.q, rdy L x with
    | true, true => match todo.all (apM x) with
      | true => some x.i
      | false => fstQ L todo l
    | _, _ => fstQ L todo l
/-- the only one that may come up -/
def oneH (L : Nat) : List OM → Option Nat
  | [] => none
  | x :: l => match rdy L x with
    | true => match l.all fun y => !rdy L y with
      | true => some x.i
      | false => none
    | false => oneH L l
def rem (i : Nat) : List OM → List OM
  | [] => []
  | x :: l => match Nat.beq x.i i with
    | true => rem i l
    | false => x :: rem i l
/-- the order in which a region is reckoned -/
def plan : Nat → Nat → List OM → Option (List PStep)
  | _, _, [] => some []
  | 0, _, _ :: _ => none
  | n + 1, L, todo => match fstQ L todo todo with
    | some i => match plan n (Nat.lor (Nat.pow 2 i) L) (rem i todo) with
      | some l => some (.q i :: l)
      | none => none
    | none => match oneH L todo with
      | some i => match plan n (Nat.lor (Nat.pow 2 i) L) (rem i todo) with
        | some l => some (.h i :: l)
        | none => none
      | none => none
noncomputable def evPlan (P : Program) (G : Nat) (call : CallF) (k : Nat) (ops : Array Oper) : List PStep → Held → Tr → AM → Option (Tr × AM)
  | [], _, a, m => some (a, m)
  | .q i :: l, F, a, m => match ops[i]? with
    | some o => match wantT k ops a o with
      | none => none
      | some false => evPlan P G call k ops l ((i, []) :: F) (a.put k o.dst undef) m
      | some true => match quietT P G (a.ev k) m o with
        | some (v, F') => evPlan P G call k ops l ((i, F') :: F) (a.put k o.dst v) m
        | none => none
    | none => none
  | .h i :: l, F, a, m => match ops[i]? with
    | some o => match wantT k ops a o with
      | none => none
      | some false => evPlan P G call k ops l (still_ ops i F) (a.put k o.dst undef) m
      | some true => match evO P k G call a m o with
        | some (v, m') => match (still_ ops i F).all fun p => p.2.all (stays m') with
          | true => evPlan P G call k ops l (still_ ops i F) (a.put k o.dst v) m'
          | false => none
        | none => none
    | none => none
/-- what is left, and what is listed -/
structure Left (ops : Array Oper) (L : Nat) (listed : Array Bool) (todo : List OM) : Prop where
  bit : ∀ j, listed.getD j false = true ↔ L.testBit j = true
  size : listed.size = ops.size
  all_ : ∀ j o, ops[j]? = some o → listed.getD j true = false → omOf ops j o ∈ todo
  only : ∀ x ∈ todo, ∃ o, ops[x.i]? = some o ∧ x = omOf ops x.i o ∧ listed.getD x.i true = false
omit [Th] [Fx] in
theorem rdy_spec {ops : Array Oper} {L : Nat} {listed : Array Bool} {todo : List OM} (h : Left ops L listed todo) (j : Nat) (o : Oper) :
    rdy L (omOf ops j o) = true ↔ ∀ e ∈ o.after, Region.binds .any e = true → listed.getD e.on false = true := by
  have hd : ∀ k, (omOf ops j o).d.testBit k = true ↔ ∃ e ∈ o.after, Region.binds .any e = true ∧ e.on = k := fun k => by
    show (mk _).testBit k = true ↔ _
    rw [mk_bit, List.mem_map]
    constructor
    · rintro ⟨e, he, rfl⟩
      rw [List.mem_filter] at he
      exact ⟨e, by simpa using he.1, he.2, rfl⟩
    · rintro ⟨e, he, hb, rfl⟩
      exact ⟨e, by rw [List.mem_filter]; exact ⟨by simpa using he, hb⟩, rfl⟩
  constructor
  · intro hr e he hb
    have hr := Nat.eq_of_beq_eq_true hr
    have h1 := (hd e.on).2 ⟨e, he, hb, rfl⟩
    have h2 : ((omOf ops j o).d &&& L).testBit e.on = true := by
      show (Nat.land _ _).testBit e.on = true
      rw [hr]
      exact h1
    rw [Nat.testBit_and, Bool.and_eq_true] at h2
    exact (h.bit e.on).2 h2.2
  · intro hall
    show Nat.beq ((omOf ops j o).d &&& L) (omOf ops j o).d = true
    rw [Nat.beq_eq]
    apply Nat.eq_of_testBit_eq
    intro k
    rw [Nat.testBit_and]
    cases hk : (omOf ops j o).d.testBit k with
    | false => rfl
    | true =>
      obtain ⟨e, he, hb, rfl⟩ := (hd k).1 hk
      rw [(h.bit e.on).1 (hall e he hb)]
      rfl
omit [Th] [Fx] in
theorem rem_mem {i : Nat} {x : OM} : ∀ {l : List OM}, x ∈ rem i l ↔ x ∈ l ∧ x.i ≠ i
  | [] => by simp [rem]
  | y :: l => by
    unfold rem
    cases hb : Nat.beq y.i i with
    | true =>
      have e := Nat.eq_of_beq_eq_true hb
      simp only
      rw [rem_mem, List.mem_cons]
      constructor
      · rintro ⟨h1, h2⟩
        exact ⟨.inr h1, h2⟩
      · rintro ⟨rfl | h1, h2⟩
        · exact absurd e h2
        · exact ⟨h1, h2⟩
    | false =>
      have e := Nat.ne_of_beq_eq_false hb
      simp only
      rw [List.mem_cons, rem_mem, List.mem_cons]
      constructor
      · rintro (rfl | ⟨h1, h2⟩)
        · exact ⟨.inl rfl, e⟩
        · exact ⟨.inr h1, h2⟩
      · rintro ⟨rfl | h1, h2⟩
        · exact .inl rfl
        · exact .inr ⟨h1, h2⟩
omit [Th] [Fx] in
theorem Left.next {ops : Array Oper} {L : Nat} {listed : Array Bool} {todo : List OM} (h : Left ops L listed todo) {i : Nat} (hi : i < ops.size) : Left ops (Nat.lor (Nat.pow 2 i) L) (listed.setIfInBounds i true) (rem i todo) := by
  have hi' : i < listed.size := h.size ▸ hi
  refine ⟨fun j => ?_, by simpa using h.size, fun j o ho hun => ?_, fun x hx => ?_⟩
  · have e : Nat.lor (Nat.pow 2 i) L = 2 ^ i ||| L := rfl
    rw [e, Nat.testBit_or, Bool.or_eq_true, Nat.testBit_two_pow, decide_eq_true_eq]
    by_cases hij : i = j
    · subst hij
      simp [hi']
    · rw [getD_set_ne false hij, h.bit j]
      simp [hij]
  · by_cases hij : i = j
    · subst hij
      simp [hi'] at hun
    · rw [getD_set_ne true hij] at hun
      exact rem_mem.2 ⟨h.all_ j o ho hun, fun e => hij e.symm⟩
  · obtain ⟨h1, h2⟩ := rem_mem.1 hx
    obtain ⟨o, k1, k2, k3⟩ := h.only x h1
    exact ⟨o, k1, k2, by rw [getD_set_ne true (fun e => h2 e.symm)]; exact k3⟩
omit [Th] [Fx] in
theorem fstQ_spec {L : Nat} {todo : List OM} : ∀ {l : List OM} {i : Nat}, fstQ L todo l = some i → ∃ x ∈ l, x.i = i ∧ rdy L x = true ∧ todo.all (apM x) = true
  | [], _, h => by cases h
  | x :: l, i, h => by
    unfold fstQ at h
    split at h
    · rename_i hr
      split at h
      · rename_i ha
        injection h with h
        exact ⟨x, List.mem_cons_self, h, hr, ha⟩
      · obtain ⟨y, hy, h2⟩ := fstQ_spec h
        exact ⟨y, List.mem_cons_of_mem _ hy, h2⟩
    · obtain ⟨y, hy, h2⟩ := fstQ_spec h
      exact ⟨y, List.mem_cons_of_mem _ hy, h2⟩
omit [Th] [Fx] in
theorem oneH_spec {L : Nat} : ∀ {l : List OM} {i : Nat}, oneH L l = some i → (∃ x ∈ l, x.i = i ∧ rdy L x = true) ∧ ∀ y ∈ l, rdy L y = true → y.i = i
  | [], _, h => by cases h
  | x :: l, i, h => by
    unfold oneH at h
    split at h
    · rename_i hr
      split at h
      · rename_i ha
        injection h with h
        refine ⟨⟨x, List.mem_cons_self, h, hr⟩, fun y hy hry => ?_⟩
        rcases List.mem_cons.1 hy with rfl | hy
        · exact h
        · have := List.all_eq_true.1 ha y hy
          rw [hry] at this
          cases this
      · cases h
    · rename_i hr
      obtain ⟨⟨y, hy, h2⟩, h3⟩ := oneH_spec h
      refine ⟨⟨y, List.mem_cons_of_mem _ hy, h2⟩, fun z hz hrz => ?_⟩
      rcases List.mem_cons.1 hz with rfl | hz
      · rw [hrz] at hr
        cases hr
      · exact h3 z hz hrz
omit [Th] [Fx] in
theorem land_zero {a b : Nat} (h : Nat.beq (Nat.land a b) 0 = true) (k : Nat) (ha : a.testBit k = true) : b.testBit k = false := by
  have h := Nat.eq_of_beq_eq_true h
  have h2 : (a &&& b).testBit k = false := by
    show (Nat.land a b).testBit k = false
    rw [h]
    simp
  rw [Nat.testBit_and, ha] at h2
  simpa using h2
omit [Th] [Fx] in
theorem apart_of {ops : Array Oper} {i j : Nat} {x y : Oper} (h1 : Nat.beq (Nat.land (omOf ops i x).w (Nat.lor (omOf ops j y).r (omOf ops j y).w)) 0 = true) (h2 : Nat.beq (Nat.land (omOf ops j y).w (omOf ops i x).r) 0 = true) : x.apart ops y = true := by
  have hw : ∀ (o : Oper) (d : Nat), o.dst = some d → (mk o.dst.toList).testBit d = true := fun o d hd => by
    rw [mk_bit, hd]
    simp
  unfold Oper.apart
  rw [Bool.and_eq_true]
  constructor
  · cases hd : x.dst with
    | none => rfl
    | some d =>
      simp only
      have := land_zero h1 d (hw x d hd)
      have e : Nat.lor (omOf ops j y).r (omOf ops j y).w = mk (y.looksAt ops) ||| mk y.dst.toList := rfl
      rw [e, Nat.testBit_or, Bool.or_eq_false_iff] at this
      obtain ⟨k1, k2⟩ := this
      have n1 : d ∉ y.looksAt ops := fun hm => by
        rw [(mk_bit d _).2 hm] at k1
        cases k1
      have n2 : y.dst ≠ some d := fun hm => by
        rw [hw y d hm] at k2
        cases k2
      simp [n1, n2]
  · cases hd : y.dst with
    | none => rfl
    | some d =>
      simp only
      have := land_zero h2 d (hw y d hd)
      have n1 : d ∉ x.looksAt ops := fun hm => by
        have e : (omOf ops i x).r = mk (x.looksAt ops) := rfl
        rw [e, (mk_bit d _).2 hm] at this
        cases this
      simp [n1]
omit [Th] [Fx] in
theorem left_start (ops : Array Oper) : Left ops 0 (Array.replicate ops.size false) (omsL ops 0 ops.toList) := by
  refine ⟨fun j => ?_, by simp, fun j o ho _ => ?_, fun x hx => ?_⟩
  · rw [Array.getD_eq_getD_getElem?, Array.getElem?_replicate]
    split <;> simp
  · have := oms_get ops ops.toList 0 j o (by simpa using ho)
    simpa using this
  · obtain ⟨j, o, h1, h2⟩ := oms_mem ops ops.toList 0 x hx
    have ho : ops[j]? = some o := by simpa using h1
    have e : x.i = j := by
      rw [h2]
      simp [omOf]
    refine ⟨o, by rw [e]; exact ho, by rw [e]; simpa using h2, ?_⟩
    rw [e, Array.getD_eq_getD_getElem?, Array.getElem?_replicate, if_pos (Array.getElem?_eq_some_iff.1 ho).1]
    rfl
theorem evPlan_sound [Ts] [Sat] {call : CallF} (hN : NoGo P) (hC : CallOk P G W call) {k : Nat} {ops : Array Oper} (hsel : Region.noSelect ops = true) {Q : Exit → Act → World → Prop} (hQ : ∀ c a w, ¬ Q (.panic c) a w) :
    ∀ (n : Nat) {L : Nat} {todo : List OM} {listed : Array Bool} {steps : List PStep} {F : Held} {r : List Nat} {a : Tr} {b : Act} {m : AM} {w : World} {a' : Tr} {m' : AM} {S : HeldR}, Left ops L listed todo → plan n L todo = some steps → evPlan P G call k ops steps F a m = some (a', m') → AcT k r a b → Wd P G W r m w → W.heap.size ≤ w.heap.size → Closed ops listed → ToldH r F S → Now S w →
    (∀ r' b' w', AcT k r' a' b' → Wd P G W r' m' w' → Step r m w r' m' w' → Q .normal b' w') → wpAnyO P ops Q n S listed b w := by
  have rdyL : ∀ {L : Nat} {todo : List OM} {listed : Array Bool}, Left ops L listed todo → ∀ {x : OM}, x ∈ todo → rdy L x = true → x.i ∈ Region.ready .any ops listed := by
    intro L todo listed hlf x hx hr
    obtain ⟨o, ho, e, hun⟩ := hlf.only x hx
    rw [e] at hr
    exact mem_ready.2 ⟨hun, o, ho, (rdy_spec hlf x.i o).1 hr⟩
  have done : ∀ {L : Nat} {listed : Array Bool}, Left ops L listed [] → Region.ready .any ops listed = [] := by
    intro L listed hlf
    apply List.eq_nil_iff_forall_not_mem.2
    intro j hj
    obtain ⟨hun, o, ho, _⟩ := mem_ready.1 hj
    have := hlf.all_ j o ho hun
    simp at this
  intro n
  induction n with
  | zero =>
    intro L todo listed steps F r a b m w a' m' S hlf hp e h hw hB hL ht hh q
    cases todo with
    | cons x l => cases hp
    | nil =>
      injection hp with hp
      subst hp
      injection e with e
      injection e with e1 e2
      subst e1 e2
      exact ⟨done hlf, q r b w h hw (Step.refl r m w)⟩
  | succ n ih =>
    intro L todo listed steps F r a b m w a' m' S hlf hp e h hw hB hL ht hh q
    cases todo with
    | nil =>
      injection hp with hp
      subst hp
      injection e with e
      injection e with e1 e2
      subst e1 e2
      exact ⟨fun _ => q r b w h hw (Step.refl r m w), by rw [done hlf]; simp⟩
    | cons x0 l0 =>
      unfold plan at hp
      generalize x0 :: l0 = todo at hlf hp
      split at hp
      · rename_i i hfq
        obtain ⟨x, hx, rfl, hrx, hap⟩ := fstQ_spec hfq
        have hmem := rdyL hlf hx hrx
        obtain ⟨o, ho, hxo, hun⟩ := hlf.only x hx
        have hisz : x.i < ops.size := (Array.getElem?_eq_some_iff.1 ho).1
        have hL2 := closed_set hL hmem
        have hfree : ∀ j oj, ops[j]? = some oj → j ≠ x.i → listed.getD j true = false → (∀ e ∈ oj.after, Region.binds .any e = true → e.on ≠ x.i) → o.apart ops oj = true := by
          intro j oj hj hne hju hno
          have h1 := List.all_eq_true.1 hap _ (hlf.all_ j oj hj hju)
          unfold apM at h1
          rw [Bool.or_eq_true, Bool.or_eq_true, Bool.and_eq_true] at h1
          rcases h1 with h1 | h1 | ⟨h1, h2⟩
          · exact absurd (Nat.eq_of_beq_eq_true h1) hne
          · exfalso
            rw [has_bit] at h1
            have h1 : (mk ((oj.after.toList.filter fun e => Region.binds .any e).map (·.on))).testBit x.i = true := h1
            rw [mk_bit, List.mem_map] at h1
            obtain ⟨e, he, heq⟩ := h1
            rw [List.mem_filter] at he
            exact hno e (by simpa using he.1) he.2 heq
          · rw [hxo] at h1 h2
            exact apart_of h1 h2
        split at hp
        · rename_i l hl
          injection hp with hp
          subst hp
          unfold evPlan at e
          split at e
          · rename_i o2 ho2
            rw [ho] at ho2
            injection ho2 with ho2
            subst ho2
            split at e
            · cases e
            · rename_i hwant
              have hwant := h.want ops o hwant
              refine wpAnyO_first (Z := []) ho (Region.noSelect_spec hsel) (fun c a w q => absurd q (hQ _ _ _)) n S listed b w hL hfree hmem (.inr ⟨hwant, rfl⟩) ⟨hw.lowT, fun y hy => by simp at hy⟩ hh ?_
              refine ih (hlf.next hisz) hl e (h.put _ undef_V3) hw hB hL2 (fun p hq => ?_) (fun p hq => ?_) q
              · rcases List.mem_cons.1 hq with rfl | hq
                · exact ⟨_, List.mem_cons_self, rfl, fun y hy => by simp at hy⟩
                · obtain ⟨p', hp, h1⟩ := ht p hq
                  exact ⟨p', List.mem_cons_of_mem _ hp, h1⟩
              · rcases List.mem_cons.1 hq with rfl | hq
                · exact ⟨hw.lowT, fun y hy => by simp at hy⟩
                · exact hh p hq
            · rename_i hwant
              have hwant := h.want ops o hwant
              split at e
              · rename_i v F' hqt
                obtain ⟨v', Z, hv', ht', hh', hrun⟩ := quietT_sound hqt (h.eval hw.g) hw
                refine wpAnyO_first (Z := Z) ho (Region.noSelect_spec hsel) (fun c a w q => absurd q (hQ _ _ _)) n S listed b w hL hfree hmem (.inl ⟨hwant, hrun⟩) hh' hh ?_
                refine ih (hlf.next hisz) hl e (h.put _ hv') hw hB hL2 (fun p hq => ?_) (fun p hq => ?_) q
                · rcases List.mem_cons.1 hq with rfl | hq
                  · exact ⟨_, List.mem_cons_self, rfl, ht'⟩
                  · obtain ⟨p', hp, h1⟩ := ht p hq
                    exact ⟨p', List.mem_cons_of_mem _ hp, h1⟩
                · rcases List.mem_cons.1 hq with rfl | hq
                  · exact hh'
                  · exact hh p hq
              · cases e
          · cases e
        · cases hp
      · split at hp
        · rename_i i hone
          obtain ⟨⟨x, hx, rfl, hrx⟩, honly⟩ := oneH_spec hone
          have hmem := rdyL hlf hx hrx
          obtain ⟨o0, ho0, hxo, hun⟩ := hlf.only x hx
          have hisz : x.i < ops.size := (Array.getElem?_eq_some_iff.1 ho0).1
          split at hp
          · rename_i l hl
            injection hp with hp
            subst hp
            unfold evPlan at e
            split at e
            · rename_i o ho
              refine ⟨fun h0 => (by rw [h0] at hmem; cases hmem), fun j hj => ?_⟩
              have ej : j = x.i := by
                obtain ⟨hju, oj, hoj, hall⟩ := mem_ready.1 hj
                have h1 := honly _ (hlf.all_ j oj hoj hju) ((rdy_spec hlf j oj).2 hall)
                exact h1
              subst ej
              have hL2 := closed_set hL hj
              unfold wpOp
              rw [ho]
              simp only
              split at e
              · cases e
              · rename_i hwant
                rw [h.want ops o hwant]
                simp only [Bool.false_eq_true, if_false]
                have hnow : Now (stillR ops x.i S) w := fun p hp => hh p (List.mem_filter.1 hp).1
                exact ⟨hnow, ih (hlf.next hisz) hl e (h.put _ undef_V3) hw hB hL2 (ht.still ops x.i) hnow q⟩
              · rename_i hwant
                rw [h.want ops o hwant]
                simp only [if_true]
                split at e
                · rename_i v m1 hev
                  split at e
                  · rename_i hst
                    refine .inl (evO_sound hN hC hev (h.eval hw.g) hw hB fun r' v' w' hv hw' hs => ?_)
                    have hnow : Now (stillR ops x.i S) w' := fun p hp => by
                      obtain ⟨p', hp', _, h2⟩ := (ht.still ops x.i) p hp
                      exact ⟨hw'.lowT, stays_holds h2 hs.ext hw' (List.all_eq_true.1 hst p' hp')⟩
                    refine ⟨hnow, ?_⟩
                    exact ih (hlf.next hisz) hl e ((h.ext hs.ext).put _ hv) hw' (Nat.le_trans hB hs.size) hL2 ((ht.ext hs.ext).still ops x.i) hnow fun r2 b2 w2 h2 hw2 hs2 => q r2 b2 w2 h2 hw2 (hs.trans hs2)
                  · cases e
                · cases e
            · cases e
          · cases hp
        · cases hp
end
end Go.Sx
