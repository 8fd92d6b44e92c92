/-
  RUNS RECKONED AHEAD: append. By an AI agent.
-/
import Derived.Test.YtpejbfdmiinokaaSyE
import Derived.Deep.AppendSrc
import Derived.Laws.AppendOwn
namespace Go.Sx
variable [Th]
open Go.RowKit
section
variable {P : Program} {G : Nat} {W : World}
def del : List Bk → Nat → List Bk
  | [], _ => []
  | x :: l, b => match Nat.beq x.i b with
    | true => del l b
    | false => x :: del l b
omit [Th] in
theorem find_i {l : List Bk} {i : Nat} {x : Bk} (h : find l i = some x) : x.i = i := by
  induction l with
  | nil => cases h
  | cons y l ih =>
    unfold find at h
    cases hi : Nat.beq y.i i with
    | true =>
      rw [hi] at h
      injection h with h
      subst h
      exact Nat.eq_of_beq_eq_true hi
    | false => rw [hi] at h; exact ih h
omit [Th] in
theorem find_del {l : List Bk} {b i : Nat} {x : Bk} (h : find (del l b) i = some x) : find l i = some x ∧ i ≠ b := by
  induction l with
  | nil => cases h
  | cons y l ih =>
    unfold del at h
    unfold find
    cases hb : Nat.beq y.i b with
    | true =>
      rw [hb] at h
      obtain ⟨h1, h2⟩ := ih h
      cases hi : Nat.beq y.i i with
      | true => exact absurd ((Nat.eq_of_beq_eq_true hi).symm.trans (Nat.eq_of_beq_eq_true hb)) h2
      | false => exact ⟨h1, h2⟩
    | false =>
      rw [hb] at h
      unfold find at h
      cases hi : Nat.beq y.i i with
      | true =>
        rw [hi] at h
        have := Nat.eq_of_beq_eq_true hi
        exact ⟨h, fun e => Nat.ne_of_beq_eq_false hb (by omega)⟩
      | false => rw [hi] at h; exact ih h
/-- k cells from an address on -/
def cellsAt (m : AM) (a : Addr) (k : Nat) : Option (List Value) := match a.spot, find m.bs a.block with
  | none, some x => match Nat.beq ((x.c.toList.drop a.off).take k).length k with
    | true => some ((x.c.toList.drop a.off).take k)
    | false => none
  | _, _ => none
theorem V1.one' {r : List Nat} {u v : Value} (h : V1 r u v) : v.oneCell' = true := by
  have := h.notAgg
  cases v <;> first | rfl | exact absurd rfl (this.2.2.1 _) | exact absurd rfl (this.2.2.2 _)
theorem cellsAt_sound {r : List Nat} {m : AM} {w : World} (hw : Wd P G W r m w) {a b : Addr} (h : AR r a b) {k : Nat} {l : List Value} (e : cellsAt m a k = some l) :
    ∃ l' : List Value, All (V1 r) l.toArray l'.toArray ∧ l.length = k ∧ ∀ (j : Nat) v, l'[j]? = some v → w.cell? (b.add j) = some v := by
  unfold cellsAt at e
  split at e
  · rename_i x hsp hx
    split at e
    · rename_i hlen
      injection e with e
      have hlen := Nat.eq_of_beq_eq_true hlen
      rw [e] at hlen
      obtain ⟨b', c', g1, g2, g3, g4⟩ := hw.at_ _ _ hx
      have hb := h.1
      rw [g1] at hb
      injection hb with hb
      have hget : ∀ (j : Nat) v, l[j]? = some v → x.c[a.off + j]? = some v ∧ j < k := by
        intro j v hj
        rw [← e, List.getElem?_take] at hj
        split at hj
        · rw [List.getElem?_drop] at hj
          exact ⟨by simpa using hj, by assumption⟩
        · cases hj
      have hsz : ∀ j, j < k → a.off + j < x.c.size := fun j hj => by
        have : j < l.length := by omega
        exact (Array.getElem?_eq_some_iff.1 (hget j _ (List.getElem?_eq_getElem this)).1).1
      refine ⟨(c'.toList.drop a.off).take k, ⟨?_, fun j u v hu hv => ?_⟩, hlen, fun j v hv => ?_⟩
      · simp
        rw [hlen]
        rcases Nat.eq_zero_or_pos k with h0 | h0
        · omega
        · have h1 := hsz (k - 1) (by omega)
          have h2 := g4.1
          omega
      · have hu' := hget j u (by simpa using hu)
        have hv' : c'[a.off + j]? = some v := by
          have hv : ((c'.toList.drop a.off).take k)[j]? = some v := by simpa using hv
          rw [List.getElem?_take, if_pos hu'.2, List.getElem?_drop] at hv
          simpa using hv
        exact g4.2.2.2 _ u v hu'.1 hv'
      · have hj : j < k := by
          rw [List.getElem?_take] at hv
          split at hv
          · assumption
          · cases hv
        rw [List.getElem?_take, if_pos hj, List.getElem?_drop] at hv
        have hb2 : b.spot = none := by rw [h.2.2, hsp]
        have hc : (b.add j).block = b' ∧ (b.add j).off = a.off + j ∧ (b.add j).spot = none := by
          unfold Addr.add
          split
          · rename_i h0
            subst h0
            exact ⟨hb.symm, by rw [h.2.1]; rfl, hb2⟩
          · exact ⟨hb.symm, by simp [h.2.1], rfl⟩
        unfold World.cell?
        rw [hc.1, g3]
        simp only [hc.2.2, Option.isSome_none, Bool.false_eq_true, if_false, hc.2.1]
        simpa using hv
    · cases e
  · cases e
/-- what is appended -/
def srcOf (P : Program) (m : AM) (tx : TypeId) (size : Nat) : Value → Option (Nat × List Value)
  | .slice (some a) n c => match fixB (.slice (some a) n c), P.underlying tx with
    | true, some (.slice _) => match cellsAt m a (n * size) with
      | some l => some (n, l)
      | none => none
    | _, _ => none
  | .slice none n _ => match P.underlying tx, n with
    | some (.slice _), 0 => some (0, [])
    | _, _ => none
  | .string s => match P.underlying tx, Nat.beq size 1 with
    | some .string, true => some (s.size, byteCells s)
    | _, _ => none
  | _ => none
theorem srcOf_sound {r : List Nat} {m : AM} {w : World} (hw : Wd P G W r m w) {tx : TypeId} {size : Nat} {u v : Value} (h : V2 r u v) {n : Nat} {l : List Value} (e : srcOf P m tx size u = some (n, l)) :
    ∃ l' : List Value, All (V1 r) l.toArray l'.toArray ∧ Src P size tx v n l' w := by
  unfold srcOf at e
  split at e
  · rename_i a k c
    obtain ⟨b, c', rfl, hb, hcap⟩ := h
    split at e
    · rename_i _ e' hfx hu
      have hb := hb.ar (fixB_or hfx)
      split at e
      · rename_i l1 hl
        injection e with e
        injection e with e1 e2
        subst e1 e2
        obtain ⟨l', h1, h2, h3⟩ := cellsAt_sound hw hb hl
        have hlen : l'.length = k * size := by
          have := h1.1
          simp at this
          omega
        refine ⟨l', h1, Src.ofSlice w hu b k c' l' hlen h3 fun u hu => ?_⟩
        obtain ⟨j, hj⟩ := List.mem_iff_getElem?.1 hu
        have hlt : j < l1.length := by
          have := (List.getElem?_eq_some_iff.1 hj).1
          have := h1.1
          simp at this
          omega
        exact (h1.2 j l1[j] u (by simp [List.getElem?_eq_getElem hlt]) (by simpa using hj)).one'
      · cases e
    · cases e
  · rename_i k c
    obtain ⟨-, rfl⟩ := h
    split at e
    · rename_i e' hu
      injection e with e
      injection e with e1 e2
      subst e1 e2
      exact ⟨[], All.nil, Src.ofNil w hu c⟩
    · cases e
  · rename_i s
    obtain ⟨-, rfl⟩ := h
    split at e
    · rename_i hu hs
      injection e with e
      injection e with e1 e2
      subst e1 e2
      rw [Nat.eq_of_beq_eq_true hs]
      exact ⟨byteCells s, All.same fun x hx => by
        have hx : x ∈ byteCells s := by simpa using hx
        obtain ⟨b, -, rfl⟩ := List.mem_map.1 hx
        exact ⟨rfl, rfl⟩, Src.ofString w hu s⟩
    · cases e
  · cases e

theorem Wd.add {r : List Nat} {m : AM} {w w' : World} (h : Wd P G W r m w) {bs' : List Bk} {nb cap : Nat} {c full : Array Value} {e : TypeId} {inf : TypeInfo}
    (hlow : Below W.heap.size W w') (hlow2 : Low w') (hopn : Opn nb) (hsub : ∀ i x, find bs' i = some x → find m.bs i = some x) (hbs : ∀ i x b, find bs' i = some x → r[i]? = some b → w'.heap[b]? = w.heap[b]? ∧ b ≠ nb)
    (hB : W.heap.size ≤ nb) (hfull : w'.heap[nb]? = some (.cells full e (0, 0))) (hi : P.info? e = some inf) (hsz : full.size = cap * inf.size) (hle : c.size ≤ full.size)
    (hc : ∀ (i : Nat) u v, c[i]? = some u → full[i]? = some v → V1 r u v) : Wd P G W (r ++ [nb, cap]) ⟨m.n + 2, ⟨m.n, c, e, false, false⟩ :: bs'⟩ w' := by
  have he : Ext r (r ++ [nb, cap]) := ⟨_, rfl⟩
  have h0 : (r ++ [nb, cap])[m.n]? = some nb := by rw [h.n]; simp
  have h1 : (r ++ [nb, cap])[m.n + 1]? = some cap := by rw [h.n, List.getElem?_append_right (by omega)]; simp
  have key : ∀ i x, find (⟨m.n, c, e, false, false⟩ :: bs') i = some x → (i = m.n ∧ x = ⟨m.n, c, e, false, false⟩) ∨ find bs' i = some x := by
    intro i x hx
    unfold find at hx
    cases hb : Nat.beq m.n i with
    | true =>
      rw [hb] at hx
      injection hx with hx
      exact .inl ⟨(Nat.eq_of_beq_eq_true hb).symm, hx.symm⟩
    | false => rw [hb] at hx; exact .inr hx
  have old : ∀ i x, find bs' i = some x → ∃ b c', r[i]? = some b ∧ (x.ro = false → W.heap.size ≤ b) ∧ w'.heap[b]? = some (.cells c' x.T (0, 0)) ∧ Pre P r x c' ∧ b ≠ nb := by
    intro i x hx
    obtain ⟨b, c', k1, k2, k3, k4⟩ := h.at_ i x (hsub i x hx)
    obtain ⟨g2, g3⟩ := hbs i x b hx k1
    exact ⟨b, c', k1, k2, by rw [g2]; exact k3, k4, g3⟩
  refine ⟨hlow, by simp [h.n], fun i hi => he.get (h.g i hi), fun i x hx => ?_, fun i j b x y hx hy hib hjb => ?_, hlow2, fun i b x hx hro hib => ?_⟩
  · rcases key i x hx with ⟨rfl, rfl⟩ | hx
    · exact ⟨nb, full, h0, fun _ => hB, hfull, hle, (fun h => by cases h), fun _ => ⟨inf, cap, hi, h1, hsz⟩, fun j u v hu hv => (hc j u v hu hv).ext he⟩
    · obtain ⟨b, c', k1, k2, k3, k4, -⟩ := old i x hx
      exact ⟨b, c', he.get k1, k2, k3, k4.1, k4.2.1, fun h => (by obtain ⟨q, cp, a1, a2, a3⟩ := k4.2.2.1 h; exact ⟨q, cp, a1, he.get a2, a3⟩), fun j u v hu hv => (k4.2.2.2 j u v hu hv).ext he⟩
  · rcases key i x hx with ⟨rfl, rfl⟩ | hx1 <;> rcases key j y hy with ⟨rfl, rfl⟩ | hy1
    · rfl
    · obtain ⟨b2, c', k1, -, -, -, k5⟩ := old j y hy1
      rw [h0] at hib
      rw [he.get k1] at hjb
      injection hib with hib
      injection hjb with hjb
      omega
    · obtain ⟨b2, c', k1, -, -, -, k5⟩ := old i x hx1
      rw [h0] at hjb
      rw [he.get k1] at hib
      injection hib with hib
      injection hjb with hjb
      omega
    · obtain ⟨b2, c', k1, -⟩ := old i x hx1
      obtain ⟨b3, c3, l1, -⟩ := old j y hy1
      rw [he.get k1] at hib
      rw [he.get l1] at hjb
      injection hib with hib
      injection hjb with hjb
      subst hib hjb
      exact h.inj i j _ x y (hsub i x hx1) (hsub j y hy1) k1 l1
  · rcases key i x hx with ⟨rfl, rfl⟩ | hx1
    · rw [h0] at hib
      injection hib with hib
      subst hib
      exact hopn
    · obtain ⟨b2, c', k1, -⟩ := old i x hx1
      rw [he.get k1] at hib
      injection hib with hib
      subst hib
      exact h.opn i _ x (hsub i x hx1) hro k1
def setM : Array Value → Nat → List Value → Array Value
  | c, _, [] => c
  | c, o, v :: l => setM (c.setIfInBounds o v) (o + 1) l
omit [Th] in
theorem setM_size : ∀ (l : List Value) (c : Array Value) (o : Nat), (setM c o l).size = c.size
  | [], _, _ => rfl
  | v :: l, c, o => by rw [setM, setM_size l]; simp
omit [Th] in
theorem setM_get : ∀ (l : List Value) (c : Array Value) (o j : Nat), (setM c o l)[j]? = if o ≤ j ∧ j < o + l.length ∧ j < c.size then l[j - o]? else c[j]?
  | [], c, o, j => by
    rw [if_neg (by simp; omega)]
    rfl
  | v :: l, c, o, j => by
    rw [setM, setM_get l]
    simp only [Array.size_setIfInBounds, List.length_cons]
    by_cases h1 : o = j
    · subst h1
      rw [if_neg (by omega)]
      by_cases h2 : o < c.size
      · have h3 : o ≤ o ∧ o < o + (l.length + 1) ∧ o < c.size := ⟨Nat.le_refl _, by omega, h2⟩
        rw [if_pos h3]
        simp [h2]
      · have h3 : ¬ (o ≤ o ∧ o < o + (l.length + 1) ∧ o < c.size) := fun h => h2 h.2.2
        rw [if_neg h3]
        simp [h2]
    · by_cases h2 : o + 1 ≤ j ∧ j < o + 1 + l.length ∧ j < c.size
      · rw [if_pos h2, if_pos ⟨by omega, by omega, h2.2.2⟩]
        rw [show j - o = (j - (o + 1)) + 1 by omega, List.getElem?_cons_succ]
      · rw [if_neg h2, if_neg (by omega), Array.getElem?_setIfInBounds, if_neg h1]
omit [Th] in
theorem heap_setM (b : Nat) (T : TypeId) (fz : Nat × Nat) : ∀ (l : List Value) (o : Nat) (w : World) (c : Array Value), w.heap[b]? = some (.cells c T fz) → (w.setCells b o l).heap[b]? = some (.cells (setM c o l) T fz)
  | [], _, _, _, h => h
  | v :: l, o, w, c, h => by
    rw [World.setCells, setM]
    refine heap_setM b T fz l (o + 1) _ _ ?_
    simp [World.setCell, Array.getElem?_modify, h]
omit [Th] in
theorem heap_setM_ne (b k : Nat) (hk : k ≠ b) : ∀ (l : List Value) (o : Nat) (w : World), (w.setCells b o l).heap[k]? = w.heap[k]?
  | [], _, _ => rfl
  | v :: l, o, w => by
    rw [World.setCells, heap_setM_ne b k hk l]
    simp only [World.setCell, Array.getElem?_modify]
    rw [if_neg (by simpa using fun e => hk e.symm)]
omit [Th] in
theorem setCells_rest (b : Nat) : ∀ (l : List Value) (o : Nat) (w : World), (w.setCells b o l).os = w.os ∧ (w.setCells b o l).tape = w.tape ∧ (w.setCells b o l).output = w.output ∧ (w.setCells b o l).heap.size = w.heap.size
  | [], _, _ => ⟨rfl, rfl, rfl, rfl⟩
  | v :: l, o, w => by
    obtain ⟨h1, h2, h3, h4⟩ := setCells_rest b l (o + 1) (w.setCell ⟨b, o, none⟩ v)
    exact ⟨h1, h2, h3, by rw [World.setCells, h4]; simp [World.setCell]⟩
omit [Th] in
theorem below_setCells {B b : Nat} (hb : B ≤ b) {a : World} : ∀ (vs : List Value) (o : Nat) (w : World), Below B a w → Below B a (w.setCells b o vs)
  | [], _, _, h => h
  | v :: vs, o, _, h => below_setCells hb vs (o + 1) _ (h.setCell (p := ⟨b, o, none⟩) hb v)
/-- many cells of a block -/
def setBs : List Bk → Nat → Nat → List Value → List Bk
  | l, _, _, [] => l
  | l, b, o, v :: vs => setBs (setB l b o v) b (o + 1) vs
theorem Wd.stores {b b' : Nat} {r : List Nat} : ∀ (l l' : List Value) (o : Nat) (m : AM) (w : World) (x : Bk), Wd P G W r m w → find m.bs b = some x → x.ro = false → r[b]? = some b' → All (V1 r) l.toArray l'.toArray →
    Wd P G W r { m with bs := setBs m.bs b o l } (w.setCells b' o l') ∧ Step r m w r { m with bs := setBs m.bs b o l } (w.setCells b' o l')
  | [], l', o, m, w, x, h, hx, hro, hb, hl => by
    cases l' with
    | nil => exact ⟨h, Step.refl r m w⟩
    | cons y l' => simp [All] at hl
  | v :: l, l', o, m, w, x, h, hx, hro, hb, hl => by
    obtain ⟨y, l2, e, hxy, hl2⟩ := hl.cons
    injection e with e
    subst e
    have h1 := h.store (o := o) hx hro hb hxy
    obtain ⟨z, hz⟩ := find_set_some (o := o) (v := v) (b := b) hx
    obtain ⟨z', hz', e0, e1, e2, e3, e4⟩ := find_set hz
    rw [hx] at hz'
    injection hz' with hz'
    subst hz'
    obtain ⟨h2, h3⟩ := Wd.stores l l2 (o + 1) _ _ z h1 hz (by rw [e3]; exact hro) hb hl2
    refine ⟨h2, Step.trans ?_ h3⟩
    refine ⟨Ext.refl r, rfl, rfl, rfl, by simp [World.setCell], fun c hc hn => ?_, fun c hd => ?_⟩
    · simp only [World.setCell, Array.getElem?_modify]
      rw [if_neg]
      intro e
      subst e
      exact hn ⟨_, _, hx, hro, hb⟩
    · obtain ⟨i, y, hy, hyr, hi⟩ := hd
      obtain ⟨y', hy', -, -, -, e5, -⟩ := find_set hy
      exact .inl ⟨i, y', hy', e5 ▸ hyr, hi⟩

/-- append behind a row of one's own: the row grows, or it doesn't -/
def evApp (P : Program) (m : AM) (ts : List TypeId) (s x : Value) : Option (Value × AM) := match ts with
  | [t, tx] => match P.underlying t with
    | some (.slice e) => match P.info? e with
      | some i => match i.zero, srcOf P m tx i.size x with
        | some z, some (n, news) => match z.cells.all dry && Nat.beq z.cells.size i.size with
          | true => match s with
            | .slice base sl c => match Nat.ble (sl + n) 4611686018427387904 && Nat.ble ((sl + n) * i.bytes) 140737488355328, Nat.blt c K with
              | true, true => match Nat.ble (sl + n) c with
                | true => match base with
                  | none => none
                  | some a => match a.spot, find m.bs a.block with
                    | none, some y => match y.ro, Nat.ble (a.off + sl * i.size + n * i.size) y.c.size with
                      | false, true => some (.slice (some a) (sl + n) c, { m with bs := setBs m.bs a.block (a.off + sl * i.size) news })
                      | _, _ => none
                    | _, _ => none
                | false => match base with
                  | none => match sl, c with
                    | 0, 0 => some (.slice (some ⟨m.n, 0, none⟩) n (K + (m.n + 1)), ⟨m.n + 2, ⟨m.n, news.toArray, e, false, false⟩ :: m.bs⟩)
                    | _, _ => none
                  | some a => match cellsAt m a (sl * i.size) with
                    | some olds => some (.slice (some ⟨m.n, 0, none⟩) (sl + n) (K + (m.n + 1)), ⟨m.n + 2, ⟨m.n, (olds ++ news).toArray, e, false, false⟩ :: m.bs⟩)
                    | none => none
              | true, false => match base with
                | some a => match a.spot, a.off, find m.bs a.block with
                  | none, 0, some y => match y.ro, y.ex, (Nat.beq (K + (y.i + 1)) c && Nat.beq y.T e) && Nat.blt 0 sl, cellsAt m a (sl * i.size) with
                    | false, false, true, some olds => some (.slice (some ⟨m.n, 0, none⟩) (sl + n) (K + (m.n + 1)), ⟨m.n + 2, ⟨m.n, (olds ++ news).toArray, e, false, false⟩ :: del m.bs a.block⟩)
                    | _, _, _, _ => none
                  | _, _, _ => none
                | none => none
              | _, _ => none
            | _ => none
          | false => none
        | _, _ => none
      | none => none
    | _ => none
  | _ => none
theorem grow_step {r : List Nat} {m : AM} {w : World} (hw : Wd P G W r m w) (hB : W.heap.size ≤ w.heap.size) {e : TypeId} {i : TypeInfo} {z : Value} (hi : P.info? e = some i) (hzs : z.cells.size = i.size) {olds news olds' news' : List Value}
    (ho : All (V1 r) olds.toArray olds'.toArray) (hn : All (V1 r) news.toArray news'.toArray) {need cap : Nat} (hcap : need ≤ cap) (hlen : (olds ++ news).length = need * i.size) :
    let w' := w.drew.alloc (.cells ((olds' ++ news').toArray ++ Builtin.zeroCells z.cells (cap - need)) e)
    let m' : AM := ⟨m.n + 2, ⟨m.n, (olds ++ news).toArray, e, false, false⟩ :: m.bs⟩
    Wd P G W (r ++ [w.heap.size, cap]) m' w' ∧ Step r m w (r ++ [w.heap.size, cap]) m' w' := by
  have hall : All (V1 r) (olds ++ news).toArray (olds' ++ news').toArray := by simpa using ho.append hn
  have hlen' : (olds' ++ news').length = need * i.size := by
    have := hall.1
    simp only [List.size_toArray] at this
    omega
  have hheap : ∀ b, b < w.heap.size → (w.drew.alloc (.cells ((olds' ++ news').toArray ++ Builtin.zeroCells z.cells (cap - need)) e)).heap[b]? = w.heap[b]? := fun b hb => by
    show (w.heap.push _)[b]? = _
    rw [Array.getElem?_push, if_neg (by omega)]
  refine ⟨?_, ?_⟩
  · refine hw.add ((hw.low.drew).alloc hB _) (hw.low2.push (x := .cells ((olds' ++ news').toArray ++ Builtin.zeroCells z.cells (cap - need)) e) rfl rfl rfl rfl) (.inr hw.low2.size) (fun i x h => h) (fun i x b hx hb => ?_) hB (by show (w.heap.push _)[w.heap.size]? = _; exact Array.getElem?_push_size) hi ?_ ?_ ?_
    · obtain ⟨b', c', k1, -, k3, -⟩ := hw.at_ i x hx
      rw [hb] at k1
      injection k1 with k1
      subst k1
      have hlt : b < w.heap.size := (Array.getElem?_eq_some_iff.1 k3).1
      exact ⟨hheap b hlt, by omega⟩
    · simp only [Array.size_append, List.size_toArray, hlen', Builtin.zeroCells, Array.size_map, Array.size_range, hzs]
      rw [← Nat.add_mul]
      congr 1
      omega
    · simp only [Array.size_append, List.size_toArray, hlen', hlen]
      omega
    · intro j u v hu hv
      have hj : j < (olds ++ news).toArray.size := (Array.getElem?_eq_some_iff.1 hu).1
      rw [Array.getElem?_append_left (by rw [← hall.1]; exact hj)] at hv
      exact hall.2 j u v hu hv
  · refine ⟨⟨_, rfl⟩, rfl, rfl, rfl, ?_, fun b hb _ => hheap b hb, fun b hd => ?_⟩
    · show w.heap.size ≤ (w.heap.push _).size
      simp
    · obtain ⟨k, x, hx, hr, hk⟩ := hd
      unfold find at hx
      cases hb : Nat.beq m.n k with
      | true =>
        have := Nat.eq_of_beq_eq_true hb
        subst this
        rw [hw.n] at hk
        simp at hk
        exact .inr (by omega)
      | false =>
        rw [hb] at hx
        obtain ⟨b', c', k1, -⟩ := hw.at_ k x hx
        rw [(show Ext r (r ++ [w.heap.size, cap]) from ⟨_, rfl⟩).get k1] at hk
        injection hk with hk
        subst hk
        exact .inl ⟨k, x, hx, hr, k1⟩
theorem here_step {r : List Nat} {m : AM} {w : World} (hw : Wd P G W r m w) {e : TypeId} {i : TypeInfo} (hi : P.info? e = some i) {olds news olds' news' : List Value} {id nb cap : Nat} {y : Bk} {full : Array Value}
    (hy : find m.bs id = some y) (hro : y.ro = false) (hnb : r[id]? = some nb) (hBn : W.heap.size ≤ nb) (hfull : w.heap[nb]? = some (.cells full e (0, 0))) (hsz : full.size = cap * i.size)
    (ho : All (V1 r) olds.toArray olds'.toArray) (hold : ∀ (j : Nat) v, olds'[j]? = some v → full[j]? = some v) (hn : All (V1 r) news.toArray news'.toArray) (hle : olds.length + news.length ≤ full.size) :
    let w' := w.setCells nb olds.length news'
    let m' : AM := ⟨m.n + 2, ⟨m.n, (olds ++ news).toArray, e, false, false⟩ :: del m.bs id⟩
    Wd P G W (r ++ [nb, cap]) m' w' ∧ Step r m w (r ++ [nb, cap]) m' w' := by
  have hnl : news.length = news'.length := by simpa using hn.1
  have hol : olds.length = olds'.length := by simpa using ho.1
  obtain ⟨q1, q2, q3, q4⟩ := setCells_rest nb news' olds.length w
  refine ⟨?_, ?_⟩
  · refine hw.add (below_setCells hBn _ _ _ hw.low) (hw.low2.upd q1 q2 q3 (Nat.le_of_eq q4.symm) fun k hk => heap_setM_ne nb k (fun e => hk (e ▸ hw.opn id nb y hy hro hnb)) news' _ w) (hw.opn id nb y hy hro hnb) (fun k x h => (find_del h).1) (fun k x b hx hb => ?_) hBn (heap_setM nb e (0, 0) news' olds.length w full hfull) hi (by rw [setM_size]; exact hsz) (by rw [setM_size]; simpa using hle) ?_
    · obtain ⟨h1, h2⟩ := find_del hx
      have hne : b ≠ nb := fun e => h2 (hw.inj k id nb x y h1 hy (e ▸ hb) hnb)
      exact ⟨heap_setM_ne nb b hne news' _ w, hne⟩
    · intro j u v hu hv
      rw [setM_get] at hv
      rcases Nat.lt_or_ge j olds.length with h1 | h1
      · rw [if_neg (by omega)] at hv
        have hu2 : olds[j]? = some u := by
          have : (olds ++ news)[j]? = some u := by simpa using hu
          rwa [List.getElem?_append_left h1] at this
        have hj' : j < olds'.length := by omega
        have hv2 := hold j _ (List.getElem?_eq_getElem hj')
        rw [hv] at hv2
        injection hv2 with hv2
        subst hv2
        exact ho.2 j u _ (by simpa using hu2) (by simp [List.getElem?_eq_getElem hj'])
      · have hu2 : news[j - olds.length]? = some u := by
          have : (olds ++ news)[j]? = some u := by simpa using hu
          rwa [List.getElem?_append_right h1] at this
        have hlt := (List.getElem?_eq_some_iff.1 hu2).1
        rw [if_pos ⟨h1, by omega, by omega⟩] at hv
        exact hn.2 (j - olds.length) u v (by simpa using hu2) (by simpa using hv)
  · refine ⟨⟨_, rfl⟩, q1, q2, q3, Nat.le_of_eq q4.symm, fun b hb hd => heap_setM_ne nb b (fun e => hd (e ▸ ⟨id, y, hy, hro, hnb⟩)) news' _ w, fun b hd => ?_⟩
    obtain ⟨k, x, hx, hr, hk⟩ := hd
    unfold find at hx
    cases hb : Nat.beq m.n k with
    | true =>
      have := Nat.eq_of_beq_eq_true hb
      subst this
      rw [hw.n] at hk
      simp at hk
      exact .inl ⟨id, y, hy, hro, by rw [hnb, hk]⟩
    | false =>
      rw [hb] at hx
      obtain ⟨h1, h2⟩ := find_del hx
      obtain ⟨b', c', k1, -⟩ := hw.at_ k x h1
      rw [(show Ext r (r ++ [nb, cap]) from ⟨_, rfl⟩).get k1] at hk
      injection hk with hk
      subst hk
      exact .inl ⟨k, x, h1, hr, k1⟩
omit [Th] in
theorem sub_cons {x : Bk} {l : List Bk} {b i : Nat} {y : Bk} (h : find (x :: del l b) i = some y) : find (x :: l) i = some y := by
  unfold find at h ⊢
  cases hb : Nat.beq x.i i with
  | true => rw [hb] at h; exact h
  | false => rw [hb] at h; exact (find_del h).1
theorem new_slice {r : List Nat} {m : AM} {w : World} (hw : Wd P G W r m w) (nb : Nat) {n cap : Nat} (h : n ≤ cap) (h2 : cap ≤ 9223372036854775807) : V2 (r ++ [nb, cap]) (.slice (some ⟨m.n, 0, none⟩) n (K + (m.n + 1))) (.slice (some ⟨nb, 0, none⟩) n cap) := by
  refine ⟨⟨nb, 0, none⟩, cap, rfl, AR.of ⟨?_, rfl, rfl⟩, .inr ⟨Nat.le_add_right _ _, ?_, h, h2⟩⟩
  · show (r ++ [nb, cap])[m.n]? = some nb
    rw [hw.n]
    simp
  · rw [Nat.add_sub_cancel_left, hw.n, List.getElem?_append_right (by omega)]
    simp
omit [Th] in
theorem AR.eta {r : List Nat} {a b : Addr} {nb : Nat} (h : AR r a b) (hn : r[a.block]? = some nb) (hs : a.spot = none) : b = ⟨nb, a.off, none⟩ := by
  obtain ⟨b1, b2, b3⟩ := b
  obtain ⟨h1, h2, h3⟩ := h
  rw [hn] at h1
  injection h1 with h1
  simp only at h1 h2 h3
  rw [h1, h2, h3, hs]
set_option maxHeartbeats 1000000 in
theorem evApp_sound {r : List Nat} {m : AM} {w : World} {ts : List TypeId} {ty : TypeId} {s s' x x' v : Value} {m' : AM} (e : evApp P m ts s x = some (v, m')) (hs : V2 r s s') (hx : V2 r x x') (hw : Wd P G W r m w) (hB : W.heap.size ≤ w.heap.size) :
    ∃ r' v' w', (Builtin.append_ ts.toArray ty #[s', x']).run P w = .ok v' w' ∧ V2 r' v v' ∧ Wd P G W r' m' w' ∧ Step r m w r' m' w' := by
  unfold evApp at e
  split at e
  case h_2 => cases e
  rename_i t tx
  split at e
  case h_2 => cases e
  rename_i et ht
  split at e
  case h_2 => cases e
  rename_i i hi
  split at e
  case h_2 => cases e
  rename_i z n news hz hsrc
  split at e
  case h_2 => cases e
  rename_i hzok
  rw [Bool.and_eq_true] at hzok
  have hzs := Nat.eq_of_beq_eq_true hzok.2
  split at e
  case h_2 => cases e
  rename_i base sl c
  obtain ⟨news', hn, hS⟩ := srcOf_sound hw hx hsrc
  have hnl : news.length = news'.length := by simpa using hn.1
  have hnl2 := hS.newsLen
  split at e
  case h_3 => cases e
  · -- the capacity is known
    rename_i hbig hcK
    rw [Bool.and_eq_true] at hbig
    have hb1 := Nat.le_of_ble_eq_true hbig.1
    have hb2 := Nat.le_of_ble_eq_true hbig.2
    have hcK : c < K := by simpa [Nat.blt_eq] using hcK
    have h63 : ((sl + n : Nat) : Int) ≤ 9223372036854775807 := by omega
    split at e
    · rename_i hroom
      have hroom := Nat.le_of_ble_eq_true hroom
      split at e
      case h_1 => cases e
      rename_i a
      split at e
      case h_2 => cases e
      rename_i y hsp hy
      split at e
      case h_2 => cases e
      rename_i hro hle
      have hle := Nat.le_of_ble_eq_true hle
      injection e with e
      injection e with e1 e2
      subst e1 e2
      obtain ⟨b, c', rfl, hb, hcap⟩ := hs
      have ec : c' = c := by
        rcases hcap with ⟨_, h⟩ | ⟨h, _⟩
        · exact h
        · omega
      subst ec
      have hb := hb.ar (.inr (by assumption))
      obtain ⟨nb, full, g1, g2, g3, g4⟩ := hw.at_ _ _ hy
      have eb := hb.eta g1 hsp
      subst eb
      have hcell : ∀ j, j < news'.length → a.off + sl * i.size + j < full.size := fun j hj => by
        have := g4.1
        omega
      have hrun := run_append_room_src (P := P) w t tx ty et i ht hi nb a.off sl c' x' n news' hS hroom
        (fun j hj => by
          unfold World.cell?
          rw [g3]
          simp [hcell j hj])
        (fun j hj => by
          unfold World.frozen?
          rw [g3]
          simp)
      obtain ⟨k1, k2⟩ := Wd.stores (b' := nb) news news' (a.off + sl * i.size) m w y hw hy hro g1 hn
      exact ⟨r, _, _, hrun, ⟨_, _, rfl, AR.of ⟨g1, rfl, hsp.symm⟩, .inl ⟨hcK, rfl⟩⟩, k1, k2⟩
    · rename_i hroom
      have hg : c < sl + n := by
        rcases Nat.lt_or_ge c (sl + n) with h | h
        · exact h
        · rw [Nat.ble_eq_true_of_le h] at hroom
          cases hroom
      have hfit := growslice_fits (need := sl + n) (old := c) hg hb2
      split at e
      · split at e
        case h_2 => cases e
        injection e with e
        injection e with e1 e2
        subst e1 e2
        obtain ⟨-, rfl⟩ := hs
        have hrun := run_append_grow_src (P := P) w t tx ty et i z ht hi hz none 0 0 [] (run_firstCells_none w.drew i.size 0 0 0) x' n news' hS (by omega) h63 hfit
        have hcap : n ≤ grownCap w (0 + n) 0 et := Nat.le_trans (by omega) (grownCap_ge w (0 + n) 0 et)
        have hcm : grownCap w (0 + n) 0 et ≤ maxLen := grownCap_le_maxLen w (0 + n) 0 et (by show _ ≤ 9223372036854775807; omega)
        obtain ⟨k1, k2⟩ := grow_step (olds := []) (olds' := []) hw hB hi hzs All.nil hn hcap (by simp; omega)
        simp only [Nat.zero_add] at hrun
        simp only [Nat.zero_add, List.nil_append] at k1 k2 hcap hcm hrun
        exact ⟨_, _, _, hrun, new_slice hw _ hcap hcm, k1, k2⟩
      · rename_i a
        split at e
        case h_2 => cases e
        rename_i olds hold
        injection e with e
        injection e with e1 e2
        subst e1 e2
        obtain ⟨b, c', rfl, hb, hcap⟩ := hs
        have ec : c' = c := by
          rcases hcap with ⟨_, h⟩ | ⟨h, _⟩
          · exact h
          · omega
        subst ec
        have hb := hb.ar (.inr (by assumption))
        obtain ⟨olds', ho, hlo, hco⟩ := cellsAt_sound hw hb hold
        have hlo' : olds'.length = sl * i.size := by
          have := ho.1
          simp at this
          omega
        have hrun := run_append_grow_src (P := P) w t tx ty et i z ht hi hz (some b) sl c' olds' (run_firstCells_some w.drew i.size sl b sl c' olds' hlo' (by simpa using hco)) x' n news' hS hg h63 hfit
        obtain ⟨k1, k2⟩ := grow_step hw hB hi hzs ho hn (grownCap_ge w (sl + n) c' et) (by simp; rw [hlo, hnl, hnl2, Nat.add_mul])
        exact ⟨_, _, _, hrun, new_slice hw _ (grownCap_ge w (sl + n) c' et) (grownCap_le_maxLen w (sl + n) c' et (by show _ ≤ 9223372036854775807; omega)), k1, k2⟩
  · -- it is not
    rename_i hbig hcK
    rw [Bool.and_eq_true] at hbig
    have hb1 := Nat.le_of_ble_eq_true hbig.1
    have hb2 := Nat.le_of_ble_eq_true hbig.2
    have hcK : K ≤ c := by
      rcases Nat.lt_or_ge c K with h | h
      · have : Nat.blt c K = true := by simpa [Nat.blt_eq] using h
        rw [this] at hcK
        cases hcK
      · exact h
    have h63 : ((sl + n : Nat) : Int) ≤ 9223372036854775807 := by omega
    split at e
    case h_2 => cases e
    rename_i a
    split at e
    case h_2 => cases e
    rename_i y hsp hoff hy
    split at e
    case h_2 => cases e
    rename_i olds hro hex hmatch hold
    rw [Bool.and_eq_true, Bool.and_eq_true] at hmatch
    have ec := Nat.eq_of_beq_eq_true hmatch.1.1
    have eT := Nat.eq_of_beq_eq_true hmatch.1.2
    have hsl : 0 < sl := by simpa [Nat.blt_eq] using hmatch.2
    injection e with e
    injection e with e1 e2
    subst e1 e2
    obtain ⟨b, c', rfl, hb, hcap⟩ := hs
    have hb := hb.ar (.inl hsl)
    obtain ⟨nb, full, g1, g2, g3, g4⟩ := hw.at_ _ _ hy
    have eb := hb.eta g1 hsp
    rw [hoff] at eb
    subst eb
    obtain ⟨i2, cap, q1, q2, q3⟩ := g4.2.2.1 hex
    rw [eT, hi] at q1
    injection q1 with q1
    subst q1
    have hcc : c' = cap ∧ sl ≤ c' ∧ c' ≤ 9223372036854775807 := by
      rcases hcap with ⟨h, _⟩ | ⟨_, h, h2⟩
      · omega
      · rw [← ec, Nat.add_sub_cancel_left, q2] at h
        injection h with h
        exact ⟨h.symm, h2⟩
    obtain ⟨rfl, hslc⟩ := hcc
    rw [eT] at g3
    obtain ⟨olds', ho, hlo, hco⟩ := cellsAt_sound hw hb hold
    have hlo' : olds'.length = sl * i.size := by
      have := ho.1
      simp at this
      omega
    rcases Nat.lt_or_ge c' (sl + n) with hg | hroom
    · have hfit := growslice_fits (need := sl + n) (old := c') hg hb2
      have hrun := run_append_grow_src (P := P) w t tx ty et i z ht hi hz (some ⟨nb, 0, none⟩) sl c' olds' (run_firstCells_some w.drew i.size sl ⟨nb, 0, none⟩ sl c' olds' hlo' (by simpa using hco)) x' n news' hS hg h63 hfit
      obtain ⟨k1, k2⟩ := grow_step hw hB hi hzs ho hn (grownCap_ge w (sl + n) c' et) (by simp; rw [hlo, hnl, hnl2, Nat.add_mul])
      refine ⟨_, _, _, hrun, new_slice hw _ (grownCap_ge w (sl + n) c' et) (grownCap_le_maxLen w (sl + n) c' et (by show _ ≤ 9223372036854775807; omega)), ?_, ?_⟩
      · refine ⟨k1.low, k1.n, k1.g, fun j x hx => k1.at_ j x ?_, fun j k b x y hx hy => k1.inj j k b x y ?_ ?_, k1.low2, fun j b x hx => k1.opn j b x ?_⟩
        · exact sub_cons hx
        · exact sub_cons hx
        · exact sub_cons hy
        · exact sub_cons hx
      · exact ⟨k2.ext, k2.os, k2.tape, k2.output, k2.size, k2.block, fun b ⟨j, x, hx, hr, hj⟩ => k2.dom b ⟨j, x, sub_cons hx, hr, hj⟩⟩
    · have hcell : ∀ j, j < news'.length → 0 + sl * i.size + j < full.size := fun j hj => by
        rw [q3]
        have : (sl + n) * i.size ≤ c' * i.size := Nat.mul_le_mul_right _ hroom
        rw [Nat.add_mul] at this
        omega
      have hrun := run_append_room_src (P := P) w t tx ty et i ht hi nb 0 sl c' x' n news' hS hroom
        (fun j hj => by
          unfold World.cell?
          rw [g3]
          simp only [Option.isSome_none, Bool.false_eq_true, if_false]
          rw [Array.getElem?_eq_getElem (hcell j hj)]
          rfl)
        (fun j hj => by
          unfold World.frozen?
          rw [g3]
          simp)
      have hold2 : ∀ (j : Nat) v, olds'[j]? = some v → full[j]? = some v := fun j v hj => by
        have := hco j v hj
        unfold World.cell? at this
        have e1 : (Addr.add ⟨nb, 0, none⟩ j).block = nb ∧ (Addr.add ⟨nb, 0, none⟩ j).off = j ∧ (Addr.add ⟨nb, 0, none⟩ j).spot = none := by
          unfold Addr.add
          split
          · rename_i h0
            subst h0
            exact ⟨rfl, rfl, rfl⟩
          · exact ⟨rfl, by simp, rfl⟩
        rw [e1.1, g3] at this
        simpa [e1.2.1, e1.2.2] using this
      obtain ⟨k1, k2⟩ := here_step (cap := c') hw hi hy hro g1 (g2 hro) g3 q3 ho hold2 hn (by
        rw [q3, hlo, hnl, hnl2, ← Nat.add_mul]
        exact Nat.mul_le_mul_right _ hroom)
      rw [hlo] at k1 k2
      rw [Nat.zero_add] at hrun
      exact ⟨_, _, _, hrun, new_slice hw _ hroom hslc.2, k1, k2⟩
end
end Go.Sx
