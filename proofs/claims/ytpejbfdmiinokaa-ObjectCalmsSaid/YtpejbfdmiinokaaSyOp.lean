/-
  RUNS RECKONED AHEAD: an argument opened by its type: data of any depth. By an AI agent.
-/
import Derived.Test.YtpejbfdmiinokaaSyDa
import Derived.OpenShut
import Derived.Deep.Slices
import Derived.DataOpen
namespace Go.Sx
open Go.RowKit Go.ChangeShapes Go.WideShapes
def Shp.app : Shp → Shp → Shp
  | .nil, r => r
  | .t g l, r => .t g (l.app r)
  | .s e l, r => .s e (l.app r)
def Shp.rep (s : Shp) : Nat → Shp
  | 0 => .nil
  | n + 1 => s.app (s.rep n)
def shFs (P : Program) (sh : TypeId → Option Shp) : List Field → Nat → Option Shp
  | [], _ => some .nil
  | f :: l, o => match Nat.beq f.offset o, sh f.type with
    | true, some s => match Nat.beq (P.cellsOf f.type) s.tags.length, shFs P sh l (o + s.tags.length) with
      | true, some r => some (s.app r)
      | _, _ => none
    | _, _ => none
/-- the cells of a type of scalars, slices, arrays, structs -/
def shOf (P : Program) : Nat → TypeId → Option Shp
  | 0, _ => none
  | d + 1, t => match P.underlying t with
    | some .bool => some (.t 8 .nil)
    | some (.int k) => some (.t (kN k) .nil)
    | some .string => some (.t 9 .nil)
    | some (.slice e) => match shOf P d e with
      | some s => match Nat.beq (P.cellsOf e) s.tags.length, Nat.blt 0 s.tags.length with
        | true, true => some (.s s .nil)
        | _, _ => none
      | none => none
    | some (.array n e) => match shOf P d e with
      | some s => match Nat.beq (P.cellsOf e) s.tags.length with
        | true => some (s.rep n)
        | false => none
      | none => none
    | some (.struct fs) => shFs P (shOf P d) fs.toList 0
    | _ => none
section
variable {W : World}
theorem Shp.tags_app : ∀ (s r : Shp), (s.app r).tags = s.tags ++ r.tags
  | .nil, r => rfl
  | .t g l, r => by simp [Shp.app, Shp.tags, l.tags_app r]
  | .s e l, r => by simp [Shp.app, Shp.tags, l.tags_app r]
theorem Dat.app : ∀ {s r : Shp} {xs ys : List Value} {ds es : List Da}, Dat W s xs ds → Dat W r ys es → Dat W (s.app r) (xs ++ ys) (ds ++ es)
  | .nil, r, xs, ys, ds, es, h, h' => by
    obtain ⟨rfl, rfl⟩ := h
    exact h'
  | .t g l, r, xs, ys, ds, es, h, h' => by
    obtain ⟨x, xs', ds', rfl, rfl, h3, h4⟩ := h
    exact ⟨x, _, _, rfl, rfl, h3, h4.app h'⟩
  | .s e l, r, xs, ys, ds, es, h, h' => by
    obtain ⟨x, xs', rs, ds', rfl, rfl, h3, h4⟩ := h
    exact ⟨x, _, _, _, rfl, rfl, h3, h4.app h'⟩
variable {H : Type} {enc : TypeId × Value → H} {P : Program}
/-- what the reading of a type gives -/
def Opens (P : Program) (W : World) (enc : TypeId × Value → H) (t : TypeId) (s : Shp) : Prop :=
  ∀ (fuel : Nat) (cs : List Value) (x : DataW H × List MemPlace), DataW.trod enc P W 0 (fun _ => true) true fuel t cs = some x → cs.length = s.tags.length → ∃ ds, Dat W s cs ds
theorem open_fields {cs : List Value} {sh : TypeId → Option Shp} (ih : ∀ t s, sh t = some s → Opens P W enc t s) {n : Nat} : ∀ (l : List Field) (o : Nat) (r : Shp), (∀ f ∈ l, ∃ x, DataW.trod enc P W 0 (fun _ => true) true n f.type ((cs.drop f.offset).take (P.cellsOf f.type)) = some x) →
    shFs P sh l o = some r → (cs.drop o).length = r.tags.length → ∃ ds, Dat W r (cs.drop o) ds
  | [], o, r, _, h, hl => by
    simp only [shFs, Option.some.injEq] at h
    subst h
    exact ⟨[], List.eq_nil_of_length_eq_zero hl, rfl⟩
  | f :: l, o, r, hx, h, hl => by
    unfold shFs at h
    split at h
    · rename_i s h1 h2
      split at h
      · rename_i r' h3 h4
        injection h with h
        subst h
        have h1 := Nat.eq_of_beq_eq_true h1
        have h3 := Nat.eq_of_beq_eq_true h3
        rw [Shp.tags_app, List.length_append] at hl
        obtain ⟨x, hx0⟩ := hx f List.mem_cons_self
        rw [h1, h3] at hx0
        obtain ⟨d1, g1⟩ := ih _ _ h2 n _ _ hx0 (by rw [List.length_take]; omega)
        obtain ⟨d2, g2⟩ := open_fields ih l (o + s.tags.length) r' (fun f hf => hx f (List.mem_cons_of_mem _ hf)) h4 (by rw [List.length_drop] at hl ⊢; omega)
        refine ⟨d1 ++ d2, ?_⟩
        have := g1.app g2
        rw [← List.drop_drop, List.take_append_drop] at this
        exact this
      · cases h
    · cases h
theorem open_rep {cs : List Value} {s : Shp} : ∀ (n o : Nat), (∀ i, i < n → ∃ ds, Dat W s ((cs.drop (o + i * s.tags.length)).take s.tags.length) ds) → (cs.drop o).length = (s.rep n).tags.length → ∃ ds, Dat W (s.rep n) (cs.drop o) ds
  | 0, o, _, hl => ⟨[], List.eq_nil_of_length_eq_zero hl, rfl⟩
  | n + 1, o, h, hl => by
    have hl' : (cs.drop o).length = s.tags.length + (s.rep n).tags.length := by rw [hl]; simp [Shp.rep, Shp.tags_app]
    obtain ⟨d1, g1⟩ := h 0 (by omega)
    obtain ⟨d2, g2⟩ := open_rep n (o + s.tags.length) (fun i hi => by
      have := h (i + 1) (by omega)
      rw [Nat.add_mul, Nat.one_mul, show o + (i * s.tags.length + s.tags.length) = o + s.tags.length + i * s.tags.length by omega] at this
      exact this) (by rw [List.length_drop] at hl' ⊢; omega)
    refine ⟨d1 ++ d2, ?_⟩
    rw [Nat.zero_mul, Nat.add_zero] at g1
    have := g1.app g2
    rw [← List.drop_drop, List.take_append_drop] at this
    exact this
theorem wf_tag {k : IntKind} {n : Int} (h : (Lit.int k n).wf = true) : hasTag (kN k) (.int k n) := by
  refine ⟨rfl, ?_⟩
  simp only [Lit.wf, Bool.and_eq_true, decide_eq_true_eq] at h
  exact h
/-- AN ARGUMENT OPENED BY ITS TYPE -/
theorem opens : ∀ (d : Nat) (t : TypeId) (s : Shp), shOf P d t = some s → Opens P W enc t s
  | 0, _, _, h => by cases h
  | d + 1, t, s, h => by
    intro fuel cs x hx hl
    unfold shOf at h
    split at h
    · rename_i hu
      injection h with h
      subst h
      obtain ⟨b, rfl, -⟩ := DataW.trod_bool hu hx
      exact ⟨[.v (.bool b)], _, _, _, rfl, rfl, rfl, rfl, rfl⟩
    · rename_i k hu
      injection h with h
      subst h
      obtain ⟨n, rfl, -, hw⟩ := DataW.trod_int hu hx
      exact ⟨[.v (.int k n)], _, _, _, rfl, rfl, wf_tag hw, rfl, rfl⟩
    · rename_i hu
      injection h with h
      subst h
      obtain ⟨z, rfl, -, hz⟩ := DataW.trod_string hu hx
      refine ⟨[.v (.string z)], _, _, _, rfl, rfl, .inl ⟨rfl, ?_⟩, rfl, rfl⟩
      have : maxLen < 9223372036854775808 := by decide
      omega
    · rename_i e hu
      split at h
      · rename_i s' hs
        split at h
        · rename_i h1 h2
          injection h with h
          subst h
          have h1 := Nat.eq_of_beq_eq_true h1
          have h2 : 0 < s'.tags.length := by simpa [Nat.blt_eq] using h2
          rcases DataW.trod_slice hu hx with ⟨rfl, -⟩ | ⟨a, len, cap, elems, rest, m, -, rfl, -, -, hl1, hm, hel, hi, -⟩
          · exact ⟨[.l []], _, _, _, _, rfl, rfl, ⟨[], ⟨none, 0, rfl, by decide, fun _ => rfl, fun A h => by cases h⟩, rfl, fun k row h => by simp at h⟩, rfl, rfl⟩
          · have each : ∀ i, i < len → ∃ (row : List Value) (ds : List Da), row.length = s'.tags.length ∧ (∀ j, j < s'.tags.length → W.cell? ((a.add (i * s'.tags.length)).add j) = row[j]?) ∧ Dat W s' row ds := by
              intro i hil
              have g1 := hi i hil
              rw [List.getElem?_eq_getElem (show i < elems.length by omega)] at g1
              obtain ⟨cs', hcc, hd⟩ := Option.bind_eq_some_iff.1 g1
              obtain ⟨-, hcl, hat⟩ := World.cells?_some hcc
              rw [h1] at hcl hat
              obtain ⟨ds, hds⟩ := opens d e s' hs m cs' _ hd hcl
              exact ⟨cs', ds, hcl, hat, hds⟩
            let R : Nat → List Value := fun i => if h : i < len then (each i h).choose else []
            let Q : Nat → List Da := fun i => if h : i < len then (each i h).choose_spec.choose else []
            have hRQ : ∀ i, i < len → (R i).length = s'.tags.length ∧ (∀ j, j < s'.tags.length → W.cell? ((a.add (i * s'.tags.length)).add j) = (R i)[j]?) ∧ Dat W s' (R i) (Q i) := by
              intro i h
              have e1 : R i = (each i h).choose := dif_pos h
              have e2 : Q i = (each i h).choose_spec.choose := dif_pos h
              rw [e1, e2]
              exact (each i h).choose_spec.choose_spec
            have hmax : maxLen < 9223372036854775808 := by decide
            have hget : ∀ k row, ((List.range len).map R)[k]? = some row → k < len ∧ row = R k := fun k row hk => by
              have hil : k < len := by have := (List.getElem?_eq_some_iff.1 hk).1; simpa using this
              rw [List.getElem?_map, List.getElem?_range hil] at hk
              exact ⟨hil, by simpa using hk.symm⟩
            refine ⟨[.l ((List.range len).map fun i => .l (Q i))], _, _, _, _, rfl, rfl, ⟨(List.range len).map R, ⟨some a, cap, by simp, by simp; omega, fun h => (by cases h), fun A hA => ?_⟩, by simp, fun k row hk => ?_⟩, rfl, rfl⟩
            · injection hA with hA
              subst hA
              have spot : 0 < len → a.spot = none := fun h0 => by
                obtain ⟨g1, g2, -⟩ := hRQ 0 h0
                have := g2 0 h2
                rw [List.getElem?_eq_getElem (by omega)] at this
                have := World.cell?_spot this
                simpa [Addr.add] using this
              refine ⟨fun h0 => spot (by simpa using h0), fun k row hk => ?_⟩
              obtain ⟨hil, rfl⟩ := hget k row hk
              obtain ⟨g1, g2, g3⟩ := hRQ k hil
              have hsp := spot (by omega)
              refine ⟨g1, ?_, fun j g hg => ?_⟩
              · have c0 := g2 0 h2
                rw [List.getElem?_eq_getElem (by omega)] at c0
                have := World.block_lt_of_cell? W _ c0
                obtain ⟨e1, -, -⟩ := add_eq (a.add (k * s'.tags.length)) (spot_add a _ hsp) 0
                rw [e1] at this
                exact this
              · obtain ⟨v, v1, v2⟩ := g3.tags.2 j g hg
                exact ⟨v, v1, v2, by rw [g2 j (List.getElem?_eq_some_iff.1 hg).1, v1]⟩
            · obtain ⟨hil, rfl⟩ := hget k row hk
              exact ⟨Q k, by simp [List.getElem?_range hil], (hRQ k hil).2.2⟩
        · cases h
      · cases h
    · rename_i n e hu
      split at h
      · rename_i s' hs
        split at h
        · rename_i h1
          injection h with h
          subst h
          have h1 := Nat.eq_of_beq_eq_true h1
          obtain ⟨xs, m, -, -, -, hl1, hel⟩ := DataW.trod_array hu hx
          have := open_rep (W := W) (cs := cs) (s := s') n 0 (fun i hi => by
            have g1 := hel i hi
            rw [List.getElem?_eq_getElem (show i < xs.length by omega), h1] at g1
            rw [Nat.zero_add]
            refine opens d e s' hs m _ _ g1 ?_
            have hrep : ∀ n, (s'.rep n).tags.length = n * s'.tags.length := fun n => by
              induction n with
              | zero => simp [Shp.rep, Shp.tags]
              | succ n ih => rw [Shp.rep, Shp.tags_app, List.length_append, ih, Nat.add_mul]; omega
            rw [hrep] at hl
            have : (i + 1) * s'.tags.length ≤ n * s'.tags.length := Nat.mul_le_mul_right _ hi
            rw [Nat.add_mul] at this
            rw [List.length_take, List.length_drop]
            omega) (by simpa using hl)
          simpa using this
        · cases h
      · cases h
    · rename_i fs hu
      obtain ⟨xs, m, -, -, -, hl1, hel⟩ := DataW.trod_struct hu hx
      have := open_fields (W := W) (enc := enc) (cs := cs) (n := m) (opens d) fs.toList 0 s (fun f hf => by
        obtain ⟨i, hi⟩ := List.mem_iff_getElem?.1 hf
        have hi' : fs[i]? = some f := by simpa using hi
        have hlt := (Array.getElem?_eq_some_iff.1 hi').1
        exact ⟨xs[i]'(by omega), by rw [hel i f hi', List.getElem?_eq_getElem (by omega)]⟩) h (by simpa using hl)
      simpa using this
    · cases h
end
end Go.Sx
