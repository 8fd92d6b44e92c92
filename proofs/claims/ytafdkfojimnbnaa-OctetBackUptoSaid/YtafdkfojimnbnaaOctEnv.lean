/-
  WHAT THE ROWS OF LAYER 4 NEED: the knob, the lay-out; a slice of bytes, of unsigned numbers, of values among the arguments, and what the bound on the bulk says of them. By an AI agent.
-/
import Derived.Test.YtafdkfojimnbnaaRows
import Derived.Test.YtafdkfojimnbnaaOctLawsD
import Derived.ChangeSlices
import Derived.SizedLaws
import Derived.OpenShut
import Derived.Deep.Slices
namespace Go.Proofs.Ytafdkfojimnbnaa
open Go.RowKit Go.ChangeShapes Go.WideShapes

theorem own : ownKnob Try.prog.godebug = none := by kernel_rfl
theorem laidOut : laidOutB Try.prog = true := by kernel_rfl
theorem cells8 : Try.prog.cellsOf 5 = 1 := by kernel_rfl
theorem cells64 : Try.prog.cellsOf 26 = 1 := by kernel_rfl
theorem cellsI : Try.prog.cellsOf 3 = 1 := by kernel_rfl
theorem cellsV : Try.prog.cellsOf 29 = 5 := by kernel_rfl
theorem bytes8 : Try.prog.bytesOf 5 = 1 := by kernel_rfl

/-! ### the bulk -/
theorem bulk_pos {H : Type} : ∀ d : DataW H, 0 < Rows.uptoBulk d := by
  rintro (⟨_ | _⟩ | _) <;> simp [Rows.uptoBulk]
theorem bulk_len {H : Type} : ∀ l : List (DataW H), l.length ≤ Rows.uptoBulkAll l
  | [] => by simp [Rows.uptoBulkAll]
  | x :: r => by have h1 := bulk_pos x; have h2 := bulk_len r; simp only [Rows.uptoBulkAll, List.length_cons]; omega
theorem bulk_slice {H : Type} (elems spare : List (DataW H)) : elems.length ≤ Rows.uptoBulk (.slice elems spare) ∧ Rows.uptoBulkAll elems ≤ Rows.uptoBulk (.slice elems spare) := by
  have h1 := bulk_len elems
  simp only [Rows.uptoBulk]
  omega

section
variable {H : Type} {enc : TypeId × Value → H} {W : World}
theorem RowIn.recode {α β : Type} {e1 : α → Value} {e2 : β → Value} {lo hi : Nat} {w : World} {v : Value} {l : List α} (f : α → β) (h : RowIn e1 lo hi w v l) (hf : ∀ x ∈ l, e1 x = e2 (f x)) : RowIn e2 lo hi w v (l.map f) := by
  obtain ⟨a, cap, rfl, h1, h2, h3, h4⟩ := h
  refine ⟨a, cap, by rw [List.length_map], by rw [List.length_map]; exact h1, h2, h3, fun i y hy => ?_⟩
  rw [List.getElem?_map] at hy
  obtain ⟨x, hx, rfl⟩ := Option.map_eq_some_iff.1 hy
  obtain ⟨b, o, e, h5, h6, h7, h8⟩ := h4 i x hx
  exact ⟨b, o, e, h5, h6, h7, by rw [h8, hf x (List.mem_of_getElem? hx)]⟩
/-- a slice of integers of any kind, opened -/
theorem open_row {k : IntKind} {e t : TypeId} {fuel : Nat} {v : Value} {x : DataW H × List MemPlace} (ht : Try.prog.underlying t = some (.slice e)) (he : Try.prog.underlying e = some (.int k)) (hc : Try.prog.cellsOf e = 1)
    (h : DataW.trod enc Try.prog W 0 (fun _ => true) true fuel t [v] = some x) :
    ∃ zs : List Int, RowIn (Value.int k) 0 W.heap.size W v zs ∧ (∀ z ∈ zs, (Lit.int k z).wf = true) ∧ ((x.1 = .nil ∧ zs = []) ∨ ∃ elems spare, x.1 = .slice elems spare ∧ elems.length = zs.length) := by
  rcases open_ints ht he hc h with ⟨hcs, hx⟩ | ⟨a, len, cap, zs, hcs, _, hl, hm, hz, hx, hcell, hwf⟩
  · have e : v = .slice none 0 0 := by simpa using hcs
    subst e
    exact ⟨[], RowIn.nil _ _ _ _, (fun z hz => by cases hz), .inl ⟨by rw [hx], rfl⟩⟩
  · have e : v = .slice (some a) len cap := by simpa using hcs
    subst e
    have hz' : zs.length = cap := by simpa using hz
    have hlen : (zs.take len).length = len := by simp; omega
    refine ⟨zs.take len, ⟨some a, cap, by rw [hlen], by rw [hlen]; exact hl, hm, fun h => by simp at h, fun i x hxi => ?_⟩, fun z hz => hwf z (List.mem_of_mem_take hz), .inr ⟨_, _, by rw [hx], by simp [lits]⟩⟩
    have hi : i < len := by have := (List.getElem?_eq_some_iff.1 hxi).1; rw [hlen] at this; exact this
    have h0 := hcell 0 (by omega)
    have hspot : a.spot = none := by
      have := World.cell?_spot h0
      simpa [Addr.add] using this
    obtain ⟨b, o, sp⟩ := a
    simp only at hspot
    subst hspot
    have hlt : b < W.heap.size := by
      have := World.block_lt_of_cell? W _ h0
      simpa [Addr.add] using this
    refine ⟨b, o, rfl, Nat.zero_le _, hlt, hlt, ?_⟩
    have hci := hcell i (by omega)
    have hadd : (⟨b, o, none⟩ : Addr).add i = ⟨b, o + i, none⟩ := by unfold Addr.add; split <;> simp_all
    rw [hadd] at hci
    have hz0 : zs[i]? = some x := by rw [List.getElem?_take, if_pos hi] at hxi; exact hxi
    rw [hci, List.getD_eq_getElem?_getD, hz0]
    rfl
theorem one_value {t e : TypeId} {b0 : Nat} {v : Value} (ht : Try.prog.underlying t = some (.slice e)) (hok : Value.okWide Try.prog W .any b0 t v) : v.cells.toList = [v] := by
  obtain ⟨a0, len, cap, rfl⟩ := okWide_slice ht hok
  rfl
/-- a slice of bytes among the arguments -/
theorem open_arg_bytes {b0 : Nat} {v : Value} {d : DataW H} {ps : List MemPlace} (hok : Value.okWide Try.prog W .any b0 22 v) (hd : DataW.Trod enc Try.prog W 0 (fun _ => true) true 22 v d ps) :
    ∃ l : List UInt8, Bytes W v l ∧ ((d = .nil ∧ l = []) ∨ ∃ elems spare, d = .slice elems spare ∧ elems.length = l.length) := by
  obtain ⟨fuel, hf⟩ := hd
  rw [one_value Try.underlying22 hok] at hf
  obtain ⟨zs, hr, hwf, hx⟩ := open_row Try.underlying22 Try.underlying5 cells8 hf
  refine ⟨zs.map fun z => UInt8.ofNat z.toNat, hr.recode _ fun z hz => ?_, ?_⟩
  · have := bounds_u8 (hwf z hz)
    unfold encB
    rw [UInt8.toNat_ofNat_of_lt' (by simp; omega)]
    congr 1
    omega
  · rcases hx with ⟨h1, rfl⟩ | ⟨elems, spare, h1, h2⟩
    · exact .inl ⟨h1, rfl⟩
    · exact .inr ⟨elems, spare, h1, by rw [List.length_map]; exact h2⟩
theorem bytes_bulk {d : DataW H} {l : List UInt8} (h : (d = .nil ∧ l = []) ∨ ∃ elems spare, d = .slice elems spare ∧ elems.length = l.length) : l.length ≤ Rows.uptoBulk d := by
  rcases h with ⟨_, rfl⟩ | ⟨elems, spare, rfl, h2⟩
  · simp
  · have := (bulk_slice elems spare).1; omega
theorem bytes_reach {d : DataW H} {l : List UInt8} {ts : List TypeId} {ds : List (DataW H)} {j : Nat} (h : (d = .nil ∧ l = []) ∨ ∃ elems spare, d = .slice elems spare ∧ elems.length = l.length)
    (hsz : (DataW.weightsEach Try.prog ts ds).all (· ≤ reachBytes) = true) (ht : ts[j]? = some 22) (hdj : ds[j]? = some d) : l.length ≤ 140737488355328 := by
  rcases h with ⟨_, rfl⟩ | ⟨elems, spare, rfl, h2⟩
  · simp
  · have h3 := sized_slice hsz ht hdj Try.underlying22
    rw [bytes8] at h3
    have h4 := reachBytes_lt
    omega
/-- a slice of unsigned numbers -/
theorem open_arg_u64s {b0 : Nat} {v : Value} {d : DataW H} {ps : List MemPlace} (hok : Value.okWide Try.prog W .any b0 24 v) (hd : DataW.Trod enc Try.prog W 0 (fun _ => true) true 24 v d ps) :
    ∃ l : List Nat, U64s W v l ∧ Fits64 l ∧ l.length ≤ Rows.uptoBulk d := by
  obtain ⟨fuel, hf⟩ := hd
  rw [one_value Try.underlying24 hok] at hf
  obtain ⟨zs, hr, hwf, hx⟩ := open_row Try.underlying24 Try.underlying26 cells64 hf
  refine ⟨zs.map Int.toNat, hr.recode _ fun z hz => ?_, ?_, ?_⟩
  · have := bounds_u64 (hwf z hz)
    unfold encU
    congr 1
    omega
  · intro x hx
    obtain ⟨z, hz, rfl⟩ := List.mem_map.1 hx
    have := bounds_u64 (hwf z hz)
    omega
  · rcases hx with ⟨_, rfl⟩ | ⟨elems, spare, h1, h2⟩
    · simp
    · replace h1 : d = .slice elems spare := h1
      subst h1
      have := (bulk_slice elems spare).1
      rw [List.length_map]
      omega
/-- one value, out of its five cells -/
theorem open_val {fuel : Nat} {cs : List Value} {x : DataW H × List MemPlace} (h : DataW.trod enc Try.prog W 0 (fun _ => true) true fuel 29 cs = some x) :
    ∃ y : Val, cs = y.cells.toList ∧ y.u < 18446744073709551616 ∧ (-9223372036854775808 ≤ y.n ∧ y.n ≤ 9223372036854775807) ∧ RowIn (Value.int .i64) 0 W.heap.size W y.lv y.ll ∧ Oct.Fits y.ll ∧ y.room ≤ 10 * Rows.uptoBulk x.1 := by
  obtain ⟨xs, n, -, hx, hlen, hxl, hf⟩ := DataW.trod_struct Try.underlying29 h
  rw [cellsV] at hlen
  match cs, hlen with
  | [c0, c1, c2, c3, c4], _ =>
    match xs, hxl with
    | [x0, x1, x2, x3, x4], _ =>
      have g0 : DataW.trod enc Try.prog W 0 (fun _ => true) true n 3 [c0] = some x0 := hf 0 _ rfl
      have g1 : DataW.trod enc Try.prog W 0 (fun _ => true) true n 26 [c1] = some x1 := hf 1 _ rfl
      have g2 : DataW.trod enc Try.prog W 0 (fun _ => true) true n 3 [c2] = some x2 := hf 2 _ rfl
      have g3 : DataW.trod enc Try.prog W 0 (fun _ => true) true n 9 [c3] = some x3 := hf 3 _ rfl
      have g4 : DataW.trod enc Try.prog W 0 (fun _ => true) true n 27 [c4] = some x4 := hf 4 _ rfl
      obtain ⟨kind, e0, -, -⟩ := DataW.trod_int Try.underlying3 g0
      obtain ⟨u, e1, -, w1⟩ := DataW.trod_int Try.underlying26 g1
      obtain ⟨m, e2, -, w2⟩ := DataW.trod_int Try.underlying3 g2
      obtain ⟨s, e3, y3, -⟩ := DataW.trod_string Try.underlying9 g3
      obtain ⟨zs, hr, hwf, hz⟩ := open_row Try.underlying27 Try.underlying3 cellsI g4
      have hu := bounds_u64 w1
      refine ⟨⟨kind, u.toNat, m, s, c4, zs⟩, ?_, ?_, bounds_i64 w2, hr, fun z hz => bounds_i64 (hwf z hz), ?_⟩
      · simp only [List.cons.injEq, and_true] at e0 e1 e2 e3
        subst e0 e1 e2 e3
        have : ((u.toNat : Nat) : Int) = u := by omega
        simp [Val.cells, this]
      · show u.toNat < _
        omega
      · have h4 : zs.length ≤ Rows.uptoBulk x4.1 := by
          rcases hz with ⟨_, rfl⟩ | ⟨elems, spare, h1, h2⟩
          · simp
          · rw [h1]; have := (bulk_slice elems spare).1; omega
        have p0 := bulk_pos x0.1
        have p1 := bulk_pos x1.1
        have p2 := bulk_pos x2.1
        have p3 : Rows.uptoBulk x3.1 = s.size + 1 := by rw [y3]; simp [Rows.uptoBulk]
        rw [hx]
        simp only [Val.room, List.map_cons, List.map_nil, Rows.uptoBulk, Rows.uptoBulkAll]
        omega
theorem rooms_bulk {X : Nat → Val} {D : Nat → DataW H} : ∀ (is : List Nat), (∀ i ∈ is, (X i).room ≤ 10 * Rows.uptoBulk (D i)) → rooms (is.map X) ≤ 10 * Rows.uptoBulkAll (is.map D)
  | [], _ => by simp [rooms]
  | i :: r, h => by
    have h1 := h i (by simp)
    have h2 := rooms_bulk r fun j hj => h j (by simp [hj])
    unfold rooms at *
    simp only [List.map_cons, List.sum_cons, Rows.uptoBulkAll]
    omega
/-- a slice of values among the arguments -/
theorem open_arg_vals {b0 : Nat} {v : Value} {d : DataW H} {ps : List MemPlace} (hok : Value.okWide Try.prog W .any b0 23 v) (hd : DataW.Trod enc Try.prog W 0 (fun _ => true) true 23 v d ps) :
    ∃ xs : List Val, Vals W.heap.size W v xs ∧ rooms xs ≤ 10 * Rows.uptoBulk d := by
  obtain ⟨fuel, hf⟩ := hd
  rw [one_value Try.underlying23 hok] at hf
  rcases Go.Deep.open_slice Try.underlying23 hf with ⟨hcs, hx⟩ | ⟨a, len, cap, m, n, D, Pl, hcs, -, hl, hm, hmm, hx, hi⟩
  · have e : v = .slice none 0 0 := by simpa using hcs
    subst e
    exact ⟨[], ⟨_, _, rfl, Nat.le_refl _, by decide, fun i x h => by simp at h⟩, by simp [rooms]⟩
  · have e : v = .slice (some a) len cap := by simpa using hcs
    subst e
    simp only [if_true] at hmm
    have hmc := hmm.symm
    subst hmc
    rw [cellsV] at hi
    have each : ∀ i, i < len → ∃ y : Val, (∀ j c, y.cells[j]? = some c → W.cell? ((a.add (i * 5)).add j) = some c) ∧ y.u < 18446744073709551616 ∧ (-9223372036854775808 ≤ y.n ∧ y.n ≤ 9223372036854775807) ∧ RowIn (Value.int .i64) 0 W.heap.size W y.lv y.ll ∧ Oct.Fits y.ll ∧ y.room ≤ 10 * Rows.uptoBulk (D i) := by
      intro i hil
      obtain ⟨cs', hc, ht⟩ := hi i (by omega)
      obtain ⟨y, hy, h1, h2, h3, h4, h5⟩ := open_val ht
      obtain ⟨-, hcl, hat⟩ := World.cells?_some hc
      refine ⟨y, fun j c hj => ?_, h1, h2, h3, h4, h5⟩
      have hj5 : j < 5 := (Array.getElem?_eq_some_iff.1 hj).1
      rw [hat j hj5, hy]
      simpa using hj
    let X : Nat → Val := fun i => if h : i < len then (each i h).choose else default
    have hX : ∀ i, i < len → (∀ j c, (X i).cells[j]? = some c → W.cell? ((a.add (i * 5)).add j) = some c) ∧ (X i).u < 18446744073709551616 ∧ (-9223372036854775808 ≤ (X i).n ∧ (X i).n ≤ 9223372036854775807) ∧ RowIn (Value.int .i64) 0 W.heap.size W (X i).lv (X i).ll ∧ Oct.Fits (X i).ll ∧ (X i).room ≤ 10 * Rows.uptoBulk (D i) := by
      intro i h
      have e : X i = (each i h).choose := dif_pos h
      rw [e]
      exact (each i h).choose_spec
    have hlen : ((List.range len).map X).length = len := by simp
    refine ⟨(List.range len).map X, ⟨some a, cap, by rw [hlen], by rw [hlen]; exact hl, hm, fun i x hx' => ?_⟩, ?_⟩
    · have hil : i < len := by have := (List.getElem?_eq_some_iff.1 hx').1; rw [hlen] at this; exact this
      have ex : x = X i := by
        rw [List.getElem?_map, List.getElem?_range hil] at hx'
        simpa using hx'.symm
      subst ex
      obtain ⟨h1, h2, h3, h4, h5, -⟩ := hX i hil
      have h0 := (hX 0 (by omega)).1 0 _ rfl
      have hspot : a.spot = none := by
        have := World.cell?_spot h0
        simpa [Addr.add] using this
      obtain ⟨b, o, sp⟩ := a
      simp only at hspot
      subst hspot
      have hlt : b < W.heap.size := by
        have := World.block_lt_of_cell? W _ h0
        simpa [Addr.add] using this
      refine ⟨b, o, rfl, hlt, h2, h3, h4, h5, fun j y hy => ?_⟩
      have := h1 j y hy
      have hadd : ((⟨b, o, none⟩ : Addr).add (i * 5)).add j = ⟨b, o + i * 5 + j, none⟩ := by
        rw [Go.Deep.add_add]
        unfold Addr.add
        split <;> simp_all <;> omega
      rw [hadd] at this
      exact this
    · have h1 := rooms_bulk (X := X) (D := D) (List.range len) fun i hi => (hX i (by simpa using hi)).2.2.2.2.2
      have h2 : d = .slice ((List.range len).map D) ((List.range (cap - len)).map fun j => D (len + j)) := by
        have := congrArg Prod.fst hx
        exact this
      subst h2
      have := (bulk_slice ((List.range len).map D) ((List.range (cap - len)).map fun j => D (len + j))).2
      omega
end
end Go.Proofs.Ytafdkfojimnbnaa
