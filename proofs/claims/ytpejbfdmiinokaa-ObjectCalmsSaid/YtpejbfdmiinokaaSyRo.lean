/-
  RUNS RECKONED AHEAD: rows that grow: slices of the call's own, told as data. By an AI agent.
-/
import Derived.Test.YtpejbfdmiinokaaSyFr
import Derived.Laws.AppendOwn
namespace Go.Sx
open Go.RowKit
/-- letter i is a row of the call's own: elements of type e, of z cells -/
structure Rt where
  i : Nat
  e : TypeId
  z : Nat
/-- what the rows hold; blocks that stay as they are from world V on -/
structure Ga where
  rows : Nat → List (List Value)
  Z : Nat → Prop
  V : World
instance : CoeFun Ga (fun _ => Nat → List (List Value)) := ⟨Ga.rows⟩
/-- what was there stays as it is -/
def Ga.base (W : World) : Ga := ⟨fun _ => [], fun b => b < W.heap.size, W⟩
structure OwnR (W w : World) (r : List Nat) (m : AM) (v : Value) (e : TypeId) (z : Nat) (l : List (List Value)) : Prop where
  len : ∀ c ∈ l, c.length = z
  own : w.ownsRow W.heap.size e z v l.length l.flatten
  apart : ∀ k, v.ownBlock = some k → ¬ D r m k
section
variable {P : Program} {G : Nat} {W w w' : World} {ρ : Nat → Value} {γ : Ga} {r r' : List Nat} {m m' : AM} {v : Value} {e : TypeId} {z : Nat} {l : List (List Value)}
theorem OwnR.nil (e : TypeId) (z : Nat) : OwnR W w r m (.slice none 0 0) e z [] := ⟨by simp, World.ownsRow_nil _ _ _ _, fun k h => by cases h⟩
theorem owns_keep {B n : Nat} {xs : List Value} (h : w.ownsRow B e z v n xs) (hk : ∀ k, v.ownBlock = some k → w'.heap[k]? = w.heap[k]?) : w'.ownsRow B e z v n xs := by
  refine ⟨h.1, ?_⟩
  rcases h.2 with hn | ⟨g, cap, cur, rfl, hB, hg, rest⟩
  · exact .inl hn
  · exact .inr ⟨g, cap, cur, rfl, hB, by rw [hk g rfl]; exact hg, rest⟩
theorem OwnR.step (h : OwnR W w r m v e z l) (hs : Step r m w r' m' w') : OwnR W w' r' m' v e z l := by
  have hlt := fun k hk => (World.ownsRow.lt h.own k hk).2
  refine ⟨h.len, owns_keep h.own fun k hk => hs.block k (hlt k hk) (h.apart k hk), fun k hk hd => ?_⟩
  rcases hs.dom k hd with h1 | h1
  · exact h.apart k hk h1
  · have := hlt k hk; omega
theorem OwnR.tag (h : OwnR W w r m v e z l) : hasTag 10 v := by
  rcases h.own.2 with ⟨rfl, -⟩ | ⟨g, cap, cur, rfl, -, -, h1, h2, -⟩
  · exact ⟨rfl, by decide, fun _ => rfl, fun p h => by cases h⟩
  · refine ⟨rfl, ?_, fun h => (by cases h), fun p h _ => ?_⟩
    · unfold maxLen at h2; omega
    · injection h with h; rw [← h]
theorem OwnR.value (h : OwnR W w r m v e z l) : ∃ p c, v = .slice p l.length c := by
  rcases h.own.2 with ⟨rfl, hn⟩ | ⟨g, cap, cur, rfl, -⟩
  · exact ⟨none, 0, by rw [hn]⟩
  · exact ⟨_, _, rfl⟩
theorem D.cv {E : Es} {h0 : Nat} {m0 : AM} {k : Nat} (h : cvM E h0 G m m0 = true) (hd : D (r.take m0.n) m0 k) : D r m k := by
  obtain ⟨i, x, hx, hro, hr⟩ := hd
  unfold cvM at h
  split at h
  · obtain ⟨hi, y, hy, -, -, e3, -⟩ := cvB_spec h i x hx
    refine ⟨i, y, hy, by rw [e3]; exact hro, ?_⟩
    rw [List.getElem?_take, if_pos hi] at hr
    exact hr
  · cases h
theorem OwnR.cv {E : Es} {h0 : Nat} {m0 : AM} (h : OwnR W w r m v e z l) (hc : cvM E h0 G m m0 = true) : OwnR W w (r.take m0.n) m0 v e z l := ⟨h.len, h.own, fun k hk hd => h.apart k hk (hd.cv hc)⟩
/-- all rows, and no two of them in one block -/
structure Rows (W w : World) (r : List Nat) (m : AM) (ρ : Nat → Value) (γ : Ga) (L : List Rt) : Prop where
  each : ∀ x ∈ L, OwnR W w r m (ρ x.i) x.e x.z (γ x.i)
  two : ∀ x ∈ L, ∀ y ∈ L, x.i ≠ y.i → ∀ k, (ρ x.i).ownBlock = some k → (ρ y.i).ownBlock ≠ some k
  fz : ∀ b, γ.Z b → b < γ.V.heap.size ∧ w.heap[b]? = γ.V.heap[b]? ∧ ¬ D r m b ∧ ∀ x ∈ L, (ρ x.i).ownBlock ≠ some b
/-- a state that is told over letters, rows among them -/
def InvR (P : Program) (G : Nat) (W : World) (ρ : Nat → Value) (γ : Ga) (L : List Rt) (nt : Nat) (t : Tr) (m : AM) (b : Act) (w : World) : Prop :=
  ∃ r, @AcT (thOf ρ W) nt r t b ∧ @Wd (thOf ρ W) P G W r m w ∧ W.heap.size ≤ w.heap.size ∧ Rows W w r m ρ γ L
theorem Inv.rows {nt : Nat} {t : Tr} {b : Act} (h : Inv P G W ρ nt t m b w) : InvR P G W ρ (Ga.base W) [] nt t m b w := by
  obtain ⟨r, h1, h2, h3⟩ := h
  refine ⟨r, h1, h2, h3, fun _ h => by simp at h, fun _ h => (by simp at h), fun k hk => ⟨hk, (@Wd.low (thOf ρ W) _ _ _ _ _ _ h2).block k hk, fun ⟨i, x, hx, hro, hi⟩ => ?_, fun _ h => by simp at h⟩⟩
  obtain ⟨b', c', g1, g2, -⟩ := @Wd.at_ (thOf ρ W) _ _ _ _ _ _ h2 i x hx
  rw [hi] at g1
  injection g1 with g1
  subst g1
  have := g2 hro
  have hk : k < W.heap.size := hk
  omega
theorem InvR.inv {L : List Rt} {nt : Nat} {t : Tr} {b : Act} (h : InvR P G W ρ γ L nt t m b w) : Inv P G W ρ nt t m b w := by
  obtain ⟨r, h1, h2, h3, -⟩ := h
  exact ⟨r, h1, h2, h3⟩
theorem InvR.sub {L L' : List Rt} {nt : Nat} {t : Tr} {b : Act} (h : InvR P G W ρ γ L nt t m b w) (hs : ∀ x ∈ L', x ∈ L) : InvR P G W ρ γ L' nt t m b w := by
  obtain ⟨r, h1, h2, h3, h4⟩ := h
  exact ⟨r, h1, h2, h3, fun x hx => h4.each x (hs x hx), fun x hx y hy => h4.two x (hs x hx) y (hs y hy), fun b hb => ⟨(h4.fz b hb).1, (h4.fz b hb).2.1, (h4.fz b hb).2.2.1, fun x hx => (h4.fz b hb).2.2.2 x (hs x hx)⟩⟩
theorem InvR.row {L : List Rt} {nt : Nat} {t : Tr} {b : Act} (h : InvR P G W ρ γ L nt t m b w) {x : Rt} (hx : x ∈ L) : ∃ r, OwnR W w r m (ρ x.i) x.e x.z (γ x.i) := by
  obtain ⟨r, h1, h2, h3, h4⟩ := h
  exact ⟨r, h4.each x hx⟩
end
/-- where a row of a way out comes from: a letter, or a new row -/
def rowSrc (E : Es) (x : Rt) : Option (Option Nat) := match lookE E x.i with
  | none => some (some x.i)
  | some (.iface g (.int .u64 (.ofNat i))) => match Nat.beq g 10 with
    | true => some (some i)
    | false => none
  | some (.slice none 0 0) => some none
  | _ => none
def hasR (L : List Rt) (i : Nat) (x : Rt) : Bool := L.any fun y => Nat.beq y.i i && (Nat.beq y.e x.e && Nat.beq y.z x.z)
def srcNe : Option (Option Nat) → Option (Option Nat) → Bool
  | some (some i), some (some j) => !Nat.beq i j
  | _, _ => true
def rowsOk (E : Es) (L L' : List Rt) : Bool := (L'.all fun x => match rowSrc E x with
  | some none => true
  | some (some i) => hasR L i x
  | none => false) && L'.all fun x => L'.all fun y => Nat.beq x.i y.i || srcNe (rowSrc E x) (rowSrc E y)
/-- what the rows hold next -/
noncomputable def updR (γ : Ga) (E : Es) (i : Nat) : List (List Value) := match lookE E i with
  | none => γ i
  | some (.iface _ (.int .u64 (.ofNat j))) => γ j
  | some _ => []
noncomputable def updG (γ : Ga) (E : Es) : Ga := ⟨updR γ E, γ.Z, γ.V⟩
section
variable {P : Program} {G : Nat} {W w w' : World} {ρ : Nat → Value} {γ : Ga} {r r' : List Nat} {m m' : AM}
theorem src_spec {E : Es} {x : Rt} {L : List Rt} (h : Rows W w r m ρ γ L) : (∀ i, rowSrc E x = some (some i) → hasR L i x = true → upd ρ E x.i = ρ i ∧ updG γ E x.i = γ i ∧ OwnR W w r m (ρ i) x.e x.z (γ i) ∧ ∃ y ∈ L, y.i = i) ∧
    (rowSrc E x = some none → upd ρ E x.i = .slice none 0 0 ∧ updG γ E x.i = []) := by
  have own : ∀ i, hasR L i x = true → OwnR W w r m (ρ i) x.e x.z (γ i) ∧ ∃ y ∈ L, y.i = i := fun i hi => by
    unfold hasR at hi
    rw [List.any_eq_true] at hi
    obtain ⟨y, hy, hi⟩ := hi
    rw [Bool.and_eq_true, Bool.and_eq_true] at hi
    obtain ⟨h1, h2, h3⟩ := hi
    have h1 := Nat.eq_of_beq_eq_true h1
    have h2 := Nat.eq_of_beq_eq_true h2
    have h3 := Nat.eq_of_beq_eq_true h3
    have := h.each y hy
    rw [h1, h2, h3] at this
    exact ⟨this, y, hy, h1⟩
  show _ ∧ _
  unfold updG
  simp only
  unfold rowSrc upd updR
  cases hl : lookE E x.i with
  | none =>
    refine ⟨fun i hi ho => ?_, fun hi => by simp at hi⟩
    simp only [Option.some.injEq] at hi
    subst hi
    exact ⟨rfl, rfl, own _ ho⟩
  | some u =>
    simp only
    split
    · rename_i heq
      cases heq
    · rename_i g i heq
      injection heq with heq
      subst heq
      split
      · rename_i hg
        have hg := Nat.eq_of_beq_eq_true hg
        subst hg
        refine ⟨fun j hj ho => ?_, fun hi => by simp at hi⟩
        simp only [Option.some.injEq] at hj
        subst hj
        have := own i ho
        refine ⟨?_, rfl, this⟩
        exact dn_let' (g := 10) (by decide) this.1.tag
      · exact ⟨fun i hi => (by simp at hi), fun hi => (by simp at hi)⟩
    · rename_i heq
      injection heq with heq
      subst heq
      exact ⟨fun i hi => (by simp at hi), fun _ => ⟨dn_dry ρ rfl, rfl⟩⟩
    · exact ⟨fun i hi => (by simp at hi), fun hi => (by simp at hi)⟩
theorem Rows.next {E : Es} {L L' : List Rt} (h : Rows W w r m ρ γ L) (hk : rowsOk E L L' = true) : Rows W w r m (upd ρ E) (updG γ E) L' := by
  unfold rowsOk at hk
  rw [Bool.and_eq_true, List.all_eq_true, List.all_eq_true] at hk
  obtain ⟨k1, k2⟩ := hk
  refine ⟨fun x hx => ?_, fun x hx y hy hne k hbx hby => ?_, fun b hb => ⟨(h.fz b hb).1, (h.fz b hb).2.1, (h.fz b hb).2.2.1, fun x hx e => ?_⟩⟩
  · have h1 := k1 x hx
    split at h1
    · rename_i hs
      obtain ⟨e1, e2⟩ := (src_spec h).2 hs
      rw [e1, e2]
      exact OwnR.nil _ _
    · rename_i i hs
      obtain ⟨e1, e2, e3, -⟩ := (src_spec h).1 i hs h1
      rw [e1, e2]
      exact e3
    · cases h1
  · have h1 := k1 x hx
    have h2 := k1 y hy
    have h3 := k2 x hx
    rw [List.all_eq_true] at h3
    have h3 := h3 y hy
    rw [Bool.or_eq_true] at h3
    rcases h3 with h3 | h3
    · exact hne (Nat.eq_of_beq_eq_true h3)
    · split at h1
      · rename_i hs
        obtain ⟨e1, -⟩ := (src_spec h).2 hs
        rw [e1] at hbx
        cases hbx
      · rename_i i hs
        split at h2
        · rename_i hs2
          obtain ⟨e1, -⟩ := (src_spec h).2 hs2
          rw [e1] at hby
          cases hby
        · rename_i j hs2
          obtain ⟨e1, -, -, a, ha, hai⟩ := (src_spec h).1 i hs h1
          obtain ⟨e2, -, -, c, hc, hcj⟩ := (src_spec h).1 j hs2 h2
          rw [hs, hs2] at h3
          have hij : i ≠ j := by
            have h3 : (!Nat.beq i j) = true := h3
            intro e
            subst e
            rw [Nat.beq_refl] at h3
            cases h3
          rw [e1, ← hai] at hbx
          rw [e2, ← hcj] at hby
          exact h.two a ha c hc (by rw [hai, hcj]; exact hij) k hbx hby
        · cases h2
      · cases h1
  · have h1 := k1 x hx
    split at h1
    · rename_i hs
      obtain ⟨e1, -⟩ := (src_spec h).2 hs
      rw [e1] at e
      cases e
    · rename_i i hs
      obtain ⟨e1, -, -, a, ha, hai⟩ := (src_spec h).1 i hs h1
      rw [e1, ← hai] at e
      exact (h.fz b hb).2.2.2 a ha e
    · cases h1
theorem get_lt {w V : World} {b : Nat} (hb : b < V.heap.size) (h : w.heap[b]? = V.heap[b]?) : b < w.heap.size := by
  rw [Array.getElem?_eq_getElem hb] at h
  exact (Array.getElem?_eq_some_iff.1 h).1
theorem Rows.step {L : List Rt} (h : Rows W w r m ρ γ L) (hs : Step r m w r' m' w') : Rows W w' r' m' ρ γ L := ⟨fun x hx => (h.each x hx).step hs, h.two, fun b hb => by
  obtain ⟨h1, h2, h3, h4⟩ := h.fz b hb
  have hlt := get_lt h1 h2
  refine ⟨h1, (hs.block b hlt h3).trans h2, fun hd => ?_, h4⟩
  rcases hs.dom b hd with h5 | h5
  · exact h3 h5
  · omega⟩
theorem Rows.cv {L : List Rt} {E : Es} {h0 : Nat} {m0 : AM} (h : Rows W w r m ρ γ L) (hc : cvM E h0 G m m0 = true) : Rows W w (r.take m0.n) m0 ρ γ L := ⟨fun x hx => (h.each x hx).cv hc, h.two, fun b hb => ⟨(h.fz b hb).1, (h.fz b hb).2.1, fun hd => (h.fz b hb).2.2.1 (hd.cv hc), (h.fz b hb).2.2.2⟩⟩
theorem Rows.congr {L : List Rt} {ρ' : Nat → Value} {γ' : Ga} (h : Rows W w r m ρ γ L) (hr : ∀ x ∈ L, ρ' x.i = ρ x.i ∧ γ' x.i = γ x.i) (hZ : γ'.Z = γ.Z ∧ γ'.V = γ.V) : Rows W w r m ρ' γ' L :=
  ⟨fun x hx => by rw [(hr x hx).1, (hr x hx).2]; exact h.each x hx, fun x hx y hy => by rw [(hr x hx).1, (hr y hy).1]; exact h.two x hx y hy, fun b hb => by
    rw [hZ.1] at hb
    rw [hZ.2]
    exact ⟨(h.fz b hb).1, (h.fz b hb).2.1, (h.fz b hb).2.2.1, fun x hx => by rw [(hr x hx).1]; exact (h.fz b hb).2.2.2 x hx⟩⟩
/-- a row that nothing is appended to any more stays as it is -/
theorem InvR.freeze {x : Rt} {L : List Rt} {nt : Nat} {t : Tr} {b : Act} (h : InvR P G W ρ γ (x :: L) nt t m b w) (hL : ∀ y ∈ L, y.i ≠ x.i) :
    InvR P G W ρ ⟨γ.rows, fun k => γ.Z k ∨ (ρ x.i).ownBlock = some k, w⟩ L nt t m b w ∧ (∃ r, OwnR W w r m (ρ x.i) x.e x.z (γ x.i)) ∧ ∀ k, γ.Z k → k < γ.V.heap.size ∧ w.heap[k]? = γ.V.heap[k]? := by
  obtain ⟨r, h1, h2, h3, h4⟩ := h
  have hx := h4.each x List.mem_cons_self
  refine ⟨⟨r, h1, h2, h3, fun y hy => h4.each y (List.mem_cons_of_mem _ hy), fun y hy z hz => h4.two y (List.mem_cons_of_mem _ hy) z (List.mem_cons_of_mem _ hz), fun k hk => ?_⟩, ⟨r, hx⟩, fun k hk => ⟨(h4.fz k hk).1, (h4.fz k hk).2.1⟩⟩
  rcases hk with hk | hk
  · obtain ⟨g1, g2, g3, g4⟩ := h4.fz k hk
    exact ⟨get_lt g1 g2, rfl, g3, fun y hy => g4 y (List.mem_cons_of_mem _ hy)⟩
  · refine ⟨(World.ownsRow.lt hx.own k hk).2, rfl, hx.apart k hk, fun y hy e => ?_⟩
    exact h4.two x List.mem_cons_self y (List.mem_cons_of_mem _ hy) (fun e => hL y hy e.symm) k hk e
end
/-- a tree's leaves carry the rows on -/
def rowsT (L : List Rt) (ls : List (List Rt)) : TP → Bool
  | .o j E => match ls[j]? with
    | some L' => rowsOk E L L'
    | none => false
  | .n _ a b => match rowsT L ls a with
    | true => rowsT L ls b
    | false => false
  | .x => true
def TP.SemR (ρ : Nat → Value) (γ : Ga) (W : World) (X : Nat → (Nat → Value) → Ga → Prop) : TP → Prop
  | .o j E => X j (upd ρ E) (updG γ E)
  | .n t a b => (@De (thOf ρ W) t (.bool true) → a.SemR ρ γ W X) ∧ (@De (thOf ρ W) t (.bool false) → b.SemR ρ γ W X)
  | .x => False
/-- where a piece has come out -/
def CameR (P : Program) (G : Nat) (W : World) (nt : Nat) (xs : List Xt) (ls : List (List Rt)) (X : Nat → (Nat → Value) → Ga → Prop) (e : Exit) (b : Act) (w : World) : Prop :=
  ∃ j ρ' γ' x L, X j ρ' γ' ∧ xs[j]? = some x ∧ ls[j]? = some L ∧ e = x.o.toExit ∧ InvR P G W ρ' γ' L nt x.t x.m b w
section
variable {P : Program} {G : Nat} {W : World} {ρ : Nat → Value} {γ : Ga} {env : Fs → EnvF} {M : List (Value × List Value)}
theorem chkP_leafR {run : Fs → Option (Out × Tr × AM)} {h0 nt : Nat} {xs : List Xt} {L : List Rt} {ls : List (List Rt)} {X : Nat → (Nat → Value) → Ga → Prop} : ∀ (T : TP) (F : Fs), chkP run h0 G nt xs T F = true → rowsT L ls T = true → @SatL (thOf ρ W) F → T.SemR ρ γ W X →
    ∃ F' j E L', @SatL (thOf ρ W) F' ∧ chkX h0 G nt E (run F') xs[j]? = true ∧ ls[j]? = some L' ∧ rowsOk E L L' = true ∧ X j (upd ρ E) (updG γ E)
  | .o j E, F, h, hr, hF, hS => by
    unfold rowsT at hr
    split at hr
    · rename_i L' hl
      exact ⟨F, j, E, L', hF, h, hl, hr, hS⟩
    · cases hr
  | .x, _, _, _, _, hS => hS.elim
  | .n t a b, F, h, hr, hF, hS => by
    unfold rowsT at hr
    split at hr
    · rename_i hra
      unfold chkP at h
      split at h
      · rename_i ht
        split at h
        · rename_i ha
          haveI := ts_of ρ W
          rcases @bt_bool (thOf ρ W) _ t ht with hd | hd
          · exact chkP_leafR a _ ha hra (fun p hp => by
              rcases List.mem_cons.1 hp with rfl | hp
              · exact hd
              · exact hF p hp) (hS.1 hd)
          · exact chkP_leafR b _ h hr (fun p hp => by
              rcases List.mem_cons.1 hp with rfl | hp
              · exact hd
              · exact hF p hp) (hS.2 hd)
        · cases h
      · cases h
    · cases hr
theorem runL_wpS (hN : NoGo P) (hM : P.follows .mixedOrders = true) {n nt : Nat} {F : Fs} (hK : Kn P G W ρ env M F) {Q : Exit → Act → World → Prop} (hQ : ∀ c a w, ¬ Q (.panic c) a w) : ∀ (l : List Code) (t : Tr) (m : AM) (o : Out) (t' : Tr) (m' : AM), runL P G env M n nt F l t m = some (o, t', m') →
    ∀ r b w, @AcT (thOf ρ W) nt r t b → @Wd (thOf ρ W) P G W r m w → W.heap.size ≤ w.heap.size →
    (∀ r' b' w', @AcT (thOf ρ W) nt r' t' b' → @Wd (thOf ρ W) P G W r' m' w' → W.heap.size ≤ w'.heap.size → Step r m w r' m' w' → Q o.toExit b' w') → seqWp P Q l b w
  | [], t, m, o, t', m', h, r, b, w, ha, hw, hB, k => by
    injection h with h
    injection h with h1 h
    injection h with h2 h3
    subst h1 h2 h3
    exact k r b w ha hw hB (Step.refl _ _ _)
  | c :: l, t, m, o, t', m', h, r, b, w, ha, hw, hB, k => by
    letI := thOf ρ W
    letI : Fx := ⟨F, M⟩
    haveI := ts_of ρ W
    haveI := at_of ρ W
    haveI : Sat := ⟨hK.sat, hK.mem⟩
    unfold runL at h
    have good := (evCode_good hN hM (hK.env F hK.sat) n).1
    have hnp : ∀ c a w, ¬ Exit.then (seqWp P Q l) Q (.panic c) a w := fun c a w h => hQ c a w h
    split at h
    · rename_i t1 m1 h1
      refine good nt c t m .normal t1 m1 h1 r b w ha hw hB _ hnp fun r1 b1 w1 ha1 hw1 hs1 => ?_
      exact runL_wpS hN hM hK hQ l t1 m1 o t' m' h r1 b1 w1 ha1 hw1 (Nat.le_trans hB hs1.size) fun r' b' w' h1 h2 h3 h4 => k r' b' w' h1 h2 h3 (hs1.trans h4)
    · rename_i hne
      refine good nt c t m o t' m' h r b w ha hw hB _ hnp fun r1 b1 w1 ha1 hw1 hs1 => ?_
      have := k r1 b1 w1 ha1 hw1 (Nat.le_trans hB hs1.size) hs1
      cases o with
      | normal => exact absurd h (hne _ _)
      | exit i => exact this
      | ret => exact this
/-- A PIECE: items without a loop over letters -/
theorem pieceR (hN : NoGo P) (hM : P.follows .mixedOrders = true) {n h0 nt : Nat} {l : List Code} {t : Tr} {m : AM} {xs : List Xt} {T : TP} {F : Fs} {L : List Rt} {ls : List (List Rt)} {X : Nat → (Nat → Value) → Ga → Prop}
    (hc : chkP (fun F => runL P G env M n nt F l t m) h0 G nt xs T F = true) (hr : rowsT L ls T = true) (hK : Kn P G W ρ env M F) (hS : T.SemR ρ γ W X) {b : Act} {w : World} (hI : InvR P G W ρ γ L nt t m b w) : seqWp P (CameR P G W nt xs ls X) l b w := by
  obtain ⟨F', j, E, L', h1, h2, h4, h5, h3⟩ := chkP_leafR T F hc hr hK.sat hS
  unfold chkX at h2
  split at h2
  · rename_i o t' m' x hr hx
    split at h2
    · rename_i k1 k2 k3
      have k1 := outEq_eq k1
      obtain ⟨r, ha, hw, hB, hR⟩ := hI
      refine runL_wpS hN hM ⟨h1, hK.mem, hK.env⟩ ?_ l t m o t' m' hr r b w ha hw hB fun r' b' w' ha' hw' hB' hs => ?_
      · rintro ch a w' ⟨j, ρ', γ', x, L, -, -, -, he, -⟩
        cases hx : x.o <;> rw [hx] at he <;> cases he
      · exact ⟨j, _, _, x, L', h3, hx, h4, by rw [k1], _, cvT_sound (upd_Upd E h0) k2 ha', cvM_sound (upd_Upd E h0) k3 hw', hB', ((hR.step hs).next h5).cv k3⟩
    · cases h2
  · cases h2
/-- the ways out of a loop's round: again, or one of the others -/
def RoundR (A : (Nat → Value) → Ga → Prop) (X : Nat → (Nat → Value) → Ga → Prop) : Nat → (Nat → Value) → Ga → Prop
  | 0, ρ, γ => A ρ γ
  | j + 1, ρ, γ => X j ρ γ
/-- A LOOP AMONG THE ITEMS. J k: what the letters and rows may be when k bounds the rounds that are left -/
theorem loopR {nt : Nat} {c : Code} {t : Tr} {m : AM} {xs : List Xt} {L : List Rt} {ls : List (List Rt)} {X : Nat → (Nat → Value) → Ga → Prop} {J : Nat → (Nat → Value) → Ga → Prop} {Q : Exit → Act → World → Prop} (hc : isLoop c = true) (hn : noNorm xs = true)
    (hb : ∀ k ρ γ, J k ρ γ → ∀ b w, InvR P G W ρ γ L nt t m b w → seqWp P (CameR P G W nt (⟨.normal, t, m⟩ :: xs) (L :: ls) (RoundR (fun ρ2 γ2 => ∃ k', k' < k ∧ J k' ρ2 γ2) X)) (flat (loopOf c)) b w)
    (hQ : ∀ j ρ' γ' x L' b' w', X j ρ' γ' → xs[j]? = some x → ls[j]? = some L' → InvR P G W ρ' γ' L' nt x.t x.m b' w' → Q (outOf (loopId c) x.o) b' w') :
    ∀ k ρ γ, J k ρ γ → ∀ b w, InvR P G W ρ γ L nt t m b w → c.wp P Q b w := by
  have at_ : ∀ k ρ γ, J k ρ γ → ∀ b w, InvR P G W ρ γ L nt t m b w → LoopAt P (loopOf c) (CameR P G W nt xs ls X) b w := by
    intro k
    induction k using Nat.strongRecOn with
    | ind k ih =>
      intro ρ γ hj b w hI
      refine LoopAt.of (wp_mono (seqWp_code _ _ _ (hb k ρ γ hj b w hI)) ?_)
      rintro e b' w' ⟨j, ρ2, γ2, y, L2, hX, hy, hl, rfl, hI2⟩
      cases j with
      | zero =>
        simp at hy hl
        subst hy hl
        obtain ⟨k', hk, hJ2⟩ := hX
        exact ih k' hk ρ2 γ2 hJ2 b' w' hI2
      | succ j =>
        have hy : xs[j]? = some y := by simpa using hy
        have hl : ls[j]? = some L2 := by simpa using hl
        have hno := noNorm_get hn hy
        have hfin : CameR P G W nt xs ls X y.o.toExit b' w' := ⟨j, ρ2, γ2, y, L2, hX, hy, hl, rfl, hI2⟩
        revert hfin
        cases hyo : y.o with
        | normal => exact absurd hyo hno
        | exit i => exact fun h => h
        | ret => exact fun h => h
  intro k ρ γ hj b w hI
  rw [isLoop_spec hc]
  refine wp_block (wp_mono ((at_ k ρ γ hj b w hI).wp) ?_)
  rintro e b' w' ⟨j, ρ2, γ2, y, L2, hX, hy, hl, rfl, hI2⟩
  have hq := hQ j ρ2 γ2 y L2 b' w' hX hy hl hI2
  have hno := noNorm_get hn hy
  revert hq
  unfold outOf
  cases hyo : y.o with
  | normal => exact absurd hyo hno
  | exit i =>
    intro hq
    show (if i = loopId c then Q .normal b' w' else Q (.exit i) b' w')
    simp only at hq
    split
    · rename_i h
      rw [if_pos h] at hq
      exact hq
    · rename_i h
      rw [if_neg h] at hq
      exact hq
  | ret => exact fun h => h
/-- a run of operations over letters -/
theorem opsR (hN : NoGo P) (hM : P.follows .mixedOrders = true) {env : EnvF} {F : Fs} {nf nt : Nat} {ops : Array Oper} {l : List Oper} {t t' : Tr} {m m' : AM} {L : List Rt} (hK : Kn P G W ρ (fun _ => env) M F)
    (he : @evOps ⟨F, M⟩ P G (evCall P env (@evCode ⟨F, M⟩ P G env nf)) nt ops l t m = some (t', m')) {Q : Exit → Act → World → Prop} {b : Act} {w : World} (hI : InvR P G W ρ γ L nt t m b w)
    (hQ : ∀ b' w', InvR P G W ρ γ L nt t' m' b' w' → Q .normal b' w') : wpList P ops Q l b w := by
  letI := thOf ρ W
  haveI := ts_of ρ W
  haveI := at_of ρ W
  letI : Fx := ⟨F, M⟩
  haveI : Sat := ⟨hK.sat, hK.mem⟩
  obtain ⟨r, ha, hw, hB, hR⟩ := hI
  have hE : EnvOk P G W env := hK.env F hK.sat
  exact evOps_sound hN (evCall_ok hE (evCode_good hN hM hE nf).1) l he ha hw hB fun r' b' w' ha' hw' hs => hQ b' w' ⟨r', ha', hw', Nat.le_trans hB hs.size, hR.step hs⟩
end
end Go.Sx
