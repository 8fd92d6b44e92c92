/-
  RUNS RECKONED AHEAD: a region with an append to a row of the call's own; calls of which the answer is a letter. By an AI agent.
-/
import Derived.Test.YtokenooggmnbaaaDoorSyTo
import Derived.Laws.AppendOwn
namespace Go.Sx
open Go.RowKit
section
variable {P : Program} {G : Nat} {W : World} {ρ : Nat → Value}
/-- the call itself: whatever it answers goes into its slot -/
theorem freshOp (hN : NoGo P) {r : List Nat} {n : Nat} {t : Tr} {b : Act} {w : World} {o : Oper} {c : Call} {g : FuncId} {args : Array Value} (hc : o.op = .call c) (hcall : callOf G (t.ev n) c = some (g, args)) (hbody : hasBody P g = true)
    (h : @EvR (thOf ρ W) G r (t.ev n) b.eval) {K : Act → World → Prop} {Q : Exit → Act → World → Prop}
    (hC : ∀ args', @All (@V2 (thOf ρ W) r) args args' → Calls P g args' w fun e w' => ∃ X, e = .returned X ∧ K (b.put o.dst X) w') : o.wp P b w K Q := by
  letI := thOf ρ W
  unfold callOf at hcall
  split at hcall
  · rename_i f hcallee
    split at hcall
    · rename_i g' first cap ho hf
      split at hcall
      · rename_i hargs
        injection hcall with hcall
        injection hcall with e1 e2
        subst e1 e2
        obtain ⟨first', cap', hf', h1, h2⟩ := V0.func (h _ ho) hf
        unfold hasBody at hbody
        split at hbody
        · rename_i fn hfn
          unfold Oper.wp
          rw [run_call hc hcallee hf' hfn (hN _ _ hfn) hbody, Oper.upon_enter]
          have hall : All (V2 r) (first ++ c.args.map (t.ev n) ++ cap) (first' ++ c.args.map b.eval ++ cap') := by
            refine All.append (All.append (h1.mono fun _ _ h => h.up.up) ?_) (h2.mono fun _ _ h => h.up.up)
            refine All.map fun x hx => ?_
            rw [Array.all_eq_true_iff_forall_mem] at hargs
            have := hargs x hx
            rw [Bool.and_eq_true] at this
            exact (h _ this.1).nt this.2
          refine (hC _ hall).mono ?_
          rintro e w' ⟨X, rfl, hk⟩
          exact hk
        · cases hbody
      · cases hcall
    · cases hcall
  · cases hcall
theorem wp_then {o : Oper} {a : Act} {w : World} {K N : Act → World → Prop} {Q : Exit → Act → World → Prop} (h : o.wp P a w K (Exit.then N Q)) : o.wp P a w K Q := by
  unfold Oper.wp at *
  generalize (execOp a.eval o).run P w = r at *
  cases r with
  | ok n w' => cases n <;> exact h
  | halt x w' => cases x <;> exact h
/-- the list of operations, parted -/
theorem wpList_parted {ops : Array Oper} {Q : Exit → Act → World → Prop} : ∀ (A B : List Oper) (b : Act) (w : World), wpList P ops (Exit.then (wpList P ops Q B) Q) A b w → wpList P ops Q (A ++ B) b w
  | [], _, _, _, h => h
  | o :: A, B, b, w, h => by
    rw [List.cons_append]
    unfold wpList at h ⊢
    split
    · rename_i hw
      rw [if_pos hw] at h
      rcases h with h | ⟨h1, h2⟩
      · exact .inl (Oper.wp_mono (fun a w' h' => wpList_parted A B a w' h') (wp_then h))
      · exact .inr ⟨h1, h2⟩
    · rename_i hw
      rw [if_neg hw] at h
      exact wpList_parted A B _ w h
/-- a run of operations over letters -/
theorem opsL (hN : NoGo P) (hM : P.follows .mixedOrders = true) {env : EnvF} {M : List (Value × List Value)} {F : Fs} {nf nt : Nat} {ops : Array Oper} {l : List Oper} {t t' : Tr} {m m' : AM} (hK : Kn P G W ρ (fun _ => env) M F)
    (he : @evOps ⟨F, M⟩ P G (evCall P env (@evCode ⟨F, M⟩ P G env nf)) nt ops l t m = some (t', m')) {Q : Exit → Act → World → Prop} {b : Act} {w : World} (hI : Inv P G W ρ nt t m b w)
    (hQ : ∀ b' w', Inv P G W ρ nt t' m' b' w' → Q .normal b' w') : wpList P ops Q l b w := by
  letI := thOf ρ W
  haveI := ts_of ρ W
  haveI := at_of ρ W
  letI : Fx := ⟨F, M⟩
  haveI : Sat := ⟨hK.sat, hK.mem⟩
  obtain ⟨r, ha, hw, hB⟩ := hI
  have hE : EnvOk P G W env := hK.env F hK.sat
  exact evOps_sound hN (evCall_ok hE (evCode_good hN hM hE nf).1) l he ha hw hB fun r' b' w' ha' hw' hs => hQ b' w' ⟨r', ha', hw', Nat.le_trans hB hs.size⟩
end
end Go.Sx
namespace Go.Sx
open Go.RowKit
/-- letter i is a row of the call's own: elements of type e, of z cells -/
structure Rt where
  i : Nat
  e : TypeId
  z : Nat
/-- what the rows hold -/
abbrev Ga := Nat → List (List Value)
structure OwnR (W w : World) (r : List Nat) (m : AM) (v : Value) (e : TypeId) (z : Nat) (l : List (List Value)) : Prop where
  len : ∀ c ∈ l, c.length = z
  own : w.ownsRow W.heap.size e z v l.length l.flatten
  apart : ∀ k, v.ownBlock = some k → ¬ D r m k
section
variable {P : Program} {G : Nat} {W w w' : World} {ρ : Nat → Value} {γ : Ga} {r r' : List Nat} {m m' : AM} {v : Value} {e : TypeId} {z : Nat} {l : List (List Value)}
theorem OwnR.nil (e : TypeId) (z : Nat) : OwnR W w r m (.slice none 0 0) e z [] := ⟨by simp, World.ownsRow_nil _ _ _ _, fun k h => by cases h⟩
theorem owns_keep {B n : Nat} {xs : List Value} (h : w.ownsRow B e z v n xs) (hk : ∀ k, v.ownBlock = some k → w'.heap[k]? = w.heap[k]?) : w'.ownsRow B e z v n xs := by
  refine ⟨h.1, ?_⟩
  rcases h.2 with hn | ⟨g, cap, cur, rfl, hB, hg, rest⟩
  · exact .inl hn
  · exact .inr ⟨g, cap, cur, rfl, hB, by rw [hk g rfl]; exact hg, rest⟩
theorem OwnR.step (h : OwnR W w r m v e z l) (hs : Step r m w r' m' w') : OwnR W w' r' m' v e z l := by
  have hlt := fun k hk => (World.ownsRow.lt h.own k hk).2
  refine ⟨h.len, owns_keep h.own fun k hk => hs.block k (hlt k hk) (h.apart k hk), fun k hk hd => ?_⟩
  rcases hs.dom k hd with h1 | h1
  · exact h.apart k hk h1
  · have := hlt k hk; omega
theorem OwnR.tag (h : OwnR W w r m v e z l) : hasTag 10 v := by
  rcases h.own.2 with ⟨rfl, -⟩ | ⟨g, cap, cur, rfl, -, -, h1, h2, -⟩
  · exact ⟨rfl, by decide, fun _ => rfl, fun p h => by cases h⟩
  · refine ⟨rfl, ?_, fun h => (by cases h), fun p h _ => ?_⟩
    · unfold maxLen at h2; omega
    · injection h with h; rw [← h]
theorem OwnR.value (h : OwnR W w r m v e z l) : ∃ p c, v = .slice p l.length c := by
  rcases h.own.2 with ⟨rfl, hn⟩ | ⟨g, cap, cur, rfl, -⟩
  · exact ⟨none, 0, by rw [hn]⟩
  · exact ⟨_, _, rfl⟩
theorem D.cv {E : Es} {h0 : Nat} {m0 : AM} {k : Nat} (h : cvM E h0 G m m0 = true) (hd : D (r.take m0.n) m0 k) : D r m k := by
  obtain ⟨i, x, hx, hro, hr⟩ := hd
  unfold cvM at h
  split at h
  · obtain ⟨hi, y, hy, -, -, e3, -⟩ := cvB_spec h i x hx
    refine ⟨i, y, hy, by rw [e3]; exact hro, ?_⟩
    rw [List.getElem?_take, if_pos hi] at hr
    exact hr
  · cases h
theorem OwnR.cv {E : Es} {h0 : Nat} {m0 : AM} (h : OwnR W w r m v e z l) (hc : cvM E h0 G m m0 = true) : OwnR W w (r.take m0.n) m0 v e z l := ⟨h.len, h.own, fun k hk hd => h.apart k hk (hd.cv hc)⟩
/-- all rows, and no two of them in one block -/
structure Rows (W w : World) (r : List Nat) (m : AM) (ρ : Nat → Value) (γ : Ga) (L : List Rt) : Prop where
  each : ∀ x ∈ L, OwnR W w r m (ρ x.i) x.e x.z (γ x.i)
  two : ∀ x ∈ L, ∀ y ∈ L, x.i ≠ y.i → ∀ k, (ρ x.i).ownBlock = some k → (ρ y.i).ownBlock ≠ some k
/-- a state that is told over letters, rows among them -/
def InvR (P : Program) (G : Nat) (W : World) (ρ : Nat → Value) (γ : Ga) (L : List Rt) (nt : Nat) (t : Tr) (m : AM) (b : Act) (w : World) : Prop :=
  ∃ r, @AcT (thOf ρ W) nt r t b ∧ @Wd (thOf ρ W) P G W r m w ∧ W.heap.size ≤ w.heap.size ∧ Rows W w r m ρ γ L
theorem Inv.rows {nt : Nat} {t : Tr} {b : Act} (h : Inv P G W ρ nt t m b w) (γ : Ga) : InvR P G W ρ γ [] nt t m b w := by
  obtain ⟨r, h1, h2, h3⟩ := h
  exact ⟨r, h1, h2, h3, fun _ h => by simp at h, fun _ h => by simp at h⟩
theorem InvR.inv {L : List Rt} {nt : Nat} {t : Tr} {b : Act} (h : InvR P G W ρ γ L nt t m b w) : Inv P G W ρ nt t m b w := by
  obtain ⟨r, h1, h2, h3, -⟩ := h
  exact ⟨r, h1, h2, h3⟩
theorem InvR.sub {L L' : List Rt} {nt : Nat} {t : Tr} {b : Act} (h : InvR P G W ρ γ L nt t m b w) (hs : ∀ x ∈ L', x ∈ L) : InvR P G W ρ γ L' nt t m b w := by
  obtain ⟨r, h1, h2, h3, h4⟩ := h
  exact ⟨r, h1, h2, h3, fun x hx => h4.each x (hs x hx), fun x hx y hy => h4.two x (hs x hx) y (hs y hy)⟩
theorem InvR.row {L : List Rt} {nt : Nat} {t : Tr} {b : Act} (h : InvR P G W ρ γ L nt t m b w) {x : Rt} (hx : x ∈ L) : ∃ r, OwnR W w r m (ρ x.i) x.e x.z (γ x.i) := by
  obtain ⟨r, h1, h2, h3, h4⟩ := h
  exact ⟨r, h4.each x hx⟩
end
/-- where a row of a way out comes from: a letter, or a new row -/
def rowSrc (E : Es) (x : Rt) : Option (Option Nat) := match lookE E x.i with
  | none => some (some x.i)
  | some (.iface g (.int .u64 (.ofNat i))) => match Nat.beq g 10 with
    | true => some (some i)
    | false => none
  | some (.slice none 0 0) => some none
  | _ => none
def hasR (L : List Rt) (i : Nat) (x : Rt) : Bool := L.any fun y => Nat.beq y.i i && (Nat.beq y.e x.e && Nat.beq y.z x.z)
def srcNe : Option (Option Nat) → Option (Option Nat) → Bool
  | some (some i), some (some j) => !Nat.beq i j
  | _, _ => true
def rowsOk (E : Es) (L L' : List Rt) : Bool := (L'.all fun x => match rowSrc E x with
  | some none => true
  | some (some i) => hasR L i x
  | none => false) && L'.all fun x => L'.all fun y => Nat.beq x.i y.i || srcNe (rowSrc E x) (rowSrc E y)
/-- what the rows hold next -/
noncomputable def updG (γ : Ga) (E : Es) (i : Nat) : List (List Value) := match lookE E i with
  | none => γ i
  | some (.iface _ (.int .u64 (.ofNat j))) => γ j
  | some _ => []
section
variable {P : Program} {G : Nat} {W w w' : World} {ρ : Nat → Value} {γ : Ga} {r r' : List Nat} {m m' : AM}
theorem src_spec {E : Es} {x : Rt} {L : List Rt} (h : Rows W w r m ρ γ L) : (∀ i, rowSrc E x = some (some i) → hasR L i x = true → upd ρ E x.i = ρ i ∧ updG γ E x.i = γ i ∧ OwnR W w r m (ρ i) x.e x.z (γ i) ∧ ∃ y ∈ L, y.i = i) ∧
    (rowSrc E x = some none → upd ρ E x.i = .slice none 0 0 ∧ updG γ E x.i = []) := by
  have own : ∀ i, hasR L i x = true → OwnR W w r m (ρ i) x.e x.z (γ i) ∧ ∃ y ∈ L, y.i = i := fun i hi => by
    unfold hasR at hi
    rw [List.any_eq_true] at hi
    obtain ⟨y, hy, hi⟩ := hi
    rw [Bool.and_eq_true, Bool.and_eq_true] at hi
    obtain ⟨h1, h2, h3⟩ := hi
    have h1 := Nat.eq_of_beq_eq_true h1
    have h2 := Nat.eq_of_beq_eq_true h2
    have h3 := Nat.eq_of_beq_eq_true h3
    have := h.each y hy
    rw [h1, h2, h3] at this
    exact ⟨this, y, hy, h1⟩
  unfold rowSrc upd updG
  cases hl : lookE E x.i with
  | none =>
    refine ⟨fun i hi ho => ?_, fun hi => by simp at hi⟩
    simp only [Option.some.injEq] at hi
    subst hi
    exact ⟨rfl, rfl, own _ ho⟩
  | some u =>
    simp only
    split
    · rename_i heq
      cases heq
    · rename_i g i heq
      injection heq with heq
      subst heq
      split
      · rename_i hg
        have hg := Nat.eq_of_beq_eq_true hg
        subst hg
        refine ⟨fun j hj ho => ?_, fun hi => by simp at hi⟩
        simp only [Option.some.injEq] at hj
        subst hj
        have := own i ho
        refine ⟨?_, rfl, this⟩
        exact dn_let' (g := 10) (by decide) this.1.tag
      · exact ⟨fun i hi => (by simp at hi), fun hi => (by simp at hi)⟩
    · rename_i heq
      injection heq with heq
      subst heq
      exact ⟨fun i hi => (by simp at hi), fun _ => ⟨dn_dry ρ rfl, rfl⟩⟩
    · exact ⟨fun i hi => (by simp at hi), fun hi => (by simp at hi)⟩
theorem Rows.next {E : Es} {L L' : List Rt} (h : Rows W w r m ρ γ L) (hk : rowsOk E L L' = true) : Rows W w r m (upd ρ E) (updG γ E) L' := by
  unfold rowsOk at hk
  rw [Bool.and_eq_true, List.all_eq_true, List.all_eq_true] at hk
  obtain ⟨k1, k2⟩ := hk
  refine ⟨fun x hx => ?_, fun x hx y hy hne k hbx hby => ?_⟩
  · have h1 := k1 x hx
    split at h1
    · rename_i hs
      obtain ⟨e1, e2⟩ := (src_spec h).2 hs
      rw [e1, e2]
      exact OwnR.nil _ _
    · rename_i i hs
      obtain ⟨e1, e2, e3, -⟩ := (src_spec h).1 i hs h1
      rw [e1, e2]
      exact e3
    · cases h1
  · have h1 := k1 x hx
    have h2 := k1 y hy
    have h3 := k2 x hx
    rw [List.all_eq_true] at h3
    have h3 := h3 y hy
    rw [Bool.or_eq_true] at h3
    rcases h3 with h3 | h3
    · exact hne (Nat.eq_of_beq_eq_true h3)
    · split at h1
      · rename_i hs
        obtain ⟨e1, -⟩ := (src_spec h).2 hs
        rw [e1] at hbx
        cases hbx
      · rename_i i hs
        split at h2
        · rename_i hs2
          obtain ⟨e1, -⟩ := (src_spec h).2 hs2
          rw [e1] at hby
          cases hby
        · rename_i j hs2
          obtain ⟨e1, -, -, a, ha, hai⟩ := (src_spec h).1 i hs h1
          obtain ⟨e2, -, -, c, hc, hcj⟩ := (src_spec h).1 j hs2 h2
          rw [hs, hs2] at h3
          have hij : i ≠ j := by
            have h3 : (!Nat.beq i j) = true := h3
            intro e
            subst e
            rw [Nat.beq_refl] at h3
            cases h3
          rw [e1, ← hai] at hbx
          rw [e2, ← hcj] at hby
          exact h.two a ha c hc (by rw [hai, hcj]; exact hij) k hbx hby
        · cases h2
      · cases h1
theorem Rows.step {L : List Rt} (h : Rows W w r m ρ γ L) (hs : Step r m w r' m' w') : Rows W w' r' m' ρ γ L := ⟨fun x hx => (h.each x hx).step hs, h.two⟩
theorem Rows.cv {L : List Rt} {E : Es} {h0 : Nat} {m0 : AM} (h : Rows W w r m ρ γ L) (hc : cvM E h0 G m m0 = true) : Rows W w (r.take m0.n) m0 ρ γ L := ⟨fun x hx => (h.each x hx).cv hc, h.two⟩
theorem Rows.congr {L : List Rt} {ρ' : Nat → Value} {γ' : Ga} (h : Rows W w r m ρ γ L) (hr : ∀ x ∈ L, ρ' x.i = ρ x.i ∧ γ' x.i = γ x.i) : Rows W w r m ρ' γ' L :=
  ⟨fun x hx => by rw [(hr x hx).1, (hr x hx).2]; exact h.each x hx, fun x hx y hy => by rw [(hr x hx).1, (hr y hy).1]; exact h.two x hx y hy⟩
end
/-- a tree's leaves carry the rows on -/
def rowsT (L : List Rt) (ls : List (List Rt)) : TP → Bool
  | .o j E => match ls[j]? with
    | some L' => rowsOk E L L'
    | none => false
  | .n _ a b => match rowsT L ls a with
    | true => rowsT L ls b
    | false => false
  | .x => true
def TP.SemR (ρ : Nat → Value) (γ : Ga) (W : World) (X : Nat → (Nat → Value) → Ga → Prop) : TP → Prop
  | .o j E => X j (upd ρ E) (updG γ E)
  | .n t a b => (@De (thOf ρ W) t (.bool true) → a.SemR ρ γ W X) ∧ (@De (thOf ρ W) t (.bool false) → b.SemR ρ γ W X)
  | .x => False
/-- where a piece has come out -/
def CameR (P : Program) (G : Nat) (W : World) (nt : Nat) (xs : List Xt) (ls : List (List Rt)) (X : Nat → (Nat → Value) → Ga → Prop) (e : Exit) (b : Act) (w : World) : Prop :=
  ∃ j ρ' γ' x L, X j ρ' γ' ∧ xs[j]? = some x ∧ ls[j]? = some L ∧ e = x.o.toExit ∧ InvR P G W ρ' γ' L nt x.t x.m b w
section
variable {P : Program} {G : Nat} {W : World} {ρ : Nat → Value} {γ : Ga} {env : Fs → EnvF} {M : List (Value × List Value)}
theorem chkP_leafR {run : Fs → Option (Out × Tr × AM)} {h0 nt : Nat} {xs : List Xt} {L : List Rt} {ls : List (List Rt)} {X : Nat → (Nat → Value) → Ga → Prop} : ∀ (T : TP) (F : Fs), chkP run h0 G nt xs T F = true → rowsT L ls T = true → @SatL (thOf ρ W) F → T.SemR ρ γ W X →
    ∃ F' j E L', @SatL (thOf ρ W) F' ∧ chkX h0 G nt E (run F') xs[j]? = true ∧ ls[j]? = some L' ∧ rowsOk E L L' = true ∧ X j (upd ρ E) (updG γ E)
  | .o j E, F, h, hr, hF, hS => by
    unfold rowsT at hr
    split at hr
    · rename_i L' hl
      exact ⟨F, j, E, L', hF, h, hl, hr, hS⟩
    · cases hr
  | .x, _, _, _, _, hS => hS.elim
  | .n t a b, F, h, hr, hF, hS => by
    unfold rowsT at hr
    split at hr
    · rename_i hra
      unfold chkP at h
      split at h
      · rename_i ht
        split at h
        · rename_i ha
          haveI := ts_of ρ W
          rcases @bt_bool (thOf ρ W) _ t ht with hd | hd
          · exact chkP_leafR a _ ha hra (fun p hp => by
              rcases List.mem_cons.1 hp with rfl | hp
              · exact hd
              · exact hF p hp) (hS.1 hd)
          · exact chkP_leafR b _ h hr (fun p hp => by
              rcases List.mem_cons.1 hp with rfl | hp
              · exact hd
              · exact hF p hp) (hS.2 hd)
        · cases h
      · cases h
    · cases hr
theorem runL_wpS (hN : NoGo P) (hM : P.follows .mixedOrders = true) {n nt : Nat} {F : Fs} (hK : Kn P G W ρ env M F) {Q : Exit → Act → World → Prop} (hQ : ∀ c a w, ¬ Q (.panic c) a w) : ∀ (l : List Code) (t : Tr) (m : AM) (o : Out) (t' : Tr) (m' : AM), runL P G env M n nt F l t m = some (o, t', m') →
    ∀ r b w, @AcT (thOf ρ W) nt r t b → @Wd (thOf ρ W) P G W r m w → W.heap.size ≤ w.heap.size →
    (∀ r' b' w', @AcT (thOf ρ W) nt r' t' b' → @Wd (thOf ρ W) P G W r' m' w' → W.heap.size ≤ w'.heap.size → Step r m w r' m' w' → Q o.toExit b' w') → seqWp P Q l b w
  | [], t, m, o, t', m', h, r, b, w, ha, hw, hB, k => by
    injection h with h
    injection h with h1 h
    injection h with h2 h3
    subst h1 h2 h3
    exact k r b w ha hw hB (Step.refl _ _ _)
  | c :: l, t, m, o, t', m', h, r, b, w, ha, hw, hB, k => by
    letI := thOf ρ W
    letI : Fx := ⟨F, M⟩
    haveI := ts_of ρ W
    haveI := at_of ρ W
    haveI : Sat := ⟨hK.sat, hK.mem⟩
    unfold runL at h
    have good := (evCode_good hN hM (hK.env F hK.sat) n).1
    have hnp : ∀ c a w, ¬ Exit.then (seqWp P Q l) Q (.panic c) a w := fun c a w h => hQ c a w h
    split at h
    · rename_i t1 m1 h1
      refine good nt c t m .normal t1 m1 h1 r b w ha hw hB _ hnp fun r1 b1 w1 ha1 hw1 hs1 => ?_
      exact runL_wpS hN hM hK hQ l t1 m1 o t' m' h r1 b1 w1 ha1 hw1 (Nat.le_trans hB hs1.size) fun r' b' w' h1 h2 h3 h4 => k r' b' w' h1 h2 h3 (hs1.trans h4)
    · rename_i hne
      refine good nt c t m o t' m' h r b w ha hw hB _ hnp fun r1 b1 w1 ha1 hw1 hs1 => ?_
      have := k r1 b1 w1 ha1 hw1 (Nat.le_trans hB hs1.size) hs1
      cases o with
      | normal => exact absurd h (hne _ _)
      | exit i => exact this
      | ret => exact this
/-- A PIECE: items without a loop over letters -/
theorem pieceR (hN : NoGo P) (hM : P.follows .mixedOrders = true) {n h0 nt : Nat} {l : List Code} {t : Tr} {m : AM} {xs : List Xt} {T : TP} {F : Fs} {L : List Rt} {ls : List (List Rt)} {X : Nat → (Nat → Value) → Ga → Prop}
    (hc : chkP (fun F => runL P G env M n nt F l t m) h0 G nt xs T F = true) (hr : rowsT L ls T = true) (hK : Kn P G W ρ env M F) (hS : T.SemR ρ γ W X) {b : Act} {w : World} (hI : InvR P G W ρ γ L nt t m b w) : seqWp P (CameR P G W nt xs ls X) l b w := by
  obtain ⟨F', j, E, L', h1, h2, h4, h5, h3⟩ := chkP_leafR T F hc hr hK.sat hS
  unfold chkX at h2
  split at h2
  · rename_i o t' m' x hr hx
    split at h2
    · rename_i k1 k2 k3
      have k1 := outEq_eq k1
      obtain ⟨r, ha, hw, hB, hR⟩ := hI
      refine runL_wpS hN hM ⟨h1, hK.mem, hK.env⟩ ?_ l t m o t' m' hr r b w ha hw hB fun r' b' w' ha' hw' hB' hs => ?_
      · rintro ch a w' ⟨j, ρ', γ', x, L, -, -, -, he, -⟩
        cases hx : x.o <;> rw [hx] at he <;> cases he
      · exact ⟨j, _, _, x, L', h3, hx, h4, by rw [k1], _, cvT_sound (upd_Upd E h0) k2 ha', cvM_sound (upd_Upd E h0) k3 hw', hB', ((hR.step hs).next h5).cv k3⟩
    · cases h2
  · cases h2
/-- the ways out of a loop's round: again, or one of the others -/
def RoundR (A : (Nat → Value) → Ga → Prop) (X : Nat → (Nat → Value) → Ga → Prop) : Nat → (Nat → Value) → Ga → Prop
  | 0, ρ, γ => A ρ γ
  | j + 1, ρ, γ => X j ρ γ
/-- A LOOP AMONG THE ITEMS. J k: what the letters and rows may be when k bounds the rounds that are left -/
theorem loopR {nt : Nat} {c : Code} {t : Tr} {m : AM} {xs : List Xt} {L : List Rt} {ls : List (List Rt)} {X : Nat → (Nat → Value) → Ga → Prop} {J : Nat → (Nat → Value) → Ga → Prop} {Q : Exit → Act → World → Prop} (hc : isLoop c = true) (hn : noNorm xs = true)
    (hb : ∀ k ρ γ, J k ρ γ → ∀ b w, InvR P G W ρ γ L nt t m b w → seqWp P (CameR P G W nt (⟨.normal, t, m⟩ :: xs) (L :: ls) (RoundR (fun ρ2 γ2 => ∃ k', k' < k ∧ J k' ρ2 γ2) X)) (flat (loopOf c)) b w)
    (hQ : ∀ j ρ' γ' x L' b' w', X j ρ' γ' → xs[j]? = some x → ls[j]? = some L' → InvR P G W ρ' γ' L' nt x.t x.m b' w' → Q (outOf (loopId c) x.o) b' w') :
    ∀ k ρ γ, J k ρ γ → ∀ b w, InvR P G W ρ γ L nt t m b w → c.wp P Q b w := by
  have at_ : ∀ k ρ γ, J k ρ γ → ∀ b w, InvR P G W ρ γ L nt t m b w → LoopAt P (loopOf c) (CameR P G W nt xs ls X) b w := by
    intro k
    induction k using Nat.strongRecOn with
    | ind k ih =>
      intro ρ γ hj b w hI
      refine LoopAt.of (wp_mono (seqWp_code _ _ _ (hb k ρ γ hj b w hI)) ?_)
      rintro e b' w' ⟨j, ρ2, γ2, y, L2, hX, hy, hl, rfl, hI2⟩
      cases j with
      | zero =>
        simp at hy hl
        subst hy hl
        obtain ⟨k', hk, hJ2⟩ := hX
        exact ih k' hk ρ2 γ2 hJ2 b' w' hI2
      | succ j =>
        have hy : xs[j]? = some y := by simpa using hy
        have hl : ls[j]? = some L2 := by simpa using hl
        have hno := noNorm_get hn hy
        have hfin : CameR P G W nt xs ls X y.o.toExit b' w' := ⟨j, ρ2, γ2, y, L2, hX, hy, hl, rfl, hI2⟩
        revert hfin
        cases hyo : y.o with
        | normal => exact absurd hyo hno
        | exit i => exact fun h => h
        | ret => exact fun h => h
  intro k ρ γ hj b w hI
  rw [isLoop_spec hc]
  refine wp_block (wp_mono ((at_ k ρ γ hj b w hI).wp) ?_)
  rintro e b' w' ⟨j, ρ2, γ2, y, L2, hX, hy, hl, rfl, hI2⟩
  have hq := hQ j ρ2 γ2 y L2 b' w' hX hy hl hI2
  have hno := noNorm_get hn hy
  revert hq
  unfold outOf
  cases hyo : y.o with
  | normal => exact absurd hyo hno
  | exit i =>
    intro hq
    show (if i = loopId c then Q .normal b' w' else Q (.exit i) b' w')
    simp only at hq
    split
    · rename_i h
      rw [if_pos h] at hq
      exact hq
    · rename_i h
      rw [if_neg h] at hq
      exact hq
  | ret => exact fun h => h
/-- a run of operations over letters -/
theorem opsR (hN : NoGo P) (hM : P.follows .mixedOrders = true) {env : EnvF} {F : Fs} {nf nt : Nat} {ops : Array Oper} {l : List Oper} {t t' : Tr} {m m' : AM} {L : List Rt} (hK : Kn P G W ρ (fun _ => env) M F)
    (he : @evOps ⟨F, M⟩ P G (evCall P env (@evCode ⟨F, M⟩ P G env nf)) nt ops l t m = some (t', m')) {Q : Exit → Act → World → Prop} {b : Act} {w : World} (hI : InvR P G W ρ γ L nt t m b w)
    (hQ : ∀ b' w', InvR P G W ρ γ L nt t' m' b' w' → Q .normal b' w') : wpList P ops Q l b w := by
  letI := thOf ρ W
  haveI := ts_of ρ W
  haveI := at_of ρ W
  letI : Fx := ⟨F, M⟩
  haveI : Sat := ⟨hK.sat, hK.mem⟩
  obtain ⟨r, ha, hw, hB, hR⟩ := hI
  have hE : EnvOk P G W env := hK.env F hK.sat
  exact evOps_sound hN (evCall_ok hE (evCode_good hN hM hE nf).1) l he ha hw hB fun r' b' w' ha' hw' hs => hQ b' w' ⟨r', ha', hw', Nat.le_trans hB hs.size, hR.step hs⟩
end
end Go.Sx
namespace Go.Sx
open Go.RowKit
/-- known blocks that are not written lie low -/
def roLow (G : Nat) : List Bk → Bool
  | [] => true
  | x :: l => match x.ro, Nat.blt x.i G with
    | true, false => false
    | _, _ => roLow G l
theorem roLow_find {G : Nat} : ∀ {l : List Bk} {i : Nat} {x : Bk}, roLow G l = true → find l i = some x → x.ro = true → i < G
  | [], _, _, _, h, _ => by cases h
  | y :: l, i, x, h, hf, hr => by
    have hx := find_i hf
    unfold roLow at h
    unfold find at hf
    cases hb : Nat.beq y.i i with
    | true =>
      rw [hb] at hf
      injection hf with hf
      subst hf
      split at h
      · cases h
      · rename_i hne
        rw [← hx]
        cases hlt : Nat.blt y.i G with
        | true => simpa [Nat.blt_eq] using hlt
        | false => exact absurd hlt (by intro e; exact hne hr e)
    | false =>
      rw [hb] at hf
      refine roLow_find (l := l) ?_ hf hr
      split at h
      · cases h
      · exact h
/-- a value that a letter's valuation tells -/
def flatV (u : Value) : Bool := dry u || isTok u
theorem flatV_dn {ρ : Nat → Value} {W : World} {r : List Nat} {u v : Value} (hf : flatV u = true) (h : @V1 (thOf ρ W) r u v) : v = dn ρ u := by
  unfold flatV at hf
  cases u with
  | iface c x => exact h
  | func f a b =>
    have hd : dry (.func f a b) = true := by simpa [isTok] using hf
    obtain ⟨a', b', rfl, h1, h2⟩ := h
    rw [dn_dry ρ hd]
    simp only [dry, Bool.and_eq_true, Array.isEmpty_iff] at hd
    obtain ⟨rfl, rfl⟩ := hd
    have e1 : a' = #[] := Array.eq_empty_of_size_eq_zero h1.1.symm
    have e2 : b' = #[] := Array.eq_empty_of_size_eq_zero h2.1.symm
    rw [e1, e2]
  | pointer a => cases a with
    | none => obtain ⟨hd, e⟩ := h; rw [dn_dry ρ hd]; exact e
    | some a => simp [dry, isTok] at hf
  | slice a n c => cases a with
    | none => obtain ⟨hd, e⟩ := h; rw [dn_dry ρ hd]; exact e
    | some a => simp [dry, isTok] at hf
  | _ => first
    | (obtain ⟨hd, e⟩ := h; rw [dn_dry ρ hd]; exact e)
    | simp [dry, isTok] at hf
/-- what has to be looked at for an append of one element -/
noncomputable def pushCk (G nt h0 : Nat) (t : Tr) (m : AM) (i z : Nat) (s x : Operand) (us : List Value) : Bool := match opd G s && opd G x, veq (t.ev nt s) (L 10 i), t.ev nt x with
  | true, true, .slice (some a) 1 _ => match cellsAt m a z with
    | some us' => cvL veq us' us && (us.all flatV && (cvT [] h0 m.n (dpt nt) t t && (cvM [] h0 G m m && roLow G m.bs)))
    | none => false
  | _, _, _ => false
theorem cvL_veq : ∀ {l q : List Value}, cvL veq l q = true → l = q
  | [], [], _ => rfl
  | [], _ :: _, h => by cases h
  | _ :: _, [], h => by cases h
  | x :: l, y :: q, h => by
    unfold cvL at h
    split at h
    · rename_i hx
      rw [veq_eq hx, cvL_veq h]
    · cases h
/-- append to a row of the call's own: where the result lies -/
theorem run_append_where {P : Program} (w : World) (base : Nat) (t ty e : TypeId) (i : TypeInfo) (z : Value) (ht : P.underlying t = some (.slice e)) (hi : P.info? e = some i) (hz : i.zero = some z)
    (hzs : z.cells.size = i.size) (hsz : 0 < i.size) (v : Value) (n : Nat) (xs : List Value) (hown : w.ownsRow base e i.size v n xs)
    (a : Addr) (m c : Nat) (news : List Value) (hl : news.length = m * i.size) (hnews : ∀ j u, news[j]? = some u → w.cell? (a.add j) = some u) (h1 : ∀ u ∈ news, u.oneCell' = true)
    (h63 : n + m ≤ maxLen) (hbytes : (n + m) * i.bytes ≤ 140737488355328) (hbase : base ≤ w.heap.size) :
    ∃ v' w', (Builtin.append_ #[t, t] ty #[v, .slice (some a) m c]).run P w = .ok v' w' ∧ w'.ownsRow base e i.size v' (n + m) (xs ++ news) ∧ w.grownBy w' v.ownBlock ∧ ∀ k, v'.ownBlock = some k → v.ownBlock = some k ∨ w.heap.size ≤ k := by
  obtain ⟨v', w', hr, h2, h3, -⟩ := run_append_own (P := P) w base t ty e i z i.size i.bytes ht hi hz rfl rfl hzs hsz v n xs hown a m c news hl hnews h1 h63 hbytes hbase
  refine ⟨v', w', hr, h2, h3, fun k hk => ?_⟩
  rcases hown.2 with ⟨rfl, rfl⟩ | ⟨g, cap, cur, rfl, hbg, hg, hnc, hcm, hcs, htake⟩
  · have hx : xs = [] := List.eq_nil_of_length_eq_zero (by simpa using hown.1)
    subst hx
    obtain ⟨v2, w2, hr2, k2, -⟩ := run_append_own (P := P) w w.heap.size t ty e i z i.size i.bytes ht hi hz rfl rfl hzs hsz _ 0 [] (World.ownsRow_nil w w.heap.size e i.size) a m c news hl hnews h1 h63 hbytes (Nat.le_refl _)
    rw [hr] at hr2
    injection hr2 with e1 e2
    subst e1 e2
    exact .inr (World.ownsRow.lt k2 k hk).1
  · by_cases hroom : n + m ≤ cap
    · have hfit : n * i.size + news.length ≤ cur.size := by rw [hl, hcs, ← Nat.add_mul]; exact Nat.mul_le_mul_right _ hroom
      have hr2 := run_append_room (P := P) w t ty e i ht hi g n cap cur hg a m c news hl hnews h1 hroom hfit
      rw [hr] at hr2
      injection hr2 with e1 e2
      subst e1
      exact .inl hk
    · have holds : ∀ j u, xs[j]? = some u → w.cell? ((⟨g, 0, none⟩ : Addr).add j) = some u := hown.cells (g := g) rfl
      have hsmall : n + m ≤ 9223372036854775807 := by simp only [maxLen] at h63; omega
      have hr2 := run_append_grow (P := P) w t ty e i z ht hi hz ⟨g, 0, none⟩ n cap xs hown.1 holds a m c news hl hnews (by omega) (by omega) (growslice_fits (by omega) hbytes)
      rw [hr] at hr2
      injection hr2 with e1 e2
      subst e1
      injection hk with hk
      exact .inr (Nat.le_of_eq hk)
def setN {α : Type} (f : Nat → α) (j : Nat) (v : α) (i : Nat) : α := if i = j then v else f i
theorem setN_same {α : Type} (f : Nat → α) (j : Nat) (v : α) : setN f j v j = v := if_pos rfl
theorem setN_ne {α : Type} {f : Nat → α} {i j : Nat} {v : α} (h : i ≠ j) : setN f j v i = f i := if_neg h
section
variable {P : Program} {G : Nat} {W : World} {ρ : Nat → Value} {γ : Ga} {env : Fs → EnvF} {M : List (Value × List Value)}
/-- letters that the state does not hold may change -/
theorem state_congr {ρ' : Nat → Value} {h0 nt : Nat} {t : Tr} {m : AM} {r : List Nat} {b : Act} {w : World} (h1 : cvT [] h0 m.n (dpt nt) t t = true) (h2 : cvM [] h0 G m m = true) (hU : ∀ i, i < h0 → ρ' i = ρ i) (ha : @AcT (thOf ρ W) nt r t b) (hw : @Wd (thOf ρ W) P G W r m w) :
    @AcT (thOf ρ' W) nt (r.take m.n) t b ∧ @Wd (thOf ρ' W) P G W (r.take m.n) m w := ⟨cvT_sound (E := []) hU h1 ha, cvM_sound (E := []) hU h2 hw⟩
theorem InvR.congr {ρ' : Nat → Value} {γ' : Ga} {h0 nt : Nat} {t : Tr} {m : AM} {L : List Rt} {b : Act} {w : World} (h : InvR P G W ρ γ L nt t m b w) (h1 : cvT [] h0 m.n (dpt nt) t t = true) (h2 : cvM [] h0 G m m = true) (hU : ∀ i, i < h0 → ρ' i = ρ i) (hL : ∀ x ∈ L, ρ' x.i = ρ x.i ∧ γ' x.i = γ x.i) : InvR P G W ρ' γ' L nt t m b w := by
  obtain ⟨r, ha, hw, hB, hR⟩ := h
  obtain ⟨k1, k2⟩ := state_congr h1 h2 hU ha hw
  exact ⟨_, k1, k2, hB, (hR.cv h2).congr hL⟩
/-- a state told less closely -/
theorem InvR.turn {h0 nt : Nat} {t t0 : Tr} {m m0 : AM} {L : List Rt} {b : Act} {w : World} (h : InvR P G W ρ γ L nt t m b w) (h1 : cvT [] h0 m0.n (dpt nt) t t0 = true) (h2 : cvM [] h0 G m m0 = true) : InvR P G W ρ γ L nt t0 m0 b w := by
  obtain ⟨r, ha, hw, hB, hR⟩ := h
  exact ⟨_, cvT_sound (E := []) (ρ' := ρ) (fun _ _ => rfl) h1 ha, cvM_sound (E := []) (ρ' := ρ) (fun _ _ => rfl) h2 hw, hB, hR.cv h2⟩
/-- 's = append(s, x)', s the row of letter i, which becomes that of letter j -/
theorem pushR {ops : Array Oper} {rest : List Oper} {Q : Exit → Act → World → Prop} {o : Oper} {s x : Operand} {T e : TypeId} {ti : TypeInfo} {zv : Value} {i j h0 nt : Nat} {t : Tr} {m : AM} {us : List Value} {L0 : List Rt}
    {cl : Call} (hgd : o.guard = none) (ho : o.op = .call cl) (hcl : cl.callee = .builtin .append) (hargs : cl.args.toList = [s, x]) (htys : cl.argTypes.toList = [T, T]) (ht : P.underlying T = some (.slice e)) (hi : P.info? e = some ti) (hz : ti.zero = some zv) (hzs : zv.cells.size = ti.size) (hz0 : 0 < ti.size)
    (hck : pushCk G nt h0 t m i ti.size s x us = true) (hj : h0 ≤ j) (hL0 : ∀ y ∈ L0, y.i ≠ i ∧ y.i ≠ j) (hG : G ≤ W.heap.size)
    {b : Act} {w : World} (hI : InvR P G W ρ γ (⟨i, e, ti.size⟩ :: L0) nt t m b w) (hn : ((γ i).length + 1) * (ti.bytes + 1) ≤ 140737488355328)
    (h : ∀ v b' w', hasTag 10 v → InvR P G W (setN ρ j v) (setN γ j (γ i ++ [us.map (dn ρ)])) (⟨j, e, ti.size⟩ :: L0) nt (t.put nt o.dst (L 10 j)) m b' w' → wpList P ops Q rest b' w') : wpList P ops Q (o :: rest) b w := by
  obtain ⟨r, ha, hw, hB, hR⟩ := hI
  have hrow : OwnR W w r m (ρ i) e ti.size (γ i) := hR.each _ List.mem_cons_self
  letI := thOf ρ W
  unfold pushCk at hck
  split at hck
  · rename_i a c ho1 hs hx
    split at hck
    · rename_i us' hus
      simp only [Bool.and_eq_true] at hck ho1
      obtain ⟨k1, k2, k3, k4, k5⟩ := hck
      have k1 := cvL_veq k1
      subst k1
      have hev := ha.eval hw.g
      have hes : b.eval s = ρ i := by
        have h1 := hev s ho1.1
        rw [veq_eq hs] at h1
        exact (show b.eval s = dn ρ (L 10 i) from h1).trans (dn_let' (g := 10) (by decide) hrow.tag)
      have hex := hev x ho1.2
      rw [hx] at hex
      obtain ⟨bq, cc, hbx, har, -⟩ := hex
      have har := har.ar (.inl (by decide))
      obtain ⟨l', hall, hlen, hcell⟩ := cellsAt_sound hw har hus
      have hl' : l' = us'.map (dn ρ) := by
        apply List.ext_getElem?
        intro q
        have hsz : us'.length = l'.length := by simpa using hall.1
        cases hq : us'[q]? with
        | none =>
          have := List.getElem?_eq_none_iff.1 hq
          rw [List.getElem?_map, hq, List.getElem?_eq_none_iff.2 (by omega)]
          rfl
        | some u =>
          have hlt := (List.getElem?_eq_some_iff.1 hq).1
          have hv : l'[q]? = some (l'[q]'(by omega)) := List.getElem?_eq_getElem (by omega)
          have h1 := hall.2 q u (l'[q]'(by omega)) (by simpa using hq) (by simp)
          rw [List.getElem?_map, hq, hv, flatV_dn (List.all_eq_true.1 k2 u (List.mem_of_getElem? hq)) h1]
          rfl
      have hmul : ((γ i).length + 1) * (ti.bytes + 1) = ((γ i).length + 1) * ti.bytes + ((γ i).length + 1) := Nat.mul_succ _ _
      have hsz : us'.length = l'.length := by simpa using hall.1
      obtain ⟨v, w', hrun, hown, hgr, hwhere⟩ := run_append_where (P := P) w W.heap.size T o.type e ti zv ht hi hz hzs hz0 (ρ i) (γ i).length (γ i).flatten hrow.own bq 1 cc l' (by omega) hcell
        (fun u hu => by
          obtain ⟨q, hq, e⟩ := List.mem_iff_getElem.1 hu
          exact (hall.2 q (us'[q]'(by omega)) u (by simp) (by simp [← e])).one') (by unfold maxLen; omega) (by omega) hB
      have hexec : (execOp b.eval o).run P w = .ok (.value v) w' := by
        refine run_append ho hcl hargs ?_
        rw [htys, hes, hbx]
        exact hrun
      refine wpList_plain hgd fun K hK => ?_
      show Oper.wp P o b w K Q
      unfold Oper.wp
      rw [hexec]
      refine hK _ _ ?_
      have hblk := World.ownsRow.lt hrow.own
      have hlow : Below W.heap.size W w' := hw.low.grown hgr hB fun k hk => (hblk k hk).1
      have hkeep : ∀ q bk k, find m.bs q = some bk → r[q]? = some k → w'.heap[k]? = w.heap[k]? := fun q bk k hq hk => by
        obtain ⟨k', c', g1, g2, g3, -⟩ := hw.at_ q bk hq
        rw [hk] at g1
        injection g1 with g1
        subst g1
        refine hgr.block k (Array.getElem?_eq_some_iff.1 g3).1 fun e => ?_
        cases hro : bk.ro with
        | false => exact hrow.apart k e.symm ⟨q, bk, hq, hro, hk⟩
        | true =>
          have hqG := roLow_find k5 hq hro
          have := hw.g q hqG
          rw [hk] at this
          injection this with this
          have := (hblk k e.symm).1
          omega
      have hw' : Wd P G W r m w' := ⟨hlow, hw.n, hw.g, fun q bk hq => by
        obtain ⟨k, c', g1, g2, g3, g4⟩ := hw.at_ q bk hq
        exact ⟨k, c', g1, g2, by rw [hkeep q bk k hq g1]; exact g3, g4⟩, hw.inj⟩
      have hU : ∀ q, q < h0 → setN ρ j v q = ρ q := fun q hq => setN_ne (by omega)
      obtain ⟨s1, s2⟩ := state_congr k3 k4 hU ha hw'
      have hrows : (γ i ++ [us'.map (dn ρ)]).flatten = (γ i).flatten ++ l' := by rw [List.flatten_append, hl']; simp
      have hnew : OwnR W w' r m v e ti.size (γ i ++ [us'.map (dn ρ)]) := by
        refine ⟨fun c hc => ?_, ?_, fun k hk hd => ?_⟩
        · rcases List.mem_append.1 hc with hc | hc
          · exact hrow.len c hc
          · rw [List.mem_singleton] at hc; rw [hc, List.length_map]; exact hlen
        · rw [hrows, List.length_append]; exact hown
        · obtain ⟨q, bk, hq, hro, hr⟩ := hd
          have h1 := World.ownsRow.lt hown k hk
          obtain ⟨k', c', g1, g2, g3, -⟩ := hw.at_ q bk hq
          rw [hr] at g1
          injection g1 with g1
          subst g1
          have hklt : k < w.heap.size := (Array.getElem?_eq_some_iff.1 g3).1
          rcases hwhere k hk with h2 | h2
          · exact hrow.apart k h2 ⟨q, bk, hq, hro, hr⟩
          · omega
      have htag := hnew.tag
      have hold : ∀ y ∈ L0, OwnR W w' r m (ρ y.i) y.e y.z (γ y.i) := fun y hy => by
        have h1 := hR.each y (List.mem_cons_of_mem _ hy)
        refine ⟨h1.len, owns_keep h1.own fun k hk => hgr.block k (World.ownsRow.lt h1.own k hk).2 fun e => ?_, h1.apart⟩
        exact hR.two _ List.mem_cons_self y (List.mem_cons_of_mem _ hy) (fun e => (hL0 y hy).1 e.symm) k e.symm hk
      have hne : ∀ y ∈ L0, ∀ k, v.ownBlock = some k → (ρ y.i).ownBlock ≠ some k := fun y hy k hk e => by
        rcases hwhere k hk with h2 | h2
        · exact hR.two _ List.mem_cons_self y (List.mem_cons_of_mem _ hy) (fun e => (hL0 y hy).1 e.symm) k h2 e
        · have := (World.ownsRow.lt (hR.each y (List.mem_cons_of_mem _ hy)).own k e).2
          omega
      refine h v _ w' htag ⟨_, @AcT.put (thOf (setN ρ j v) W) _ _ _ _ s1 o.dst (L 10 j) v ?_, s2, Nat.le_trans hB hgr.size, ⟨fun x hx => ?_, fun x hx y hy hxy k hkx hky => ?_⟩⟩
      · have := @let_de (setN ρ j v) W 10 j (by decide) (by rw [setN_same]; exact htag)
        rw [setN_same] at this
        exact this
      · rcases List.mem_cons.1 hx with rfl | hx
        · show OwnR W w' _ m (setN ρ j v j) e ti.size (setN γ j _ j)
          rw [setN_same, setN_same]
          exact hnew.cv k4
        · rw [setN_ne (hL0 x hx).2, setN_ne (hL0 x hx).2]
          exact (hold x hx).cv k4
      · rcases List.mem_cons.1 hx with rfl | hx
        · rcases List.mem_cons.1 hy with rfl | hy
          · exact hxy rfl
          · have hkx : (setN ρ j v j).ownBlock = some k := hkx
            rw [setN_same] at hkx
            rw [setN_ne (hL0 y hy).2] at hky
            exact hne y hy k hkx hky
        · rcases List.mem_cons.1 hy with rfl | hy
          · have hky : (setN ρ j v j).ownBlock = some k := hky
            rw [setN_same] at hky
            rw [setN_ne (hL0 x hx).2] at hkx
            exact hne x hx k hky hkx
          · rw [setN_ne (hL0 x hx).2] at hkx
            rw [setN_ne (hL0 y hy).2] at hky
            exact hR.two x (List.mem_cons_of_mem _ hx) y (List.mem_cons_of_mem _ hy) hxy k hkx hky
    · cases hck
  · cases hck
end
end Go.Sx
namespace Go.Sx
open Go.RowKit
/-- an append of the row of one type, unguarded: its operands, the elements' type -/
def pushOf (P : Program) (o : Oper) : Option (Operand × Operand × TypeId × TypeInfo) := match o.guard, o.op with
  | none, .call c => match c.callee, c.args.toList, c.argTypes.toList with
    | .builtin .append, [s, x], [T, T'] => match Nat.beq T T', P.underlying T with
      | true, some (.slice e) => match P.info? e with
        | some ti => match ti.zero with
          | some zv => match Nat.beq zv.cells.size ti.size && Nat.blt 0 ti.size with
            | true => some (s, x, e, ti)
            | false => none
          | none => none
        | none => none
      | _, _ => none
    | _, _, _ => none
  | _, _ => none
theorem pushOf_spec {P : Program} {o : Oper} {s x : Operand} {e : TypeId} {ti : TypeInfo} (h : pushOf P o = some (s, x, e, ti)) : o.guard = none ∧ ∃ T zv, (∃ c, o.op = .call c ∧ c.callee = .builtin .append ∧ c.args.toList = [s, x] ∧ c.argTypes.toList = [T, T]) ∧ P.underlying T = some (.slice e) ∧ P.info? e = some ti ∧ ti.zero = some zv ∧ zv.cells.size = ti.size ∧ 0 < ti.size := by
  unfold pushOf at h
  split at h
  · rename_i c hg ho
    split at h
    · rename_i s' x' T T' hc ha hT
      split at h
      · rename_i e' hTT hu
        split at h
        · rename_i ti' hi
          split at h
          · rename_i zv hz
            split at h
            · rename_i hk
              injection h with h
              simp only [Prod.mk.injEq] at h
              obtain ⟨rfl, rfl, rfl, rfl⟩ := h
              rw [Bool.and_eq_true] at hk
              have hTT := Nat.eq_of_beq_eq_true hTT
              subst hTT
              exact ⟨hg, T, zv, ⟨c, ho, hc, ha, hT⟩, hu, hi, hz, Nat.eq_of_beq_eq_true hk.1, by simpa [Nat.blt_eq] using hk.2⟩
            · cases h
          · cases h
        · cases h
      · cases h
    · cases h
  · cases h
/-- a region in which the operation with number na appends one element to the row of letter i: everything that has to be looked at -/
noncomputable def regCk (P : Program) (G : Nat) (env : EnvF) (M : List (Value × List Value)) (F : Fs) (nf nt h0 na i j : Nat) (e : TypeId) (z bb : Nat) (us : List Value) (E : Es) (L0 L' : List Rt) (c : Code) (t : Tr) (m : AM) (tp : Tr) (mp : AM) (t2 : Tr) (m2 : AM) : Bool := match c with
  | .region _ ops false => match ops.toList[na]? with
    | some o => match pushOf P o, @evOps ⟨F, M⟩ P G (evCall P env (@evCode ⟨F, M⟩ P G env nf)) nt ops (ops.toList.take na) t m with
      | some (s, x, e', ti), some (t1, m1) => match (Nat.beq e e' && (Nat.beq z ti.size && Nat.ble ti.bytes bb)) && ((cvT [] h0 mp.n (dpt nt) t1 tp && cvM [] h0 G m1 mp) && (pushCk G nt h0 tp mp i ti.size s x us && (Nat.ble h0 j && L0.all fun y => !Nat.beq y.i i && !Nat.beq y.i j))), @evOps ⟨[], []⟩ P G (evCall P env (@evCode ⟨[], []⟩ P G env nf)) nt ops (ops.toList.drop (na + 1)) (tp.put nt o.dst (L 10 j)) mp with
        | true, some (t', m') => cvT E (j + 1) m2.n (dpt nt) t' t2 && (cvM E (j + 1) G m' m2 && rowsOk E (⟨j, e, z⟩ :: L0) L')
        | _, _ => false
      | _, _ => false
    | none => false
  | _ => false
theorem split_at {α : Type} {l : List α} {n : Nat} {o : α} (h : l[n]? = some o) : l = l.take n ++ o :: l.drop (n + 1) := by
  have hn := (List.getElem?_eq_some_iff.1 h).1
  have he := (List.getElem?_eq_some_iff.1 h).2
  rw [← he, List.getElem_cons_drop, List.take_append_drop]
section
variable {P : Program} {G : Nat} {W : World} {ρ : Nat → Value} {γ : Ga} {env : EnvF} {M : List (Value × List Value)}
theorem regPush (hN : NoGo P) (hM : P.follows .mixedOrders = true) {F : Fs} {nf nt h0 na i j : Nat} {e : TypeId} {z bb : Nat} {us : List Value} {E : Es} {L0 L' : List Rt} {c : Code} {t : Tr} {m : AM} {tp : Tr} {mp : AM} {t2 : Tr} {m2 : AM}
    (hck : regCk P G env M F nf nt h0 na i j e z bb us E L0 L' c t m tp mp t2 m2 = true) (hK : Kn P G W ρ (fun _ => env) M F) (hE : ∀ v, @EnvOk (thOf (setN ρ j v) W) P G W env) (hG : G ≤ W.heap.size) {Q : Exit → Act → World → Prop} {N : Act → World → Prop} {b : Act} {w : World}
    (hI : InvR P G W ρ γ (⟨i, e, z⟩ :: L0) nt t m b w) (hn : ((γ i).length + 1) * (bb + 1) ≤ 140737488355328)
    (h : ∀ v b' w', hasTag 10 v → InvR P G W (upd (setN ρ j v) E) (updG (setN γ j (γ i ++ [us.map (dn ρ)])) E) L' nt t2 m2 b' w' → N b' w') : c.wp P (Exit.then N Q) b w := by
  unfold regCk at hck
  split at hck
  · rename_i id ops
    split at hck
    · rename_i o ho
      split at hck
      · rename_i s x e' ti t1 m1 hpo hA
        split at hck
        · rename_i t' m' k1 hB
          simp only [Bool.and_eq_true] at k1 hck
          obtain ⟨⟨a1, a2, a3⟩, ⟨a7, a8⟩, a4, a5, a6⟩ := k1
          have a1 := Nat.eq_of_beq_eq_true a1
          have a2 := Nat.eq_of_beq_eq_true a2
          have a3 := Nat.le_of_ble_eq_true a3
          have a5 := Nat.le_of_ble_eq_true a5
          subst a1 a2
          obtain ⟨hgd, T, zv, ⟨cl, ho1, hcl, hargs, htys⟩, ht, hi, hz, hzs, hz0⟩ := pushOf_spec hpo
          refine wp_region_list ?_
          rw [split_at ho]
          refine wpList_parted _ _ _ _ (opsR hN hM hK hA hI fun b1 w1 hI1 => ?_)
          have hI1 := hI1.turn a7 a8
          show wpList P ops (Exit.then N Q) (o :: ops.toList.drop (na + 1)) b1 w1
          have hmul : ((γ i).length + 1) * (ti.bytes + 1) ≤ ((γ i).length + 1) * (bb + 1) := Nat.mul_le_mul_left _ (by omega)
          refine pushR (i := i) (j := j) hgd ho1 hcl hargs htys ht hi hz hzs hz0 a4 a5 (fun y hy => ?_) hG hI1 (by omega) fun v b2 w2 hv hI2 => ?_
          · have := List.all_eq_true.1 a6 y hy
            simp only [Bool.and_eq_true, Bool.not_eq_true'] at this
            exact ⟨Nat.ne_of_beq_eq_false this.1, Nat.ne_of_beq_eq_false this.2⟩
          · refine opsR hN hM (F := []) (M := []) (env := env) ⟨fun p hp => by simp at hp, fun p hp => by simp at hp, fun _ _ => hE v⟩ hB hI2 fun b3 w3 hI3 => ?_
            refine h v b3 w3 hv ?_
            obtain ⟨r, ha, hw, hBs, hR⟩ := hI3
            exact ⟨_, cvT_sound (upd_Upd E (j + 1)) hck.1 ha, cvM_sound (upd_Upd E (j + 1)) hck.2.1 hw, hBs, (hR.next hck.2.2).cv hck.2.1⟩
        · cases hck
      · cases hck
    · cases hck
  · cases hck
/-- what lies below the heap's end stays: so does the state -/
theorem Wd.later {r : List Nat} {m : AM} {w w' : World} (h : @Wd (thOf ρ W) P G W r m w) (hb : Below w.heap.size w w') : @Wd (thOf ρ W) P G W r m w' :=
  letI := thOf ρ W
  ⟨h.low.trans (hb.mono h.low.size), h.n, h.g, fun i x hx => by
    obtain ⟨b, c', g1, g2, g3, g4⟩ := h.at_ i x hx
    exact ⟨b, c', g1, g2, by rw [hb.block b (Array.getElem?_eq_some_iff.1 g3).1]; exact g3, g4⟩, h.inj⟩
theorem D.lt {r : List Nat} {m : AM} {w : World} {k : Nat} (h : @Wd (thOf ρ W) P G W r m w) (hd : D r m k) : k < w.heap.size := by
  letI := thOf ρ W
  obtain ⟨i, x, hx, -, hr⟩ := hd
  obtain ⟨b, c', g1, -, g3, -⟩ := h.at_ i x hx
  rw [hr] at g1
  injection g1 with g1
  subst g1
  exact (Array.getElem?_eq_some_iff.1 g3).1
theorem OwnR.later {r : List Nat} {m : AM} {w w' : World} {v : Value} {e : TypeId} {z : Nat} {l : List (List Value)} (h : OwnR W w r m v e z l) (hb : Below w.heap.size w w') : OwnR W w' r m v e z l :=
  ⟨h.len, owns_keep h.own fun k hk => hb.block k (World.ownsRow.lt h.own k hk).2, h.apart⟩
/-- a call of which the answer is a letter, whatever it is; rw: it is a row of new memory -/
theorem callR (hN : NoGo P) {ops : Array Oper} {rest : List Oper} {Q : Exit → Act → World → Prop} {o : Oper} {c : Call} {g : FuncId} {args : Array Value} {tg j h0 nt : Nat} {t : Tr} {m : AM} {Lr : List Rt} {row : Option (TypeId × Nat)}
    (hgd : o.guard = none) (hc : o.op = .call c) (hcall : callOf G (t.ev nt) c = some (g, args)) (hbody : hasBody P g = true) (h1 : cvT [] h0 m.n (dpt nt) t t = true) (h2 : cvM [] h0 G m m = true) (hj : h0 ≤ j) (htg : tg < 16) (hL : ∀ x ∈ Lr, x.i ≠ j)
    {Post : Value → List (List Value) → World → Prop} {b : Act} {w : World} (hI : InvR P G W ρ γ Lr nt t m b w)
    (hC : ∀ r args', @All (@V2 (thOf ρ W) r) args args' → (∀ x ∈ Lr, OwnR W w r m (ρ x.i) x.e x.z (γ x.i)) → W.heap.size ≤ w.heap.size → Below W.heap.size W w → Calls P g args' w fun e w' => ∃ X l, e = .returned X ∧ hasTag tg X ∧ Below w.heap.size w w' ∧ Post X l w' ∧ ∀ e z, row = some (e, z) → (∀ x ∈ l, x.length = z) ∧ w'.ownsRow w.heap.size e z X l.length l.flatten)
    (h : ∀ X l b' w', hasTag tg X → Post X l w' → InvR P G W (setN ρ j X) (setN γ j l) ((row.map fun p => ⟨j, p.1, p.2⟩).toList ++ Lr) nt (t.put nt o.dst (L tg j)) m b' w' → wpList P ops Q rest b' w') : wpList P ops Q (o :: rest) b w := by
  obtain ⟨r, ha, hw, hB, hR⟩ := hI
  letI := thOf ρ W
  have hev : @EvR (thOf ρ W) G r (t.ev nt) b.eval := @AcT.eval (thOf ρ W) nt r t b ha G hw.g
  refine wpList_plain hgd fun K hK => freshOp hN hc hcall hbody hev fun args' hargs => ?_
  refine (hC r args' hargs hR.each hB hw.low).mono ?_
  rintro e w' ⟨X, l, rfl, htag, hb, hP, hrow⟩
  refine ⟨X, rfl, hK _ _ (h X l _ w' htag hP ?_)⟩
  have hU : ∀ q, q < h0 → setN ρ j X q = ρ q := fun q hq => setN_ne (by omega)
  obtain ⟨s1, s2⟩ := state_congr h1 h2 hU ha (Wd.later hw hb)
  refine ⟨_, @AcT.put (thOf (setN ρ j X) W) _ _ _ _ s1 o.dst (L tg j) X ?_, s2, Nat.le_trans hB hb.size, ?_⟩
  · have := @let_de (setN ρ j X) W tg j htg (by rw [setN_same]; exact htag)
    rw [setN_same] at this
    exact this
  · have hold : Rows W w' (r.take m.n) m (setN ρ j X) (setN γ j l) Lr := Rows.congr ⟨fun x hx => ((hR.each x hx).later hb).cv h2, hR.two⟩ fun x hx => ⟨setN_ne (hL x hx), setN_ne (hL x hx)⟩
    cases row with
    | none => exact hold
    | some p =>
      obtain ⟨e, z⟩ := p
      obtain ⟨hz, hown⟩ := hrow e z rfl
      have hlt := World.ownsRow.lt hown
      have hown' : w'.ownsRow W.heap.size e z X l.length l.flatten := by
        refine ⟨hown.1, ?_⟩
        rcases hown.2 with hn | ⟨g, cap, cur, rfl, hg, rest⟩
        · exact .inl hn
        · exact .inr ⟨g, cap, cur, rfl, Nat.le_trans hB hg, rest⟩
      have hnew : OwnR W w' r m X e z l := ⟨hz, hown', fun k hk hd => by
        have h1 := (hlt k hk).1
        have h2 := D.lt hw hd
        omega⟩
      have hne : ∀ y ∈ Lr, ∀ k, X.ownBlock = some k → (ρ y.i).ownBlock ≠ some k := fun y hy k hk hy2 => by
        have h1 := (hlt k hk).1
        have h2 := (World.ownsRow.lt (hR.each y hy).own k hy2).2
        omega
      refine ⟨fun x hx => ?_, fun x hx y hy hxy k hkx hky => ?_⟩
      · rcases List.mem_cons.1 hx with rfl | hx
        · show OwnR W w' _ m (setN ρ j X j) e z (setN γ j _ j)
          rw [setN_same, setN_same]
          exact hnew.cv h2
        · exact hold.each x hx
      · rcases List.mem_cons.1 hx with rfl | hx
        · rcases List.mem_cons.1 hy with rfl | hy
          · exact hxy rfl
          · have hkx : (setN ρ j X j).ownBlock = some k := hkx
            rw [setN_same] at hkx
            rw [setN_ne (hL y hy)] at hky
            exact hne y hy k hkx hky
        · rcases List.mem_cons.1 hy with rfl | hy
          · have hky : (setN ρ j X j).ownBlock = some k := hky
            rw [setN_same] at hky
            rw [setN_ne (hL x hx)] at hkx
            exact hne x hx k hky hkx
          · exact hold.two x hx y hy hxy k hkx hky
end
section
variable {ρ : Nat → Value}
theorem dn_i64 {i : Nat} {n : Int} (h : ρ i = .int .i64 n) (h0 : -9223372036854775808 ≤ n) (h1 : n < 9223372036854775808) : dn ρ (L 3 i) = .int .i64 n := by
  rw [← h]
  exact dn_let' (by decide) (by rw [h]; exact ⟨rfl, by simp [IntKind.min, IntKind.bits, IntKind.signed]; omega, by simp [IntKind.max, IntKind.bits, IntKind.signed]; omega⟩)
theorem tag_i64 {n : Int} (h0 : -9223372036854775808 ≤ n) (h1 : n < 9223372036854775808) : hasTag 3 (.int .i64 n) := ⟨rfl, by simp [IntKind.min, IntKind.bits, IntKind.signed]; omega, by simp [IntKind.max, IntKind.bits, IntKind.signed]; omega⟩
theorem of_tag3 {v : Value} (h : hasTag 3 v) : ∃ n : Int, v = .int .i64 n ∧ -9223372036854775808 ≤ n ∧ n < 9223372036854775808 := by
  obtain ⟨k, n, rfl, hk⟩ := hasTag_int h (by decide)
  have : k = .i64 := kN_inj (j := k) (k := .i64) hk
  subst this
  obtain ⟨-, h1, h2⟩ := h
  simp [IntKind.min, IntKind.max, IntKind.bits, IntKind.signed] at h1 h2
  exact ⟨n, rfl, by omega, by omega⟩
theorem dn_add {x y : Value} {a c : Int} (hx : dn ρ x = .int .i64 a) (hy : dn ρ y = .int .i64 c) (h0 : -9223372036854775808 ≤ a + c) (h1 : a + c < 9223372036854775808) : dn ρ (B (bc .add 3) x y) = .int .i64 (a + c) := by
  refine dn_bop .add (by decide) ?_ (tag_i64 h0 h1)
  rw [hx, hy]
  show some (Value.int .i64 (IntKind.i64.wrap (a + c))) = _
  rw [wrap_i64 h0 h1]
theorem dn_sub {x y : Value} {a c : Int} (hx : dn ρ x = .int .i64 a) (hy : dn ρ y = .int .i64 c) (h0 : -9223372036854775808 ≤ a - c) (h1 : a - c < 9223372036854775808) : dn ρ (B (bc .sub 3) x y) = .int .i64 (a - c) := by
  refine dn_bop .sub (by decide) ?_ (tag_i64 h0 h1)
  rw [hx, hy]
  show some (Value.int .i64 (IntKind.i64.wrap (a - c))) = _
  rw [wrap_i64 h0 h1]
theorem OwnR.len_dn {W w : World} {r : List Nat} {m : AM} {i : Nat} {e : TypeId} {z : Nat} {l : List (List Value)} (h : OwnR W w r m (ρ i) e z l) : dn ρ (LEN (L 10 i)) = .int .i64 l.length := by
  obtain ⟨p, c, hv⟩ := h.value
  exact dn_len hv h.tag
end
/-- how a call answers -/
theorem answerR {P : Program} {G : Nat} {W : World} {ρ : Nat → Value} {γ : Ga} {Lr : List Rt} {fn : Func} {t : Tr} {m : AM} {vs : List Value} {v : Value} {R : Ending → World → Prop} {b : Act} {w : World} {e : Exit} (he : e = .normal ∨ e = .ret) (hI : InvR P G W ρ γ Lr fn.ntmps t m b w) (h1 : resL P fn.ntmps t m fn.results.toList = some vs) (h2 : resV vs = some v)
    (hR : ∀ X w' r, @V3 (thOf ρ W) r v X → Below W.heap.size W w' → (∀ x ∈ Lr, OwnR W w' r m (ρ x.i) x.e x.z (γ x.i)) → R (.returned X) w') : bodyPost P fn R e b w := by
  letI := thOf ρ W
  obtain ⟨r, ha, hw, hB, hRs⟩ := hI
  obtain ⟨X, hv, hrun⟩ := results_sound ha hw h1 h2
  have : b.defers = [] ∧ ∃ v, (results fn b.tmps).run P w = .ok v w ∧ R (.returned v) w := ⟨ha.d, X, hrun, hR X w r hv hw.low hRs.each⟩
  rcases he with rfl | rfl <;> exact this
/-- the answer is a row -/
theorem answerRow {P : Program} {G : Nat} {W : World} {ρ : Nat → Value} {γ : Ga} {Lr : List Rt} {fn : Func} {t : Tr} {m : AM} {i : Nat} {e' : TypeId} {z : Nat} {R : Ending → World → Prop} {b : Act} {w : World} {e : Exit} (he : e = .normal ∨ e = .ret) (hI : InvR P G W ρ γ Lr fn.ntmps t m b w) (h1 : resL P fn.ntmps t m fn.results.toList = some [L 10 i]) (hx : ⟨i, e', z⟩ ∈ Lr)
    (hR : ∀ X w', Below W.heap.size W w' → hasTag 10 X → (∀ x ∈ γ i, x.length = z) → w'.ownsRow W.heap.size e' z X (γ i).length (γ i).flatten → R (.returned X) w') : bodyPost P fn R e b w := by
  refine answerR he hI h1 rfl fun X w' r hX hB hrow => ?_
  have ho := hrow _ hx
  have hX : X = dn ρ (L 10 i) := hX
  rw [dn_let' (g := 10) (by decide) ho.tag] at hX
  rw [hX]
  exact hR _ w' hB ho.tag ho.len ho.own
/-- rows of ints -/
def rowsOf (l : List Int) : List (List Value) := l.map fun x => [.int .i64 x]
theorem rowsOf_len (l : List Int) : (rowsOf l).length = l.length := by simp [rowsOf]
theorem rowsOf_get {l : List Int} {i : Nat} (h : i < l.length) : (rowsOf l)[i]? = some [.int .i64 (l.getD i 0)] := by
  simp [rowsOf, List.getD, h]
/-- a block of items among the items -/
def inOf : Code → Code
  | .block _ x => x
  | _ => .skip
def isBlock : Code → Bool
  | .block _ _ => true
  | _ => false
theorem blockR {P : Program} {c : Code} {Q : Exit → Act → World → Prop} {b : Act} {w : World} (hc : isBlock c = true) (h : seqWp P (fun e b w => Q (match e with | .exit i => if i = loopId c then .normal else .exit i | e => e) b w) (flat (inOf c)) b w) : c.wp P Q b w := by
  unfold isBlock at hc
  split at hc
  · rename_i i x
    refine wp_block (wp_mono (seqWp_code _ _ _ h) ?_)
    intro e b' w' he
    cases e with
    | exit j =>
      revert he
      show Q (if j = i then .normal else .exit j) b' w' → (if j = i then Q .normal b' w' else Q (.exit j) b' w')
      split <;> exact fun h => h
    | _ => exact he
  · cases hc
end Go.Sx
