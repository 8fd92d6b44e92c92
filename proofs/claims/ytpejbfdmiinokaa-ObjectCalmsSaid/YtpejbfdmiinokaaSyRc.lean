/-
  RUNS RECKONED AHEAD: a region with an append to a row of the call's own; calls of which the answer is a letter. By an AI agent.
-/
import Derived.Test.YtpejbfdmiinokaaSyRp
namespace Go.Sx
open Go.RowKit
/-- an append of the row of one type, unguarded: its operands, the elements' type -/
def pushOf (P : Program) (o : Oper) : Option (Operand × Operand × TypeId × TypeInfo) := match o.guard, o.op with
  | none, .call c => match c.callee, c.args.toList, c.argTypes.toList with
    | .builtin .append, [s, x], [T, T'] => match Nat.beq T T', P.underlying T with
      | true, some (.slice e) => match P.info? e with
        | some ti => match ti.zero with
          | some zv => match Nat.beq zv.cells.size ti.size && Nat.blt 0 ti.size with
            | true => some (s, x, e, ti)
            | false => none
          | none => none
        | none => none
      | _, _ => none
    | _, _, _ => none
  | _, _ => none
theorem pushOf_spec {P : Program} {o : Oper} {s x : Operand} {e : TypeId} {ti : TypeInfo} (h : pushOf P o = some (s, x, e, ti)) : o.guard = none ∧ ∃ T zv, (∃ c, o.op = .call c ∧ c.callee = .builtin .append ∧ c.args.toList = [s, x] ∧ c.argTypes.toList = [T, T]) ∧ P.underlying T = some (.slice e) ∧ P.info? e = some ti ∧ ti.zero = some zv ∧ zv.cells.size = ti.size ∧ 0 < ti.size := by
  unfold pushOf at h
  split at h
  · rename_i c hg ho
    split at h
    · rename_i s' x' T T' hc ha hT
      split at h
      · rename_i e' hTT hu
        split at h
        · rename_i ti' hi
          split at h
          · rename_i zv hz
            split at h
            · rename_i hk
              injection h with h
              simp only [Prod.mk.injEq] at h
              obtain ⟨rfl, rfl, rfl, rfl⟩ := h
              rw [Bool.and_eq_true] at hk
              have hTT := Nat.eq_of_beq_eq_true hTT
              subst hTT
              exact ⟨hg, T, zv, ⟨c, ho, hc, ha, hT⟩, hu, hi, hz, Nat.eq_of_beq_eq_true hk.1, by simpa [Nat.blt_eq] using hk.2⟩
            · cases h
          · cases h
        · cases h
      · cases h
    · cases h
  · cases h
/-- a region in which the operation with number na appends one element to the row of letter i: everything that has to be looked at -/
noncomputable def regCk (P : Program) (G : Nat) (env : EnvF) (M : List (Value × List Value)) (F : Fs) (nf nt h0 na i j : Nat) (e : TypeId) (z bb : Nat) (us : List Value) (E : Es) (L0 L' : List Rt) (c : Code) (t : Tr) (m : AM) (tp : Tr) (mp : AM) (t2 : Tr) (m2 : AM) : Bool := match c with
  | .region _ ops false => match ops.toList[na]? with
    | some o => match pushOf P o, @evOps ⟨F, M⟩ P G (evCall P env (@evCode ⟨F, M⟩ P G env nf)) nt ops (ops.toList.take na) t m with
      | some (s, x, e', ti), some (t1, m1) => match (Nat.beq e e' && (Nat.beq z ti.size && Nat.ble ti.bytes bb)) && ((cvT [] h0 mp.n (dpt nt) t1 tp && cvM [] h0 G m1 mp) && (pushCk G nt h0 tp mp i ti.size s x us && (Nat.ble h0 j && L0.all fun y => !Nat.beq y.i i && !Nat.beq y.i j))), @evOps ⟨[], []⟩ P G (evCall P env (@evCode ⟨[], []⟩ P G env nf)) nt ops (ops.toList.drop (na + 1)) (tp.put nt o.dst (L 10 j)) mp with
        | true, some (t', m') => cvT E (j + 1) m2.n (dpt nt) t' t2 && (cvM E (j + 1) G m' m2 && rowsOk E (⟨j, e, z⟩ :: L0) L')
        | _, _ => false
      | _, _ => false
    | none => false
  | _ => false
theorem split_at {α : Type} {l : List α} {n : Nat} {o : α} (h : l[n]? = some o) : l = l.take n ++ o :: l.drop (n + 1) := by
  have hn := (List.getElem?_eq_some_iff.1 h).1
  have he := (List.getElem?_eq_some_iff.1 h).2
  rw [← he, List.getElem_cons_drop, List.take_append_drop]
section
variable {P : Program} {G : Nat} {W : World} {ρ : Nat → Value} {γ : Ga} {env : EnvF} {M : List (Value × List Value)}
theorem regPush (hN : NoGo P) (hM : P.follows .mixedOrders = true) {F : Fs} {nf nt h0 na i j : Nat} {e : TypeId} {z bb : Nat} {us : List Value} {E : Es} {L0 L' : List Rt} {c : Code} {t : Tr} {m : AM} {tp : Tr} {mp : AM} {t2 : Tr} {m2 : AM}
    (hck : regCk P G env M F nf nt h0 na i j e z bb us E L0 L' c t m tp mp t2 m2 = true) (hK : Kn P G W ρ (fun _ => env) M F) (hE : ∀ v, @EnvOk (thOf (setN ρ j v) W) P G W env) (hG : G ≤ W.heap.size) {Q : Exit → Act → World → Prop} {N : Act → World → Prop} {b : Act} {w : World}
    (hI : InvR P G W ρ γ (⟨i, e, z⟩ :: L0) nt t m b w) (hn : ((γ i).length + 1) * (bb + 1) ≤ 140737488355328)
    (h : ∀ v b' w', hasTag 10 v → InvR P G W (upd (setN ρ j v) E) (updG (setG γ j (γ i ++ [us.map (dn ρ)])) E) L' nt t2 m2 b' w' → N b' w') : c.wp P (Exit.then N Q) b w := by
  unfold regCk at hck
  split at hck
  · rename_i id ops
    split at hck
    · rename_i o ho
      split at hck
      · rename_i s x e' ti t1 m1 hpo hA
        split at hck
        · rename_i t' m' k1 hB
          simp only [Bool.and_eq_true] at k1 hck
          obtain ⟨⟨a1, a2, a3⟩, ⟨a7, a8⟩, a4, a5, a6⟩ := k1
          have a1 := Nat.eq_of_beq_eq_true a1
          have a2 := Nat.eq_of_beq_eq_true a2
          have a3 := Nat.le_of_ble_eq_true a3
          have a5 := Nat.le_of_ble_eq_true a5
          subst a1 a2
          obtain ⟨hgd, T, zv, ⟨cl, ho1, hcl, hargs, htys⟩, ht, hi, hz, hzs, hz0⟩ := pushOf_spec hpo
          refine wp_region_list ?_
          rw [split_at ho]
          refine wpList_parted _ _ _ _ (opsR hN hM hK hA hI fun b1 w1 hI1 => ?_)
          have hI1 := hI1.turn a7 a8
          show wpList P ops (Exit.then N Q) (o :: ops.toList.drop (na + 1)) b1 w1
          have hmul : ((γ i).length + 1) * (ti.bytes + 1) ≤ ((γ i).length + 1) * (bb + 1) := Nat.mul_le_mul_left _ (by omega)
          refine pushR (i := i) (j := j) hgd ho1 hcl hargs htys ht hi hz hzs hz0 a4 a5 (fun y hy => ?_) hG hI1 (by omega) fun v b2 w2 hv hI2 => ?_
          · have := List.all_eq_true.1 a6 y hy
            simp only [Bool.and_eq_true, Bool.not_eq_true'] at this
            exact ⟨Nat.ne_of_beq_eq_false this.1, Nat.ne_of_beq_eq_false this.2⟩
          · refine opsR hN hM (F := []) (M := []) (env := env) ⟨fun p hp => by simp at hp, fun p hp => by simp at hp, fun _ _ => hE v⟩ hB hI2 fun b3 w3 hI3 => ?_
            refine h v b3 w3 hv ?_
            obtain ⟨r, ha, hw, hBs, hR⟩ := hI3
            exact ⟨_, cvT_sound (upd_Upd E (j + 1)) hck.1 ha, cvM_sound (upd_Upd E (j + 1)) hck.2.1 hw, hBs, (hR.next hck.2.2).cv hck.2.1⟩
        · cases hck
      · cases hck
    · cases hck
  · cases hck
/-- what lies below the heap's end stays: so does the state -/
theorem Wd.later {r : List Nat} {m : AM} {w w' : World} (h : @Wd (thOf ρ W) P G W r m w) (hb : Below w.heap.size w w') : @Wd (thOf ρ W) P G W r m w' :=
  letI := thOf ρ W
  ⟨h.low.trans (hb.mono h.low.size), h.n, h.g, fun i x hx => by
    obtain ⟨b, c', g1, g2, g3, g4⟩ := h.at_ i x hx
    exact ⟨b, c', g1, g2, by rw [hb.block b (Array.getElem?_eq_some_iff.1 g3).1]; exact g3, g4⟩, h.inj, h.low2.below hb, h.opn⟩
theorem D.lt {r : List Nat} {m : AM} {w : World} {k : Nat} (h : @Wd (thOf ρ W) P G W r m w) (hd : D r m k) : k < w.heap.size := by
  letI := thOf ρ W
  obtain ⟨i, x, hx, -, hr⟩ := hd
  obtain ⟨b, c', g1, -, g3, -⟩ := h.at_ i x hx
  rw [hr] at g1
  injection g1 with g1
  subst g1
  exact (Array.getElem?_eq_some_iff.1 g3).1
theorem OwnR.later {r : List Nat} {m : AM} {w w' : World} {v : Value} {e : TypeId} {z : Nat} {l : List (List Value)} (h : OwnR W w r m v e z l) (hb : Below w.heap.size w w') : OwnR W w' r m v e z l :=
  ⟨h.len, owns_keep h.own fun k hk => hb.block k (World.ownsRow.lt h.own k hk).2, h.apart⟩
/-- a call of which the answer is a letter, whatever it is; rw: it is a row of new memory -/
theorem callR (hN : NoGo P) {ops : Array Oper} {rest : List Oper} {Q : Exit → Act → World → Prop} {o : Oper} {c : Call} {g : FuncId} {args : Array Value} {tg j h0 nt : Nat} {t : Tr} {m : AM} {Lr : List Rt} {row : Option (TypeId × Nat)}
    (hgd : o.guard = none) (hc : o.op = .call c) (hcall : callOf G (t.ev nt) c = some (g, args)) (hbody : hasBody P g = true) (h1 : cvT [] h0 m.n (dpt nt) t t = true) (h2 : cvM [] h0 G m m = true) (hj : h0 ≤ j) (htg : tg < 16) (hL : ∀ x ∈ Lr, x.i ≠ j)
    {Post : Value → List (List Value) → World → Prop} {b : Act} {w : World} (hI : InvR P G W ρ γ Lr nt t m b w)
    (hC : ∀ r args', @All (@V2 (thOf ρ W) r) args args' → (∀ x ∈ Lr, OwnR W w r m (ρ x.i) x.e x.z (γ x.i)) → W.heap.size ≤ w.heap.size → Below W.heap.size W w → Calls P g args' w fun e w' => ∃ X l, e = .returned X ∧ hasTag tg X ∧ Below w.heap.size w w' ∧ Post X l w' ∧ ∀ e z, row = some (e, z) → (∀ x ∈ l, x.length = z) ∧ w'.ownsRow w.heap.size e z X l.length l.flatten)
    (h : ∀ X l b' w', hasTag tg X → Post X l w' → InvR P G W (setN ρ j X) (setG γ j l) ((row.map fun p => ⟨j, p.1, p.2⟩).toList ++ Lr) nt (t.put nt o.dst (L tg j)) m b' w' → wpList P ops Q rest b' w') : wpList P ops Q (o :: rest) b w := by
  obtain ⟨r, ha, hw, hB, hR⟩ := hI
  letI := thOf ρ W
  have hev : @EvR (thOf ρ W) G r (t.ev nt) b.eval := @AcT.eval (thOf ρ W) nt r t b ha G hw.g
  refine wpList_plain hgd fun K hK => freshOp hN hc hcall hbody hev fun args' hargs => ?_
  refine (hC r args' hargs hR.each hB hw.low).mono ?_
  rintro e w' ⟨X, l, rfl, htag, hb, hP, hrow⟩
  refine ⟨X, rfl, hK _ _ (h X l _ w' htag hP ?_)⟩
  have hU : ∀ q, q < h0 → setN ρ j X q = ρ q := fun q hq => setN_ne (by omega)
  obtain ⟨s1, s2⟩ := state_congr h1 h2 hU ha (Wd.later hw hb)
  refine ⟨_, @AcT.put (thOf (setN ρ j X) W) _ _ _ _ s1 o.dst (L tg j) X ?_, s2, Nat.le_trans hB hb.size, ?_⟩
  · have := @let_de (setN ρ j X) W tg j htg (by rw [setN_same]; exact htag)
    rw [setN_same] at this
    exact this
  · have hold : Rows W w' (r.take m.n) m (setN ρ j X) (setG γ j l) Lr := Rows.congr ⟨fun x hx => ((hR.each x hx).later hb).cv h2, hR.two, fun k hk => ⟨(hR.fz k hk).1, (hb.block k (get_lt (hR.fz k hk).1 (hR.fz k hk).2.1)).trans (hR.fz k hk).2.1, fun hd => (hR.fz k hk).2.2.1 (hd.cv h2), (hR.fz k hk).2.2.2⟩⟩ (fun x hx => ⟨setN_ne (hL x hx), setG_ne (hL x hx)⟩) ⟨rfl, rfl⟩
    cases row with
    | none => exact hold
    | some p =>
      obtain ⟨e, z⟩ := p
      obtain ⟨hz, hown⟩ := hrow e z rfl
      have hlt := World.ownsRow.lt hown
      have hown' : w'.ownsRow W.heap.size e z X l.length l.flatten := by
        refine ⟨hown.1, ?_⟩
        rcases hown.2 with hn | ⟨g, cap, cur, rfl, hg, rest⟩
        · exact .inl hn
        · exact .inr ⟨g, cap, cur, rfl, Nat.le_trans hB hg, rest⟩
      have hnew : OwnR W w' r m X e z l := ⟨hz, hown', fun k hk hd => by
        have h1 := (hlt k hk).1
        have h2 := D.lt hw hd
        omega⟩
      have hne : ∀ y ∈ Lr, ∀ k, X.ownBlock = some k → (ρ y.i).ownBlock ≠ some k := fun y hy k hk hy2 => by
        have h1 := (hlt k hk).1
        have h2 := (World.ownsRow.lt (hR.each y hy).own k hy2).2
        omega
      refine ⟨fun x hx => ?_, fun x hx y hy hxy k hkx hky => ?_, fun k hk => ⟨(hold.fz k hk).1, (hold.fz k hk).2.1, (hold.fz k hk).2.2.1, fun x hx e => ?_⟩⟩
      · rcases List.mem_cons.1 hx with rfl | hx
        · show OwnR W w' _ m (setN ρ j X j) e z (setG γ j _ j)
          rw [setN_same, setG_same]
          exact hnew.cv h2
        · exact hold.each x hx
      · rcases List.mem_cons.1 hx with rfl | hx
        · rcases List.mem_cons.1 hy with rfl | hy
          · exact hxy rfl
          · have hkx : (setN ρ j X j).ownBlock = some k := hkx
            rw [setN_same] at hkx
            rw [setN_ne (hL y hy)] at hky
            exact hne y hy k hkx hky
        · rcases List.mem_cons.1 hy with rfl | hy
          · have hky : (setN ρ j X j).ownBlock = some k := hky
            rw [setN_same] at hky
            rw [setN_ne (hL x hx)] at hkx
            exact hne x hx k hky hkx
          · exact hold.two x hx y hy hxy k hkx hky
      · rcases List.mem_cons.1 hx with rfl | hx
        · have e : (setN ρ j X j).ownBlock = some k := e
          rw [setN_same] at e
          have h1 := (hlt k e).1
          have h2 := get_lt (hR.fz k hk).1 (hR.fz k hk).2.1
          omega
        · exact (hold.fz k hk).2.2.2 x hx e
end
section
variable {ρ : Nat → Value}
theorem dn_i64 {i : Nat} {n : Int} (h : ρ i = .int .i64 n) (h0 : -9223372036854775808 ≤ n) (h1 : n < 9223372036854775808) : dn ρ (L 3 i) = .int .i64 n := by
  rw [← h]
  exact dn_let' (by decide) (by rw [h]; exact ⟨rfl, by simp [IntKind.min, IntKind.bits, IntKind.signed]; omega, by simp [IntKind.max, IntKind.bits, IntKind.signed]; omega⟩)
theorem tag_i64 {n : Int} (h0 : -9223372036854775808 ≤ n) (h1 : n < 9223372036854775808) : hasTag 3 (.int .i64 n) := ⟨rfl, by simp [IntKind.min, IntKind.bits, IntKind.signed]; omega, by simp [IntKind.max, IntKind.bits, IntKind.signed]; omega⟩
theorem of_tag3 {v : Value} (h : hasTag 3 v) : ∃ n : Int, v = .int .i64 n ∧ -9223372036854775808 ≤ n ∧ n < 9223372036854775808 := by
  obtain ⟨k, n, rfl, hk⟩ := hasTag_int h (by decide)
  have : k = .i64 := kN_inj (j := k) (k := .i64) hk
  subst this
  obtain ⟨-, h1, h2⟩ := h
  simp [IntKind.min, IntKind.max, IntKind.bits, IntKind.signed] at h1 h2
  exact ⟨n, rfl, by omega, by omega⟩
theorem dn_add {x y : Value} {a c : Int} (hx : dn ρ x = .int .i64 a) (hy : dn ρ y = .int .i64 c) (h0 : -9223372036854775808 ≤ a + c) (h1 : a + c < 9223372036854775808) : dn ρ (B (bc .add 3) x y) = .int .i64 (a + c) := by
  refine dn_bop .add (by decide) ?_ (tag_i64 h0 h1)
  rw [hx, hy]
  show some (Value.int .i64 (IntKind.i64.wrap (a + c))) = _
  rw [wrap_i64 h0 h1]
theorem dn_sub {x y : Value} {a c : Int} (hx : dn ρ x = .int .i64 a) (hy : dn ρ y = .int .i64 c) (h0 : -9223372036854775808 ≤ a - c) (h1 : a - c < 9223372036854775808) : dn ρ (B (bc .sub 3) x y) = .int .i64 (a - c) := by
  refine dn_bop .sub (by decide) ?_ (tag_i64 h0 h1)
  rw [hx, hy]
  show some (Value.int .i64 (IntKind.i64.wrap (a - c))) = _
  rw [wrap_i64 h0 h1]
theorem OwnR.len_dn {W w : World} {r : List Nat} {m : AM} {i : Nat} {e : TypeId} {z : Nat} {l : List (List Value)} (h : OwnR W w r m (ρ i) e z l) : dn ρ (LEN (L 10 i)) = .int .i64 l.length := by
  obtain ⟨p, c, hv⟩ := h.value
  exact dn_len hv h.tag
end
/-- how a call answers -/
theorem answerR {P : Program} {G : Nat} {W : World} {ρ : Nat → Value} {γ : Ga} {Lr : List Rt} {fn : Func} {t : Tr} {m : AM} {vs : List Value} {v : Value} {R : Ending → World → Prop} {b : Act} {w : World} {e : Exit} (he : e = .normal ∨ e = .ret) (hI : InvR P G W ρ γ Lr fn.ntmps t m b w) (h1 : resL P fn.ntmps t m fn.results.toList = some vs) (h2 : resV vs = some v)
    (hR : ∀ X w' r, @V3 (thOf ρ W) r v X → Below W.heap.size W w' → (∀ x ∈ Lr, OwnR W w' r m (ρ x.i) x.e x.z (γ x.i)) → R (.returned X) w') : bodyPost P fn R e b w := by
  letI := thOf ρ W
  obtain ⟨r, ha, hw, hB, hRs⟩ := hI
  obtain ⟨X, hv, hrun⟩ := results_sound ha hw h1 h2
  have : b.defers = [] ∧ ∃ v, (results fn b.tmps).run P w = .ok v w ∧ R (.returned v) w := ⟨ha.d, X, hrun, hR X w r hv hw.low hRs.each⟩
  rcases he with rfl | rfl <;> exact this
/-- the answer is a row -/
theorem answerRow {P : Program} {G : Nat} {W : World} {ρ : Nat → Value} {γ : Ga} {Lr : List Rt} {fn : Func} {t : Tr} {m : AM} {i : Nat} {e' : TypeId} {z : Nat} {R : Ending → World → Prop} {b : Act} {w : World} {e : Exit} (he : e = .normal ∨ e = .ret) (hI : InvR P G W ρ γ Lr fn.ntmps t m b w) (h1 : resL P fn.ntmps t m fn.results.toList = some [L 10 i]) (hx : ⟨i, e', z⟩ ∈ Lr)
    (hR : ∀ X w', Below W.heap.size W w' → hasTag 10 X → (∀ x ∈ γ i, x.length = z) → w'.ownsRow W.heap.size e' z X (γ i).length (γ i).flatten → R (.returned X) w') : bodyPost P fn R e b w := by
  refine answerR he hI h1 rfl fun X w' r hX hB hrow => ?_
  have ho := hrow _ hx
  have hX : X = dn ρ (L 10 i) := hX
  rw [dn_let' (g := 10) (by decide) ho.tag] at hX
  rw [hX]
  exact hR _ w' hB ho.tag ho.len ho.own
/-- rows of ints -/
def rowsOf (l : List Int) : List (List Value) := l.map fun x => [.int .i64 x]
theorem rowsOf_len (l : List Int) : (rowsOf l).length = l.length := by simp [rowsOf]
theorem rowsOf_get {l : List Int} {i : Nat} (h : i < l.length) : (rowsOf l)[i]? = some [.int .i64 (l.getD i 0)] := by
  simp [rowsOf, List.getD, h]
/-- a block of items among the items -/
def inOf : Code → Code
  | .block _ x => x
  | _ => .skip
def isBlock : Code → Bool
  | .block _ _ => true
  | _ => false
theorem blockR {P : Program} {c : Code} {Q : Exit → Act → World → Prop} {b : Act} {w : World} (hc : isBlock c = true) (h : seqWp P (fun e b w => Q (match e with | .exit i => if i = loopId c then .normal else .exit i | e => e) b w) (flat (inOf c)) b w) : c.wp P Q b w := by
  unfold isBlock at hc
  split at hc
  · rename_i i x
    refine wp_block (wp_mono (seqWp_code _ _ _ h) ?_)
    intro e b' w' he
    cases e with
    | exit j =>
      revert he
      show Q (if j = i then .normal else .exit j) b' w' → (if j = i then Q .normal b' w' else Q (.exit j) b' w')
      split <;> exact fun h => h
    | _ => exact he
  · cases hc
end Go.Sx
