/-
  RUNS RECKONED AHEAD: append to a row of the call's own; regions parted at it. By an AI agent.
-/
import Derived.Test.YtpejbfdmiinokaaSyRo
namespace Go.Sx
open Go.RowKit
/-- known blocks that are not written lie low -/
def roLow (G : Nat) : List Bk → Bool
  | [] => true
  | x :: l => match x.ro, Nat.blt x.i G with
    | true, false => false
    | _, _ => roLow G l
theorem roLow_find {G : Nat} : ∀ {l : List Bk} {i : Nat} {x : Bk}, roLow G l = true → find l i = some x → x.ro = true → i < G
  | [], _, _, _, h, _ => by cases h
  | y :: l, i, x, h, hf, hr => by
    have hx := find_i hf
    unfold roLow at h
    unfold find at hf
    cases hb : Nat.beq y.i i with
    | true =>
      rw [hb] at hf
      injection hf with hf
      subst hf
      split at h
      · cases h
      · rename_i hne
        rw [← hx]
        cases hlt : Nat.blt y.i G with
        | true => simpa [Nat.blt_eq] using hlt
        | false => exact absurd hlt (by intro e; exact hne hr e)
    | false =>
      rw [hb] at hf
      refine roLow_find (l := l) ?_ hf hr
      split at h
      · cases h
      · exact h
/-- a value that a letter's valuation tells -/
def flatV (u : Value) : Bool := dry u || isTok u
theorem flatV_dn {ρ : Nat → Value} {W : World} {r : List Nat} {u v : Value} (hf : flatV u = true) (h : @V1 (thOf ρ W) r u v) : v = dn ρ u := by
  unfold flatV at hf
  cases u with
  | iface c x => exact h
  | func f a b =>
    have hd : dry (.func f a b) = true := by simpa [isTok] using hf
    obtain ⟨a', b', rfl, h1, h2⟩ := h
    rw [dn_dry ρ hd]
    simp only [dry, Bool.and_eq_true, Array.isEmpty_iff] at hd
    obtain ⟨rfl, rfl⟩ := hd
    have e1 : a' = #[] := Array.eq_empty_of_size_eq_zero h1.1.symm
    have e2 : b' = #[] := Array.eq_empty_of_size_eq_zero h2.1.symm
    rw [e1, e2]
  | pointer a => cases a with
    | none => obtain ⟨hd, e⟩ := h; rw [dn_dry ρ hd]; exact e
    | some a => simp [dry, isTok] at hf
  | slice a n c => cases a with
    | none => obtain ⟨hd, e⟩ := h; rw [dn_dry ρ hd]; exact e
    | some a => simp [dry, isTok] at hf
  | _ => first
    | (obtain ⟨hd, e⟩ := h; rw [dn_dry ρ hd]; exact e)
    | simp [dry, isTok] at hf
/-- what has to be looked at for an append of one element -/
noncomputable def pushCk (G nt h0 : Nat) (t : Tr) (m : AM) (i z : Nat) (s x : Operand) (us : List Value) : Bool := match opd G s && opd G x, veq (t.ev nt s) (L 10 i), t.ev nt x with
  | true, true, .slice (some a) 1 _ => match cellsAt m a z with
    | some us' => cvL veq us' us && (us.all flatV && (cvT [] h0 m.n (dpt nt) t t && (cvM [] h0 G m m && roLow G m.bs)))
    | none => false
  | _, _, _ => false
theorem cvL_veq : ∀ {l q : List Value}, cvL veq l q = true → l = q
  | [], [], _ => rfl
  | [], _ :: _, h => by cases h
  | _ :: _, [], h => by cases h
  | x :: l, y :: q, h => by
    unfold cvL at h
    split at h
    · rename_i hx
      rw [veq_eq hx, cvL_veq h]
    · cases h
/-- append to a row of the call's own: where the result lies -/
theorem run_append_where {P : Program} (w : World) (base : Nat) (t ty e : TypeId) (i : TypeInfo) (z : Value) (ht : P.underlying t = some (.slice e)) (hi : P.info? e = some i) (hz : i.zero = some z)
    (hzs : z.cells.size = i.size) (hsz : 0 < i.size) (v : Value) (n : Nat) (xs : List Value) (hown : w.ownsRow base e i.size v n xs)
    (a : Addr) (m c : Nat) (news : List Value) (hl : news.length = m * i.size) (hnews : ∀ j u, news[j]? = some u → w.cell? (a.add j) = some u) (h1 : ∀ u ∈ news, u.oneCell' = true)
    (h63 : n + m ≤ maxLen) (hbytes : (n + m) * i.bytes ≤ 140737488355328) (hbase : base ≤ w.heap.size) :
    ∃ v' w', (Builtin.append_ #[t, t] ty #[v, .slice (some a) m c]).run P w = .ok v' w' ∧ w'.ownsRow base e i.size v' (n + m) (xs ++ news) ∧ w.grownBy w' v.ownBlock ∧ ∀ k, v'.ownBlock = some k → v.ownBlock = some k ∨ w.heap.size ≤ k := by
  obtain ⟨v', w', hr, h2, h3, -⟩ := run_append_own (P := P) w base t ty e i z i.size i.bytes ht hi hz rfl rfl hzs hsz v n xs hown a m c news hl hnews h1 h63 hbytes hbase
  refine ⟨v', w', hr, h2, h3, fun k hk => ?_⟩
  rcases hown.2 with ⟨rfl, rfl⟩ | ⟨g, cap, cur, rfl, hbg, hg, hnc, hcm, hcs, htake⟩
  · have hx : xs = [] := List.eq_nil_of_length_eq_zero (by simpa using hown.1)
    subst hx
    obtain ⟨v2, w2, hr2, k2, -⟩ := run_append_own (P := P) w w.heap.size t ty e i z i.size i.bytes ht hi hz rfl rfl hzs hsz _ 0 [] (World.ownsRow_nil w w.heap.size e i.size) a m c news hl hnews h1 h63 hbytes (Nat.le_refl _)
    rw [hr] at hr2
    injection hr2 with e1 e2
    subst e1 e2
    exact .inr (World.ownsRow.lt k2 k hk).1
  · by_cases hroom : n + m ≤ cap
    · have hfit : n * i.size + news.length ≤ cur.size := by rw [hl, hcs, ← Nat.add_mul]; exact Nat.mul_le_mul_right _ hroom
      have hr2 := run_append_room (P := P) w t ty e i ht hi g n cap cur hg a m c news hl hnews h1 hroom hfit
      rw [hr] at hr2
      injection hr2 with e1 e2
      subst e1
      exact .inl hk
    · have holds : ∀ j u, xs[j]? = some u → w.cell? ((⟨g, 0, none⟩ : Addr).add j) = some u := hown.cells (g := g) rfl
      have hsmall : n + m ≤ 9223372036854775807 := by simp only [maxLen] at h63; omega
      have hr2 := run_append_grow (P := P) w t ty e i z ht hi hz ⟨g, 0, none⟩ n cap xs hown.1 holds a m c news hl hnews (by omega) (by omega) (growslice_fits (by omega) hbytes)
      rw [hr] at hr2
      injection hr2 with e1 e2
      subst e1
      injection hk with hk
      exact .inr (Nat.le_of_eq hk)
def setN {α : Type} (f : Nat → α) (j : Nat) (v : α) (i : Nat) : α := if i = j then v else f i
theorem setN_same {α : Type} (f : Nat → α) (j : Nat) (v : α) : setN f j v j = v := if_pos rfl
theorem setN_ne {α : Type} {f : Nat → α} {i j : Nat} {v : α} (h : i ≠ j) : setN f j v i = f i := if_neg h
/-- the row of letter j -/
def setG (γ : Ga) (j : Nat) (l : List (List Value)) : Ga := ⟨setN γ.rows j l, γ.Z, γ.V⟩
theorem setG_same (γ : Ga) (j : Nat) (l : List (List Value)) : setG γ j l j = l := setN_same _ _ _
theorem setG_ne {γ : Ga} {i j : Nat} {l : List (List Value)} (h : i ≠ j) : setG γ j l i = γ i := setN_ne h
section
variable {P : Program} {G : Nat} {W : World} {ρ : Nat → Value} {γ : Ga} {env : Fs → EnvF} {M : List (Value × List Value)}
/-- letters that the state does not hold may change -/
theorem state_congr {ρ' : Nat → Value} {h0 nt : Nat} {t : Tr} {m : AM} {r : List Nat} {b : Act} {w : World} (h1 : cvT [] h0 m.n (dpt nt) t t = true) (h2 : cvM [] h0 G m m = true) (hU : ∀ i, i < h0 → ρ' i = ρ i) (ha : @AcT (thOf ρ W) nt r t b) (hw : @Wd (thOf ρ W) P G W r m w) :
    @AcT (thOf ρ' W) nt (r.take m.n) t b ∧ @Wd (thOf ρ' W) P G W (r.take m.n) m w := ⟨cvT_sound (E := []) hU h1 ha, cvM_sound (E := []) hU h2 hw⟩
theorem InvR.congr {ρ' : Nat → Value} {γ' : Ga} {h0 nt : Nat} {t : Tr} {m : AM} {L : List Rt} {b : Act} {w : World} (h : InvR P G W ρ γ L nt t m b w) (h1 : cvT [] h0 m.n (dpt nt) t t = true) (h2 : cvM [] h0 G m m = true) (hU : ∀ i, i < h0 → ρ' i = ρ i) (hL : ∀ x ∈ L, ρ' x.i = ρ x.i ∧ γ' x.i = γ x.i) (hZ : γ'.Z = γ.Z ∧ γ'.V = γ.V) : InvR P G W ρ' γ' L nt t m b w := by
  obtain ⟨r, ha, hw, hB, hR⟩ := h
  obtain ⟨k1, k2⟩ := state_congr h1 h2 hU ha hw
  exact ⟨_, k1, k2, hB, (hR.cv h2).congr hL hZ⟩
/-- a state told less closely -/
theorem InvR.turn {h0 nt : Nat} {t t0 : Tr} {m m0 : AM} {L : List Rt} {b : Act} {w : World} (h : InvR P G W ρ γ L nt t m b w) (h1 : cvT [] h0 m0.n (dpt nt) t t0 = true) (h2 : cvM [] h0 G m m0 = true) : InvR P G W ρ γ L nt t0 m0 b w := by
  obtain ⟨r, ha, hw, hB, hR⟩ := h
  exact ⟨_, cvT_sound (E := []) (ρ' := ρ) (fun _ _ => rfl) h1 ha, cvM_sound (E := []) (ρ' := ρ) (fun _ _ => rfl) h2 hw, hB, hR.cv h2⟩
/-- an append to the row of letter i, which becomes that of letter j -/
theorem pushCore {ops : Array Oper} {rest : List Oper} {Q : Exit → Act → World → Prop} {o : Oper} {e : TypeId} {z i j h0 nt : Nat} {t : Tr} {m : AM} {nr : List (List Value)} {L0 : List Rt} {r : List Nat} {v : Value}
    (hgd : o.guard = none) (k3 : cvT [] h0 m.n (dpt nt) t t = true) (k4 : cvM [] h0 G m m = true) (k5 : roLow G m.bs = true) (hj : h0 ≤ j) (hL0 : ∀ y ∈ L0, y.i ≠ i ∧ y.i ≠ j) (hG : G ≤ W.heap.size)
    {b : Act} {w w' : World} (ha : @AcT (thOf ρ W) nt r t b) (hw : @Wd (thOf ρ W) P G W r m w) (hB : W.heap.size ≤ w.heap.size) (hR : Rows W w r m ρ γ (⟨i, e, z⟩ :: L0)) (hexec : (execOp b.eval o).run P w = .ok (.value v) w') (hnr : ∀ c ∈ nr, c.length = z)
    (hown : w'.ownsRow W.heap.size e z v (γ i ++ nr).length (γ i ++ nr).flatten) (hgr : w.grownBy w' (ρ i).ownBlock) (hwhere : ∀ k, v.ownBlock = some k → (ρ i).ownBlock = some k ∨ w.heap.size ≤ k)
    (h : ∀ v b' w', hasTag 10 v → InvR P G W (setN ρ j v) (setG γ j (γ i ++ nr)) (⟨j, e, z⟩ :: L0) nt (t.put nt o.dst (L 10 j)) m b' w' → wpList P ops Q rest b' w') : wpList P ops Q (o :: rest) b w := by
  have hrow : OwnR W w r m (ρ i) e z (γ i) := hR.each _ List.mem_cons_self
  letI := thOf ρ W
  refine wpList_plain hgd fun K hK => ?_
  show Oper.wp P o b w K Q
  unfold Oper.wp
  rw [hexec]
  refine hK _ _ ?_
  have hblk := World.ownsRow.lt hrow.own
  have hlow : Below W.heap.size W w' := hw.low.grown hgr hB fun k hk => (hblk k hk).1
  have hkeep : ∀ q bk k, find m.bs q = some bk → r[q]? = some k → w'.heap[k]? = w.heap[k]? := fun q bk k hq hk => by
    obtain ⟨k', c', g1, g2, g3, -⟩ := hw.at_ q bk hq
    rw [hk] at g1
    injection g1 with g1
    subst g1
    refine hgr.block k (Array.getElem?_eq_some_iff.1 g3).1 fun e => ?_
    cases hro : bk.ro with
    | false => exact hrow.apart k e.symm ⟨q, bk, hq, hro, hk⟩
    | true =>
      have hqG := roLow_find k5 hq hro
      have := hw.g q hqG
      rw [hk] at this
      injection this with this
      have := (hblk k e.symm).1
      omega
  have hw' : Wd P G W r m w' := ⟨hlow, hw.n, hw.g, fun q bk hq => by
    obtain ⟨k, c', g1, g2, g3, g4⟩ := hw.at_ q bk hq
    exact ⟨k, c', g1, g2, by rw [hkeep q bk k hq g1]; exact g3, g4⟩, hw.inj, ⟨hlow.os, hlow.tape, hlow.output, hlow.size, fun k hk _ => hlow.block k hk⟩, hw.opn⟩
  have hU : ∀ q, q < h0 → setN ρ j v q = ρ q := fun q hq => setN_ne (by omega)
  obtain ⟨s1, s2⟩ := state_congr k3 k4 hU ha hw'
  have hnew : OwnR W w' r m v e z (γ i ++ nr) := by
    refine ⟨fun c hc => ?_, ?_, fun k hk hd => ?_⟩
    · rcases List.mem_append.1 hc with hc | hc
      · exact hrow.len c hc
      · exact hnr c hc
    · exact hown
    · obtain ⟨q, bk, hq, hro, hr⟩ := hd
      have h1 := World.ownsRow.lt hown k hk
      obtain ⟨k', c', g1, g2, g3, -⟩ := hw.at_ q bk hq
      rw [hr] at g1
      injection g1 with g1
      subst g1
      have hklt : k < w.heap.size := (Array.getElem?_eq_some_iff.1 g3).1
      rcases hwhere k hk with h2 | h2
      · exact hrow.apart k h2 ⟨q, bk, hq, hro, hr⟩
      · omega
  have htag := hnew.tag
  have hold : ∀ y ∈ L0, OwnR W w' r m (ρ y.i) y.e y.z (γ y.i) := fun y hy => by
    have h1 := hR.each y (List.mem_cons_of_mem _ hy)
    refine ⟨h1.len, owns_keep h1.own fun k hk => hgr.block k (World.ownsRow.lt h1.own k hk).2 fun e => ?_, h1.apart⟩
    exact hR.two _ List.mem_cons_self y (List.mem_cons_of_mem _ hy) (fun e => (hL0 y hy).1 e.symm) k e.symm hk
  have hne : ∀ y ∈ L0, ∀ k, v.ownBlock = some k → (ρ y.i).ownBlock ≠ some k := fun y hy k hk e => by
    rcases hwhere k hk with h2 | h2
    · exact hR.two _ List.mem_cons_self y (List.mem_cons_of_mem _ hy) (fun e => (hL0 y hy).1 e.symm) k h2 e
    · have := (World.ownsRow.lt (hR.each y (List.mem_cons_of_mem _ hy)).own k e).2
      omega
  refine h v _ w' htag ⟨_, @AcT.put (thOf (setN ρ j v) W) _ _ _ _ s1 o.dst (L 10 j) v ?_, s2, Nat.le_trans hB hgr.size, ⟨fun x hx => ?_, fun x hx y hy hxy k hkx hky => ?_, fun k hk => ?_⟩⟩
  · have := @let_de (setN ρ j v) W 10 j (by decide) (by rw [setN_same]; exact htag)
    rw [setN_same] at this
    exact this
  · rcases List.mem_cons.1 hx with rfl | hx
    · show OwnR W w' _ m (setN ρ j v j) e z (setG γ j _ j)
      rw [setN_same, setG_same]
      exact hnew.cv k4
    · rw [setN_ne (hL0 x hx).2, setG_ne (hL0 x hx).2]
      exact (hold x hx).cv k4
  · rcases List.mem_cons.1 hx with rfl | hx
    · rcases List.mem_cons.1 hy with rfl | hy
      · exact hxy rfl
      · have hkx : (setN ρ j v j).ownBlock = some k := hkx
        rw [setN_same] at hkx
        rw [setN_ne (hL0 y hy).2] at hky
        exact hne y hy k hkx hky
    · rcases List.mem_cons.1 hy with rfl | hy
      · have hky : (setN ρ j v j).ownBlock = some k := hky
        rw [setN_same] at hky
        rw [setN_ne (hL0 x hx).2] at hkx
        exact hne x hx k hky hkx
      · rw [setN_ne (hL0 x hx).2] at hkx
        rw [setN_ne (hL0 y hy).2] at hky
        exact hR.two x (List.mem_cons_of_mem _ hx) y (List.mem_cons_of_mem _ hy) hxy k hkx hky
  · obtain ⟨f1, f2, f3, f4⟩ := hR.fz k hk
    have hklt := get_lt f1 f2
    refine ⟨f1, (hgr.block k hklt fun e => f4 _ List.mem_cons_self e.symm).trans f2, fun hd => f3 (hd.cv k4), fun x hx e => ?_⟩
    rcases List.mem_cons.1 hx with rfl | hx
    · have e : (setN ρ j v j).ownBlock = some k := e
      rw [setN_same] at e
      rcases hwhere k e with h2 | h2
      · exact f4 _ List.mem_cons_self h2
      · omega
    · rw [setN_ne (hL0 x hx).2] at e
      exact f4 x (List.mem_cons_of_mem _ hx) e
/-- 's = append(s, x)', s the row of letter i, which becomes that of letter j -/
theorem pushR {ops : Array Oper} {rest : List Oper} {Q : Exit → Act → World → Prop} {o : Oper} {s x : Operand} {T e : TypeId} {ti : TypeInfo} {zv : Value} {i j h0 nt : Nat} {t : Tr} {m : AM} {us : List Value} {L0 : List Rt}
    {cl : Call} (hgd : o.guard = none) (ho : o.op = .call cl) (hcl : cl.callee = .builtin .append) (hargs : cl.args.toList = [s, x]) (htys : cl.argTypes.toList = [T, T]) (ht : P.underlying T = some (.slice e)) (hi : P.info? e = some ti) (hz : ti.zero = some zv) (hzs : zv.cells.size = ti.size) (hz0 : 0 < ti.size)
    (hck : pushCk G nt h0 t m i ti.size s x us = true) (hj : h0 ≤ j) (hL0 : ∀ y ∈ L0, y.i ≠ i ∧ y.i ≠ j) (hG : G ≤ W.heap.size)
    {b : Act} {w : World} (hI : InvR P G W ρ γ (⟨i, e, ti.size⟩ :: L0) nt t m b w) (hn : ((γ i).length + 1) * (ti.bytes + 1) ≤ 140737488355328)
    (h : ∀ v b' w', hasTag 10 v → InvR P G W (setN ρ j v) (setG γ j (γ i ++ [us.map (dn ρ)])) (⟨j, e, ti.size⟩ :: L0) nt (t.put nt o.dst (L 10 j)) m b' w' → wpList P ops Q rest b' w') : wpList P ops Q (o :: rest) b w := by
  obtain ⟨r, ha, hw, hB, hR⟩ := hI
  have hrow : OwnR W w r m (ρ i) e ti.size (γ i) := hR.each _ List.mem_cons_self
  letI := thOf ρ W
  unfold pushCk at hck
  split at hck
  · rename_i a c ho1 hs hx
    split at hck
    · rename_i us' hus
      simp only [Bool.and_eq_true] at hck ho1
      obtain ⟨k1, k2, k3, k4, k5⟩ := hck
      have k1 := cvL_veq k1
      subst k1
      have hev := ha.eval hw.g
      have hes : b.eval s = ρ i := by
        have h1 := hev s ho1.1
        rw [veq_eq hs] at h1
        exact (show b.eval s = dn ρ (L 10 i) from h1).trans (dn_let' (g := 10) (by decide) hrow.tag)
      have hex := hev x ho1.2
      rw [hx] at hex
      obtain ⟨bq, cc, hbx, har, -⟩ := hex
      have har := har.ar (.inl (by decide))
      obtain ⟨l', hall, hlen, hcell⟩ := cellsAt_sound hw har hus
      have hl' : l' = us'.map (dn ρ) := by
        apply List.ext_getElem?
        intro q
        have hsz : us'.length = l'.length := by simpa using hall.1
        cases hq : us'[q]? with
        | none =>
          have := List.getElem?_eq_none_iff.1 hq
          rw [List.getElem?_map, hq, List.getElem?_eq_none_iff.2 (by omega)]
          rfl
        | some u =>
          have hlt := (List.getElem?_eq_some_iff.1 hq).1
          have hv : l'[q]? = some (l'[q]'(by omega)) := List.getElem?_eq_getElem (by omega)
          have h1 := hall.2 q u (l'[q]'(by omega)) (by simpa using hq) (by simp)
          rw [List.getElem?_map, hq, hv, flatV_dn (List.all_eq_true.1 k2 u (List.mem_of_getElem? hq)) h1]
          rfl
      have hmul : ((γ i).length + 1) * (ti.bytes + 1) = ((γ i).length + 1) * ti.bytes + ((γ i).length + 1) := Nat.mul_succ _ _
      have hsz : us'.length = l'.length := by simpa using hall.1
      obtain ⟨v, w', hrun, hown, hgr, hwhere⟩ := run_append_where (P := P) w W.heap.size T o.type e ti zv ht hi hz hzs hz0 (ρ i) (γ i).length (γ i).flatten hrow.own bq 1 cc l' (by omega) hcell
        (fun u hu => by
          obtain ⟨q, hq, e⟩ := List.mem_iff_getElem.1 hu
          exact (hall.2 q (us'[q]'(by omega)) u (by simp) (by simp [← e])).one') (by unfold maxLen; omega) (by omega) hB
      have hexec : (execOp b.eval o).run P w = .ok (.value v) w' := by
        refine run_append ho hcl hargs ?_
        rw [htys, hes, hbx]
        exact hrun
      have hrows : (γ i ++ [us'.map (dn ρ)]).flatten = (γ i).flatten ++ l' := by rw [List.flatten_append, hl']; simp
      exact pushCore hgd k3 k4 k5 hj hL0 hG ha hw hB hR hexec (fun c hc => by rw [List.mem_singleton] at hc; rw [hc, List.length_map]; exact hlen) (by rw [hrows, List.length_append]; exact hown) hgr hwhere h
    · cases hck
  · cases hck
end
end Go.Sx
