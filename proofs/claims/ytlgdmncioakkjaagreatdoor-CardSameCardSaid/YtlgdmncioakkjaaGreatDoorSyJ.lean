/-
  RUNS RECKONED AHEAD: a call reckoned once, from the globals alone, laid into any memory. By an AI agent.
-/
import Derived.Test.YtlgdmncioakkjaaGreatDoorSyI
open Go.RowKit
namespace Go.Sx
variable [Th] [Fx] [Ts] [Sat]
/-- numbers from G on go up by d -/
def sh (G d i : Nat) : Nat := match Nat.blt i G with
  | true => i
  | false => i + d
def shA (G d : Nat) (a : Addr) : Addr := { a with block := sh G d a.block }
def shC (G d c : Nat) : Nat := match Nat.blt c K with
  | true => c
  | false => K + sh G d (c - K)
def sh0 (G d : Nat) : Value → Value
  | .pointer (some a) => .pointer (some (shA G d a))
  | .slice (some a) n c => .slice (some (shA G d a)) n (shC G d c)
  | v => v
def sh1 (G d : Nat) : Value → Value
  | .func f a b => .func f (a.map (sh0 G d)) (b.map (sh0 G d))
  | v => sh0 G d v
def sh2 (G d : Nat) : Value → Value
  | .agg a => .agg (a.map (sh1 G d))
  | v => sh1 G d v
def sh3 (G d : Nat) : Value → Value
  | .tuple a => .tuple (a.map (sh2 G d))
  | v => sh2 G d v
def Sh (G d : Nat) (r s : List Nat) : Prop := ∀ i b, r[i]? = some b → s[sh G d i]? = some b
omit [Th] [Fx] [Ts] [Sat] in
theorem All.mapL {R S : Value → Value → Prop} {f : Value → Value} (h : ∀ u v, R u v → S (f u) v) {xs ys : Array Value} (a : All R xs ys) : All S (xs.map f) ys := by
  refine ⟨by simpa using a.1, fun i x y hx hy => ?_⟩
  rw [Array.getElem?_map] at hx
  cases hz : xs[i]? with
  | none => rw [hz] at hx; cases hx
  | some z =>
    rw [hz] at hx
    injection hx with hx
    subst hx
    exact h _ _ (a.2 i z y hz hy)
section
variable {G d : Nat} {r s : List Nat}
omit [Fx] [Ts] [Sat] in
theorem V0.sh (h : Sh G d r s) (u v : Value) (k : V0 r u v) : V0 s (sh0 G d u) v := by
  have ar : ∀ a b, AR r a b → AR s (shA G d a) b := fun a b ⟨h1, h2, h3⟩ => ⟨h _ _ h1, h2, h3⟩
  cases u with
  | pointer a => cases a with
    | none => exact k
    | some a =>
      obtain ⟨b, e, hb⟩ := k
      exact ⟨b, e, ar _ _ hb⟩
  | slice a n c => cases a with
    | none => exact k
    | some a =>
      obtain ⟨b, c', e, hb, hc⟩ := k
      refine ⟨b, c', e, ⟨h _ _ hb.1, hb.2.1, (match hb.2.2 with | .inl q => .inl q | .inr q => .inr ⟨q.1, by unfold shC; split <;> omega⟩)⟩, ?_⟩
      unfold shC
      rcases hc with ⟨h1, h2⟩ | ⟨h1, h2, h3⟩
      · rw [show Nat.blt c K = true by simpa [Nat.blt_eq] using h1]
        exact .inl ⟨h1, h2⟩
      · rw [show Nat.blt c K = false by
          cases e : Nat.blt c K with
          | false => rfl
          | true =>
            have : c < K := by simpa [Nat.blt_eq] using e
            omega]
        exact .inr ⟨Nat.le_add_right _ _, by rw [Nat.add_sub_cancel_left]; exact h _ _ h2, h3⟩
  | _ => exact k
omit [Fx] [Ts] [Sat] in
theorem V1.sh (h : Sh G d r s) (u v : Value) (k : V1 r u v) : V1 s (sh1 G d u) v := by
  have key := V0.sh h u v
  cases u with
  | func f a b =>
    obtain ⟨a', b', e, ha, hb⟩ := k
    exact ⟨a', b', e, ha.mapL (V0.sh h), hb.mapL (V0.sh h)⟩
  | pointer a => cases a <;> exact key k
  | slice a n c => cases a <;> exact key k
  | _ => exact key k
omit [Fx] [Ts] [Sat] in
theorem V2.sh (h : Sh G d r s) (u v : Value) (k : V2 r u v) : V2 s (sh2 G d u) v := by
  have key := V1.sh h u v
  cases u with
  | agg a =>
    obtain ⟨a', e, ha⟩ := k
    exact ⟨a', e, ha.mapL (V1.sh h)⟩
  | pointer a => cases a <;> exact key k
  | slice a n c => cases a <;> exact key k
  | _ => exact key k
omit [Fx] [Ts] [Sat] in
theorem V3.sh (h : Sh G d r s) (u v : Value) (k : V3 r u v) : V3 s (sh3 G d u) v := by
  have key := V2.sh h u v
  cases u with
  | tuple a =>
    obtain ⟨a', e, ha⟩ := k
    exact ⟨a', e, ha.mapL (V2.sh h)⟩
  | pointer a => cases a <;> exact key k
  | slice a n c => cases a <;> exact key k
  | map a => cases a with
    | none => exact key k
    | some a => exact trivial
  | _ => exact key k
end
def shB (G d : Nat) (x : Bk) : Bk := ⟨sh G d x.i, ⟨x.c.toList.map (sh1 G d)⟩, x.T, x.ex, x.ro⟩
omit [Th] [Fx] [Ts] [Sat] in
theorem shB_c (G d : Nat) (x : Bk) : (shB G d x).c = x.c.map (sh1 G d) := by
  unfold shB
  apply Array.ext'
  simp
def newB (G : Nat) : List Bk → List Bk
  | [] => []
  | x :: l => match Nat.ble G x.i with
    | true => x :: newB G l
    | false => newB G l
omit [Th] [Fx] [Ts] [Sat] in
theorem newB_le {G : Nat} : ∀ {l : List Bk} {x : Bk}, x ∈ newB G l → G ≤ x.i
  | [], _, h => by cases h
  | y :: l, x, h => by
    unfold newB at h
    split at h
    · rename_i hy
      rcases List.mem_cons.1 h with rfl | h
      · exact Nat.le_of_ble_eq_true hy
      · exact newB_le h
    · exact newB_le h
omit [Th] [Fx] [Ts] [Sat] in
theorem find_newB {G : Nat} : ∀ {l : List Bk} {i : Nat} {x : Bk}, find (newB G l) i = some x → G ≤ i → find l i = some x
  | [], _, _, h, _ => by cases h
  | y :: l, i, x, h, hi => by
    unfold newB at h
    unfold find
    split at h
    · unfold find at h
      cases e : Nat.beq y.i i with
      | true => rw [e] at h; exact h
      | false => rw [e] at h; exact find_newB h hi
    · rename_i hy
      cases e : Nat.beq y.i i with
      | true =>
        have := Nat.eq_of_beq_eq_true e
        subst this
        rw [Nat.ble_eq_true_of_le hi] at hy
        cases hy
      | false => exact find_newB h hi
omit [Th] [Fx] [Ts] [Sat] in
theorem sh_big {G d i : Nat} (h : G ≤ i) : sh G d i = i + d := by
  unfold sh
  cases e : Nat.blt i G with
  | false => rfl
  | true =>
    have : i < G := by simpa [Nat.blt_eq] using e
    omega
omit [Th] [Fx] [Ts] [Sat] in
theorem sh_small {G d i : Nat} (h : i < G) : sh G d i = i := by
  unfold sh
  rw [show Nat.blt i G = true by simpa [Nat.blt_eq] using h]
omit [Th] [Fx] [Ts] [Sat] in
theorem find_shB {G d : Nat} : ∀ {l : List Bk} {i : Nat} {x : Bk}, (∀ y ∈ l, G ≤ y.i) → find (l.map (shB G d)) i = some x → ∃ y, x = shB G d y ∧ find l y.i = some y ∧ G ≤ y.i ∧ i = y.i + d ∧ y ∈ l
  | [], _, _, _, h => by cases h
  | z :: l, i, x, hl, h => by
    simp only [List.map_cons, find] at h
    have hz := hl z List.mem_cons_self
    cases e : Nat.beq (shB G d z).i i with
    | true =>
      rw [e] at h
      injection h with h
      have e := Nat.eq_of_beq_eq_true e
      refine ⟨z, h.symm, ?_, hz, ?_, List.mem_cons_self⟩
      · simp [find]
      · rw [← e]
        exact sh_big hz
    | false =>
      rw [e] at h
      obtain ⟨y, h1, h2, h3, h4, h5⟩ := find_shB (fun y hy => hl y (List.mem_cons_of_mem _ hy)) h
      refine ⟨y, h1, ?_, h3, h4, List.mem_cons_of_mem _ h5⟩
      simp only [find]
      cases e2 : Nat.beq z.i y.i with
      | false => exact h2
      | true =>
        have e2 := Nat.eq_of_beq_eq_true e2
        have : (shB G d z).i = i := by
          show sh G d z.i = i
          rw [sh_big hz, e2, h4]
        rw [this, Nat.beq_refl] at e
        cases e
omit [Th] [Fx] [Ts] [Sat] in
theorem find_app : ∀ {l k : List Bk} {i : Nat} {x : Bk}, find (l ++ k) i = some x → find l i = some x ∨ find k i = some x
  | [], _, _, _, h => .inr h
  | y :: l, k, i, x, h => by
    simp only [List.cons_append, find] at h ⊢
    cases e : Nat.beq y.i i with
    | true => rw [e] at h; exact .inl h
    | false => rw [e] at h; exact find_app h
section
variable {P : Program} {G : Nat} {W : World} [At W]
omit [Fx] [Ts] [Sat] [At W] in
theorem Knows.wd_later {l : List Bk} {w : World} (h : Knows G l W) (hb : Below W.heap.size W w) : Wd P G W (List.range G) ⟨G, l⟩ w := by
  have h0 := h.wd (P := P)
  refine ⟨hb, h0.n, h0.g, fun i x hx => ?_, h0.inj⟩
  obtain ⟨b, c, h1, h2, h3, h4⟩ := h0.at_ i x hx
  exact ⟨b, c, h1, h2, by rw [hb.block b (Array.getElem?_eq_some_iff.1 h3).1]; exact h3, h4⟩
/-- the new memory of a call that was reckoned from the globals alone -/
def laid (G : Nat) (k : Nat) (nb : List Bk) (m : AM) : AM := ⟨m.n + k, nb.map (shB G (m.n - G)) ++ m.bs⟩
theorem laid_in {env : EnvF} (n : Nat) (hN : NoGo P) (hM : P.follows .mixedOrders = true) {l bs : List Bk} {f : FuncId} {args : Array Value} {v : Value} {k : Nat}
    (e : evCall P env (evCode P G env n) f args ⟨G, l⟩ = some (v, ⟨G + k, bs⟩)) (ha : args.all still = true) (hro : (newB G bs).all (fun x => !x.ro) = true) (hE : EnvOk P G W env) (hK : Knows G l W)
    {m : AM} {r : List Nat} {w : World} {args' : Array Value} (hargs : All (V2 r) args args') (hw : Wd P G W r m w) (hB : W.heap.size ≤ w.heap.size) :
    Calls P f args' w fun e w' => ∃ v' r', e = .returned v' ∧ V3 r' (sh3 G (m.n - G) v) v' ∧ Wd P G W r' (laid G k (newB G bs) m) w' ∧ Step r m w r' (laid G k (newB G bs) m) w' := by
  have hst : ∀ x ∈ args, still x = true := by
    rw [Array.all_eq_true_iff_forall_mem] at ha
    exact ha
  have hsame : args' = args := by
    apply Array.ext_getElem?
    intro i
    cases hx : args[i]? with
    | none => exact hargs.none hx
    | some x =>
      obtain ⟨y, hy, hxy⟩ := hargs.get hx
      have h3 : still3 x = true := by
        have := hst x (Array.mem_of_getElem? hx)
        revert this
        cases x <;> intro h <;> first | exact h | cases h
      rw [hy, still3_eq hxy.up h3]
  subst hsame
  have hw0 := hK.wd_later (P := P) hw.low
  have hnoD : ∀ b, ¬ D (List.range G) ⟨G, l⟩ b := fun b ⟨i, x, hx, hr, _⟩ => by
    rw [(hK.2 i x hx).2.1] at hr
    cases hr
  refine (evCall_ok hE (evCode_good hN hM hE n).1 f args' ⟨G, l⟩ v _ e (List.range G) w args' (All.same fun x hx => still_V2 (hst x hx)) hw0 hB).mono ?_
  rintro e w' ⟨v', r1, rfl, h1, h2, h3⟩
  obtain ⟨t, ht⟩ := h3.ext
  subst ht
  have hGm : G ≤ m.n := by
    rw [hw.n]
    cases hg : G with
    | zero => exact Nat.zero_le _
    | succ q => exact (List.getElem?_eq_some_iff.1 (hw.g q (by omega))).1
  have htk : t.length = k := by
    have := h2.n
    simp at this
    omega
  have hS : Sh G (m.n - G) (List.range G ++ t) (r ++ t) := by
    intro i b hi
    rcases Nat.lt_or_ge i G with hlt | hge
    · rw [sh_small hlt, List.getElem?_append_left (by rw [← hw.n]; omega), hw.g i hlt]
      rw [List.getElem?_append_left (by simpa using hlt), List.getElem?_range hlt] at hi
      exact hi
    · rw [sh_big hge, List.getElem?_append_right (by rw [← hw.n]; omega), ← hw.n]
      rw [List.getElem?_append_right (by simpa using hge)] at hi
      simp only [List.length_range] at hi
      rw [show i + (m.n - G) - m.n = i - G by omega]
      exact hi
  have hext : Ext r (r ++ t) := ⟨t, rfl⟩
  have hro' : ∀ y ∈ newB G bs, y.ro = false := fun y hy => by
    have := List.all_eq_true.1 hro y hy
    simpa using this
  have hnew : ∀ i x, find ((newB G bs).map (shB G (m.n - G))) i = some x → ∃ y b c', x = shB G (m.n - G) y ∧ G ≤ y.i ∧ i = sh G (m.n - G) y.i ∧ (List.range G ++ t)[y.i]? = some b ∧ (r ++ t)[i]? = some b ∧ y.ro = false ∧ w.heap.size ≤ b ∧ W.heap.size ≤ b ∧ w'.heap[b]? = some (.cells c' y.T (0, 0)) ∧ Pre P (List.range G ++ t) y c' ∧ find bs y.i = some y := by
    intro i x hx
    obtain ⟨y, e1, e2, e3, e4, e5⟩ := find_shB (fun y hy => newB_le hy) hx
    have e6 := find_newB e2 e3
    obtain ⟨b, c', g1, g2, g3, g4⟩ := h2.at_ y.i y e6
    have hr := hro' y e5
    have hb : w.heap.size ≤ b := by
      rcases h3.dom b ⟨y.i, y, e6, hr, g1⟩ with hd | hd
      · exact absurd hd (hnoD b)
      · exact hd
    exact ⟨y, b, c', e1, e3, by rw [sh_big e3]; exact e4, g1, by rw [e4, ← sh_big e3]; exact hS _ _ g1, hr, hb, g2 hr, g3, g4, e6⟩
  have hold : ∀ i x, find m.bs i = some x → ∃ b c', r[i]? = some b ∧ (r ++ t)[i]? = some b ∧ b < w.heap.size ∧ (x.ro = false → W.heap.size ≤ b) ∧ w'.heap[b]? = some (.cells c' x.T (0, 0)) ∧ Pre P r x c' := by
    intro i x hx
    obtain ⟨b, c', g1, g2, g3, g4⟩ := hw.at_ i x hx
    have hlt := (Array.getElem?_eq_some_iff.1 g3).1
    exact ⟨b, c', g1, hext.get g1, hlt, g2, by rw [h3.block b hlt (hnoD b)]; exact g3, g4⟩
  refine ⟨v', r ++ t, rfl, V3.sh hS _ _ h1, ⟨h2.low, by simp [laid, hw.n, htk], fun i hi => hext.get (hw.g i hi), fun i x hx => ?_, fun i j b x y hx hy hi hj => ?_⟩, ⟨hext, h3.os, h3.tape, h3.output, h3.size, fun b hb hd => h3.block b hb (hnoD b), fun b hd => ?_⟩⟩
  · rcases find_app hx with hx | hx
    · obtain ⟨y, b, c', rfl, q1, q2, q3, q4, q5, q6, q7, q8, q9, q10⟩ := hnew i x hx
      refine ⟨b, c', q4, fun _ => q7, q8, ?_⟩
      obtain ⟨p1, p2, p3, p4⟩ := q9
      refine ⟨by rw [shB_c]; simpa using p1, fun he => by rw [shB_c]; simpa using p2 he, fun he => ?_, fun j u z hu hz => ?_⟩
      · obtain ⟨inf, cap, a1, a2, a3⟩ := p3 he
        refine ⟨inf, cap, a1, ?_, a3⟩
        have := hS _ _ a2
        rw [sh_big (by omega)] at this
        show (r ++ t)[sh G (m.n - G) y.i + 1]? = some cap
        rw [sh_big q1, show y.i + (m.n - G) + 1 = y.i + 1 + (m.n - G) by omega]
        exact this
      · rw [shB_c, Array.getElem?_map] at hu
        cases hc : y.c[j]? with
        | none => rw [hc] at hu; cases hu
        | some u0 =>
          rw [hc] at hu
          injection hu with hu
          subst hu
          exact V1.sh hS _ _ (p4 j u0 z hc hz)
    · obtain ⟨b, c', q1, q2, q3, q4, q5, q6⟩ := hold i x hx
      obtain ⟨p1, p2, p3, p4⟩ := q6
      exact ⟨b, c', q2, q4, q5, p1, p2, fun he => (by obtain ⟨inf, cap, a1, a2, a3⟩ := p3 he; exact ⟨inf, cap, a1, hext.get a2, a3⟩), fun j u z hu hz => (p4 j u z hu hz).ext hext⟩
  · rcases find_app hx with hx | hx <;> rcases find_app hy with hy | hy
    · obtain ⟨y1, b1, c1, rfl, q1, q2, q3, q4, q5, q6, q7, q8, q9, q10⟩ := hnew i x hx
      obtain ⟨y2, b2, c2, rfl, z1, z2, z3, z4, z5, z6, z7, z8, z9, z10⟩ := hnew j y hy
      rw [q4] at hi
      rw [z4] at hj
      injection hi with hi
      injection hj with hj
      subst hi hj
      have := h2.inj _ _ _ _ _ q10 z10 q3 z3
      rw [q2, z2, this]
    · obtain ⟨y1, b1, c1, rfl, q1, q2, q3, q4, q5, q6, q7, q8, q9, q10⟩ := hnew i x hx
      obtain ⟨b2, c2, z1, z2, z3, z4, z5, z6⟩ := hold j y hy
      rw [q4] at hi
      rw [z2] at hj
      injection hi with hi
      injection hj with hj
      omega
    · obtain ⟨y1, b1, c1, rfl, q1, q2, q3, q4, q5, q6, q7, q8, q9, q10⟩ := hnew j y hy
      obtain ⟨b2, c2, z1, z2, z3, z4, z5, z6⟩ := hold i x hx
      rw [q4] at hj
      rw [z2] at hi
      injection hi with hi
      injection hj with hj
      omega
    · obtain ⟨b1, c1, q1, q2, -⟩ := hold i x hx
      obtain ⟨b2, c2, z1, z2, -⟩ := hold j y hy
      rw [q2] at hi
      rw [z2] at hj
      injection hi with hi
      injection hj with hj
      subst hi hj
      exact hw.inj i j _ x y hx hy q1 z1
  · obtain ⟨i, x, hx, hr, hi⟩ := hd
    rcases find_app hx with hx | hx
    · obtain ⟨y1, b1, c1, rfl, q1, q2, q3, q4, q5, q6, q7, q8, q9, q10⟩ := hnew i x hx
      rw [q4] at hi
      injection hi with hi
      subst hi
      exact .inr q6
    · obtain ⟨b1, c1, q1, q2, -⟩ := hold i x hx
      rw [q2] at hi
      injection hi with hi
      subst hi
      exact .inl ⟨i, x, hx, hr, q1⟩
/-- a call's answer, reckoned from the globals alone: the value, how many numbers, the new blocks -/
abbrev Memo := FuncId → Array Value → Option (Value × Nat × List Bk)
def MemoOk (P : Program) (G : Nat) (W : World) (l : List Bk) (q : Memo) : Prop := ∀ f args v k nb, q f args = some (v, k, nb) → ∃ env n bs, EnvOk P G W env ∧ evCall P env (evCode P G env n) f args ⟨G, l⟩ = some (v, ⟨G + k, bs⟩) ∧ args.all still = true ∧
  nb = newB G bs ∧ nb.all (fun x => !x.ro) = true
/-- such answers laid into the memory that is there -/
def envL (G : Nat) (q : Memo) (p : EnvF) : EnvF := fun f args m => match q f args with
  | some (v, k, nb) => some (sh3 G (m.n - G) v, laid G k nb m)
  | none => p f args m
theorem envL_ok (hN : NoGo P) (hM : P.follows .mixedOrders = true) {l : List Bk} {q : Memo} {p : EnvF} (hq : MemoOk P G W l q) (hp : EnvOk P G W p) (hK : Knows G l W) : EnvOk P G W (envL G q p) := by
  intro f args m v m' e r w args' ha hw hB
  unfold envL at e
  split at e
  · rename_i v0 k nb hq0
    injection e with e
    injection e with e1 e2
    subst e1 e2
    obtain ⟨env, n, bs, h1, h2, h3, rfl, h5⟩ := hq f args v0 k nb hq0
    exact laid_in n hN hM h2 h3 h5 h1 hK ha hw hB
  · exact hp f args m v m' e r w args' ha hw hB
end
end Go.Sx
