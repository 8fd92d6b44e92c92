/-
  RUNS RECKONED AHEAD: a region that draws its order, in any order. By an AI agent.
-/
import Derived.Test.YtokenooggmnbaaaDoorSyRc
namespace Go.Sx
open Go.RowKit
/-- what an operation yields: look: it looks only; ahead: a call answered ahead; skip: not wanted; call: a call of which the answer is a letter (and a row of new memory); told: a call of which the answer is told by the state -/
inductive Sp where
  | look (x : Value)
  | ahead (x : Value)
  | skip
  | call (g : FuncId) (args : Array Value) (tg j : Nat) (row : Option (TypeId × Nat))
  | told (g : FuncId) (args : Array Value) (x : Value)
def Sp.val : Sp → Value
  | .look x => x
  | .ahead x => x
  | .skip => undef
  | .call _ _ tg j _ => L tg j
  | .told _ _ x => x
/-- a frame in which the operations of S have yielded; the slots of the others are not told -/
noncomputable def fillT (n : Nat) (S : Nat → Bool) : Nat → List Oper → List Sp → Tr → Tr
  | i, o :: l, s :: q, t => fillT n S (i + 1) l q (t.put n o.dst (match S i with | true => s.val | false => wild))
  | _, _, _, t => t
theorem put_at {n : Nat} (hn : n ≤ 512) (t : Tr) (d : Nat) (v : Value) (x : Nat) : (t.put n (some d) v).at_ n x = if x = d ∧ d < n then v else t.at_ n x := by
  have hdp := dpt_le hn
  unfold Tr.put
  simp only
  cases hd : Nat.blt d n with
  | false =>
    have hd' : ¬ d < n := fun h => by
      have : Nat.blt d n = true := by simpa [Nat.blt_eq] using h
      rw [this] at hd
      cases hd
    rw [if_neg (fun h => hd' h.2)]
  | true =>
    have hd' : d < n := by simpa [Nat.blt_eq] using hd
    simp only
    unfold Tr.at_
    by_cases hx : x = d
    · subst hx
      rw [if_pos ⟨rfl, hd'⟩, hd]
      simp only
      exact Tr.get_set _ _ _
    · rw [if_neg (fun h => hx h.1)]
      cases hb : Nat.blt x n with
      | false => rfl
      | true =>
        have hb' : x < n := by simpa [Nat.blt_eq] using hb
        simp only
        exact Tr.get_set_ne _ _ _ _ (by rw [bits_len, bits_len]) fun h => hx (bits_inj (dpt n) d x (by omega) (by omega) h).symm
/-- two frames filled, slot by slot -/
theorem fillT_rel {n : Nat} (hn : n ≤ 512) {S S' : Nat → Bool} {Q : Nat → Value → Value → Prop} : ∀ (l : List Oper) (q : List Sp) (i : Nat) (t t' : Tr),
    (∀ k o s d, l[k]? = some o → q[k]? = some s → o.dst = some d → Q d (match S (i + k) with | true => s.val | false => wild) (match S' (i + k) with | true => s.val | false => wild)) →
    (∀ x, Q x (t.at_ n x) (t'.at_ n x)) → ∀ x, Q x ((fillT n S i l q t).at_ n x) ((fillT n S' i l q t').at_ n x)
  | [], q, i, t, t', _, h => h
  | _ :: _, [], i, t, t', _, h => h
  | o :: l, s :: q, i, t, t', hk, h => by
    unfold fillT
    refine fillT_rel hn l q (i + 1) _ _ (fun k o' s' d h1 h2 h3 => ?_) fun x => ?_
    · have := hk (k + 1) o' s' d (by simpa using h1) (by simpa using h2) h3
      rw [show i + 1 + k = i + (k + 1) by omega]
      exact this
    · cases hd : o.dst with
      | none => exact h x
      | some d =>
        rw [put_at hn, put_at hn]
        by_cases hx : x = d ∧ d < n
        · rw [if_pos hx, if_pos hx]
          have := hk 0 o s d rfl rfl hd
          rw [hx.1]
          exact this
        · rw [if_neg hx, if_neg hx]
          exact h x
theorem fillT_skip {n : Nat} (hn : n ≤ 512) {S : Nat → Bool} {d : Nat} : ∀ (l : List Oper) (q : List Sp) (i : Nat) (t : Tr), (∀ o ∈ l, o.dst ≠ some d) → (fillT n S i l q t).at_ n d = t.at_ n d
  | [], q, i, t, _ => rfl
  | _ :: _, [], i, t, _ => rfl
  | o :: l, s :: q, i, t, h => by
    unfold fillT
    rw [fillT_skip hn l q (i + 1) _ fun o' ho => h o' (List.mem_cons_of_mem _ ho)]
    cases hd : o.dst with
    | none => rfl
    | some d' =>
      rw [put_at hn, if_neg]
      rintro ⟨rfl, -⟩
      exact h o List.mem_cons_self hd
/-- no slot is written twice -/
def dstsOk : List Oper → Bool
  | [] => true
  | o :: l => match (match o.dst with
    | none => true
    | some d => l.all fun o' => match o'.dst with
      | some d' => !Nat.beq d d'
      | none => true) with
    | true => dstsOk l
    | false => false
theorem fillT_hit {n : Nat} (hn : n ≤ 512) {S : Nat → Bool} {d : Nat} (hd : d < n) : ∀ (l : List Oper) (q : List Sp) (i k : Nat) (t : Tr) (o : Oper) (s : Sp), dstsOk l = true → l[k]? = some o → q[k]? = some s → o.dst = some d → S (i + k) = true → (fillT n S i l q t).at_ n d = s.val
  | [], q, i, k, t, o, s, _, h, _, _, _ => by simp at h
  | _ :: _, [], i, k, t, o, s, _, _, h, _, _ => by simp at h
  | o :: l, s :: q, i, 0, t, o', s', hok, h1, h2, h3, h4 => by
    simp at h1 h2
    subst h1 h2
    unfold fillT
    unfold dstsOk at hok
    rw [h3] at hok
    split at hok
    · rename_i hall
      rw [fillT_skip hn l q (i + 1) _ fun o' ho e => ?_, h3, put_at hn, if_pos ⟨rfl, hd⟩]
      · have : S i = true := by simpa using h4
        rw [this]
      · have := List.all_eq_true.1 hall o' ho
        rw [e] at this
        simp at this
    · cases hok
  | o :: l, s :: q, i, k + 1, t, o', s', hok, h1, h2, h3, h4 => by
    unfold fillT
    unfold dstsOk at hok
    split at hok
    · exact fillT_hit hn hd l q (i + 1) k _ o' s' hok (by simpa using h1) (by simpa using h2) h3 (by rw [show i + 1 + k = i + (k + 1) by omega]; exact h4)
    · cases hok
section
variable {ρ : Nat → Value} {W : World} {n : Nat} {r : List Nat} {b : Act}
theorem wild_V3 [Th] {r : List Nat} {v : Value} : V3 r wild v := by
  unfold wild
  trivial
theorem AcT.less {S S' : Nat → Bool} {l : List Oper} {q : List Sp} {t : Tr} (h : @AcT (thOf ρ W) n r (fillT n S 0 l q t) b) (hS : ∀ k, S' k = true → S k = true) : @AcT (thOf ρ W) n r (fillT n S' 0 l q t) b := by
  letI := thOf ρ W
  have hrel := fillT_rel (S := S) (S' := S') (Q := fun _ u u' => u' = wild ∨ u' = u) h.small l q 0 t t (fun k o s d _ _ _ => by
    cases hk : S' (0 + k) with
    | false => exact .inl rfl
    | true => rw [hS _ hk]; exact .inr rfl) (fun x => .inr rfl)
  refine ⟨h.size, h.small, h.d, fun x => ?_⟩
  rcases hrel x with e | e
  · rw [e]; exact wild_V3
  · rw [e]; exact h.at_ x
theorem AcT.more {S S' : Nat → Bool} {l : List Oper} {q : List Sp} {t : Tr} {i : Nat} {o : Oper} {s : Sp} {v : Value} (h : @AcT (thOf ρ W) n r (fillT n S 0 l q t) b) (hok : dstsOk l = true) (ho : l[i]? = some o) (hs : q[i]? = some s) (hi : S' i = true) (hS : ∀ k, k ≠ i → S' k = S k) (hv : @V3 (thOf ρ W) r s.val v) : @AcT (thOf ρ W) n r (fillT n S' 0 l q t) (b.put o.dst v) := by
  letI := thOf ρ W
  cases hd : o.dst with
  | none =>
    have hrel := fillT_rel (S := S) (S' := S') (Q := fun _ u u' => u' = u) h.small l q 0 t t (fun k o' s' d h1 h2 h3 => by
      rw [Nat.zero_add]
      by_cases hk : k = i
      · subst hk
        rw [ho] at h1
        injection h1 with h1
        subst h1
        rw [hd] at h3
        cases h3
      · rw [hS k hk]) (fun x => rfl)
    exact ⟨h.size, h.small, h.d, fun x => by rw [hrel x]; exact h.at_ x⟩
  | some d =>
    have hrel := fillT_rel (S := S) (S' := S') (Q := fun x u u' => x = d ∨ u' = u) h.small l q 0 t t (fun k o' s' d' h1 h2 h3 => by
      rw [Nat.zero_add]
      by_cases hk : k = i
      · subst hk
        rw [ho] at h1
        injection h1 with h1
        subst h1
        rw [hd] at h3
        injection h3 with h3
        exact .inl h3.symm
      · rw [hS k hk]; exact .inr rfl) (fun x => .inr rfl)
    refine ⟨by simpa [Act.put] using h.size, h.small, h.d, fun x => ?_⟩
    show V3 r _ ((b.tmps.setIfInBounds d v).getD x undef)
    rw [Array.getD_eq_getD_getElem?, Array.getElem?_setIfInBounds]
    by_cases hx : d = x
    · subst hx
      rw [if_pos rfl]
      by_cases hlt : d < b.tmps.size
      · rw [if_pos hlt, fillT_hit h.small (by rw [← h.size]; exact hlt) l q 0 i t o s hok ho hs hd (by rw [Nat.zero_add]; exact hi)]
        exact hv
      · rw [if_neg hlt]
        have hnot : ¬ d < n := by rw [← h.size]; exact hlt
        have : (fillT n S' 0 l q t).at_ n d = undef := by
          unfold Tr.at_
          cases hb : Nat.blt d n with
          | false => rfl
          | true => exact absurd (by simpa [Nat.blt_eq] using hb) hnot
        rw [this]
        exact undef_V3
    · rw [if_neg hx, ← Array.getD_eq_getD_getElem?]
      rcases hrel x with e | e
      · exact absurd e.symm hx
      · rw [e]; exact h.at_ x
end
/-- letter j is not in a term -/
def noL (j : Nat) : Nat → Value → Bool
  | 0, _ => false
  | n + 1, .iface _ u => match u with
    | .int .u64 (.ofNat i) => !Nat.beq i j
    | .agg ⟨[x, y]⟩ => match noL j n x with
      | true => noL j n y
      | false => false
    | .iface d u => noL j n (.iface d u)
    | _ => false
  | _ + 1, _ => true
theorem dn_noL {ρ : Nat → Value} {j : Nat} {X : Value} : ∀ (n : Nat) (u : Value), noL j n u = true → dn (setN ρ j X) u = dn ρ u
  | 0, _, h => by cases h
  | n + 1, .iface c u, h => by
    unfold noL at h
    split at h
    · rename_i i
      rw [dn_let, dn_let]
      have hi : i ≠ j := by
        intro e
        subst e
        rw [Nat.beq_refl] at h
        cases h
      have e : (Int.ofNat i).toNat = i := rfl
      rw [e, setN_ne hi]
    · rename_i x y
      split at h
      · rename_i hx
        rw [dn_two, dn_two, dn_noL n x hx, dn_noL n y h]
      · cases h
    · rename_i d u
      rw [dn_un, dn_un, dn_noL n (.iface d u) h]
    · cases h
  | n + 1, .bool _, _ => by rw [dn.eq_def, dn.eq_def]
  | n + 1, .int _ _, _ => by rw [dn.eq_def, dn.eq_def]
  | n + 1, .float _ _, _ => by rw [dn.eq_def, dn.eq_def]
  | n + 1, .complex _ _ _, _ => by rw [dn.eq_def, dn.eq_def]
  | n + 1, .string _, _ => by rw [dn.eq_def, dn.eq_def]
  | n + 1, .slice _ _ _, _ => by rw [dn.eq_def, dn.eq_def]
  | n + 1, .pointer _, _ => by rw [dn.eq_def, dn.eq_def]
  | n + 1, .map _, _ => by rw [dn.eq_def, dn.eq_def]
  | n + 1, .chan _, _ => by rw [dn.eq_def, dn.eq_def]
  | n + 1, .agg _, _ => by rw [dn.eq_def, dn.eq_def]
  | n + 1, .tuple _, _ => by rw [dn.eq_def, dn.eq_def]
  | n + 1, .func _ _ _, _ => by rw [dn.eq_def, dn.eq_def]
  | n + 1, .nilFunc, _ => by rw [dn.eq_def, dn.eq_def]
  | n + 1, .nilIface, _ => by rw [dn.eq_def, dn.eq_def]
def noV1 (j : Nat) : Value → Bool
  | .func _ a b => a.toList.all (noL j 20) && b.toList.all (noL j 20)
  | u => noL j 20 u
def noV2 (j : Nat) : Value → Bool
  | .agg a => a.toList.all (noV1 j)
  | u => noV1 j u
def noV3 (j : Nat) : Value → Bool
  | .tuple a => a.toList.all (noV2 j)
  | .map (some _) => true
  | u => noV2 j u
section
variable {ρ : Nat → Value} {j : Nat} {X : Value} {W : World} {r : List Nat}
theorem V0.other {u v : Value} (hn : noL j 20 u = true) (h : @V0 (thOf ρ W) r u v) : @V0 (thOf (setN ρ j X) W) r u v := by
  cases u with
  | iface c x =>
    have h : v = dn ρ (.iface c x) := h
    show v = dn (setN ρ j X) (.iface c x)
    rw [dn_noL 20 _ hn]
    exact h
  | pointer a => cases a <;> exact h
  | slice a n c => cases a <;> exact h
  | _ => exact h
theorem all_other {R R' : Value → Value → Prop} {p : Value → Bool} (hR : ∀ u v, p u = true → R u v → R' u v) {xs ys : Array Value} (hp : xs.toList.all p = true) (h : All R xs ys) : All R' xs ys :=
  ⟨h.1, fun i x y hx hy => hR x y (List.all_eq_true.1 hp x (by simpa using Array.mem_of_getElem? hx)) (h.2 i x y hx hy)⟩
theorem V1.other : ∀ {u v : Value}, noV1 j u = true → @V1 (thOf ρ W) r u v → @V1 (thOf (setN ρ j X) W) r u v
  | .func f a b, v, hn, h => by
    obtain ⟨a', b', rfl, h1, h2⟩ := h
    have hn : (a.toList.all (noL j 20) && b.toList.all (noL j 20)) = true := hn
    rw [Bool.and_eq_true] at hn
    exact ⟨a', b', rfl, all_other (fun _ _ => V0.other) hn.1 h1, all_other (fun _ _ => V0.other) hn.2 h2⟩
  | .bool b, v, hn, h => V0.other (ρ := ρ) (j := j) (X := X) (W := W) (r := r) (u := .bool b) hn h
  | .int k n, v, hn, h => V0.other (ρ := ρ) (j := j) (X := X) (W := W) (r := r) (u := .int k n) hn h
  | .float k n, v, hn, h => V0.other (ρ := ρ) (j := j) (X := X) (W := W) (r := r) (u := .float k n) hn h
  | .complex k n m, v, hn, h => V0.other (ρ := ρ) (j := j) (X := X) (W := W) (r := r) (u := .complex k n m) hn h
  | .string s, v, hn, h => V0.other (ρ := ρ) (j := j) (X := X) (W := W) (r := r) (u := .string s) hn h
  | .pointer a, v, hn, h => V0.other (ρ := ρ) (j := j) (X := X) (W := W) (r := r) (u := .pointer a) hn h
  | .slice a n c, v, hn, h => V0.other (ρ := ρ) (j := j) (X := X) (W := W) (r := r) (u := .slice a n c) hn h
  | .map a, v, hn, h => V0.other (ρ := ρ) (j := j) (X := X) (W := W) (r := r) (u := .map a) hn h
  | .chan a, v, hn, h => V0.other (ρ := ρ) (j := j) (X := X) (W := W) (r := r) (u := .chan a) hn h
  | .nilFunc, v, hn, h => V0.other (ρ := ρ) (j := j) (X := X) (W := W) (r := r) (u := .nilFunc) hn h
  | .iface c x, v, hn, h => V0.other (ρ := ρ) (j := j) (X := X) (W := W) (r := r) (u := .iface c x) hn h
  | .nilIface, v, hn, h => V0.other (ρ := ρ) (j := j) (X := X) (W := W) (r := r) (u := .nilIface) hn h
  | .agg a, v, hn, h => V0.other (ρ := ρ) (j := j) (X := X) (W := W) (r := r) (u := .agg a) hn h
  | .tuple a, v, hn, h => V0.other (ρ := ρ) (j := j) (X := X) (W := W) (r := r) (u := .tuple a) hn h
theorem V2.other : ∀ {u v : Value}, noV2 j u = true → @V2 (thOf ρ W) r u v → @V2 (thOf (setN ρ j X) W) r u v
  | .agg a, v, hn, h => by
    obtain ⟨a', rfl, h1⟩ := h
    exact ⟨a', rfl, all_other (fun _ _ => V1.other) hn h1⟩
  | .bool b, v, hn, h => V1.other (ρ := ρ) (j := j) (X := X) (W := W) (r := r) (u := .bool b) hn h
  | .int k n, v, hn, h => V1.other (ρ := ρ) (j := j) (X := X) (W := W) (r := r) (u := .int k n) hn h
  | .float k n, v, hn, h => V1.other (ρ := ρ) (j := j) (X := X) (W := W) (r := r) (u := .float k n) hn h
  | .complex k n m, v, hn, h => V1.other (ρ := ρ) (j := j) (X := X) (W := W) (r := r) (u := .complex k n m) hn h
  | .string s, v, hn, h => V1.other (ρ := ρ) (j := j) (X := X) (W := W) (r := r) (u := .string s) hn h
  | .pointer a, v, hn, h => V1.other (ρ := ρ) (j := j) (X := X) (W := W) (r := r) (u := .pointer a) hn h
  | .slice a n c, v, hn, h => V1.other (ρ := ρ) (j := j) (X := X) (W := W) (r := r) (u := .slice a n c) hn h
  | .map a, v, hn, h => V1.other (ρ := ρ) (j := j) (X := X) (W := W) (r := r) (u := .map a) hn h
  | .chan a, v, hn, h => V1.other (ρ := ρ) (j := j) (X := X) (W := W) (r := r) (u := .chan a) hn h
  | .func f a b, v, hn, h => V1.other (ρ := ρ) (j := j) (X := X) (W := W) (r := r) (u := .func f a b) hn h
  | .nilFunc, v, hn, h => V1.other (ρ := ρ) (j := j) (X := X) (W := W) (r := r) (u := .nilFunc) hn h
  | .iface c x, v, hn, h => V1.other (ρ := ρ) (j := j) (X := X) (W := W) (r := r) (u := .iface c x) hn h
  | .nilIface, v, hn, h => V1.other (ρ := ρ) (j := j) (X := X) (W := W) (r := r) (u := .nilIface) hn h
  | .tuple a, v, hn, h => V1.other (ρ := ρ) (j := j) (X := X) (W := W) (r := r) (u := .tuple a) hn h
theorem V3.other : ∀ {u v : Value}, noV3 j u = true → @V3 (thOf ρ W) r u v → @V3 (thOf (setN ρ j X) W) r u v
  | .tuple a, v, hn, h => by
    obtain ⟨a', rfl, h1⟩ := h
    exact ⟨a', rfl, all_other (fun _ _ => V2.other) hn h1⟩
  | .map none, v, hn, h => V2.other (ρ := ρ) (j := j) (X := X) (W := W) (r := r) (u := .map none) hn h
  | .map (some a), v, _, _ => trivial
  | .bool b, v, hn, h => V2.other (ρ := ρ) (j := j) (X := X) (W := W) (r := r) (u := .bool b) hn h
  | .int k n, v, hn, h => V2.other (ρ := ρ) (j := j) (X := X) (W := W) (r := r) (u := .int k n) hn h
  | .float k n, v, hn, h => V2.other (ρ := ρ) (j := j) (X := X) (W := W) (r := r) (u := .float k n) hn h
  | .complex k n m, v, hn, h => V2.other (ρ := ρ) (j := j) (X := X) (W := W) (r := r) (u := .complex k n m) hn h
  | .string s, v, hn, h => V2.other (ρ := ρ) (j := j) (X := X) (W := W) (r := r) (u := .string s) hn h
  | .pointer a, v, hn, h => V2.other (ρ := ρ) (j := j) (X := X) (W := W) (r := r) (u := .pointer a) hn h
  | .slice a n c, v, hn, h => V2.other (ρ := ρ) (j := j) (X := X) (W := W) (r := r) (u := .slice a n c) hn h
  | .chan a, v, hn, h => V2.other (ρ := ρ) (j := j) (X := X) (W := W) (r := r) (u := .chan a) hn h
  | .func f a b, v, hn, h => V2.other (ρ := ρ) (j := j) (X := X) (W := W) (r := r) (u := .func f a b) hn h
  | .nilFunc, v, hn, h => V2.other (ρ := ρ) (j := j) (X := X) (W := W) (r := r) (u := .nilFunc) hn h
  | .iface c x, v, hn, h => V2.other (ρ := ρ) (j := j) (X := X) (W := W) (r := r) (u := .iface c x) hn h
  | .nilIface, v, hn, h => V2.other (ρ := ρ) (j := j) (X := X) (W := W) (r := r) (u := .nilIface) hn h
  | .agg a, v, hn, h => V2.other (ρ := ρ) (j := j) (X := X) (W := W) (r := r) (u := .agg a) hn h
end
def noT (j : Nat) : Tr → Bool
  | .leaf v => noV3 j v
  | .node l r => match noT j l with
    | true => noT j r
    | false => false
theorem noT_get {j : Nat} : ∀ (p : List Bool) (t : Tr), noT j t = true → noV3 j (t.get p) = true
  | p, .leaf v, h => by rw [Tr.get_leaf]; exact h
  | [], .node l r, _ => rfl
  | b :: p, .node l r, h => by
    unfold noT at h
    split at h
    · rename_i hl
      cases b with
      | true => exact noT_get p r h
      | false => exact noT_get p l hl
    · cases h
theorem noT_at {j n : Nat} {t : Tr} (h : noT j t = true) (x : Nat) : noV3 j (t.at_ n x) = true := by
  unfold Tr.at_
  split
  · exact noT_get _ _ h
  · rfl
def noM (j : Nat) : List Bk → Bool
  | [] => true
  | x :: l => match x.c.toList.all (noV1 j) with
    | true => noM j l
    | false => false
theorem noM_find {j : Nat} : ∀ {l : List Bk} {i : Nat} {x : Bk}, noM j l = true → find l i = some x → ∀ u ∈ x.c.toList, noV1 j u = true
  | [], _, _, _, h => by cases h
  | y :: l, i, x, h, hf => by
    unfold noM at h
    split at h
    · rename_i hy
      unfold find at hf
      split at hf
      · injection hf with hf
        subst hf
        exact List.all_eq_true.1 hy
      · exact noM_find h hf
    · cases h
section
variable {P : Program} {G : Nat} {W w : World} {ρ : Nat → Value} {j : Nat} {X : Value} {r : List Nat} {m : AM}
theorem Wd.other (hn : noM j m.bs = true) (h : @Wd (thOf ρ W) P G W r m w) : @Wd (thOf (setN ρ j X) W) P G W r m w := by
  refine @Wd.mk (thOf (setN ρ j X) W) _ _ _ _ _ _ ?_ ?_ ?_ (fun i x hx => ?_) ?_
  · exact @Wd.low (thOf ρ W) _ _ _ _ _ _ h
  · exact @Wd.n (thOf ρ W) _ _ _ _ _ _ h
  · exact @Wd.g (thOf ρ W) _ _ _ _ _ _ h
  · obtain ⟨b, c', g1, g2, g3, p1, p2, p3, p4⟩ := @Wd.at_ (thOf ρ W) _ _ _ _ _ _ h i x hx
    exact ⟨b, c', g1, g2, g3, p1, p2, p3, fun k u v hu hv => V1.other (noM_find hn hx u (by simpa using Array.mem_of_getElem? hu)) (p4 k u v hu hv)⟩
  · exact @Wd.inj (thOf ρ W) _ _ _ _ _ _ h
theorem AcT.other {n : Nat} {t : Tr} {b : Act} (hn : ∀ x, noV3 j (t.at_ n x) = true) (h : @AcT (thOf ρ W) n r t b) : @AcT (thOf (setN ρ j X) W) n r t b :=
  @AcT.mk (thOf (setN ρ j X) W) _ _ _ _ (@AcT.size (thOf ρ W) _ _ _ _ h) (@AcT.small (thOf ρ W) _ _ _ _ h) (@AcT.d (thOf ρ W) _ _ _ _ h) fun i => V3.other (hn i) (@AcT.at_ (thOf ρ W) _ _ _ _ h i)
theorem flatV_V3 {x : Value} (h : flatV x = true) : @V3 (thOf ρ W) r x (dn ρ x) := by
  unfold flatV at h
  cases x with
  | iface c u => exact (rfl : dn ρ (.iface c u) = dn ρ (.iface c u))
  | pointer a => cases a with
    | none => exact ⟨rfl, dn_dry ρ rfl⟩
    | some a => simp [dry, isTok] at h
  | slice a n c => cases a with
    | none => exact ⟨rfl, dn_dry ρ rfl⟩
    | some a => simp [dry, isTok] at h
  | func f a b =>
    have hd : dry (.func f a b) = true := by simpa [isTok] using h
    rw [dn_dry ρ hd]
    simp only [dry, Bool.and_eq_true, Array.isEmpty_iff] at hd
    obtain ⟨rfl, rfl⟩ := hd
    exact ⟨#[], #[], rfl, All.nil, All.nil⟩
  | agg a => simp [dry, isTok] at h
  | tuple a => simp [dry, isTok] at h
  | map a => simp [dry, isTok] at h
  | _ => first
    | exact ⟨rfl, dn_dry ρ rfl⟩
    | simp [dry, isTok] at h
end
/-- the rows that the operations of S have yielded -/
def rowsS (S : Nat → Bool) : Nat → List Sp → List Rt
  | _, [] => []
  | i, s :: q => (match S i, s with
    | true, .call _ _ _ j (some (e, z)) => [⟨j, e, z⟩]
    | _, _ => []) ++ rowsS S (i + 1) q
theorem mem_rowsS {S : Nat → Bool} {x : Rt} : ∀ {q : List Sp} {i : Nat}, x ∈ rowsS S i q ↔ ∃ k g args tg, q[k]? = some (.call g args tg x.i (some (x.e, x.z))) ∧ S (i + k) = true
  | [], i => by simp [rowsS]
  | s :: q, i => by
    unfold rowsS
    rw [List.mem_append, mem_rowsS (q := q) (i := i + 1)]
    constructor
    · rintro (h | ⟨k, g, args, tg, h1, h2⟩)
      · split at h
        · rename_i j e z hS
          rw [List.mem_singleton] at h
          subst h
          exact ⟨0, _, _, _, rfl, hS⟩
        · simp at h
      · exact ⟨k + 1, g, args, tg, by simpa using h1, by rw [show i + (k + 1) = i + 1 + k by omega]; exact h2⟩
    · rintro ⟨k, g, args, tg, h1, h2⟩
      cases k with
      | zero =>
        left
        simp at h1
        subst h1
        rw [Nat.add_zero] at h2
        rw [h2]
        simp
      | succ k => exact .inr ⟨k, g, args, tg, by simpa using h1, by rw [show i + 1 + k = i + (k + 1) by omega]; exact h2⟩
/-- the letters of the calls: new, and no two alike -/
def lettersOk (h0 : Nat) : List Sp → Bool
  | [] => true
  | s :: q => match (match s with
    | .call _ _ _ j _ => Nat.ble h0 j && q.all fun s' => match s' with
      | .call _ _ _ j' _ => !Nat.beq j j'
      | _ => true
    | _ => true) with
    | true => lettersOk h0 q
    | false => false
theorem lettersOk_spec {h0 : Nat} : ∀ {q : List Sp}, lettersOk h0 q = true → ∀ (k : Nat) (g : FuncId) (args : Array Value) (tg j : Nat) (row : Option (TypeId × Nat)), q[k]? = some (Sp.call g args tg j row) → h0 ≤ j ∧ ∀ (k' : Nat) (g' : FuncId) (args' : Array Value) (tg' j' : Nat) (row' : Option (TypeId × Nat)), k' ≠ k → q[k']? = some (Sp.call g' args' tg' j' row') → j' ≠ j
  | [], _, k, _, _, _, _, _, hk => by simp at hk
  | s :: q, h, k, g, args, tg, j, row, hk => by
    unfold lettersOk at h
    split at h
    · rename_i hs
      cases k with
      | zero =>
        simp at hk
        subst hk
        simp only [Bool.and_eq_true] at hs
        refine ⟨Nat.le_of_ble_eq_true hs.1, fun k' g' args' tg' j' row' hne hk' => ?_⟩
        cases k' with
        | zero => exact absurd rfl hne
        | succ k' =>
          have := List.all_eq_true.1 hs.2 _ (List.mem_of_getElem? (by simpa using hk' : q[k']? = _))
          simp only [Bool.not_eq_true'] at this
          exact fun e => Nat.ne_of_beq_eq_false this e.symm
      | succ k =>
        have hk : q[k]? = some (.call g args tg j row) := by simpa using hk
        obtain ⟨h1, h2⟩ := lettersOk_spec h k g args tg j row hk
        refine ⟨h1, fun k' g' args' tg' j' row' hne hk' => ?_⟩
        cases k' with
        | zero =>
          simp at hk'
          subst hk'
          simp only [Bool.and_eq_true] at hs
          have := List.all_eq_true.1 hs.2 _ (List.mem_of_getElem? hk)
          simp only [Bool.not_eq_true'] at this
          exact Nat.ne_of_beq_eq_false this
        | succ k' => exact h2 k' g' args' tg' j' row' (by omega) (by simpa using hk')
    · cases h
/-- what an operation is waiting for comes ahead of it in the text -/
def edgesLow : Nat → List Oper → Bool
  | _, [] => true
  | i, o :: l => match o.after.toList.all fun e => !Region.binds .any e || Nat.blt e.on i with
    | true => edgesLow (i + 1) l
    | false => false
theorem edgesLow_spec : ∀ {l : List Oper} {i : Nat}, edgesLow i l = true → ∀ k o, l[k]? = some o → ∀ e ∈ o.after, Region.binds .any e = true → e.on < i + k
  | [], _, _, k, _, hk, _, _, _ => by simp at hk
  | o :: l, i, h, k, o', hk, e, he, hb => by
    unfold edgesLow at h
    split at h
    · rename_i hs
      cases k with
      | zero =>
        simp at hk
        subst hk
        have := List.all_eq_true.1 hs e (by simpa using he)
        rw [hb] at this
        simpa [Nat.blt_eq] using this
      | succ k =>
        have := edgesLow_spec h k o' (by simpa using hk) e he hb
        omega
    · cases h
end Go.Sx
namespace Go.Sx
open Go.RowKit
/-- what an operation yields, the frame being told -/
noncomputable def opRes1 (P : Program) (G : Nat) (env : EnvF) (M : List (Value × List Value)) (F : Fs) (nf nt : Nat) (ops : Array Oper) (m : AM) (o : Oper) (s : Sp) (t : Tr) : Option (Sp × AM) := match @wantT ⟨F, M⟩ nt ops t o with
  | some false => match s with
    | .skip => some (.skip, m)
    | _ => none
  | some true => match s with
    | .look _ => match @quietT ⟨F, M⟩ P G (t.ev nt) m o with
      | some (v, _) => some (.look v, m)
      | none => none
    | .ahead _ => match @evO ⟨F, M⟩ P nt G (evCall P env (@evCode ⟨F, M⟩ P G env nf)) t m o with
      | some (v, m') => some (.ahead v, m')
      | none => none
    | .call _ _ tg j row => match o.op with
      | .call c => match callOf G (t.ev nt) c with
        | some (g, args) => match hasBody P g with
          | true => some (.call g args tg j row, m)
          | false => none
        | none => none
      | _ => none
    | .told _ _ x => match o.op with
      | .call c => match callOf G (t.ev nt) c with
        | some (g, args) => match hasBody P g && flatV x with
          | true => some (.told g args x, m)
          | false => none
        | none => none
      | _ => none
    | .skip => none
  | none => none
noncomputable def opRes (P : Program) (G : Nat) (env : EnvF) (M : List (Value × List Value)) (F : Fs) (nf nt : Nat) (ops : Array Oper) (t0 : Tr) (m : AM) (sps : List Sp) (i : Nat) (o : Oper) (s : Sp) : Option (Sp × AM) :=
  opRes1 P G env M F nf nt ops m o s (fillT nt (dep ops i) 0 ops.toList sps t0)
noncomputable def allRes (P : Program) (G : Nat) (env : EnvF) (M : List (Value × List Value)) (F : Fs) (nf nt : Nat) (ops : Array Oper) (t0 : Tr) (m : AM) (sps : List Sp) : Nat → List Oper → List Sp → List (Option (Sp × AM))
  | i, o :: l, s :: q => opRes P G env M F nf nt ops t0 m sps i o s :: allRes P G env M F nf nt ops t0 m sps (i + 1) l q
  | _, _, _ => []
def wantRes (m : AM) : List Sp → List (Option (Sp × AM))
  | [] => []
  | s :: q => some (s, m) :: wantRes m q
theorem allRes_spec {P : Program} {G : Nat} {env : EnvF} {M : List (Value × List Value)} {F : Fs} {nf nt : Nat} {ops : Array Oper} {t0 : Tr} {m : AM} {sps : List Sp} : ∀ (l : List Oper) (q : List Sp) (i : Nat), allRes P G env M F nf nt ops t0 m sps i l q = wantRes m q → ∀ (k : Nat) o s, l[k]? = some o → q[k]? = some s → opRes P G env M F nf nt ops t0 m sps (i + k) o s = some (s, m)
  | [], _, _, _, k, _, _, h, _ => by simp at h
  | _ :: _, [], _, _, k, _, _, _, h => by simp at h
  | o :: l, s :: q, i, h, k, o', s', h1, h2 => by
    unfold allRes wantRes at h
    injection h with h3 h4
    cases k with
    | zero =>
      simp at h1 h2
      subst h1 h2
      exact h3
    | succ k =>
      have := allRes_spec l q (i + 1) h4 k o' s' (by simpa using h1) (by simpa using h2)
      rw [show i + (k + 1) = i + 1 + k by omega]
      exact this
/-- letter j is in nothing that may have been yielded ahead of operation i -/
def noAt (ops : Array Oper) (j i : Nat) : Nat → List Sp → Bool
  | _, [] => true
  | k, s :: q => match Nat.beq k i || (dep ops k i || noV3 j s.val) with
    | true => noAt ops j i (k + 1) q
    | false => false
theorem noAt_spec {ops : Array Oper} {j i : Nat} : ∀ {q : List Sp} {n : Nat}, noAt ops j i n q = true → ∀ (k : Nat) s, q[k]? = some s → n + k ≠ i → dep ops (n + k) i = false → noV3 j s.val = true
  | [], _, _, k, _, h, _, _ => by simp at h
  | s :: q, n, h, k, s', hk, hne, hd => by
    unfold noAt at h
    split at h
    · rename_i hs
      cases k with
      | zero =>
        simp at hk
        subst hk
        rw [Nat.add_zero] at hne hd
        rw [hd, Bool.or_eq_true, Bool.or_eq_true] at hs
        rcases hs with hs | hs | hs
        · exact absurd (Nat.eq_of_beq_eq_true hs) hne
        · cases hs
        · exact hs
      | succ k => exact noAt_spec h k s' (by simpa using hk) (by omega) (by rw [show n + 1 + k = n + (k + 1) by omega]; exact hd)
    · cases h
def noAll (ops : Array Oper) (t0 : Tr) (m : AM) (sps : List Sp) : Nat → List Sp → Bool
  | _, [] => true
  | i, s :: q => match (match s with
    | .call _ _ _ j _ => noT j t0 && (noM j m.bs && noAt ops j i 0 sps)
    | _ => true) with
    | true => noAll ops t0 m sps (i + 1) q
    | false => false
theorem noAll_spec {ops : Array Oper} {t0 : Tr} {m : AM} {sps : List Sp} : ∀ {q : List Sp} {n : Nat}, noAll ops t0 m sps n q = true → ∀ (k : Nat) g args tg j row, q[k]? = some (Sp.call g args tg j row) → noT j t0 = true ∧ noM j m.bs = true ∧ noAt ops j (n + k) 0 sps = true
  | [], _, _, k, _, _, _, _, _, h => by simp at h
  | s :: q, n, h, k, g, args, tg, j, row, hk => by
    unfold noAll at h
    split at h
    · rename_i hs
      cases k with
      | zero =>
        simp at hk
        subst hk
        simp only [Bool.and_eq_true] at hs
        exact ⟨hs.1, hs.2.1, hs.2.2⟩
      | succ k =>
        have := noAll_spec h k g args tg j row (by simpa using hk)
        rw [show n + (k + 1) = n + 1 + k by omega]
        exact this
    · cases h
theorem cnt_lt {p p' : Nat → Bool} : ∀ {l : List Nat}, (∀ k, p' k = true → p k = true) → ∀ {i : Nat}, i ∈ l → p i = true → p' i = false → (l.filter p').length < (l.filter p).length
  | [], _, _, hi, _, _ => by simp at hi
  | x :: l, h, i, hi, h1, h2 => by
    have hle : ∀ l : List Nat, (l.filter p').length ≤ (l.filter p).length := fun l => by
      induction l with
      | nil => simp
      | cons y l ih =>
        rw [List.filter_cons, List.filter_cons]
        cases hy : p' y with
        | true => rw [h y hy]; simpa using ih
        | false => cases p y <;> simp <;> omega
    rcases List.mem_cons.1 hi with rfl | hi
    · rw [List.filter_cons, List.filter_cons, h1, h2]
      have := hle l
      simp
      omega
    · have ih := cnt_lt h hi h1 h2
      rw [List.filter_cons, List.filter_cons]
      cases hy : p' x with
      | true => rw [h x hy]; simpa using ih
      | false => cases p x <;> simp <;> omega
section
variable {P : Program} {G : Nat} {W : World} {ρ : Nat → Value} {γ : Ga} {env : EnvF} {M : List (Value × List Value)}
/-- what is known when operation i is called -/
structure Before (W : World) (ρ : Nat → Value) (γ : Ga) (h0 : Nat) (m : AM) (ops : Array Oper) (sps : List Sp) (L0 : List Rt) (post : Nat → Value → List (List Value) → Prop) (i : Nat) (r : List Nat) (ρ' : Nat → Value) (γ' : Ga) (w : World) : Prop where
  old : ∀ q, q < h0 → ρ' q = ρ q ∧ γ' q = γ q
  size : W.heap.size ≤ w.heap.size
  low : Below W.heap.size W w
  rows : ∀ x ∈ L0, OwnR W w r m (ρ' x.i) x.e x.z (γ' x.i)
  done : ∀ k g args tg j row, dep ops i k = true → sps[k]? = some (Sp.call g args tg j row) → post k (ρ' j) (γ' j) ∧ ∀ e z, row = some (e, z) → OwnR W w r m (ρ' j) e z (γ' j)
def StA (P : Program) (G : Nat) (W : World) (ρ : Nat → Value) (γ : Ga) (h0 nt : Nat) (m : AM) (ops : Array Oper) (t0 : Tr) (sps : List Sp) (L0 : List Rt) (post : Nat → Value → List (List Value) → Prop) (S : Nat → Bool) (b : Act) (w : World) : Prop :=
  ∃ r ρ' γ', (∀ q, q < h0 → ρ' q = ρ q ∧ γ' q = γ q) ∧ @AcT (thOf ρ' W) nt r (fillT nt S 0 ops.toList sps t0) b ∧ @Wd (thOf ρ' W) P G W r m w ∧ W.heap.size ≤ w.heap.size ∧ Rows W w r m ρ' γ' (rowsS S 0 sps ++ L0) ∧
    ∀ k g args tg j row, sps[k]? = some (Sp.call g args tg j row) → S k = true → post k (ρ' j) (γ' j)
theorem Rows.sub {w : World} {r : List Nat} {m : AM} {L L' : List Rt} (h : Rows W w r m ρ γ L) (hs : ∀ x ∈ L', x ∈ L) : Rows W w r m ρ γ L' := ⟨fun x hx => h.each x (hs x hx), fun x hx y hy => h.two x (hs x hx) y (hs y hy)⟩
theorem OwnR.ext {w : World} {r r' : List Nat} {m : AM} {v : Value} {e : TypeId} {z : Nat} {l : List (List Value)} (hw : @Wd (thOf ρ W) P G W r m w) (he : Ext r r') (h : OwnR W w r m v e z l) : OwnR W w r' m v e z l := by
  letI := thOf ρ W
  refine ⟨h.len, h.own, fun k hk hd => h.apart k hk ?_⟩
  obtain ⟨i, x, hx, hro, hr⟩ := hd
  obtain ⟨b, c', g1, -⟩ := hw.at_ i x hx
  obtain ⟨s, rfl⟩ := he
  have : (r ++ s)[i]? = some b := by rw [List.getElem?_append_left (List.getElem?_eq_some_iff.1 g1).1]; exact g1
  rw [hr] at this
  injection this with this
  subst this
  exact ⟨i, x, hx, hro, g1⟩
theorem fillT_none {n : Nat} (hn : n ≤ 512) : ∀ (l : List Oper) (q : List Sp) (i : Nat) (t : Tr) (x : Nat), (fillT n (fun _ => false) i l q t).at_ n x = wild ∨ (fillT n (fun _ => false) i l q t).at_ n x = t.at_ n x
  | [], q, i, t, x => .inr rfl
  | _ :: _, [], i, t, x => .inr rfl
  | o :: l, s :: q, i, t, x => by
    unfold fillT
    rcases fillT_none hn l q (i + 1) (t.put n o.dst wild) x with h | h
    · exact .inl h
    · cases hd : o.dst with
      | none => rw [hd] at h; exact .inr h
      | some d =>
        rw [hd, put_at hn] at h
        by_cases hx : x = d ∧ d < n
        · rw [if_pos hx] at h; exact .inl h
        · rw [if_neg hx] at h; exact .inr h
/-- A REGION IN ANY ORDER -/
theorem drawAny (hN : NoGo P) (hM : P.follows .mixedOrders = true) {F : Fs} {id nf nt h0 : Nat} {ops : Array Oper} {t0 : Tr} {m : AM} {sps : List Sp} {L0 : List Rt} {post : Nat → Value → List (List Value) → Prop}
    (hlen : sps.length = ops.size) (hdst : dstsOk ops.toList = true) (hlow : edgesLow 0 ops.toList = true) (hlet : lettersOk h0 sps = true) (hno : noAll ops t0 m sps 0 sps = true)
    (hres : allRes P G env M F nf nt ops t0 m sps 0 ops.toList sps = wantRes m sps) (hKn : ∀ ρ', (∀ q, q < h0 → ρ' q = ρ q) → Kn P G W ρ' (fun _ => env) M F) (hL0 : ∀ x ∈ L0, x.i < h0)
    (hC : ∀ i g args tg j row, sps[i]? = some (Sp.call g args tg j row) → ∀ r ρ' γ' w args', Before W ρ γ h0 m ops sps L0 post i r ρ' γ' w → @All (@V2 (thOf ρ' W) r) args args' → tg < 16 ∧ Calls P g args' w fun e w' => ∃ X l, e = .returned X ∧ hasTag tg X ∧ Below w.heap.size w w' ∧ post i X l ∧ ∀ e z, row = some (e, z) → (∀ x ∈ l, x.length = z) ∧ w'.ownsRow w.heap.size e z X l.length l.flatten)
    (hT : ∀ i g args x, sps[i]? = some (Sp.told g args x) → ∀ r ρ' γ' w args', Before W ρ γ h0 m ops sps L0 post i r ρ' γ' w → @All (@V2 (thOf ρ' W) r) args args' → Calls P g args' w fun e w' => e = .returned (dn ρ' x) ∧ Below w.heap.size w w')
    {Q : Exit → Act → World → Prop} {N : Act → World → Prop} {b : Act} {w : World} (hI : InvR P G W ρ γ L0 nt t0 m b w)
    (hfin : ∀ ρ' γ' b' w', (∀ q, q < h0 → ρ' q = ρ q ∧ γ' q = γ q) → (∀ k g args tg j row, sps[k]? = some (Sp.call g args tg j row) → post k (ρ' j) (γ' j)) → InvR P G W ρ' γ' (rowsS (fun _ => true) 0 sps ++ L0) nt (fillT nt (fun _ => true) 0 ops.toList sps t0) m b' w' → N b' w') :
    (Code.region id ops true).wp P (Exit.then N Q) b w := by
  have hfinal : ∀ (S : Nat → Bool) b w, (∀ k, k < ops.size → S k = true) → StA P G W ρ γ h0 nt m ops t0 sps L0 post S b w → N b w := by
    rintro S b w hS ⟨r, ρ', γ', e1, e2, e3, e4, e5, e6⟩
    refine hfin ρ' γ' b w e1 (fun k g args tg j row hk => e6 k g args tg j row hk (hS k (by rw [← hlen]; exact (List.getElem?_eq_some_iff.1 hk).1))) ⟨r, ?_, e3, e4, e5.sub fun x hx => ?_⟩
    · letI := thOf ρ' W
      have hrel := fillT_rel (S := S) (S' := fun _ => true) (Q := fun _ u u' => u' = u) e2.small ops.toList sps 0 t0 t0 (fun k o s d h1 _ _ => by
        rw [Nat.zero_add, hS k (by simpa using (List.getElem?_eq_some_iff.1 h1).1)]) (fun x => rfl)
      exact ⟨e2.size, e2.small, e2.d, fun x => by rw [hrel x]; exact e2.at_ x⟩
    · rcases List.mem_append.1 hx with hx | hx
      · obtain ⟨k, g, args, tg, h1, -⟩ := mem_rowsS.1 hx
        exact List.mem_append_left _ (mem_rowsS.2 ⟨k, g, args, tg, h1, by rw [Nat.zero_add]; exact hS k (by rw [← hlen]; exact (List.getElem?_eq_some_iff.1 h1).1)⟩)
      · exact List.mem_append_right _ hx
  have main : ∀ (fuel : Nat) (listed : Array Bool) (b : Act) (w : World), listed.size = ops.size → Closed ops listed → ((List.range ops.size).filter fun k => !listed.getD k false).length ≤ fuel → StA P G W ρ γ h0 nt m ops t0 sps L0 post (fun k => listed.getD k false) b w → wpAny P .any ops (Exit.then N Q) fuel listed b w := by
    have hnone : ∀ listed : Array Bool, Region.ready .any ops listed = [] → listed.size = ops.size → ∀ k, k < ops.size → listed.getD k false = true := by
      intro listed hr hsz k
      induction k using Nat.strongRecOn with
      | ind k ih =>
        intro hk
        cases hv : listed.getD k false with
        | true => rfl
        | false =>
          exfalso
          have ho : ops[k]? = some ops[k] := Array.getElem?_eq_getElem hk
          have hmem : k ∈ Region.ready .any ops listed := mem_ready.2 ⟨by
            rw [Array.getD_eq_getD_getElem?] at hv ⊢
            rw [Array.getElem?_eq_getElem (by omega)] at hv ⊢
            exact hv, ops[k], ho, fun e he hb => by
              have := edgesLow_spec hlow k ops[k] (by simp) e he hb
              exact ih e.on (by omega) (by omega)⟩
          rw [hr] at hmem
          simp at hmem
    intro fuel
    induction fuel with
    | zero =>
      intro listed b w hsz hcl hcnt hst
      have hall : ∀ k, k < ops.size → listed.getD k false = true := fun k hk => by
        cases hv : listed.getD k false with
        | true => rfl
        | false =>
          have : k ∈ (List.range ops.size).filter fun k => !listed.getD k false := List.mem_filter.2 ⟨List.mem_range.2 hk, by rw [hv]; rfl⟩
          have := List.length_pos_of_mem this
          omega
      refine ⟨List.eq_nil_iff_forall_not_mem.2 fun k hk => ?_, hfinal _ b w hall hst⟩
      obtain ⟨hun, o, ho, -⟩ := mem_ready.1 hk
      have := hall k (Array.getElem?_eq_some_iff.1 ho).1
      rw [getD_true_false hun] at this
      cases this
    | succ fuel ih =>
      intro listed b w hsz hcl hcnt hst
      refine ⟨fun hr => hfinal _ b w (hnone listed hr hsz) hst, fun i hi => ?_⟩
      obtain ⟨hun, o, ho, hall⟩ := mem_ready.1 hi
      have hisz : i < ops.size := (Array.getElem?_eq_some_iff.1 ho).1
      have hunf := getD_true_false hun
      have hol : ops.toList[i]? = some o := by simpa using ho
      obtain ⟨s, hs⟩ : ∃ s, sps[i]? = some s := ⟨_, List.getElem?_eq_getElem (by omega)⟩
      have hop := allRes_spec ops.toList sps 0 hres i o s hol hs
      rw [Nat.zero_add] at hop
      obtain ⟨r, ρ', γ', e1, e2, e3, e4, e5, e6⟩ := hst
      letI := thOf ρ' W
      haveI := ts_of ρ' W
      haveI := at_of ρ' W
      letI : Fx := ⟨F, M⟩
      have hK := hKn ρ' fun q hq => (e1 q hq).1
      haveI : Sat := ⟨hK.sat, hK.mem⟩
      have hE : EnvOk P G W env := hK.env F hK.sat
      have hti : AcT nt r (fillT nt (dep ops i) 0 ops.toList sps t0) b := AcT.less e2 fun k hk => dep_listed hcl i k o ho hall hk
      have hset : ∀ k, k ≠ i → (listed.setIfInBounds i true).getD k false = listed.getD k false := fun k hk => getD_set_ne false (fun e => hk e.symm)
      have hseti : (listed.setIfInBounds i true).getD i false = true := by
        rw [Array.getD_eq_getD_getElem?, Array.getElem?_setIfInBounds, if_pos rfl, if_pos (by omega)]
        rfl
      -- the next state
      have next : ∀ b' w', StA P G W ρ γ h0 nt m ops t0 sps L0 post (fun k => (listed.setIfInBounds i true).getD k false) b' w' → wpAny P .any ops (Exit.then N Q) fuel (listed.setIfInBounds i true) b' w' := fun b' w' h => by
        refine ih _ b' w' (by rw [Array.size_setIfInBounds]; exact hsz) (closed_set hcl hi) ?_ h
        have hlt := cnt_lt (p := fun k => !listed.getD k false) (p' := fun k => !(listed.setIfInBounds i true).getD k false) (l := List.range ops.size) (fun k hk => by
          by_cases hki : k = i
          · subst hki; show (!listed.getD k false) = true; rw [hunf]; rfl
          · have hk : (!(listed.setIfInBounds i true).getD k false) = true := hk
            rw [hset k hki] at hk
            exact hk) (i := i) (List.mem_range.2 hisz) (by show (!listed.getD i false) = true; rw [hunf]; rfl) (by show (!(listed.setIfInBounds i true).getD i false) = false; rw [hseti]; rfl)
        omega
      have before : Before W ρ γ h0 m ops sps L0 post i r ρ' γ' w := ⟨e1, e4, e3.low, fun x hx => e5.each x (List.mem_append_right _ hx), fun k g args tg j row hd hk => by
        have hlk := dep_listed hcl i k o ho hall hd
        refine ⟨e6 k g args tg j row hk hlk, fun e z hrow => ?_⟩
        subst hrow
        exact e5.each ⟨j, e, z⟩ (List.mem_append_left _ (mem_rowsS.2 ⟨k, g, args, tg, hk, by rw [Nat.zero_add]; exact hlk⟩))⟩
      -- states that differ by a value only
      have plain : (∀ g args tg j row, s ≠ Sp.call g args tg j row) → ∀ r' v' w', V3 r' s.val v' → Wd P G W r' m w' → Step r m w r' m w' → StA P G W ρ γ h0 nt m ops t0 sps L0 post (fun k => (listed.setIfInBounds i true).getD k false) (b.put o.dst v') w' := fun hnc r' v' w' hv hw' hst => by
        refine ⟨r', ρ', γ', e1, AcT.more (AcT.ext e2 hst.ext) hdst hol hs hseti hset hv, hw', Nat.le_trans e4 hst.size, (e5.step hst).sub fun x hx => ?_, fun k g args tg j row hk hl => ?_⟩
        · rcases List.mem_append.1 hx with hx | hx
          · obtain ⟨k, g, args, tg, h1, h2⟩ := mem_rowsS.1 hx
            rw [Nat.zero_add] at h2
            by_cases hki : k = i
            · subst hki
              rw [hs] at h1
              injection h1 with h1
              exact absurd h1 (hnc _ _ _ _ _)
            · rw [hset k hki] at h2
              exact List.mem_append_left _ (mem_rowsS.2 ⟨k, g, args, tg, h1, by rw [Nat.zero_add]; exact h2⟩)
          · exact List.mem_append_right _ hx
        · by_cases hki : k = i
          · subst hki
            rw [hs] at hk
            injection hk with hk
            exact absurd hk (hnc _ _ _ _ _)
          · have hl : (listed.setIfInBounds i true).getD k false = true := hl
            rw [hset k hki] at hl
            exact e6 k g args tg j row hk hl
      unfold wpOp
      rw [ho]
      simp only
      unfold opRes opRes1 at hop
      split at hop
      · rename_i hwant
        rw [AcT.want hti ops o hwant]
        simp only [Bool.false_eq_true, if_false]
        cases s with
        | skip => exact next _ _ (plain (fun _ _ _ _ _ h => by cases h) r undef w undef_V3 e3 (Step.refl _ _ _))
        | _ => cases hop
      · rename_i hwant
        rw [AcT.want hti ops o hwant]
        simp only [if_true]
        left
        cases s with
        | skip => cases hop
        | look x =>
          simp only at hop
          split at hop
          · rename_i v fs hq
            injection hop with hop
            injection hop with hop _
            injection hop with hop
            subst hop
            obtain ⟨v', Z, hv, -, hh, hrun⟩ := quietT_sound hq (AcT.eval hti e3.g) e3
            unfold Oper.wp
            rw [hrun w hh]
            exact next _ _ (plain (fun _ _ _ _ _ h => by cases h) r v' w hv e3 (Step.refl _ _ _))
          · cases hop
        | ahead x =>
          simp only at hop
          split at hop
          · rename_i v m' hq
            injection hop with hop
            injection hop with hop hm
            injection hop with hop
            subst hop hm
            exact evO_sound hN (evCall_ok hE (evCode_good hN hM hE nf).1) hq (AcT.eval hti e3.g) e3 e4 fun r' v' w' hv hw' hst => next _ _ (plain (fun _ _ _ _ _ h => by cases h) r' v' w' hv hw' hst)
          · cases hop
        | told g0 args0 x =>
          simp only at hop
          split at hop
          · rename_i c hc
            split at hop
            · rename_i g args hcall
              split at hop
              · rename_i hb
                injection hop with hop
                injection hop with hop _
                injection hop with hop1 hop2
                subst hop1 hop2
                rw [Bool.and_eq_true] at hb
                refine freshOp hN hc hcall hb.1 (AcT.eval hti e3.g) fun args' hargs => ?_
                refine (hT i _ _ x hs r ρ' γ' w args' before hargs).mono ?_
                rintro e w' ⟨rfl, hbl⟩
                refine ⟨_, rfl, next _ _ (plain (fun _ _ _ _ _ h => by cases h) r _ w' (flatV_V3 hb.2) (Wd.later e3 hbl) ?_)⟩
                exact ⟨Ext.refl _, hbl.os, hbl.tape, hbl.output, hbl.size, fun k hk _ => hbl.block k hk, fun k hk => .inl hk⟩
              · cases hop
            · cases hop
          · cases hop
        | call g0 args0 tg j row =>
          simp only at hop
          split at hop
          · rename_i c hc
            split at hop
            · rename_i g args hcall
              split at hop
              · rename_i hb
                injection hop with hop
                injection hop with hop _
                injection hop with hop1 hop2
                subst hop1 hop2
                have hCi := fun args' => hC i _ _ tg j row hs r ρ' γ' w args' before
                refine freshOp hN hc hcall hb (AcT.eval hti e3.g) fun args' hargs => ?_
                obtain ⟨htg, hcalls⟩ := hCi args' hargs
                refine hcalls.mono ?_
                rintro e w' ⟨X, l, rfl, htag, hbl, hpost, hrow⟩
                refine ⟨X, rfl, next _ _ ?_⟩
                obtain ⟨hj, hdist⟩ := lettersOk_spec hlet i _ _ tg j row hs
                obtain ⟨n1, n2, n3⟩ := noAll_spec hno i _ _ tg j row hs
                rw [Nat.zero_add] at n3
                have hfr : ∀ x, noV3 j ((fillT nt (fun k => listed.getD k false) 0 ops.toList sps t0).at_ nt x) = true := by
                  refine fillT_rel (S := fun k => listed.getD k false) (S' := fun k => listed.getD k false) (Q := fun _ u _ => noV3 j u = true) (AcT.small e2) ops.toList sps 0 t0 t0 (fun k o' s' d h1 h2 _ => ?_) (noT_at n1)
                  rw [Nat.zero_add]
                  cases hl : listed.getD k false with
                  | false => rfl
                  | true =>
                    refine noAt_spec n3 k s' h2 (fun e => ?_) ?_
                    · rw [Nat.zero_add] at e
                      subst e
                      rw [hunf] at hl
                      cases hl
                    · rw [Nat.zero_add]
                      cases hd : dep ops k i with
                      | false => rfl
                      | true =>
                        have := dep_listed hcl k i o' (by simpa using h1) (fun e he hb => hcl k o' hl (by simpa using h1) e he hb) hd
                        rw [hunf] at this
                        cases this
                have a1 : @AcT (thOf (setN ρ' j X) W) nt r (fillT nt (fun k => listed.getD k false) 0 ops.toList sps t0) b := AcT.other hfr e2
                have w1 : @Wd (thOf (setN ρ' j X) W) P G W r m w' := Wd.other n2 (Wd.later e3 hbl)
                have hv : @V3 (thOf (setN ρ' j X) W) r (L tg j) X := by
                  have := @let_de (setN ρ' j X) W tg j htg (by rw [setN_same]; exact htag)
                  rw [setN_same] at this
                  exact this
                have hold : ∀ x : Rt, x.i ≠ j → x ∈ rowsS (fun k => listed.getD k false) 0 sps ++ L0 → OwnR W w' r m (ρ' x.i) x.e x.z (γ' x.i) := fun x _ hx => (e5.each x hx).later hbl
                -- members
                have hmem : ∀ x ∈ rowsS (fun k => (listed.setIfInBounds i true).getD k false) 0 sps ++ L0, (x.i = j ∧ row = some (x.e, x.z)) ∨ (x.i ≠ j ∧ x ∈ rowsS (fun k => listed.getD k false) 0 sps ++ L0) := fun x hx => by
                  rcases List.mem_append.1 hx with hx | hx
                  · obtain ⟨k, g1, args1, tg1, h1, h2⟩ := mem_rowsS.1 hx
                    rw [Nat.zero_add] at h2
                    by_cases hki : k = i
                    · subst hki
                      rw [hs] at h1
                      injection h1 with h1
                      injection h1 with _ _ _ h1 h3
                      exact .inl ⟨h1.symm, h3⟩
                    · rw [hset k hki] at h2
                      exact .inr ⟨hdist k _ _ _ _ _ hki h1, List.mem_append_left _ (mem_rowsS.2 ⟨k, g1, args1, tg1, h1, by rw [Nat.zero_add]; exact h2⟩)⟩
                  · have := hL0 x hx
                    exact .inr ⟨by omega, List.mem_append_right _ hx⟩
                refine ⟨r, setN ρ' j X, setN γ' j l, fun q hq => ⟨(setN_ne (by omega)).trans (e1 q hq).1, (setN_ne (by omega)).trans (e1 q hq).2⟩, @AcT.more (setN ρ' j X) W nt r b _ _ _ _ _ _ _ _ _ a1 hdst hol hs hseti hset hv, w1, Nat.le_trans e4 hbl.size, ⟨fun x hx => ?_, fun x hx y hy hxy k hkx hky => ?_⟩, fun k g1 args1 tg1 j1 row1 hk hl => ?_⟩
                · rcases hmem x hx with ⟨h1, h2⟩ | ⟨h1, h2⟩
                  · rw [h1, setN_same, setN_same]
                    obtain ⟨k1, k2⟩ := hrow _ _ h2
                    refine ⟨k1, ?_, fun k hk hd => ?_⟩
                    · refine ⟨k2.1, ?_⟩
                      rcases k2.2 with hn | ⟨g, cap, cur, rfl, hg, rest⟩
                      · exact .inl hn
                      · exact .inr ⟨g, cap, cur, rfl, Nat.le_trans e4 hg, rest⟩
                    · have q1 := (World.ownsRow.lt k2 k hk).1
                      have q2 := D.lt e3 hd
                      omega
                  · rw [setN_ne h1, setN_ne h1]
                    exact hold x h1 h2
                · rcases hmem x hx with ⟨h1, h2⟩ | ⟨h1, h2⟩
                  · rcases hmem y hy with ⟨h3, h4⟩ | ⟨h3, h4⟩
                    · exact hxy (h1.trans h3.symm)
                    · rw [h1, setN_same] at hkx
                      rw [setN_ne h3] at hky
                      obtain ⟨k1, k2⟩ := hrow _ _ h2
                      have q1 := (World.ownsRow.lt k2 k hkx).1
                      have q2 := (World.ownsRow.lt (e5.each y h4).own k hky).2
                      omega
                  · rcases hmem y hy with ⟨h3, h4⟩ | ⟨h3, h4⟩
                    · rw [setN_ne h1] at hkx
                      rw [h3, setN_same] at hky
                      obtain ⟨k1, k2⟩ := hrow _ _ h4
                      have q1 := (World.ownsRow.lt k2 k hky).1
                      have q2 := (World.ownsRow.lt (e5.each x h2).own k hkx).2
                      omega
                    · rw [setN_ne h1] at hkx
                      rw [setN_ne h3] at hky
                      exact e5.two x h2 y h4 hxy k hkx hky
                · by_cases hki : k = i
                  · subst hki
                    rw [hs] at hk
                    injection hk with hk
                    injection hk with _ _ _ h1 h3
                    subst h1
                    rw [setN_same, setN_same]
                    exact hpost
                  · have hl : (listed.setIfInBounds i true).getD k false = true := hl
                    rw [hset k hki] at hl
                    have := hdist k _ _ _ _ _ hki hk
                    rw [setN_ne this, setN_ne this]
                    exact e6 k g1 args1 tg1 j1 row1 hk hl
              · cases hop
            · cases hop
          · cases hop
      · cases hop
  refine wp_region_any hM (main ops.size (Array.replicate ops.size false) b _ (by simp) closed_none ?_ ?_)
  · exact Nat.le_trans (List.length_filter_le _ _) (by simp)
  · obtain ⟨r, ha, hw, hB, hR⟩ := hI
    letI := thOf ρ W
    have hwd : Wd P G W r m { w with drawn := w.drawn + 1 } := ⟨⟨hw.low.os, hw.low.tape, hw.low.output, hw.low.size, hw.low.block⟩, hw.n, hw.g, hw.at_, hw.inj⟩
    have hf : (fun k => (Array.replicate ops.size false).getD k false) = fun _ => false := by
      funext k
      rw [Array.getD_eq_getD_getElem?, Array.getElem?_replicate]
      split <;> rfl
    rw [hf]
    refine ⟨r, ρ, γ, fun q _ => ⟨rfl, rfl⟩, ⟨ha.size, ha.small, ha.d, fun x => ?_⟩, hwd, hB, ⟨fun x hx => ?_, fun x hx y hy => ?_⟩, fun k g args tg j row _ h => (by cases h)⟩
    · rcases fillT_none ha.small ops.toList sps 0 t0 x with h | h
      · rw [h]; exact wild_V3
      · rw [h]; exact ha.at_ x
    · rcases List.mem_append.1 hx with hx | hx
      · obtain ⟨k, g, args, tg, -, h⟩ := mem_rowsS.1 hx
        cases h
      · have h := hR.each x hx
        exact ⟨h.len, h.own, h.apart⟩
    · rcases List.mem_append.1 hx with hx | hx
      · obtain ⟨k, g, args, tg, -, h⟩ := mem_rowsS.1 hx
        cases h
      · rcases List.mem_append.1 hy with hy | hy
        · obtain ⟨k, g, args, tg, -, h⟩ := mem_rowsS.1 hy
          cases h
        · exact hR.two x hx y hy
end
end Go.Sx
