/-
  RUNS RECKONED AHEAD: pieces of code between states that are told over letters; loops. By an AI agent.
-/
import Derived.Test.YtpejbfdmiinokaaSyM
namespace Go.Sx
open Go.RowKit
/-- for facts that no letter bears on -/
instance (priority := low) thPure : Th := ⟨fun _ _ => .bool false, fun _ _ => ⟨fun _ h => (by cases h), fun _ h => (by cases h)⟩, default, fun _ => False⟩
instance (priority := low) fxPure : Fx := ⟨[], []⟩
/-- the letters' next values -/
abbrev Es := List (Nat × Value)
def lookE : Es → Nat → Option Value
  | [], _ => none
  | (j, u) :: l, i => match Nat.beq j i with
    | true => some u
    | false => lookE l i
noncomputable def upd (ρ : Nat → Value) (E : Es) (i : Nat) : Value := match lookE E i with
  | some u => dn ρ u
  | none => ρ i
theorem de_dn {ρ : Nat → Value} {W : World} {x X : Value} (h : @De (thOf ρ W) x X) : dn ρ x = X := by
  cases x with
  | iface c u => exact Eq.symm h
  | _ => rw [dn_dry ρ h.1]; exact h.2.symm
section
variable (E : Es) (h0 n0 : Nat)
/-- a value turns into one over the letters below h0, with their next values -/
def cv0 (u u0 : Value) : Bool := match u0 with
  | .iface g (.int .u64 (.ofNat i)) => match Nat.blt g 16, Nat.blt i h0, okTag g u with
    | true, true, true => match lookE E i with
      | some e => veq u e
      | none => veq u (L g i)
    | _, _, _ => false
  | .pointer (some b) => match u with
    | .pointer (some a) => match aeq a b with
      | true => Nat.blt a.block n0
      | false => false
    | _ => false
  | .slice (some b) n' c' => match u with
    | .slice (some a) n c => match aeq a b, Nat.beq n n', Nat.beq c c', Nat.blt a.block n0 with
      | true, true, true, true => match Nat.blt c K with
        | true => true
        | false => Nat.blt (c - K) n0
      | _, _, _, _ => false
    | _ => false
  | u0 => match dry u with
    | true => veq u u0
    | false => false
def cvL (R : Value → Value → Bool) : List Value → List Value → Bool
  | [], [] => true
  | x :: l, y :: r => match R x y with
    | true => cvL R l r
    | false => false
  | _, _ => false
def cv1 (u u0 : Value) : Bool := match u, u0 with
  | .func (.func f) a b, .func (.func g) c d => match Nat.beq f g, cvL (cv0 E h0 n0) a.toList c.toList with
    | true, true => cvL (cv0 E h0 n0) b.toList d.toList
    | _, _ => false
  | u, u0 => cv0 E h0 n0 u u0
def cv2 (u u0 : Value) : Bool := match u, u0 with
  | .agg a, .agg b => cvL (cv1 E h0 n0) a.toList b.toList
  | u, u0 => cv1 E h0 n0 u u0
def cv3 (u u0 : Value) : Bool := match u0 with
  | .map (some _) => true
  | .tuple b => match u with
    | .tuple a => cvL (cv2 E h0 n0) a.toList b.toList
    | _ => false
  | u0 => match nt u with
    | true => cv2 E h0 n0 u u0
    | false => false
end
/-- what the letters stand for next -/
def Upd (E : Es) (h0 : Nat) (ρ ρ' : Nat → Value) : Prop := ∀ i, i < h0 → ρ' i = upd ρ E i
section
variable {E : Es} {h0 n0 : Nat} {ρ ρ' : Nat → Value} {W0 : World} {r : List Nat}
theorem take_get {i b : Nat} (h : r[i]? = some b) (hi : i < n0) : (r.take n0)[i]? = some b := by
  rw [List.getElem?_take, if_pos hi]
  exact h
theorem ar_cv {a b c : Addr} (h : aeq a b = true) (hn : Nat.blt a.block n0 = true) (k : AR r a c) : AR (r.take n0) b c := by
  have := aeq_eq h
  subst this
  exact ⟨take_get k.1 (by simpa [Nat.blt_eq] using hn), k.2⟩
theorem dry_V0 [Th] {r : List Nat} {u : Value} (h : dry u = true) : V0 r u u := by
  cases u with
  | pointer a => cases a with
    | none => exact ⟨h, rfl⟩
    | some a => simp [dry] at h
  | slice a n c => cases a with
    | none => exact ⟨h, rfl⟩
    | some a => simp [dry] at h
  | iface i u => simp [dry] at h
  | _ => exact ⟨h, rfl⟩
theorem cv0_sound (hU : Upd E h0 ρ ρ') {u u0 v : Value} (h : cv0 E h0 n0 u u0 = true) (k : @V0 (thOf ρ W0) r u v) : @V0 (thOf ρ' W0) (r.take n0) u0 v := by
  unfold cv0 at h
  split at h
  · rename_i g i
    split at h
    · rename_i hg hi hok
      have hg : g < 16 := by simpa [Nat.blt_eq] using hg
      have hi : i < h0 := by simpa [Nat.blt_eq] using hi
      have hde : @De (thOf ρ W0) u v := by
        unfold okTag at hok
        cases u <;> first
          | exact k
          | (rename_i a n c; cases a <;> first | exact k | cases hok)
          | cases hok
      have ht := @okTag_spec (thOf ρ W0) (ts_of ρ W0) _ _ _ hok hde
      have key : ρ' i = v → @V0 (thOf ρ' W0) (r.take n0) (L g i) v := by
        intro e
        have := @let_de ρ' W0 g i hg (by rw [e]; exact ht)
        rw [e] at this
        exact this
      have hu := hU i hi
      unfold upd at hu
      split at h
      · rename_i e he
        rw [he] at hu
        have := veq_eq h
        subst this
        exact key (hu.trans (de_dn hde))
      · rename_i he
        rw [he] at hu
        have := veq_eq h
        subst this
        have h1 : v = dn ρ (L g i) := hde
        have h2 : dn ρ' (L g i) = dn ρ (L g i) := by
          show dn ρ' (.iface g (.int .u64 (.ofNat i))) = dn ρ (.iface g (.int .u64 (.ofNat i)))
          rw [dn_let, dn_let]
          have e : (Int.ofNat i).toNat = i := rfl
          rw [e, hu]
        show v = dn ρ' (L g i)
        rw [h2]
        exact h1
    · cases h
  · rename_i b
    split at h
    · rename_i a
      split at h
      · rename_i ha
        obtain ⟨c, rfl, hc⟩ := k
        exact ⟨c, rfl, ar_cv ha h hc⟩
      · cases h
    · cases h
  · rename_i b n' c'
    split at h
    · rename_i a n c
      split at h
      · rename_i ha hn hc hb
        obtain ⟨q, cc, rfl, hq, hcap⟩ := k
        have hn := Nat.eq_of_beq_eq_true hn
        have hc := Nat.eq_of_beq_eq_true hc
        subst hn hc
        have ea := aeq_eq ha
        subst ea
        refine ⟨q, cc, rfl, ⟨take_get hq.1 (by simpa [Nat.blt_eq] using hb), hq.2⟩, ?_⟩
        rcases hcap with hcap | ⟨h1, h2, h3⟩
        · exact .inl hcap
        · refine .inr ⟨h1, ?_, h3⟩
          split at h
          · rename_i hlt
            have : c < K := by simpa [Nat.blt_eq] using hlt
            omega
          · exact take_get h2 (by simpa [Nat.blt_eq] using h)
      · cases h
    · cases h
  · split at h
    · rename_i hd
      have := veq_eq h
      subst this
      have hv : v = u := @dry_eq (thOf ρ W0) r u v (@V0.up (thOf ρ W0) r u v k) hd
      subst hv
      exact @dry_V0 (thOf ρ' W0) _ _ hd
    · cases h
theorem cvL_sound {R : Value → Value → Bool} {S T : Value → Value → Prop} (hR : ∀ u u0 v, R u u0 = true → S u v → T u0 v) : ∀ (l l0 l' : List Value), cvL R l l0 = true → All S l.toArray l'.toArray → All T l0.toArray l'.toArray := by
  intro l
  induction l with
  | nil =>
    intro l0 l' h k
    cases l0 with
    | nil =>
      have : l' = [] := by simpa using k.1.symm
      subst this
      exact All.nil
    | cons => cases h
  | cons x l ih =>
    intro l0 l' h k
    cases l0 with
    | nil => cases h
    | cons y r =>
      unfold cvL at h
      split at h
      · rename_i hxy
        obtain ⟨z, l2, e, hz, hl⟩ := k.cons
        injection e with e
        subst e
        have h2 := ih r l2 h hl
        refine ⟨by simpa using h2.1, fun i u v hu hv => ?_⟩
        cases i with
        | zero =>
          simp at hu hv
          subst hu hv
          exact hR _ _ _ hxy hz
        | succ i => exact h2.2 i u v (by simpa using hu) (by simpa using hv)
      · cases h
theorem cvA_sound {R : Value → Value → Bool} {S T : Value → Value → Prop} (hR : ∀ u u0 v, R u u0 = true → S u v → T u0 v) {a a0 a' : Array Value} (h : cvL R a.toList a0.toList = true) (k : All S a a') : All T a0 a' := by
  have := cvL_sound hR a.toList a0.toList a'.toList h (by simpa using k)
  simpa using this
theorem cv1_sound (hU : Upd E h0 ρ ρ') {u u0 v : Value} (h : cv1 E h0 n0 u u0 = true) (k : @V1 (thOf ρ W0) r u v) : @V1 (thOf ρ' W0) (r.take n0) u0 v := by
  unfold cv1 at h
  split at h
  · rename_i f a b g c d
    split at h
    · rename_i hf ha
      have hf := Nat.eq_of_beq_eq_true hf
      subst hf
      obtain ⟨a', b', rfl, h1, h2⟩ := k
      exact ⟨a', b', rfl, cvA_sound (S := @V0 (thOf ρ W0) r) (T := @V0 (thOf ρ' W0) (r.take n0)) (fun _ _ _ => cv0_sound hU) ha h1, cvA_sound (S := @V0 (thOf ρ W0) r) (T := @V0 (thOf ρ' W0) (r.take n0)) (fun _ _ _ => cv0_sound hU) h h2⟩
    · cases h
  · rename_i hn
    by_cases hf : ∃ f a b, u = .func f a b
    · exfalso
      obtain ⟨f, a, b, rfl⟩ := hf
      have hv : ∀ x, veq (.func f a b) x = false := fun x => by cases x <;> rfl
      unfold cv0 at h
      split at h
      · split at h
        · rename_i hok
          cases hok
        · cases h
      · cases h
      · cases h
      · rw [hv] at h
        split at h <;> cases h
    · have k0 : @V0 (thOf ρ W0) r u v := by
        unfold V1 at k
        split at k
        · exact absurd ⟨_, _, _, rfl⟩ hf
        · exact k
      exact @V0.up (thOf ρ' W0) _ _ _ (cv0_sound hU h k0)
theorem cv0_agg (a : Array Value) (u0 : Value) : cv0 E h0 n0 (.agg a) u0 = false := by
  unfold cv0
  split
  · split
    · rename_i hok
      cases hok
    · rfl
  · rfl
  · rfl
  · rfl
theorem cv2_sound (hU : Upd E h0 ρ ρ') {u u0 v : Value} (h : cv2 E h0 n0 u u0 = true) (k : @V2 (thOf ρ W0) r u v) : @V2 (thOf ρ' W0) (r.take n0) u0 v := by
  unfold cv2 at h
  split at h
  · obtain ⟨a', rfl, h1⟩ := k
    exact ⟨a', rfl, cvA_sound (S := @V1 (thOf ρ W0) r) (T := @V1 (thOf ρ' W0) (r.take n0)) (fun _ _ _ => cv1_sound hU) h h1⟩
  · rename_i hn
    by_cases hf : ∃ a, u = .agg a
    · exfalso
      obtain ⟨a, rfl⟩ := hf
      have : cv1 E h0 n0 (.agg a) u0 = cv0 E h0 n0 (.agg a) u0 := by unfold cv1; rfl
      rw [this, cv0_agg] at h
      cases h
    · have k1 : @V1 (thOf ρ W0) r u v := by
        unfold V2 at k
        split at k
        · exact absurd ⟨_, rfl⟩ hf
        · exact k
      exact @V1.up (thOf ρ' W0) _ _ _ (cv1_sound hU h k1)
theorem cv3_sound (hU : Upd E h0 ρ ρ') {u u0 v : Value} (h : cv3 E h0 n0 u u0 = true) (k : @V3 (thOf ρ W0) r u v) : @V3 (thOf ρ' W0) (r.take n0) u0 v := by
  unfold cv3 at h
  split at h
  · trivial
  · split at h
    · obtain ⟨a', rfl, h1⟩ := k
      exact ⟨a', rfl, cvA_sound (S := @V2 (thOf ρ W0) r) (T := @V2 (thOf ρ' W0) (r.take n0)) (fun _ _ _ => cv2_sound hU) h h1⟩
    · cases h
  · rename_i h1 h2
    split at h
    · rename_i hn
      exact @V3.of2 (thOf ρ' W0) _ _ _ (fun a e => h2 a e) (cv2_sound hU h (@V3.nt (thOf ρ W0) _ _ _ k hn))
    · cases h
end
/-- frames -/
def lefT : Tr → Tr
  | .leaf u => .leaf u
  | .node a _ => a
def rigT : Tr → Tr
  | .leaf u => .leaf u
  | .node _ b => b
noncomputable def cvT (E : Es) (h0 n0 : Nat) : Nat → Tr → Tr → Bool
  | 0, t, t0 => cv3 E h0 n0 (t.get []) (t0.get [])
  | d + 1, t, t0 => match cvT E h0 n0 d (lefT t) (lefT t0) with
    | true => cvT E h0 n0 d (rigT t) (rigT t0)
    | false => false
theorem get_lef (t : Tr) (p : List Bool) : t.get (false :: p) = (lefT t).get p := by
  cases t with
  | leaf u =>
    show u = (Tr.leaf u).get p
    rw [Tr.get_leaf]
  | node a b => rfl
theorem get_rig (t : Tr) (p : List Bool) : t.get (true :: p) = (rigT t).get p := by
  cases t with
  | leaf u =>
    show u = (Tr.leaf u).get p
    rw [Tr.get_leaf]
  | node a b => rfl
theorem cvT_get {E : Es} {h0 n0 : Nat} : ∀ (d : Nat) (t t0 : Tr), cvT E h0 n0 d t t0 = true → ∀ p : List Bool, p.length = d → cv3 E h0 n0 (t.get p) (t0.get p) = true
  | 0, t, t0, h, p, hp => by
    have : p = [] := List.eq_nil_of_length_eq_zero hp
    subst this
    exact h
  | d + 1, t, t0, h, [], hp => by simp at hp
  | d + 1, t, t0, h, b :: p, hp => by
    unfold cvT at h
    split at h
    · rename_i h1
      cases b with
      | false =>
        rw [get_lef, get_lef]
        exact cvT_get d _ _ h1 p (by simpa using hp)
      | true =>
        rw [get_rig, get_rig]
        exact cvT_get d _ _ h p (by simpa using hp)
    · cases h
/-- memories -/
def cvB (E : Es) (h0 n0 : Nat) (l : List Bk) : List Bk → Bool
  | [] => true
  | x0 :: r => match Nat.blt x0.i n0, find l x0.i with
    | true, some x => match Nat.beq x.T x0.T, x.ex, x0.ex, x.ro, x0.ro, cvL (cv1 E h0 n0) x.c.toList x0.c.toList with
      | true, true, true, true, true, true => cvB E h0 n0 l r
      | true, true, true, false, false, true => cvB E h0 n0 l r
      | true, false, false, false, false, true => match Nat.blt (x0.i + 1) n0 with
        | true => cvB E h0 n0 l r
        | false => false
      | _, _, _, _, _, _ => false
    | _, _ => false
def cvM (E : Es) (h0 G : Nat) (m m0 : AM) : Bool := match Nat.ble G m0.n, Nat.ble m0.n m.n with
  | true, true => cvB E h0 m0.n m.bs m0.bs
  | _, _ => false
section
variable {E : Es} {h0 : Nat} {ρ ρ' : Nat → Value} {W0 : World} {P : Program} {G : Nat} {W : World} {r : List Nat}
theorem cvB_spec {n0 : Nat} {l : List Bk} : ∀ {q : List Bk}, cvB E h0 n0 l q = true → ∀ i x0, find q i = some x0 → i < n0 ∧ ∃ x, find l i = some x ∧ x.T = x0.T ∧ x.ex = x0.ex ∧ x.ro = x0.ro ∧ cvL (cv1 E h0 n0) x.c.toList x0.c.toList = true ∧ (x0.ex = false → x0.i + 1 < n0) ∧ x.i = x0.i
  | [], _, i, x0, hf => by cases hf
  | y :: q, h, i, x0, hf => by
    unfold cvB at h
    split at h
    · rename_i x hlt hx
      have hlt : y.i < n0 := by simpa [Nat.blt_eq] using hlt
      have tail : cvB E h0 n0 l q = true → find (y :: q) i = some x0 → y.i ≠ i → i < n0 ∧ ∃ x, find l i = some x ∧ x.T = x0.T ∧ x.ex = x0.ex ∧ x.ro = x0.ro ∧ cvL (cv1 E h0 n0) x.c.toList x0.c.toList = true ∧ (x0.ex = false → x0.i + 1 < n0) ∧ x.i = x0.i := by
        intro hq hf hne
        unfold find at hf
        cases hb : Nat.beq y.i i with
        | true => exact absurd (Nat.eq_of_beq_eq_true hb) hne
        | false =>
          rw [hb] at hf
          exact cvB_spec hq i x0 hf
      have head : y.i = i → x0 = y := by
        intro e
        unfold find at hf
        have : Nat.beq y.i i = true := by rw [e]; exact Nat.beq_refl i
        rw [this] at hf
        injection hf with hf
        exact hf.symm
      have hxi := find_i hx
      by_cases hyi : y.i = i
      · have := head hyi
        subst this
        subst hyi
        refine ⟨hlt, x, hx, ?_⟩
        split at h
        · rename_i k1 k2 k3 k4 k5 k6
          exact ⟨Nat.eq_of_beq_eq_true k1, by rw [k2, k3], by rw [k4, k5], k6, (fun e => (by rw [k3] at e; cases e)), hxi⟩
        · rename_i k1 k2 k3 k4 k5 k6
          exact ⟨Nat.eq_of_beq_eq_true k1, by rw [k2, k3], by rw [k4, k5], k6, (fun e => (by rw [k3] at e; cases e)), hxi⟩
        · rename_i k1 k2 k3 k4 k5 k6
          split at h
          · rename_i k7
            exact ⟨Nat.eq_of_beq_eq_true k1, by rw [k2, k3], by rw [k4, k5], k6, (fun _ => (by simpa [Nat.blt_eq] using k7)), hxi⟩
          · cases h
        · cases h
      · split at h
        · exact tail h hf hyi
        · exact tail h hf hyi
        · split at h
          · exact tail h hf hyi
          · cases h
        · cases h
    · cases h
theorem cvM_sound (hU : Upd E h0 ρ ρ') {m m0 : AM} {w : World} (h : cvM E h0 G m m0 = true) (hw : @Wd (thOf ρ W0) P G W r m w) : @Wd (thOf ρ' W0) P G W (r.take m0.n) m0 w := by
  letI := thOf ρ W0
  unfold cvM at h
  split at h
  · rename_i h1 h2
    have h1 := Nat.le_of_ble_eq_true h1
    have h2 := Nat.le_of_ble_eq_true h2
    have hn := hw.n
    refine @Wd.mk (thOf ρ' W0) _ _ _ _ _ _ hw.low (by rw [List.length_take]; omega) (fun i hi => take_get (hw.g i hi) (by omega)) (fun i x0 hx => ?_) (fun i j b x y hx hy hi hj => ?_) (@Low.mk (thOf ρ' W0) w hw.low2.os hw.low2.tape hw.low2.output hw.low2.size hw.low2.block) (fun i b x0 hx hro hi => ?_)
    · obtain ⟨hi, x, hx', e1, e2, e3, e4, e5, e6⟩ := cvB_spec h i x0 hx
      obtain ⟨b, c', g1, g2, g3, g4⟩ := hw.at_ i x hx'
      refine ⟨b, c', take_get g1 hi, by rw [← e3]; exact g2, by rw [← e1]; exact g3, ?_⟩
      obtain ⟨p1, p2, p3, p4⟩ := g4
      have hlen : x.c.size = x0.c.size := by
        have : ∀ (l q : List Value), cvL (cv1 E h0 m0.n) l q = true → l.length = q.length := by
          intro l
          induction l with
          | nil => intro q hq; cases q with
            | nil => rfl
            | cons => cases hq
          | cons z l ih => intro q hq; cases q with
            | nil => cases hq
            | cons z' q =>
              unfold cvL at hq
              split at hq
              · simp [ih q hq]
              · cases hq
        simpa using this _ _ e4
      refine ⟨by omega, by rw [← e2, ← hlen]; exact p2, fun hex => ?_, ?_⟩
      · obtain ⟨q, cap, a1, a2, a3⟩ := p3 (by rw [e2]; exact hex)
        exact ⟨q, cap, by rw [← e1]; exact a1, take_get (by rw [← e6]; exact a2) (e5 hex), a3⟩
      · have hsub : All (@V1 (thOf ρ W0) r) x.c (c'.extract 0 x.c.size) := by
          refine ⟨by simp; omega, fun k u v hu hv => ?_⟩
          have hk := (Array.getElem?_eq_some_iff.1 hu).1
          rw [Array.getElem?_extract] at hv
          split at hv
          · exact p4 k u v hu (by simpa using hv)
          · cases hv
        have hall := cvA_sound (S := @V1 (thOf ρ W0) r) (T := @V1 (thOf ρ' W0) (r.take m0.n)) (fun _ _ _ => cv1_sound hU) e4 hsub
        intro k u v hu hv
        have hk := (Array.getElem?_eq_some_iff.1 hu).1
        refine hall.2 k u v hu ?_
        rw [Array.getElem?_extract, if_pos (by omega)]
        simpa using hv
    · obtain ⟨hi0, x', hx', -⟩ := cvB_spec h i x hx
      obtain ⟨hj0, y', hy', -⟩ := cvB_spec h j y hy
      have g1 : r[i]? = some b := by
        rw [List.getElem?_take, if_pos hi0] at hi
        exact hi
      have g2 : r[j]? = some b := by
        rw [List.getElem?_take, if_pos hj0] at hj
        exact hj
      exact hw.inj i j b x' y' hx' hy' g1 g2
    · obtain ⟨hi0, x', hx', -, -, e3, -⟩ := cvB_spec h i x0 hx
      have g1 : r[i]? = some b := by
        rw [List.getElem?_take, if_pos hi0] at hi
        exact hi
      exact hw.opn i b x' hx' (by rw [e3]; exact hro) g1
  · cases h
theorem cvT_sound (hU : Upd E h0 ρ ρ') {n0 n : Nat} {t t0 : Tr} {b : Act} (h : cvT E h0 n0 (dpt n) t t0 = true) (ha : @AcT (thOf ρ W0) n r t b) : @AcT (thOf ρ' W0) n (r.take n0) t0 b := by
  letI := thOf ρ W0
  refine @AcT.mk (thOf ρ' W0) _ _ _ _ ha.size ha.small ha.d (fun i => ?_)
  have hi := ha.at_ i
  unfold Tr.at_ at hi ⊢
  split
  · rename_i hlt
    rw [hlt] at hi
    exact cv3_sound hU (cvT_get _ _ _ h _ (bits_len _ _)) hi
  · rename_i hlt
    rw [hlt] at hi
    obtain ⟨a', e, ha'⟩ := hi
    have : a' = #[] := by simpa using ha'.1.symm
    subst this
    exact ⟨#[], e, All.nil⟩
end
end Go.Sx
