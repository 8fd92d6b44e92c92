/-
  RUNS RECKONED AHEAD, part one: values with numbered blocks, the relation to real ones, an interpreter of the model's actions over numbered blocks, and its soundness. By an AI agent.
-/
import Derived.Calls
import Derived.Orders
import Derived.KernelRfl
namespace Go.Sx

/-- what the letters and the terms over them stand for -/
class Th where
  val : Nat → Value → Value
  one : ∀ i u, (∀ a, val i u ≠ .agg a) ∧ (∀ a, val i u ≠ .tuple a)
  W : World
  S : Nat → Prop
variable [Th]

/-- an address with a numbered block, and the real one -/
def AR (r : List Nat) (a b : Addr) : Prop := r[a.block]? = some b.block ∧ b.off = a.off ∧ b.spot = a.spot
/-- one cell's value without an address -/
def dry : Value → Bool
  | .bool _ | .int _ _ | .string _ | .pointer none | .slice none _ _ | .nilFunc | .nilIface => true
  | .func _ a b => a.isEmpty && b.isEmpty
  | _ => false
/-- from here on a capacity is a number of the list -/
def K : Nat := 18446744073709551616
/-- a capacity, and the real one: what append chose is not known, but has a number -/
def CapR (r : List Nat) (n c c' : Nat) : Prop := (c < K ∧ c' = c) ∨ (K ≤ c ∧ r[c - K]? = some c' ∧ n ≤ c' ∧ c' ≤ 9223372036854775807)
/-- an empty slice whose capacity is not known: its offset is not told -/
def AR0 (r : List Nat) (n c : Nat) (a b : Addr) : Prop := r[a.block]? = some b.block ∧ b.spot = a.spot ∧ (b.off = a.off ∨ (n = 0 ∧ K ≤ c))
omit [Th] in
theorem AR.of {r : List Nat} {n c : Nat} {a b : Addr} (h : AR r a b) : AR0 r n c a b := ⟨h.1, h.2.2, .inl h.2.1⟩
omit [Th] in
theorem AR0.ar {r : List Nat} {n c : Nat} {a b : Addr} (h : AR0 r n c a b) (k : 0 < n ∨ c < K) : AR r a b := ⟨h.1, by rcases h.2.2 with h | ⟨h1, h2⟩ <;> omega, h.2.1⟩
/-- values that hold addresses of their own at most -/
def V0 (r : List Nat) : Value → Value → Prop
  | .pointer (some a), v => ∃ b, v = .pointer (some b) ∧ AR r a b
  | .slice (some a) n c, v => ∃ b c', v = .slice (some b) n c' ∧ AR0 r n c a b ∧ CapR r n c c'
  | .iface i u, v => v = Th.val i u
  | u, v => dry u = true ∧ v = u
def All (R : Value → Value → Prop) (xs ys : Array Value) : Prop := xs.size = ys.size ∧ ∀ (i : Nat) x y, xs[i]? = some x → ys[i]? = some y → R x y
/-- no empty slice of unknown capacity -/
def fixB : Value → Bool
  | .slice (some _) n c => Nat.blt 0 n || Nat.blt c K
  | _ => true
omit [Th] in
theorem fixB_or {a : Addr} {n c : Nat} (h : fixB (.slice (some a) n c) = true) : 0 < n ∨ c < K := by
  have h : (Nat.blt 0 n || Nat.blt c K) = true := h
  rw [Bool.or_eq_true] at h
  rcases h with h | h
  · exact .inl (by simpa [Nat.blt_eq] using h)
  · exact .inr (by simpa [Nat.blt_eq] using h)
/-- the value of one cell -/
def V1 (r : List Nat) : Value → Value → Prop
  | .func f a b, v => ∃ a' b', v = .func f a' b' ∧ All (V0 r) a a' ∧ All (V0 r) b b'
  | u, v => V0 r u v
def V2 (r : List Nat) : Value → Value → Prop
  | .agg a, v => ∃ a', v = .agg a' ∧ All (V1 r) a a'
  | u, v => V1 r u v
def V3 (r : List Nat) : Value → Value → Prop
  | .tuple a, v => ∃ a', v = .tuple a' ∧ All (V2 r) a a'
  | .map (some _), _ => True
  | u, v => V2 r u v

omit [Th] in
theorem All.mono {R S : Value → Value → Prop} (h : ∀ u v, R u v → S u v) {xs ys : Array Value} (a : All R xs ys) : All S xs ys := ⟨a.1, fun i x y hx hy => h _ _ (a.2 i x y hx hy)⟩
omit [Th] in
theorem All.get {R : Value → Value → Prop} {xs ys : Array Value} (a : All R xs ys) {i : Nat} {x : Value} (h : xs[i]? = some x) : ∃ y, ys[i]? = some y ∧ R x y := by
  have hi : i < xs.size := (Array.getElem?_eq_some_iff.1 h).1
  have hj : i < ys.size := a.1 ▸ hi
  exact ⟨ys[i], Array.getElem?_eq_getElem hj, a.2 i x _ h (Array.getElem?_eq_getElem hj)⟩
omit [Th] in
theorem All.none {R : Value → Value → Prop} {xs ys : Array Value} (a : All R xs ys) {i : Nat} (h : xs[i]? = Option.none) : ys[i]? = Option.none := by
  rw [Array.getElem?_eq_none_iff] at h ⊢
  rw [← a.1]
  exact h
omit [Th] in
theorem All.set {R : Value → Value → Prop} {xs ys : Array Value} (a : All R xs ys) (i : Nat) {u v : Value} (h : R u v) : All R (xs.setIfInBounds i u) (ys.setIfInBounds i v) := by
  refine ⟨by simpa using a.1, fun j x y hx hy => ?_⟩
  rw [Array.getElem?_setIfInBounds] at hx hy
  by_cases hj : i = j
  · subst hj
    by_cases hs : i < xs.size
    · have hs' : i < ys.size := a.1 ▸ hs
      simp [hs] at hx
      simp [hs'] at hy
      subst hx hy
      exact h
    · simp [hs] at hx
  · simp [hj] at hx hy
    exact a.2 j x y hx hy
omit [Th] in
theorem All.nil {R : Value → Value → Prop} : All R #[] #[] := ⟨rfl, fun i x y h => by simp at h⟩
omit [Th] in
theorem All.push {R : Value → Value → Prop} {xs ys : Array Value} (a : All R xs ys) {u v : Value} (h : R u v) : All R (xs.push u) (ys.push v) := by
  refine ⟨by simpa using a.1, fun j x y hx hy => ?_⟩
  rw [Array.getElem?_push] at hx hy
  rw [← a.1] at hy
  split at hx
  · rename_i hj
    simp [hj] at hy
    injection hx with hx
    subst hx hy
    exact h
  · rename_i hj
    simp [hj] at hy
    exact a.2 j x y hx hy
omit [Th] in
theorem All.append {R : Value → Value → Prop} {xs ys zs us : Array Value} (a : All R xs ys) (b : All R zs us) : All R (xs ++ zs) (ys ++ us) := by
  refine ⟨by simp [a.1, b.1], fun j x y hx hy => ?_⟩
  rw [Array.getElem?_append] at hx hy
  rw [← a.1] at hy
  split at hx
  · rename_i hj
    simp [hj] at hy
    exact a.2 j x y hx hy
  · rename_i hj
    simp [hj] at hy
    exact b.2 _ x y hx hy
omit [Th] in
theorem All.extract {R : Value → Value → Prop} {xs ys : Array Value} (a : All R xs ys) (i j : Nat) : All R (xs.extract i j) (ys.extract i j) := by
  refine ⟨by simp [a.1], fun k x y hx hy => ?_⟩
  rw [Array.getElem?_extract] at hx hy
  rw [← a.1] at hy
  split at hx
  · rename_i hk
    simp [hk] at hy
    exact a.2 _ x y hx hy
  · cases hx
omit [Th] in
theorem All.same {R : Value → Value → Prop} {xs : Array Value} (h : ∀ x ∈ xs, R x x) : All R xs xs := ⟨rfl, fun i x y hx hy => by
  rw [hx] at hy
  injection hy with hy
  subst hy
  exact h x (Array.mem_of_getElem? hx)⟩
omit [Th] in
theorem All.map {R : Value → Value → Prop} {α : Type} {xs : Array α} {f g : α → Value} (h : ∀ x ∈ xs, R (f x) (g x)) : All R (xs.map f) (xs.map g) := by
  refine ⟨by simp, fun i x y hx hy => ?_⟩
  rw [Array.getElem?_map] at hx hy
  cases hz : xs[i]? with
  | none => rw [hz] at hx; cases hx
  | some z =>
    rw [hz] at hx hy
    simp at hx hy
    subst hx hy
    exact h z (Array.mem_of_getElem? hz)

/-- later numbers -/
def Ext (r s : List Nat) : Prop := ∃ t, s = r ++ t
omit [Th] in
theorem Ext.refl (r : List Nat) : Ext r r := ⟨[], by simp⟩
omit [Th] in
theorem Ext.trans {r s t : List Nat} (h : Ext r s) (k : Ext s t) : Ext r t := by
  obtain ⟨a, rfl⟩ := h
  obtain ⟨b, rfl⟩ := k
  exact ⟨a ++ b, by simp⟩
omit [Th] in
theorem Ext.snoc (r : List Nat) (b : Nat) : Ext r (r ++ [b]) := ⟨[b], rfl⟩
omit [Th] in
theorem Ext.get {r s : List Nat} (h : Ext r s) {i b : Nat} (hi : r[i]? = some b) : s[i]? = some b := by
  obtain ⟨t, rfl⟩ := h
  rw [List.getElem?_append_left (List.getElem?_eq_some_iff.1 hi).1]
  exact hi
omit [Th] in
theorem AR.ext {r s : List Nat} (h : Ext r s) {a b : Addr} (k : AR r a b) : AR s a b := ⟨h.get k.1, k.2⟩
omit [Th] in
theorem AR0.ext {r s : List Nat} (h : Ext r s) {n c : Nat} {a b : Addr} (k : AR0 r n c a b) : AR0 s n c a b := ⟨h.get k.1, k.2⟩
omit [Th] in
theorem CapR.ext {r s : List Nat} (h : Ext r s) {n c c' : Nat} (k : CapR r n c c') : CapR s n c c' := by
  rcases k with k | ⟨k1, k2, k3⟩
  · exact .inl k
  · exact .inr ⟨k1, h.get k2, k3⟩
omit [Th] in
theorem CapR.one {r : List Nat} {n c c1 c2 : Nat} (h : CapR r n c c1) (k : CapR r n c c2) : c2 = c1 := by
  rcases h with ⟨h1, h2⟩ | ⟨h1, h2, _⟩ <;> rcases k with ⟨k1, k2⟩ | ⟨k1, k2, _⟩
  · omega
  · omega
  · omega
  · rw [h2] at k2
    injection k2 with k2
    exact k2.symm
theorem V0.ext {r s : List Nat} (h : Ext r s) {u v : Value} (k : V0 r u v) : V0 s u v := by
  unfold V0 at k ⊢
  split <;> simp_all
  · obtain ⟨b, rfl, hb⟩ := k
    exact ⟨b, rfl, hb.ext h⟩
  · obtain ⟨b, c', hv, hb, hc⟩ := k
    exact ⟨b, c', hv, hb.ext h, hc.ext h⟩
theorem V1.ext {r s : List Nat} (h : Ext r s) {u v : Value} (k : V1 r u v) : V1 s u v := by
  unfold V1 at k ⊢
  split
  · obtain ⟨a, b, rfl, ha, hb⟩ := k
    exact ⟨a, b, rfl, ha.mono fun _ _ => V0.ext h, hb.mono fun _ _ => V0.ext h⟩
  · rename_i hn
    split at k
    · exact absurd rfl (hn _ _ _)
    · exact V0.ext h k
theorem V2.ext {r s : List Nat} (h : Ext r s) {u v : Value} (k : V2 r u v) : V2 s u v := by
  unfold V2 at k ⊢
  split
  · obtain ⟨a, rfl, ha⟩ := k
    exact ⟨a, rfl, ha.mono fun _ _ => V1.ext h⟩
  · rename_i hn
    split at k
    · exact absurd rfl (hn _)
    · exact V1.ext h k
/-- a slot that nobody asks for -/
abbrev wild : Value := .map (some 0)
theorem V3.cases {r : List Nat} {u v : Value} (k : V3 r u v) : (∃ a b, u = .tuple a ∧ v = .tuple b ∧ All (V2 r) a b) ∨ (∃ n, u = .map (some n)) ∨ ((∀ a, u ≠ .tuple a) ∧ (∀ n, u ≠ .map (some n)) ∧ V2 r u v) := by
  unfold V3 at k
  split at k
  · obtain ⟨a, rfl, ha⟩ := k
    exact .inl ⟨_, _, rfl, rfl, ha⟩
  · exact .inr (.inl ⟨_, rfl⟩)
  · rename_i h1 h2
    exact .inr (.inr ⟨fun a e => h1 a e, fun n e => h2 n e, k⟩)
theorem V3.of2 {r : List Nat} {u v : Value} (h1 : ∀ a, u ≠ .tuple a) (k : V2 r u v) : V3 r u v := by
  unfold V3
  split
  · exact absurd rfl (h1 _)
  · trivial
  · exact k
theorem V3.ext {r s : List Nat} (h : Ext r s) {u v : Value} (k : V3 r u v) : V3 s u v := by
  rcases k.cases with ⟨a, b, rfl, rfl, ha⟩ | ⟨n, rfl⟩ | ⟨h1, h2, k⟩
  · exact ⟨b, rfl, ha.mono fun _ _ => V2.ext h⟩
  · trivial
  · exact V3.of2 h1 (V2.ext h k)
theorem V0.up {r : List Nat} {u v : Value} (h : V0 r u v) : V1 r u v := by
  unfold V1
  split
  · rename_i f a b
    simp [V0, dry] at h
    obtain ⟨⟨rfl, rfl⟩, rfl⟩ := h
    exact ⟨_, _, rfl, All.nil, All.nil⟩
  · exact h
theorem V1.notAgg {r : List Nat} {u v : Value} (h : V1 r u v) : (∀ a, u ≠ .agg a) ∧ (∀ a, u ≠ .tuple a) ∧ (∀ a, v ≠ .agg a) ∧ (∀ a, v ≠ .tuple a) := by
  unfold V1 at h
  split at h
  · obtain ⟨a, b, rfl, -, -⟩ := h
    simp
  · unfold V0 at h
    split at h
    · obtain ⟨b, rfl, -⟩ := h
      simp
    · obtain ⟨b, c', rfl, -⟩ := h
      simp
    · rename_i i w _
      obtain ⟨h1, h2⟩ := Th.one i w
      refine ⟨by simp, by simp, fun a e => ?_, fun a e => ?_⟩
      · exact h1 a (h ▸ e)
      · exact h2 a (h ▸ e)
    · obtain ⟨h, rfl⟩ := h
      refine ⟨?_, ?_, ?_, ?_⟩ <;> · intro a e; rw [e] at h; simp [dry] at h
theorem V1.up {r : List Nat} {u v : Value} (h : V1 r u v) : V2 r u v := by
  unfold V2
  split
  · rename_i a
    exact absurd rfl (h.notAgg.1 a)
  · exact h
theorem V2.up {r : List Nat} {u v : Value} (h : V2 r u v) : V3 r u v := by
  refine V3.of2 (fun a e => ?_) h
  subst e
  simp only [V2] at h
  exact absurd rfl (h.notAgg.2.1 a)
end Go.Sx
