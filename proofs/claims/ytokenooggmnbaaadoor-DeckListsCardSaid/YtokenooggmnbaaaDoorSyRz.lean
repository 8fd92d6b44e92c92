/-
  RUNS RECKONED AHEAD: rows of the call's own as rows that are read; one call answered ahead. By an AI agent.
-/
import Derived.Test.YtokenooggmnbaaaDoorSyAm
namespace Go.Sx
open Go.RowKit
theorem flat_get {z : Nat} : ∀ {l : List (List Value)} {k j : Nat} {row : List Value} {v : Value}, (∀ x ∈ l, x.length = z) → l[k]? = some row → row[j]? = some v → l.flatten[k * z + j]? = some v
  | [], k, _, _, _, _, h, _ => by simp at h
  | x :: l, 0, j, row, v, _, h, hv => by
    simp at h
    subst h
    rw [List.flatten_cons, Nat.zero_mul, Nat.zero_add, List.getElem?_append_left (List.getElem?_eq_some_iff.1 hv).1]
    exact hv
  | x :: l, k + 1, j, row, v, hz, h, hv => by
    have h1 := hz x List.mem_cons_self
    rw [List.flatten_cons, List.getElem?_append_right (by rw [h1, Nat.add_mul]; omega), h1, show (k + 1) * z + j - z = k * z + j by rw [Nat.add_mul]; omega]
    exact flat_get (fun y hy => hz y (List.mem_cons_of_mem _ hy)) (by simpa using h) hv
/-- a row of new memory is a row that may be read -/
theorem rowAt_own {w : World} {B : Nat} {e : TypeId} {v : Value} {rows : List (List Value)} {gs : List Nat} (hz : ∀ x ∈ rows, x.length = gs.length) (ht : ∀ row ∈ rows, ∀ (j : Nat) g, gs[j]? = some g → ∃ v, row[j]? = some v ∧ hasTag g v) (h : w.ownsRow B e gs.length v rows.length rows.flatten) : RowAt w gs v rows := by
  rcases h.2 with ⟨rfl, hn⟩ | ⟨g, cap, cur, rfl, hB, hg, hc, hm, -⟩
  · have : rows = [] := List.eq_nil_of_length_eq_zero hn
    subst this
    exact ⟨none, 0, rfl, by decide, fun _ => rfl, fun A hA => by cases hA⟩
  · refine ⟨some ⟨g, 0, none⟩, cap, rfl, by unfold maxLen at hm; omega, fun h => (by cases h), fun A hA => ?_⟩
    injection hA with hA
    subst hA
    refine ⟨fun _ => rfl, fun k row hk => ?_⟩
    have hmem := List.mem_of_getElem? hk
    have hadd : ∀ d : Nat, (⟨g, 0, none⟩ : Addr).add d = ⟨g, d, none⟩ := fun d => by unfold Addr.add; split <;> simp_all
    have hadd2 : ∀ d j : Nat, (⟨g, d, none⟩ : Addr).add j = ⟨g, d + j, none⟩ := fun d j => by unfold Addr.add; split <;> simp_all
    refine ⟨hz row hmem, by rw [hadd]; exact (Array.getElem?_eq_some_iff.1 hg).1, fun j t hj => ?_⟩
    obtain ⟨v, h1, h2⟩ := ht row hmem j t hj
    refine ⟨v, h1, h2, ?_⟩
    have := World.ownsRow.cells h (g := g) rfl (k * gs.length + j) v (flat_get hz hk h1)
    rw [hadd] at this
    rw [hadd, hadd2]
    exact this
theorem ownsRow_tag {w : World} {B : Nat} {e : TypeId} {z n : Nat} {v : Value} {xs : List Value} (h : w.ownsRow B e z v n xs) : hasTag 10 v := by
  rcases h.2 with ⟨rfl, -⟩ | ⟨g, cap, cur, rfl, -, -, h1, h2, -⟩
  · exact ⟨rfl, by decide, fun _ => rfl, fun p h => by cases h⟩
  · refine ⟨rfl, ?_, fun h => (by cases h), fun p h _ => ?_⟩
    · unfold maxLen at h2; omega
    · injection h with h; rw [← h]
theorem rowsOf_z (l : List Int) : ∀ x ∈ rowsOf l, x.length = 1 := fun x hx => by
  unfold rowsOf at hx
  obtain ⟨y, -, rfl⟩ := List.mem_map.1 hx
  rfl
theorem rowsOf_tag {l : List Int} (h : ∀ x ∈ l, -9223372036854775808 ≤ x ∧ x < 9223372036854775808) : ∀ row ∈ rowsOf l, ∀ (j : Nat) g, [3][j]? = some g → ∃ v, row[j]? = some v ∧ hasTag g v := fun row hr j g hj => by
  unfold rowsOf at hr
  obtain ⟨y, hy, rfl⟩ := List.mem_map.1 hr
  cases j with
  | zero =>
    simp at hj
    subst hj
    exact ⟨_, rfl, tag_i64 (h y hy).1 (h y hy).2⟩
  | succ j => simp at hj
/-- one call, answered ahead -/
def envOne (g : FuncId) (as : List Value) (x : Value) : EnvF := fun f args m => match Nat.beq f g, teqM args.toList as with
  | true, true => some (x, m)
  | _, _ => none
theorem envOne_ok {P : Program} {G : Nat} {W : World} {ρ : Nat → Value} {g : FuncId} {as : List Value} {x : Value} (hx : flatV x = true)
    (h : ∀ r w args', @All (@V2 (thOf ρ W) r) as.toArray args' → Below W.heap.size W w → Calls P g args' w fun e w' => e = .returned (dn ρ x) ∧ Below w.heap.size w w') : @EnvOk (thOf ρ W) P G W (envOne g as x) := by
  letI := thOf ρ W
  intro f args m v m' e r w args' ha hw hB'
  unfold envOne at e
  split at e
  · rename_i h1 h2
    injection e with e
    injection e with e1 e2
    subst e1 e2
    have h1 := Nat.eq_of_beq_eq_true h1
    subst h1
    have h2 := teqM_eq h2
    have ha : All (V2 r) as.toArray args' := by
      rw [← h2]
      exact ha
    refine (h r w args' ha hw.low).mono ?_
    rintro X w' ⟨rfl, hb⟩
    exact ⟨_, r, rfl, flatV_V3 hx, hw.below hb⟩
  · cases e
def opsOf : Code → Array Oper
  | .region _ o _ => o
  | _ => #[]
def idOf : Code → Nat
  | .region i _ _ => i
  | _ => 0
end Go.Sx
