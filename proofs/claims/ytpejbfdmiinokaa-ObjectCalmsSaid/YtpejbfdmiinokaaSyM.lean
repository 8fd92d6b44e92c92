/-
  RUNS RECKONED AHEAD: letters by what they stand for. By an AI agent.
-/
import Derived.Test.YtpejbfdmiinokaaSyV
namespace Go.Sx
open Go.RowKit
/-- a value that has the tag, whatever the tag is -/
def dflt (g : Nat) : Value := match g with
  | 0 => .int .i8 0 | 1 => .int .i16 0 | 2 => .int .i32 0 | 3 => .int .i64 0 | 4 => .int .u8 0 | 5 => .int .u16 0 | 6 => .int .u32 0 | 7 => .int .u64 0
  | 8 => .bool false | 9 => .string ⟨#[]⟩ | 10 => .slice none 0 0 | 12 => .string ⟨#[]⟩ | _ => .pointer (some ⟨0, 0, none⟩)
theorem dflt_tag {g : Nat} (h : g ≤ 12) : hasTag g (dflt g) := by
  match g, h with
  | 0, _ => exact ⟨rfl, by decide, by decide⟩
  | 1, _ => exact ⟨rfl, by decide, by decide⟩
  | 2, _ => exact ⟨rfl, by decide, by decide⟩
  | 3, _ => exact ⟨rfl, by decide, by decide⟩
  | 4, _ => exact ⟨rfl, by decide, by decide⟩
  | 5, _ => exact ⟨rfl, by decide, by decide⟩
  | 6, _ => exact ⟨rfl, by decide, by decide⟩
  | 7, _ => exact ⟨rfl, by decide, by decide⟩
  | 8, _ => exact rfl
  | 9, _ => exact .inl ⟨rfl, by decide⟩
  | 10, _ => exact ⟨rfl, by decide, fun _ => rfl, fun p h => by cases h⟩
  | 11, _ => exact ⟨rfl, rfl⟩
  | 12, _ => exact .inr ⟨rfl, by decide⟩
  | n + 13, h => omega
open Classical in
noncomputable def fit (g : Nat) (v : Option Value) : Value := match v with
  | some v => if hasTag g v then v else dflt g
  | none => dflt g
theorem fit_tag {g : Nat} (h : g ≤ 12) (v : Option Value) : hasTag g (fit g v) := by
  unfold fit
  split
  · split
    · assumption
    · exact dflt_tag h
  · exact dflt_tag h
theorem fit_eq {g : Nat} {v : Value} (h : hasTag g v) : fit g (some v) = v := if_pos h
theorem dflt_one (g : Nat) : (∀ a, dflt g ≠ .agg a) ∧ (∀ a, dflt g ≠ .tuple a) := by
  unfold dflt
  split <;> exact ⟨fun a h => (by cases h), fun a h => (by cases h)⟩
theorem fit_one (g : Nat) (v : Option Value) : (∀ a, fit g v ≠ .agg a) ∧ (∀ a, fit g v ≠ .tuple a) := by
  unfold fit
  split
  · split
    · rename_i h
      refine ⟨fun a e => ?_, fun a e => ?_⟩ <;> subst e <;> exact h
    · exact dflt_one g
  · exact dflt_one g
/-- what a term stands for, the letters being given -/
noncomputable def dn (ρ : Nat → Value) : Value → Value
  | .iface c (.int _ n) => fit (c % 16) (some (ρ n.toNat))
  | .iface c (.agg ⟨[x, y]⟩) => fit (c % 16) (sem2 (c / 16) (dn ρ x) (dn ρ y))
  | .iface c (.iface d u) => fit (c % 16) (sem1 (c / 16) (dn ρ (.iface d u)))
  | .iface c _ => dflt (c % 16)
  | v => v
termination_by v => SizeOf.sizeOf v
theorem dn_let (ρ : Nat → Value) (c : Nat) (k : IntKind) (n : Int) : dn ρ (.iface c (.int k n)) = fit (c % 16) (some (ρ n.toNat)) := by rw [dn]
theorem dn_two (ρ : Nat → Value) (c : Nat) (x y : Value) : dn ρ (.iface c (.agg ⟨[x, y]⟩)) = fit (c % 16) (sem2 (c / 16) (dn ρ x) (dn ρ y)) := by rw [dn]
theorem dn_un (ρ : Nat → Value) (c d : Nat) (u : Value) : dn ρ (.iface c (.iface d u)) = fit (c % 16) (sem1 (c / 16) (dn ρ (.iface d u))) := by rw [dn]
theorem dn_dry (ρ : Nat → Value) {v : Value} (h : dry v = true) : dn ρ v = v := by
  cases v with
  | iface c u => cases h
  | _ => rw [dn.eq_def]
theorem dn_tok (ρ : Nat → Value) (c : Nat) (u : Value) : (∃ o, dn ρ (.iface c u) = fit (c % 16) o) := by
  by_cases h1 : ∃ k n, u = .int k n
  · obtain ⟨k, n, rfl⟩ := h1
    exact ⟨_, dn_let ρ c k n⟩
  by_cases h2 : ∃ x y, u = .agg ⟨[x, y]⟩
  · obtain ⟨x, y, rfl⟩ := h2
    exact ⟨_, dn_two ρ c x y⟩
  by_cases h3 : ∃ d w, u = .iface d w
  · obtain ⟨d, w, rfl⟩ := h3
    exact ⟨_, dn_un ρ c d w⟩
  · refine ⟨none, ?_⟩
    rw [dn]
    · rfl
    · intro k n e; exact h1 ⟨k, n, e⟩
    · intro x y e; exact h2 ⟨x, y, e⟩
    · intro d w e; exact h3 ⟨d, w, e⟩
/-- the letters' values, the first world -/
@[reducible] noncomputable def thOf (ρ : Nat → Value) (W : World) : Th where
  val c u := dn ρ (.iface c u)
  one c u := by
    obtain ⟨o, h⟩ := dn_tok ρ c u
    rw [h]
    exact fit_one _ _
  W := W
  S := fun _ => False
theorem ts_of (ρ : Nat → Value) (W : World) : @Ts (thOf ρ W) := by
  letI := thOf ρ W
  have hD : ∀ x X, De x X → dn ρ x = X := fun x X h => by
    cases x with
    | iface c u => exact Eq.symm h
    | _ => rw [dn_dry ρ h.1]; exact h.2.symm
  refine ⟨fun c u h => ?_, fun c x y X Y R hx hy h1 h2 => ?_, fun c d u R h1 h2 => ?_⟩
  · obtain ⟨o, e⟩ := dn_tok ρ c u
    show hasTag (c % 16) (dn ρ (.iface c u))
    rw [e]
    exact fit_tag h o
  · show dn ρ (.iface c (.agg ⟨[x, y]⟩)) = R
    rw [dn_two, hD x X hx, hD y Y hy, h1, fit_eq h2]
  · show dn ρ (.iface c (.iface d u)) = R
    have h1 : sem1 (c / 16) (dn ρ (.iface d u)) = some R := h1
    rw [dn_un, h1, fit_eq h2]
theorem at_of (ρ : Nat → Value) (W : World) : @At (thOf ρ W) W := by
  letI := thOf ρ W
  exact ⟨⟨rfl, rfl, rfl, Nat.le_refl _, fun _ _ _ => rfl⟩⟩
/-- a letter stands for its value -/
theorem let_de {ρ : Nat → Value} {W : World} {g i : Nat} (hg : g < 16) (h : hasTag g (ρ i)) : @De (thOf ρ W) (L g i) (ρ i) := by
  show ρ i = dn ρ (.iface g (.int .u64 (.ofNat i)))
  rw [dn_let]
  have e : (Int.ofNat i).toNat = i := rfl
  have e2 : g % 16 = g := Nat.mod_eq_of_lt hg
  rw [e, e2, fit_eq h]
end Go.Sx
