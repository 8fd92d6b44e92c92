/-
  RUNS RECKONED AHEAD: letters by what they stand for. By an AI agent.
-/
import Derived.Test.YtokenooggmnbaaaDoorSyI
namespace Go.Sx
open Go.RowKit
variable [Th]
/-- the tests of a run, and its answers -/
inductive T3 where
  | l (v : Value)
  | n (t : Value) (a b : T3)
/-- short words: a letter, a term of two parts, of one part, a number, a text -/
abbrev L (g i : Nat) : Value := .iface g (.int .u64 (.ofNat i))
abbrev B (c : Nat) (x y : Value) : Value := .iface c (.agg ⟨[x, y]⟩)
abbrev U (c : Nat) (x : Value) : Value := .iface c x
abbrev I (n : Int) : Value := .int .i64 n
abbrev S (l : List UInt8) : Value := .string ⟨⟨l⟩⟩
def isBt : Value → Bool
  | .iface c _ => Nat.beq (Nat.mod c 16) 8
  | _ => false
/-- answers that are the same as written -/
def teqL : List Value → List Value → Bool
  | [], [] => true
  | x :: l, y :: r => match teq 40 x y with
    | true => teqL l r
    | false => false
  | _, _ => false
omit [Th] in
theorem teqL_eq : ∀ {l r : List Value}, teqL l r = true → l = r
  | [], [], _ => rfl
  | [], _ :: _, h => by cases h
  | _ :: _, [], h => by cases h
  | x :: l, y :: r, h => by
    unfold teqL at h
    split at h
    · rename_i hx
      rw [teq_eq _ _ _ hx, teqL_eq h]
    · cases h
def teq2 : Value → Value → Bool
  | .agg ⟨l⟩, .agg ⟨r⟩ => teqL l r
  | x, y => teq 40 x y
omit [Th] in
theorem teq2_eq {x y : Value} (h : teq2 x y = true) : x = y := by
  unfold teq2 at h
  split at h
  · rw [teqL_eq h]
  · exact teq_eq _ _ _ h
def teqM : List Value → List Value → Bool
  | [], [] => true
  | x :: l, y :: r => match teq2 x y with
    | true => teqM l r
    | false => false
  | _, _ => false
omit [Th] in
theorem teqM_eq : ∀ {l r : List Value}, teqM l r = true → l = r
  | [], [], _ => rfl
  | [], _ :: _, h => by cases h
  | _ :: _, [], h => by cases h
  | x :: l, y :: r, h => by
    unfold teqM at h
    split at h
    · rename_i hx
      rw [teq2_eq hx, teqM_eq h]
    · cases h
def teq3 : Value → Value → Bool
  | .tuple ⟨l⟩, .tuple ⟨r⟩ => teqM l r
  | x, y => teq2 x y
omit [Th] in
theorem teq3_eq {x y : Value} (h : teq3 x y = true) : x = y := by
  unfold teq3 at h
  split at h
  · rw [teqM_eq h]
  · exact teq2_eq h
def chk (run : Fs → Option Value) : T3 → Fs → Bool
  | .l v, F => match run F with
    | some u => teq3 u v
    | none => false
  | .n t a b, F => match isBt t with
    | true => match chk run a ((t, true) :: F) with
      | true => chk run b ((t, false) :: F)
      | false => false
    | false => false
/-- a call reckoned under decisions -/
noncomputable def runF (P : Program) (G : Nat) (env : Fs → EnvF) (M : List (Value × List Value)) (n : Nat) (l : List Bk) (f : FuncId) (args : Array Value) (F : Fs) : Option Value :=
  match @evCall P (env F) (@evCode ⟨F, M⟩ P G (env F) n) f args ⟨G, l⟩ with
  | some (v, _) => some v
  | none => none
/-- what the tree answers -/
def T3.Out : T3 → Value → Prop
  | .l v, X => ∃ r, V3 r v X
  | .n t a b, X => (De t (.bool true) ∧ a.Out X) ∨ (De t (.bool false) ∧ b.Out X)
section
variable {P : Program} {G : Nat}
theorem bt_bool [Ts] {t : Value} (h : isBt t = true) : De t (.bool true) ∨ De t (.bool false) := by
  unfold isBt at h
  split at h
  · rename_i c u
    have h : c % 16 = 8 := Nat.eq_of_beq_eq_true h
    have ht := Ts.tag c u (Nat.le_trans (Nat.le_of_eq h) (by decide))
    rw [h] at ht
    obtain ⟨b, hb⟩ := hasTag_bool ht
    cases b with
    | true => exact .inl hb.symm
    | false => exact .inr hb.symm
  · cases h
theorem chk_sound [Ts] {run : Fs → Option Value} : ∀ (T : T3) (F : Fs), chk run T F = true → SatL F → ∃ F' v, SatL F' ∧ run F' = some v ∧ ∀ X, (∃ r, V3 r v X) → T.Out X
  | .l v, F, h, hF => by
    unfold chk at h
    split at h
    · rename_i u hu
      have := teq3_eq h
      subst this
      exact ⟨F, u, hF, hu, fun X hX => hX⟩
    · cases h
  | .n t a b, F, h, hF => by
    unfold chk at h
    split at h
    · rename_i ht
      split at h
      · rename_i ha
        rcases bt_bool ht with hd | hd
        · obtain ⟨F', v, h1, h2, h3⟩ := chk_sound a _ ha (fun p hp => by
            rcases List.mem_cons.1 hp with rfl | hp
            · exact hd
            · exact hF p hp)
          exact ⟨F', v, h1, h2, fun X hX => .inl ⟨hd, h3 X hX⟩⟩
        · obtain ⟨F', v, h1, h2, h3⟩ := chk_sound b _ h (fun p hp => by
            rcases List.mem_cons.1 hp with rfl | hp
            · exact hd
            · exact hF p hp)
          exact ⟨F', v, h1, h2, fun X hX => .inr ⟨hd, h3 X hX⟩⟩
      · cases h
    · cases h
/-- a call over letters: its answer is the tree's, nothing that was there has turned -/
theorem reckonedO [Ts] {env : Fs → EnvF} (n : Nat) (hN : NoGo P) (hM : P.follows .mixedOrders = true) {l : List Bk} {f : FuncId} {args args' : Array Value} {T : T3} {F : Fs} {M : List (Value × List Value)}
    (hc : chk (runF P G env M n l f args) T F = true) (hF : SatL F) (hM2 : ∀ p ∈ M, ∃ A, De p.1 (.pointer (some A)) ∧ CellsAt A p.2) (w : World) [At w] (ha : All (V2 (List.range G)) args args') (hE : ∀ F, SatL F → EnvOk P G w (env F)) (hK : Knows G l w) :
    Calls P f args' w fun e w' => ∃ X, e = .returned X ∧ T.Out X ∧ Below w.heap.size w w' := by
  obtain ⟨F', v, h1, h2, h3⟩ := chk_sound T F hc hF
  unfold runF at h2
  split at h2
  · rename_i v1 m' e1
    injection h2 with h2
    subst h2
    letI : Fx := ⟨F', M⟩
    haveI : Sat := ⟨h1, hM2⟩
    refine (evCall_ok (hE F' h1) (evCode_good hN hM (hE F' h1) n).1 f args ⟨G, l⟩ v1 m' e1 (List.range G) w args' ha hK.wd (Nat.le_refl _)).mono ?_
    rintro e w' ⟨v', r', rfl, k1, k2, k3⟩
    exact ⟨v', rfl, h3 v' ⟨r', k1⟩, k3.os, k3.tape, k3.output, k3.size, fun k hk => k3.block k hk fun ⟨i, x, hx, hr, _⟩ => (by rw [(hK.2 i x hx).2.1] at hr; cases hr)⟩
  · cases h2
end
end Go.Sx
namespace Go.Sx
open Go.RowKit
/-- a value that has the tag, whatever the tag is -/
def dflt (g : Nat) : Value := match g with
  | 0 => .int .i8 0 | 1 => .int .i16 0 | 2 => .int .i32 0 | 3 => .int .i64 0 | 4 => .int .u8 0 | 5 => .int .u16 0 | 6 => .int .u32 0 | 7 => .int .u64 0
  | 8 => .bool false | 9 => .string ⟨#[]⟩ | 10 => .slice none 0 0 | 12 => .string ⟨#[]⟩ | _ => .pointer (some ⟨0, 0, none⟩)
theorem dflt_tag {g : Nat} (h : g ≤ 12) : hasTag g (dflt g) := by
  match g, h with
  | 0, _ => exact ⟨rfl, by decide, by decide⟩
  | 1, _ => exact ⟨rfl, by decide, by decide⟩
  | 2, _ => exact ⟨rfl, by decide, by decide⟩
  | 3, _ => exact ⟨rfl, by decide, by decide⟩
  | 4, _ => exact ⟨rfl, by decide, by decide⟩
  | 5, _ => exact ⟨rfl, by decide, by decide⟩
  | 6, _ => exact ⟨rfl, by decide, by decide⟩
  | 7, _ => exact ⟨rfl, by decide, by decide⟩
  | 8, _ => exact rfl
  | 9, _ => exact .inl ⟨rfl, by decide⟩
  | 10, _ => exact ⟨rfl, by decide, fun _ => rfl, fun p h => by cases h⟩
  | 11, _ => exact ⟨rfl, rfl⟩
  | 12, _ => exact .inr ⟨rfl, by decide⟩
  | n + 13, h => omega
open Classical in
noncomputable def fit (g : Nat) (v : Option Value) : Value := match v with
  | some v => if hasTag g v then v else dflt g
  | none => dflt g
theorem fit_tag {g : Nat} (h : g ≤ 12) (v : Option Value) : hasTag g (fit g v) := by
  unfold fit
  split
  · split
    · assumption
    · exact dflt_tag h
  · exact dflt_tag h
theorem fit_eq {g : Nat} {v : Value} (h : hasTag g v) : fit g (some v) = v := if_pos h
theorem dflt_one (g : Nat) : (∀ a, dflt g ≠ .agg a) ∧ (∀ a, dflt g ≠ .tuple a) := by
  unfold dflt
  split <;> exact ⟨fun a h => (by cases h), fun a h => (by cases h)⟩
theorem fit_one (g : Nat) (v : Option Value) : (∀ a, fit g v ≠ .agg a) ∧ (∀ a, fit g v ≠ .tuple a) := by
  unfold fit
  split
  · split
    · rename_i h
      refine ⟨fun a e => ?_, fun a e => ?_⟩ <;> subst e <;> exact h
    · exact dflt_one g
  · exact dflt_one g
/-- what a term stands for, the letters being given -/
noncomputable def dn (ρ : Nat → Value) : Value → Value
  | .iface c (.int _ n) => fit (c % 16) (some (ρ n.toNat))
  | .iface c (.agg ⟨[x, y]⟩) => fit (c % 16) (sem2 (c / 16) (dn ρ x) (dn ρ y))
  | .iface c (.iface d u) => fit (c % 16) (sem1 (c / 16) (dn ρ (.iface d u)))
  | .iface c _ => dflt (c % 16)
  | v => v
termination_by v => SizeOf.sizeOf v
theorem dn_let (ρ : Nat → Value) (c : Nat) (k : IntKind) (n : Int) : dn ρ (.iface c (.int k n)) = fit (c % 16) (some (ρ n.toNat)) := by rw [dn]
theorem dn_two (ρ : Nat → Value) (c : Nat) (x y : Value) : dn ρ (.iface c (.agg ⟨[x, y]⟩)) = fit (c % 16) (sem2 (c / 16) (dn ρ x) (dn ρ y)) := by rw [dn]
theorem dn_un (ρ : Nat → Value) (c d : Nat) (u : Value) : dn ρ (.iface c (.iface d u)) = fit (c % 16) (sem1 (c / 16) (dn ρ (.iface d u))) := by rw [dn]
theorem dn_dry (ρ : Nat → Value) {v : Value} (h : dry v = true) : dn ρ v = v := by
  cases v with
  | iface c u => cases h
  | _ => rw [dn.eq_def]
theorem dn_tok (ρ : Nat → Value) (c : Nat) (u : Value) : (∃ o, dn ρ (.iface c u) = fit (c % 16) o) := by
  by_cases h1 : ∃ k n, u = .int k n
  · obtain ⟨k, n, rfl⟩ := h1
    exact ⟨_, dn_let ρ c k n⟩
  by_cases h2 : ∃ x y, u = .agg ⟨[x, y]⟩
  · obtain ⟨x, y, rfl⟩ := h2
    exact ⟨_, dn_two ρ c x y⟩
  by_cases h3 : ∃ d w, u = .iface d w
  · obtain ⟨d, w, rfl⟩ := h3
    exact ⟨_, dn_un ρ c d w⟩
  · refine ⟨none, ?_⟩
    rw [dn]
    · rfl
    · intro k n e; exact h1 ⟨k, n, e⟩
    · intro x y e; exact h2 ⟨x, y, e⟩
    · intro d w e; exact h3 ⟨d, w, e⟩
/-- the letters' values, the first world -/
@[reducible] noncomputable def thOf (ρ : Nat → Value) (W : World) : Th where
  val c u := dn ρ (.iface c u)
  one c u := by
    obtain ⟨o, h⟩ := dn_tok ρ c u
    rw [h]
    exact fit_one _ _
  W := W
theorem ts_of (ρ : Nat → Value) (W : World) : @Ts (thOf ρ W) := by
  letI := thOf ρ W
  have hD : ∀ x X, De x X → dn ρ x = X := fun x X h => by
    cases x with
    | iface c u => exact Eq.symm h
    | _ => rw [dn_dry ρ h.1]; exact h.2.symm
  refine ⟨fun c u h => ?_, fun c x y X Y R hx hy h1 h2 => ?_, fun c d u R h1 h2 => ?_⟩
  · obtain ⟨o, e⟩ := dn_tok ρ c u
    show hasTag (c % 16) (dn ρ (.iface c u))
    rw [e]
    exact fit_tag h o
  · show dn ρ (.iface c (.agg ⟨[x, y]⟩)) = R
    rw [dn_two, hD x X hx, hD y Y hy, h1, fit_eq h2]
  · show dn ρ (.iface c (.iface d u)) = R
    have h1 : sem1 (c / 16) (dn ρ (.iface d u)) = some R := h1
    rw [dn_un, h1, fit_eq h2]
theorem at_of (ρ : Nat → Value) (W : World) : @At (thOf ρ W) W := by
  letI := thOf ρ W
  exact ⟨Below.refl _ _⟩
/-- a letter stands for its value -/
theorem let_de {ρ : Nat → Value} {W : World} {g i : Nat} (hg : g < 16) (h : hasTag g (ρ i)) : @De (thOf ρ W) (L g i) (ρ i) := by
  show ρ i = dn ρ (.iface g (.int .u64 (.ofNat i)))
  rw [dn_let]
  have e : (Int.ofNat i).toNat = i := rfl
  have e2 : g % 16 = g := Nat.mod_eq_of_lt hg
  rw [e, e2, fit_eq h]
end Go.Sx
