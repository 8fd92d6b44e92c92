/-
  RUNS RECKONED AHEAD: a run over letters, by the tree of its tests. By an AI agent.
-/
import Derived.Test.YtpejbfdmiinokaaSyI
namespace Go.Sx
open Go.RowKit
variable [Th]
/-- the tests of a run, and its answers -/
inductive T3 where
  | l (v : Value)
  | n (t : Value) (a b : T3)
/-- short words: a letter, a term of two parts, of one part, a number, a text -/
abbrev L (g i : Nat) : Value := .iface g (.int .u64 (.ofNat i))
abbrev B (c : Nat) (x y : Value) : Value := .iface c (.agg ⟨[x, y]⟩)
abbrev U (c : Nat) (x : Value) : Value := .iface c x
abbrev I (n : Int) : Value := .int .i64 n
abbrev S (l : List UInt8) : Value := .string ⟨⟨l⟩⟩
def isBt : Value → Bool
  | .iface c _ => Nat.beq (Nat.mod c 16) 8
  | _ => false
/-- answers that are the same as written -/
def teqL : List Value → List Value → Bool
  | [], [] => true
  | x :: l, y :: r => match teq 40 x y with
    | true => teqL l r
    | false => false
  | _, _ => false
omit [Th] in
theorem teqL_eq : ∀ {l r : List Value}, teqL l r = true → l = r
  | [], [], _ => rfl
  | [], _ :: _, h => by cases h
  | _ :: _, [], h => by cases h
  | x :: l, y :: r, h => by
    unfold teqL at h
    split at h
    · rename_i hx
      rw [teq_eq _ _ _ hx, teqL_eq h]
    · cases h
def teq2 : Value → Value → Bool
  | .agg ⟨l⟩, .agg ⟨r⟩ => teqL l r
  | x, y => teq 40 x y
omit [Th] in
theorem teq2_eq {x y : Value} (h : teq2 x y = true) : x = y := by
  unfold teq2 at h
  split at h
  · rw [teqL_eq h]
  · exact teq_eq _ _ _ h
def teqM : List Value → List Value → Bool
  | [], [] => true
  | x :: l, y :: r => match teq2 x y with
    | true => teqM l r
    | false => false
  | _, _ => false
omit [Th] in
theorem teqM_eq : ∀ {l r : List Value}, teqM l r = true → l = r
  | [], [], _ => rfl
  | [], _ :: _, h => by cases h
  | _ :: _, [], h => by cases h
  | x :: l, y :: r, h => by
    unfold teqM at h
    split at h
    · rename_i hx
      rw [teq2_eq hx, teqM_eq h]
    · cases h
def teq3 : Value → Value → Bool
  | .tuple ⟨l⟩, .tuple ⟨r⟩ => teqM l r
  | x, y => teq2 x y
omit [Th] in
theorem teq3_eq {x y : Value} (h : teq3 x y = true) : x = y := by
  unfold teq3 at h
  split at h
  · rw [teqM_eq h]
  · exact teq2_eq h
def chk (run : Fs → Option Value) : T3 → Fs → Bool
  | .l v, F => match run F with
    | some u => teq3 u v
    | none => false
  | .n t a b, F => match isBt t with
    | true => match chk run a ((t, true) :: F) with
      | true => chk run b ((t, false) :: F)
      | false => false
    | false => false
/-- a call reckoned under decisions -/
noncomputable def runF (P : Program) (G : Nat) (env : Fs → EnvF) (M : List (Value × List Value)) (n : Nat) (l : List Bk) (f : FuncId) (args : Array Value) (F : Fs) : Option Value :=
  match @evCall P (env F) (@evCode ⟨F, M⟩ P G (env F) n) f args ⟨G, l⟩ with
  | some (v, _) => some v
  | none => none
/-- what the tree answers -/
def T3.Out : T3 → Value → Prop
  | .l v, X => ∃ r, V3 r v X
  | .n t a b, X => (De t (.bool true) ∧ a.Out X) ∨ (De t (.bool false) ∧ b.Out X)
section
variable {P : Program} {G : Nat}
theorem bt_bool [Ts] {t : Value} (h : isBt t = true) : De t (.bool true) ∨ De t (.bool false) := by
  unfold isBt at h
  split at h
  · rename_i c u
    have h : c % 16 = 8 := Nat.eq_of_beq_eq_true h
    have ht := Ts.tag c u (Nat.le_trans (Nat.le_of_eq h) (by decide))
    rw [h] at ht
    obtain ⟨b, hb⟩ := hasTag_bool ht
    cases b with
    | true => exact .inl hb.symm
    | false => exact .inr hb.symm
  · cases h
theorem chk_sound [Ts] {run : Fs → Option Value} : ∀ (T : T3) (F : Fs), chk run T F = true → SatL F → ∃ F' v, SatL F' ∧ run F' = some v ∧ ∀ X, (∃ r, V3 r v X) → T.Out X
  | .l v, F, h, hF => by
    unfold chk at h
    split at h
    · rename_i u hu
      have := teq3_eq h
      subst this
      exact ⟨F, u, hF, hu, fun X hX => hX⟩
    · cases h
  | .n t a b, F, h, hF => by
    unfold chk at h
    split at h
    · rename_i ht
      split at h
      · rename_i ha
        rcases bt_bool ht with hd | hd
        · obtain ⟨F', v, h1, h2, h3⟩ := chk_sound a _ ha (fun p hp => by
            rcases List.mem_cons.1 hp with rfl | hp
            · exact hd
            · exact hF p hp)
          exact ⟨F', v, h1, h2, fun X hX => .inl ⟨hd, h3 X hX⟩⟩
        · obtain ⟨F', v, h1, h2, h3⟩ := chk_sound b _ h (fun p hp => by
            rcases List.mem_cons.1 hp with rfl | hp
            · exact hd
            · exact hF p hp)
          exact ⟨F', v, h1, h2, fun X hX => .inr ⟨hd, h3 X hX⟩⟩
      · cases h
    · cases h
/-- a call over letters: its answer is the tree's, nothing that was there has turned -/
theorem reckonedO [Ts] {env : Fs → EnvF} (n : Nat) (hN : NoGo P) (hM : P.follows .mixedOrders = true) {l : List Bk} {f : FuncId} {args args' : Array Value} {T : T3} {F : Fs} {M : List (Value × List Value)}
    (hc : chk (runF P G env M n l f args) T F = true) (hF : SatL F) (hM2 : ∀ p ∈ M, ∃ A, De p.1 (.pointer (some A)) ∧ CellsAt A p.2) (w : World) [At w] (ha : All (V2 (List.range G)) args args') (hE : ∀ F, SatL F → EnvOk P G w (env F)) (hK : Knows G l w) :
    Calls P f args' w fun e w' => ∃ X, e = .returned X ∧ T.Out X ∧ Below w.heap.size w w' := by
  obtain ⟨F', v, h1, h2, h3⟩ := chk_sound T F hc hF
  unfold runF at h2
  split at h2
  · rename_i v1 m' e1
    injection h2 with h2
    subst h2
    letI : Fx := ⟨F', M⟩
    haveI : Sat := ⟨h1, hM2⟩
    refine (evCall_ok (hE F' h1) (evCode_good hN hM (hE F' h1) n).1 f args ⟨G, l⟩ v1 m' e1 (List.range G) w args' ha hK.wd (Nat.le_refl _)).mono ?_
    rintro e w' ⟨v', r', rfl, k1, k2, k3⟩
    exact ⟨v', rfl, h3 v' ⟨r', k1⟩, k3.os, k3.tape, k3.output, k3.size, fun k hk => k3.block k hk fun ⟨i, x, hx, hr, _⟩ => (by rw [(hK.2 i x hx).2.1] at hr; cases hr)⟩
  · cases h2
end
end Go.Sx
