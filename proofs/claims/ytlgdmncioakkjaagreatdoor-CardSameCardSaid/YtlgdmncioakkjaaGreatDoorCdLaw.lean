/-
  THE LAW CardSame: by the tree of its tests. By an AI agent.
-/
import Derived.Test.YtlgdmncioakkjaaGreatDoorCdAlv
import Derived.Test.YtlgdmncioakkjaaGreatDoorSmC
import Derived.Test.YtlgdmncioakkjaaGreatDoorSmF
namespace Go.Proofs.YtlgdmncioakkjaaGreatDoor
open Go.RowKit Go.Sx
/-- few() of the struct whose letters begin at a, answered by letter q -/
def envFw (a q : Nat) : EnvF := fun f args m => match Nat.beq f 9, teqM args.toList [.agg ⟨letR shC.tags a⟩] with
  | true, true => some (L 8 q, m)
  | _, _ => none
def envAlv : EnvF := fun f args m => match f, args with
  | 8, ⟨[]⟩ => some (.bool true, m)
  | _, _ => none
abbrev envSame : EnvF := envOr (envFw 1000 6001) (envOr (envFw 2000 6002) (envOr (envAgB 10 shC.tags 1000 2000 6003) (envOr (envAgB 7 shC.tags 1000 2000 6003)
  (envOr (envAgB 10 shC.tags 1000 1000 6004) (envOr (envAgB 10 shC.tags 2000 1000 6003) envAlv)))))
def sameTree : T3 := .n (L 8 6001) (.n (L 8 6002) (.n (L 8 6004) (.l (.bool true)) (.l (.bool false))) (.l (.bool true))) (.l (.bool true))
theorem same_chk : chk (runF PP GN (fun _ => envSame) [] 400 gl 4 #[.agg ⟨letR shC.tags 1000⟩, .agg ⟨letR shC.tags 2000⟩]) sameTree [] = true := by kernel_rfl
section
variable {ρ : Nat → Value} {W : World}
theorem envFw_ok {a q : Nat} {xa : List Value} (ta : Tags shC.tags xa) (hA : ∀ j, j < shC.tags.length → ρ (a + j) = (xa[j]?).getD undef) {b : Bool} (hq : ρ q = .bool b)
    (h : ∀ w, Below W.heap.size W w → Calls PP 9 #[.agg ⟨xa⟩] w fun X w' => X = .returned (.bool b) ∧ Below w.heap.size w w') : @EnvOk (thOf ρ W) PP GN W (envFw a q) := by
  letI := thOf ρ W
  intro f args m v m' e r w args' ha hw hB'
  unfold envFw at e
  split at e
  · rename_i h1 h2
    injection e with e
    injection e with e1 e2
    subst e1 e2
    have h1 := Nat.eq_of_beq_eq_true h1
    subst h1
    have h2 := teqM_eq h2
    have ha : All (V2 r) (⟨[Value.agg ⟨letR shC.tags a⟩]⟩ : Array Value) args' := by
      rw [← h2]
      exact ha
    obtain ⟨z1, l2, e, hx, hl⟩ := ha.cons
    have : l2 = [] := by simpa using hl.1.symm
    subst this
    obtain ⟨y1, rfl, k1⟩ := hx
    have e1 := letR_inv ta (by decide) hA k1
    subst e1
    subst e
    refine (h w hw.low).mono ?_
    rintro X w' ⟨rfl, hb⟩
    refine ⟨_, r, rfl, ?_, hw.below hb⟩
    have := let_de (ρ := ρ) (W := W) (g := 8) (i := q) (by decide) (by rw [hq]; exact rfl)
    rw [hq] at this
    exact this
  · cases e
theorem envAlv_ok (hE : EnvX W) (hK : Knows GN gl W) : @EnvOk (thOf ρ W) PP GN W envAlv := by
  letI := thOf ρ W
  intro f args m v m' e r w args' ha hw hB
  unfold envAlv at e
  split at e
  · injection e with e
    injection e with e1 e2
    subst e1 e2
    have h0 : args' = #[] := Array.eq_empty_of_size_eq_zero ha.1.symm
    subst h0
    refine (alive_ok (hE.below hw.low) (knows_below hK hw.low)).mono ?_
    rintro e w' ⟨h1, h2⟩
    exact ⟨_, r, h1, still3_V3 (by simp [still3, still, dry]), hw.below h2⟩
  · cases e
end
/-- the letters of two cards, and what is asked of them -/
def rhoL (xa xb : List Value) (q1 q2 q3 : Bool) (i : Nat) : Value := if i < 2000 then (xa[i - 1000]?).getD undef else if i < 3000 then (xb[i - 2000]?).getD undef else if i = 6001 then .bool q1 else if i = 6002 then .bool q2 else if i = 6003 then .bool q3 else .bool true
open Classical in
theorem lawCardSame {W : World} {xa xb : List Value} {da db : List Da} (ha : Dat W shC xa da) (hb : Dat W shC xb db) (hE : EnvX W ∧ Knows GN gl W) :
    Calls PP 4 #[.agg ⟨xa⟩, .agg ⟨xb⟩] W fun e w' => e = .returned (.bool true) ∧ Below W.heap.size W w' := by
  obtain ⟨sa, aa, ea, hDa⟩ := fewD_of ha
  obtain ⟨sb, ab, eb, hDb⟩ := fewD_of hb
  have hK0 : Knows GN [] W := ⟨hE.2.1, fun i x h => by cases h⟩
  let q1 : Bool := decide (fewP xa sa aa ea)
  let q2 : Bool := decide (fewP xb sb ab eb)
  let q3 : Bool := decide (da = db)
  let ρ := rhoL xa xb q1 q2 q3
  have lt : shC.tags.length < 1000 := by decide
  have hA : ∀ j, j < shC.tags.length → ρ (1000 + j) = (xa[j]?).getD undef := fun j hj => by
    show rhoL xa xb q1 q2 q3 (1000 + j) = _
    unfold rhoL
    rw [if_pos (by omega), Nat.add_sub_cancel_left]
  have hB : ∀ j, j < shC.tags.length → ρ (2000 + j) = (xb[j]?).getD undef := fun j hj => by
    show rhoL xa xb q1 q2 q3 (2000 + j) = _
    unfold rhoL
    rw [if_neg (by omega), if_pos (by omega), Nat.add_sub_cancel_left]
  have is_ : ∀ {P : Prop} {q : Bool} {f : FuncId} {args : Array Value} {w : World}, Calls PP f args w (fun X w' => ∃ q, X = .returned (.bool q) ∧ (q = true ↔ P) ∧ Below w.heap.size w w') → (q = true ↔ P) → Calls PP f args w fun X w' => X = .returned (.bool q) ∧ Below w.heap.size w w' := fun h hq => h.mono (by
    rintro X w' ⟨q', rfl, h1, h2⟩
    exact ⟨by rw [Bool.eq_iff_iff.2 (h1.trans hq.symm)], h2⟩)
  letI := thOf ρ W
  haveI := ts_of ρ W
  haveI := at_of ρ W
  have env : EnvOk PP GN W envSame := by
    refine envOr_ok (envFw_ok (b := q1) ha.tags hA rfl fun w hw => is_ (few_ok noGo mixed (hK0.on hw) (ha.below hw) (hDa.below hw)) (by simp [q1])) ?_
    refine envOr_ok (envFw_ok (b := q2) hb.tags hB rfl fun w hw => is_ (few_ok noGo mixed (hK0.on hw) (hb.below hw) (hDb.below hw)) (by simp [q2])) ?_
    refine envOr_ok (envAgB_ok (q := q3) ha.tags hb.tags (by decide) hA hB rfl fun w hw => is_ (s_card noGo mixed w xa xb da db (hK0.on hw) (ha.below hw) (hb.below hw)) (by simp [q3])) ?_
    refine envOr_ok (envAgB_ok (q := q3) ha.tags hb.tags (by decide) hA hB rfl fun w hw => is_ (s_card21 noGo mixed w xa xb da db (hK0.on hw) (ha.below hw) (hb.below hw)) (by simp [q3])) ?_
    refine envOr_ok (envAgB_ok (q := true) ha.tags ha.tags (by decide) hA hA rfl fun w hw => is_ (s_card noGo mixed w xa xa da da (hK0.on hw) (ha.below hw) (ha.below hw)) (by simp)) ?_
    exact envOr_ok (envAgB_ok (q := q3) hb.tags ha.tags (by decide) hB hA rfl fun w hw => is_ (s_card noGo mixed w xb xa db da (hK0.on hw) (hb.below hw) (ha.below hw)) (by simp [q3, eq_comm])) (envAlv_ok hE.1 hE.2)
  refine (reckonedO 400 noGo mixed (T := sameTree) (F := []) (M := []) (env := fun _ => envSame) (l := gl) same_chk (fun p h => (by cases h)) (fun p h => (by cases h)) W (args' := #[.agg ⟨xa⟩, .agg ⟨xb⟩]) ?_ (fun F hF => env) hE.2).mono ?_
  · have h0 : V2 (List.range GN) (.agg ⟨letR shC.tags 1000⟩) (.agg ⟨xa⟩) := ⟨_, rfl, letR_all ha.tags (by decide) hA⟩
    have h1 : V2 (List.range GN) (.agg ⟨letR shC.tags 2000⟩) (.agg ⟨xb⟩) := ⟨_, rfl, letR_all hb.tags (by decide) hB⟩
    exact (All.nil.push h0).push h1
  · rintro e w' ⟨X, rfl, h1, h2⟩
    refine ⟨?_, h2⟩
    have leaf : ∀ {b : Bool} {X : Value}, T3.Out (.l (.bool b)) X → X = .bool b := fun ⟨r, h⟩ => still3_eq h rfl
    unfold sameTree at h1
    rcases h1 with ⟨-, h1⟩ | ⟨-, h1⟩
    · rcases h1 with ⟨-, h1⟩ | ⟨-, h1⟩
      · rcases h1 with ⟨-, h1⟩ | ⟨hd, h1⟩
        · rw [leaf h1]
        · have := de_bool hd (show ρ 6004 = .bool true from rfl)
          cases this
      · rw [leaf h1]
    · rw [leaf h1]
end Go.Proofs.YtlgdmncioakkjaaGreatDoor
