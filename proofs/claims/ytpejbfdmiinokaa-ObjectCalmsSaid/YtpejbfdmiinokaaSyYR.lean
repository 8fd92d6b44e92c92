/-
  RUNS RECKONED AHEAD: rows of structs compared by a loop that calls the elements' own comparison. By an AI agent.
-/
import Derived.Test.YtpejbfdmiinokaaSyY
namespace Go.Sx
open Go.RowKit
/-- the elements' comparison, answered by letter 3000 -/
def envAgg (g : FuncId) (gs : List Nat) : EnvF := fun f args m => match Nat.beq f g, teqM args.toList [.agg ⟨letR gs 1000⟩, .agg ⟨letR gs 2000⟩] with
  | true, true => some (L 8 3000, m)
  | _, _ => none
def M3 (gs : List Nat) : List (Value × List Value) := [(IX gs.length (L 10 0) (L 3 2), letR gs 1000), (IX gs.length (L 10 1) (L 3 2), letR gs 2000)]
def bod3 : TP := .n (L 8 3000) (.o 0 [(2, nxtL 2)]) (.o 2 [])
open Classical in
/-- the letters of a round -/
noncomputable def rho3 (sa sb n : Value) (k : Nat) (xa xb : List Value) (E : Prop) (i : Nat) : Value := if i = 0 then sa else if i = 1 then sb else if i = 2 then .int .i64 k else if i = 3 then n else if i < 2000 then (xa[i - 1000]?).getD undef else if i < 3000 then (xb[i - 2000]?).getD undef else .bool (decide E)
section
variable {ρ : Nat → Value} {W : World}
theorem letR_inv {gs : List Nat} {xs : List Value} {a : Nat} {r : List Nat} {ys : Array Value} (h : Tags gs xs) (hg : ∀ g ∈ gs, g < 16) (hρ : ∀ j, j < gs.length → ρ (a + j) = (xs[j]?).getD undef) (hy : @All (@V1 (thOf ρ W) r) ⟨letR gs a⟩ ys) : ys = ⟨xs⟩ := by
  letI := thOf ρ W
  have hlen : ∀ (gs : List Nat) a, (letR gs a).length = gs.length := by
    intro gs
    induction gs with
    | nil => intro a; rfl
    | cons g l ih => intro a; simp [letR, ih]
  have hsz : ys.size = gs.length := by
    have := hy.1
    rw [← this]
    simp [hlen]
  apply Array.ext_getElem?
  intro i
  by_cases hi : i < gs.length
  · have hgi := List.getElem?_eq_getElem hi
    obtain ⟨v, h1, h2⟩ := h.2 i _ hgi
    have hu : (⟨letR gs a⟩ : Array Value)[i]? = some (L gs[i] (a + i)) := by
      have hu' : i < (letR gs a).length := by rw [hlen]; exact hi
      obtain ⟨g, e1, e2⟩ := letR_get gs a i _ (List.getElem?_eq_getElem hu')
      rw [hgi] at e1
      injection e1 with e1
      subst e1
      rw [← e2]
      simp
    obtain ⟨y, g1, g2⟩ := hy.get hu
    have e : ρ (a + i) = v := by rw [hρ i hi, h1]; rfl
    have g2 : y = dn ρ (L gs[i] (a + i)) := g2
    rw [dn_let' (hg _ (List.mem_of_getElem? hgi)) (by rw [e]; exact h2), e] at g2
    rw [g1, g2]
    simpa using h1.symm
  · rw [Array.getElem?_eq_none (by omega), Array.getElem?_eq_none (by have := h.1; simp; omega)]
theorem envAgg_ok {P : Program} {G : Nat} {g : FuncId} {gs : List Nat} {xa xb : List Value} (ta : Tags gs xa) (tb : Tags gs xb) (hg : ∀ g ∈ gs, g < 16) (hA : ∀ j, j < gs.length → ρ (1000 + j) = (xa[j]?).getD undef) (hB : ∀ j, j < gs.length → ρ (2000 + j) = (xb[j]?).getD undef)
    {q : Bool} (hq : ρ 3000 = .bool q) (h : ∀ w, Below W.heap.size W w → Calls P g #[.agg ⟨xa⟩, .agg ⟨xb⟩] w fun X w' => X = .returned (.bool q) ∧ Below w.heap.size w w') : @EnvOk (thOf ρ W) P G W (envAgg g gs) := by
  letI := thOf ρ W
  intro f args m v m' e r w args' ha hw hB'
  unfold envAgg at e
  split at e
  · rename_i h1 h2
    injection e with e
    injection e with e1 e2
    subst e1 e2
    have h1 := Nat.eq_of_beq_eq_true h1
    subst h1
    have h2 := teqM_eq h2
    have ha : All (V2 r) (⟨[Value.agg ⟨letR gs 1000⟩, .agg ⟨letR gs 2000⟩]⟩ : Array Value) args' := by
      rw [← h2]
      exact ha
    obtain ⟨z1, l2, e, hx, hl⟩ := ha.cons
    obtain ⟨z2, l3, e', hy, hl3⟩ := hl.cons
    have : l3 = [] := by simpa using hl3.1.symm
    subst this
    obtain ⟨y1, rfl, k1⟩ := hx
    obtain ⟨y2, rfl, k2⟩ := hy
    have e1 := letR_inv ta hg hA k1
    have e2 := letR_inv tb hg hB k2
    subst e1 e2
    have e4 : l2 = [.agg ⟨xb⟩] := congrArg Array.toList e'
    subst e4
    subst e
    refine (h w hw.low).mono ?_
    rintro X w' ⟨rfl, hb⟩
    refine ⟨_, r, rfl, ?_, hw.below hb⟩
    have := let_de (ρ := ρ) (W := W) (g := 8) (i := 3000) (by decide) (by rw [hq]; exact rfl)
    rw [hq] at this
    exact this
  · cases e
/-- ROWS OF STRUCTS COMPARED by a loop that calls g on two elements -/
theorem structRows {P : Program} {G : Nat} (hN : NoGo P) (hM : P.follows .mixedOrders = true) {l : List Bk} {f g : FuncId} {fn : Func} {c : Code} {np : Nat} {extra : List Value} {t tE tB tG : Tr} {gs : List Nat} (hf : P.funcs[f]? = some fn) (hb : fn.body = some c)
    (hck : SameCk P G 4 l fn c np (L 10 0 :: L 10 1 :: extra) t tE tB tG 0 ex2 (fun _ => envAgg g gs) (M3 gs) F2 Fe2 bod3) (hgs : gs.length < 1000 ∧ ∀ g ∈ gs, g ≤ 11) (hex : extra.all still = true) {sa sb : Value} {ra rb : List (List Value)} (ha : RowAt W gs sa ra) (hb' : RowAt W gs sb rb) (hKn : Knows G l W)
    (E : Nat → Prop) (hE : ∀ k xa xb, ra[k]? = some xa → rb[k]? = some xb → ∀ w, Below W.heap.size W w → Calls P g #[.agg ⟨xa⟩, .agg ⟨xb⟩] w fun e w' => ∃ q, e = .returned (.bool q) ∧ (q = true ↔ E k) ∧ Below w.heap.size w w') :
    Calls P f (sa :: sb :: extra).toArray W fun e w' => ∃ q, e = .returned (.bool q) ∧ (q = true ↔ (ra.length = rb.length ∧ ∀ k, k < ra.length → E k)) ∧ Below W.heap.size W w' := by
  have hta := ha.tag
  have htb := hb'.tag
  obtain ⟨pa, ca, hsa, hla, -⟩ := id ha
  obtain ⟨pb, cb, hsb, -⟩ := id hb'
  have hti : ∀ k : Nat, k ≤ ra.length → hasTag 3 (.int .i64 (k : Int)) := fun k hk => ⟨rfl, by simp [IntKind.min, IntKind.bits, IntKind.signed]; try omega, by simp [IntKind.max, IntKind.bits, IntKind.signed]; try omega⟩
  have lens : ∀ ρ : Nat → Value, ρ 0 = sa → ρ 1 = sb → dn ρ (LEN (L 10 0)) = .int .i64 ra.length ∧ dn ρ (LEN (L 10 1)) = .int .i64 rb.length := fun ρ h0 h1 =>
    ⟨dn_len (by rw [h0]; exact hsa) (by rw [h0]; exact hta), dn_len (by rw [h1]; exact hsb) (by rw [h1]; exact htb)⟩
  let ρ0 := rho3 sa sb undef 0 [] [] True
  let n : Value := .int .i64 ra.length
  have hargs : @All (@V2 (thOf ρ0 W) (List.range G)) (L 10 0 :: L 10 1 :: extra).toArray (sa :: sb :: extra).toArray := by
    letI := thOf ρ0 W
    have h0 : V2 (List.range G) (L 10 0) sa := let_de (ρ := ρ0) (W := W) (g := 10) (i := 0) (by decide) hta
    have h1 : V2 (List.range G) (L 10 1) sb := let_de (ρ := ρ0) (W := W) (g := 10) (i := 1) (by decide) htb
    refine ⟨by simp, fun i u v hu hv => ?_⟩
    rcases i with _ | _ | i
    · simp at hu hv
      subst hu hv
      exact h0
    · simp at hu hv
      subst hu hv
      exact h1
    · simp at hu hv
      rw [hu] at hv
      injection hv with hv
      subst hv
      exact still_V2 (List.all_eq_true.1 hex u (List.mem_of_getElem? hu))
  refine sameRows hN hM hf hb hck hsa hta hsb htb (by decide) E (ρ0 := ρ0) (ρ1 := upd ρ0 ((2, I 0) :: ex2)) rfl rfl rfl hargs hKn ?_ ?_
  · intro k hk hkb ρ e0 e2
    have hra := List.getElem?_eq_getElem hk
    have hrb := List.getElem?_eq_getElem hkb
    let ρ' := rho3 sa sb n k ra[k] rb[k] (E k)
    have hn : upd ρ0 ((2, I 0) :: ex2) 3 = n := (lens ρ0 rfl rfl).1
    obtain ⟨l1, l2⟩ := lens ρ' rfl rfl
    have lk : dn ρ' (L 3 2) = .int .i64 k := dn_let' (by decide) (hti k (by omega))
    have ln : dn ρ' (L 3 3) = .int .i64 ra.length := dn_let' (by decide) (hti _ (Nat.le_refl _))
    have hA : ∀ j, j < gs.length → ρ' (1000 + j) = ((ra[k])[j]?).getD undef := fun j hj => by
      have := hgs.1
      show rho3 sa sb n k ra[k] rb[k] (E k) (1000 + j) = _
      unfold rho3
      rw [if_neg (by omega), if_neg (by omega), if_neg (by omega), if_neg (by omega), if_pos (by omega), Nat.add_sub_cancel_left]
    have hB : ∀ j, j < gs.length → ρ' (2000 + j) = ((rb[k])[j]?).getD undef := fun j hj => by
      have := hgs.1
      show rho3 sa sb n k ra[k] rb[k] (E k) (2000 + j) = _
      unfold rho3
      rw [if_neg (by omega), if_neg (by omega), if_neg (by omega), if_neg (by omega), if_neg (by omega), if_pos (by omega), Nat.add_sub_cancel_left]
    obtain ⟨q, hq, hq2⟩ : ∃ q, ρ' 3000 = .bool q ∧ (q = true ↔ E k) := ⟨_, rfl, by simp⟩
    have env : @EnvOk (thOf ρ' W) P G W (envAgg g gs) := envAgg_ok (ha.row hra) (hb'.row hrb) (fun g hg => Nat.lt_of_le_of_lt (hgs.2 g hg) (by decide)) hA hB hq (fun w hw => (hE k _ _ hra hrb w hw).mono (by
      rintro X w' ⟨q', rfl, h1, h2⟩
      exact ⟨by rw [Bool.eq_iff_iff.2 (h1.trans hq2.symm)], h2⟩))
    refine ⟨ρ', fun i hi => ?_, ⟨?_, ?_, fun F _ => env⟩, fun X h1 h0 => ⟨fun hd => ?_, fun hd => ?_⟩⟩
    · rcases (by omega : i = 0 ∨ i = 1 ∨ i = 2 ∨ i = 3) with rfl | rfl | rfl | rfl
      · exact (e0 0 (by decide) (by decide)).symm
      · exact (e0 1 (by decide) (by decide)).symm
      · rw [e2]
        simp [ρ', rho3]
      · rw [e0 3 (by decide) (by decide), hn]
        rfl
    · intro p hp
      simp only [F2, List.mem_cons, List.not_mem_nil, or_false] at hp
      rcases hp with rfl | rfl | rfl | rfl
      · exact de_cmp rfl (x := I 0) (dn_dry ρ' rfl) lk (by simp [cmpI])
      · exact de_cmp rfl lk l1 (by simp [cmpI]; omega)
      · exact de_cmp rfl lk l2 (by simp [cmpI]; omega)
      · exact de_cmp rfl lk ln (by simp [cmpI]; omega)
    · intro p hp
      simp only [M3, List.mem_cons, List.not_mem_nil, or_false] at hp
      rcases hp with rfl | rfl
      · exact RowAt.mem (ρ := ρ') (gs := gs) (a := 0) (i := 2) (b := 1000) (k := k) ha rfl hra hA hgs.2
      · exact RowAt.mem (ρ := ρ') (gs := gs) (a := 1) (i := 2) (b := 2000) (k := k) hb' rfl hrb hB hgs.2
    · have e := de_bool hd hq
      exact h1 (hq2.1 e)
    · have e := de_bool hd hq
      exact h0 (fun h => by rw [hq2.2 h] at e; cases e)
  · intro ρ e0 e2 p hp
    have e3 : ρ 3 = n := (e0 3 (by decide) (by decide)).trans (lens ρ0 rfl rfl).1
    obtain ⟨l1, -⟩ := lens ρ (e0 0 (by decide) (by decide)) (e0 1 (by decide) (by decide))
    have lk : dn ρ (L 3 2) = .int .i64 ra.length := by
      have e2 : ρ 2 = .int .i64 (ra.length : Int) := by rw [e2]; simp
      rw [dn_let' (by decide) (by rw [e2]; exact hti _ (Nat.le_refl _)), e2]
    have ln : dn ρ (L 3 3) = .int .i64 ra.length := by rw [dn_let' (by decide) (by rw [e3]; exact hti _ (Nat.le_refl _)), e3]
    simp only [Fe2, List.mem_cons, List.not_mem_nil, or_false] at hp
    rcases hp with rfl | rfl
    · exact de_cmp rfl lk l1 (by simp [cmpI])
    · exact de_cmp rfl lk ln (by simp [cmpI])
end
end Go.Sx
