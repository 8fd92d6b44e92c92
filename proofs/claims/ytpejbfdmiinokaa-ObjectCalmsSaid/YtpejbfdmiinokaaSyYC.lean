/-
  RUNS RECKONED AHEAD: comparisons that test first and then go through rows, loop after loop. By an AI agent.
-/
import Derived.Test.YtpejbfdmiinokaaSyYR
namespace Go.Sx
open Go.RowKit
/-- two environments -/
def envOr (e1 e2 : EnvF) : EnvF := fun f a m => match e1 f a m with
  | some r => some r
  | none => e2 f a m
theorem envOr_ok [Th] {P : Program} {G : Nat} {W : World} {e1 e2 : EnvF} (h1 : EnvOk P G W e1) (h2 : EnvOk P G W e2) : EnvOk P G W (envOr e1 e2) := by
  intro f args m v m' e
  unfold envOr at e
  split at e
  · rename_i r hr
    injection e with e
    subst e
    exact h1 f args m v m' hr
  · exact h2 f args m v m' e
/-- a call on two structs told by letters, answered by a letter -/
def envAgB (g : FuncId) (gs : List Nat) (a b s : Nat) : EnvF := fun f args m => match Nat.beq f g, teqM args.toList [.agg ⟨letR gs a⟩, .agg ⟨letR gs b⟩] with
  | true, true => some (L 8 s, m)
  | _, _ => none
section
variable {ρ : Nat → Value} {W : World}
theorem envAgB_ok {P : Program} {G : Nat} {g : FuncId} {gs : List Nat} {a b s : Nat} {xa xb : List Value} (ta : Tags gs xa) (tb : Tags gs xb) (hg : ∀ g ∈ gs, g < 16) (hA : ∀ j, j < gs.length → ρ (a + j) = (xa[j]?).getD undef) (hB : ∀ j, j < gs.length → ρ (b + j) = (xb[j]?).getD undef)
    {q : Bool} (hq : ρ s = .bool q) (h : ∀ w, Below W.heap.size W w → Calls P g #[.agg ⟨xa⟩, .agg ⟨xb⟩] w fun X w' => X = .returned (.bool q) ∧ Below w.heap.size w w') : @EnvOk (thOf ρ W) P G W (envAgB g gs a b s) := by
  letI := thOf ρ W
  intro f args m v m' e r w args' ha hw hB'
  unfold envAgB at e
  split at e
  · rename_i h1 h2
    injection e with e
    injection e with e1 e2
    subst e1 e2
    have h1 := Nat.eq_of_beq_eq_true h1
    subst h1
    have h2 := teqM_eq h2
    have ha : All (V2 r) (⟨[Value.agg ⟨letR gs a⟩, .agg ⟨letR gs b⟩]⟩ : Array Value) args' := by
      rw [← h2]
      exact ha
    obtain ⟨z1, l2, e, hx, hl⟩ := ha.cons
    obtain ⟨z2, l3, e', hy, hl3⟩ := hl.cons
    have : l3 = [] := by simpa using hl3.1.symm
    subst this
    obtain ⟨y1, rfl, k1⟩ := hx
    obtain ⟨y2, rfl, k2⟩ := hy
    have e1 := letR_inv ta hg hA k1
    have e2 := letR_inv tb hg hB k2
    subst e1 e2
    have e4 : l2 = [.agg ⟨xb⟩] := congrArg Array.toList e'
    subst e4
    subst e
    refine (h w hw.low).mono ?_
    rintro X w' ⟨rfl, hb⟩
    refine ⟨_, r, rfl, ?_, hw.below hb⟩
    have := let_de (ρ := ρ) (W := W) (g := 8) (i := s) (by decide) (by rw [hq]; exact rfl)
    rw [hq] at this
    exact this
  · cases e
/-- the letters of a round over two rows: below 4000 what was there, then the two elements, then what their comparison says -/
noncomputable def rhoR (ρ : Nat → Value) (xa xb : List Value) (q : Bool) (i : Nat) : Value := if i < 4000 then ρ i else if i < 5000 then (xa[i - 4000]?).getD undef else if i < 6000 then (xb[i - 5000]?).getD undef else .bool q
def MRw (sa sb : Nat) (gs : List Nat) : List (Value × List Value) := [(IX gs.length (L 10 sa) (L 3 2), letR gs 4000), (IX gs.length (L 10 sb) (L 3 2), letR gs 5000)]
def FRw (sa sb : Nat) : Fs := [(B (bc .leq 8) (I 0) (L 3 2), true), (B (bc .lss 8) (L 3 2) (LEN (L 10 sa)), true), (B (bc .lss 8) (L 3 2) (LEN (L 10 sb)), true)]
def FeRw (sa : Nat) : Fs := [(B (bc .lss 8) (L 3 2) (LEN (L 10 sa)), false)]
def bodR (ng : Bool) (gs : List Nat) : TP := match ng with
  | true => .n (B (bc .neq 8) (L (gs.headD 0) 4000) (L (gs.headD 0) 5000)) (.o 2 []) (.o 0 [(2, nxtL 2)])
  | false => eqT gs 4000 5000 (.o 0 [(2, nxtL 2)]) (.o 2 [])
def bodC : TP := .n (L 8 6000) (.o 0 [(2, nxtL 2)]) (.o 2 [])
def Agr (ρ ρ1 : Nat → Value) : Prop := ∀ i, i < 4000 → i ≠ 2 → ρ i = ρ1 i
/-- a loop that goes on while elements agree: it ends, or it leaves by return -/
def LoopOk (P : Program) (G : Nat) (W : World) (nt : Nat) (m : AM) (ρ1 : Nat → Value) (cl : Code) (t tE tB : Tr) (A : Prop) : Prop :=
  ∀ ρ : Nat → Value, Agr ρ ρ1 → ρ 2 = .int .i64 0 → ∀ Q : Exit → Act → World → Prop, (A → ∀ ρ', Agr ρ' ρ1 → ∀ b w, Inv P G W ρ' nt tE m b w → Q .normal b w) →
    (¬ A → ∀ ρ', Agr ρ' ρ1 → ∀ b w, Inv P G W ρ' nt tB m b w → Q .ret b w) → ∀ b w, Inv P G W ρ nt t m b w → cl.wp P Q b w
theorem bodR_sem {X : Nat → (Nat → Value) → Prop} {ng : Bool} {gs : List Nat} (hng : ng = true → ∃ g, gs = [g] ∧ g ≠ 8) (hgs : ∀ g ∈ gs, g ≤ 9) (ht : ∀ (i : Nat) g, gs[i]? = some g → hasTag g (ρ (4000 + i)) ∧ hasTag g (ρ (5000 + i)))
    (h1 : (∀ i, i < gs.length → ρ (4000 + i) = ρ (5000 + i)) → X 0 (upd ρ [(2, nxtL 2)])) (h0 : ¬ (∀ i, i < gs.length → ρ (4000 + i) = ρ (5000 + i)) → X 2 (upd ρ [])) : (bodR ng gs).Sem ρ W X := by
  cases ng with
  | false => exact eqT_sem gs 4000 5000 hgs ht h1 h0
  | true =>
    obtain ⟨g, rfl, h8⟩ := hng rfl
    have hg0 : g ≤ 7 ∨ g = 9 := by
      have := hgs g (by simp)
      omega
    have hg16 : g < 16 := by omega
    have ht0 := ht 0 g rfl
    obtain ⟨c, hc, hiff⟩ := sBin_neq hg0 (X := ρ 4000) (Y := ρ 5000) ht0.1 ht0.2
    have hsb : sBin .neq (dn ρ (L g 4000)) (dn ρ (L g 5000)) = some (.bool c) := by
      rw [dn_let' hg16 ht0.1, dn_let' hg16 ht0.2]
      exact hc
    have one : (∀ i, i < [g].length → ρ (4000 + i) = ρ (5000 + i)) ↔ ρ 4000 = ρ 5000 := ⟨fun h => h 0 (by simp), fun h i hi => by
      have : i = 0 := by simpa using hi
      subst this
      exact h⟩
    refine ⟨fun hd => ?_, fun hd => ?_⟩
    · have e := de_test hd hsb
      subst e
      refine h0 fun h => ?_
      have := hiff.2 (one.1 h)
      cases this
    · have e := de_test hd hsb
      subst e
      exact h1 (one.2 (hiff.1 rfl))
end
section
variable {P : Program} {G : Nat} {W : World}
/-- A LOOP OVER TWO ROWS OF ONE LENGTH: what a round asks is answered for every k -/
theorem walkR (hN : NoGo P) (hM : P.follows .mixedOrders = true) {nt : Nat} {cl : Code} {t tE tB : Tr} {m : AM} {env : EnvF} {sa sb : Nat} {gs : List Nat} {bod : TP} (hck : WalkCk P G nt 4000 2 40 cl t tE tB m .ret (fun _ => env) noE (MRw sa sb gs) (FRw sa sb) (FeRw sa) bod)
    (hs : sa < 4000 ∧ sb < 4000 ∧ sa ≠ 2 ∧ sb ≠ 2) (hgs : gs.length < 1000 ∧ ∀ g ∈ gs, g ≤ 11) {ρ1 : Nat → Value} {ra rb : List (List Value)} (ha : RowAt W gs (ρ1 sa) ra) (hb : RowAt W gs (ρ1 sb) rb) (hlen : ra.length = rb.length) (E : Nat → Prop) (qE : Nat → Bool)
    (hbod : ∀ k xa xb, ra[k]? = some xa → rb[k]? = some xb → ∀ ρ : Nat → Value, (∀ j, j < gs.length → ρ (4000 + j) = (xa[j]?).getD undef) → (∀ j, j < gs.length → ρ (5000 + j) = (xb[j]?).getD undef) → ρ 6000 = .bool (qE k) →
      @EnvOk (thOf ρ W) P G W env ∧ ∀ X : Nat → (Nat → Value) → Prop, (E k → X 0 (upd ρ [(2, nxtL 2)])) → (¬ E k → X 2 (upd ρ [])) → bod.Sem ρ W X) :
    LoopOk P G W nt m ρ1 cl t tE tB (∀ k, k < ra.length → E k) := by
  intro ρ0 hag h2 Q hQ0 hQ1 b w hI
  have hta := ha.tag
  have htb := hb.tag
  obtain ⟨pa, ca, hsa, hla, -⟩ := id ha
  obtain ⟨pb, cb, hsb, -⟩ := id hb
  have hla' : ra.length < 9223372036854775808 := by
    rw [hsa] at hta
    exact hta.2.1
  have env0 : ∀ ρ F, @SatL (thOf ρ W) F → @EnvOk (thOf ρ W) P G W (noE F) := fun ρ F _ _ _ _ _ _ h => by cases h
  have hti : ∀ k : Nat, k ≤ ra.length → hasTag 3 (.int .i64 (k : Int)) := fun k hk => ⟨rfl, by simp [IntKind.min, IntKind.bits, IntKind.signed]; try omega, by simp [IntKind.max, IntKind.bits, IntKind.signed]; try omega⟩
  have lens : ∀ ρ : Nat → Value, ρ sa = ρ1 sa → ρ sb = ρ1 sb → dn ρ (LEN (L 10 sa)) = .int .i64 ra.length ∧ dn ρ (LEN (L 10 sb)) = .int .i64 rb.length := fun ρ h0 h1 =>
    ⟨dn_len (by rw [h0]; exact hsa) (by rw [h0]; exact hta), dn_len (by rw [h1]; exact hsb) (by rw [h1]; exact htb)⟩
  refine walkLoop hN hM hck hla' (off := 0) (by decide) E h2 (ρ1 := ρ0) ?_ ?_ ?_ ?_ hI
  · intro k hk ρ e0 e2
    have hkb : k < rb.length := by omega
    have hra := List.getElem?_eq_getElem hk
    have hrb := List.getElem?_eq_getElem hkb
    let ρ' := rhoR ρ ra[k] rb[k] (qE k)
    have low : ∀ i, i < 4000 → ρ' i = ρ i := fun i hi => if_pos hi
    have ga : ρ' sa = ρ1 sa := by rw [low sa hs.1, e0 sa hs.1 hs.2.2.1, hag sa hs.1 hs.2.2.1]
    have gb : ρ' sb = ρ1 sb := by rw [low sb hs.2.1, e0 sb hs.2.1 hs.2.2.2, hag sb hs.2.1 hs.2.2.2]
    obtain ⟨l1, l2⟩ := lens ρ' ga gb
    have k2 : ρ' 2 = .int .i64 (k : Int) := by rw [low 2 (by decide), e2]; simp
    have lk : dn ρ' (L 3 2) = .int .i64 k := by rw [dn_let' (by decide) (by rw [k2]; exact hti k (by omega)), k2]
    have hA : ∀ j, j < gs.length → ρ' (4000 + j) = ((ra[k])[j]?).getD undef := fun j hj => by
      have := hgs.1
      show rhoR ρ ra[k] rb[k] (qE k) (4000 + j) = _
      unfold rhoR
      rw [if_neg (by omega), if_pos (by omega), Nat.add_sub_cancel_left]
    have hB : ∀ j, j < gs.length → ρ' (5000 + j) = ((rb[k])[j]?).getD undef := fun j hj => by
      have := hgs.1
      show rhoR ρ ra[k] rb[k] (qE k) (5000 + j) = _
      unfold rhoR
      rw [if_neg (by omega), if_neg (by omega), if_pos (by omega), Nat.add_sub_cancel_left]
    obtain ⟨g1, g2⟩ := hbod k _ _ hra hrb ρ' hA hB rfl
    refine ⟨ρ', fun i hi => ?_, ⟨?_, ?_, fun F _ => g1⟩, g2⟩
    · rcases hi with hi | rfl
      · exact low i hi
      · exact low 2 (by decide)
    · intro p hp
      simp only [FRw, List.mem_cons, List.not_mem_nil, or_false] at hp
      rcases hp with rfl | rfl | rfl
      · exact de_cmp rfl (x := I 0) (dn_dry ρ' rfl) lk (by simp [cmpI])
      · exact de_cmp rfl lk l1 (by simp [cmpI]; omega)
      · exact de_cmp rfl lk l2 (by simp [cmpI]; omega)
    · intro p hp
      simp only [MRw, List.mem_cons, List.not_mem_nil, or_false] at hp
      rcases hp with rfl | rfl
      · exact RowAt.mem (ρ := ρ') (gs := gs) (a := sa) (i := 2) (b := 4000) (k := k) (by rw [ga]; exact ha) k2 hra hA hgs.2
      · exact RowAt.mem (ρ := ρ') (gs := gs) (a := sb) (i := 2) (b := 5000) (k := k) (by rw [gb]; exact hb) k2 hrb hB hgs.2
  · intro ρ e0 e2
    refine ⟨fun p hp => ?_, fun p hp => by simp at hp, env0 ρ⟩
    have k2 : ρ 2 = .int .i64 (ra.length : Int) := by rw [e2]; simp
    have lk : dn ρ (L 3 2) = .int .i64 ra.length := by rw [dn_let' (by decide) (by rw [k2]; exact hti _ (Nat.le_refl _)), k2]
    obtain ⟨l1, -⟩ := lens ρ (by rw [e0 sa hs.1 hs.2.2.1, hag sa hs.1 hs.2.2.1]) (by rw [e0 sb hs.2.1 hs.2.2.2, hag sb hs.2.1 hs.2.2.2])
    simp only [FeRw, List.mem_cons, List.not_mem_nil, or_false] at hp
    subst hp
    exact de_cmp rfl lk l1 (by simp [cmpI])
  · intro hall ρ e0 b w hI2
    exact hQ0 hall ρ (fun i hi hne => by rw [e0 i hi hne, hag i hi hne]) b w hI2
  · intro k hk hnE _ ρ e0 _ b w hI2
    exact hQ1 (fun h => hnE (h k hk)) ρ (fun i hi hne => by rw [e0 i hi hne, hag i hi hne]) b w hI2
/-- rows of flat elements -/
theorem walkFlat (hN : NoGo P) (hM : P.follows .mixedOrders = true) {nt : Nat} {cl : Code} {t tE tB : Tr} {m : AM} {ng : Bool} {sa sb : Nat} {gs : List Nat} (hck : WalkCk P G nt 4000 2 40 cl t tE tB m .ret noE noE (MRw sa sb gs) (FRw sa sb) (FeRw sa) (bodR ng gs))
    (hs : sa < 4000 ∧ sb < 4000 ∧ sa ≠ 2 ∧ sb ≠ 2) (hng : ng = true → ∃ g, gs = [g] ∧ g ≠ 8) (hgs : gs.length < 1000 ∧ ∀ g ∈ gs, g ≤ 9) {ρ1 : Nat → Value} {ra rb : List (List Value)} (ha : RowAt W gs (ρ1 sa) ra) (hb : RowAt W gs (ρ1 sb) rb) (hlen : ra.length = rb.length) :
    LoopOk P G W nt m ρ1 cl t tE tB (∀ k, k < ra.length → ra[k]? = rb[k]?) := by
  refine walkR hN hM (env := fun _ _ _ => none) hck hs ⟨hgs.1, fun g hg => Nat.le_trans (hgs.2 g hg) (by decide)⟩ ha hb hlen _ (fun _ => true) fun k xa xb hra hrb ρ hA hB _ => ⟨fun _ _ _ _ _ h => (by cases h), fun X h1 h0 => ?_⟩
  obtain ⟨la1, ta⟩ := ha.row hra
  obtain ⟨lb1, tb⟩ := hb.row hrb
  have heq : (∀ i, i < gs.length → ρ (4000 + i) = ρ (5000 + i)) ↔ ra[k]? = rb[k]? := by
    rw [hra, hrb]
    constructor
    · intro h
      congr 1
      apply List.ext_getElem?
      intro i
      by_cases hi : i < gs.length
      · have := h i hi
        rw [hA i hi, hB i hi] at this
        have h1 : i < xa.length := by omega
        have h2 : i < xb.length := by omega
        rw [List.getElem?_eq_getElem h1, List.getElem?_eq_getElem h2] at this ⊢
        exact congrArg some this
      · rw [List.getElem?_eq_none (by omega), List.getElem?_eq_none (by omega)]
    · intro h i hi
      injection h with h
      rw [hA i hi, hB i hi, h]
  refine bodR_sem hng hgs.2 (fun i g hg => ?_) (fun h => h1 (heq.1 h)) (fun h => h0 fun e => h (heq.2 e))
  have hi := (List.getElem?_eq_some_iff.1 hg).1
  obtain ⟨v, h1, h2⟩ := ta i g hg
  obtain ⟨v', h3, h4⟩ := tb i g hg
  rw [hA i hi, hB i hi, h1, h3]
  exact ⟨h2, h4⟩
open Classical in
/-- rows of structs, compared by a call -/
theorem walkCall (hN : NoGo P) (hM : P.follows .mixedOrders = true) {nt : Nat} {cl : Code} {t tE tB : Tr} {m : AM} {g : FuncId} {sa sb : Nat} {gs : List Nat} (hck : WalkCk P G nt 4000 2 40 cl t tE tB m .ret (fun _ => envAgB g gs 4000 5000 6000) noE (MRw sa sb gs) (FRw sa sb) (FeRw sa) bodC)
    (hs : sa < 4000 ∧ sb < 4000 ∧ sa ≠ 2 ∧ sb ≠ 2) (hgs : gs.length < 1000 ∧ ∀ g ∈ gs, g ≤ 11) {ρ1 : Nat → Value} {ra rb : List (List Value)} (ha : RowAt W gs (ρ1 sa) ra) (hb : RowAt W gs (ρ1 sb) rb) (hlen : ra.length = rb.length) (E : Nat → Prop)
    (hE : ∀ k xa xb, ra[k]? = some xa → rb[k]? = some xb → ∀ w, Below W.heap.size W w → Calls P g #[.agg ⟨xa⟩, .agg ⟨xb⟩] w fun e w' => ∃ q, e = .returned (.bool q) ∧ (q = true ↔ E k) ∧ Below w.heap.size w w') :
    LoopOk P G W nt m ρ1 cl t tE tB (∀ k, k < ra.length → E k) := by
  refine walkR hN hM hck hs hgs ha hb hlen E (fun k => decide (E k)) fun k xa xb hra hrb ρ hA hB hq => ⟨?_, fun X h1 h0 => ⟨fun hd => ?_, fun hd => ?_⟩⟩
  · exact envAgB_ok (ha.row hra) (hb.row hrb) (fun g hg => Nat.lt_of_le_of_lt (hgs.2 g hg) (by decide)) hA hB hq (fun w hw => (hE k _ _ hra hrb w hw).mono (by
      rintro X w' ⟨q', rfl, h1, h2⟩
      exact ⟨by rw [Bool.eq_iff_iff.2 (h1.trans (by simp : E k ↔ decide (E k) = true))], h2⟩))
  · have e := de_bool hd hq
    exact h1 (of_decide_eq_true e)
  · have e := de_bool hd hq
    exact h0 (of_decide_eq_false e)
/-- what is left of a comparison: it answers whether A holds; z: the index stands at 0 -/
def Tail (P : Program) (G : Nat) (W : World) (fn : Func) (m : AM) (ρ1 : Nat → Value) (z : Bool) (items : List Code) (t : Tr) (A : Prop) : Prop :=
  ∀ ρ : Nat → Value, Agr ρ ρ1 → (z = true → ρ 2 = .int .i64 0) → ∀ b w, Inv P G W ρ fn.ntmps t m b w → seqWp P (bodyPost P fn fun e w' => ∃ q, e = .returned (.bool q) ∧ (q = true ↔ A) ∧ Below W.heap.size W w') items b w
theorem fin_bool {fn : Func} {m : AM} {tq : Tr} {ρ : Nat → Value} {q : Bool} {A : Prop} (hr : resL P fn.ntmps tq m fn.results.toList = some [.bool q]) (hq : q = true ↔ A) {b : Act} {w : World} (hI : Inv P G W ρ fn.ntmps tq m b w) : bodyPost P fn (fun e w' => ∃ q, e = .returned (.bool q) ∧ (q = true ↔ A) ∧ Below W.heap.size W w') .ret b w := by
  refine answerP (vs := [.bool q]) (v := .bool q) (.inr rfl) hI hr rfl ?_
  rintro X w' ⟨r, hX⟩ hB
  obtain ⟨-, rfl⟩ := hX
  exact ⟨q, rfl, hq, hB⟩
theorem noE_ok (ρ : Nat → Value) : ∀ F, @SatL (thOf ρ W) F → @EnvOk (thOf ρ W) P G W (noE F) := fun F _ _ _ _ _ _ h => by cases h
theorem tail_end (hN : NoGo P) (hM : P.follows .mixedOrders = true) {fn : Func} {m : AM} {ρ1 : Nat → Value} {z : Bool} {items : List Code} {t tG : Tr} (hck : chkP (fun F => runL P G noE [] 40 fn.ntmps F items t m) 4000 G fn.ntmps [⟨.ret, tG, m⟩] (.o 0 []) [] = true) (hr : resL P fn.ntmps tG m fn.results.toList = some [.bool true]) {A : Prop} (hA : A) : Tail P G W fn m ρ1 z items t A := by
  intro ρ _ _ b w hI
  refine seqWp_mono ?_ _ _ _ (pieceL hN hM hck (X := fun _ _ => True) ⟨fun p hp => by simp at hp, fun p hp => by simp at hp, noE_ok ρ⟩ trivial hI)
  rintro e b2 w2 ⟨j, ρ3, x, -, hx, rfl, hI3⟩
  rcases j with _ | j
  · simp at hx
    subst hx
    exact fin_bool hr ⟨fun _ => hA, fun _ => rfl⟩ hI3
  · simp at hx
theorem tail_loop {fn : Func} {m : AM} {ρ1 : Nat → Value} {cl : Code} {rest : List Code} {t tE tB : Tr} {A1 A2 A : Prop} (hl : LoopOk P G W fn.ntmps m ρ1 cl t tE tB A1) (hB : resL P fn.ntmps tB m fn.results.toList = some [.bool false]) (hr : A1 → Tail P G W fn m ρ1 false rest tE A2) (hA : A ↔ A1 ∧ A2) : Tail P G W fn m ρ1 true (cl :: rest) t A := by
  intro ρ hag h2 b w hI
  refine hl ρ hag (h2 rfl) _ (fun h ρ' hag' b w hI2 => ?_) (fun h ρ' hag' b w hI2 => ?_) b w hI
  · refine seqWp_mono ?_ _ _ _ (hr h ρ' hag' (fun h => (by cases h)) b w hI2)
    intro e a w hp
    have e1 : A ↔ A2 := hA.trans ⟨fun h => h.2, fun h2 => ⟨h, h2⟩⟩
    have e2 : A = A2 := propext e1
    rw [e2]
    exact hp
  · exact fin_bool hB ⟨fun h => (by cases h), fun hh => absurd (hA.1 hh).1 h⟩ hI2
theorem tail_piece (hN : NoGo P) (hM : P.follows .mixedOrders = true) {fn : Func} {m : AM} {ρ1 : Nat → Value} {z : Bool} {items : List Code} {t t1 : Tr} {n : Nat} {A : Prop} (hck : chkP (fun F => runL P G noE [] 40 fn.ntmps F (items.take n) t m) 4000 G fn.ntmps [⟨.normal, t1, m⟩] (.o 0 [(2, I 0)]) [] = true) (hr : Tail P G W fn m ρ1 true (items.drop n) t1 A) : Tail P G W fn m ρ1 z items t A := by
  intro ρ hag _ b w hI
  rw [← List.take_append_drop n items]
  refine seqWp_append _ _ _ _ (seqWp_mono ?_ _ _ _ (pieceL hN hM hck (X := fun _ ρ' => ρ' = upd ρ [(2, I 0)]) ⟨fun p hp => by simp at hp, fun p hp => by simp at hp, noE_ok ρ⟩ rfl hI))
  rintro e b2 w2 ⟨j, ρ3, x, rfl, hx, rfl, hI3⟩
  rcases j with _ | j
  · simp at hx
    subst hx
    exact hr _ (fun i hi hne => by rw [upd_other hne]; exact hag i hi hne) (fun _ => by rw [upd_same]; exact dn_dry ρ rfl) b2 w2 hI3
  · simp at hx
/-- the lengths of slices compared, ahead of their loops -/
def lensTo : List Nat → TP
  | [] => .o 0 [(2, I 0)]
  | i :: l => .n (B (bc .neq 8) (LEN (L 10 (1000 + i))) (LEN (L 10 (2000 + i)))) (.o 1 []) (lensTo l)
theorem slice_of {v : Value} (h : hasTag 10 v) : ∃ p n c, v = .slice p n c := by
  obtain ⟨p, n, c, h, -⟩ := hasTag_slice h
  exact ⟨p, n, c, h⟩
def lenOf : Value → Nat
  | .slice _ n _ => n
  | _ => 0
theorem lensTo_sem {ρ : Nat → Value} {X : Nat → (Nat → Value) → Prop} : ∀ (ls : List Nat), (∀ i ∈ ls, hasTag 10 (ρ (1000 + i)) ∧ hasTag 10 (ρ (2000 + i))) → ((∀ i ∈ ls, lenOf (ρ (1000 + i)) = lenOf (ρ (2000 + i))) → X 0 (upd ρ [(2, I 0)])) →
    (¬ (∀ i ∈ ls, lenOf (ρ (1000 + i)) = lenOf (ρ (2000 + i))) → X 1 (upd ρ [])) → (lensTo ls).Sem ρ W X
  | [], _, h1, _ => h1 (fun i h => by cases h)
  | i :: l, ht, h1, h0 => by
    obtain ⟨t1, t2⟩ := ht i List.mem_cons_self
    obtain ⟨p, n, c, e1⟩ := slice_of t1
    obtain ⟨p', n', c', e2⟩ := slice_of t2
    have l1 : dn ρ (LEN (L 10 (1000 + i))) = .int .i64 n := dn_len e1 t1
    have l2 : dn ρ (LEN (L 10 (2000 + i))) = .int .i64 n' := dn_len e2 t2
    have key : ∀ c, @De (thOf ρ W) (B (bc .neq 8) (LEN (L 10 (1000 + i))) (LEN (L 10 (2000 + i)))) (.bool c) → c = !decide ((n : Int) = n') := fun c h => de_test h (by rw [l1, l2]; rfl)
    have en : lenOf (ρ (1000 + i)) = n := by rw [e1]; rfl
    have en' : lenOf (ρ (2000 + i)) = n' := by rw [e2]; rfl
    refine ⟨fun hd => h0 fun h => ?_, fun hd => ?_⟩
    · have h3 := h i List.mem_cons_self
      rw [en, en'] at h3
      have := key _ hd
      rw [h3] at this
      simp at this
    · have e3 : lenOf (ρ (1000 + i)) = lenOf (ρ (2000 + i)) := by
        have := key _ hd
        simp at this
        rw [en, en']
        omega
      refine lensTo_sem l (fun j hj => ht j (List.mem_cons_of_mem _ hj)) (fun h => h1 fun j hj => ?_) (fun h => h0 fun hh => h fun j hj => hh j (List.mem_cons_of_mem _ hj))
      rcases List.mem_cons.1 hj with rfl | hj
      · exact e3
      · exact h j hj
/-- A COMPARISON: cells, then lengths, then rows by loops -/
theorem cmpFn (hN : NoGo P) (hM : P.follows .mixedOrders = true) {l : List Bk} {f : FuncId} {fn : Func} {c : Code} {np : Nat} {gs : List Nat} {items : List It} {ls : List Nat} {env : EnvF} {m : AM} {t tB : Tr} (hf : P.funcs[f]? = some fn) (hb : fn.body = some c)
    (hpre : chkP (fun F => runL P G (fun _ => env) [] 400 fn.ntmps F ((flat c).take np) (argsT fn.ntmps 0 [.agg ⟨letR gs 1000⟩, .agg ⟨letR gs 2000⟩] (.leaf undef)) ⟨G, l⟩) 4000 G fn.ntmps [⟨.normal, t, m⟩, ⟨.ret, tB, m⟩] (eqTo 1000 2000 3000 (lensTo ls) (.o 1 []) items) [] = true)
    (hB : resL P fn.ntmps tB m fn.results.toList = some [.bool false]) (hsz : (Nat.ble fn.ntmps 512 && Nat.ble 2 fn.ntmps) = true) (hit : items.all (itOk gs) = true) (hls : ls.all (fun i => gs[i]? == some 10) = true) (hgs : gs.length < 1000 ∧ ∀ g ∈ gs, g < 16)
    {xa xb : List Value} (ta : Tags gs xa) (tb : Tags gs xb) (sl : Nat → Prop) (henv : @EnvOk (thOf (rhoS xa xb sl) W) P G W env) (hKn : Knows G l W) {A : Prop}
    (hA : A → (∀ x ∈ items, if x.g = 10 then sl x.i else xa[x.i]? = xb[x.i]?) ∧ ∀ i ∈ ls, lenOf ((xa[i]?).getD undef) = lenOf ((xb[i]?).getD undef))
    (hrest : (∀ x ∈ items, if x.g = 10 then sl x.i else xa[x.i]? = xb[x.i]?) → (∀ i ∈ ls, lenOf ((xa[i]?).getD undef) = lenOf ((xb[i]?).getD undef)) → Tail P G W fn m (rhoS xa xb sl) true ((flat c).drop np) t A) :
    Calls P f #[.agg ⟨xa⟩, .agg ⟨xb⟩] W fun e w' => ∃ q, e = .returned (.bool q) ∧ (q = true ↔ A) ∧ Below W.heap.size W w' := by
  let ρ := rhoS xa xb sl
  have hA' : ∀ j, j < gs.length → ρ (1000 + j) = (xa[j]?).getD undef := fun j hj => rhoS_a (by omega)
  have hB' : ∀ j, j < gs.length → ρ (2000 + j) = (xb[j]?).getD undef := fun j hj => rhoS_b (by omega)
  obtain ⟨ok, ag⟩ := items_ok hit hgs.1 ta tb sl
  have agA : (∀ x ∈ items, x.Ag ρ 1000 2000 3000) ↔ (∀ x ∈ items, if x.g = 10 then sl x.i else xa[x.i]? = xb[x.i]?) := ⟨fun h x hx => (ag x hx).1 (h x hx), fun h x hx => (ag x hx).2 (h x hx)⟩
  have lst : ∀ i ∈ ls, hasTag 10 (ρ (1000 + i)) ∧ hasTag 10 (ρ (2000 + i)) ∧ i < gs.length := fun i hi => by
    have hg : gs[i]? = some 10 := by simpa using List.all_eq_true.1 hls i hi
    have hlt := (List.getElem?_eq_some_iff.1 hg).1
    obtain ⟨v1, g1, g2⟩ := ta.2 i 10 hg
    obtain ⟨v2, g3, g4⟩ := tb.2 i 10 hg
    rw [hA' i hlt, hB' i hlt, g1, g3]
    exact ⟨g2, g4, hlt⟩
  have lnA : (∀ i ∈ ls, lenOf (ρ (1000 + i)) = lenOf (ρ (2000 + i))) ↔ ∀ i ∈ ls, lenOf ((xa[i]?).getD undef) = lenOf ((xb[i]?).getD undef) := ⟨fun h i hi => by rw [← hA' i (lst i hi).2.2, ← hB' i (lst i hi).2.2]; exact h i hi, fun h i hi => by rw [hA' i (lst i hi).2.2, hB' i (lst i hi).2.2]; exact h i hi⟩
  letI := thOf ρ W
  have hargs : All (V2 (List.range G)) #[.agg ⟨letR gs 1000⟩, .agg ⟨letR gs 2000⟩] #[.agg ⟨xa⟩, .agg ⟨xb⟩] := by
    have h0 : V2 (List.range G) (.agg ⟨letR gs 1000⟩) (.agg ⟨xa⟩) := ⟨_, rfl, letR_all ta hgs.2 hA'⟩
    have h1 : V2 (List.range G) (.agg ⟨letR gs 2000⟩) (.agg ⟨xb⟩) := ⟨_, rfl, letR_all tb hgs.2 hB'⟩
    exact (All.nil.push h0).push h1
  refine enterP (ρ := ρ) (args := #[.agg ⟨letR gs 1000⟩, .agg ⟨letR gs 2000⟩]) (l := l) (fn := fn) (c := c) hf hb hsz hargs hKn fun b hI => seqWp_code _ _ _ ?_
  rw [← List.take_append_drop np (flat c)]
  refine seqWp_append _ _ _ _ (seqWp_mono ?_ _ _ _ (pieceL hN hM hpre (X := fun j ρ' => (j = 0 → ρ' = upd ρ [(2, I 0)] ∧ (∀ x ∈ items, if x.g = 10 then sl x.i else xa[x.i]? = xb[x.i]?) ∧ ∀ i ∈ ls, lenOf ((xa[i]?).getD undef) = lenOf ((xb[i]?).getD undef)) ∧ (j = 1 → ¬ A))
    ⟨fun p hp => by simp at hp, fun p hp => by simp at hp, fun F _ => henv⟩ ?_ hI))
  · rintro e b1 w1 ⟨j, ρ2, x, hX, hx, rfl, hI1⟩
    rcases j with _ | _ | j
    · simp at hx
      subst hx
      obtain ⟨rfl, g3, g4⟩ := hX.1 rfl
      exact hrest g3 g4 _ (fun i hi hne => upd_other hne) (fun _ => by rw [upd_same]; exact dn_dry ρ rfl) b1 w1 hI1
    · simp at hx
      subst hx
      exact fin_bool hB ⟨fun h => (by cases h), fun h => absurd h (hX.2 rfl)⟩ hI1
    · simp at hx
  · refine eqTo_sem items ok (fun h => lensTo_sem ls (fun i hi => ⟨(lst i hi).1, (lst i hi).2.1⟩) (fun hl => ⟨fun _ => ⟨rfl, agA.1 h, lnA.1 hl⟩, fun e => (by cases e)⟩) (fun hl => ⟨fun e => (by cases e), fun _ hh => hl (lnA.2 (hA hh).2)⟩)) (fun h => ⟨fun e => (by cases e), fun _ hh => h (agA.2 (hA hh).1)⟩)
end
end Go.Sx
