/-
  RUNS RECKONED AHEAD: two rows compared, element by element, by a loop. By an AI agent.
-/
import Derived.Test.YtpejbfdmiinokaaSyZ
namespace Go.Sx
open Go.RowKit
def noE : Fs → EnvF := fun _ _ _ _ => none
/-- the checks of a function that compares two rows: its way to the loop, the loop, the rest; ex: letters that are given a value ahead of the loop -/
structure SameCk (P : Program) (G h0 : Nat) (l : List Bk) (fn : Func) (c : Code) (np : Nat) (args : List Value) (t tE tB tG : Tr) (off : Int) (ex : Es) (env : Fs → EnvF) (M : List (Value × List Value)) (F Fe : Fs) (bod : TP) : Prop where
  pre : chkP (fun F => runL P G noE [] 40 fn.ntmps F ((flat c).take np) (argsT fn.ntmps 0 args (.leaf undef)) ⟨G, l⟩) h0 G fn.ntmps [⟨.normal, t, ⟨G, l⟩⟩, ⟨.ret, tB, ⟨G, l⟩⟩]
    (.n (B (bc .neq 8) (LEN (L 10 0)) (LEN (L 10 1))) (.o 1 []) (.o 0 ((2, I off) :: ex))) [] = true
  spl : (flat c).drop np = ((flat c).drop np).headD .skip :: (flat c).drop (np + 1)
  walk : WalkCk P G fn.ntmps h0 2 40 (((flat c).drop np).headD .skip) t tE tB ⟨G, l⟩ .ret env noE M F Fe bod
  suf : chkP (fun F => runL P G noE [] 40 fn.ntmps F ((flat c).drop (np + 1)) tE ⟨G, l⟩) h0 G fn.ntmps [⟨.ret, tG, ⟨G, l⟩⟩] (.o 0 []) [] = true
  sz : (Nat.ble fn.ntmps 512 && Nat.ble args.toArray.toList.length fn.ntmps) = true
  rB : resL P fn.ntmps tB ⟨G, l⟩ fn.results.toList = some [.bool false]
  rG : resL P fn.ntmps tG ⟨G, l⟩ fn.results.toList = some [.bool true]
section
variable {P : Program} {G : Nat} {W : World}
/-- TWO ROWS COMPARED: true if they are of one length and all their elements agree -/
theorem sameRows (hN : NoGo P) (hM : P.follows .mixedOrders = true) {h0 : Nat} {l : List Bk} {f : FuncId} {fn : Func} {c : Code} {np : Nat} {args : List Value} {t tE tB tG : Tr} {off : Int} {ex : Es} {env : Fs → EnvF} {M : List (Value × List Value)} {F Fe : Fs} {bod : TP}
    (hf : P.funcs[f]? = some fn) (hb : fn.body = some c) (hck : SameCk P G h0 l fn c np args t tE tB tG off ex env M F Fe bod)
    {sa sb : Value} {la lb : Nat} {pa pb : Option Addr} {ca cb : Nat} (hsa : sa = .slice pa la ca) (hta : hasTag 10 sa) (hsb : sb = .slice pb lb cb) (htb : hasTag 10 sb) (hoff : -1 ≤ off ∧ off ≤ 0)
    (E : Nat → Prop) {ρ0 ρ1 : Nat → Value} (h0a : ρ0 0 = sa) (h0b : ρ0 1 = sb) (hρ1 : ρ1 = upd ρ0 ((2, I off) :: ex)) {args' : Array Value} (hargs : @All (@V2 (thOf ρ0 W) (List.range G)) args.toArray args') (hKn : Knows G l W)
    (hbody : ∀ k, k < la → k < lb → ∀ ρ : Nat → Value, (∀ i, i < h0 → i ≠ 2 → ρ i = ρ1 i) → ρ 2 = .int .i64 (k + off) → ∃ ρ' : Nat → Value, (∀ i, i < h0 ∨ i = 2 → ρ' i = ρ i) ∧ Kn P G W ρ' env M F ∧
      ∀ X, (E k → X 0 (upd ρ' [(2, nxtL 2)])) → (¬ E k → X 2 (upd ρ' [])) → bod.Sem ρ' W X)
    (hend : ∀ ρ : Nat → Value, (∀ i, i < h0 → i ≠ 2 → ρ i = ρ1 i) → ρ 2 = .int .i64 (la + off) → @SatL (thOf ρ W) Fe) :
    Calls P f args' W fun e w' => ∃ q, e = .returned (.bool q) ∧ (q = true ↔ (la = lb ∧ ∀ k, k < la → E k)) ∧ Below W.heap.size W w' := by
  have hla : la < 9223372036854775808 := by rw [hsa] at hta; exact hta.2.1
  have env0 : ∀ ρ F, @SatL (thOf ρ W) F → @EnvOk (thOf ρ W) P G W (noE F) := fun ρ F _ _ _ _ _ _ h => by cases h
  have lens : ∀ ρ : Nat → Value, ρ 0 = sa → ρ 1 = sb → dn ρ (LEN (L 10 0)) = .int .i64 la ∧ dn ρ (LEN (L 10 1)) = .int .i64 lb := fun ρ h0 h1 =>
    ⟨dn_len (by rw [h0]; exact hsa) (by rw [h0]; exact hta), dn_len (by rw [h1]; exact hsb) (by rw [h1]; exact htb)⟩
  let R : Ending → World → Prop := fun e w' => ∃ q, e = .returned (.bool q) ∧ (q = true ↔ (la = lb ∧ ∀ k, k < la → E k)) ∧ Below W.heap.size W w'
  have fnB : ∀ (q : Bool) (tq : Tr) (ρ : Nat → Value) (e : Exit) (b : Act) (w : World), resL P fn.ntmps tq ⟨G, l⟩ fn.results.toList = some [.bool q] → (e = .normal ∨ e = .ret) → (q = true ↔ (la = lb ∧ ∀ k, k < la → E k)) → Inv P G W ρ fn.ntmps tq ⟨G, l⟩ b w → bodyPost P fn R e b w := by
    intro q tq ρ e b w hr he hq hI
    refine answerP (vs := [.bool q]) (v := .bool q) he hI hr rfl ?_
    rintro X w' ⟨r, hX⟩ hB
    obtain ⟨-, rfl⟩ := hX
    exact ⟨q, rfl, hq, hB⟩
  refine enterP (ρ := ρ0) (args := args.toArray) (l := l) (fn := fn) (c := c) hf hb hck.sz hargs hKn fun b hI => seqWp_code _ _ _ ?_
  rw [← List.take_append_drop np (flat c)]
  refine seqWp_append _ _ _ _ (seqWp_mono ?_ _ _ _ (pieceL hN hM hck.pre (X := fun j ρ => (j = 0 → ρ = ρ1 ∧ la = lb) ∧ (j = 1 → la ≠ lb)) ⟨fun p hp => by simp at hp, fun p hp => by simp at hp, env0 ρ0⟩ ?_ hI))
  case refine_2 =>
    obtain ⟨l1, l2⟩ := lens ρ0 h0a h0b
    have key : ∀ c, @De (thOf ρ0 W) (B (bc .neq 8) (LEN (L 10 0)) (LEN (L 10 1))) (.bool c) → c = !decide ((la : Int) = lb) := fun c h =>
      de_test h (by rw [l1, l2]; rfl)
    refine ⟨fun h => ⟨fun h => (by cases h), fun _ e => ?_⟩, fun h => ⟨fun _ => ⟨hρ1.symm, ?_⟩, fun h => (by cases h)⟩⟩
    · have := key _ h
      rw [e] at this
      simp at this
    · have := key _ h
      simp at this
      omega
  rintro e b1 w1 ⟨j, ρ2, x, hX, hx, rfl, hI1⟩
  rcases j with _ | _ | j
  · simp at hx
    subst hx
    obtain ⟨rfl, g3⟩ := hX.1 rfl
    have g2 : ρ2 2 = .int .i64 off := by
      rw [hρ1]
      exact dn_dry ρ0 rfl
    show seqWp P _ ((flat c).drop np) b1 w1
    rw [hck.spl]
    refine walkLoop hN hM hck.walk hla hoff E g2 (fun k hk => hbody k hk (by omega)) (fun ρ e0 e2 => ⟨hend ρ e0 e2, fun p hp => by simp at hp, env0 ρ⟩) (fun hall ρ _ b w hI2 => ?_) (fun k hk hnE _ ρ _ _ b w hI2 => ?_) hI1
    · refine seqWp_mono ?_ _ _ _ (pieceL hN hM hck.suf (X := fun _ _ => True) ⟨fun p hp => by simp at hp, fun p hp => by simp at hp, env0 ρ⟩ trivial hI2)
      rintro e b2 w2 ⟨j, ρ3, x, -, hx, rfl, hI3⟩
      rcases j with _ | j
      · simp at hx
        subst hx
        exact fnB true tG ρ3 _ b2 w2 hck.rG (.inr rfl) ⟨fun _ => ⟨g3, hall⟩, fun _ => rfl⟩ hI3
      · simp at hx
    · exact fnB false tB ρ _ b w hck.rB (.inr rfl) ⟨fun h => (by cases h), fun h => absurd (h.2 k hk) hnE⟩ hI2
  · simp at hx
    subst hx
    exact fnB false tB ρ2 _ b1 w1 hck.rB (.inr rfl) ⟨fun h => (by cases h), fun h => absurd h.1 (hX.2 rfl)⟩ hI1
  · simp at hx
/-- rows without slices: a round's letters -/
def M2 (gs : List Nat) : List (Value × List Value) := [(IX gs.length (L 10 0) (L 3 2), letR gs 16), (IX gs.length (L 10 1) (L 3 2), letR gs 64)]
def F2 : Fs := [(B (bc .leq 8) (I 0) (L 3 2), true), (B (bc .lss 8) (L 3 2) (LEN (L 10 0)), true), (B (bc .lss 8) (L 3 2) (LEN (L 10 1)), true), (B (bc .lss 8) (L 3 2) (L 3 3), true)]
def Fe2 : Fs := [(B (bc .lss 8) (L 3 2) (LEN (L 10 0)), false), (B (bc .lss 8) (L 3 2) (L 3 3), false)]
/-- letter 3: the first row's length -/
def ex2 : Es := [(3, LEN (L 10 0))]
/-- ng: elements of one cell, compared by '!=' -/
def bod2 (ng : Bool) (gs : List Nat) : TP := match ng with
  | true => .n (B (bc .neq 8) (L (gs.headD 0) 16) (L (gs.headD 0) 64)) (.o 2 []) (.o 0 [(2, nxtL 2)])
  | false => eqT gs 16 64 (.o 0 [(2, nxtL 2)]) (.o 2 [])
theorem sBin_neq {g : Nat} {X Y : Value} (hg : g ≤ 7 ∨ g = 9) (hX : hasTag g X) (hY : hasTag g Y) : ∃ c, sBin .neq X Y = some (.bool c) ∧ (c = false ↔ X = Y) := by
  obtain ⟨c, h1, h2⟩ := sBin_eql hg hX hY
  rcases hg with hg | rfl
  · obtain ⟨k, a, rfl, hk⟩ := hasTag_int hX hg
    obtain ⟨k', a', rfl, hk'⟩ := hasTag_int hY hg
    have := kN_inj (hk.trans hk'.symm)
    subst this
    refine ⟨_, cmp_sBin rfl k a a', ?_⟩
    simp [cmpI]
  · obtain ⟨s, rfl, -⟩ := hasTag_str hX
    obtain ⟨s', rfl, -⟩ := hasTag_str hY
    refine ⟨!c, ?_, ?_⟩
    · injection h1 with h1
      injection h1 with h1
      rw [← h1]
      rfl
    · rw [← h2]
      cases c <;> simp
theorem bod2_sem {ρ : Nat → Value} {X : Nat → (Nat → Value) → Prop} {ng : Bool} {gs : List Nat} (hng : ng = true → ∃ g, gs = [g] ∧ g ≠ 8) (hgs : ∀ g ∈ gs, g ≤ 9) (ht : ∀ (i : Nat) g, gs[i]? = some g → hasTag g (ρ (16 + i)) ∧ hasTag g (ρ (64 + i)))
    (h1 : (∀ i, i < gs.length → ρ (16 + i) = ρ (64 + i)) → X 0 (upd ρ [(2, nxtL 2)])) (h0 : ¬ (∀ i, i < gs.length → ρ (16 + i) = ρ (64 + i)) → X 2 (upd ρ [])) : (bod2 ng gs).Sem ρ W X := by
  cases ng with
  | false => exact eqT_sem gs 16 64 hgs ht h1 h0
  | true =>
    obtain ⟨g, rfl, h8⟩ := hng rfl
    have hg0 : g ≤ 7 ∨ g = 9 := by
      have := hgs g (by simp)
      omega
    have hg16 : g < 16 := by omega
    have ht0 := ht 0 g rfl
    obtain ⟨c, hc, hiff⟩ := sBin_neq hg0 (X := ρ 16) (Y := ρ 64) ht0.1 ht0.2
    have hsb : sBin .neq (dn ρ (L g 16)) (dn ρ (L g 64)) = some (.bool c) := by
      rw [dn_let' hg16 ht0.1, dn_let' hg16 ht0.2]
      exact hc
    have one : (∀ i, i < [g].length → ρ (16 + i) = ρ (64 + i)) ↔ ρ 16 = ρ 64 := ⟨fun h => h 0 (by simp), fun h i hi => by
      have : i = 0 := by simpa using hi
      subst this
      exact h⟩
    refine ⟨fun hd => ?_, fun hd => ?_⟩
    · have e := de_test hd hsb
      subst e
      refine h0 fun h => ?_
      have := hiff.2 (one.1 h)
      cases this
    · have e := de_test hd hsb
      subst e
      exact h1 (one.2 (hiff.1 rfl))
/-- the letters of two rows compared -/
def rho2 (sa sb n : Value) (k : Nat) (xa xb : List Value) (i : Nat) : Value := if i = 0 then sa else if i = 1 then sb else if i = 2 then .int .i64 k else if i = 3 then n else if i < 64 then (xa[i - 16]?).getD undef else (xb[i - 64]?).getD undef
/-- TWO ROWS OF FLAT ELEMENTS COMPARED -/
theorem flatRows (hN : NoGo P) (hM : P.follows .mixedOrders = true) {l : List Bk} {f : FuncId} {fn : Func} {c : Code} {np : Nat} {t tE tB tG : Tr} {ng : Bool} {gs : List Nat} (hf : P.funcs[f]? = some fn) (hb : fn.body = some c)
    (hck : SameCk P G 4 l fn c np [L 10 0, L 10 1] t tE tB tG 0 ex2 noE (M2 gs) F2 Fe2 (bod2 ng gs)) (hng : ng = true → ∃ g, gs = [g] ∧ g ≠ 8) (hgs : gs.length ≤ 48 ∧ ∀ g ∈ gs, g ≤ 9) {sa sb : Value} {ra rb : List (List Value)} (ha : RowAt W gs sa ra) (hb' : RowAt W gs sb rb) (hKn : Knows G l W) :
    Calls P f #[sa, sb] W fun e w' => ∃ q, e = .returned (.bool q) ∧ (q = true ↔ ra = rb) ∧ Below W.heap.size W w' := by
  have hta := ha.tag
  have htb := hb'.tag
  obtain ⟨pa, ca, hsa, hla, -⟩ := id ha
  obtain ⟨pb, cb, hsb, -⟩ := id hb'
  have env : ∀ ρ F, @SatL (thOf ρ W) F → @EnvOk (thOf ρ W) P G W (noE F) := fun ρ F _ _ _ _ _ _ h => by cases h
  have hti : ∀ k : Nat, k ≤ ra.length → hasTag 3 (.int .i64 (k : Int)) := fun k hk => ⟨rfl, by simp [IntKind.min, IntKind.bits, IntKind.signed]; try omega, by simp [IntKind.max, IntKind.bits, IntKind.signed]; try omega⟩
  have lens : ∀ ρ : Nat → Value, ρ 0 = sa → ρ 1 = sb → dn ρ (LEN (L 10 0)) = .int .i64 ra.length ∧ dn ρ (LEN (L 10 1)) = .int .i64 rb.length := fun ρ h0 h1 =>
    ⟨dn_len (by rw [h0]; exact hsa) (by rw [h0]; exact hta), dn_len (by rw [h1]; exact hsb) (by rw [h1]; exact htb)⟩
  let ρ0 := rho2 sa sb undef 0 [] []
  let n : Value := .int .i64 ra.length
  have hargs : @All (@V2 (thOf ρ0 W) (List.range G)) [L 10 0, L 10 1].toArray #[sa, sb] := by
    letI := thOf ρ0 W
    have h0 : V2 (List.range G) (L 10 0) sa := let_de (ρ := ρ0) (W := W) (g := 10) (i := 0) (by decide) hta
    have h1 : V2 (List.range G) (L 10 1) sb := let_de (ρ := ρ0) (W := W) (g := 10) (i := 1) (by decide) htb
    exact (All.nil.push h0).push h1
  refine (sameRows hN hM hf hb hck hsa hta hsb htb (by decide) (fun k => ra[k]? = rb[k]?) (ρ0 := ρ0) (ρ1 := upd ρ0 ((2, I 0) :: ex2)) rfl rfl rfl hargs hKn ?_ ?_).mono ?_
  · intro k hk hkb ρ e0 e2
    let ρ' := rho2 sa sb n k ((ra[k]?).getD []) ((rb[k]?).getD [])
    have hn : upd ρ0 ((2, I 0) :: ex2) 3 = n := (lens ρ0 rfl rfl).1
    obtain ⟨l1, l2⟩ := lens ρ' rfl rfl
    have lk : dn ρ' (L 3 2) = .int .i64 k := dn_let' (by decide) (hti k (by omega))
    have hra := List.getElem?_eq_getElem hk
    have hrb := List.getElem?_eq_getElem hkb
    have ra16 : ∀ j, j < gs.length → ρ' (16 + j) = ((ra[k])[j]?).getD undef := fun j hj => by
      show rho2 sa sb n k ((ra[k]?).getD []) ((rb[k]?).getD []) (16 + j) = _
      rw [hra]
      unfold rho2
      have := hgs.1
      rw [if_neg (by omega), if_neg (by omega), if_neg (by omega), if_neg (by omega), if_pos (by omega), Nat.add_sub_cancel_left]
      rfl
    have rb64 : ∀ j, j < gs.length → ρ' (64 + j) = ((rb[k])[j]?).getD undef := fun j hj => by
      show rho2 sa sb n k ((ra[k]?).getD []) ((rb[k]?).getD []) (64 + j) = _
      rw [hrb]
      unfold rho2
      rw [if_neg (by omega), if_neg (by omega), if_neg (by omega), if_neg (by omega), if_neg (by omega), Nat.add_sub_cancel_left]
      rfl
    have ln : dn ρ' (L 3 3) = .int .i64 ra.length := dn_let' (by decide) (hti _ (Nat.le_refl _))
    refine ⟨ρ', fun i hi => ?_, ⟨?_, ?_, env ρ'⟩, fun X h1 h0 => ?_⟩
    · rcases (by omega : i = 0 ∨ i = 1 ∨ i = 2 ∨ i = 3) with rfl | rfl | rfl | rfl
      · exact (e0 0 (by decide) (by decide)).symm
      · exact (e0 1 (by decide) (by decide)).symm
      · rw [e2]
        simp [ρ', rho2]
      · rw [e0 3 (by decide) (by decide), hn]
        rfl
    · intro p hp
      simp only [F2, List.mem_cons, List.not_mem_nil, or_false] at hp
      rcases hp with rfl | rfl | rfl | rfl
      · exact de_cmp rfl (x := I 0) (dn_dry ρ' rfl) lk (by simp [cmpI])
      · exact de_cmp rfl lk l1 (by simp [cmpI]; omega)
      · exact de_cmp rfl lk l2 (by simp [cmpI]; omega)
      · exact de_cmp rfl lk ln (by simp [cmpI]; omega)
    · intro p hp
      simp only [M2, List.mem_cons, List.not_mem_nil, or_false] at hp
      rcases hp with rfl | rfl
      · exact RowAt.mem (ρ := ρ') (gs := gs) (a := 0) (i := 2) (b := 16) (k := k) ha rfl hra ra16 (fun g hg => Nat.le_trans (hgs.2 g hg) (by decide))
      · exact RowAt.mem (ρ := ρ') (gs := gs) (a := 1) (i := 2) (b := 64) (k := k) hb' rfl hrb rb64 (fun g hg => Nat.le_trans (hgs.2 g hg) (by decide))
    · obtain ⟨la1, ta⟩ := ha.row hra
      obtain ⟨lb1, tb⟩ := hb'.row hrb
      have heq : (∀ i, i < gs.length → ρ' (16 + i) = ρ' (64 + i)) ↔ ra[k]? = rb[k]? := by
        rw [hra, hrb]
        constructor
        · intro h
          congr 1
          apply List.ext_getElem?
          intro i
          by_cases hi : i < gs.length
          · have := h i hi
            rw [ra16 i hi, rb64 i hi] at this
            have h1 : i < (ra[k]).length := by omega
            have h2 : i < (rb[k]).length := by omega
            rw [List.getElem?_eq_getElem h1, List.getElem?_eq_getElem h2] at this ⊢
            exact congrArg some this
          · rw [List.getElem?_eq_none (by omega), List.getElem?_eq_none (by omega)]
        · intro h i hi
          injection h with h
          rw [ra16 i hi, rb64 i hi, h]
      refine bod2_sem hng hgs.2 (fun i g hg => ?_) (fun h => h1 (heq.1 h)) (fun h => h0 fun e => h (heq.2 e))
      have hi := (List.getElem?_eq_some_iff.1 hg).1
      obtain ⟨v, h1, h2⟩ := ta i g hg
      obtain ⟨v', h3, h4⟩ := tb i g hg
      rw [ra16 i hi, rb64 i hi, h1, h3]
      exact ⟨h2, h4⟩
  · intro ρ e0 e2 p hp
    have e3 : ρ 3 = n := (e0 3 (by decide) (by decide)).trans (lens ρ0 rfl rfl).1
    obtain ⟨l1, -⟩ := lens ρ (e0 0 (by decide) (by decide)) (e0 1 (by decide) (by decide))
    have lk : dn ρ (L 3 2) = .int .i64 ra.length := by
      have e2 : ρ 2 = .int .i64 (ra.length : Int) := by rw [e2]; simp
      rw [dn_let' (by decide) (by rw [e2]; exact hti _ (Nat.le_refl _)), e2]
    have ln : dn ρ (L 3 3) = .int .i64 ra.length := by rw [dn_let' (by decide) (by rw [e3]; exact hti _ (Nat.le_refl _)), e3]
    simp only [Fe2, List.mem_cons, List.not_mem_nil, or_false] at hp
    rcases hp with rfl | rfl
    · exact de_cmp rfl lk l1 (by simp [cmpI])
    · exact de_cmp rfl lk ln (by simp [cmpI])
  · rintro e w' ⟨q, rfl, hq, hB⟩
    refine ⟨q, rfl, hq.trans ⟨fun ⟨h1, h2⟩ => ?_, fun h => ?_⟩, hB⟩
    · apply List.ext_getElem?
      intro i
      by_cases hi : i < ra.length
      · exact h2 i hi
      · rw [List.getElem?_eq_none (by omega), List.getElem?_eq_none (by omega)]
    · subst h
      exact ⟨rfl, fun _ _ => rfl⟩
end
end Go.Sx
