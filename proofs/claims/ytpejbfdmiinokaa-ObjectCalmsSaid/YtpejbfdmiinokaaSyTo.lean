/-
  RUNS RECKONED AHEAD: loops over one row: what they come to is told by the letters alone. By an AI agent.
-/
import Derived.Test.YtpejbfdmiinokaaSyYC
namespace Go.Sx
open Go.RowKit
def Agree (h0 li : Nat) (ρ ρ1 : Nat → Value) : Prop := ∀ i, i < h0 → i ≠ li → ρ i = ρ1 i
/-- leaves: the next round, or out -/
def okLv (li : Nat) : TP → Bool
  | .o 0 [(j, v)] => Nat.beq j li && veq v (nxtL li)
  | .o 2 _ => true
  | .n _ a b => okLv li a && okLv li b
  | _ => false
section
variable {P : Program} {G : Nat} {W : World}
/-- the tree's way leads to its first leaf -/
def Goes (ρ : Nat → Value) : TP → Prop
  | .o j _ => j = 0
  | .n t a b => (dn ρ t = .bool true ∧ Goes ρ a) ∨ (dn ρ t = .bool false ∧ Goes ρ b)
  | .x => False
theorem goes_sem {ρ : Nat → Value} {li : Nat} {X : Nat → (Nat → Value) → Prop} : ∀ (T : TP), okLv li T = true → (Goes ρ T → X 0 (upd ρ [(li, nxtL li)])) → (¬ Goes ρ T → ∀ E, X 2 (upd ρ E)) → T.Sem ρ W X
  | .o 0 [(j, v)], h, h0, _ => by
    have h : (Nat.beq j li && veq v (nxtL li)) = true := h
    rw [Bool.and_eq_true] at h
    have e1 := Nat.eq_of_beq_eq_true h.1
    have e2 := veq_eq h.2
    subst e1 e2
    exact h0 rfl
  | .o 2 E, _, _, h2 => h2 (fun h => absurd (show (2 : Nat) = 0 from h) (by decide)) E
  | .n t a b, h, h0, h2 => by
    have h : (okLv li a && okLv li b) = true := h
    rw [Bool.and_eq_true] at h
    refine ⟨fun hd => ?_, fun hd => ?_⟩ <;> have hd := de_dn hd
    · refine goes_sem a h.1 (fun g => h0 (.inl ⟨hd, g⟩)) (fun g => h2 fun hg => ?_)
      rcases hg with ⟨-, hg⟩ | ⟨hg, -⟩
      · exact g hg
      · rw [hd] at hg
        cases hg
    · refine goes_sem b h.2 (fun g => h0 (.inr ⟨hd, g⟩)) (fun g => h2 fun hg => ?_)
      rcases hg with ⟨hg, -⟩ | ⟨-, hg⟩
      · rw [hd] at hg
        cases hg
      · exact g hg
  | .x, h, _, _ => by cases h
  | .o 0 [], h, _, _ => by cases h
  | .o 0 (_ :: _ :: _), h, _, _ => by cases h
  | .o 1 _, h, _, _ => by cases h
  | .o (_ + 3) _, h, _, _ => by cases h
/-- leaves: on with these letters, or out -/
def okTo (E : Es) : TP → Bool
  | .o 0 E' => eqEs E E'
  | .o 1 _ => true
  | .n _ a b => okTo E a && okTo E b
  | _ => false
where eqEs : Es → Es → Bool
  | [], [] => true
  | (i, u) :: l, (j, v) :: r => Nat.beq i j && veq u v && eqEs l r
  | _, _ => false
theorem eqEs_eq : ∀ {l r : Es}, okTo.eqEs l r = true → l = r
  | [], [], _ => rfl
  | (i, u) :: l, (j, v) :: r, h => by
    have h : (Nat.beq i j && veq u v && okTo.eqEs l r) = true := h
    rw [Bool.and_eq_true, Bool.and_eq_true] at h
    rw [Nat.eq_of_beq_eq_true h.1.1, veq_eq h.1.2, eqEs_eq h.2]
  | [], _ :: _, h => by cases h
  | _ :: _, [], h => by cases h
theorem goesTo_sem {ρ : Nat → Value} {E : Es} {X : Nat → (Nat → Value) → Prop} : ∀ (T : TP), okTo E T = true → (Goes ρ T → X 0 (upd ρ E)) → (¬ Goes ρ T → ∀ E, X 1 (upd ρ E)) → T.Sem ρ W X
  | .o 0 E', h, h0, _ => by
    have e := eqEs_eq (show okTo.eqEs E E' = true from h)
    subst e
    exact h0 rfl
  | .o 1 E, _, _, h2 => h2 (fun h => absurd (show (1 : Nat) = 0 from h) (by decide)) E
  | .n t a b, h, h0, h2 => by
    have h : (okTo E a && okTo E b) = true := h
    rw [Bool.and_eq_true] at h
    refine ⟨fun hd => ?_, fun hd => ?_⟩ <;> have hd := de_dn hd
    · refine goesTo_sem a h.1 (fun g => h0 (.inl ⟨hd, g⟩)) (fun g => h2 fun hg => ?_)
      rcases hg with ⟨-, hg⟩ | ⟨hg, -⟩
      · exact g hg
      · rw [hd] at hg
        cases hg
    · refine goesTo_sem b h.2 (fun g => h0 (.inr ⟨hd, g⟩)) (fun g => h2 fun hg => ?_)
      rcases hg with ⟨hg, -⟩ | ⟨-, hg⟩
      · rw [hd] at hg
        cases hg
      · exact g hg
  | .x, h, _, _ => by cases h
  | .o (_ + 2) _, h, _, _ => by cases h
/-- what a round comes to -/
def RoundTo (P : Program) (G : Nat) (W : World) (nt h0 li : Nat) (ρ1 : Nat → Value) (t tB : Tr) (m mB : AM) (k : Nat) (E : Prop) (e : Exit) (b : Act) (w : World) : Prop :=
  (e = .normal ∧ E ∧ ∃ ρ', Agree h0 li ρ' ρ1 ∧ ρ' li = .int .i64 ((k + 1 : Nat) : Int) ∧ Inv P G W ρ' nt t m b w) ∨ (e = .ret ∧ ¬ E ∧ ∃ ρ', Inv P G W ρ' nt tB mB b w)
/-- a loop that ends, or leaves by return -/
def LoopTo (P : Program) (G : Nat) (W : World) (nt h0 li : Nat) (ρ1 : Nat → Value) (cl : Code) (t tE tB : Tr) (m mB : AM) (A : Prop) : Prop :=
  ∀ ρ : Nat → Value, Agree h0 li ρ ρ1 → ρ li = .int .i64 0 → ∀ Q : Exit → Act → World → Prop, (A → ∀ ρ', Agree h0 li ρ' ρ1 → ∀ b w, Inv P G W ρ' nt tE m b w → Q .normal b w) →
    (¬ A → ∀ ρ' b w, Inv P G W ρ' nt tB mB b w → Q .ret b w) → ∀ b w, Inv P G W ρ nt t m b w → cl.wp P Q b w
theorem anyLoop (hN : NoGo P) (hM : P.follows .mixedOrders = true) {nt h0 li nf : Nat} {cl : Code} {t tE tB : Tr} {m mB : AM} {Fe : Fs} (hlp : isLoop cl = true)
    (hfin : chkP (fun F => runL P G noE [] nf nt F (flat (loopOf cl)) t m) h0 G nt [⟨.normal, t, m⟩, ⟨.exit (loopId cl), tE, m⟩, ⟨.ret, tB, mB⟩] (.o 1 []) Fe = true) {la : Nat} {ρ1 : Nat → Value} (E : Nat → Prop)
    (round : ∀ k, k < la → ∀ ρ : Nat → Value, Agree h0 li ρ ρ1 → ρ li = .int .i64 (k : Int) → ∀ b w, Inv P G W ρ nt t m b w → seqWp P (RoundTo P G W nt h0 li ρ1 t tB m mB k (E k)) (flat (loopOf cl)) b w)
    (hend : ∀ ρ : Nat → Value, Agree h0 li ρ ρ1 → ρ li = .int .i64 (la : Int) → @SatL (thOf ρ W) Fe) : LoopTo P G W nt h0 li ρ1 cl t tE tB m mB (∀ k, k < la → E k) := by
  intro ρ0 hag h1 Q hQ0 hQ1 b w hI
  refine loopL (xs := [⟨.exit (loopId cl), tE, m⟩, ⟨.ret, tB, mB⟩]) (X := fun j ρ => (j = 0 → Agree h0 li ρ ρ1 ∧ ∀ k, k < la → E k) ∧ (j = 1 → ∃ k, k < la ∧ ¬ E k))
    (J := fun n ρ => ∃ k : Nat, k ≤ la ∧ n = la - k ∧ Agree h0 li ρ ρ1 ∧ ρ li = .int .i64 (k : Int) ∧ ∀ i, i < k → E i) hlp rfl ?_ ?_ la ρ0 ⟨0, by omega, by omega, hag, by rw [h1]; rfl, fun i h => by omega⟩ b w hI
  · rintro n ρ ⟨k, hk, hn, e0, e2, hall⟩ b w hI
    by_cases hlt : k < la
    · refine seqWp_mono ?_ _ _ _ (round k hlt ρ e0 e2 b w hI)
      rintro e b' w' (⟨rfl, hE, ρ', g1, g2, g3⟩ | ⟨rfl, hE, ρ', g3⟩)
      · refine ⟨0, ρ', ⟨.normal, t, m⟩, ⟨la - (k + 1), by omega, k + 1, by omega, rfl, g1, g2, fun i hi => ?_⟩, rfl, rfl, g3⟩
        rcases (by omega : i < k ∨ i = k) with h | rfl
        · exact hall i h
        · exact hE
      · exact ⟨2, ρ', ⟨.ret, tB, mB⟩, ⟨fun h => (by cases h), fun _ => ⟨k, hlt, hE⟩⟩, rfl, rfl, g3⟩
    · have hke : k = la := by omega
      subst hke
      refine pieceL hN hM hfin ⟨hend ρ e0 e2, fun p hp => by simp at hp, fun F _ _ _ _ _ _ h => by cases h⟩ ?_ hI
      exact ⟨fun _ => ⟨e0, hall⟩, fun h => (by cases h)⟩
  · intro j ρ2 x b' w' hX2 hx2 hI2
    rcases j with _ | _ | j
    · simp at hx2
      subst hx2
      have ho : outOf (loopId cl) (.exit (loopId cl)) = .normal := by simp [outOf]
      show Q (outOf (loopId cl) (.exit (loopId cl))) b' w'
      rw [ho]
      exact hQ0 (hX2.1 rfl).2 ρ2 (hX2.1 rfl).1 b' w' hI2
    · simp at hx2
      subst hx2
      obtain ⟨k, k1, k2⟩ := hX2.2 rfl
      exact hQ1 (fun h => k2 (h k k1)) ρ2 b' w' hI2
    · simp at hx2
/-- the letters of an element, laid from ba on -/
def rhoB (ρ : Nat → Value) (ba : Nat) (xs : List Value) (i : Nat) : Value := if ba ≤ i ∧ i < ba + 1000 then (xs[i - ba]?).getD undef else ρ i
def MB (sa li ba : Nat) (gs : List Nat) : List (Value × List Value) := [(IX gs.length (L 10 sa) (L 3 li), letR gs ba)]
def FB (sa li : Nat) : Fs := [(B (bc .leq 8) (I 0) (L 3 li), true), (B (bc .lss 8) (L 3 li) (LEN (L 10 sa)), true)]
def FeB (sa li : Nat) : Fs := [(B (bc .lss 8) (L 3 li) (LEN (L 10 sa)), false)]
theorem hti {k : Nat} (hk : k < 9223372036854775808) : hasTag 3 (.int .i64 (k : Int)) := ⟨rfl, by simp [IntKind.min, IntKind.bits, IntKind.signed]; try omega, by simp [IntKind.max, IntKind.bits, IntKind.signed]; try omega⟩
theorem RowAt.lt {gs : List Nat} {s : Value} {ra : List (List Value)} (h : RowAt W gs s ra) : ra.length < 9223372036854775808 := by
  obtain ⟨p, c, -, h1, -⟩ := h
  exact h1
theorem RowAt.len {gs : List Nat} {ρ : Nat → Value} {sa : Nat} {ra : List (List Value)} (h : RowAt W gs (ρ sa) ra) : dn ρ (LEN (L 10 sa)) = .int .i64 ra.length := by
  have ht := h.tag
  obtain ⟨p, c, hs, -⟩ := h
  exact dn_len hs ht
/-- what is known in a round over a row -/
theorem rowKn {sa li ba : Nat} {gs : List Nat} (hgs : gs.length < 1000 ∧ ∀ g ∈ gs, g ≤ 11) (hsa : sa < ba) (hli : li < ba) {ρ : Nat → Value} {ra : List (List Value)} (ha : RowAt W gs (ρ sa) ra) {k : Nat} {x : List Value} (hk : ra[k]? = some x) (h2 : ρ li = .int .i64 (k : Int)) :
    @SatL (thOf (rhoB ρ ba x) W) (FB sa li) ∧ ∀ p ∈ MB sa li ba gs, ∃ A, @De (thOf (rhoB ρ ba x) W) p.1 (.pointer (some A)) ∧ @CellsAt (thOf (rhoB ρ ba x) W) A p.2 := by
  have low : ∀ i, i < ba → rhoB ρ ba x i = ρ i := fun i hi => if_neg (by omega)
  have hlt := (List.getElem?_eq_some_iff.1 hk).1
  have hl := ha.lt
  have ha' : RowAt W gs (rhoB ρ ba x sa) ra := by rw [low sa hsa]; exact ha
  have k2 : rhoB ρ ba x li = .int .i64 (k : Int) := by rw [low li hli, h2]
  have lk : dn (rhoB ρ ba x) (L 3 li) = .int .i64 k := by rw [dn_let' (by decide) (by rw [k2]; exact hti (by omega)), k2]
  constructor
  · intro p hp
    simp only [FB, List.mem_cons, List.not_mem_nil, or_false] at hp
    rcases hp with rfl | rfl
    · exact de_cmp rfl (x := I 0) (dn_dry _ rfl) lk (by simp [cmpI])
    · exact de_cmp rfl lk ha'.len (by simp [cmpI]; omega)
  · intro p hp
    simp only [MB, List.mem_cons, List.not_mem_nil, or_false] at hp
    subst hp
    refine RowAt.mem (ρ := rhoB ρ ba x) (gs := gs) (a := sa) (i := li) (b := ba) (k := k) ha' k2 hk (fun j hj => ?_) hgs.2
    have := hgs.1
    unfold rhoB
    rw [if_pos (by omega), Nat.add_sub_cancel_left]
theorem rowEnd {sa li : Nat} {gs : List Nat} {ρ : Nat → Value} {ra : List (List Value)} (ha : RowAt W gs (ρ sa) ra) (h2 : ρ li = .int .i64 (ra.length : Int)) : @SatL (thOf ρ W) (FeB sa li) := by
  intro p hp
  simp only [FeB, List.mem_cons, List.not_mem_nil, or_false] at hp
  subst hp
  have lk : dn ρ (L 3 li) = .int .i64 ra.length := by rw [dn_let' (by decide) (by rw [h2]; exact hti ha.lt), h2]
  exact de_cmp rfl lk ha.len (by simp [cmpI])
theorem nxt_val {ρ : Nat → Value} {li k : Nat} (h : ρ li = .int .i64 (k : Int)) (hk : k + 1 < 9223372036854775808) : upd ρ [(li, nxtL li)] li = .int .i64 ((k + 1 : Nat) : Int) := by
  rw [upd_same]
  refine dn_bop .add (by decide) ?_ (hti hk)
  rw [dn_let' (by decide) (by rw [h]; exact hti (by omega)), h, dn_dry ρ (v := I 1) rfl]
  show some (Value.int .i64 (IntKind.i64.wrap ((k : Int) + 1))) = _
  rw [wrap_i64 (by omega) (by omega)]
  rfl
/-- the checks of a loop over a row, without loops inside -/
structure TotCk (P : Program) (G nt h0 li nf : Nat) (cl : Code) (t tE tB : Tr) (m mB : AM) (sa ba : Nat) (gs : List Nat) (T : TP) : Prop where
  lp : isLoop cl = true
  bod : chkP (fun F => runL P G noE (MB sa li ba gs) nf nt F (flat (loopOf cl)) t m) h0 G nt [⟨.normal, t, m⟩, ⟨.exit (loopId cl), tE, m⟩, ⟨.ret, tB, mB⟩] T (FB sa li) = true
  lv : okLv li T = true
  fin : chkP (fun F => runL P G noE [] nf nt F (flat (loopOf cl)) t m) h0 G nt [⟨.normal, t, m⟩, ⟨.exit (loopId cl), tE, m⟩, ⟨.ret, tB, mB⟩] (.o 1 []) (FeB sa li) = true
  cv : cvT [] h0 m.n (dpt nt) t t = true
  cm : cvM [] h0 G m m = true
  le : (Nat.blt sa h0 && Nat.blt li h0 && Nat.ble h0 ba && !Nat.beq sa li) = true
/-- the letters of round k, by the letters ahead of the loop alone -/
def rhoK (ρ1 : Nat → Value) (li ba k : Nat) (xs : List Value) : Nat → Value := rhoB (fun i => if i = li then .int .i64 (k : Int) else ρ1 i) ba xs
theorem totLoop (hN : NoGo P) (hM : P.follows .mixedOrders = true) {nt h0 li nf : Nat} {cl : Code} {t tE tB : Tr} {m mB : AM} {sa ba : Nat} {gs : List Nat} {T : TP} (hck : TotCk P G nt h0 li nf cl t tE tB m mB sa ba gs T) (hgs : gs.length < 1000 ∧ ∀ g ∈ gs, g ≤ 11)
    {ρ1 : Nat → Value} {ra : List (List Value)} (ha : RowAt W gs (ρ1 sa) ra) : LoopTo P G W nt h0 li ρ1 cl t tE tB m mB (∀ k, k < ra.length → Goes (rhoK ρ1 li ba k ((ra[k]?).getD [])) T) := by
  have hle := hck.le
  simp only [Bool.and_eq_true, Bool.not_eq_true', Nat.blt_eq] at hle
  obtain ⟨⟨⟨l1, l2⟩, l3⟩, l4⟩ := hle
  have l3 := Nat.le_of_ble_eq_true l3
  have l4 : sa ≠ li := fun e => by
    subst e
    rw [Nat.beq_refl] at l4
    cases l4
  refine anyLoop hN hM hck.lp hck.fin (la := ra.length) _ (fun k hk ρ hag h2 b w hI => ?_) (fun ρ hag h2 => rowEnd (by rw [hag sa l1 l4]; exact ha) h2)
  have hx := List.getElem?_eq_getElem hk
  rw [hx]
  let ρ0 : Nat → Value := fun i => if i = li then .int .i64 (k : Int) else ρ1 i
  have e0 : ρ0 sa = ρ1 sa := if_neg l4
  have e1 : ρ0 li = .int .i64 (k : Int) := if_pos rfl
  obtain ⟨g1, g2⟩ := rowKn (sa := sa) (li := li) (ba := ba) hgs (by omega) (by omega) (ρ := ρ0) (by rw [e0]; exact ha) hx e1
  have low : ∀ i, i < h0 → rhoB ρ0 ba ra[k] i = ρ i := fun i hi => by
    show (if ba ≤ i ∧ i < ba + 1000 then _ else ρ0 i) = _
    rw [if_neg (show ¬ (ba ≤ i ∧ i < ba + 1000) by omega)]
    show (if i = li then _ else ρ1 i) = _
    split
    · rename_i e
      rw [e, h2]
    · rename_i e
      exact (hag i hi e).symm
  have hl := ha.lt
  refine seqWp_mono ?_ _ _ _ (pieceL hN hM hck.bod (X := fun j ρ' => (j = 0 → ρ' = upd (rhoB ρ0 ba ra[k]) [(li, nxtL li)] ∧ Goes (rhoB ρ0 ba ra[k]) T) ∧ j ≠ 1 ∧ (j = 2 → ¬ Goes (rhoB ρ0 ba ra[k]) T)) ⟨g1, g2, fun F _ _ _ _ _ _ h => by cases h⟩
    (goes_sem T hck.lv (fun h => ⟨fun _ => ⟨rfl, h⟩, by decide, fun h => (by cases h)⟩) (fun h E => ⟨fun h => (by cases h), by decide, fun _ => h⟩)) (hI.congr hck.cv hck.cm low))
  rintro e b2 w2 ⟨j, ρ3, x, hX, hx, rfl, hI3⟩
  rcases j with _ | _ | _ | j
  · simp at hx
    subst hx
    obtain ⟨e3, hg⟩ := hX.1 rfl
    subst e3
    exact .inl ⟨rfl, hg, _, fun i hi hne => by rw [upd_other hne, low i hi]; exact hag i hi hne, nxt_val (by rw [low li l2, h2]) (by omega), hI3⟩
  · exact absurd rfl hX.2.1
  · simp at hx
    subst hx
    exact .inr ⟨rfl, hX.2.2 rfl, ρ3, hI3⟩
  · simp at hx
end
end Go.Sx
