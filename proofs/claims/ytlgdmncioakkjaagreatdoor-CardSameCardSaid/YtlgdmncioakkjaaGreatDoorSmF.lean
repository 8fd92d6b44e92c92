/-
  THE LAW's few(): it answers. By an AI agent.
-/
import Derived.Test.YtlgdmncioakkjaaGreatDoorSmA
import Derived.Test.YtlgdmncioakkjaaGreatDoorSyTo
namespace Go.Proofs.YtlgdmncioakkjaaGreatDoor
open Go.RowKit Go.Sx
noncomputable def cF : Code := (Tryz.f9.body).getD .skip
abbrev pF : Value := .pointer (some ⟨GN, 0, none⟩)
def mF : AM := ⟨GN + 1, [⟨GN, (letR shC.tags 1000).toArray, 30, true, false⟩]⟩
def mFI : AM := ⟨GN + 2, [⟨GN + 1, (letR shA.tags 4000).toArray, 52, true, false⟩, ⟨GN, (letR shC.tags 1000).toArray, 30, true, false⟩]⟩
def mFB : AM := ⟨GN, []⟩
noncomputable def tF0 : Tr := mkT 93 [(1, pF), (2, .bool false), (3, L 3 2)]
noncomputable def tFE : Tr := mkT 93 [(1, pF), (2, .bool false)]
noncomputable def tF1 : Tr := mkT 93 [(1, pF), (2, .bool false), (4, L 3 2)]
noncomputable def tFI : Tr := mkT 93 [(1, pF), (2, .bool false), (4, L 3 2), (5, .pointer (some ⟨GN + 1, 0, none⟩)), (6, L 3 4999)]
noncomputable def tFB : Tr := mkT 93 [(2, .bool false)]
noncomputable def tFG : Tr := mkT 93 [(2, .bool true)]
noncomputable def lF0 : Code := ((flat cF).drop 4).headD .skip
noncomputable def lF1 : Code := ((flat cF).drop 6).headD .skip
noncomputable def bF : Code := ((flat (loopOf lF1)).drop 2).headD .skip
def inOf : Code → Code
  | .block _ x => x
  | _ => .skip
noncomputable def lFI : Code := ((flat (inOf bF)).drop 4).headD .skip
abbrev gt (x : Value) (n : Int) : Value := B (bc .gtr 8) (LEN x) (I n)
theorem pre_few : chkP (fun F => runL PP GN noE [] 40 93 F ((flat cF).take 4) (argsT 93 0 [.agg ⟨letR shC.tags 1000⟩] (.leaf undef)) ⟨GN, []⟩) 4000 GN 93 [⟨.normal, tF0, mF⟩, ⟨.ret, tFB, mFB⟩]
    (.n (gt (L 9 1000) 100) (.o 1 []) (.n (gt (L 10 1012) 10) (.o 1 []) (.n (gt (L 10 1016) 10) (.o 1 []) (.o 0 [(2, I 0)])))) [] = true := by kernel_rfl
theorem ck_few0 : TotCk PP GN 93 4000 2 40 lF0 tF0 tFE tFB mF mFB 1012 4000 shStr.tags (.n (gt (L 9 4000) 100) (.o 2 []) (.o 0 [(2, nxtL 2)])) := ⟨by kernel_rfl, by kernel_rfl, by kernel_rfl, by kernel_rfl, by kernel_rfl, by kernel_rfl, by kernel_rfl⟩
theorem mid_few : chkP (fun F => runL PP GN noE [] 40 93 F (((flat cF).drop 5).take 1) tFE mF) 4000 GN 93 [⟨.normal, tF1, mF⟩] (.o 0 [(2, I 0)]) [] = true := by kernel_rfl
theorem head_few : chkP (fun F => runL PP GN noE [] 40 93 F ((flat (loopOf lF1)).take 2) tF1 mF) 4000 GN 93 [⟨.normal, tF1, mF⟩] (.o 0 []) (FB 1016 2) = true := by kernel_rfl
theorem body_few : chkP (fun F => runL PP GN noE (MB 1016 2 4000 shA.tags) 40 93 F ((flat (inOf bF)).take 4) tF1 mF) 5000 GN 93 [⟨.normal, tFI, mFI⟩, ⟨.ret, tFB, mFB⟩]
    (.n (gt (L 10 4017) 8) (.o 1 []) (.n (gt (L 10 4048) 6) (.o 1 []) (.n (gt (L 10 4049) 10) (.o 1 []) (.o 0 [(4999, I 0)])))) (FB 1016 2) = true := by kernel_rfl
theorem ck_fewI : TotCk PP GN 93 5000 4999 40 lFI tFI tF1 tFB mFI mFB 4049 5000 shE.tags (.n (gt (L 10 5063) 8) (.o 2 []) (.n (gt (L 9 5040) 100) (.o 2 []) (.o 0 [(4999, nxtL 4999)]))) := ⟨by kernel_rfl, by kernel_rfl, by kernel_rfl, by kernel_rfl, by kernel_rfl, by kernel_rfl, by kernel_rfl⟩
theorem next_few : chkP (fun F => runL PP GN noE [] 40 93 F ((flat (loopOf lF1)).drop 3) tF1 mFI) 4000 GN 93 [⟨.normal, tF1, mF⟩] (.o 0 [(2, nxtL 2)]) [] = true := by kernel_rfl
theorem fin_few : chkP (fun F => runL PP GN noE [] 40 93 F (flat (loopOf lF1)) tF1 mF) 4000 GN 93 [⟨.normal, tF1, mF⟩, ⟨.exit (loopId lF1), tFE, mF⟩, ⟨.ret, tFB, mFB⟩] (.o 1 []) (FeB 1016 2) = true := by kernel_rfl
theorem end_few : chkP (fun F => runL PP GN noE [] 40 93 F ((flat cF).drop 7) tFE mF) 4000 GN 93 [⟨.ret, tFG, mFB⟩] (.o 0 []) [] = true := by kernel_rfl
def TF0 : TP := .n (gt (L 9 1000) 100) (.o 1 []) (.n (gt (L 10 1012) 10) (.o 1 []) (.n (gt (L 10 1016) 10) (.o 1 []) (.o 0 [(2, I 0)])))
def TF1 : TP := .n (gt (L 9 4000) 100) (.o 2 []) (.o 0 [(2, nxtL 2)])
def TF2 : TP := .n (gt (L 10 4017) 8) (.o 1 []) (.n (gt (L 10 4048) 6) (.o 1 []) (.n (gt (L 10 4049) 10) (.o 1 []) (.o 0 [(4999, I 0)])))
def TF3 : TP := .n (gt (L 10 5063) 8) (.o 2 []) (.n (gt (L 9 5040) 100) (.o 2 []) (.o 0 [(4999, nxtL 4999)]))
theorem goes_eq {T : TP} {ρ : Nat → Value} {E : Es} {W : World} {X : Nat → (Nat → Value) → Prop} (h : okTo E T = true) (h1 : Goes ρ T → X 0 (upd ρ E)) (h0 : ¬ Goes ρ T → ∀ E, X 1 (upd ρ E)) : T.Sem ρ W X := goesTo_sem T h h1 h0
theorem fin_any {P : Program} {G : Nat} {W : World} {fn : Func} {m : AM} {tq : Tr} {ρ : Nat → Value} {q : Bool} {A : Prop} (hr : resL P fn.ntmps tq m fn.results.toList = some [.bool q]) (hq : q = true ↔ A) {b : Act} {w : World} (hI : Inv P G W ρ fn.ntmps tq m b w) : bodyPost P fn (fun e w' => ∃ q, e = .returned (.bool q) ∧ (q = true ↔ A) ∧ Below W.heap.size W w') .ret b w := by
  refine answerP (vs := [.bool q]) (v := .bool q) (.inr rfl) hI hr rfl ?_
  rintro X w' ⟨r, hX⟩ hB
  obtain ⟨-, rfl⟩ := hX
  exact ⟨q, rfl, hq, hB⟩
/-- what few() answers, by the rows that it goes through -/
structure FewD (W : World) (xa : List Value) (rowS rowA : List (List Value)) (rE : Nat → List (List Value)) : Prop where
  s : ∃ v, xa[12]? = some v ∧ RowAt W shStr.tags v rowS
  a : ∃ v, xa[16]? = some v ∧ RowAt W shA.tags v rowA
  e : ∀ k x, rowA[k]? = some x → ∃ v, x[49]? = some v ∧ RowAt W shE.tags v (rE k)
theorem FewD.below {W w : World} {xa : List Value} {rowS rowA : List (List Value)} {rE : Nat → List (List Value)} (h : FewD W xa rowS rowA rE) (hb : Below W.heap.size W w) : FewD w xa rowS rowA rE :=
  ⟨by obtain ⟨v, h1, h2⟩ := h.s; exact ⟨v, h1, h2.below hb⟩, by obtain ⟨v, h1, h2⟩ := h.a; exact ⟨v, h1, h2.below hb⟩, fun k x hx => by obtain ⟨v, h1, h2⟩ := h.e k x hx; exact ⟨v, h1, h2.below hb⟩⟩
theorem fewD_of {W : World} {xa : List Value} {da : List Da} (ha : Dat W shC xa da) : ∃ rowS rowA rE, FewD W xa rowS rowA rE := by
  obtain ⟨v12, a1, -, -, a2⟩ := ha.get 12 10 rfl
  obtain ⟨-, r12, -, ⟨rowS, s1, -, -⟩⟩ := a2 shStr rfl
  obtain ⟨v16, b1, -, -, b2⟩ := ha.get 16 10 rfl
  obtain ⟨-, r16, -, ⟨rowA, s2, s3, s4⟩⟩ := b2 shA rfl
  have each : ∀ k : Nat, ∃ rE : List (List Value), ∀ x, rowA[k]? = some x → ∃ v, x[49]? = some v ∧ RowAt W shE.tags v rE := fun k => by
    cases hx : rowA[k]? with
    | none => exact ⟨[], fun x h => (by cases h)⟩
    | some x =>
      obtain ⟨r, -, dr⟩ := s4 k x hx
      obtain ⟨v49, c1, -, -, c2⟩ := dr.get 49 10 rfl
      obtain ⟨-, r49, -, ⟨rowE, s5, -, -⟩⟩ := c2 shE rfl
      exact ⟨rowE, fun y hy => by injection hy with hy; subst hy; exact ⟨v49, c1, s5⟩⟩
  exact ⟨rowS, rowA, fun k => (each k).choose, ⟨v12, a1, s1⟩, ⟨v16, b1, s2⟩, fun k => (each k).choose_spec⟩
def rhoF (xa : List Value) : Nat → Value := rhoB (fun _ => undef) 1000 xa
/-- the letters of round k over the abilities -/
def rhoFk (xa : List Value) (rowA : List (List Value)) (k : Nat) : Nat → Value := rhoK (rhoF xa) 2 4000 k ((rowA[k]?).getD [])
def fewK (xa : List Value) (rowA : List (List Value)) (rE : Nat → List (List Value)) (k : Nat) : Prop :=
  Goes (rhoFk xa rowA k) TF2 ∧ ∀ j, j < (rE k).length → Goes (rhoK (upd (rhoFk xa rowA k) [(4999, I 0)]) 4999 5000 j (((rE k)[j]?).getD [])) TF3
def fewP (xa : List Value) (rowS rowA : List (List Value)) (rE : Nat → List (List Value)) : Prop :=
  Goes (rhoF xa) TF0 ∧ (∀ k, k < rowS.length → Goes (rhoK (rhoF xa) 2 4000 k ((rowS[k]?).getD [])) TF1) ∧ ∀ k, k < rowA.length → fewK xa rowA rE k
theorem few_ok (hN : NoGo PP) (hM : PP.follows .mixedOrders = true) {W : World} {xa : List Value} {da : List Da} (hK : Knows GN [] W) (ha : Dat W shC xa da) {rowS rowA : List (List Value)} {rE : Nat → List (List Value)} (hD : FewD W xa rowS rowA rE) :
    Calls PP 9 #[.agg ⟨xa⟩] W fun e w' => ∃ q, e = .returned (.bool q) ∧ (q = true ↔ fewP xa rowS rowA rE) ∧ Below W.heap.size W w' := by
  let ρ := rhoF xa
  have hA : ∀ j, j < shC.tags.length → ρ (1000 + j) = (xa[j]?).getD undef := fun j hj => by
    have : shC.tags.length < 1000 := by decide
    show rhoB (fun _ => undef) 1000 xa (1000 + j) = _
    unfold rhoB
    rw [if_pos (by omega), Nat.add_sub_cancel_left]
  have no : ∀ (ρ : Nat → Value) (F : Fs), @SatL (thOf ρ W) F → @EnvOk (thOf ρ W) PP GN W (noE F) := fun ρ F _ _ _ _ _ _ h => by cases h
  have kn0 : ∀ (ρ : Nat → Value), Kn PP GN W ρ noE [] [] := fun ρ => ⟨fun p hp => by simp at hp, fun p hp => by simp at hp, no ρ⟩
  obtain ⟨v12, a1, s1⟩ := hD.s
  obtain ⟨v16, b1, s2⟩ := hD.a
  have e12 : ρ 1012 = v12 := by rw [hA 12 (by decide), a1]; rfl
  have e16 : ρ 1016 = v16 := by rw [hA 16 (by decide), b1]; rfl
  letI := thOf ρ W
  have hargs : All (V2 (List.range GN)) #[.agg ⟨letR shC.tags 1000⟩] #[.agg ⟨xa⟩] := All.nil.push (show V2 (List.range GN) (.agg ⟨letR shC.tags 1000⟩) (.agg ⟨xa⟩) from ⟨_, rfl, letR_all ha.tags (by decide) hA⟩)
  refine enterP (ρ := ρ) (args := #[.agg ⟨letR shC.tags 1000⟩]) (l := []) (fn := Tryz.f9) (c := cF) (by kernel_rfl) (by kernel_rfl) (by kernel_rfl) hargs hK fun b hI => seqWp_code _ _ _ ?_
  rw [← List.take_append_drop 4 (flat cF)]
  refine seqWp_append _ _ _ _ (seqWp_mono ?_ _ _ _ (pieceL hN hM pre_few (X := fun j ρ' => (j = 0 → ρ' = upd ρ [(2, I 0)] ∧ Goes ρ TF0) ∧ (j = 1 → ¬ Goes ρ TF0)) (kn0 ρ) (goes_eq (T := TF0) (E := [(2, I 0)]) (by kernel_rfl) (fun h => ⟨fun _ => ⟨rfl, h⟩, fun h => (by cases h)⟩) (fun h E => ⟨fun h => (by cases h), fun _ => h⟩)) hI))
  rintro e b1 w1 ⟨j, ρ2, x, hX, hx, rfl, hI1⟩
  rcases j with _ | _ | j
  case succ.zero =>
    simp at hx
    subst hx
    exact fin_any (q := false) (fn := Tryz.f9) (by kernel_rfl) ⟨fun h => (by cases h), fun h => absurd h.1 (hX.2 rfl)⟩ hI1
  case succ.succ => simp at hx
  simp at hx
  subst hx
  obtain ⟨e2, hg0⟩ := hX.1 rfl
  subst e2
  have ag1 : Agree 4000 2 (upd ρ [(2, I 0)]) ρ := fun i hi hne => upd_other hne
  show seqWp PP _ ((flat cF).drop 4) b1 w1
  rw [show (flat cF).drop 4 = lF0 :: (flat cF).drop 5 from rfl]
  show Code.wp PP lF0 (Exit.then (seqWp PP _ ((flat cF).drop 5)) _) b1 w1
  refine (totLoop hN hM ck_few0 (by decide) (ρ1 := ρ) (ra := rowS) (by rw [e12]; exact s1)) _ ag1 (by rw [upd_same]; exact dn_dry ρ rfl) _ (fun hg1 ρ3 ag3 b3 w3 hI3 => ?_) (fun hg1 ρ3 b3 w3 hI3 => ?_) b1 w1 hI1
  rotate_left
  · exact fin_any (q := false) (fn := Tryz.f9) (by kernel_rfl) ⟨fun h => (by cases h), fun h => absurd h.2.1 hg1⟩ hI3
  show seqWp PP _ ((flat cF).drop 5) b3 w3
  rw [← List.take_append_drop 1 ((flat cF).drop 5)]
  refine seqWp_append _ _ _ _ (seqWp_mono ?_ _ _ _ (pieceL hN hM mid_few (X := fun _ ρ' => ρ' = upd ρ3 [(2, I 0)]) (kn0 ρ3) rfl hI3))
  rintro e b4 w4 ⟨j, ρ4, x, rfl, hx, rfl, hI4⟩
  rcases j with _ | j
  case succ => simp at hx
  simp at hx
  subst hx
  have ag4 : Agree 4000 2 (upd ρ3 [(2, I 0)]) ρ := fun i hi hne => by rw [upd_other hne]; exact ag3 i hi hne
  show seqWp PP _ (((flat cF).drop 5).drop 1) b4 w4
  rw [List.drop_drop, show (flat cF).drop (5 + 1) = lF1 :: (flat cF).drop 7 from rfl]
  show Code.wp PP lF1 (Exit.then (seqWp PP _ ((flat cF).drop 7)) _) b4 w4
  refine (anyLoop (G := GN) (W := W) hN hM (h0 := 4000) (li := 2) (ρ1 := ρ) (la := rowA.length) (by kernel_rfl) fin_few (fewK xa rowA rE) (fun k hk ρ5 ag5 h5 b5 w5 hI5 => ?_) (fun ρ5 ag5 h5 => rowEnd (by rw [ag5 1016 (by decide) (by decide), e16]; exact s2) h5)) _ ag4 (by rw [upd_same]; exact dn_dry ρ3 rfl) _ (fun hg2 ρ5 ag5 b5 w5 hI5 => ?_) (fun hg2 ρ5 b5 w5 hI5 => ?_) b4 w4 hI4
  rotate_right
  · exact fin_any (q := false) (fn := Tryz.f9) (by kernel_rfl) ⟨fun h => (by cases h), fun h => absurd h.2.2 hg2⟩ hI5
  · have hx := List.getElem?_eq_getElem hk
    obtain ⟨v49, c1, s5⟩ := hD.e k _ hx
    let ρ0 : Nat → Value := fun i => if i = 2 then .int .i64 (k : Int) else ρ i
    obtain ⟨g1, g2⟩ := rowKn (sa := 1016) (li := 2) (ba := 4000) (ρ := ρ0) (gs := shA.tags) (by decide) (by decide) (by decide) (ra := rowA) (by show RowAt W shA.tags (ρ 1016) rowA; rw [e16]; exact s2) hx rfl
    have hl := s2.lt
    let ρe := rhoB ρ0 4000 rowA[k]
    have eK : rhoFk xa rowA k = ρe := by
      show rhoK (rhoF xa) 2 4000 k ((rowA[k]?).getD []) = _
      rw [hx]
      rfl
    have low : ∀ i, i < 4000 → ρe i = ρ5 i := fun i hi => by
      show rhoB ρ0 4000 rowA[k] i = _
      unfold rhoB
      rw [if_neg (by omega)]
      show (if i = 2 then _ else ρ i) = _
      split
      · rename_i e
        rw [e, h5]
      · rename_i e
        exact (ag5 i hi e).symm
    have e49 : ρe 4049 = v49 := by
      show rhoB ρ0 4000 rowA[k] 4049 = _
      unfold rhoB
      rw [if_pos (by decide), show 4049 - 4000 = 49 from rfl, c1]
      rfl
    have hI6 : Inv PP GN W ρe 93 tF1 mF b5 w5 := hI5.congr (h0 := 4000) (by kernel_rfl) (by kernel_rfl) low
    rw [← List.take_append_drop 2 (flat (loopOf lF1))]
    refine seqWp_append _ _ _ _ (seqWp_mono ?_ _ _ _ (pieceL hN hM head_few (X := fun _ ρ' => ρ' = ρe) ⟨g1, fun p hp => by simp at hp, no ρe⟩ rfl hI6))
    rintro e b6 w6 ⟨j, ρ6, x, rfl, hx', rfl, hI7⟩
    rcases j with _ | j
    case succ => simp at hx'
    simp at hx'
    subst hx'
    show seqWp PP _ ((flat (loopOf lF1)).drop 2) b6 w6
    rw [show (flat (loopOf lF1)).drop 2 = .block 3 (inOf bF) :: (flat (loopOf lF1)).drop 3 from rfl]
    show Code.wp PP (.block 3 (inOf bF)) (Exit.then (seqWp PP _ ((flat (loopOf lF1)).drop 3)) _) b6 w6
    refine wp_block (seqWp_code _ _ _ ?_)
    rw [← List.take_append_drop 4 (flat (inOf bF))]
    refine seqWp_append _ _ _ _ (seqWp_mono ?_ _ _ _ (pieceL hN hM body_few (X := fun j ρ' => (j = 0 → ρ' = upd ρe [(4999, I 0)] ∧ Goes ρe TF2) ∧ (j = 1 → ¬ Goes ρe TF2)) ⟨g1, g2, no ρe⟩ (goes_eq (T := TF2) (E := [(4999, I 0)]) (by kernel_rfl) (fun h => ⟨fun _ => ⟨rfl, h⟩, fun h => (by cases h)⟩) (fun h E => ⟨fun h => (by cases h), fun _ => h⟩)) hI7))
    rintro e b7 w7 ⟨j, ρ7, x, hX, hx', rfl, hI8⟩
    rcases j with _ | _ | j
    case succ.zero =>
      simp at hx'
      subst hx'
      exact .inr ⟨rfl, fun h => absurd h.1 (by rw [eK]; exact hX.2 rfl), ρ7, hI8⟩
    case succ.succ => simp at hx'
    simp at hx'
    subst hx'
    obtain ⟨e7, hg3⟩ := hX.1 rfl
    subst e7
    show seqWp PP _ ((flat (inOf bF)).drop 4) b7 w7
    rw [show (flat (inOf bF)).drop 4 = [lFI] from rfl]
    show Code.wp PP lFI (Exit.then (seqWp PP _ []) _) b7 w7
    refine (totLoop hN hM ck_fewI (by decide) (ρ1 := upd ρe [(4999, I 0)]) (ra := rE k) (by rw [upd_other (by decide), e49]; exact s5)) _ (fun _ _ _ => rfl) (by rw [upd_same]; exact dn_dry ρe rfl) _ (fun hg4 ρ8 ag8 b8 w8 hI9 => ?_) (fun hg4 ρ8 b8 w8 hI9 => ?_) b7 w7 hI8
    rotate_left
    · exact .inr ⟨rfl, fun h => absurd h.2 (by rw [eK]; exact hg4), ρ8, hI9⟩
    show seqWp PP _ ((flat (loopOf lF1)).drop 3) b8 w8
    refine seqWp_mono ?_ _ _ _ (pieceL hN hM next_few (X := fun _ ρ' => ρ' = upd ρ8 [(2, nxtL 2)]) (kn0 ρ8) rfl hI9)
    rintro e b9 w9 ⟨j, ρ9, x, rfl, hx', rfl, hI10⟩
    rcases j with _ | j
    case succ => simp at hx'
    simp at hx'
    subst hx'
    have low8 : ∀ i, i < 4000 → ρ8 i = ρ5 i := fun i hi => by rw [ag8 i (by omega) (by omega), upd_other (by omega), low i hi]
    exact .inl ⟨rfl, ⟨by rw [eK]; exact hg3, by rw [eK]; exact hg4⟩, _, fun i hi hne => by rw [upd_other hne, low8 i hi]; exact ag5 i hi hne, nxt_val (by rw [low8 2 (by decide), h5]) (by omega), hI10⟩
  · show seqWp PP _ ((flat cF).drop 7) b5 w5
    refine seqWp_mono ?_ _ _ _ (pieceL hN hM end_few (X := fun _ _ => True) (kn0 ρ5) trivial hI5)
    rintro e b6 w6 ⟨j, ρ6, x, -, hx, rfl, hI6⟩
    rcases j with _ | j
    case succ => simp at hx
    simp at hx
    subst hx
    exact fin_any (q := true) (fn := Tryz.f9) (by kernel_rfl) ⟨fun _ => ⟨hg0, hg1, hg2⟩, fun _ => rfl⟩ hI6
end Go.Proofs.YtlgdmncioakkjaaGreatDoor
