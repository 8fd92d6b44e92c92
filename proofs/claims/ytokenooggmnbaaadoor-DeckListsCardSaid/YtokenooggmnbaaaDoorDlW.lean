/-
  LAYER 23: the law DeckLists, over letters. By an AI agent.
-/
import Derived.Test.YtokenooggmnbaaaDoorDlS
import Derived.Test.YtokenooggmnbaaaDoorSyRz
import Derived.Test.YtokenooggmnbaaaDoorSyLw
namespace Go.Proofs.YtokenooggmnbaaaDoor
open Go.RowKit Go.Sx
noncomputable def c7 : Code := (Tryd.f7.body).getD .skip
noncomputable def tIn : Tr := mkT 26 [(0, L 10 0), (1, L 10 1), (4, .bool false), (5, L 3 2)]
noncomputable def tBn : Tr := mkT 26 [(4, .bool false)]
noncomputable def tGn : Tr := mkT 26 [(4, .bool true)]
theorem ck_ints : SameCk PP GN 4 [] Tryd.f7 c7 4 [L 10 0, L 10 1] tIn tBn tBn tGn 0 ex2 noE (M2 [3]) F2 Fe2 (bod2 true [3]) := ⟨by kernel_rfl, rfl, ⟨by kernel_rfl, by simp, by kernel_rfl, by kernel_rfl, by kernel_rfl, by kernel_rfl⟩, by kernel_rfl, by kernel_rfl, by kernel_rfl, by kernel_rfl⟩
theorem ints7 {W : World} (hN : NoGo PP) (hM : PP.follows .mixedOrders = true) {sa sb : Value} {ra rb : List (List Value)} (ha : RowAt W [3] sa ra) (hb : RowAt W [3] sb rb) (hKn : Knows GN [] W) :
    Calls PP 7 #[sa, sb] W fun e w' => ∃ q, e = .returned (.bool q) ∧ (q = true ↔ ra = rb) ∧ Below W.heap.size W w' :=
  flatRows hN hM (by kernel_rfl) (by kernel_rfl) ck_ints (fun _ => ⟨3, rfl, by decide⟩) (by decide) ha hb hKn
noncomputable def c3 : Code := (Tryd.f3.body).getD .skip
noncomputable def r3 : Code := ((flat c3).drop 3).headD .skip
abbrev aD : Value := .agg #[L 10 0, L 10 1]
def envL : EnvF := envOr (envOne 4 [] (.bool true)) (envOr (envOne 5 [aD] (L 3 3)) (envOne 6 [aD] (L 3 3)))
def spL : List Sp := [.look aD, .ahead (L 3 3), .look aD, .ahead (L 3 3), .look (.bool true), .look (.bool true), .look aD, .call 8 #[aD] 10 20 (some (TI, 1)), .look aD, .call 9 #[aD] 10 21 (some (TI, 1)), .told 7 #[L 10 20, L 10 21] (.bool true), .look (.bool true), .look (.bool true), .ahead (.bool true), .look (.bool true), .look (.bool true)]
noncomputable def zO : Tr := mkT 29 [(1, pD)]
noncomputable def zR : Tr := mkT 29 [(2, .bool true)]
abbrev gt300 (i : Nat) : Value := B (bc .gtr 8) (LEN (L 10 i)) (I 300)
theorem w1 : chkP (fun F => runL PP GN (fun _ => envL) [] 40 29 F ((flat c3).take 3) (argsT 29 0 [aD] (.leaf undef)) ⟨GN, []⟩) 5 GN 29 [⟨.normal, zO, mD⟩, ⟨.ret, zR, ⟨GN, []⟩⟩] (.n (gt300 0) (.o 1 []) (.n (gt300 1) (.o 1 []) (.o 0 []))) [] = true := by kernel_rfl
theorem w2 : allRes PP GN envL [] [] 40 29 (opsOf r3) zO mD spL 0 (opsOf r3).toList spL = wantRes mD spL := by kernel_rfl
theorem w3 : dstsOk (opsOf r3).toList = true := by kernel_rfl
theorem w4 : edgesLow 0 (opsOf r3).toList = true := by kernel_rfl
theorem w5 : noAll (opsOf r3) zO mD spL 0 spL = true := by kernel_rfl
theorem w6 : dep (opsOf r3) 10 7 = true := by kernel_rfl
theorem w7 : dep (opsOf r3) 10 9 = true := by kernel_rfl
theorem w8 : chkP (fun F => runL PP GN noE [] 40 29 F ((flat c3).drop 4) (fillT 29 (fun _ => true) 0 (opsOf r3).toList spL zO) mD) 30 GN 29 [⟨.ret, zR, ⟨GN, []⟩⟩] (.o 0 []) [] = true := by kernel_rfl
section
variable {W : World} {sc sn : Value} {xs cs : List Int}
theorem getD_mem {l : List Int} {i : Nat} (h : i < l.length) : l.getD i 0 ∈ l := by
  rw [List.getD_eq_getElem?_getD, List.getElem?_eq_getElem h]
  exact List.getElem_mem h
theorem listN_mem (h : xs.length < 9223372036854775808) : ∀ i, i ≤ xs.length → ∀ x ∈ listN xs cs i, x ∈ xs
  | 0, _, x, hx => by simp [listN] at hx
  | i + 1, hi, x, hx => by
    simp only [listN, stepL, List.mem_append, List.mem_replicate] at hx
    rcases hx with hx | ⟨-, rfl⟩
    · exact listN_mem h i (by omega) x hx
    · exact getD_mem (by omega)
theorem xs_in (hx : RowAt W [3] sc (rowsOf xs)) : ∀ x ∈ xs, -9223372036854775808 ≤ x ∧ x < 9223372036854775808 := fun x hm => by
  obtain ⟨i, hi, rfl⟩ := List.mem_iff_getElem.1 hm
  have := ints_at hx hi
  rw [List.getD_eq_getElem?_getD, List.getElem?_eq_getElem hi] at this
  exact this
theorem args_aD {ρ : Nat → Value} {r : List Nat} {args' : Array Value} (h0 : ρ 0 = sc) (h1 : ρ 1 = sn) (t0 : hasTag 10 sc) (t1 : hasTag 10 sn) (h : @All (@V2 (thOf ρ W) r) #[aD] args') : args' = #[.agg #[sc, sn]] := by
  letI := thOf ρ W
  obtain ⟨y, l', rfl, hy, hl⟩ := All.cons (l := []) h
  have : l' = [] := by simpa using hl.1.symm
  subst this
  obtain ⟨a', rfl, ha⟩ := hy
  obtain ⟨y0, l0, rfl, k0, ha⟩ := All.cons (l := [L 10 1]) ha
  obtain ⟨y1, l1, e1, k1, hl⟩ := All.cons (l := []) ha
  have : l1 = [] := by simpa using hl.1.symm
  subst this
  have e2 : l0 = [y1] := by simpa using e1
  subst e2
  have k0 : y0 = dn ρ (L 10 0) := k0
  have k1 : y1 = dn ρ (L 10 1) := k1
  rw [dn_let' (g := 10) (by decide) (by rw [h0]; exact t0), h0] at k0
  rw [dn_let' (g := 10) (by decide) (by rw [h1]; exact t1), h1] at k1
  rw [k0, k1]
theorem args_two {ρ : Nat → Value} {r : List Nat} {i j : Nat} {args' : Array Value} (t0 : hasTag 10 (ρ i)) (t1 : hasTag 10 (ρ j)) (h : @All (@V2 (thOf ρ W) r) #[L 10 i, L 10 j] args') : args' = #[ρ i, ρ j] := by
  letI := thOf ρ W
  obtain ⟨y0, l0, rfl, k0, ha⟩ := All.cons (l := [L 10 j]) h
  obtain ⟨y1, l1, e1, k1, hl⟩ := All.cons (l := []) ha
  have : l1 = [] := by simpa using hl.1.symm
  subst this
  have e2 : l0 = [y1] := by simpa using e1
  subst e2
  have k0 : y0 = dn ρ (L 10 i) := k0
  have k1 : y1 = dn ρ (L 10 j) := k1
  rw [dn_let' (g := 10) (by decide) t0] at k0
  rw [dn_let' (g := 10) (by decide) t1] at k1
  rw [k0, k1]
theorem lawLists (hN : NoGo PP) (hM : PP.follows .mixedOrders = true) (hx : RowAt W [3] sc (rowsOf xs)) (hc : RowAt W [3] sn (rowsOf cs)) (hKn : Knows GN [] W)
    (hA : ∀ w, Below W.heap.size W w → Calls PP 4 #[] w fun e w' => e = .returned (.bool true) ∧ Below w.heap.size w w') :
    Calls PP 3 #[.agg #[sc, sn]] W fun e w' => e = .returned (.bool true) ∧ Below W.heap.size W w' := by
  let n : Int := szN cs cs.length
  have hn := szN_le cs cs.length
  let ρ0 : Nat → Value := fun i => if i = 0 then sc else if i = 1 then sn else .int .i64 n
  let R : Ending → World → Prop := fun e w' => e = .returned (.bool true) ∧ Below W.heap.size W w'
  have hlx := hx.lt
  rw [rowsOf_len] at hlx
  have env : ∀ ρ : Nat → Value, ρ 0 = sc → ρ 1 = sn → ρ 3 = .int .i64 n → @EnvOk (thOf ρ W) PP GN W envL := fun ρ h0 h1 h3 => by
    letI := thOf ρ W
    have d3 : dn ρ (L 3 3) = .int .i64 n := dn_i64 h3 (by omega) (by omega)
    refine envOr_ok (envOne_ok rfl fun r w args' ha hw => ?_) (envOr_ok (envOne_ok rfl fun r w args' ha hw => ?_) (envOne_ok rfl fun r w args' ha hw => ?_))
    · have : args' = #[] := Array.eq_empty_of_size_eq_zero ha.1.symm
      subst this
      rw [dn_dry ρ rfl]
      exact hA w hw
    · have := args_aD h0 h1 hx.tag hc.tag ha
      subst this
      rw [d3]
      exact size5 hN hM (hx.below hw) (hc.below hw) (hKn.on hw)
    · have := args_aD h0 h1 hx.tag hc.tag ha
      subst this
      rw [d3]
      exact size6 hN hM (hx.below hw) (hc.below hw) (hKn.on hw)
  have kn : ∀ ρ : Nat → Value, ρ 0 = sc → ρ 1 = sn → ρ 3 = .int .i64 n → Kn PP GN W ρ (fun _ => envL) [] [] := fun ρ h0 h1 h3 => ⟨fun p hp => by simp at hp, fun p hp => by simp at hp, fun _ _ => env ρ h0 h1 h3⟩
  have fin : ∀ (ρ : Nat → Value) (m : AM) (b : Act) (w : World), Inv PP GN W ρ 29 zR m b w → bodyPost PP Tryd.f3 R .ret b w := fun ρ m b w hI => by
    refine answerP (vs := [.bool true]) (v := .bool true) (.inr rfl) hI (by kernel_rfl) rfl ?_
    rintro X w' ⟨r, hX⟩ hB
    obtain ⟨-, rfl⟩ := hX
    exact ⟨rfl, hB⟩
  refine enterP (ρ := ρ0) (args := #[aD]) (l := []) (fn := Tryd.f3) (c := c3) (by kernel_rfl) (by kernel_rfl) (by kernel_rfl) ?_ hKn fun b hI => seqWp_code _ _ _ ?_
  · letI := thOf ρ0 W
    have h0 : V1 (List.range GN) (L 10 0) sc := let_de (ρ := ρ0) (W := W) (g := 10) (i := 0) (by decide) hx.tag
    have h1 : V1 (List.range GN) (L 10 1) sn := let_de (ρ := ρ0) (W := W) (g := 10) (i := 1) (by decide) hc.tag
    exact All.nil.push ⟨#[sc, sn], rfl, (All.nil.push h0).push h1⟩
  rw [← List.take_append_drop 3 (flat c3)]
  refine seqWp_append _ _ _ _ (seqWp_mono ?_ _ _ _ (pieceR hN hM w1 (L := []) (ls := [[], []]) (X := fun _ ρ _ => ρ = ρ0) (by kernel_rfl) (kn ρ0 rfl rfl rfl) ⟨fun _ => rfl, fun _ => ⟨fun _ => rfl, fun _ => rfl⟩⟩ (hI.rows fun _ => [])))
  rintro e b1 w1 ⟨j, ρ1, γ1, x, L1, rfl, hxj, hlj, rfl, hI1⟩
  rcases j with _ | _ | j
  · simp at hxj hlj
    subst hxj hlj
    show seqWp PP _ ((flat c3).drop 3) b1 w1
    rw [show (flat c3).drop 3 = Code.region (idOf r3) (opsOf r3) true :: (flat c3).drop 4 from rfl]
    refine drawAny hN hM (h0 := 10) (sps := spL) (L0 := []) (env := envL) (F := []) (M := []) (post := fun _ _ l => l = rowsOf (listN xs cs (min xs.length cs.length))) (by kernel_rfl) w3 w4 (by kernel_rfl) w5 w2 (fun ρ' h => kn ρ' (h 0 (by omega)) (h 1 (by omega)) (h 3 (by omega))) (fun x hx => by simp at hx) ?_ ?_ hI1 ?_
    · intro i g args tg j row hi r ρ' γ' w args' hb ha
      have h0 : ρ' 0 = sc := (hb.old 0 (by omega)).1
      have h1 : ρ' 1 = sn := (hb.old 1 (by omega)).1
      have key : (g = 8 ∨ g = 9) ∧ args = #[aD] ∧ tg = 10 ∧ row = some (TI, 1) := by
        have hil : i < 16 := (List.getElem?_eq_some_iff.1 hi).1
        revert hi
        rcases (by omega : i = 0 ∨ i = 1 ∨ i = 2 ∨ i = 3 ∨ i = 4 ∨ i = 5 ∨ i = 6 ∨ i = 7 ∨ i = 8 ∨ i = 9 ∨ i = 10 ∨ i = 11 ∨ i = 12 ∨ i = 13 ∨ i = 14 ∨ i = 15) with rfl | rfl | rfl | rfl | rfl | rfl | rfl | rfl | rfl | rfl | rfl | rfl | rfl | rfl | rfl | rfl <;> intro hi <;> simp [spL] at hi
        · obtain ⟨rfl, rfl, rfl, rfl, rfl⟩ := hi; exact ⟨.inl rfl, rfl, rfl, rfl⟩
        · obtain ⟨rfl, rfl, rfl, rfl, rfl⟩ := hi; exact ⟨.inr rfl, rfl, rfl, rfl⟩
      obtain ⟨hg, rfl, rfl, rfl⟩ := key
      have := args_aD h0 h1 hx.tag hc.tag ha
      subst this
      refine ⟨by decide, ?_⟩
      have both : Calls PP g #[.agg #[sc, sn]] w fun e w' => ∃ X, e = .returned X ∧ Below w.heap.size w w' ∧ w'.ownsRow w.heap.size TI 1 X (listN xs cs (min xs.length cs.length)).length (rowsOf (listN xs cs (min xs.length cs.length))).flatten := by
        rcases hg with rfl | rfl
        · exact list8 hN hM (hx.below hb.low) (hc.below hb.low) (hKn.on hb.low)
        · exact list9 hN hM (hx.below hb.low) (hc.below hb.low) (hKn.on hb.low)
      refine both.mono ?_
      rintro e w' ⟨X, rfl, hB, hown⟩
      refine ⟨X, _, rfl, ownsRow_tag hown, hB, rfl, fun e z h => ?_⟩
      injection h with h
      injection h with h1 h2
      subst h1 h2
      exact ⟨rowsOf_z _, by rw [rowsOf_len]; exact hown⟩
    · intro i g args x hi r ρ' γ' w args' hb ha
      have hi10 : i = 10 ∧ g = 7 ∧ args = #[L 10 20, L 10 21] ∧ x = .bool true := by
        have hil : i < 16 := (List.getElem?_eq_some_iff.1 hi).1
        revert hi
        rcases (by omega : i = 0 ∨ i = 1 ∨ i = 2 ∨ i = 3 ∨ i = 4 ∨ i = 5 ∨ i = 6 ∨ i = 7 ∨ i = 8 ∨ i = 9 ∨ i = 10 ∨ i = 11 ∨ i = 12 ∨ i = 13 ∨ i = 14 ∨ i = 15) with rfl | rfl | rfl | rfl | rfl | rfl | rfl | rfl | rfl | rfl | rfl | rfl | rfl | rfl | rfl | rfl <;> intro hi <;> simp [spL] at hi
        obtain ⟨rfl, rfl, rfl⟩ := hi
        exact ⟨rfl, rfl, rfl, rfl⟩
      obtain ⟨rfl, rfl, rfl, rfl⟩ := hi10
      obtain ⟨p1, o1⟩ := hb.done 7 8 #[aD] 10 20 (some (TI, 1)) w6 rfl
      obtain ⟨p2, o2⟩ := hb.done 9 9 #[aD] 10 21 (some (TI, 1)) w7 rfl
      have o1 := o1 _ _ rfl
      have o2 := o2 _ _ rfl
      have := args_two o1.tag o2.tag ha
      subst this
      rw [p1] at o1
      rw [p2] at o2
      have htags := rowsOf_tag (l := listN xs cs (min xs.length cs.length)) fun x hm => xs_in hx x (listN_mem hlx _ (by omega) x hm)
      have r1 : RowAt w [3] (ρ' 20) _ := rowAt_own (gs := [3]) o1.len htags o1.own
      have r2 : RowAt w [3] (ρ' 21) _ := rowAt_own (gs := [3]) o2.len htags o2.own
      refine (ints7 hN hM r1 r2 (hKn.on hb.low)).mono ?_
      rintro e w' ⟨q, rfl, hq, hB⟩
      rw [hq.2 rfl, dn_dry ρ' rfl]
      exact ⟨rfl, hB⟩
    · intro ρ' γ' b' w' hold hpost hI2
      refine seqWp_mono ?_ _ _ _ (pieceR hN hM w8 (ls := [[]]) (X := fun _ _ _ => True) (by kernel_rfl) kn0 trivial hI2)
      rintro e b6 w6 ⟨e2, ρ6, γ6, x, L6, -, hxj, hlj, rfl, hI6⟩
      cases e2 with
      | succ e2 => simp at hxj
      | zero =>
      simp at hxj hlj
      subst hxj hlj
      exact fin _ _ _ _ hI6.inv
  · simp at hxj hlj
    subst hxj hlj
    exact fin _ _ _ _ hI1.inv
  · simp at hxj
end
end Go.Proofs.YtokenooggmnbaaaDoor
