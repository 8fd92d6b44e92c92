/-
  LAYER 23: List of the reference, over letters. By an AI agent.
-/
import Derived.Test.YtokenooggmnbaaaDoorDlAlv
import Derived.Test.YtokenooggmnbaaaDoorSyRc
import Derived.Test.YtokenooggmnbaaaDoorSyTo
namespace Go.Proofs.YtokenooggmnbaaaDoor
open Go.RowKit Go.Sx
abbrev TI : TypeId := 3
abbrev TD : TypeId := 24
def noEnv : EnvF := fun _ _ _ => none
noncomputable def c8 : Code := (Tryd.f8.body).getD .skip
abbrev pD : Value := .pointer (some ⟨GN, 0, none⟩)
def mD : AM := ⟨GN + 1, [⟨GN, #[L 10 0, L 10 1], TD, true, false⟩]⟩
noncomputable def tO : Tr := mkT 37 [(1, pD), (3, L 10 4), (11, L 3 3), (12, L 3 2)]
noncomputable def tI : Tr := mkT 37 [(1, pD), (3, L 10 4), (4, L 3 2), (11, L 3 3), (12, L 3 2), (23, L 3 6), (24, L 3 5)]
noncomputable def tR : Tr := mkT 37 [(2, L 10 4)]
noncomputable def lO : Code := ((flat c8).drop 3).headD .skip
noncomputable def bO : Code := ((flat (loopOf lO)).drop 2).headD .skip
noncomputable def lI : Code := ((flat (inOf bO)).drop 2).headD .skip
noncomputable def bI : Code := ((flat (loopOf lI)).drop 2).headD .skip
noncomputable def rI : Code := ((flat (inOf bI)).drop 0).headD .skip
abbrev lt (x y : Value) : Value := B (bc .lss 8) x y
abbrev nx (i : Nat) : Value := B (bc .add 3) (L 3 i) (I 1)
def Ta : TP := .n (lt (LEN (L 10 1)) (LEN (L 10 0))) (.o 0 [(2, I 0), (3, LEN (L 10 1)), (4, .slice none 0 0)]) (.o 0 [(2, I 0), (3, LEN (L 10 0)), (4, .slice none 0 0)])
theorem a1 : chkP (fun F => runL PP GN noE [] 40 37 F ((flat c8).take 3) (argsT 37 0 [.agg #[L 10 0, L 10 1]] (.leaf undef)) ⟨GN, []⟩) 5 GN 37 [⟨.normal, tO, mD⟩] Ta [] = true := by kernel_rfl
def Tb : TP := .n (lt (L 3 2) (L 3 3)) (.o 0 []) (.o 1 [])
theorem a2 : chkP (fun F => runL PP GN noE [] 40 37 F ((flat (loopOf lO)).take 2) tO mD) 5 GN 37 [⟨.normal, tO, mD⟩, ⟨.exit (loopId lO), tO, mD⟩] Tb [] = true := by kernel_rfl
abbrev rest : Value := B (bc .sub 3) (I 250) (LEN (L 10 4))
def Tc : TP := .n (lt rest (L 3 9)) (.o 0 [(5, I 0), (6, rest)]) (.o 0 [(5, I 0), (6, L 3 9)])
def FC : Fs := [(B (bc .leq 8) (I 0) (L 3 2), true), (lt (L 3 2) (LEN (L 10 0)), true), (lt (L 3 2) (LEN (L 10 1)), true)]
def MC : List (Value × List Value) := [(IX 1 (L 10 1) (L 3 2), [L 3 9])]
def MX : List (Value × List Value) := [(IX 1 (L 10 0) (L 3 2), [L 3 8])]
theorem a3 : chkP (fun F => runL PP GN noE MC 40 37 F ((flat (inOf bO)).take 2) tO mD) 10 GN 37 [⟨.normal, tI, mD⟩] Tc FC = true := by kernel_rfl
def Td : TP := .n (lt (L 3 5) (L 3 6)) (.o 0 []) (.o 1 [])
theorem a4 : chkP (fun F => runL PP GN noE [] 40 37 F ((flat (loopOf lI)).take 2) tI mD) 7 GN 37 [⟨.normal, tI, mD⟩, ⟨.exit (loopId lI), tI, mD⟩] Td [] = true := by kernel_rfl
noncomputable def tP : Tr := mkT 37 [(1, pD), (3, L 10 4), (4, L 3 2), (11, L 3 3), (12, L 3 2), (23, L 3 6), (24, L 3 5), (26, L 10 4), (32, .slice (some ⟨GN + 1, 0, none⟩) 1 1)]
def mP : AM := ⟨GN + 2, [⟨GN + 1, #[L 3 8], TI, true, false⟩, ⟨GN, #[L 10 0, L 10 1], TD, true, false⟩]⟩
theorem a5 : regCk PP GN noEnv MX FC 40 37 10 7 4 10 TI 1 8 [L 3 8] [(4, L 10 10)] [] [⟨4, TI, 1⟩] rI tI mD tP mP tI mD = true := by kernel_rfl
theorem a6 : chkP (fun F => runL PP GN noE [] 40 37 F ((flat (loopOf lI)).drop 3) tI mD) 7 GN 37 [⟨.normal, tI, mD⟩] (.o 0 [(5, nx 5)]) [] = true := by kernel_rfl
theorem a7 : chkP (fun F => runL PP GN noE [] 40 37 F ((flat (loopOf lO)).drop 3) tI mD) 7 GN 37 [⟨.normal, tO, mD⟩] (.o 0 [(2, nx 2)]) [] = true := by kernel_rfl
theorem a8 : chkP (fun F => runL PP GN noE [] 40 37 F ((flat c8).drop 4) tO mD) 5 GN 37 [⟨.ret, tR, ⟨GN, []⟩⟩] (.o 0 []) [] = true := by kernel_rfl
/-- what List adds for one card -/
def stepL (out : List Int) (x c : Int) : List Int := out ++ List.replicate (min c (250 - out.length)).toNat x
def listN (xs cs : List Int) : Nat → List Int
  | 0 => []
  | i + 1 => stepL (listN xs cs i) (xs.getD i 0) (cs.getD i 0)
theorem listN_le (xs cs : List Int) : ∀ i, (listN xs cs i).length ≤ 250
  | 0 => by simp [listN]
  | i + 1 => by
    have := listN_le xs cs i
    simp only [listN, stepL, List.length_append, List.length_replicate]
    omega
theorem rowsOf_push (l : List Int) (j : Nat) (x : Int) : rowsOf (l ++ List.replicate j x) ++ [[.int .i64 x]] = rowsOf (l ++ List.replicate (j + 1) x) := by
  rw [List.replicate_succ']
  simp [rowsOf]
theorem ints_at {W : World} {s : Value} {l : List Int} (h : RowAt W [3] s (rowsOf l)) {i : Nat} (hi : i < l.length) : -9223372036854775808 ≤ l.getD i 0 ∧ l.getD i 0 < 9223372036854775808 := by
  obtain ⟨-, h2⟩ := h.row (rowsOf_get hi)
  obtain ⟨v, h3, h4⟩ := h2 0 3 rfl
  simp at h3
  subst h3
  obtain ⟨n, h5, h6, h7⟩ := of_tag3 h4
  injection h5 with _ h5
  rw [List.getD_eq_getElem?_getD, h5]
  exact ⟨h6, h7⟩
section
variable {W : World} {sc sn : Value} {xs cs : List Int}
/-- the letters of List -/
structure St (sc sn : Value) (q j : Nat) (ρ : Nat → Value) : Prop where
  a : ρ 0 = sc
  b : ρ 1 = sn
  i : ρ 2 = .int .i64 j
  n : ρ 3 = .int .i64 q
  le : j ≤ q
theorem kn0 {P : Program} {G : Nat} {ρ : Nat → Value} : Kn P G W ρ noE [] [] := ⟨fun p hp => by simp at hp, fun p hp => by simp at hp, noE_ok ρ⟩
theorem list8 (hN : NoGo PP) (hM : PP.follows .mixedOrders = true) (hx : RowAt W [3] sc (rowsOf xs)) (hc : RowAt W [3] sn (rowsOf cs)) (hKn : Knows GN [] W) :
    Calls PP 8 #[.agg #[sc, sn]] W fun e w' => ∃ X, e = .returned X ∧ Below W.heap.size W w' ∧ w'.ownsRow W.heap.size TI 1 X (listN xs cs (min xs.length cs.length)).length (rowsOf (listN xs cs (min xs.length cs.length))).flatten := by
  obtain ⟨n, hn⟩ : ∃ n, n = min xs.length cs.length := ⟨_, rfl⟩
  rw [← hn]
  have hlx := hx.lt
  have hlc := hc.lt
  rw [rowsOf_len] at hlx hlc
  have lens : ∀ ρ : Nat → Value, ρ 0 = sc → ρ 1 = sn → dn ρ (LEN (L 10 0)) = .int .i64 xs.length ∧ dn ρ (LEN (L 10 1)) = .int .i64 cs.length := fun ρ h0 h1 => by
    have e0 := RowAt.len (ρ := ρ) (sa := 0) (by rw [h0]; exact hx)
    have e1 := RowAt.len (ρ := ρ) (sa := 1) (by rw [h1]; exact hc)
    rw [rowsOf_len] at e0 e1
    exact ⟨e0, e1⟩
  let ρ0 : Nat → Value := fun i => if i = 0 then sc else sn
  let R : Ending → World → Prop := fun e w' => ∃ X, e = .returned X ∧ Below W.heap.size W w' ∧ w'.ownsRow W.heap.size TI 1 X (listN xs cs n).length (rowsOf (listN xs cs n)).flatten
  refine enterP (ρ := ρ0) (args := #[.agg #[L 10 0, L 10 1]]) (l := []) (fn := Tryd.f8) (c := c8) (by kernel_rfl) (by kernel_rfl) (by kernel_rfl) ?_ hKn fun b hI => seqWp_code _ _ _ ?_
  · letI := thOf ρ0 W
    have h0 : V1 (List.range GN) (L 10 0) sc := let_de (ρ := ρ0) (W := W) (g := 10) (i := 0) (by decide) hx.tag
    have h1 : V1 (List.range GN) (L 10 1) sn := let_de (ρ := ρ0) (W := W) (g := 10) (i := 1) (by decide) hc.tag
    exact All.nil.push ⟨#[sc, sn], rfl, (All.nil.push h0).push h1⟩
  rw [← List.take_append_drop 3 (flat c8)]
  refine seqWp_append _ _ _ _ (seqWp_mono ?_ _ _ _ (pieceR hN hM a1 (L := []) (ls := [[⟨4, TI, 1⟩]]) (X := fun _ ρ γ => St sc sn n 0 ρ ∧ γ 4 = []) (by kernel_rfl) kn0 ?_ (hI.rows fun _ => [])))
  case refine_2 =>
    obtain ⟨l1, l2⟩ := lens ρ0 rfl rfl
    have key : ∀ c, @De (thOf ρ0 W) (lt (LEN (L 10 1)) (LEN (L 10 0))) (.bool c) → c = decide ((cs.length : Int) < xs.length) := fun c h => de_test h (by rw [l1, l2]; rfl)
    refine ⟨fun h => ⟨⟨rfl, rfl, dn_dry ρ0 (v := I 0) rfl, ?_, by omega⟩, rfl⟩, fun h => ⟨⟨rfl, rfl, dn_dry ρ0 (v := I 0) rfl, ?_, by omega⟩, rfl⟩⟩
    · have := key _ h
      simp at this
      show dn ρ0 (LEN (L 10 1)) = _
      rw [l2]
      congr 1
      omega
    · have := key _ h
      simp at this
      show dn ρ0 (LEN (L 10 0)) = _
      rw [l1]
      congr 1
      omega
  rintro e b1 w1 ⟨j, ρ1, γ1, x, L1, ⟨hS1, hg1⟩, hxj, hlj, rfl, hI1⟩
  cases j with
  | succ j => simp at hxj
  | zero =>
  simp at hxj hlj
  subst hxj hlj
  show seqWp PP (bodyPost PP Tryd.f8 R) ((flat c8).drop 3) b1 w1
  rw [show (flat c8).drop 3 = lO :: (flat c8).drop 4 from rfl]
  refine loopR (xs := [⟨.exit (loopId lO), tO, mD⟩]) (ls := [[⟨4, TI, 1⟩]]) (X := fun _ ρ γ => γ 4 = rowsOf (listN xs cs n)) (J := fun k ρ γ => ∃ i, k = n - i ∧ St sc sn n i ρ ∧ γ 4 = rowsOf (listN xs cs i)) (by kernel_rfl) rfl ?_ ?_ n ρ1 γ1 ⟨0, rfl, hS1, hg1⟩ b1 w1 hI1
  · rintro k ρ γ ⟨i, rfl, hS, hg⟩ b w hI
    have hi3 : dn ρ (L 3 2) = .int .i64 i := dn_i64 hS.i (by have := hS.le; omega) (by have := hS.le; omega)
    have hn3 : dn ρ (L 3 3) = .int .i64 n := dn_i64 hS.n (by omega) (by omega)
    rw [← List.take_append_drop 2 (flat (loopOf lO))]
    refine seqWp_append _ _ _ _ (seqWp_mono ?_ _ _ _ (pieceR hN hM a2 (ls := [[⟨4, TI, 1⟩], [⟨4, TI, 1⟩]]) (X := fun j ρ2 γ2 => ρ2 = ρ ∧ γ2 = γ ∧ (j = 0 → i < n) ∧ (j = 1 → i = n)) (by kernel_rfl) kn0 ?_ hI))
    case refine_2 =>
      have key : ∀ c, @De (thOf ρ W) (lt (L 3 2) (L 3 3)) (.bool c) → c = decide ((i : Int) < n) := fun c h => de_test h (by rw [hi3, hn3]; rfl)
      refine ⟨fun h => ⟨rfl, rfl, fun _ => ?_, fun e => (by cases e)⟩, fun h => ⟨rfl, rfl, fun e => (by cases e), fun _ => ?_⟩⟩
      · have := key _ h
        simp at this
        exact this
      · have := key _ h
        simp at this
        have := hS.le
        omega
    rintro e b2 w2 ⟨j, ρ2, γ2, x, L2, ⟨rfl, rfl, hlt, heq⟩, hxj, hlj, rfl, hI2⟩
    rcases j with _ | _ | j
    · simp at hxj hlj
      subst hxj hlj
      have hlt := hlt rfl
      have hix : i < xs.length := by omega
      have hic : i < cs.length := by omega
      obtain ⟨c0, hc0⟩ : ∃ c, c = cs.getD i 0 := ⟨_, rfl⟩
      obtain ⟨x0, hx0⟩ : ∃ x, x = xs.getD i 0 := ⟨_, rfl⟩
      obtain ⟨out, hout⟩ : ∃ out, out = listN xs cs i := ⟨_, rfl⟩
      have hol : out.length ≤ 250 := by rw [hout]; exact listN_le _ _ _
      have hrc := ints_at hc hic
      have hrx := ints_at hx hix
      rw [← hc0] at hrc
      rw [← hx0] at hrx
      show seqWp PP _ ((flat (loopOf lO)).drop 2) b2 w2
      rw [show (flat (loopOf lO)).drop 2 = bO :: (flat (loopOf lO)).drop 3 from rfl]
      refine blockR (by kernel_rfl) ?_
      rw [← List.take_append_drop 2 (flat (inOf bO))]
      -- the letter of the count
      let ρ3 := setN (setN ρ2 8 (.int .i64 x0)) 9 (.int .i64 c0)
      have hI3 : InvR PP GN W ρ3 γ2 [⟨4, TI, 1⟩] 37 tO mD b2 w2 := hI2.congr (h0 := 5) (by kernel_rfl) (by kernel_rfl) (fun q hq => by show setN _ 9 _ q = _; rw [setN_ne (by omega), setN_ne (by omega)]) (fun x hx => by simp at hx; subst hx; exact ⟨rfl, rfl⟩)
      obtain ⟨l1, l2⟩ := lens ρ3 hS.a hS.b
      have hi3' : dn ρ3 (L 3 2) = .int .i64 i := dn_i64 hS.i (by omega) (by omega)
      obtain ⟨r4, hrow⟩ := hI3.row (x := ⟨4, TI, 1⟩) (by simp)
      have hlen : dn ρ3 (LEN (L 10 4)) = .int .i64 out.length := by
        have := hrow.len_dn
        rw [hg, rowsOf_len, ← hout] at this
        exact this
      have hrest : dn ρ3 rest = .int .i64 (250 - out.length) := dn_sub (dn_dry ρ3 rfl) hlen (by omega) (by omega)
      have hc9 : dn ρ3 (L 3 9) = .int .i64 c0 := dn_i64 rfl hrc.1 hrc.2
      have hF : @SatL (thOf ρ3 W) FC := by
        intro p hp
        simp only [FC, List.mem_cons, List.not_mem_nil, or_false] at hp
        rcases hp with rfl | rfl | rfl
        · exact de_cmp rfl (x := I 0) (dn_dry ρ3 rfl) hi3' (by simp [cmpI])
        · exact de_cmp rfl hi3' l1 (by simp [cmpI]; omega)
        · exact de_cmp rfl hi3' l2 (by simp [cmpI]; omega)
      obtain ⟨q, hq⟩ : ∃ q : Int, q = min c0 (250 - out.length) := ⟨_, rfl⟩
      refine seqWp_append _ _ _ _ (seqWp_mono ?_ _ _ _ (pieceR hN hM a3 (ls := [[⟨4, TI, 1⟩]]) (X := fun _ ρ4 γ4 => St sc sn n i ρ4 ∧ ρ4 8 = .int .i64 x0 ∧ ρ4 5 = .int .i64 0 ∧ ρ4 6 = .int .i64 q ∧ γ4 4 = rowsOf out) (by kernel_rfl) ⟨hF, ?_, noE_ok _⟩ ?_ hI3))
      case refine_2 =>
        intro p hp
        simp only [MC, List.mem_cons, List.not_mem_nil, or_false] at hp
        subst hp
        refine RowAt.mem (ρ := ρ3) (gs := [3]) (a := 1) (i := 2) (b := 9) (k := i) (by rw [show ρ3 1 = sn from hS.b]; exact hc) hS.i (rowsOf_get hic) (fun j hj => ?_) (by decide)
        cases j with
        | zero => rw [← hc0]; rfl
        | succ j => simp at hj
      case refine_3 =>
        have key : ∀ c, @De (thOf ρ3 W) (lt rest (L 3 9)) (.bool c) → c = decide ((250 - out.length : Int) < c0) := fun c h => de_test h (by rw [hrest, hc9]; rfl)
        have hst : St sc sn n i ρ3 := ⟨hS.a, hS.b, hS.i, hS.n, hS.le⟩
        refine ⟨fun h => ⟨⟨hS.a, hS.b, hS.i, hS.n, hS.le⟩, rfl, dn_dry ρ3 (v := I 0) rfl, ?_, by rw [hout]; exact hg⟩, fun h => ⟨⟨hS.a, hS.b, hS.i, hS.n, hS.le⟩, rfl, dn_dry ρ3 (v := I 0) rfl, ?_, by rw [hout]; exact hg⟩⟩
        · have := key _ h
          simp at this
          show dn ρ3 rest = _
          rw [hrest, hq]
          congr 1
          omega
        · have := key _ h
          simp at this
          show dn ρ3 (L 3 9) = _
          rw [hc9, hq]
          congr 1
          omega
      rintro e b4 w4 ⟨j, ρ4, γ4, x, L4, ⟨hS4, h84, h54, h64, hg4⟩, hxj, hlj, rfl, hI4⟩
      cases j with
      | succ j => simp at hxj
      | zero =>
      simp at hxj hlj
      subst hxj hlj
      show seqWp PP _ ((flat (inOf bO)).drop 2) b4 w4
      rw [show (flat (inOf bO)).drop 2 = lI :: (flat (inOf bO)).drop 3 from rfl]
      refine loopR (xs := [⟨.exit (loopId lI), tI, mD⟩]) (ls := [[⟨4, TI, 1⟩]]) (X := fun _ ρ γ => St sc sn n i ρ ∧ γ 4 = rowsOf (out ++ List.replicate q.toNat x0)) (J := fun k ρ γ => ∃ j, k = q.toNat - j ∧ j ≤ q.toNat ∧ St sc sn n i ρ ∧ ρ 8 = .int .i64 x0 ∧ ρ 5 = .int .i64 j ∧ ρ 6 = .int .i64 q ∧ γ 4 = rowsOf (out ++ List.replicate j x0)) (by kernel_rfl) rfl ?_ ?_ q.toNat ρ4 γ4 ⟨0, rfl, by omega, hS4, h84, h54, h64, by simpa using hg4⟩ b4 w4 hI4
      · rintro k ρ γ ⟨j, rfl, hj, hS, h8, h5, h6, hg⟩ b w hI
        have hj5 : dn ρ (L 3 5) = .int .i64 j := dn_i64 h5 (by omega) (by omega)
        have hq6 : dn ρ (L 3 6) = .int .i64 q := dn_i64 h6 (by omega) (by omega)
        rw [← List.take_append_drop 2 (flat (loopOf lI))]
        refine seqWp_append _ _ _ _ (seqWp_mono ?_ _ _ _ (pieceR hN hM a4 (ls := [[⟨4, TI, 1⟩], [⟨4, TI, 1⟩]]) (X := fun e ρ2 γ2 => ρ2 = ρ ∧ γ2 = γ ∧ (e = 0 → j < q.toNat) ∧ (e = 1 → j = q.toNat)) (by kernel_rfl) kn0 ?_ hI))
        case refine_2 =>
          have key : ∀ c, @De (thOf ρ W) (lt (L 3 5) (L 3 6)) (.bool c) → c = decide ((j : Int) < q) := fun c h => de_test h (by rw [hj5, hq6]; rfl)
          refine ⟨fun h => ⟨rfl, rfl, fun _ => ?_, fun e => (by cases e)⟩, fun h => ⟨rfl, rfl, fun e => (by cases e), fun _ => ?_⟩⟩
          · have := key _ h
            simp at this
            omega
          · have := key _ h
            simp at this
            omega
        rintro e b2 w2 ⟨e1, ρ2, γ2, x, L2, ⟨rfl, rfl, hlt, heq⟩, hxj, hlj, rfl, hI2⟩
        rcases e1 with _ | _ | e1
        · simp at hxj hlj
          subst hxj hlj
          have hlt := hlt rfl
          show seqWp PP _ ((flat (loopOf lI)).drop 2) b2 w2
          rw [show (flat (loopOf lI)).drop 2 = bI :: (flat (loopOf lI)).drop 3 from rfl]
          refine blockR (by kernel_rfl) ?_
          rw [show flat (inOf bI) = [rI] from rfl]
          obtain ⟨l1, l2⟩ := lens ρ2 hS.a hS.b
          have hi3 : dn ρ2 (L 3 2) = .int .i64 i := dn_i64 hS.i (by omega) (by omega)
          have hx8 : dn ρ2 (L 3 8) = .int .i64 x0 := dn_i64 h8 hrx.1 hrx.2
          refine regPush hN hM a5 ⟨?_, ?_, noE_ok _⟩ (fun v => noE_ok _ [] (fun p hp => by simp at hp)) hKn.1 hI2 ?_ ?_
          · intro p hp
            simp only [FC, List.mem_cons, List.not_mem_nil, or_false] at hp
            rcases hp with rfl | rfl | rfl
            · exact de_cmp rfl (x := I 0) (dn_dry ρ2 rfl) hi3 (by simp [cmpI])
            · exact de_cmp rfl hi3 l1 (by simp [cmpI]; omega)
            · exact de_cmp rfl hi3 l2 (by simp [cmpI]; omega)
          · intro p hp
            simp only [MX, List.mem_cons, List.not_mem_nil, or_false] at hp
            subst hp
            refine RowAt.mem (ρ := ρ2) (gs := [3]) (a := 0) (i := 2) (b := 8) (k := i) (by rw [hS.a]; exact hx) hS.i (rowsOf_get hix) (fun j hj => ?_) (by decide)
            cases j with
            | zero => rw [← hx0]; exact h8
            | succ j => simp at hj
          · rw [hg, rowsOf_len]
            simp only [List.length_append, List.length_replicate]
            omega
          · intro v b5 w5 hv hI5
            show seqWp PP _ ((flat (loopOf lI)).drop 3) b5 w5
            refine seqWp_mono ?_ _ _ _ (pieceR hN hM a6 (ls := [[⟨4, TI, 1⟩]]) (X := fun _ ρ γ => St sc sn n i ρ ∧ ρ 8 = .int .i64 x0 ∧ ρ 5 = .int .i64 (j + 1 : Nat) ∧ ρ 6 = .int .i64 q ∧ γ 4 = rowsOf (out ++ List.replicate (j + 1) x0)) (by kernel_rfl) kn0 ?_ hI5)
            · rintro e b6 w6 ⟨e2, ρ6, γ6, x, L6, ⟨k1, k2, k3, k4, k5⟩, hxj, hlj, rfl, hI6⟩
              cases e2 with
              | succ e2 => simp at hxj
              | zero =>
              simp at hxj hlj
              subst hxj hlj
              exact ⟨0, ρ6, γ6, _, _, ⟨q.toNat - (j + 1), by omega, j + 1, rfl, by omega, k1, k2, k3, k4, k5⟩, rfl, rfl, rfl, hI6⟩
            · refine ⟨⟨hS.a, hS.b, hS.i, hS.n, hS.le⟩, h8, ?_, h6, ?_⟩
              · show dn (upd (setN ρ2 10 v) [(4, L 10 10)]) (nx 5) = _
                refine dn_add (c := 1) (dn_i64 (ρ := upd (setN ρ2 10 v) [(4, L 10 10)]) (i := 5) (n := j) h5 (by omega) (by omega)) (dn_dry _ rfl) (by omega) (by omega)
              · show γ2 4 ++ [[L 3 8].map (dn ρ2)] = _
                rw [hg, ← rowsOf_push]
                simp [hx8]
        · simp at hxj hlj
          subst hxj hlj
          have := heq rfl
          subst this
          exact ⟨1, ρ2, γ2, _, _, ⟨hS, hg⟩, rfl, rfl, rfl, hI2⟩
        · simp at hxj
      · rintro e ρ5 γ5 x L5 b5 w5 ⟨hS5, hg5⟩ hxj hlj hI5
        cases e with
        | succ e => simp at hxj
        | zero =>
        simp at hxj hlj
        subst hxj hlj
        show seqWp PP _ ((flat (loopOf lO)).drop 3) b5 w5
        refine seqWp_mono ?_ _ _ _ (pieceR hN hM a7 (ls := [[⟨4, TI, 1⟩]]) (X := fun _ ρ γ => St sc sn n (i + 1) ρ ∧ γ 4 = rowsOf (listN xs cs (i + 1))) (by kernel_rfl) kn0 ?_ hI5)
        · rintro e b6 w6 ⟨e2, ρ6, γ6, x, L6, ⟨k1, k2⟩, hxj, hlj, rfl, hI6⟩
          cases e2 with
          | succ e2 => simp at hxj
          | zero =>
          simp at hxj hlj
          subst hxj hlj
          exact ⟨0, ρ6, γ6, _, _, ⟨n - (i + 1), by omega, i + 1, rfl, k1, k2⟩, rfl, rfl, rfl, hI6⟩
        · refine ⟨⟨hS5.a, hS5.b, ?_, hS5.n, by omega⟩, ?_⟩
          · show dn ρ5 (nx 2) = _
            exact dn_add (dn_i64 hS5.i (by omega) (by omega)) (dn_dry _ rfl) (by omega) (by omega)
          · show γ5 4 = _
            rw [hg5, hq, hx0, hc0, hout]
            rfl
    · simp at hxj hlj
      subst hxj hlj
      have := heq rfl
      subst this
      exact ⟨1, ρ2, γ2, _, _, hg, rfl, rfl, rfl, hI2⟩
    · simp at hxj
  · rintro e ρ5 γ5 x L5 b5 w5 hg5 hxj hlj hI5
    cases e with
    | succ e => simp at hxj
    | zero =>
    simp at hxj hlj
    subst hxj hlj
    refine seqWp_mono ?_ _ _ _ (pieceR hN hM a8 (ls := [[⟨4, TI, 1⟩]]) (X := fun _ ρ γ => ρ = ρ5 ∧ γ = γ5) (by kernel_rfl) kn0 ⟨rfl, rfl⟩ hI5)
    rintro e b6 w6 ⟨e2, ρ6, γ6, x, L6, ⟨rfl, rfl⟩, hxj, hlj, rfl, hI6⟩
    cases e2 with
    | succ e2 => simp at hxj
    | zero =>
    simp at hxj hlj
    subst hxj hlj
    refine answerRow (i := 4) (e' := TI) (z := 1) (.inr rfl) hI6 (by kernel_rfl) (by simp) fun X w' hB _ _ hown => ⟨X, rfl, hB, ?_⟩
    rw [hg5, rowsOf_len] at hown
    exact hown
end
end Go.Proofs.YtokenooggmnbaaaDoor
namespace Go.Proofs.YtokenooggmnbaaaDoor
open Go.RowKit Go.Sx
noncomputable def c9 : Code := (Tryd.f9.body).getD .skip
noncomputable def uO : Tr := mkT 43 [(1, pD), (3, L 10 4), (4, L 3 2)]
noncomputable def uI : Tr := mkT 43 [(1, pD), (3, L 10 4), (4, L 3 2), (5, L 3 5)]
noncomputable def uR : Tr := mkT 43 [(2, L 10 4)]
noncomputable def kO : Code := ((flat c9).drop 3).headD .skip
noncomputable def dO : Code := ((flat (loopOf kO)).drop 2).headD .skip
noncomputable def kI : Code := ((flat (inOf dO)).drop 1).headD .skip
noncomputable def dI : Code := ((flat (loopOf kI)).drop 2).headD .skip
noncomputable def sI : Code := ((flat (inOf dI)).drop 0).headD .skip
theorem qq1 : chkP (fun F => runL PP GN noE [] 40 43 F ((flat c9).take 3) (argsT 43 0 [.agg #[L 10 0, L 10 1]] (.leaf undef)) ⟨GN, []⟩) 5 GN 43 [⟨.normal, uO, mD⟩] (.o 0 [(2, I 0), (4, .slice none 0 0)]) [] = true := by kernel_rfl
def Te : TP := .n (lt (L 3 2) (LEN (L 10 0))) (.n (lt (L 3 2) (LEN (L 10 1))) (.o 0 []) (.o 1 [])) (.o 1 [])
theorem qq2 : chkP (fun F => runL PP GN noE [] 40 43 F ((flat (loopOf kO)).take 2) uO mD) 5 GN 43 [⟨.normal, uO, mD⟩, ⟨.exit (loopId kO), uO, mD⟩] Te [] = true := by kernel_rfl
theorem qq3 : chkP (fun F => runL PP GN noE [] 40 43 F ((flat (inOf dO)).take 1) uO mD) 7 GN 43 [⟨.normal, uI, mD⟩] (.o 0 [(5, I 0)]) [] = true := by kernel_rfl
def Tf : TP := .n (lt (L 3 5) (L 3 9)) (.n (lt (LEN (L 10 4)) (I 250)) (.o 0 []) (.o 1 [])) (.o 1 [])
theorem qq4 : chkP (fun F => runL PP GN noE MC 40 43 F ((flat (loopOf kI)).take 2) uI mD) 10 GN 43 [⟨.normal, uI, mD⟩, ⟨.exit (loopId kI), uI, mD⟩] Tf FC = true := by kernel_rfl
noncomputable def uP : Tr := mkT 43 [(1, pD), (3, L 10 4), (4, L 3 2), (5, L 3 5), (34, L 10 4), (40, .slice (some ⟨GN + 1, 0, none⟩) 1 1)]
theorem qq5 : regCk PP GN noEnv MX FC 40 43 10 7 4 10 TI 1 8 [L 3 8] [(4, L 10 10)] [] [⟨4, TI, 1⟩] sI uI mD uP mP uI mD = true := by kernel_rfl
theorem qq6 : chkP (fun F => runL PP GN noE [] 40 43 F ((flat (loopOf kI)).drop 3) uI mD) 7 GN 43 [⟨.normal, uI, mD⟩] (.o 0 [(5, nx 5)]) [] = true := by kernel_rfl
theorem qq7 : chkP (fun F => runL PP GN noE [] 40 43 F ((flat (loopOf kO)).drop 3) uI mD) 7 GN 43 [⟨.normal, uO, mD⟩] (.o 0 [(2, nx 2)]) [] = true := by kernel_rfl
theorem qq8 : chkP (fun F => runL PP GN noE [] 40 43 F ((flat c9).drop 4) uO mD) 5 GN 43 [⟨.ret, uR, ⟨GN, []⟩⟩] (.o 0 []) [] = true := by kernel_rfl
section
variable {W : World} {sc sn : Value} {xs cs : List Int} {ρ : Nat → Value} {i : Nat}
theorem lensD (hx : RowAt W [3] sc (rowsOf xs)) (hc : RowAt W [3] sn (rowsOf cs)) (h0 : ρ 0 = sc) (h1 : ρ 1 = sn) : dn ρ (LEN (L 10 0)) = .int .i64 xs.length ∧ dn ρ (LEN (L 10 1)) = .int .i64 cs.length := by
  have e0 := RowAt.len (ρ := ρ) (sa := 0) (by rw [h0]; exact hx)
  have e1 := RowAt.len (ρ := ρ) (sa := 1) (by rw [h1]; exact hc)
  rw [rowsOf_len] at e0 e1
  exact ⟨e0, e1⟩
theorem fcSat (hx : RowAt W [3] sc (rowsOf xs)) (hc : RowAt W [3] sn (rowsOf cs)) (h0 : ρ 0 = sc) (h1 : ρ 1 = sn) (hi : ρ 2 = .int .i64 i) (hix : i < xs.length) (hic : i < cs.length) : @SatL (thOf ρ W) FC := by
  have hlx := hx.lt
  rw [rowsOf_len] at hlx
  obtain ⟨l1, l2⟩ := lensD hx hc h0 h1
  have hi3 : dn ρ (L 3 2) = .int .i64 i := dn_i64 hi (by omega) (by omega)
  intro p hp
  simp only [FC, List.mem_cons, List.not_mem_nil, or_false] at hp
  rcases hp with rfl | rfl | rfl
  · exact de_cmp rfl (x := I 0) (dn_dry ρ rfl) hi3 (by simp [cmpI])
  · exact de_cmp rfl hi3 l1 (by simp [cmpI]; omega)
  · exact de_cmp rfl hi3 l2 (by simp [cmpI]; omega)
theorem rowMem {l : List Int} {s : Value} {a b : Nat} {p : Value × List Value} (h : RowAt W [3] s (rowsOf l)) (ha : ρ a = s) (hi : ρ 2 = .int .i64 i) (hil : i < l.length) (hb : ρ b = .int .i64 (l.getD i 0)) (hp : p ∈ [(IX 1 (L 10 a) (L 3 2), [L 3 b])]) : ∃ A, @De (thOf ρ W) p.1 (.pointer (some A)) ∧ @CellsAt (thOf ρ W) A p.2 := by
  rw [List.mem_singleton] at hp
  subst hp
  refine RowAt.mem (ρ := ρ) (gs := [3]) (a := a) (i := 2) (b := b) (k := i) (by rw [ha]; exact h) hi (rowsOf_get hil) (fun j hj => ?_) (by decide)
  cases j with
  | zero => exact hb
  | succ j => simp at hj
/-- the letters of the reference's List -/
structure Su (sc sn : Value) (q j : Nat) (ρ : Nat → Value) : Prop where
  a : ρ 0 = sc
  b : ρ 1 = sn
  i : ρ 2 = .int .i64 j
  le : j ≤ q
theorem list9 (hN : NoGo PP) (hM : PP.follows .mixedOrders = true) (hx : RowAt W [3] sc (rowsOf xs)) (hc : RowAt W [3] sn (rowsOf cs)) (hKn : Knows GN [] W) :
    Calls PP 9 #[.agg #[sc, sn]] W fun e w' => ∃ X, e = .returned X ∧ Below W.heap.size W w' ∧ w'.ownsRow W.heap.size TI 1 X (listN xs cs (min xs.length cs.length)).length (rowsOf (listN xs cs (min xs.length cs.length))).flatten := by
  obtain ⟨n, hn⟩ : ∃ n, n = min xs.length cs.length := ⟨_, rfl⟩
  rw [← hn]
  have hlx := hx.lt
  have hlc := hc.lt
  rw [rowsOf_len] at hlx hlc
  let ρ0 : Nat → Value := fun i => if i = 0 then sc else sn
  let R : Ending → World → Prop := fun e w' => ∃ X, e = .returned X ∧ Below W.heap.size W w' ∧ w'.ownsRow W.heap.size TI 1 X (listN xs cs n).length (rowsOf (listN xs cs n)).flatten
  refine enterP (ρ := ρ0) (args := #[.agg #[L 10 0, L 10 1]]) (l := []) (fn := Tryd.f9) (c := c9) (by kernel_rfl) (by kernel_rfl) (by kernel_rfl) ?_ hKn fun b hI => seqWp_code _ _ _ ?_
  · letI := thOf ρ0 W
    have h0 : V1 (List.range GN) (L 10 0) sc := let_de (ρ := ρ0) (W := W) (g := 10) (i := 0) (by decide) hx.tag
    have h1 : V1 (List.range GN) (L 10 1) sn := let_de (ρ := ρ0) (W := W) (g := 10) (i := 1) (by decide) hc.tag
    exact All.nil.push ⟨#[sc, sn], rfl, (All.nil.push h0).push h1⟩
  rw [← List.take_append_drop 3 (flat c9)]
  refine seqWp_append _ _ _ _ (seqWp_mono ?_ _ _ _ (pieceR hN hM qq1 (L := []) (ls := [[⟨4, TI, 1⟩]]) (X := fun _ ρ γ => Su sc sn n 0 ρ ∧ γ 4 = []) (by kernel_rfl) kn0 ⟨⟨rfl, rfl, dn_dry ρ0 (v := I 0) rfl, by omega⟩, rfl⟩ (hI.rows fun _ => [])))
  rintro e b1 w1 ⟨j, ρ1, γ1, x, L1, ⟨hS1, hg1⟩, hxj, hlj, rfl, hI1⟩
  cases j with
  | succ j => simp at hxj
  | zero =>
  simp at hxj hlj
  subst hxj hlj
  show seqWp PP (bodyPost PP Tryd.f9 R) ((flat c9).drop 3) b1 w1
  rw [show (flat c9).drop 3 = kO :: (flat c9).drop 4 from rfl]
  refine loopR (xs := [⟨.exit (loopId kO), uO, mD⟩]) (ls := [[⟨4, TI, 1⟩]]) (X := fun _ ρ γ => γ 4 = rowsOf (listN xs cs n)) (J := fun k ρ γ => ∃ i, k = n - i ∧ Su sc sn n i ρ ∧ γ 4 = rowsOf (listN xs cs i)) (by kernel_rfl) rfl ?_ ?_ n ρ1 γ1 ⟨0, rfl, hS1, hg1⟩ b1 w1 hI1
  · rintro k ρ γ ⟨i, rfl, hS, hg⟩ b w hI
    obtain ⟨l1, l2⟩ := lensD hx hc hS.a hS.b
    have hi3 : dn ρ (L 3 2) = .int .i64 i := dn_i64 hS.i (by have := hS.le; omega) (by have := hS.le; omega)
    rw [← List.take_append_drop 2 (flat (loopOf kO))]
    refine seqWp_append _ _ _ _ (seqWp_mono ?_ _ _ _ (pieceR hN hM qq2 (ls := [[⟨4, TI, 1⟩], [⟨4, TI, 1⟩]]) (X := fun j ρ2 γ2 => ρ2 = ρ ∧ γ2 = γ ∧ (j = 0 → i < n) ∧ (j = 1 → i = n)) (by kernel_rfl) kn0 ?_ hI))
    case refine_2 =>
      have key0 : ∀ c, @De (thOf ρ W) (lt (L 3 2) (LEN (L 10 0))) (.bool c) → c = decide ((i : Int) < xs.length) := fun c h => de_test h (by rw [hi3, l1]; rfl)
      have key1 : ∀ c, @De (thOf ρ W) (lt (L 3 2) (LEN (L 10 1))) (.bool c) → c = decide ((i : Int) < cs.length) := fun c h => de_test h (by rw [hi3, l2]; rfl)
      have hle := hS.le
      refine ⟨fun h => ⟨fun h2 => ⟨rfl, rfl, fun _ => ?_, fun e => (by cases e)⟩, fun h2 => ⟨rfl, rfl, fun e => (by cases e), fun _ => ?_⟩⟩, fun h => ⟨rfl, rfl, fun e => (by cases e), fun _ => ?_⟩⟩
      · have := key0 _ h
        have := key1 _ h2
        simp at *
        omega
      · have := key1 _ h2
        simp at *
        omega
      · have := key0 _ h
        simp at *
        omega
    rintro e b2 w2 ⟨j, ρ2, γ2, x, L2, ⟨rfl, rfl, hlt, heq⟩, hxj, hlj, rfl, hI2⟩
    rcases j with _ | _ | j
    · simp at hxj hlj
      subst hxj hlj
      have hlt := hlt rfl
      have hix : i < xs.length := by omega
      have hic : i < cs.length := by omega
      obtain ⟨c0, hc0⟩ : ∃ c, c = cs.getD i 0 := ⟨_, rfl⟩
      obtain ⟨x0, hx0⟩ : ∃ x, x = xs.getD i 0 := ⟨_, rfl⟩
      obtain ⟨out, hout⟩ : ∃ out, out = listN xs cs i := ⟨_, rfl⟩
      have hol : out.length ≤ 250 := by rw [hout]; exact listN_le _ _ _
      have hrc := ints_at hc hic
      have hrx := ints_at hx hix
      rw [← hc0] at hrc
      rw [← hx0] at hrx
      show seqWp PP _ ((flat (loopOf kO)).drop 2) b2 w2
      rw [show (flat (loopOf kO)).drop 2 = dO :: (flat (loopOf kO)).drop 3 from rfl]
      refine blockR (by kernel_rfl) ?_
      rw [← List.take_append_drop 1 (flat (inOf dO))]
      let ρ3 := setN (setN ρ2 8 (.int .i64 x0)) 9 (.int .i64 c0)
      have hI3 : InvR PP GN W ρ3 γ2 [⟨4, TI, 1⟩] 43 uO mD b2 w2 := hI2.congr (h0 := 5) (by kernel_rfl) (by kernel_rfl) (fun q hq => by show setN _ 9 _ q = _; rw [setN_ne (by omega), setN_ne (by omega)]) (fun x hx => by simp at hx; subst hx; exact ⟨rfl, rfl⟩)
      obtain ⟨q, hq⟩ : ∃ q : Int, q = min c0 (250 - out.length) := ⟨_, rfl⟩
      refine seqWp_append _ _ _ _ (seqWp_mono ?_ _ _ _ (pieceR hN hM qq3 (ls := [[⟨4, TI, 1⟩]]) (X := fun _ ρ4 γ4 => Su sc sn n i ρ4 ∧ ρ4 8 = .int .i64 x0 ∧ ρ4 9 = .int .i64 c0 ∧ ρ4 5 = .int .i64 0 ∧ γ4 4 = rowsOf out) (by kernel_rfl) (kn0 (ρ := ρ3)) ⟨⟨hS.a, hS.b, hS.i, hS.le⟩, rfl, rfl, dn_dry ρ3 (v := I 0) rfl, by rw [hout]; exact hg⟩ hI3))
      rintro e b4 w4 ⟨j, ρ4, γ4, x, L4, ⟨hS4, h84, h94, h54, hg4⟩, hxj, hlj, rfl, hI4⟩
      cases j with
      | succ j => simp at hxj
      | zero =>
      simp at hxj hlj
      subst hxj hlj
      show seqWp PP _ ((flat (inOf dO)).drop 1) b4 w4
      rw [show (flat (inOf dO)).drop 1 = kI :: (flat (inOf dO)).drop 2 from rfl]
      refine loopR (xs := [⟨.exit (loopId kI), uI, mD⟩]) (ls := [[⟨4, TI, 1⟩]]) (X := fun _ ρ γ => Su sc sn n i ρ ∧ γ 4 = rowsOf (out ++ List.replicate q.toNat x0)) (J := fun k ρ γ => ∃ j, k = q.toNat - j ∧ j ≤ q.toNat ∧ Su sc sn n i ρ ∧ ρ 8 = .int .i64 x0 ∧ ρ 9 = .int .i64 c0 ∧ ρ 5 = .int .i64 j ∧ γ 4 = rowsOf (out ++ List.replicate j x0)) (by kernel_rfl) rfl ?_ ?_ q.toNat ρ4 γ4 ⟨0, rfl, by omega, hS4, h84, h94, h54, by simpa using hg4⟩ b4 w4 hI4
      · rintro k ρ γ ⟨j, rfl, hj, hS, h8, h9, h5, hg⟩ b w hI
        have hj5 : dn ρ (L 3 5) = .int .i64 j := dn_i64 h5 (by omega) (by omega)
        have hc9 : dn ρ (L 3 9) = .int .i64 c0 := dn_i64 h9 hrc.1 hrc.2
        obtain ⟨r4, hrow⟩ := hI.row (x := ⟨4, TI, 1⟩) (by simp)
        have hlen : dn ρ (LEN (L 10 4)) = .int .i64 (out.length + j : Nat) := by
          have := hrow.len_dn
          rw [hg, rowsOf_len, List.length_append, List.length_replicate] at this
          exact this
        rw [← List.take_append_drop 2 (flat (loopOf kI))]
        refine seqWp_append _ _ _ _ (seqWp_mono ?_ _ _ _ (pieceR hN hM qq4 (ls := [[⟨4, TI, 1⟩], [⟨4, TI, 1⟩]]) (X := fun e ρ2 γ2 => ρ2 = ρ ∧ γ2 = γ ∧ (e = 0 → j < q.toNat) ∧ (e = 1 → j = q.toNat)) (by kernel_rfl) ⟨fcSat hx hc hS.a hS.b hS.i hix hic, fun p hp => rowMem hc hS.b hS.i hic (by rw [← hc0]; exact h9) hp, noE_ok _⟩ ?_ hI))
        case refine_2 =>
          have key0 : ∀ c, @De (thOf ρ W) (lt (L 3 5) (L 3 9)) (.bool c) → c = decide ((j : Int) < c0) := fun c h => de_test h (by rw [hj5, hc9]; rfl)
          have key1 : ∀ c, @De (thOf ρ W) (lt (LEN (L 10 4)) (I 250)) (.bool c) → c = decide (((out.length + j : Nat) : Int) < 250) := fun c h => de_test h (by rw [hlen, dn_dry ρ rfl]; rfl)
          refine ⟨fun h => ⟨fun h2 => ⟨rfl, rfl, fun _ => ?_, fun e => (by cases e)⟩, fun h2 => ⟨rfl, rfl, fun e => (by cases e), fun _ => ?_⟩⟩, fun h => ⟨rfl, rfl, fun e => (by cases e), fun _ => ?_⟩⟩
          · have := key0 _ h
            have := key1 _ h2
            simp at *
            omega
          · have := key1 _ h2
            simp at *
            omega
          · have := key0 _ h
            simp at *
            omega
        rintro e b2 w2 ⟨e1, ρ2, γ2, x, L2, ⟨rfl, rfl, hlt, heq⟩, hxj, hlj, rfl, hI2⟩
        rcases e1 with _ | _ | e1
        · simp at hxj hlj
          subst hxj hlj
          have hlt := hlt rfl
          show seqWp PP _ ((flat (loopOf kI)).drop 2) b2 w2
          rw [show (flat (loopOf kI)).drop 2 = dI :: (flat (loopOf kI)).drop 3 from rfl]
          refine blockR (by kernel_rfl) ?_
          rw [show flat (inOf dI) = [sI] from rfl]
          have hx8 : dn ρ2 (L 3 8) = .int .i64 x0 := dn_i64 h8 hrx.1 hrx.2
          refine regPush hN hM qq5 ⟨fcSat hx hc hS.a hS.b hS.i hix hic, fun p hp => rowMem hx hS.a hS.i hix (by rw [← hx0]; exact h8) hp, noE_ok _⟩ (fun v => noE_ok _ [] (fun p hp => by simp at hp)) hKn.1 hI2 ?_ ?_
          · rw [hg, rowsOf_len]
            simp only [List.length_append, List.length_replicate]
            omega
          · intro v b5 w5 hv hI5
            show seqWp PP _ ((flat (loopOf kI)).drop 3) b5 w5
            refine seqWp_mono ?_ _ _ _ (pieceR hN hM qq6 (ls := [[⟨4, TI, 1⟩]]) (X := fun _ ρ γ => Su sc sn n i ρ ∧ ρ 8 = .int .i64 x0 ∧ ρ 9 = .int .i64 c0 ∧ ρ 5 = .int .i64 (j + 1 : Nat) ∧ γ 4 = rowsOf (out ++ List.replicate (j + 1) x0)) (by kernel_rfl) kn0 ?_ hI5)
            · rintro e b6 w6 ⟨e2, ρ6, γ6, x, L6, ⟨k1, k2, k3, k4, k5⟩, hxj, hlj, rfl, hI6⟩
              cases e2 with
              | succ e2 => simp at hxj
              | zero =>
              simp at hxj hlj
              subst hxj hlj
              exact ⟨0, ρ6, γ6, _, _, ⟨q.toNat - (j + 1), by omega, j + 1, rfl, by omega, k1, k2, k3, k4, k5⟩, rfl, rfl, rfl, hI6⟩
            · refine ⟨⟨hS.a, hS.b, hS.i, hS.le⟩, h8, h9, ?_, ?_⟩
              · show dn (upd (setN ρ2 10 v) [(4, L 10 10)]) (nx 5) = _
                refine dn_add (c := 1) (dn_i64 (ρ := upd (setN ρ2 10 v) [(4, L 10 10)]) (i := 5) (n := j) h5 (by omega) (by omega)) (dn_dry _ rfl) (by omega) (by omega)
              · show γ2 4 ++ [[L 3 8].map (dn ρ2)] = _
                rw [hg, ← rowsOf_push]
                simp [hx8]
        · simp at hxj hlj
          subst hxj hlj
          have := heq rfl
          subst this
          exact ⟨1, ρ2, γ2, _, _, ⟨hS, hg⟩, rfl, rfl, rfl, hI2⟩
        · simp at hxj
      · rintro e ρ5 γ5 x L5 b5 w5 ⟨hS5, hg5⟩ hxj hlj hI5
        cases e with
        | succ e => simp at hxj
        | zero =>
        simp at hxj hlj
        subst hxj hlj
        show seqWp PP _ ((flat (loopOf kO)).drop 3) b5 w5
        refine seqWp_mono ?_ _ _ _ (pieceR hN hM qq7 (ls := [[⟨4, TI, 1⟩]]) (X := fun _ ρ γ => Su sc sn n (i + 1) ρ ∧ γ 4 = rowsOf (listN xs cs (i + 1))) (by kernel_rfl) kn0 ?_ hI5)
        · rintro e b6 w6 ⟨e2, ρ6, γ6, x, L6, ⟨k1, k2⟩, hxj, hlj, rfl, hI6⟩
          cases e2 with
          | succ e2 => simp at hxj
          | zero =>
          simp at hxj hlj
          subst hxj hlj
          exact ⟨0, ρ6, γ6, _, _, ⟨n - (i + 1), by omega, i + 1, rfl, k1, k2⟩, rfl, rfl, rfl, hI6⟩
        · refine ⟨⟨hS5.a, hS5.b, ?_, by omega⟩, ?_⟩
          · show dn ρ5 (nx 2) = _
            exact dn_add (dn_i64 hS5.i (by omega) (by omega)) (dn_dry _ rfl) (by omega) (by omega)
          · show γ5 4 = _
            rw [hg5, hq, hx0, hc0, hout]
            rfl
    · simp at hxj hlj
      subst hxj hlj
      have := heq rfl
      subst this
      exact ⟨1, ρ2, γ2, _, _, hg, rfl, rfl, rfl, hI2⟩
    · simp at hxj
  · rintro e ρ5 γ5 x L5 b5 w5 hg5 hxj hlj hI5
    cases e with
    | succ e => simp at hxj
    | zero =>
    simp at hxj hlj
    subst hxj hlj
    refine seqWp_mono ?_ _ _ _ (pieceR hN hM qq8 (ls := [[⟨4, TI, 1⟩]]) (X := fun _ ρ γ => ρ = ρ5 ∧ γ = γ5) (by kernel_rfl) kn0 ⟨rfl, rfl⟩ hI5)
    rintro e b6 w6 ⟨e2, ρ6, γ6, x, L6, ⟨rfl, rfl⟩, hxj, hlj, rfl, hI6⟩
    cases e2 with
    | succ e2 => simp at hxj
    | zero =>
    simp at hxj hlj
    subst hxj hlj
    refine answerRow (i := 4) (e' := TI) (z := 1) (.inr rfl) hI6 (by kernel_rfl) (by simp) fun X w' hB _ _ hown => ⟨X, rfl, hB, ?_⟩
    rw [hg5, rowsOf_len] at hown
    exact hown
end
end Go.Proofs.YtokenooggmnbaaaDoor
