/-
  LAYER 23: Size of both, over letters. By an AI agent.
-/
import Derived.Test.YtokenooggmnbaaaDoorDlR
namespace Go.Proofs.YtokenooggmnbaaaDoor
open Go.RowKit Go.Sx
def szN (cs : List Int) : Nat → Int
  | 0 => 0
  | i + 1 => min (szN cs i + max (cs.getD i 0) 0) 1000000
theorem szN_next (cs : List Int) (i : Nat) : szN cs (i + 1) = min (szN cs i + max (cs.getD i 0) 0) 1000000 := rfl
theorem szN_le (cs : List Int) : ∀ i, 0 ≤ szN cs i ∧ szN cs i ≤ 1000000
  | 0 => by simp [szN]
  | i + 1 => by
    have := szN_le cs i
    simp only [szN]
    omega
noncomputable def c5 : Code := (Tryd.f5.body).getD .skip
noncomputable def c6 : Code := (Tryd.f6.body).getD .skip
abbrev pS : Value := .pointer (some ⟨GN + 1, 0, none⟩)
def mS : AM := ⟨GN + 2, [⟨GN + 1, #[L 3 3], TI, true, false⟩, ⟨GN, #[L 10 0, L 10 1], TD, true, false⟩]⟩
noncomputable def vO : Tr := mkT 20 [(3, pS), (4, .func (.func 15) #[] #[pS]), (9, L 10 1), (10, L 3 4), (11, L 3 2)]
noncomputable def vR : Tr := mkT 20 [(2, L 3 3)]
noncomputable def l5 : Code := ((flat c5).drop 4).headD .skip
def FS : Fs := [(B (bc .leq 8) (I 0) (L 3 3), true), (B (bc .leq 8) (L 3 3) (I 1000000), true), (B (bc .leq 8) (I 0) (L 3 2), true), (lt (L 3 2) (LEN (L 10 1)), true)]
def T5 : TP := (.n (B 264 (I 0) (L 3 9)) (.n (B 232 (I 1000000) (B 19 (L 3 3) (I 0))) (.o 0 [(2, (B 19 (L 3 2) (I 1))), (3, (I 1000000))]) (.n (B 264 (B 19 (L 3 3) (I 0)) (I (-1000000))) (.o 0 [(2, (B 19 (L 3 2) (I 1))), (3, (B 19 (L 3 3) (I 0)))]) (.o 0 [(2, (B 19 (L 3 2) (I 1))), (3, (I (-1000000)))]))) (.n (B 232 (I 1000000) (L 3 9)) (.n (B 232 (I 1000000) (B 19 (L 3 3) (I 1000000))) (.o 0 [(2, (B 19 (L 3 2) (I 1))), (3, (I 1000000))]) (.n (B 264 (B 19 (L 3 3) (I 1000000)) (I (-1000000))) (.o 0 [(2, (B 19 (L 3 2) (I 1))), (3, (B 19 (L 3 3) (I 1000000)))]) (.o 0 [(2, (B 19 (L 3 2) (I 1))), (3, (I (-1000000)))]))) (.n (B 232 (I 1000000) (B 19 (L 3 3) (L 3 9))) (.o 0 [(2, (B 19 (L 3 2) (I 1))), (3, (I 1000000))]) (.n (B 264 (B 19 (L 3 3) (L 3 9)) (I (-1000000))) (.o 0 [(2, (B 19 (L 3 2) (I 1))), (3, (B 19 (L 3 3) (L 3 9)))]) (.o 0 [(2, (B 19 (L 3 2) (I 1))), (3, (I (-1000000)))])))))
def T6 : TP := (.n (B 264 (L 3 9) (I 0)) (.n (B 264 (L 3 9) (I 1000000)) (.n (B 264 (B 19 (L 3 3) (I 1000000)) (I 1000000)) (.o 0 [(2, (B 19 (L 3 2) (I 1))), (3, (I 1000000))]) (.n (B 232 (B 19 (L 3 3) (I 1000000)) (I (-1000000))) (.o 0 [(2, (B 19 (L 3 2) (I 1))), (3, (I (-1000000)))]) (.o 0 [(2, (B 19 (L 3 2) (I 1))), (3, (B 19 (L 3 3) (I 1000000)))]))) (.n (B 264 (B 19 (L 3 3) (L 3 9)) (I 1000000)) (.o 0 [(2, (B 19 (L 3 2) (I 1))), (3, (I 1000000))]) (.n (B 232 (B 19 (L 3 3) (L 3 9)) (I (-1000000))) (.o 0 [(2, (B 19 (L 3 2) (I 1))), (3, (I (-1000000)))]) (.o 0 [(2, (B 19 (L 3 2) (I 1))), (3, (B 19 (L 3 3) (L 3 9)))])))) (.o 0 [(2, (B 19 (L 3 2) (I 1)))]))
theorem s1 : chkP (fun F => runL PP GN noE [] 40 20 F ((flat c5).take 4) (argsT 20 0 [.agg #[L 10 0, L 10 1]] (.leaf undef)) ⟨GN, []⟩) 5 GN 20 [⟨.normal, vO, mS⟩] (.o 0 [(2, I 0), (3, I 0), (4, LEN (L 10 1))]) [] = true := by kernel_rfl
theorem s2 : chkP (fun F => runL PP GN noE [] 40 20 F ((flat (loopOf l5)).take 2) vO mS) 5 GN 20 [⟨.normal, vO, mS⟩, ⟨.exit (loopId l5), vO, mS⟩] (.n (lt (L 3 2) (L 3 4)) (.o 0 []) (.o 1 [])) [] = true := by kernel_rfl
theorem s3 : chkP (fun F => runL PP GN noE MC 40 20 F ((flat (loopOf l5)).drop 2) vO mS) 10 GN 20 [⟨.normal, vO, mS⟩] T5 FS = true := by kernel_rfl
theorem s4 : chkP (fun F => runL PP GN noE [] 40 20 F ((flat c5).drop 5) vO mS) 5 GN 20 [⟨.ret, vR, ⟨GN, []⟩⟩] (.o 0 []) [] = true := by kernel_rfl
noncomputable def wO : Tr := mkT 26 [(1, pD), (3, L 3 3), (4, L 3 2)]
noncomputable def wR : Tr := mkT 26 [(2, L 3 3)]
noncomputable def l6 : Code := ((flat c6).drop 3).headD .skip
theorem s5 : chkP (fun F => runL PP GN noE [] 40 26 F ((flat c6).take 3) (argsT 26 0 [.agg #[L 10 0, L 10 1]] (.leaf undef)) ⟨GN, []⟩) 5 GN 26 [⟨.normal, wO, mD⟩] (.o 0 [(2, I 0), (3, I 0)]) [] = true := by kernel_rfl
theorem s6 : chkP (fun F => runL PP GN noE [] 40 26 F ((flat (loopOf l6)).take 2) wO mD) 5 GN 26 [⟨.normal, wO, mD⟩, ⟨.exit (loopId l6), wO, mD⟩] (.n (lt (L 3 2) (LEN (L 10 1))) (.o 0 []) (.o 1 [])) [] = true := by kernel_rfl
theorem s7 : chkP (fun F => runL PP GN noE MC 40 26 F ((flat (loopOf l6)).drop 2) wO mD) 10 GN 26 [⟨.normal, wO, mD⟩] T6 FS = true := by kernel_rfl
theorem s8 : chkP (fun F => runL PP GN noE [] 40 26 F ((flat c6).drop 4) wO mD) 5 GN 26 [⟨.ret, wR, ⟨GN, []⟩⟩] (.o 0 []) [] = true := by kernel_rfl
section
variable {W : World} {sc sn : Value} {xs cs : List Int} {ρ : Nat → Value} {i : Nat}
/-- the letters of Size -/
structure Sz (sn : Value) (cs : List Int) (j : Nat) (ρ : Nat → Value) : Prop where
  le : j ≤ cs.length
  b : ρ 1 = sn
  i : ρ 2 = .int .i64 (j : Int)
  t : ρ 3 = .int .i64 (szN cs j)
theorem fsSat (hc : RowAt W [3] sn (rowsOf cs)) (hS : Sz sn cs i ρ) (hic : i < cs.length) : @SatL (thOf ρ W) FS := by
  have hlc := hc.lt
  rw [rowsOf_len] at hlc
  have hle := szN_le cs i
  have l2 := RowAt.len (ρ := ρ) (sa := 1) (by rw [hS.b]; exact hc)
  rw [rowsOf_len] at l2
  have hi3 : dn ρ (L 3 2) = .int .i64 i := dn_i64 hS.i (by omega) (by omega)
  have ht : dn ρ (L 3 3) = .int .i64 (szN cs i) := dn_i64 hS.t (by omega) (by omega)
  intro p hp
  simp only [FS, List.mem_cons, List.not_mem_nil, or_false] at hp
  rcases hp with rfl | rfl | rfl | rfl
  · exact de_cmp rfl (x := I 0) (dn_dry ρ rfl) ht (by simp [cmpI]; omega)
  · exact de_cmp rfl (y := I 1000000) ht (dn_dry ρ rfl) (by simp [cmpI]; omega)
  · exact de_cmp rfl (x := I 0) (dn_dry ρ rfl) hi3 (by simp [cmpI])
  · exact de_cmp rfl hi3 l2 (by simp [cmpI]; omega)
theorem T5_sem (hS : Sz sn cs i ρ) (hn : ρ 4 = .int .i64 cs.length) {c0 : Int} (h9 : ρ 9 = .int .i64 c0) (hlt : i < cs.length) (hlc : cs.length < 9223372036854775808) (hc1 : -9223372036854775808 ≤ c0) (hc2 : c0 < 9223372036854775808) (hc0 : c0 = cs.getD i 0) : T5.Sem ρ W (fun _ ρ => Sz sn cs (i + 1) ρ ∧ ρ 4 = .int .i64 cs.length) := by
  have htl := szN_le cs i
  have hi3 : dn ρ (L 3 2) = .int .i64 i := dn_i64 hS.i (by omega) (by omega)
  have hst := hS.t
  obtain ⟨t, ht0⟩ : ∃ t, t = szN cs i := ⟨_, rfl⟩
  rw [← ht0] at htl hst
  have ht : dn ρ (L 3 3) = .int .i64 t := dn_i64 hst (by omega) (by omega)
  have hc9 : dn ρ (L 3 9) = .int .i64 c0 := dn_i64 h9 hc1 hc2
  refine ⟨fun h1 => ?_, fun h1 => ?_⟩
  · have g1 : 0 > c0 := by have := of_cmp (op := .gtr) rfl (dn_dry ρ (v := I 0) rfl) hc9 h1; simpa [cmpI] using this
    refine ⟨fun h2 => ?_, fun h2 => ?_⟩
    · have g2 : 1000000 < (t + 0) := by have := of_cmp (op := .lss) rfl (dn_dry ρ (v := I 1000000) rfl) (dn_add (a := t) (c := 0) ht (dn_dry ρ (v := I 0) rfl) (by omega) (by omega)) h2; simpa [cmpI] using this
      refine ⟨⟨by omega, hS.b, ?_, ?_⟩, hn⟩
      · exact (dn_add (a := (i : Int)) (c := 1) hi3 (dn_dry ρ (v := I 1) rfl) (by omega) (by omega))
      · exact ((dn_dry ρ (v := I 1000000) rfl)).trans (by rw [szN_next, ← hc0, ← ht0]; congr 1; omega)
    · have g2 : ¬ (1000000 < (t + 0)) := by have := of_cmp (op := .lss) rfl (dn_dry ρ (v := I 1000000) rfl) (dn_add (a := t) (c := 0) ht (dn_dry ρ (v := I 0) rfl) (by omega) (by omega)) h2; simpa [cmpI] using this
      refine ⟨fun h3 => ?_, fun h3 => ?_⟩
      · have g3 : (t + 0) > (-1000000) := by have := of_cmp (op := .gtr) rfl (dn_add (a := t) (c := 0) ht (dn_dry ρ (v := I 0) rfl) (by omega) (by omega)) (dn_dry ρ (v := I (-1000000)) rfl) h3; simpa [cmpI] using this
        refine ⟨⟨by omega, hS.b, ?_, ?_⟩, hn⟩
        · exact (dn_add (a := (i : Int)) (c := 1) hi3 (dn_dry ρ (v := I 1) rfl) (by omega) (by omega))
        · exact ((dn_add (a := t) (c := 0) ht (dn_dry ρ (v := I 0) rfl) (by omega) (by omega))).trans (by rw [szN_next, ← hc0, ← ht0]; congr 1; omega)
      · have g3 : ¬ ((t + 0) > (-1000000)) := by have := of_cmp (op := .gtr) rfl (dn_add (a := t) (c := 0) ht (dn_dry ρ (v := I 0) rfl) (by omega) (by omega)) (dn_dry ρ (v := I (-1000000)) rfl) h3; simpa [cmpI] using this
        refine ⟨⟨by omega, hS.b, ?_, ?_⟩, hn⟩
        · exact (dn_add (a := (i : Int)) (c := 1) hi3 (dn_dry ρ (v := I 1) rfl) (by omega) (by omega))
        · exact ((dn_dry ρ (v := I (-1000000)) rfl)).trans (by rw [szN_next, ← hc0, ← ht0]; congr 1; omega)
  · have g1 : ¬ (0 > c0) := by have := of_cmp (op := .gtr) rfl (dn_dry ρ (v := I 0) rfl) hc9 h1; simpa [cmpI] using this
    refine ⟨fun h2 => ?_, fun h2 => ?_⟩
    · have g2 : 1000000 < c0 := by have := of_cmp (op := .lss) rfl (dn_dry ρ (v := I 1000000) rfl) hc9 h2; simpa [cmpI] using this
      refine ⟨fun h3 => ?_, fun h3 => ?_⟩
      · have g3 : 1000000 < (t + 1000000) := by have := of_cmp (op := .lss) rfl (dn_dry ρ (v := I 1000000) rfl) (dn_add (a := t) (c := 1000000) ht (dn_dry ρ (v := I 1000000) rfl) (by omega) (by omega)) h3; simpa [cmpI] using this
        refine ⟨⟨by omega, hS.b, ?_, ?_⟩, hn⟩
        · exact (dn_add (a := (i : Int)) (c := 1) hi3 (dn_dry ρ (v := I 1) rfl) (by omega) (by omega))
        · exact ((dn_dry ρ (v := I 1000000) rfl)).trans (by rw [szN_next, ← hc0, ← ht0]; congr 1; omega)
      · have g3 : ¬ (1000000 < (t + 1000000)) := by have := of_cmp (op := .lss) rfl (dn_dry ρ (v := I 1000000) rfl) (dn_add (a := t) (c := 1000000) ht (dn_dry ρ (v := I 1000000) rfl) (by omega) (by omega)) h3; simpa [cmpI] using this
        refine ⟨fun h4 => ?_, fun h4 => ?_⟩
        · have g4 : (t + 1000000) > (-1000000) := by have := of_cmp (op := .gtr) rfl (dn_add (a := t) (c := 1000000) ht (dn_dry ρ (v := I 1000000) rfl) (by omega) (by omega)) (dn_dry ρ (v := I (-1000000)) rfl) h4; simpa [cmpI] using this
          refine ⟨⟨by omega, hS.b, ?_, ?_⟩, hn⟩
          · exact (dn_add (a := (i : Int)) (c := 1) hi3 (dn_dry ρ (v := I 1) rfl) (by omega) (by omega))
          · exact ((dn_add (a := t) (c := 1000000) ht (dn_dry ρ (v := I 1000000) rfl) (by omega) (by omega))).trans (by rw [szN_next, ← hc0, ← ht0]; congr 1; omega)
        · have g4 : ¬ ((t + 1000000) > (-1000000)) := by have := of_cmp (op := .gtr) rfl (dn_add (a := t) (c := 1000000) ht (dn_dry ρ (v := I 1000000) rfl) (by omega) (by omega)) (dn_dry ρ (v := I (-1000000)) rfl) h4; simpa [cmpI] using this
          refine ⟨⟨by omega, hS.b, ?_, ?_⟩, hn⟩
          · exact (dn_add (a := (i : Int)) (c := 1) hi3 (dn_dry ρ (v := I 1) rfl) (by omega) (by omega))
          · exact ((dn_dry ρ (v := I (-1000000)) rfl)).trans (by rw [szN_next, ← hc0, ← ht0]; congr 1; omega)
    · have g2 : ¬ (1000000 < c0) := by have := of_cmp (op := .lss) rfl (dn_dry ρ (v := I 1000000) rfl) hc9 h2; simpa [cmpI] using this
      refine ⟨fun h3 => ?_, fun h3 => ?_⟩
      · have g3 : 1000000 < (t + c0) := by have := of_cmp (op := .lss) rfl (dn_dry ρ (v := I 1000000) rfl) (dn_add (a := t) (c := c0) ht hc9 (by omega) (by omega)) h3; simpa [cmpI] using this
        refine ⟨⟨by omega, hS.b, ?_, ?_⟩, hn⟩
        · exact (dn_add (a := (i : Int)) (c := 1) hi3 (dn_dry ρ (v := I 1) rfl) (by omega) (by omega))
        · exact ((dn_dry ρ (v := I 1000000) rfl)).trans (by rw [szN_next, ← hc0, ← ht0]; congr 1; omega)
      · have g3 : ¬ (1000000 < (t + c0)) := by have := of_cmp (op := .lss) rfl (dn_dry ρ (v := I 1000000) rfl) (dn_add (a := t) (c := c0) ht hc9 (by omega) (by omega)) h3; simpa [cmpI] using this
        refine ⟨fun h4 => ?_, fun h4 => ?_⟩
        · have g4 : (t + c0) > (-1000000) := by have := of_cmp (op := .gtr) rfl (dn_add (a := t) (c := c0) ht hc9 (by omega) (by omega)) (dn_dry ρ (v := I (-1000000)) rfl) h4; simpa [cmpI] using this
          refine ⟨⟨by omega, hS.b, ?_, ?_⟩, hn⟩
          · exact (dn_add (a := (i : Int)) (c := 1) hi3 (dn_dry ρ (v := I 1) rfl) (by omega) (by omega))
          · exact ((dn_add (a := t) (c := c0) ht hc9 (by omega) (by omega))).trans (by rw [szN_next, ← hc0, ← ht0]; congr 1; omega)
        · have g4 : ¬ ((t + c0) > (-1000000)) := by have := of_cmp (op := .gtr) rfl (dn_add (a := t) (c := c0) ht hc9 (by omega) (by omega)) (dn_dry ρ (v := I (-1000000)) rfl) h4; simpa [cmpI] using this
          refine ⟨⟨by omega, hS.b, ?_, ?_⟩, hn⟩
          · exact (dn_add (a := (i : Int)) (c := 1) hi3 (dn_dry ρ (v := I 1) rfl) (by omega) (by omega))
          · exact ((dn_dry ρ (v := I (-1000000)) rfl)).trans (by rw [szN_next, ← hc0, ← ht0]; congr 1; omega)
theorem T6_sem (hS : Sz sn cs i ρ) {c0 : Int} (h9 : ρ 9 = .int .i64 c0) (hlt : i < cs.length) (hlc : cs.length < 9223372036854775808) (hc1 : -9223372036854775808 ≤ c0) (hc2 : c0 < 9223372036854775808) (hc0 : c0 = cs.getD i 0) : T6.Sem ρ W (fun _ ρ => Sz sn cs (i + 1) ρ) := by
  have htl := szN_le cs i
  have hi3 : dn ρ (L 3 2) = .int .i64 i := dn_i64 hS.i (by omega) (by omega)
  have hst := hS.t
  obtain ⟨t, ht0⟩ : ∃ t, t = szN cs i := ⟨_, rfl⟩
  rw [← ht0] at htl hst
  have ht : dn ρ (L 3 3) = .int .i64 t := dn_i64 hst (by omega) (by omega)
  have hc9 : dn ρ (L 3 9) = .int .i64 c0 := dn_i64 h9 hc1 hc2
  refine ⟨fun h1 => ?_, fun h1 => ?_⟩
  · have g1 : c0 > 0 := by have := of_cmp (op := .gtr) rfl hc9 (dn_dry ρ (v := I 0) rfl) h1; simpa [cmpI] using this
    refine ⟨fun h2 => ?_, fun h2 => ?_⟩
    · have g2 : c0 > 1000000 := by have := of_cmp (op := .gtr) rfl hc9 (dn_dry ρ (v := I 1000000) rfl) h2; simpa [cmpI] using this
      refine ⟨fun h3 => ?_, fun h3 => ?_⟩
      · have g3 : (t + 1000000) > 1000000 := by have := of_cmp (op := .gtr) rfl (dn_add (a := t) (c := 1000000) ht (dn_dry ρ (v := I 1000000) rfl) (by omega) (by omega)) (dn_dry ρ (v := I 1000000) rfl) h3; simpa [cmpI] using this
        refine ⟨by omega, hS.b, ?_, ?_⟩
        · exact (dn_add (a := (i : Int)) (c := 1) hi3 (dn_dry ρ (v := I 1) rfl) (by omega) (by omega))
        · exact ((dn_dry ρ (v := I 1000000) rfl)).trans (by rw [szN_next, ← hc0, ← ht0]; congr 1; omega)
      · have g3 : ¬ ((t + 1000000) > 1000000) := by have := of_cmp (op := .gtr) rfl (dn_add (a := t) (c := 1000000) ht (dn_dry ρ (v := I 1000000) rfl) (by omega) (by omega)) (dn_dry ρ (v := I 1000000) rfl) h3; simpa [cmpI] using this
        refine ⟨fun h4 => ?_, fun h4 => ?_⟩
        · have g4 : (t + 1000000) < (-1000000) := by have := of_cmp (op := .lss) rfl (dn_add (a := t) (c := 1000000) ht (dn_dry ρ (v := I 1000000) rfl) (by omega) (by omega)) (dn_dry ρ (v := I (-1000000)) rfl) h4; simpa [cmpI] using this
          refine ⟨by omega, hS.b, ?_, ?_⟩
          · exact (dn_add (a := (i : Int)) (c := 1) hi3 (dn_dry ρ (v := I 1) rfl) (by omega) (by omega))
          · exact ((dn_dry ρ (v := I (-1000000)) rfl)).trans (by rw [szN_next, ← hc0, ← ht0]; congr 1; omega)
        · have g4 : ¬ ((t + 1000000) < (-1000000)) := by have := of_cmp (op := .lss) rfl (dn_add (a := t) (c := 1000000) ht (dn_dry ρ (v := I 1000000) rfl) (by omega) (by omega)) (dn_dry ρ (v := I (-1000000)) rfl) h4; simpa [cmpI] using this
          refine ⟨by omega, hS.b, ?_, ?_⟩
          · exact (dn_add (a := (i : Int)) (c := 1) hi3 (dn_dry ρ (v := I 1) rfl) (by omega) (by omega))
          · exact ((dn_add (a := t) (c := 1000000) ht (dn_dry ρ (v := I 1000000) rfl) (by omega) (by omega))).trans (by rw [szN_next, ← hc0, ← ht0]; congr 1; omega)
    · have g2 : ¬ (c0 > 1000000) := by have := of_cmp (op := .gtr) rfl hc9 (dn_dry ρ (v := I 1000000) rfl) h2; simpa [cmpI] using this
      refine ⟨fun h3 => ?_, fun h3 => ?_⟩
      · have g3 : (t + c0) > 1000000 := by have := of_cmp (op := .gtr) rfl (dn_add (a := t) (c := c0) ht hc9 (by omega) (by omega)) (dn_dry ρ (v := I 1000000) rfl) h3; simpa [cmpI] using this
        refine ⟨by omega, hS.b, ?_, ?_⟩
        · exact (dn_add (a := (i : Int)) (c := 1) hi3 (dn_dry ρ (v := I 1) rfl) (by omega) (by omega))
        · exact ((dn_dry ρ (v := I 1000000) rfl)).trans (by rw [szN_next, ← hc0, ← ht0]; congr 1; omega)
      · have g3 : ¬ ((t + c0) > 1000000) := by have := of_cmp (op := .gtr) rfl (dn_add (a := t) (c := c0) ht hc9 (by omega) (by omega)) (dn_dry ρ (v := I 1000000) rfl) h3; simpa [cmpI] using this
        refine ⟨fun h4 => ?_, fun h4 => ?_⟩
        · have g4 : (t + c0) < (-1000000) := by have := of_cmp (op := .lss) rfl (dn_add (a := t) (c := c0) ht hc9 (by omega) (by omega)) (dn_dry ρ (v := I (-1000000)) rfl) h4; simpa [cmpI] using this
          refine ⟨by omega, hS.b, ?_, ?_⟩
          · exact (dn_add (a := (i : Int)) (c := 1) hi3 (dn_dry ρ (v := I 1) rfl) (by omega) (by omega))
          · exact ((dn_dry ρ (v := I (-1000000)) rfl)).trans (by rw [szN_next, ← hc0, ← ht0]; congr 1; omega)
        · have g4 : ¬ ((t + c0) < (-1000000)) := by have := of_cmp (op := .lss) rfl (dn_add (a := t) (c := c0) ht hc9 (by omega) (by omega)) (dn_dry ρ (v := I (-1000000)) rfl) h4; simpa [cmpI] using this
          refine ⟨by omega, hS.b, ?_, ?_⟩
          · exact (dn_add (a := (i : Int)) (c := 1) hi3 (dn_dry ρ (v := I 1) rfl) (by omega) (by omega))
          · exact ((dn_add (a := t) (c := c0) ht hc9 (by omega) (by omega))).trans (by rw [szN_next, ← hc0, ← ht0]; congr 1; omega)
  · have g1 : ¬ (c0 > 0) := by have := of_cmp (op := .gtr) rfl hc9 (dn_dry ρ (v := I 0) rfl) h1; simpa [cmpI] using this
    refine ⟨by omega, hS.b, ?_, ?_⟩
    · exact (dn_add (a := (i : Int)) (c := 1) hi3 (dn_dry ρ (v := I 1) rfl) (by omega) (by omega))
    · exact (hst).trans (by rw [szN_next, ← hc0, ← ht0]; congr 1; omega)
theorem size5 (hN : NoGo PP) (hM : PP.follows .mixedOrders = true) (hx : RowAt W [3] sc (rowsOf xs)) (hc : RowAt W [3] sn (rowsOf cs)) (hKn : Knows GN [] W) :
    Calls PP 5 #[.agg #[sc, sn]] W fun e w' => e = .returned (.int .i64 (szN cs cs.length)) ∧ Below W.heap.size W w' := by
  have hlc := hc.lt
  rw [rowsOf_len] at hlc
  let ρ0 : Nat → Value := fun i => if i = 0 then sc else sn
  let R : Ending → World → Prop := fun e w' => e = .returned (.int .i64 (szN cs cs.length)) ∧ Below W.heap.size W w'
  refine enterP (ρ := ρ0) (args := #[.agg #[L 10 0, L 10 1]]) (l := []) (fn := Tryd.f5) (c := c5) (by kernel_rfl) (by kernel_rfl) (by kernel_rfl) ?_ hKn fun b hI => seqWp_code _ _ _ ?_
  · letI := thOf ρ0 W
    have h0 : V1 (List.range GN) (L 10 0) sc := let_de (ρ := ρ0) (W := W) (g := 10) (i := 0) (by decide) hx.tag
    have h1 : V1 (List.range GN) (L 10 1) sn := let_de (ρ := ρ0) (W := W) (g := 10) (i := 1) (by decide) hc.tag
    exact All.nil.push ⟨#[sc, sn], rfl, (All.nil.push h0).push h1⟩
  rw [← List.take_append_drop 4 (flat c5)]
  have l0 := RowAt.len (ρ := ρ0) (sa := 1) hc
  rw [rowsOf_len] at l0
  refine seqWp_append _ _ _ _ (seqWp_mono ?_ _ _ _ (pieceL hN hM s1 (X := fun _ ρ => Sz sn cs 0 ρ ∧ ρ 4 = .int .i64 cs.length) kn0 ⟨⟨by omega, rfl, dn_dry ρ0 (v := I 0) rfl, dn_dry ρ0 (v := I 0) rfl⟩, l0⟩ hI))
  rintro e b1 w1 ⟨j, ρ1, x, ⟨hS1, hn1⟩, hxj, rfl, hI1⟩
  cases j with
  | succ j => simp at hxj
  | zero =>
  simp at hxj
  subst hxj
  show seqWp PP (bodyPost PP Tryd.f5 R) ((flat c5).drop 4) b1 w1
  rw [show (flat c5).drop 4 = l5 :: (flat c5).drop 5 from rfl]
  refine loopL (xs := [⟨.exit (loopId l5), vO, mS⟩]) (X := fun _ ρ => ρ 3 = .int .i64 (szN cs cs.length)) (J := fun k ρ => ∃ i, k = cs.length - i ∧ Sz sn cs i ρ ∧ ρ 4 = .int .i64 cs.length) (by kernel_rfl) rfl ?_ ?_ cs.length ρ1 ⟨0, rfl, hS1, hn1⟩ b1 w1 hI1
  · rintro k ρ2 ⟨i, rfl, hS, hn⟩ b w hI
    have hle := hS.le
    have hi3 : dn ρ2 (L 3 2) = .int .i64 i := dn_i64 hS.i (by omega) (by omega)
    have hn3 : dn ρ2 (L 3 4) = .int .i64 cs.length := dn_i64 hn (by omega) (by omega)
    rw [← List.take_append_drop 2 (flat (loopOf l5))]
    refine seqWp_append _ _ _ _ (seqWp_mono ?_ _ _ _ (pieceL hN hM s2 (X := fun j ρ3 => ρ3 = ρ2 ∧ (j = 0 → i < cs.length) ∧ (j = 1 → i = cs.length)) kn0 ?_ hI))
    case refine_2 =>
      have key : ∀ c, @De (thOf ρ2 W) (lt (L 3 2) (L 3 4)) (.bool c) → c = decide ((i : Int) < cs.length) := fun c h => de_test h (by rw [hi3, hn3]; rfl)
      refine ⟨fun h => ⟨rfl, fun _ => ?_, fun e => (by cases e)⟩, fun h => ⟨rfl, fun e => (by cases e), fun _ => ?_⟩⟩
      · have := key _ h
        simp at this
        exact this
      · have := key _ h
        simp at this
        omega
    rintro e b2 w2 ⟨j, ρ3, x, ⟨rfl, hlt, heq⟩, hxj, rfl, hI2⟩
    rcases j with _ | _ | j
    · simp at hxj
      subst hxj
      have hlt := hlt rfl
      obtain ⟨c0, hc0⟩ : ∃ c, c = cs.getD i 0 := ⟨_, rfl⟩
      have hrc := ints_at hc hlt
      rw [← hc0] at hrc
      obtain ⟨t, ht0⟩ : ∃ t, t = szN cs i := ⟨_, rfl⟩
      have htl := szN_le cs i
      rw [← ht0] at htl
      let ρ := setN ρ3 9 (.int .i64 c0)
      have hI3 : Inv PP GN W ρ 20 vO mS b2 w2 := hI2.congr (h0 := 5) (by kernel_rfl) (by kernel_rfl) (fun q hq => setN_ne (by omega))
      have hS' : Sz sn cs i ρ := ⟨hS.le, hS.b, hS.i, hS.t⟩
      have hi3 : dn ρ (L 3 2) = .int .i64 i := dn_i64 hS.i (by omega) (by omega)
      have ht : dn ρ (L 3 3) = .int .i64 t := by rw [ht0]; exact dn_i64 hS.t (by omega) (by omega)
      have hc9 : dn ρ (L 3 9) = .int .i64 c0 := dn_i64 rfl hrc.1 hrc.2
      have hS0 : ρ 1 = sn := hS.b
      refine seqWp_mono ?_ _ _ _ (pieceL hN hM s3 (X := fun _ ρ => Sz sn cs (i + 1) ρ ∧ ρ 4 = .int .i64 cs.length) ⟨fsSat hc hS' hlt, fun p hp => rowMem (a := 1) (b := 9) hc hS'.b hS'.i hlt (by rw [← hc0]; rfl) hp, noE_ok _⟩ (T5_sem hS' hn rfl hlt hlc hrc.1 hrc.2 hc0) hI3)
      rintro e b3 w3 ⟨j, ρ4, x, ⟨hS4, hn4⟩, hxj, rfl, hI4⟩
      cases j with
      | succ j => simp at hxj
      | zero =>
      simp at hxj
      subst hxj
      exact ⟨0, ρ4, _, ⟨cs.length - (i + 1), by omega, i + 1, rfl, hS4, hn4⟩, rfl, rfl, hI4⟩
    · simp at hxj
      subst hxj
      have := heq rfl
      subst this
      exact ⟨1, ρ3, _, hS.t, rfl, rfl, hI2⟩
    · simp at hxj
  · rintro e ρ5 x b5 w5 hg5 hxj hI5
    cases e with
    | succ e => simp at hxj
    | zero =>
    simp at hxj
    subst hxj
    refine seqWp_mono ?_ _ _ _ (pieceL hN hM s4 (X := fun _ ρ => ρ 3 = .int .i64 (szN cs cs.length)) kn0 hg5 hI5)
    rintro e b6 w6 ⟨e2, ρ6, x, hg6, hxj, rfl, hI6⟩
    cases e2 with
    | succ e2 => simp at hxj
    | zero =>
    simp at hxj
    subst hxj
    have hle := szN_le cs cs.length
    refine answerP (vs := [L 3 3]) (v := L 3 3) (.inr rfl) hI6 (by kernel_rfl) rfl ?_
    rintro X w' ⟨r, hX⟩ hB
    have hX : X = dn ρ6 (L 3 3) := hX
    rw [dn_i64 hg6 (by omega) (by omega)] at hX
    exact ⟨by rw [hX], hB⟩
theorem size6 (hN : NoGo PP) (hM : PP.follows .mixedOrders = true) (hx : RowAt W [3] sc (rowsOf xs)) (hc : RowAt W [3] sn (rowsOf cs)) (hKn : Knows GN [] W) :
    Calls PP 6 #[.agg #[sc, sn]] W fun e w' => e = .returned (.int .i64 (szN cs cs.length)) ∧ Below W.heap.size W w' := by
  have hlc := hc.lt
  rw [rowsOf_len] at hlc
  let ρ0 : Nat → Value := fun i => if i = 0 then sc else sn
  let R : Ending → World → Prop := fun e w' => e = .returned (.int .i64 (szN cs cs.length)) ∧ Below W.heap.size W w'
  refine enterP (ρ := ρ0) (args := #[.agg #[L 10 0, L 10 1]]) (l := []) (fn := Tryd.f6) (c := c6) (by kernel_rfl) (by kernel_rfl) (by kernel_rfl) ?_ hKn fun b hI => seqWp_code _ _ _ ?_
  · letI := thOf ρ0 W
    have h0 : V1 (List.range GN) (L 10 0) sc := let_de (ρ := ρ0) (W := W) (g := 10) (i := 0) (by decide) hx.tag
    have h1 : V1 (List.range GN) (L 10 1) sn := let_de (ρ := ρ0) (W := W) (g := 10) (i := 1) (by decide) hc.tag
    exact All.nil.push ⟨#[sc, sn], rfl, (All.nil.push h0).push h1⟩
  rw [← List.take_append_drop 3 (flat c6)]
  refine seqWp_append _ _ _ _ (seqWp_mono ?_ _ _ _ (pieceL hN hM s5 (X := fun _ ρ => Sz sn cs 0 ρ) kn0 ⟨by omega, rfl, dn_dry ρ0 (v := I 0) rfl, dn_dry ρ0 (v := I 0) rfl⟩ hI))
  rintro e b1 w1 ⟨j, ρ1, x, hS1, hxj, rfl, hI1⟩
  cases j with
  | succ j => simp at hxj
  | zero =>
  simp at hxj
  subst hxj
  show seqWp PP (bodyPost PP Tryd.f6 R) ((flat c6).drop 3) b1 w1
  rw [show (flat c6).drop 3 = l6 :: (flat c6).drop 4 from rfl]
  refine loopL (xs := [⟨.exit (loopId l6), wO, mD⟩]) (X := fun _ ρ => ρ 3 = .int .i64 (szN cs cs.length)) (J := fun k ρ => ∃ i, k = cs.length - i ∧ Sz sn cs i ρ) (by kernel_rfl) rfl ?_ ?_ cs.length ρ1 ⟨0, rfl, hS1⟩ b1 w1 hI1
  · rintro k ρ2 ⟨i, rfl, hS⟩ b w hI
    have hle := hS.le
    have hi3 : dn ρ2 (L 3 2) = .int .i64 i := dn_i64 hS.i (by omega) (by omega)
    have hn3 := RowAt.len (ρ := ρ2) (sa := 1) (by rw [hS.b]; exact hc)
    rw [rowsOf_len] at hn3
    rw [← List.take_append_drop 2 (flat (loopOf l6))]
    refine seqWp_append _ _ _ _ (seqWp_mono ?_ _ _ _ (pieceL hN hM s6 (X := fun j ρ3 => ρ3 = ρ2 ∧ (j = 0 → i < cs.length) ∧ (j = 1 → i = cs.length)) kn0 ?_ hI))
    case refine_2 =>
      have key : ∀ c, @De (thOf ρ2 W) (lt (L 3 2) (LEN (L 10 1))) (.bool c) → c = decide ((i : Int) < cs.length) := fun c h => de_test h (by rw [hi3, hn3]; rfl)
      refine ⟨fun h => ⟨rfl, fun _ => ?_, fun e => (by cases e)⟩, fun h => ⟨rfl, fun e => (by cases e), fun _ => ?_⟩⟩
      · have := key _ h
        simp at this
        exact this
      · have := key _ h
        simp at this
        omega
    rintro e b2 w2 ⟨j, ρ3, x, ⟨rfl, hlt, heq⟩, hxj, rfl, hI2⟩
    rcases j with _ | _ | j
    · simp at hxj
      subst hxj
      have hlt := hlt rfl
      obtain ⟨c0, hc0⟩ : ∃ c, c = cs.getD i 0 := ⟨_, rfl⟩
      have hrc := ints_at hc hlt
      rw [← hc0] at hrc
      obtain ⟨t, ht0⟩ : ∃ t, t = szN cs i := ⟨_, rfl⟩
      have htl := szN_le cs i
      rw [← ht0] at htl
      let ρ := setN ρ3 9 (.int .i64 c0)
      have hI3 : Inv PP GN W ρ 26 wO mD b2 w2 := hI2.congr (h0 := 5) (by kernel_rfl) (by kernel_rfl) (fun q hq => setN_ne (by omega))
      have hS' : Sz sn cs i ρ := ⟨hS.le, hS.b, hS.i, hS.t⟩
      have hi3 : dn ρ (L 3 2) = .int .i64 i := dn_i64 hS.i (by omega) (by omega)
      have ht : dn ρ (L 3 3) = .int .i64 t := by rw [ht0]; exact dn_i64 hS.t (by omega) (by omega)
      have hc9 : dn ρ (L 3 9) = .int .i64 c0 := dn_i64 rfl hrc.1 hrc.2
      have hS0 : ρ 1 = sn := hS.b
      refine seqWp_mono ?_ _ _ _ (pieceL hN hM s7 (X := fun _ ρ => Sz sn cs (i + 1) ρ) ⟨fsSat hc hS' hlt, fun p hp => rowMem (a := 1) (b := 9) hc hS'.b hS'.i hlt (by rw [← hc0]; rfl) hp, noE_ok _⟩ (T6_sem hS' rfl hlt hlc hrc.1 hrc.2 hc0) hI3)
      rintro e b3 w3 ⟨j, ρ4, x, hS4, hxj, rfl, hI4⟩
      cases j with
      | succ j => simp at hxj
      | zero =>
      simp at hxj
      subst hxj
      exact ⟨0, ρ4, _, ⟨cs.length - (i + 1), by omega, i + 1, rfl, hS4⟩, rfl, rfl, hI4⟩
    · simp at hxj
      subst hxj
      have := heq rfl
      subst this
      exact ⟨1, ρ3, _, hS.t, rfl, rfl, hI2⟩
    · simp at hxj
  · rintro e ρ5 x b5 w5 hg5 hxj hI5
    cases e with
    | succ e => simp at hxj
    | zero =>
    simp at hxj
    subst hxj
    refine seqWp_mono ?_ _ _ _ (pieceL hN hM s8 (X := fun _ ρ => ρ 3 = .int .i64 (szN cs cs.length)) kn0 hg5 hI5)
    rintro e b6 w6 ⟨e2, ρ6, x, hg6, hxj, rfl, hI6⟩
    cases e2 with
    | succ e2 => simp at hxj
    | zero =>
    simp at hxj
    subst hxj
    have hle := szN_le cs cs.length
    refine answerP (vs := [L 3 3]) (v := L 3 3) (.inr rfl) hI6 (by kernel_rfl) rfl ?_
    rintro X w' ⟨r, hX⟩ hB
    have hX : X = dn ρ6 (L 3 3) := hX
    rw [dn_i64 hg6 (by omega) (by omega)] at hX
    exact ⟨by rw [hX], hB⟩
end
end Go.Proofs.YtokenooggmnbaaaDoor
