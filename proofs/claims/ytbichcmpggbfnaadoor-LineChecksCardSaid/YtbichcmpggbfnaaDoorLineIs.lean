/-
  CONTRACTS OF LAYER 10 (line): fit, areSubs, Is. By an AI agent.
-/
import Derived.Test.YtbichcmpggbfnaaDoorLineSub
import Derived.Laws.BitsAllLaws
import Derived.Sort.EncStr
namespace Go.Proofs.YtbichcmpggbfnaaDoor
open Go.RowKit
open Wd (Bs)

theorem less_lex (x y : List UInt8) : Op.bytesLess x y = decide (x < y) := by
  induction x generalizing y with
  | nil => cases y <;> simp [Op.bytesLess]
  | cons a x ih =>
    cases y with
    | nil => simp [Op.bytesLess]
    | cons b y =>
      rw [Op.bytesLess, ih, Bool.eq_iff_iff]
      simp [List.cons_lt_cons_iff]
theorem less_yes {a b : ByteArray} {x y : Bs} (ha : a.data.toList = x) (hb : b.data.toList = y) (h : x < y) : Op.bytesLess a.toList b.toList = true := by
  rw [less_lex, Lib.toList_data, Lib.toList_data, ha, hb]; simpa using h
theorem less_no {a b : ByteArray} {x y : Bs} (ha : a.data.toList = x) (hb : b.data.toList = y) (h : ¬ x < y) : Op.bytesLess a.toList b.toList = false := by
  rw [less_lex, Lib.toList_data, Lib.toList_data, ha, hb]; simpa using h
theorem and57 (t : Nat) (h : 64 ≤ t) (h2 : t < 18446744073709551616) : t &&& 18446744073709551558 ≠ 0 := by
  intro e
  have h3 := congrArg (· >>> 6) e
  simp only [Nat.shiftRight_and_distrib] at h3
  rw [show (18446744073709551558 : Nat) >>> 6 = 2 ^ 58 - 1 by decide, Nat.and_two_pow_sub_one_eq_mod, Nat.shiftRight_eq_div_pow] at h3
  simp at h3
  omega
theorem i64_andNot_57 (t : Nat) (h : (t : Int) ≤ 9223372036854775807) : bits .andNot .i64 (t : Int) 57 = ((t &&& 18446744073709551558 : Nat) : Int) := by
  have hx : t &&& 18446744073709551558 ≤ t := Nat.and_le_left
  show IntKind.i64.wrap ((BitVec.ofInt 64 (t : Int) &&& ~~~BitVec.ofInt 64 ((57 : Nat) : Int)).toNat : Int) = _
  rw [BitVec.toNat_and, BitVec.toNat_not, ofInt_u64 t (by omega), ofInt_u64 57 (by omega), show 2 ^ 64 - 1 - 57 = 18446744073709551558 by omega, IntWalk.i64_left, IntWalk.wrap64_in _ ⟨by omega, by omega⟩]
theorem fit_big (t : Nat) (h : 64 ≤ t) (h2 : (t : Int) ≤ 9223372036854775807) : (bits .andNot .i64 (t : Int) 57 == 0) = false := by
  rw [i64_andNot_57 t h2]
  have := and57 t h (by omega)
  simp
  omega
theorem fitN_big (t : Nat) (h : 64 ≤ t) : Ln.fitN t = false := by
  cases hf : Ln.fitN t with
  | false => rfl
  | true => have := Ln.fitN_bd hf; omega
theorem fit_any (t : Nat) (h0 : 0 < t) (h2 : (t : Int) ≤ 9223372036854775807) (e2 : (t == 2) = false) (e4 : (t == 4) = false) : (bits .andNot .i64 (t : Int) 57 == 0) = Ln.fitN t := by
  by_cases h : t < 64
  · exact fit_test t h h0 e2 e4
  · rw [fit_big t (by omega) h2, fitN_big t (by omega)]
set_option maxRecDepth 100000 in
theorem lineFit (t : Int) (w : World) (hi : t ≤ 9223372036854775807) :
    Calls Tryd.prog 29 #[.int .i64 t] w fun e w' => e = .returned (.bool (Ln.fitI t)) ∧ w = w' := by
  rcases Int.lt_or_le 0 t with h0 | h0
  · obtain ⟨n, rfl⟩ : ∃ n : Nat, t = (n : Int) := ⟨t.toNat, by omega⟩
    by_cases e2 : n = 2
    · subst e2
      go_enter Tryd.func29, Tryd.ntmps29
      go_wp2
      go_ret
      exact ⟨rfl, rfl⟩
    by_cases e4 : n = 4
    · subst e4
      go_enter Tryd.func29, Tryd.ntmps29
      go_wp2
      go_ret
      exact ⟨rfl, rfl⟩
    have HT := Lib.hid (fit_any n (by omega) hi (by simpa using e2) (by simpa using e4))
    have HF := Lib.hid (Ln.fitI_nat n)
    have t2 : ((n : Int) == 2) = false := by simp; omega
    have t4 : ((n : Int) == 4) = false := by simp; omega
    clear e2 e4
    go_enter Tryd.func29, Tryd.ntmps29
    go_wp2
    go_ret
    exact ⟨ret_bool (by rw [HT.out, HF.out]), rfl⟩
  · have HF : Hid (Ln.fitI t = false) := Lib.hid (by
      rcases Int.lt_or_le t 0 with h | h
      · exact Ln.fitI_neg h
      · obtain rfl : t = 0 := by omega
        rfl)
    have t2 : (t == 2) = false := by simp; omega
    have t4 : (t == 4) = false := by simp; omega
    go_enter Tryd.func29, Tryd.ntmps29
    go_wp2
    go_ret
    exact ⟨ret_bool HF.out.symm, rfl⟩
/-! the subtypes of a line -/
theorem up_cons {a b : Bs} {r : List Bs} (h : a < b) (hr : Wd.Up (b :: r)) : Wd.Up (a :: b :: r) := by
  refine List.pairwise_cons.2 ⟨fun x hx => ?_, hr⟩
  rcases List.mem_cons.1 hx with rfl | hx
  · exact h
  · exact List.lt_trans h ((List.pairwise_cons.1 hr).1 x hx)
theorem up_steps : ∀ {l : List Bs}, (∀ j, j + 1 < l.length → l.getD j [] < l.getD (j + 1) []) → Wd.Up l
  | [], _ => List.Pairwise.nil
  | [a], _ => List.pairwise_singleton _ _
  | a :: b :: r, h => up_cons (h 0 (by simp)) (up_steps fun j hj => h (j + 1) (by simp at hj ⊢; omega))
/-- what the loop has seen before element k -/
def SubsTo (l : List Bs) (k : Nat) : Prop := ∀ j, j < k → Ln.isSub (l.getD j []) = true ∧ (0 < j → l.getD (j - 1) [] < l.getD j [])
theorem SubsTo.next {l : List Bs} {k : Nat} (h : SubsTo l k) (h1 : Ln.isSub (l.getD k []) = true) (h2 : 0 < k → l.getD (k - 1) [] < l.getD k []) : SubsTo l (k + 1) := by
  intro j hj
  by_cases e : j = k
  · subst e; exact ⟨h1, h2⟩
  · exact h j (by omega)
theorem SubsTo.are {l : List Bs} (h : SubsTo l l.length) (hl : l.length ≤ 4) : Ln.AreP l := by
  refine ⟨hl, fun x hx => ?_, up_steps fun j hj => (h (j + 1) hj).2 (by omega)⟩
  obtain ⟨j, hj, rfl⟩ := List.mem_iff_getElem.1 hx
  have := (h j hj).1
  rwa [List.getD, List.getElem?_eq_getElem hj, Option.getD_some] at this
theorem are_sub {l : List Bs} (h : Ln.AreP l) (j : Nat) (hj : j < l.length) : Ln.isSub (l.getD j []) = true := by
  rw [List.getD, List.getElem?_eq_getElem hj, Option.getD_some]
  exact h.2.1 _ (List.getElem_mem hj)
theorem are_step {l : List Bs} (h : Ln.AreP l) (j : Nat) (hj : j + 1 < l.length) : l.getD j [] < l.getD (j + 1) [] := by
  rw [List.getD, List.getElem?_eq_getElem (by omega), Option.getD_some, List.getD, List.getElem?_eq_getElem hj, Option.getD_some]
  exact List.pairwise_iff_getElem.1 h.2.2 j (j + 1) (by omega) hj (by omega)
/-- no string of the row is too long for the model -/
def Fine (l : List Bs) : Prop := ∀ x ∈ l, x.length ≤ maxLen
theorem Fine.at {l : List Bs} (h : Fine l) (j : Nat) (hj : j < l.length) : (l.getD j []).length ≤ maxLen := by
  rw [List.getD, List.getElem?_eq_getElem hj, Option.getD_some]
  exact h _ (List.getElem_mem hj)
theorem getD_some {l : List Bs} {k : Nat} (h : k < l.length) : l[k]? = some (l.getD k []) := by simp [List.getD, h]
set_option maxHeartbeats 1000000 in
set_option maxRecDepth 100000 in
theorem lineAre (v : Value) (l : List Bs) (w : World) (hE : Env w) (hv : Strs w v l) (hl : Fine l) :
    Calls Tryd.prog 30 #[v] w fun e w' => e = .returned (.bool (Ln.areB l)) ∧ w = w' := by
  rcases hv.shape with ⟨b, c, rfl, rfl⟩ | ⟨b, o, c, rfl, p, q, n1, m1, d⟩
  · have HR : Hid (Ln.areB [] = true) := Lib.hid (Ln.areB_true ⟨by simp, fun x hx => by simp at hx, List.Pairwise.nil⟩)
    go_enter Tryd.func30, Tryd.ntmps30
    go_wp2_with fail
    refine wp_loop_rounds 1 ?_
    rw [rounds_succ]
    go_wp2_with fail
    go_ret
    exact ⟨ret_bool HR.out.symm, rfl⟩
  · unfold maxLen at m1
    by_cases h4 : 4 < l.length
    · have HR : Hid (Ln.areB l = false) := Lib.hid (Ln.areB_false fun h => by have := h.1; omega)
      clear d hv hl
      go_enter Tryd.func30, Tryd.ntmps30
      go_wp2_with fail
      go_ret
      exact ⟨ret_bool HR.out.symm, rfl⟩
    · have h4' : (l.length : Int) ≤ 4 := by omega
      have D := Lib.hid d
      have HE := Lib.hid hE
      have HL := Lib.hid hl
      clear d hv hl hE
      go_enter Tryd.func30, Tryd.ntmps30
      go_wp2_with fail
      go_loop [10] (fun i => ∃ k : Nat, k ≤ l.length ∧ i = .int .i64 (k : Int) ∧ SubsTo l k) (fun i => l.length - (intOf i).toNat)
      case atStart => exact ⟨0, by omega, rfl, fun j hj => by omega⟩
      case round =>
        obtain ⟨k, hk, rfl, hst⟩ := hrel
        have HST := Lib.hid hst
        clear hst
        by_cases hlt : k < l.length
        · obtain ⟨sx, hsx, ex⟩ := exists_bytes (l.getD k [])
          have d1 : w.cell? ⟨b, o + k, none⟩ = some (.string sx) := (D.out k _ (getD_some hlt)).trans (congrArg some ex)
          have hsz : Hid (sx.size ≤ maxLen) := Lib.hid (by rw [← bytes_len, hsx]; exact HL.out.at k hlt)
          have HSX := Lib.hid hsx
          cases hsub : Ln.isSub (l.getD k []) with
          | false =>
            have HS := Lib.hid hsub
            have HR : Hid (Ln.areB l = false) := Lib.hid (Ln.areB_false fun h => by rw [are_sub h k hlt] at hsub; cases hsub)
            clear hsx ex hsub
            go_wp2_with fail
            refine (lineIsSub sx _ HE.out hsz.out).mono ?_
            rw [HSX.out, HS.out]
            rintro e w2 ⟨rfl, rfl⟩
            go_wp2_with fail
            go_ret
            exact ⟨ret_bool HR.out.symm, rfl⟩
          | true =>
            have HS := Lib.hid hsub
            by_cases hk0 : 0 < k
            · obtain ⟨sy, hsy, ey⟩ := exists_bytes (l.getD (k - 1) [])
              have d2 : w.cell? ⟨b, o + (k - 1), none⟩ = some (.string sy) := (D.out (k - 1) _ (getD_some (by omega))).trans (congrArg some ey)
              have hk0' : (0 : Int) < (k : Int) := by omega
              by_cases hlt2 : l.getD (k - 1) [] < l.getD k []
              · have ht : Op.bytesLess sy.toList sx.toList = true := less_yes hsy hsx hlt2
                have HN := Lib.hid (HST.out.next hsub fun _ => hlt2)
                clear hsx ex hsub hsy ey hlt2
                go_wp2_with fail
                refine (lineIsSub sx _ HE.out hsz.out).mono ?_
                rw [HSX.out, HS.out]
                rintro e w2 ⟨rfl, rfl⟩
                go_wp2_with fail
                go_round
                case rel => exact ⟨k + 1, by omega, by go_num, HN.out⟩
                case measure => simp [intOf]; omega
              · have ht : Op.bytesLess sy.toList sx.toList = false := less_no hsy hsx hlt2
                have HR : Hid (Ln.areB l = false) := Lib.hid (Ln.areB_false fun h => by
                  have := are_step h (k - 1) (by omega)
                  rw [show k - 1 + 1 = k by omega] at this
                  exact hlt2 this)
                clear hsx ex hsub hsy ey hlt2
                go_wp2_with fail
                refine (lineIsSub sx _ HE.out hsz.out).mono ?_
                rw [HSX.out, HS.out]
                rintro e w2 ⟨rfl, rfl⟩
                go_wp2_with fail
                go_ret
                exact ⟨ret_bool HR.out.symm, rfl⟩
            · have hk0' : (k : Int) ≤ 0 := by omega
              have HN := Lib.hid (HST.out.next hsub fun h => absurd h hk0)
              clear hsx ex hsub
              go_wp2_with fail
              refine (lineIsSub sx _ HE.out hsz.out).mono ?_
              rw [HSX.out, HS.out]
              rintro e w2 ⟨rfl, rfl⟩
              go_wp2_with fail
              go_round
              case rel => exact ⟨k + 1, by omega, by go_num, HN.out⟩
              case measure => simp [intOf]; omega
        · obtain rfl : k = l.length := by omega
          have HR := Lib.hid (Ln.areB_true (HST.out.are (by omega)))
          go_wp2_with fail
          go_ret
          exact ⟨ret_bool HR.out.symm, rfl⟩
end Go.Proofs.YtbichcmpggbfnaaDoor
