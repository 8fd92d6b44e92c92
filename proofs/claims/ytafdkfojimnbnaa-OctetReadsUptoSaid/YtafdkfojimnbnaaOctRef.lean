/-
  CONTRACTS OF LAYER 4: the reference's reader: number, fail, Uint, Int, Bool, length, Err, Left. By an AI agent.
-/
import Derived.Test.YtafdkfojimnbnaaOctReaderC
namespace Go.Proofs.Ytafdkfojimnbnaa
open Go.RowKit
open Go.Lib (uvarint uvarint_small uvarint_big zigzag unzigzag)

/-- the reference's reader in block g, its row in the blocks lo .. g -/
def RdR (lo g : Nat) (w : World) (s : Oct.St) : Prop := ∃ v l, w.heap[g]? = some (.cells #[v, .int .i64 s.2] 59 (0, 0)) ∧ RowIn encB lo g w v l ∧ (s.2 = 0 → l = s.1)
theorem RdR.keep {lo g : Nat} {w w' : World} {s : Oct.St} (h : RdR lo g w s) (hs : w.heap.size ≤ w'.heap.size) (hk : ∀ k, lo ≤ k → k ≤ g → w'.heap[k]? = w.heap[k]?) (hlo : lo ≤ g) : RdR lo g w' s := by
  obtain ⟨v, l, h1, h2, h3⟩ := h
  exact ⟨v, l, by rw [hk g hlo (Nat.le_refl _)]; exact h1, h2.keep hs fun k h4 h3 _ => hk k h4 (by omega), h3⟩
theorem RdR.lt {lo g : Nat} {w : World} {s : Oct.St} (h : RdR lo g w s) : g < w.heap.size := by
  obtain ⟨v, _, h1, _⟩ := h
  exact (Array.getElem?_eq_some_iff.1 h1).1
def LeavesR (lo g : Nat) (w : World) (v : Value) (s : Oct.St) : Ending → World → Prop := fun e w' => e = .returned v ∧ RdR lo g w' s ∧ w.grownBy w' (some g)
def LeavesRInts (lo g : Nat) (w : World) (l : List Int) (s : Oct.St) : Ending → World → Prop := fun e w' => ∃ v, e = .returned v ∧ OwnI w.heap.size w' v l ∧ RdR lo g w' s ∧ w.grownBy w' (some g)

set_option maxRecDepth 100000 in
theorem refErr {lo g : Nat} {s : Oct.St} (w : World) (h : RdR lo g w s) : Calls Try.prog 42 #[ptr g] w fun e w' => e = .returned (.int .i64 s.2) ∧ w = w' := by
  obtain ⟨v, l, h1, -⟩ := h
  have c1 : w.cell? ⟨g, 1, none⟩ = some (.int .i64 s.2) := by rw [box_cell h1]; rfl
  go_enter Try.func42, Try.ntmps42
  go_wp2
  go_ret
  exact ⟨rfl, rfl⟩
set_option maxRecDepth 100000 in
theorem refLeft {lo g : Nat} {s : Oct.St} (w : World) (h : RdR lo g w s) (hf : Oct.Fine s) : Calls Try.prog 41 #[ptr g] w fun e w' => e = .returned (.int .i64 (s.1.length : Int)) ∧ w = w' := by
  obtain ⟨v, l, h1, ⟨a, c, rfl, -⟩, hl⟩ := h
  obtain ⟨r, er⟩ := s
  have c0 : w.cell? ⟨g, 0, none⟩ = some (.slice a l.length c) := by rw [box_cell h1]; rfl
  have c1 : w.cell? ⟨g, 1, none⟩ = some (.int .i64 er) := by rw [box_cell h1]; rfl
  by_cases he : er = 0
  · subst he
    replace hl : l = r := hl rfl
    subst hl
    go_enter Try.func41, Try.ntmps41
    go_wp2
    go_ret
    exact ⟨rfl, rfl⟩
  · have hr : r = [] := hf he
    subst hr
    have t1 : ((er : Int) == 0) = false := by simp only [beq_eq_false_iff_ne]; exact he
    clear hl hf he
    go_enter Try.func41, Try.ntmps41
    go_wp2
    go_ret
    exact ⟨rfl, rfl⟩
set_option maxRecDepth 100000 in
theorem refFail {lo g : Nat} {s : Oct.St} (x : Int) (w : World) (h : RdR lo g w s) (hs : s.2 = 0) (hx : x ≠ 0) : Calls Try.prog 50 #[ptr g, .int .i64 x] w (LeavesR lo g w (.tuple #[]) ([], x)) := by
  obtain ⟨v, l, h1, h2, -⟩ := h
  rw [hs] at h1
  have c1 : w.cell? ⟨g, 1, none⟩ = some (.int .i64 0) := by rw [box_cell h1]; rfl
  have f1 := frozen_of_row w g 1 _ _ h1
  have H1 := Lib.hid h1
  have HX := Lib.hid hx
  clear h1 hx hs
  go_enter Try.func50, Try.ntmps50
  go_wp2
  go_end0
  exact ⟨rfl, ⟨_, l, heap_setCell_same _ g 1 _ _ _ H1.out, h2.set 1, fun h => absurd h HX.out⟩, grownBy_set _ _ _ _⟩
theorem num_form {l : List UInt8} {x : Int} (h : Oct.dec l = (0, 0, x)) (hx : x ≠ 0) : Oct.num (l, 0) = (0, ([], x)) := by unfold Oct.num; simp [h, hx]
theorem num_good {l : List UInt8} {n k : Nat} (h : Oct.dec l = (n, k, 0)) : Oct.num (l, 0) = (n, (l.drop k, 0)) := by unfold Oct.num; simp [h]
theorem worth_next {k W : Nat} (h : W = 2 ^ (7 * k)) (hk : k ≤ 8) : W * 128 = 2 ^ (7 * (k + 1)) ∧ W * 128 < 18446744073709551616 := by
  have h1 := Oct.pow7 k
  have h2 := pow_le9 hk
  subst h
  omega
set_option maxHeartbeats 2000000 in
set_option maxRecDepth 100000 in
theorem refNumber {lo g : Nat} {s : Oct.St} (w : World) (h : RdR lo g w s) : Calls Try.prog 49 #[ptr g] w (LeavesR lo g w (.int .u64 ((Oct.num s).1 : Int)) (Oct.num s).2) := by
  obtain ⟨r, er⟩ := s
  by_cases her : er = 0
  · subst her
    obtain ⟨v, l, h1, hrow, hl⟩ := h
    replace hl : l = r := hl rfl
    subst hl
    have hrow' := hrow
    obtain ⟨a, c, rfl, hc1, hc2, -, hd⟩ := hrow'
    have c0 : w.cell? ⟨g, 0, none⟩ = some (.slice a l.length c) := by rw [box_cell h1]; rfl
    have c1 : w.cell? ⟨g, 1, none⟩ = some (.int .i64 0) := by rw [box_cell h1]; rfl
    have f0 := frozen_of_row w g 0 _ _ h1
    have f1 := frozen_of_row w g 1 _ _ h1
    have H1 := Lib.hid h1
    unfold maxLen at hc2
    have D := Lib.hid hd
    clear hd h1
    go_enter Try.func49, Try.ntmps49
    go_wp2
    go_loopw [3, 4, 5] (fun n q i wr => wr = w ∧ ∃ k : Nat, k ≤ l.length ∧ k ≤ 9 ∧ i = .int .i64 (k : Int) ∧ ∃ acc W : Nat, n = .int .u64 (acc : Int) ∧ q = .int .u64 (W : Int) ∧ Hid (W = 2 ^ (7 * k)) ∧ Hid (acc < 2 ^ (7 * k)) ∧ Hid (Oct.decFrom k acc (l.drop k) = Oct.dec l)) (fun _ _ i _ => l.length - (intOf i).toNat)
    case atStart => exact ⟨rfl, 0, by omega, by omega, rfl, 0, 1, rfl, rfl, Lib.hid (by decide), Lib.hid (by decide), Lib.hid rfl⟩
    case round =>
      obtain ⟨rfl, k, hk, hk9, rfl, acc, W, rfl, rfl, HW, HAC, HD⟩ := hrel
      have i0 : (0 : Int) ≤ (k : Int) := by omega
      by_cases hlt : k < l.length
      · have i1 : (k : Int) < (l.length : Int) := by omega
        obtain ⟨b, o, rfl, -, -, hq, hcell⟩ := D.out k _ (getD_get (d := 0) hlt)
        have c2 : wr.cell? ⟨b, o + k, none⟩ = some (.int .u8 ((l.getD k 0).toNat : Int)) := hcell
        clear hcell
        have hc := (l.getD k 0).toNat_lt
        have HD2 := HD.out
        rw [drop_cons hlt] at HD2
        generalize l.getD k 0 = x at c2 hc HD2
        rw [Oct.decFrom] at HD2
        have x0 : (0 : Int) ≤ (x.toNat : Int) := by omega
        have x1 : (x.toNat : Int) < 256 := by omega
        by_cases hA : (k = 9 ∧ 1 < x.toNat) ∨ (0 < k ∧ x.toNat = 0)
        · rw [if_pos hA] at HD2
          have HB := Lib.hid (num_form HD2.symm (by decide))
          have h3 : (((k : Int) == 9) = true ∧ (1 : Int) < (x.toNat : Int)) ∨ (((k : Int) == 9) = false ∧ (0 : Int) < (k : Int) ∧ ((x.toNat : Int) == 0) = true) ∨ (((k : Int) == 9) = true ∧ ¬ (1 : Int) < (x.toNat : Int) ∧ (0 : Int) < (k : Int) ∧ ((x.toNat : Int) == 0) = true) := by
            simp only [beq_eq_false_iff_ne, beq_iff_eq]; omega
          clear HD2 HD hc hA
          rcases h3 with ⟨e1, e2⟩ | ⟨e1, e2, e3⟩ | ⟨e1, e2, e3, e4⟩
          · go_wp2
            go_ret
            rw [HB.out]
            exact ⟨rfl, ⟨_, l, heap_setCell_same _ g 1 _ _ _ H1.out, hrow.set 1, fun h => absurd h (by decide)⟩, grownBy_set _ _ _ _⟩
          · go_wp2
            go_ret
            rw [HB.out]
            exact ⟨rfl, ⟨_, l, heap_setCell_same _ g 1 _ _ _ H1.out, hrow.set 1, fun h => absurd h (by decide)⟩, grownBy_set _ _ _ _⟩
          · go_wp2
            go_ret
            rw [HB.out]
            exact ⟨rfl, ⟨_, l, heap_setCell_same _ g 1 _ _ _ H1.out, hrow.set 1, fun h => absurd h (by decide)⟩, grownBy_set _ _ _ _⟩
        · rw [if_neg hA] at HD2
          have hmul : x.toNat % 128 * 2 ^ (7 * k) < 18446744073709551616 ∧ acc + x.toNat % 128 * 2 ^ (7 * k) < 18446744073709551616 ∧ (k ≤ 8 → acc + x.toNat % 128 * 2 ^ (7 * k) < 2 ^ (7 * (k + 1))) := by
            have h0 := HAC.out
            by_cases h9 : k = 9
            · subst h9
              have : x.toNat % 128 ≤ 1 := by omega
              exact ⟨by omega, by omega, fun h => by omega⟩
            · have h8 := pow_le9 (k := k) (by omega)
              have h7 : x.toNat % 128 * 2 ^ (7 * k) ≤ 127 * 2 ^ (7 * k) := Nat.mul_le_mul_right _ (by omega)
              exact ⟨by omega, by omega, fun _ => by rw [Oct.pow7]; omega⟩
          obtain ⟨m, hm, HM⟩ : ∃ m : Nat, IntKind.u64.wrap ((x.toNat : Int) % 128 * (W : Int)) = (m : Int) ∧ Hid (m = x.toNat % 128 * 2 ^ (7 * k)) := by
            refine ⟨x.toNat % 128 * 2 ^ (7 * k), ?_, Lib.hid rfl⟩
            rw [← HW.out, IntKind.wrap_u64]
            have e : (x.toNat : Int) % 128 * (W : Int) = ((x.toNat % 128 * W : Nat) : Int) := by rw [Int.natCast_mul, Int.natCast_emod]; rfl
            have := hmul.1
            rw [← HW.out] at this
            rw [e]
            omega
          have m1 : (acc : Int) + (m : Int) ≤ 18446744073709551615 := by have := hmul.2.1; rw [← HM.out] at this; omega
          have m0 : (0 : Int) ≤ (acc : Int) + (m : Int) := by omega
          by_cases h128 : x.toNat < 128
          · rw [if_pos h128] at HD2
            have HB := Lib.hid (num_good (show Oct.dec l = (acc + m, k + 1, 0) by rw [← HD2, HM.out, Nat.mod_eq_of_lt h128]))
            have t3 : (x.toNat : Int) < 128 := by omega
            have h3 : (((k : Int) == 9) = true ∧ ¬ (1 : Int) < (x.toNat : Int) ∧ (0 : Int) < (k : Int) ∧ ((x.toNat : Int) == 0) = false) ∨ (((k : Int) == 9) = false ∧ (0 : Int) < (k : Int) ∧ ((x.toNat : Int) == 0) = false) ∨ (((k : Int) == 9) = false ∧ ¬ (0 : Int) < (k : Int)) := by
              simp only [beq_eq_false_iff_ne, beq_iff_eq]; omega
            have i2 : (k : Int) + 1 ≤ (l.length : Int) := by omega
            clear HD2 HD hc hmul hA h128
            rcases h3 with ⟨e1, e2, e3, e4⟩ | ⟨e1, e3, e4⟩ | ⟨e1, e3⟩
            · go_wp2
              all_goals go_ret
              all_goals rw [HB.out]
              all_goals exact ⟨by simp, ⟨_, _, heap_setCell_same _ g 0 _ _ _ H1.out, (hrow.cut rfl (k + 1) hlt (by intro hck; first | rfl | (exfalso; omega)) (by omega)).set 0, fun _ => rfl⟩, grownBy_set _ _ _ _⟩
            · go_wp2
              all_goals go_ret
              all_goals rw [HB.out]
              all_goals exact ⟨by simp, ⟨_, _, heap_setCell_same _ g 0 _ _ _ H1.out, (hrow.cut rfl (k + 1) hlt (by intro hck; first | rfl | (exfalso; omega)) (by omega)).set 0, fun _ => rfl⟩, grownBy_set _ _ _ _⟩
            · go_wp2
              all_goals go_ret
              all_goals rw [HB.out]
              all_goals exact ⟨by simp, ⟨_, _, heap_setCell_same _ g 0 _ _ _ H1.out, (hrow.cut rfl (k + 1) hlt (by intro hck; first | rfl | (exfalso; omega)) (by omega)).set 0, fun _ => rfl⟩, grownBy_set _ _ _ _⟩
          · rw [if_neg h128] at HD2
            have HB := Lib.hid (show Oct.decFrom (k + 1) (acc + m) (l.drop (k + 1)) = Oct.dec l by rw [← HD2, HM.out])
            have t3 : ¬ (x.toNat : Int) < 128 := by omega
            have h8 : k ≤ 8 := by omega
            have HN2 := Lib.hid (show acc + m < 2 ^ (7 * (k + 1)) by rw [HM.out]; exact hmul.2.2 h8)
            have hw := worth_next HW.out h8
            have HW2 := Lib.hid hw.1
            have w0 : (0 : Int) ≤ (W : Int) * 128 := by omega
            have w1 : (W : Int) * 128 ≤ 18446744073709551615 := by omega
            have h3 : (((k : Int) == 9) = false ∧ (0 : Int) < (k : Int) ∧ ((x.toNat : Int) == 0) = false) ∨ (((k : Int) == 9) = false ∧ ¬ (0 : Int) < (k : Int)) := by
              simp only [beq_eq_false_iff_ne]; omega
            clear HD2 HD hc hmul hA h128 hw
            rcases h3 with ⟨e1, e3, e4⟩ | ⟨e1, e3⟩
            · go_wp2
              go_roundw
              case rel => exact ⟨trivial, k + 1, by omega, by omega, by go_num, acc + m, W * 128, by go_num, by go_num, HW2, HN2, HB⟩
              case measure => simp [intOf]; omega
            · go_wp2
              go_roundw
              case rel => exact ⟨trivial, k + 1, by omega, by omega, by go_num, acc + m, W * 128, by go_num, by go_num, HW2, HN2, HB⟩
              case measure => simp [intOf]; omega
      · obtain rfl : k = l.length := by omega
        have HB := Lib.hid (num_form (show Oct.dec l = (0, 0, 4) by rw [← HD.out, List.drop_length]; rfl) (by decide))
        go_wp2
        go_ret
        rw [HB.out]
        exact ⟨rfl, ⟨_, l, heap_setCell_same _ g 1 _ _ _ H1.out, hrow.set 1, fun h => absurd h (by decide)⟩, grownBy_set _ _ _ _⟩
  · have HS := Lib.hid (Oct.num_err (s := (r, er)) her)
    have h' := h
    obtain ⟨v, l, h1, -⟩ := h
    have c1 : w.cell? ⟨g, 1, none⟩ = some (.int .i64 er) := by rw [box_cell h1]; rfl
    have t1 : ((er : Int) == 0) = false := by simp only [beq_eq_false_iff_ne]; exact her
    clear her h1
    go_enter Try.func49, Try.ntmps49
    go_wp2
    go_ret
    rw [HS.out]
    exact ⟨rfl, h', grownBy_refl _ _⟩
end Go.Proofs.Ytafdkfojimnbnaa
