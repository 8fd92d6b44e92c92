/-
  CONTRACTS OF LAYER 10's REFERENCE: Text, TypesText, ParseTypes. By an AI agent.
-/
import Derived.Test.YtbichcmpggbfnaaDoorLineText
import Derived.Test.YtbichcmpggbfnaaDoorLineSame
namespace Go.Proofs.YtbichcmpggbfnaaDoor
open Go.RowKit
open Wd (Bs)

theorem join_append {c : UInt8} : ∀ {xs ys : List Bs}, xs ≠ [] → ys ≠ [] → Lib.join (xs ++ ys) [c] = Lib.join xs [c] ++ c :: Lib.join ys [c]
  | [], _, h, _ => absurd rfl h
  | [x], y :: r, _, _ => by rw [Lib.join_one, List.singleton_append, Ln.join_two]
  | [_], [], _, h => absurd rfl h
  | x :: x' :: r, ys, _, h => by
    have := join_append (c := c) (xs := x' :: r) (ys := ys) (by simp) h
    rw [List.cons_append, List.cons_append, Ln.join_two, Ln.join_two, ← List.cons_append, this]
    simp
theorem supersFrom {C : Nat} {w0 W : World} (hb : Below C w0 W) (hC : C ≤ w0.heap.size) :
    Calls Tryd.prog 37 #[] W fun e w' => ∃ v, e = .returned v ∧ Strs w' v supersL ∧ Below C w0 w' :=
  (refSupers W).mono fun _ _ ⟨v, he, ho, hb'⟩ => ⟨v, he, ho.strs, hb.trans (hb'.mono (Nat.le_trans hC hb.size))⟩
theorem typesFrom {C : Nat} {w0 W : World} (hb : Below C w0 W) (hC : C ≤ w0.heap.size) :
    Calls Tryd.prog 38 #[] W fun e w' => ∃ v, e = .returned v ∧ Strs w' v typesL ∧ Below C w0 w' :=
  (refTypes W).mono fun _ _ ⟨v, he, ho, hb'⟩ => ⟨v, he, ho.strs, hb.trans (hb'.mono (Nat.le_trans hC hb.size))⟩
theorem joinedSupers (s : Nat) (hs : s < 4) (sA : ByteArray) (hA : sA.data.toList = Lib.join (Ln.wordsOf s 0) [32]) (v : Value) (W : World) (hv : Strs W v supersL) :
    Calls Tryd.prog 44 #[v, .int .i64 s, .string ⟨#[32]⟩] W fun e w' => e = .returned (.string sA) ∧ W = w' := by
  have h := refJoined v supersL s ⟨#[32]⟩ W hv small_supers (by omega) rfl
  have e : str (joinTo supersL s [32] supersL.length) = .string sA := by
    rw [show supersL.length = 2 from rfl]
    unfold joinTo
    rw [wordsAt_supers s hs, ← hA]
    rfl
  rw [← e]
  exact h
theorem joinedTypes (t : Nat) (ht : t < 64) (c : UInt8) (sA : ByteArray) (hA : sA.data.toList = Lib.join (Ln.wordsOf t 2) [c]) (v : Value) (W : World) (hv : Strs W v typesL) :
    Calls Tryd.prog 44 #[v, .int .i64 t, .string ⟨#[c]⟩] W fun e w' => e = .returned (.string sA) ∧ W = w' := by
  have h := refJoined v typesL t ⟨#[c]⟩ W hv small_types (by omega) rfl
  have e : str (joinTo typesL t [c] typesL.length) = .string sA := by
    rw [show typesL.length = 6 from rfl]
    unfold joinTo
    rw [wordsAt_types t ht, ← hA]
    rfl
  rw [← e]
  exact h
theorem supers_nil : ∀ s, s < 4 → s ≠ 0 → Ln.wordsOf s 0 ≠ [] ∧ Lib.join (Ln.wordsOf s 0) [32] ≠ [] := by decide +kernel
/-- what stands ahead of the types -/
def headOf (s : Nat) : Bs := if s = 0 then [] else Lib.join (Ln.wordsOf s 0) [32] ++ [32]
/-- the text with the first k subtypes -/
def textTo (s n : Nat) (l : List Bs) (k : Nat) : Bs := Lib.join (Ln.wordsOf s 0 ++ (Ln.wordsOf n 2 ++ l.take k)) [32]
theorem textTo_zero {s n : Nat} (hs : s < 4) (hn : n < 64) (h1 : 1 ≤ n) (l : List Bs) : textTo s n l 0 = headOf s ++ Lib.join (Ln.wordsOf n 2) [32] := by
  unfold textTo headOf
  rw [List.take_zero, List.append_nil]
  by_cases h0 : s = 0
  · subst h0; rfl
  · rw [if_neg h0, join_append (supers_nil s hs h0).1 (Ln.types_ne n hn h1)]
    simp
theorem textTo_succ {s n k : Nat} (hn : n < 64) (h1 : 1 ≤ n) {l : List Bs} (hk : k < l.length) : textTo s n l (k + 1) = textTo s n l k ++ (32 :: l.getD k []) := by
  unfold textTo
  have e : l.take (k + 1) = l.take k ++ [l.getD k []] := by
    rw [List.take_succ_eq_append_getElem hk, List.getD, List.getElem?_eq_getElem hk, Option.getD_some]
  rw [e, ← List.append_assoc, ← List.append_assoc, Wd.join_snoc _ _ _ (by
    have := Ln.types_ne n hn h1
    simp [this])]
  simp
theorem textTo_end (s n : Nat) (l : List Bs) : textTo s n l l.length = Lib.join (Ln.parts ⟨s, n, l⟩) [32] := by
  unfold textTo
  rw [List.take_length]
  exact congrArg (fun z => Lib.join z [32]) (List.append_assoc _ _ _).symm
theorem textTo_len {s n : Nat} {l : List Bs} (h : Ln.ValidP ⟨s, n, l⟩) (hn : n < 64) (h1 : 1 ≤ n) : ∀ d k, k + d = l.length → (textTo s n l k).length ≤ 3000
  | 0, k, hk => by
    obtain rfl : k = l.length := by omega
    rw [textTo_end]
    exact (parts_short h).2
  | d + 1, k, hk => by
    have := textTo_len h hn h1 d (k + 1) (by omega)
    rw [textTo_succ hn h1 (by omega)] at this
    simp at this
    omega
set_option maxHeartbeats 2000000 in
set_option maxRecDepth 100000 in
theorem refText10 (a t : Int) (v : Value) (l : List Bs) (w : World) (hv : Strs w v l) (hl : Fine l) :
    Calls Tryd.prog 22 #[.agg #[.int .i64 a, .int .i64 t, v]] w fun e w' => e = .returned (str (Ln.textL ⟨a, t, l⟩)) ∧ Below w.heap.size w w' := by
  obtain ⟨wB, hwB⟩ : ∃ wB, wB = w.alloc (.cells #[.int .i64 a, .int .i64 t, v] 24) := ⟨_, rfl⟩
  have hb : Below w.heap.size w wB := by rw [hwB]; exact (Below.refl _ _).alloc (Nat.le_refl _) _
  have hloc : w.heap.size < wB.heap.size := by rw [hwB]; simp
  have HV := Lib.hid (hv.below hb (Nat.le_refl _))
  have HB := Lib.hid hb
  have q0 : wB.cell? ⟨w.heap.size, 0, none⟩ = some (.int .i64 a) := by rw [hwB]; simp
  have q1 : wB.cell? ⟨w.heap.size, 1, none⟩ = some (.int .i64 t) := by rw [hwB]; simp
  have q2 : wB.cell? ⟨w.heap.size, 2, none⟩ = some v := by rw [hwB]; simp
  have HC := Lib.hid (refIs10 a t v l wB HV.out hl)
  obtain ⟨ad, c, rfl, hlc, hcm, -⟩ := hv
  unfold maxLen at hcm
  clear hb hl
  rcases Ln.valid_cases ⟨a, t, l⟩ with ⟨s, n, e1, e2, l1, l2, l3, hval, hvb⟩ | ⟨-, hvb⟩
  · obtain rfl : a = s := e1
    obtain rfl : t = n := e2
    have HT := Lib.hid (Ln.textL_valid hvb)
    have HVB := Lib.hid hvb
    have HZ := Lib.hid (textTo_zero (s := s) (n := n) (by omega) (by omega) l2 l)
    have HN := Lib.hid (fun k hk => textTo_succ (s := s) (n := n) (k := k) (by omega) l2 (l := l) hk)
    have HD := Lib.hid (textTo_end s n l)
    have HLEN := Lib.hid (fun k (hk : k ≤ l.length) => textTo_len hval (by omega) l2 (l.length - k) k (by omega))
    obtain ⟨sA, hA, -⟩ := exists_bytes (Lib.join (Ln.wordsOf s 0) [32])
    obtain ⟨sT, hT, -⟩ := exists_bytes (Lib.join (Ln.wordsOf n 2) [32])
    have HJA := Lib.hid (joinedSupers s (by omega) sA hA)
    have HJT := Lib.hid (joinedTypes n (by omega) 32 sT hT)
    have HA := Lib.hid hA
    have HTT := Lib.hid hT
    have hszA : sA.size ≤ 1000 := by
      have h1 := join_len_le (c := 32) (m := 8) (ps := Ln.wordsOf s 0) wordsOf_short
      have h2 := wordsOf_len s 0
      have h3 := bytes_len sA
      rw [hA] at h3
      omega
    have hszT : sT.size ≤ 1000 := by
      have h1 := join_len_le (c := 32) (m := 8) (ps := Ln.wordsOf n 2) wordsOf_short
      have h2 := wordsOf_len n 2
      have h3 := bytes_len sT
      rw [hT] at h3
      omega
    have hsz0 : wB.heap.size ≤ wB.heap.size := Nat.le_refl _
    clear hvb hval
    by_cases h0 : s = 0
    · have hsA : sA = ⟨#[]⟩ := bytes_nil (by rw [hA, h0]; rfl)
      subst hsA
      have hr : ∀ W : World, (Op.stringOp .add ⟨#[]⟩ sT).run Tryd.prog W = .ok (.string (⟨#[]⟩ ++ sT)) W := fun W => run_string_add_sum W _ _ (by have : (⟨#[]⟩ : ByteArray).size = 0 := rfl; omega)
      have HR0 : Hid ((⟨#[]⟩ ++ sT : ByteArray).data.toList = textTo s n l 0) := Lib.hid (by rw [bytes_cat, HTT.out, HZ.out]; unfold headOf; rw [if_pos h0]; try rfl)
      clear hA hT h0
      go_enter Tryd.func22, Tryd.ntmps22
      go_wp2_with fail
      rw [← hwB]
      clear hwB
      refine HC.out.mono ?_
      rw [HVB.out]
      rintro e w1 ⟨rfl, hb1⟩
      have p0 : w1.cell? ⟨w.heap.size, 0, none⟩ = some (.int .i64 s) := (hb1.cell (p := ⟨w.heap.size, 0, none⟩) hloc).trans q0
      go_wp2_with fail
      go_region_held3 (fun W => W.cell? ⟨w.heap.size, 0, none⟩ = some (.int .i64 s))
        (first | go_keep | (with_reducible exact (hb2.cell (p := ⟨w.heap.size, 0, none⟩) hloc).trans q0))
        (first
          | (go_at_call 37; refine (supersFrom (C := wB.heap.size) (w0 := wB) ?_ hsz0).mono ?_; (go_grown); rintro e w2 ⟨v2, rfl, hs2, hb2⟩)
          | (go_at_call 44; refine (HJA.out _ _ hs2).mono ?_; rintro e w3 ⟨rfl, rfl⟩))
      have p1 : w2.cell? ⟨w.heap.size, 1, none⟩ = some (.int .i64 n) := (hb2.cell (p := ⟨w.heap.size, 1, none⟩) hloc).trans q1
      have B2 := Lib.hid hb2
      clear hb1 hs2
      go_wp2_with fail
      go_region_held3 (fun W => W.cell? ⟨w.heap.size, 1, none⟩ = some (.int .i64 n))
        (first | go_keep | (with_reducible exact (hb4.cell (p := ⟨w.heap.size, 1, none⟩) hloc).trans q1))
        (first
          | (go_at_call 38; refine (typesFrom (C := wB.heap.size) (w0 := wB) ?_ hsz0).mono ?_; (go_grown); rintro e w4 ⟨v4, rfl, hs4, hb4⟩)
          | (go_at_call 44; refine (HJT.out _ _ hs4).mono ?_; rintro e w5 ⟨rfl, rfl⟩))
      clear hs4 hb2
      have HV4 := Lib.hid (HV.out.below hb4 (Nat.le_refl _))
      have p2 : w4.cell? ⟨w.heap.size, 2, none⟩ = some (.slice ad l.length c) := (hb4.cell (p := ⟨w.heap.size, 2, none⟩) hloc).trans q2
      have HX := Lib.hid (HB.out.trans (hb4.mono HB.out.size))
      clear hb4
      go_wp2_with fail
      go_loop [3, 4] (fun o i => ∃ (k : Nat) (r : ByteArray), k ≤ l.length ∧ i = .int .i64 (k : Int) ∧ o = .string r ∧ r.data.toList = textTo s n l k) (fun _ i => l.length - (intOf i).toNat)
      case atStart => exact ⟨0, _, by omega, rfl, rfl, HR0.out⟩
      case round =>
        obtain ⟨k, r, hk, rfl, rfl, hr⟩ := hrel
        have hsr : r.size ≤ 3000 := by
          have h1 := bytes_len r
          have h2 := HLEN.out k hk
          rw [hr] at h1
          omega
        have HR := Lib.hid hr
        clear hr
        by_cases hlt : k < l.length
        · obtain ⟨sx, hsx, ex⟩ := exists_bytes (l.getD k [])
          obtain ⟨b, o, rfl, hbl, d1⟩ := HV4.out.at (getD_some hlt)
          have d1' : w4.cell? ⟨b, o + k, none⟩ = some (.string sx) := d1.trans (congrArg some ex)
          have hsx3 : sx.size ≤ 3000 := by
            have h1 := bytes_len sx
            have h2 := HLEN.out (k + 1) (by omega)
            rw [HN.out k hlt] at h2
            rw [hsx] at h1
            simp at h1 h2
            omega
          have HK := Lib.hid (HN.out k hlt)
          have HSX := Lib.hid hsx
          clear hsx ex d1
          go_wp2_with fail
          go_round
          case rel => exact ⟨k + 1, _, by omega, by go_num, rfl, by rw [HK.out, ← HR.out, ← HSX.out]; simp⟩
          case measure => simp [intOf]; omega
        · obtain rfl : k = l.length := by omega
          have HF : Hid (Value.string r = str (Ln.textL ⟨s, n, l⟩)) := Lib.hid (by rw [HT.out, ← HD.out, ← HR.out]; rfl)
          go_wp2_with fail
          go_ret
          exact ⟨congrArg _ HF.out, HX.out⟩
    · have hne : (!sA.toList.isEmpty) = true := bytes_some (fun e => (supers_nil s (by omega) h0).2 (by rw [← hA, e]))
      have hr : ∀ W : World, (Op.stringOp .add (sA ++ ⟨#[32]⟩) sT).run Tryd.prog W = .ok (.string (sA ++ ⟨#[32]⟩ ++ sT)) W := fun W => run_string_add_sum W _ _ (by have : (⟨#[32]⟩ : ByteArray).size = 1 := rfl; rw [ByteArray.size_append]; omega)
      have HR0 : Hid ((sA ++ ⟨#[32]⟩ ++ sT : ByteArray).data.toList = textTo s n l 0) := Lib.hid (by rw [bytes_cat, bytes_cat, HTT.out, HZ.out, HA.out]; try (unfold headOf; rw [if_neg h0]))
      clear hA hT h0
      go_enter Tryd.func22, Tryd.ntmps22
      go_wp2_with fail
      rw [← hwB]
      clear hwB
      refine HC.out.mono ?_
      rw [HVB.out]
      rintro e w1 ⟨rfl, hb1⟩
      have p0 : w1.cell? ⟨w.heap.size, 0, none⟩ = some (.int .i64 s) := (hb1.cell (p := ⟨w.heap.size, 0, none⟩) hloc).trans q0
      go_wp2_with fail
      go_region_held3 (fun W => W.cell? ⟨w.heap.size, 0, none⟩ = some (.int .i64 s))
        (first | go_keep | (with_reducible exact (hb2.cell (p := ⟨w.heap.size, 0, none⟩) hloc).trans q0))
        (first
          | (go_at_call 37; refine (supersFrom (C := wB.heap.size) (w0 := wB) ?_ hsz0).mono ?_; (go_grown); rintro e w2 ⟨v2, rfl, hs2, hb2⟩)
          | (go_at_call 44; refine (HJA.out _ _ hs2).mono ?_; rintro e w3 ⟨rfl, rfl⟩))
      have p1 : w2.cell? ⟨w.heap.size, 1, none⟩ = some (.int .i64 n) := (hb2.cell (p := ⟨w.heap.size, 1, none⟩) hloc).trans q1
      have B2 := Lib.hid hb2
      clear hb1 hs2
      go_wp2_with fail
      go_region_held3 (fun W => W.cell? ⟨w.heap.size, 1, none⟩ = some (.int .i64 n))
        (first | go_keep | (with_reducible exact (hb4.cell (p := ⟨w.heap.size, 1, none⟩) hloc).trans q1))
        (first
          | (go_at_call 38; refine (typesFrom (C := wB.heap.size) (w0 := wB) ?_ hsz0).mono ?_; (go_grown); rintro e w4 ⟨v4, rfl, hs4, hb4⟩)
          | (go_at_call 44; refine (HJT.out _ _ hs4).mono ?_; rintro e w5 ⟨rfl, rfl⟩))
      clear hs4 hb2
      have HV4 := Lib.hid (HV.out.below hb4 (Nat.le_refl _))
      have p2 : w4.cell? ⟨w.heap.size, 2, none⟩ = some (.slice ad l.length c) := (hb4.cell (p := ⟨w.heap.size, 2, none⟩) hloc).trans q2
      have HX := Lib.hid (HB.out.trans (hb4.mono HB.out.size))
      clear hb4
      go_wp2_with fail
      go_loop [3, 4] (fun o i => ∃ (k : Nat) (r : ByteArray), k ≤ l.length ∧ i = .int .i64 (k : Int) ∧ o = .string r ∧ r.data.toList = textTo s n l k) (fun _ i => l.length - (intOf i).toNat)
      case atStart => exact ⟨0, _, by omega, rfl, rfl, HR0.out⟩
      case round =>
        obtain ⟨k, r, hk, rfl, rfl, hr⟩ := hrel
        have hsr : r.size ≤ 3000 := by
          have h1 := bytes_len r
          have h2 := HLEN.out k hk
          rw [hr] at h1
          omega
        have HR := Lib.hid hr
        clear hr
        by_cases hlt : k < l.length
        · obtain ⟨sx, hsx, ex⟩ := exists_bytes (l.getD k [])
          obtain ⟨b, o, rfl, hbl, d1⟩ := HV4.out.at (getD_some hlt)
          have d1' : w4.cell? ⟨b, o + k, none⟩ = some (.string sx) := d1.trans (congrArg some ex)
          have hsx3 : sx.size ≤ 3000 := by
            have h1 := bytes_len sx
            have h2 := HLEN.out (k + 1) (by omega)
            rw [HN.out k hlt] at h2
            rw [hsx] at h1
            simp at h1 h2
            omega
          have HK := Lib.hid (HN.out k hlt)
          have HSX := Lib.hid hsx
          clear hsx ex d1
          go_wp2_with fail
          go_round
          case rel => exact ⟨k + 1, _, by omega, by go_num, rfl, by rw [HK.out, ← HR.out, ← HSX.out]; simp⟩
          case measure => simp [intOf]; omega
        · obtain rfl : k = l.length := by omega
          have HF : Hid (Value.string r = str (Ln.textL ⟨s, n, l⟩)) := Lib.hid (by rw [HT.out, ← HD.out, ← HR.out]; rfl)
          go_wp2_with fail
          go_ret
          exact ⟨congrArg _ HF.out, HX.out⟩
  · have HT := Lib.hid (Ln.textL_bad hvb)
    have HVB := Lib.hid hvb
    clear hvb
    go_enter Tryd.func22, Tryd.ntmps22
    go_wp2_with fail
    rw [← hwB]
    clear hwB
    refine HC.out.mono ?_
    rw [HVB.out]
    rintro e w1 ⟨rfl, hb1⟩
    go_wp2_with fail
    go_ret
    exact ⟨by rw [HT.out]; rfl, HB.out.trans (hb1.mono HB.out.size)⟩
end Go.Proofs.YtbichcmpggbfnaaDoor
