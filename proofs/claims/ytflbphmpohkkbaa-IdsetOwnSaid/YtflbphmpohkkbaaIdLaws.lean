/-
  LAYER 3: the laws' common functions, and the laws Of, Elements, Sets, Same, walked. By an AI agent.
-/
import Derived.Test.YtflbphmpohkkbaaIdWalksD
namespace Go.Proofs.Ytflbphmpohkkbaa
open Go.RowKit

theorem norm_is {l m : List Int} (hu : Ids.Up m) (hm : ∀ x, x ∈ l ↔ x ∈ m) : Ids.norm l = m := Ids.up_eq (Ids.norm_up l) hu fun x => by rw [Ids.mem_norm, hm]
theorem al_of : Ids.norm [3, 1, 3] = [1, 3] := norm_is (by simp [Ids.Up]) fun x => by simp; omega
theorem al_minus : Ids.chosen [1, 2, 3] [2] false = [1, 3] :=
  Ids.up_eq (Ids.chosen_up _ _ _) (by simp [Ids.Up]) fun x => by rw [Ids.mem_chosen]; simp; omega
theorem al_union : Ids.norm ([2, 1] ++ [2]) = [1, 2] := norm_is (by simp [Ids.Up]) fun x => by simp; omega
set_option maxRecDepth 100000 in
theorem lawFew (a1 a2 : Option Addr) (n1 n2 c1 c2 : Nat) (r : Bool) (w : World) (h : decide (n1 ≤ 200 ∧ n2 ≤ 200) = r) :
    Calls Try.prog 9 #[.slice a1 n1 c1, .slice a2 n2 c2] w fun e w' => e = .returned (.bool r) ∧ w = w' := by
  have HR := Lib.hid h
  clear h
  by_cases h1 : n1 ≤ 200
  · have i1 : (n1 : Int) ≤ 200 := by omega
    by_cases h2 : n2 ≤ 200
    · have i2 : (n2 : Int) ≤ 200 := by omega
      go_enter Try.func9, Try.ntmps9
      go_wp2
      go_ret
      exact ⟨ret_bool (by rw [← HR.out]; simp [h1, h2]), rfl⟩
    · have i2 : ¬ (n2 : Int) ≤ 200 := by omega
      go_enter Try.func9, Try.ntmps9
      go_wp2
      go_ret
      exact ⟨ret_bool (by rw [← HR.out]; simp [h2]), rfl⟩
  · have i1 : ¬ (n1 : Int) ≤ 200 := by omega
    go_enter Try.func9, Try.ntmps9
    go_wp2
    go_ret
    exact ⟨ret_bool (by rw [← HR.out]; simp [h1]), rfl⟩
theorem same_below {F : FuncId} {args : Array Value} {w : World} {x : Ending} (h : Calls Try.prog F args w fun e w' => e = x ∧ w = w') : Calls Try.prog F args w fun e w' => e = x ∧ Below w.heap.size w w' :=
  h.mono fun _ _ ⟨h1, h2⟩ => ⟨h1, h2 ▸ Below.refl _ _⟩
set_option maxHeartbeats 1600000 in
set_option maxRecDepth 100000 in
theorem lawAlive (w : World) : Calls Try.prog 10 #[] w fun e w' => e = .returned (.bool true) ∧ Below w.heap.size w w' := by
  have B0 := Lib.hid (Below.refl w.heap.size w)
  go_enter Try.func10, Try.ntmps10
  have B2 := Lib.hid (B0.out.alloc B0.out.size (.cells #[.int .i64 (3), .int .i64 (1), .int .i64 (3)] 3))
  clear B0
  have L1 : Hid (Ints (w.alloc (.cells #[.int .i64 (3), .int .i64 (1), .int .i64 (3)] 3)) (.slice (some ⟨w.heap.size, 0, none⟩) 3 3) [3, 1, 3]) := Lib.hid (OwnInts.lit w [3, 1, 3] (by decide)).ints
  go_wp2_with fail
  refine (idsetOf _ [3, 1, 3] _ L1.out (by decide)).mono ?_
  rw [al_of]
  rintro e w3 ⟨v5, rfl, ho6, hb4⟩
  clear L1
  have B7 := Lib.hid (B2.out.trans (hb4.mono B2.out.size))
  have X := Lib.hid (ho6.ints)
  clear ho6
  clear hb4 B2
  have B9 := Lib.hid (B7.out.alloc B7.out.size (.cells #[.int .i64 (1), .int .i64 (3)] 3))
  have X_ := Lib.hid (X.out.below ((Below.refl w3.heap.size w3).alloc (Nat.le_refl _) (.cells #[.int .i64 (1), .int .i64 (3)] 3)) (Nat.le_refl _))
  clear X
  have X := Lib.hid X_.out
  clear X_
  clear B7
  have L8 : Hid (Ints (w3.alloc (.cells #[.int .i64 (1), .int .i64 (3)] 3)) (.slice (some ⟨w3.heap.size, 0, none⟩) 2 2) [1, 3]) := Lib.hid (OwnInts.lit w3 [1, 3] (by decide)).ints
  go_wp2_with fail
  refine (refSame _ _ [1, 3] [1, 3] _ X.out L8.out).mono ?_
  rw [show decide (([1, 3] : List Int) = [1, 3]) = true from rfl]
  rintro e w10 ⟨rfl, hb11⟩
  clear X
  clear L8
  have B12 := Lib.hid (B9.out.trans (hb11.mono B9.out.size))
  clear hb11 B9
  have B14 := Lib.hid (B12.out.alloc B12.out.size (.cells #[.int .i64 (1), .int .i64 (2), .int .i64 (3)] 3))
  clear B12
  have L13 : Hid (Ints (w10.alloc (.cells #[.int .i64 (1), .int .i64 (2), .int .i64 (3)] 3)) (.slice (some ⟨w10.heap.size, 0, none⟩) 3 3) [1, 2, 3]) := Lib.hid (OwnInts.lit w10 [1, 2, 3] (by decide)).ints
  have B16 := Lib.hid (B14.out.alloc B14.out.size (.cells #[.int .i64 (2)] 3))
  have L13_ := Lib.hid (L13.out.below ((Below.refl (w10.alloc (.cells #[.int .i64 (1), .int .i64 (2), .int .i64 (3)] 3)).heap.size (w10.alloc (.cells #[.int .i64 (1), .int .i64 (2), .int .i64 (3)] 3))).alloc (Nat.le_refl _) (.cells #[.int .i64 (2)] 3)) (Nat.le_refl _))
  clear L13
  have L13 := Lib.hid L13_.out
  clear L13_
  clear B14
  have L15 : Hid (Ints ((w10.alloc (.cells #[.int .i64 (1), .int .i64 (2), .int .i64 (3)] 3)).alloc (.cells #[.int .i64 (2)] 3)) (.slice (some ⟨w10.heap.size + 1, 0, none⟩) 1 1) [2]) := Lib.hid (by
    have h := (OwnInts.lit (w10.alloc (.cells #[.int .i64 (1), .int .i64 (2), .int .i64 (3)] 3)) [2] (by decide)).ints
    rw [show (w10.alloc (.cells #[.int .i64 (1), .int .i64 (2), .int .i64 (3)] 3)).heap.size = w10.heap.size + 1 by simp] at h
    exact h)
  go_wp2_with fail
  refine (idsetMinus _ _ [1, 2, 3] [2] _ L13.out L15.out (by decide) (by decide)).mono ?_
  rw [al_minus]
  rintro e w17 ⟨v19, rfl, ho20, hb18⟩
  clear L13
  clear L15
  have B21 := Lib.hid (B16.out.trans (hb18.mono B16.out.size))
  have X := Lib.hid (ho20.ints)
  clear ho20
  clear hb18 B16
  have B23 := Lib.hid (B21.out.alloc B21.out.size (.cells #[.int .i64 (1), .int .i64 (3)] 3))
  have X_ := Lib.hid (X.out.below ((Below.refl w17.heap.size w17).alloc (Nat.le_refl _) (.cells #[.int .i64 (1), .int .i64 (3)] 3)) (Nat.le_refl _))
  clear X
  have X := Lib.hid X_.out
  clear X_
  clear B21
  have L22 : Hid (Ints (w17.alloc (.cells #[.int .i64 (1), .int .i64 (3)] 3)) (.slice (some ⟨w17.heap.size, 0, none⟩) 2 2) [1, 3]) := Lib.hid (OwnInts.lit w17 [1, 3] (by decide)).ints
  go_wp2_with fail
  refine (refSame _ _ [1, 3] [1, 3] _ X.out L22.out).mono ?_
  rw [show decide (([1, 3] : List Int) = [1, 3]) = true from rfl]
  rintro e w24 ⟨rfl, hb25⟩
  clear X
  clear L22
  have B26 := Lib.hid (B23.out.trans (hb25.mono B23.out.size))
  clear hb25 B23
  have B28 := Lib.hid (B26.out.alloc B26.out.size (.cells #[.int .i64 (1), .int .i64 (3)] 3))
  clear B26
  have L27 : Hid (Ints (w24.alloc (.cells #[.int .i64 (1), .int .i64 (3)] 3)) (.slice (some ⟨w24.heap.size, 0, none⟩) 2 2) [1, 3]) := Lib.hid (OwnInts.lit w24 [1, 3] (by decide)).ints
  go_wp2_with fail
  refine (idsetIs _ [1, 3] _ L27.out).mono ?_
  rw [show Ids.isSet [1, 3] = true from rfl]
  rintro e w29 ⟨rfl, hb30⟩
  clear L27
  have B31 := Lib.hid (B28.out.trans (hb30.mono B28.out.size))
  clear hb30 B28
  have B33 := Lib.hid (B31.out.alloc B31.out.size (.cells #[.int .i64 (1), .int .i64 (1)] 3))
  clear B31
  have L32 : Hid (Ints (w29.alloc (.cells #[.int .i64 (1), .int .i64 (1)] 3)) (.slice (some ⟨w29.heap.size, 0, none⟩) 2 2) [1, 1]) := Lib.hid (OwnInts.lit w29 [1, 1] (by decide)).ints
  go_wp2_with fail
  refine (idsetIs _ [1, 1] _ L32.out).mono ?_
  rw [show Ids.isSet [1, 1] = false from rfl]
  rintro e w34 ⟨rfl, hb35⟩
  clear L32
  have B36 := Lib.hid (B33.out.trans (hb35.mono B33.out.size))
  clear hb35 B33
  have B38 := Lib.hid (B36.out.alloc B36.out.size (.cells #[.int .i64 (4)] 3))
  clear B36
  have L37 : Hid (Ints (w34.alloc (.cells #[.int .i64 (4)] 3)) (.slice (some ⟨w34.heap.size, 0, none⟩) 1 1) [4]) := Lib.hid (OwnInts.lit w34 [4] (by decide)).ints
  go_wp2_with fail
  refine (same_below (idsetHas _ [4] 4 _ L37.out)).mono ?_
  rw [show ([4] : List Int).contains 4 = true from rfl]
  rintro e w39 ⟨rfl, hb40⟩
  clear L37
  have B41 := Lib.hid (B38.out.trans (hb40.mono B38.out.size))
  clear hb40 B38
  have B43 := Lib.hid (B41.out.alloc B41.out.size (.cells #[.int .i64 (7), .int .i64 (4), .int .i64 (4)] 3))
  clear B41
  have L42 : Hid (Ints (w39.alloc (.cells #[.int .i64 (7), .int .i64 (4), .int .i64 (4)] 3)) (.slice (some ⟨w39.heap.size, 0, none⟩) 3 3) [7, 4, 4]) := Lib.hid (OwnInts.lit w39 [7, 4, 4] (by decide)).ints
  go_wp2_with fail
  refine (same_below (idsetIndex _ [7, 4, 4] 4 _ L42.out)).mono ?_
  rw [show Lib.idxOf [7, 4, 4] 4 = 1 from rfl]
  rintro e w44 ⟨rfl, hb45⟩
  clear L42
  have B46 := Lib.hid (B43.out.trans (hb45.mono B43.out.size))
  clear hb45 B43
  go_wp2_with fail
  refine (same_below (idsetIndex _ [] 4 _ (Ints.nil _))).mono ?_
  rw [show Lib.idxOf [] 4 = -1 from rfl]
  rintro e w47 ⟨rfl, hb48⟩
  have B49 := Lib.hid (B46.out.trans (hb48.mono B46.out.size))
  clear hb48 B46
  have B51 := Lib.hid (B49.out.alloc B49.out.size (.cells #[.int .i64 (2), .int .i64 (1)] 3))
  clear B49
  have L50 : Hid (Ints (w47.alloc (.cells #[.int .i64 (2), .int .i64 (1)] 3)) (.slice (some ⟨w47.heap.size, 0, none⟩) 2 2) [2, 1]) := Lib.hid (OwnInts.lit w47 [2, 1] (by decide)).ints
  have B53 := Lib.hid (B51.out.alloc B51.out.size (.cells #[.int .i64 (2)] 3))
  have L50_ := Lib.hid (L50.out.below ((Below.refl (w47.alloc (.cells #[.int .i64 (2), .int .i64 (1)] 3)).heap.size (w47.alloc (.cells #[.int .i64 (2), .int .i64 (1)] 3))).alloc (Nat.le_refl _) (.cells #[.int .i64 (2)] 3)) (Nat.le_refl _))
  clear L50
  have L50 := Lib.hid L50_.out
  clear L50_
  clear B51
  have L52 : Hid (Ints ((w47.alloc (.cells #[.int .i64 (2), .int .i64 (1)] 3)).alloc (.cells #[.int .i64 (2)] 3)) (.slice (some ⟨w47.heap.size + 1, 0, none⟩) 1 1) [2]) := Lib.hid (by
    have h := (OwnInts.lit (w47.alloc (.cells #[.int .i64 (2), .int .i64 (1)] 3)) [2] (by decide)).ints
    rw [show (w47.alloc (.cells #[.int .i64 (2), .int .i64 (1)] 3)).heap.size = w47.heap.size + 1 by simp] at h
    exact h)
  go_wp2_with fail
  refine (idsetUnion _ _ [2, 1] [2] _ L50.out L52.out (by decide)).mono ?_
  rw [al_union]
  rintro e w54 ⟨v56, rfl, ho57, hb55⟩
  clear L50
  clear L52
  have B58 := Lib.hid (B53.out.trans (hb55.mono B53.out.size))
  have X := Lib.hid (ho57.ints)
  clear ho57
  clear hb55 B53
  have B60 := Lib.hid (B58.out.alloc B58.out.size (.cells #[.int .i64 (1), .int .i64 (2)] 3))
  have X_ := Lib.hid (X.out.below ((Below.refl w54.heap.size w54).alloc (Nat.le_refl _) (.cells #[.int .i64 (1), .int .i64 (2)] 3)) (Nat.le_refl _))
  clear X
  have X := Lib.hid X_.out
  clear X_
  clear B58
  have L59 : Hid (Ints (w54.alloc (.cells #[.int .i64 (1), .int .i64 (2)] 3)) (.slice (some ⟨w54.heap.size, 0, none⟩) 2 2) [1, 2]) := Lib.hid (OwnInts.lit w54 [1, 2] (by decide)).ints
  go_wp2_with fail
  refine (refSame _ _ [1, 2] [1, 2] _ X.out L59.out).mono ?_
  rw [show decide (([1, 2] : List Int) = [1, 2]) = true from rfl]
  rintro e w61 ⟨rfl, hb62⟩
  clear X
  clear L59
  have B63 := Lib.hid (B60.out.trans (hb62.mono B60.out.size))
  clear hb62 B60
  go_wp2_with fail
  go_ret
  exact ⟨rfl, B63.out⟩
set_option maxHeartbeats 1600000 in
set_option maxRecDepth 100000 in
theorem lawIdsetOf (v : Value) (l : List Int) (w : World) (hv : Ints w v l) :
    Calls Try.prog 3 #[v] w fun e w' => e = .returned (.bool true) ∧ Below w.heap.size w w' := by
  have B0 := Lib.hid (Below.refl w.heap.size w)
  have V := Lib.hid hv
  obtain ⟨a, c, rfl, _⟩ := hv
  cases hf : decide (l.length ≤ 200 ∧ 0 ≤ 200) with
  | false =>
    have HF := Lib.hid hf
    clear hf
    go_enter Try.func3, Try.ntmps3
    go_wp2_with fail
    refine (lawFew _ _ _ _ _ _ false _ HF.out).mono ?_
    rintro e w0 ⟨rfl, rfl⟩
    go_wp2_with fail
    refine (lawAlive _).mono ?_
    rintro e w1 ⟨rfl, hb⟩
    go_wp2_with fail
    go_ret
    exact ⟨rfl, hb⟩
  | true =>
    have HF := Lib.hid hf
    obtain ⟨hl, hl2⟩ := of_decide_eq_true hf
    clear hf
    obtain ⟨r, hr⟩ : ∃ r, Ids.isSet l = r := ⟨_, rfl⟩
    have HR := Lib.hid hr
    clear hr
    go_enter Try.func3, Try.ntmps3
    go_wp2_with fail
    refine (lawFew _ _ _ _ _ _ true _ HF.out).mono ?_
    rintro e w0 ⟨rfl, rfl⟩
    go_wp2_with fail
    refine (idsetIs _ l _ V.out).mono ?_
    rw [HR.out]
    rintro e w1 ⟨rfl, hb2⟩
    have V_ := Lib.hid (V.out.below hb2 (Nat.le_refl _))
    clear V
    have V := Lib.hid V_.out
    clear V_
    have B3 := Lib.hid (B0.out.trans (hb2.mono B0.out.size))
    clear hb2 B0
    go_wp2_with fail
    refine (refIs _ l _ V.out).mono ?_
    rw [HR.out]
    rintro e w4 ⟨rfl, hb5⟩
    have V_ := Lib.hid (V.out.below hb5 (Nat.le_refl _))
    clear V
    have V := Lib.hid V_.out
    clear V_
    have B6 := Lib.hid (B3.out.trans (hb5.mono B3.out.size))
    clear hb5 B3
    go_wp2_with fail
    refine (idsetOf _ l _ V.out (by omega)).mono ?_
    rintro e w7 ⟨v9, rfl, ho10, hb8⟩
    have V_ := Lib.hid (V.out.below hb8 (Nat.le_refl _))
    clear V
    have V := Lib.hid V_.out
    clear V_
    have B11 := Lib.hid (B6.out.trans (hb8.mono B6.out.size))
    have X := Lib.hid (ho10.ints)
    clear ho10
    clear hb8 B6
    go_wp2_with fail
    refine (refOf _ l _ V.out (by omega)).mono ?_
    rintro e w12 ⟨v14, rfl, ho15, hb13⟩
    have V_ := Lib.hid (V.out.below hb13 (Nat.le_refl _))
    clear V
    have V := Lib.hid V_.out
    clear V_
    have X_ := Lib.hid (X.out.below hb13 (Nat.le_refl _))
    clear X
    have X := Lib.hid X_.out
    clear X_
    have B16 := Lib.hid (B11.out.trans (hb13.mono B11.out.size))
    have Y := Lib.hid (ho15.ints)
    clear ho15
    clear hb13 B11
    go_wp2_with fail
    refine (refSame _ _ _ _ _ X.out Y.out).mono ?_
    rw [decide_eq_true (rfl : Ids.norm l = Ids.norm l)]
    rintro e w17 ⟨rfl, hb18⟩
    clear X
    clear Y
    have V_ := Lib.hid (V.out.below hb18 (Nat.le_refl _))
    clear V
    have V := Lib.hid V_.out
    clear V_
    have B19 := Lib.hid (B16.out.trans (hb18.mono B16.out.size))
    clear hb18 B16
    go_wp2_with fail
    refine (idsetOf _ l _ V.out (by omega)).mono ?_
    rintro e w20 ⟨v22, rfl, ho23, hb21⟩
    have V_ := Lib.hid (V.out.below hb21 (Nat.le_refl _))
    clear V
    have V := Lib.hid V_.out
    clear V_
    have B24 := Lib.hid (B19.out.trans (hb21.mono B19.out.size))
    have X := Lib.hid (ho23.ints)
    clear ho23
    clear hb21 B19
    go_wp2_with fail
    refine (idsetIs _ _ _ X.out).mono ?_
    rw [Ids.isSet_up (Ids.norm_up l)]
    rintro e w25 ⟨rfl, hb26⟩
    clear X
    have V_ := Lib.hid (V.out.below hb26 (Nat.le_refl _))
    clear V
    have V := Lib.hid V_.out
    clear V_
    have B27 := Lib.hid (B24.out.trans (hb26.mono B24.out.size))
    clear hb26 B24
    go_wp2_with fail
    refine (lawAlive _).mono ?_
    rintro e w28 ⟨rfl, hb29⟩
    have V_ := Lib.hid (V.out.below hb29 (Nat.le_refl _))
    clear V
    have V := Lib.hid V_.out
    clear V_
    have B30 := Lib.hid (B27.out.trans (hb29.mono B27.out.size))
    clear hb29 B27
    go_wp2_with fail
    go_ret
    exact ⟨rfl, B30.out⟩
set_option maxHeartbeats 1600000 in
set_option maxRecDepth 100000 in
theorem lawIdsetElements (v : Value) (l : List Int) (n : Int) (w : World) (hv : Ints w v l) :
    Calls Try.prog 4 #[v, .int .i64 n] w fun e w' => e = .returned (.bool true) ∧ Below w.heap.size w w' := by
  have B0 := Lib.hid (Below.refl w.heap.size w)
  have V := Lib.hid hv
  obtain ⟨a, c, rfl, _⟩ := hv
  cases hf : decide (l.length ≤ 200 ∧ 0 ≤ 200) with
  | false =>
    have HF := Lib.hid hf
    clear hf
    go_enter Try.func4, Try.ntmps4
    go_wp2_with fail
    refine (lawFew _ _ _ _ _ _ false _ HF.out).mono ?_
    rintro e w0 ⟨rfl, rfl⟩
    go_wp2_with fail
    refine (lawAlive _).mono ?_
    rintro e w1 ⟨rfl, hb⟩
    go_wp2_with fail
    go_ret
    exact ⟨rfl, hb⟩
  | true =>
    have HF := Lib.hid hf
    obtain ⟨hl, hl2⟩ := of_decide_eq_true hf
    clear hf
    obtain ⟨r, hr⟩ : ∃ r, l.contains n = r := ⟨_, rfl⟩
    have HR := Lib.hid hr
    clear hr
    obtain ⟨i, hi⟩ : ∃ i, Lib.idxOf l n = i := ⟨_, rfl⟩
    have HI := Lib.hid hi
    clear hi
    have HN : Hid ((Ids.without l n).contains n = false) := Lib.hid (by simp [Ids.without])
    go_enter Try.func4, Try.ntmps4
    go_wp2_with fail
    refine (lawFew _ _ _ _ _ _ true _ HF.out).mono ?_
    rintro e w0 ⟨rfl, rfl⟩
    go_wp2_with fail
    refine (same_below (idsetHas _ l n _ V.out)).mono ?_
    rw [HR.out]
    rintro e w1 ⟨rfl, hb2⟩
    have V_ := Lib.hid (V.out.below hb2 (Nat.le_refl _))
    clear V
    have V := Lib.hid V_.out
    clear V_
    have B3 := Lib.hid (B0.out.trans (hb2.mono B0.out.size))
    clear hb2 B0
    go_wp2_with fail
    refine (refHas _ l n _ V.out).mono ?_
    rw [HR.out]
    rintro e w4 ⟨rfl, hb5⟩
    have V_ := Lib.hid (V.out.below hb5 (Nat.le_refl _))
    clear V
    have V := Lib.hid V_.out
    clear V_
    have B6 := Lib.hid (B3.out.trans (hb5.mono B3.out.size))
    clear hb5 B3
    go_wp2_with fail
    refine (same_below (idsetIndex _ l n _ V.out)).mono ?_
    rw [HI.out]
    rintro e w7 ⟨rfl, hb8⟩
    have V_ := Lib.hid (V.out.below hb8 (Nat.le_refl _))
    clear V
    have V := Lib.hid V_.out
    clear V_
    have B9 := Lib.hid (B6.out.trans (hb8.mono B6.out.size))
    clear hb8 B6
    go_wp2_with fail
    refine (refIndex _ l n _ V.out).mono ?_
    rw [HI.out]
    rintro e w10 ⟨rfl, hb11⟩
    have V_ := Lib.hid (V.out.below hb11 (Nat.le_refl _))
    clear V
    have V := Lib.hid V_.out
    clear V_
    have B12 := Lib.hid (B9.out.trans (hb11.mono B9.out.size))
    clear hb11 B9
    go_wp2_with fail
    refine (idsetWithout _ l n _ V.out (by omega)).mono ?_
    rintro e w13 ⟨v15, rfl, ho16, hb14⟩
    have V_ := Lib.hid (V.out.below hb14 (Nat.le_refl _))
    clear V
    have V := Lib.hid V_.out
    clear V_
    have B17 := Lib.hid (B12.out.trans (hb14.mono B12.out.size))
    have X := Lib.hid (ho16.ints)
    clear ho16
    clear hb14 B12
    go_wp2_with fail
    refine (refWithout _ l n _ V.out (by omega)).mono ?_
    rintro e w18 ⟨v20, rfl, ho21, hb19⟩
    have V_ := Lib.hid (V.out.below hb19 (Nat.le_refl _))
    clear V
    have V := Lib.hid V_.out
    clear V_
    have X_ := Lib.hid (X.out.below hb19 (Nat.le_refl _))
    clear X
    have X := Lib.hid X_.out
    clear X_
    have B22 := Lib.hid (B17.out.trans (hb19.mono B17.out.size))
    have Y := Lib.hid (ho21.ints)
    clear ho21
    clear hb19 B17
    go_wp2_with fail
    refine (refSame _ _ _ _ _ X.out Y.out).mono ?_
    rw [decide_eq_true (rfl : Ids.without l n = Ids.without l n)]
    rintro e w23 ⟨rfl, hb24⟩
    clear X
    clear Y
    have V_ := Lib.hid (V.out.below hb24 (Nat.le_refl _))
    clear V
    have V := Lib.hid V_.out
    clear V_
    have B25 := Lib.hid (B22.out.trans (hb24.mono B22.out.size))
    clear hb24 B22
    go_wp2_with fail
    refine (idsetWithout _ l n _ V.out (by omega)).mono ?_
    rintro e w26 ⟨v28, rfl, ho29, hb27⟩
    have V_ := Lib.hid (V.out.below hb27 (Nat.le_refl _))
    clear V
    have V := Lib.hid V_.out
    clear V_
    have B30 := Lib.hid (B25.out.trans (hb27.mono B25.out.size))
    have X := Lib.hid (ho29.ints)
    clear ho29
    clear hb27 B25
    go_wp2_with fail
    refine (same_below (idsetHas _ _ n _ X.out)).mono ?_
    rw [HN.out]
    rintro e w31 ⟨rfl, hb32⟩
    clear X
    have V_ := Lib.hid (V.out.below hb32 (Nat.le_refl _))
    clear V
    have V := Lib.hid V_.out
    clear V_
    have B33 := Lib.hid (B30.out.trans (hb32.mono B30.out.size))
    clear hb32 B30
    go_wp2_with fail
    refine (lawAlive _).mono ?_
    rintro e w34 ⟨rfl, hb35⟩
    have V_ := Lib.hid (V.out.below hb35 (Nat.le_refl _))
    clear V
    have V := Lib.hid V_.out
    clear V_
    have B36 := Lib.hid (B33.out.trans (hb35.mono B33.out.size))
    clear hb35 B33
    go_wp2_with fail
    go_ret
    exact ⟨rfl, B36.out⟩
set_option maxHeartbeats 1600000 in
set_option maxRecDepth 100000 in
theorem lawIdsetSets (v : Value) (l : List Int) (v2 : Value) (l2 : List Int) (w : World) (hv : Ints w v l) (hv2 : Ints w v2 l2) :
    Calls Try.prog 5 #[v, v2] w fun e w' => e = .returned (.bool true) ∧ Below w.heap.size w w' := by
  have B0 := Lib.hid (Below.refl w.heap.size w)
  have V := Lib.hid hv
  obtain ⟨a, c, rfl, _⟩ := hv
  have V2 := Lib.hid hv2
  obtain ⟨a2, c2, rfl, _⟩ := hv2
  cases hf : decide (l.length ≤ 200 ∧ l2.length ≤ 200) with
  | false =>
    have HF := Lib.hid hf
    clear hf
    go_enter Try.func5, Try.ntmps5
    go_wp2_with fail
    refine (lawFew _ _ _ _ _ _ false _ HF.out).mono ?_
    rintro e w0 ⟨rfl, rfl⟩
    go_wp2_with fail
    refine (lawAlive _).mono ?_
    rintro e w1 ⟨rfl, hb⟩
    go_wp2_with fail
    go_ret
    exact ⟨rfl, hb⟩
  | true =>
    have HF := Lib.hid hf
    obtain ⟨hl, hl2⟩ := of_decide_eq_true hf
    clear hf
    go_enter Try.func5, Try.ntmps5
    go_wp2_with fail
    refine (lawFew _ _ _ _ _ _ true _ HF.out).mono ?_
    rintro e w0 ⟨rfl, rfl⟩
    go_wp2_with fail
    refine (idsetUnion _ _ l l2 _ V.out V2.out (by omega)).mono ?_
    rintro e w1 ⟨v3, rfl, ho4, hb2⟩
    have V_ := Lib.hid (V.out.below hb2 (Nat.le_refl _))
    clear V
    have V := Lib.hid V_.out
    clear V_
    have V2_ := Lib.hid (V2.out.below hb2 (Nat.le_refl _))
    clear V2
    have V2 := Lib.hid V2_.out
    clear V2_
    have B5 := Lib.hid (B0.out.trans (hb2.mono B0.out.size))
    have X := Lib.hid (ho4.ints)
    clear ho4
    clear hb2 B0
    go_wp2_with fail
    refine (refUnion _ _ l l2 _ V.out V2.out (by omega) (by omega)).mono ?_
    rintro e w6 ⟨v8, rfl, ho9, hb7⟩
    have V_ := Lib.hid (V.out.below hb7 (Nat.le_refl _))
    clear V
    have V := Lib.hid V_.out
    clear V_
    have V2_ := Lib.hid (V2.out.below hb7 (Nat.le_refl _))
    clear V2
    have V2 := Lib.hid V2_.out
    clear V2_
    have X_ := Lib.hid (X.out.below hb7 (Nat.le_refl _))
    clear X
    have X := Lib.hid X_.out
    clear X_
    have B10 := Lib.hid (B5.out.trans (hb7.mono B5.out.size))
    have Y := Lib.hid (ho9.ints)
    clear ho9
    clear hb7 B5
    go_wp2_with fail
    refine (refSame _ _ _ _ _ X.out Y.out).mono ?_
    rw [decide_eq_true (rfl : Ids.norm (l ++ l2) = Ids.norm (l ++ l2))]
    rintro e w11 ⟨rfl, hb12⟩
    clear X
    clear Y
    have V_ := Lib.hid (V.out.below hb12 (Nat.le_refl _))
    clear V
    have V := Lib.hid V_.out
    clear V_
    have V2_ := Lib.hid (V2.out.below hb12 (Nat.le_refl _))
    clear V2
    have V2 := Lib.hid V2_.out
    clear V2_
    have B13 := Lib.hid (B10.out.trans (hb12.mono B10.out.size))
    clear hb12 B10
    go_wp2_with fail
    refine (idsetMeet _ _ l l2 _ V.out V2.out (by omega) (by omega)).mono ?_
    rintro e w14 ⟨v16, rfl, ho17, hb15⟩
    have V_ := Lib.hid (V.out.below hb15 (Nat.le_refl _))
    clear V
    have V := Lib.hid V_.out
    clear V_
    have V2_ := Lib.hid (V2.out.below hb15 (Nat.le_refl _))
    clear V2
    have V2 := Lib.hid V2_.out
    clear V2_
    have B18 := Lib.hid (B13.out.trans (hb15.mono B13.out.size))
    have X := Lib.hid (ho17.ints)
    clear ho17
    clear hb15 B13
    go_wp2_with fail
    refine (refMeet _ _ l l2 _ V.out V2.out (by omega)).mono ?_
    rintro e w19 ⟨v21, rfl, ho22, hb20⟩
    have V_ := Lib.hid (V.out.below hb20 (Nat.le_refl _))
    clear V
    have V := Lib.hid V_.out
    clear V_
    have V2_ := Lib.hid (V2.out.below hb20 (Nat.le_refl _))
    clear V2
    have V2 := Lib.hid V2_.out
    clear V2_
    have X_ := Lib.hid (X.out.below hb20 (Nat.le_refl _))
    clear X
    have X := Lib.hid X_.out
    clear X_
    have B23 := Lib.hid (B18.out.trans (hb20.mono B18.out.size))
    have Y := Lib.hid (ho22.ints)
    clear ho22
    clear hb20 B18
    go_wp2_with fail
    refine (refSame _ _ _ _ _ X.out Y.out).mono ?_
    rw [decide_eq_true (rfl : Ids.chosen l l2 true = Ids.chosen l l2 true)]
    rintro e w24 ⟨rfl, hb25⟩
    clear X
    clear Y
    have V_ := Lib.hid (V.out.below hb25 (Nat.le_refl _))
    clear V
    have V := Lib.hid V_.out
    clear V_
    have V2_ := Lib.hid (V2.out.below hb25 (Nat.le_refl _))
    clear V2
    have V2 := Lib.hid V2_.out
    clear V2_
    have B26 := Lib.hid (B23.out.trans (hb25.mono B23.out.size))
    clear hb25 B23
    go_wp2_with fail
    refine (idsetMinus _ _ l l2 _ V.out V2.out (by omega) (by omega)).mono ?_
    rintro e w27 ⟨v29, rfl, ho30, hb28⟩
    have V_ := Lib.hid (V.out.below hb28 (Nat.le_refl _))
    clear V
    have V := Lib.hid V_.out
    clear V_
    have V2_ := Lib.hid (V2.out.below hb28 (Nat.le_refl _))
    clear V2
    have V2 := Lib.hid V2_.out
    clear V2_
    have B31 := Lib.hid (B26.out.trans (hb28.mono B26.out.size))
    have X := Lib.hid (ho30.ints)
    clear ho30
    clear hb28 B26
    go_wp2_with fail
    refine (refMinus _ _ l l2 _ V.out V2.out (by omega)).mono ?_
    rintro e w32 ⟨v34, rfl, ho35, hb33⟩
    have V_ := Lib.hid (V.out.below hb33 (Nat.le_refl _))
    clear V
    have V := Lib.hid V_.out
    clear V_
    have V2_ := Lib.hid (V2.out.below hb33 (Nat.le_refl _))
    clear V2
    have V2 := Lib.hid V2_.out
    clear V2_
    have X_ := Lib.hid (X.out.below hb33 (Nat.le_refl _))
    clear X
    have X := Lib.hid X_.out
    clear X_
    have B36 := Lib.hid (B31.out.trans (hb33.mono B31.out.size))
    have Y := Lib.hid (ho35.ints)
    clear ho35
    clear hb33 B31
    go_wp2_with fail
    refine (refSame _ _ _ _ _ X.out Y.out).mono ?_
    rw [decide_eq_true (rfl : Ids.chosen l l2 false = Ids.chosen l l2 false)]
    rintro e w37 ⟨rfl, hb38⟩
    clear X
    clear Y
    have V_ := Lib.hid (V.out.below hb38 (Nat.le_refl _))
    clear V
    have V := Lib.hid V_.out
    clear V_
    have V2_ := Lib.hid (V2.out.below hb38 (Nat.le_refl _))
    clear V2
    have V2 := Lib.hid V2_.out
    clear V2_
    have B39 := Lib.hid (B36.out.trans (hb38.mono B36.out.size))
    clear hb38 B36
    go_wp2_with fail
    refine (lawAlive _).mono ?_
    rintro e w40 ⟨rfl, hb41⟩
    have V_ := Lib.hid (V.out.below hb41 (Nat.le_refl _))
    clear V
    have V := Lib.hid V_.out
    clear V_
    have V2_ := Lib.hid (V2.out.below hb41 (Nat.le_refl _))
    clear V2
    have V2 := Lib.hid V2_.out
    clear V2_
    have B42 := Lib.hid (B39.out.trans (hb41.mono B39.out.size))
    clear hb41 B39
    go_wp2_with fail
    go_ret
    exact ⟨rfl, B42.out⟩
set_option maxHeartbeats 1600000 in
set_option maxRecDepth 100000 in
theorem lawIdsetSame (v : Value) (l : List Int) (v2 : Value) (l2 : List Int) (w : World) (hv : Ints w v l) (hv2 : Ints w v2 l2) :
    Calls Try.prog 6 #[v, v2] w fun e w' => e = .returned (.bool true) ∧ Below w.heap.size w w' := by
  have B0 := Lib.hid (Below.refl w.heap.size w)
  have V := Lib.hid hv
  obtain ⟨a, c, rfl, _⟩ := hv
  have V2 := Lib.hid hv2
  obtain ⟨a2, c2, rfl, _⟩ := hv2
  cases hf : decide (l.length ≤ 200 ∧ l2.length ≤ 200) with
  | false =>
    have HF := Lib.hid hf
    clear hf
    go_enter Try.func6, Try.ntmps6
    go_wp2_with fail
    refine (lawFew _ _ _ _ _ _ false _ HF.out).mono ?_
    rintro e w0 ⟨rfl, rfl⟩
    go_wp2_with fail
    refine (lawAlive _).mono ?_
    rintro e w1 ⟨rfl, hb⟩
    go_wp2_with fail
    go_ret
    exact ⟨rfl, hb⟩
  | true =>
    have HF := Lib.hid hf
    obtain ⟨hl, hl2⟩ := of_decide_eq_true hf
    clear hf
    obtain ⟨r, hr⟩ : ∃ r, decide (l = l2) = r := ⟨_, rfl⟩
    have HR := Lib.hid hr
    have HR2 : Hid (decide (l2 = l) = r) := Lib.hid (by rw [← hr]; exact decide_eq_decide.2 ⟨Eq.symm, Eq.symm⟩)
    clear hr
    go_enter Try.func6, Try.ntmps6
    go_wp2_with fail
    refine (lawFew _ _ _ _ _ _ true _ HF.out).mono ?_
    rintro e w0 ⟨rfl, rfl⟩
    go_wp2_with fail
    refine (idsetSame _ _ l l2 _ V.out V2.out).mono ?_
    rw [HR.out]
    rintro e w1 ⟨rfl, hb2⟩
    have V_ := Lib.hid (V.out.below hb2 (Nat.le_refl _))
    clear V
    have V := Lib.hid V_.out
    clear V_
    have V2_ := Lib.hid (V2.out.below hb2 (Nat.le_refl _))
    clear V2
    have V2 := Lib.hid V2_.out
    clear V2_
    have B3 := Lib.hid (B0.out.trans (hb2.mono B0.out.size))
    clear hb2 B0
    go_wp2_with fail
    refine (refSame _ _ l l2 _ V.out V2.out).mono ?_
    rw [HR.out]
    rintro e w4 ⟨rfl, hb5⟩
    have V_ := Lib.hid (V.out.below hb5 (Nat.le_refl _))
    clear V
    have V := Lib.hid V_.out
    clear V_
    have V2_ := Lib.hid (V2.out.below hb5 (Nat.le_refl _))
    clear V2
    have V2 := Lib.hid V2_.out
    clear V2_
    have B6 := Lib.hid (B3.out.trans (hb5.mono B3.out.size))
    clear hb5 B3
    go_wp2_with fail
    refine (idsetSame _ _ l l _ V.out V.out).mono ?_
    rw [decide_eq_true (rfl : l = l)]
    rintro e w7 ⟨rfl, hb8⟩
    have V_ := Lib.hid (V.out.below hb8 (Nat.le_refl _))
    clear V
    have V := Lib.hid V_.out
    clear V_
    have V2_ := Lib.hid (V2.out.below hb8 (Nat.le_refl _))
    clear V2
    have V2 := Lib.hid V2_.out
    clear V2_
    have B9 := Lib.hid (B6.out.trans (hb8.mono B6.out.size))
    clear hb8 B6
    go_wp2_with fail
    refine (idsetSame _ _ l2 l _ V2.out V.out).mono ?_
    rw [HR2.out]
    rintro e w10 ⟨rfl, hb11⟩
    have V_ := Lib.hid (V.out.below hb11 (Nat.le_refl _))
    clear V
    have V := Lib.hid V_.out
    clear V_
    have V2_ := Lib.hid (V2.out.below hb11 (Nat.le_refl _))
    clear V2
    have V2 := Lib.hid V2_.out
    clear V2_
    have B12 := Lib.hid (B9.out.trans (hb11.mono B9.out.size))
    clear hb11 B9
    go_wp2_with fail
    refine (idsetSame _ _ l l2 _ V.out V2.out).mono ?_
    rw [HR.out]
    rintro e w13 ⟨rfl, hb14⟩
    have V_ := Lib.hid (V.out.below hb14 (Nat.le_refl _))
    clear V
    have V := Lib.hid V_.out
    clear V_
    have V2_ := Lib.hid (V2.out.below hb14 (Nat.le_refl _))
    clear V2
    have V2 := Lib.hid V2_.out
    clear V2_
    have B15 := Lib.hid (B12.out.trans (hb14.mono B12.out.size))
    clear hb14 B12
    go_wp2_with fail
    refine (lawAlive _).mono ?_
    rintro e w16 ⟨rfl, hb17⟩
    have V_ := Lib.hid (V.out.below hb17 (Nat.le_refl _))
    clear V
    have V := Lib.hid V_.out
    clear V_
    have V2_ := Lib.hid (V2.out.below hb17 (Nat.le_refl _))
    clear V2
    have V2 := Lib.hid V2_.out
    clear V2_
    have B18 := Lib.hid (B15.out.trans (hb17.mono B15.out.size))
    clear hb17 B15
    go_wp2_with fail
    go_ret
    exact ⟨rfl, B18.out⟩
end Go.Proofs.Ytflbphmpohkkbaa
