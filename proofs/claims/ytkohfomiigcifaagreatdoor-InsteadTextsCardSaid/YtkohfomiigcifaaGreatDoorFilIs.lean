/-
  CONTRACTS OF LAYER 13 (filter): within, areMasks, isBound, Is. By an AI agent.
-/
import Derived.Test.YtkohfomiigcifaaGreatDoorFilRef
import Derived.Test.YtkohfomiigcifaaGreatDoorFLine
import Derived.Test.YtkohfomiigcifaaGreatDoorFCol
import Derived.Test.YtkohfomiigcifaaGreatDoorFKey
import Derived.Test.YtkohfomiigcifaaGreatDoorBlk
import Derived.Test.YtkohfomiigcifaaGreatDoorBits64
namespace Go.Proofs.YtkohfomiigcifaaGreatDoor
open Go.RowKit
open Wd (Bs)

/-- what the listed variables give -/
structure Env (w : World) : Prop where
  num : EnvN w
  line : EnvL w
  col : EnvC w
theorem Env.below {w w' : World} (h : Env w) (hb : Below w.heap.size w w') : Env w' := ⟨h.num.below hb, h.line.below hb, h.col.below hb⟩
theorem below_cells {W w1 : World} (hb : Below W.heap.size W w1) : (∀ b o, b < W.heap.size → w1.cell? ⟨b, o, none⟩ = W.cell? ⟨b, o, none⟩) ∧ (∀ b o, b < W.heap.size → w1.frozen? ⟨b, o, none⟩ = W.frozen? ⟨b, o, none⟩) :=
  ⟨fun b o h => hb.cell (p := ⟨b, o, none⟩) h, fun b o h => hb.frozen (p := ⟨b, o, none⟩) h⟩
theorem below_boxed {w w1 : World} {o : Obj} (hb : Below (w.alloc o).heap.size (w.alloc o) w1) : Below w.heap.size w w1 :=
  ((Below.refl _ _).alloc (Nat.le_refl _) _).trans (hb.mono (by simp))
theorem filWithin (x hi : Int) (w : World) :
    Calls Tryz.prog 44 #[.int .i64 x, .int .i64 hi] w fun e w' => e = .returned (.bool (Fil.within x hi)) ∧ w = w' := by
  rcases Int.lt_or_le x 0 with h0 | h0
  · have HB : Hid (Fil.within x hi = false) := Lib.hid (by unfold Fil.within; simp; omega)
    go_enter Tryz.func44, Tryz.ntmps44
    go_wp2
    go_ret
    exact ⟨ret_bool HB.out.symm, rfl⟩
  · by_cases h1 : x ≤ hi
    · have HB : Hid (Fil.within x hi = true) := Lib.hid (by unfold Fil.within; simp; omega)
      go_enter Tryz.func44, Tryz.ntmps44
      go_wp2
      go_ret
      exact ⟨ret_bool HB.out.symm, rfl⟩
    · have HB : Hid (Fil.within x hi = false) := Lib.hid (by unfold Fil.within; simp; omega)
      go_enter Tryz.func44, Tryz.ntmps44
      go_wp2
      go_ret
      exact ⟨ret_bool HB.out.symm, rfl⟩
theorem and_test {x y top : Int} (ht : top ≤ 1000000) (hx : Fil.within x top = true) (hy : Fil.within y top = true) : (bits .and .i64 x y == 0) = (x.toNat &&& y.toNat == 0) := by
  rw [Fil.within_iff] at hx hy
  have e := Bt.and_nat x.toNat y.toNat (by omega) (by omega)
  rw [Int.toNat_of_nonneg hx.1, Int.toNat_of_nonneg hy.1] at e
  rw [e, Bool.eq_iff_iff]
  simp
theorem filMasks (x y top : Int) (ht : top ≤ 1000000) (w : World) :
    Calls Tryz.prog 45 #[.int .i64 x, .int .i64 y, .int .i64 top] w fun e w' => e = .returned (.bool (Fil.masksB x y top)) ∧ w = w' := by
  cases hx : Fil.within x top with
  | false =>
    have HX := Lib.hid hx
    have HR : Hid (Fil.masksB x y top = false) := Lib.hid (by unfold Fil.masksB; rw [hx]; rfl)
    clear hx
    go_enter Tryz.func45, Tryz.ntmps45
    go_wp2_with fail
    refine (filWithin x top w).mono ?_
    rw [HX.out]
    rintro e w1 ⟨rfl, rfl⟩
    go_wp2_with fail
    go_ret
    exact ⟨ret_bool HR.out.symm, rfl⟩
  | true =>
    cases hy : Fil.within y top with
    | false =>
      have HX := Lib.hid hx
      have HY := Lib.hid hy
      have HR : Hid (Fil.masksB x y top = false) := Lib.hid (by unfold Fil.masksB; rw [hx, hy]; rfl)
      clear hx hy
      go_enter Tryz.func45, Tryz.ntmps45
      go_wp2_with fail
      refine (filWithin x top w).mono ?_
      rw [HX.out]
      rintro e w1 ⟨rfl, rfl⟩
      go_wp2_with fail
      refine (filWithin y top w).mono ?_
      rw [HY.out]
      rintro e w1 ⟨rfl, rfl⟩
      go_wp2_with fail
      go_ret
      exact ⟨ret_bool HR.out.symm, rfl⟩
    | true =>
      have HX := Lib.hid hx
      have HY := Lib.hid hy
      have HR : Hid (Fil.masksB x y top = (bits .and .i64 x y == 0)) := Lib.hid (by unfold Fil.masksB; rw [and_test ht hx hy, hx, hy]; rfl)
      clear hx hy
      go_enter Tryz.func45, Tryz.ntmps45
      go_wp2_with fail
      refine (filWithin x top w).mono ?_
      rw [HX.out]
      rintro e w1 ⟨rfl, rfl⟩
      go_wp2_with fail
      refine (filWithin y top w).mono ?_
      rw [HY.out]
      rintro e w1 ⟨rfl, rfl⟩
      go_wp2_with fail
      go_ret
      exact ⟨ret_bool HR.out.symm, rfl⟩
theorem filBound (b : Fil.Bd) (w : World) :
    Calls Tryz.prog 48 #[.agg #[.int .i64 b.kind, .int .i64 b.n]] w fun e w' => e = .returned (.bool (Fil.bdB b)) ∧ Below w.heap.size w w' := by
  have HB : Hid (Below w.heap.size w (w.alloc (.cells #[.int .i64 b.kind, .int .i64 b.n] 23))) := Lib.hid ((Below.refl _ _).alloc (Nat.le_refl _) _)
  by_cases hk : b.kind = 0
  · have hk' : (b.kind == 0) = true := by simp [hk]
    have HR : Hid (Fil.bdB b = (b.n == 0)) := Lib.hid (by
      unfold Fil.bdB Fil.within; rw [hk, Bool.eq_iff_iff]; simp; omega)
    clear hk
    go_enter Tryz.func48, Tryz.ntmps48
    go_wp2_with fail
    go_ret
    exact ⟨ret_bool HR.out.symm, HB.out⟩
  · have hk' : (b.kind == 0) = false := by simp [hk]
    cases hx : Fil.within b.kind 3 with
    | false =>
      have HX := Lib.hid hx
      have HR : Hid (Fil.bdB b = false) := Lib.hid (by unfold Fil.bdB; rw [hx]; rfl)
      clear hx
      go_enter Tryz.func48, Tryz.ntmps48
      go_wp2_with fail
      refine (filWithin b.kind 3 _).mono ?_
      rw [HX.out]
      rintro e w1 ⟨rfl, rfl⟩
      go_wp2_with fail
      go_ret
      exact ⟨ret_bool HR.out.symm, HB.out⟩
    | true =>
      have HX := Lib.hid hx
      have HR : Hid (Fil.bdB b = Fil.within b.n 1000000) := Lib.hid (by unfold Fil.bdB; rw [hx]; simp [hk])
      clear hx
      go_enter Tryz.func48, Tryz.ntmps48
      go_wp2_with fail
      refine (filWithin b.kind 3 _).mono ?_
      rw [HX.out]
      rintro e w1 ⟨rfl, rfl⟩
      go_wp2_with fail
      refine (filWithin b.n 1000000 _).mono ?_
      rintro e w1 ⟨rfl, rfl⟩
      go_wp2_with fail
      go_ret
      exact ⟨ret_bool HR.out.symm, HB.out⟩
theorem sub_cases (s : ByteArray) : (s.toList.isEmpty = true ∧ s.data.toList = []) ∨ (s.toList.isEmpty = false ∧ s.data.toList ≠ []) := by
  rw [Lib.toList_data]
  cases s.data.toList with
  | nil => exact .inl ⟨rfl, rfl⟩
  | cons a l => exact .inr ⟨rfl, by simp⟩
set_option maxRecDepth 100000 in
theorem filIs (f : Fil.Flt) (fs : ByteArray) (hf : f.sub = fs.data.toList) (hs : fs.size ≤ maxLen) (w : World) (hE : Env w) :
    Calls Tryz.prog 23 #[.agg #[.int .i64 f.zone, .int .i64 f.who, .int .i64 f.self, .int .i64 f.types, .int .i64 f.ntypes, .int .i64 f.colors, .int .i64 f.ncolors, .string fs, .int .i64 f.keys, .int .i64 f.tap, .int .i64 f.pow.kind, .int .i64 f.pow.n, .int .i64 f.tough.kind, .int .i64 f.tough.n, .int .i64 f.val.kind, .int .i64 f.val.n]] w fun e w' => e = .returned (.bool (Fil.validB f)) ∧ Below w.heap.size w w' := by
  obtain ⟨b0, H0⟩ : ∃ b, Hid (Fil.within f.zone 5 = b) := ⟨_, Lib.hid rfl⟩
  obtain ⟨b1, H1⟩ : ∃ b, Hid (Fil.within f.who 2 = b) := ⟨_, Lib.hid rfl⟩
  obtain ⟨b2, H2⟩ : ∃ b, Hid (Fil.within f.self 2 = b) := ⟨_, Lib.hid rfl⟩
  obtain ⟨b3, H3⟩ : ∃ b, Hid (Fil.within f.tap 2 = b) := ⟨_, Lib.hid rfl⟩
  obtain ⟨b4, H4⟩ : ∃ b, Hid (Fil.masksB f.types f.ntypes 63 = b) := ⟨_, Lib.hid rfl⟩
  obtain ⟨b5, H5⟩ : ∃ b, Hid (Fil.masksB f.colors f.ncolors 31 = b) := ⟨_, Lib.hid rfl⟩
  obtain ⟨b6, H6⟩ : ∃ b, Hid (Fil.subB f.sub = b) := ⟨_, Lib.hid rfl⟩
  obtain ⟨b7, H7⟩ : ∃ b, Hid (Kw.validB f.keys = b) := ⟨_, Lib.hid rfl⟩
  obtain ⟨b8, H8⟩ : ∃ b, Hid (Fil.bdB f.pow = b) := ⟨_, Lib.hid rfl⟩
  obtain ⟨b9, H9⟩ : ∃ b, Hid (Fil.bdB f.tough = b) := ⟨_, Lib.hid rfl⟩
  obtain ⟨b10, H10⟩ : ∃ b, Hid (Fil.bdB f.val = b) := ⟨_, Lib.hid rfl⟩
  have R : Hid (Fil.validB f = (b0 && (b1 && (b2 && (b3 && (b4 && (b5 && (b6 && (b7 && (b8 && (b9 && b10))))))))))) := Lib.hid (by unfold Fil.validB; rw [H0.out, H1.out, H2.out, H3.out, H4.out, H5.out, H6.out, H7.out, H8.out, H9.out, H10.out]; simp only [Bool.and_assoc])
  have HB0 : Hid (Below w.heap.size w (w.alloc (.cells #[.int .i64 f.zone, .int .i64 f.who, .int .i64 f.self, .int .i64 f.types, .int .i64 f.ntypes, .int .i64 f.colors, .int .i64 f.ncolors, .string fs, .int .i64 f.keys, .int .i64 f.tap, .int .i64 f.pow.kind, .int .i64 f.pow.n, .int .i64 f.tough.kind, .int .i64 f.tough.n, .int .i64 f.val.kind, .int .i64 f.val.n] 25))) := Lib.hid ((Below.refl _ _).alloc (Nat.le_refl _) _)
  have HE := Lib.hid (hE.below HB0.out)
  have HF := Lib.hid hf
  have HS := Lib.hid hs
  have HX0 : Hid (Below (w.alloc (.cells #[.int .i64 f.zone, .int .i64 f.who, .int .i64 f.self, .int .i64 f.types, .int .i64 f.ntypes, .int .i64 f.colors, .int .i64 f.ncolors, .string fs, .int .i64 f.keys, .int .i64 f.tap, .int .i64 f.pow.kind, .int .i64 f.pow.n, .int .i64 f.tough.kind, .int .i64 f.tough.n, .int .i64 f.val.kind, .int .i64 f.val.n] 25)).heap.size (w.alloc (.cells #[.int .i64 f.zone, .int .i64 f.who, .int .i64 f.self, .int .i64 f.types, .int .i64 f.ntypes, .int .i64 f.colors, .int .i64 f.ncolors, .string fs, .int .i64 f.keys, .int .i64 f.tap, .int .i64 f.pow.kind, .int .i64 f.pow.n, .int .i64 f.tough.kind, .int .i64 f.tough.n, .int .i64 f.val.kind, .int .i64 f.val.n] 25)) (w.alloc (.cells #[.int .i64 f.zone, .int .i64 f.who, .int .i64 f.self, .int .i64 f.types, .int .i64 f.ntypes, .int .i64 f.colors, .int .i64 f.ncolors, .string fs, .int .i64 f.keys, .int .i64 f.tap, .int .i64 f.pow.kind, .int .i64 f.pow.n, .int .i64 f.tough.kind, .int .i64 f.tough.n, .int .i64 f.val.kind, .int .i64 f.val.n] 25))) := Lib.hid (Below.refl _ _)
  clear hE hf hs
  go_enter Tryz.func23, Tryz.ntmps23
  go_wp2_with fail
  refine (filWithin f.zone 5 _).mono ?_
  rw [H0.out]
  rintro e w1 ⟨rfl, rfl⟩
  cases b0 with
  | false =>
    go_wp2_with fail
    go_ret
    exact ⟨ret_bool R.out.symm, HB0.out⟩
  | true =>
    go_wp2_with fail
    refine (filWithin f.who 2 _).mono ?_
    rw [H1.out]
    rintro e w1 ⟨rfl, rfl⟩
    cases b1 with
    | false =>
      go_wp2_with fail
      go_ret
      exact ⟨ret_bool R.out.symm, HB0.out⟩
    | true =>
      go_wp2_with fail
      refine (filWithin f.self 2 _).mono ?_
      rw [H2.out]
      rintro e w1 ⟨rfl, rfl⟩
      cases b2 with
      | false =>
        go_wp2_with fail
        go_ret
        exact ⟨ret_bool R.out.symm, HB0.out⟩
      | true =>
        go_wp2_with fail
        refine (filWithin f.tap 2 _).mono ?_
        rw [H3.out]
        rintro e w1 ⟨rfl, rfl⟩
        cases b3 with
        | false =>
          go_wp2_with fail
          go_ret
          exact ⟨ret_bool R.out.symm, HB0.out⟩
        | true =>
          go_wp2_with fail
          refine (filMasks f.types f.ntypes 63 (by decide) _).mono ?_
          rw [H4.out]
          rintro e w1 ⟨rfl, rfl⟩
          cases b4 with
          | false =>
            go_wp2_with fail
            go_ret
            exact ⟨ret_bool R.out.symm, HB0.out⟩
          | true =>
            go_wp2_with fail
            refine (filMasks f.colors f.ncolors 31 (by decide) _).mono ?_
            rw [H5.out]
            rintro e w1 ⟨rfl, rfl⟩
            cases b5 with
            | false =>
              go_wp2_with fail
              go_ret
              exact ⟨ret_bool R.out.symm, HB0.out⟩
            | true =>
              rcases sub_cases fs with ⟨t1, e1⟩ | ⟨t1, e1⟩
              · obtain rfl : b6 = true := by rw [← H6.out, HF.out]; unfold Fil.subB; rw [e1]; rfl
                go_wp2_with fail
                refine (keyIs f.keys _).mono ?_
                rw [H7.out]
                rintro e w1 ⟨rfl, rfl⟩
                cases b7 with
                | false =>
                  go_wp2_with fail
                  go_ret
                  exact ⟨ret_bool R.out.symm, HB0.out⟩
                | true =>
                  go_wp2_with fail
                  refine (filBound f.pow _).mono ?_
                  rw [H8.out]
                  rintro e w8 ⟨rfl, hb⟩
                  have HX8 : Hid (Below (w.alloc (.cells #[.int .i64 f.zone, .int .i64 f.who, .int .i64 f.self, .int .i64 f.types, .int .i64 f.ntypes, .int .i64 f.colors, .int .i64 f.ncolors, .string fs, .int .i64 f.keys, .int .i64 f.tap, .int .i64 f.pow.kind, .int .i64 f.pow.n, .int .i64 f.tough.kind, .int .i64 f.tough.n, .int .i64 f.val.kind, .int .i64 f.val.n] 25)).heap.size (w.alloc (.cells #[.int .i64 f.zone, .int .i64 f.who, .int .i64 f.self, .int .i64 f.types, .int .i64 f.ntypes, .int .i64 f.colors, .int .i64 f.ncolors, .string fs, .int .i64 f.keys, .int .i64 f.tap, .int .i64 f.pow.kind, .int .i64 f.pow.n, .int .i64 f.tough.kind, .int .i64 f.tough.n, .int .i64 f.val.kind, .int .i64 f.val.n] 25)) w8) := Lib.hid (HX0.out.trans (hb.mono HX0.out.size))
                  obtain ⟨hcl8, hfr8⟩ := below_cells HX8.out
                  clear hb
                  cases b8 with
                  | false =>
                    go_wp2_with fail
                    go_ret
                    exact ⟨ret_bool R.out.symm, below_boxed HX8.out⟩
                  | true =>
                    go_wp2_with fail
                    refine (filBound f.tough _).mono ?_
                    rw [H9.out]
                    rintro e w9 ⟨rfl, hb⟩
                    have HX9 : Hid (Below (w.alloc (.cells #[.int .i64 f.zone, .int .i64 f.who, .int .i64 f.self, .int .i64 f.types, .int .i64 f.ntypes, .int .i64 f.colors, .int .i64 f.ncolors, .string fs, .int .i64 f.keys, .int .i64 f.tap, .int .i64 f.pow.kind, .int .i64 f.pow.n, .int .i64 f.tough.kind, .int .i64 f.tough.n, .int .i64 f.val.kind, .int .i64 f.val.n] 25)).heap.size (w.alloc (.cells #[.int .i64 f.zone, .int .i64 f.who, .int .i64 f.self, .int .i64 f.types, .int .i64 f.ntypes, .int .i64 f.colors, .int .i64 f.ncolors, .string fs, .int .i64 f.keys, .int .i64 f.tap, .int .i64 f.pow.kind, .int .i64 f.pow.n, .int .i64 f.tough.kind, .int .i64 f.tough.n, .int .i64 f.val.kind, .int .i64 f.val.n] 25)) w9) := Lib.hid (HX8.out.trans (hb.mono HX8.out.size))
                    clear hcl8 hfr8
                    obtain ⟨hcl9, hfr9⟩ := below_cells HX9.out
                    clear hb
                    cases b9 with
                    | false =>
                      go_wp2_with fail
                      go_ret
                      exact ⟨ret_bool R.out.symm, below_boxed HX9.out⟩
                    | true =>
                      go_wp2_with fail
                      refine (filBound f.val _).mono ?_
                      rw [H10.out]
                      rintro e w10 ⟨rfl, hb⟩
                      have HX10 : Hid (Below (w.alloc (.cells #[.int .i64 f.zone, .int .i64 f.who, .int .i64 f.self, .int .i64 f.types, .int .i64 f.ntypes, .int .i64 f.colors, .int .i64 f.ncolors, .string fs, .int .i64 f.keys, .int .i64 f.tap, .int .i64 f.pow.kind, .int .i64 f.pow.n, .int .i64 f.tough.kind, .int .i64 f.tough.n, .int .i64 f.val.kind, .int .i64 f.val.n] 25)).heap.size (w.alloc (.cells #[.int .i64 f.zone, .int .i64 f.who, .int .i64 f.self, .int .i64 f.types, .int .i64 f.ntypes, .int .i64 f.colors, .int .i64 f.ncolors, .string fs, .int .i64 f.keys, .int .i64 f.tap, .int .i64 f.pow.kind, .int .i64 f.pow.n, .int .i64 f.tough.kind, .int .i64 f.tough.n, .int .i64 f.val.kind, .int .i64 f.val.n] 25)) w10) := Lib.hid (HX9.out.trans (hb.mono HX9.out.size))
                      clear hb
                      go_wp2_with fail
                      go_ret
                      exact ⟨ret_bool R.out.symm, below_boxed HX10.out⟩
              · have HI : Hid (Ln.isSub fs.data.toList = b6) := Lib.hid (by rw [← H6.out, HF.out]; unfold Fil.subB; simp [e1])
                go_wp2_with fail
                refine (lineIsSub fs _ HE.out.line HS.out).mono ?_
                rw [HI.out]
                rintro e w1 ⟨rfl, rfl⟩
                cases b6 with
                | false =>
                  go_wp2_with fail
                  go_ret
                  exact ⟨ret_bool R.out.symm, HB0.out⟩
                | true =>
                  go_wp2_with fail
                  refine (keyIs f.keys _).mono ?_
                  rw [H7.out]
                  rintro e w1 ⟨rfl, rfl⟩
                  cases b7 with
                  | false =>
                    go_wp2_with fail
                    go_ret
                    exact ⟨ret_bool R.out.symm, HB0.out⟩
                  | true =>
                    go_wp2_with fail
                    refine (filBound f.pow _).mono ?_
                    rw [H8.out]
                    rintro e w8 ⟨rfl, hb⟩
                    have HX8 : Hid (Below (w.alloc (.cells #[.int .i64 f.zone, .int .i64 f.who, .int .i64 f.self, .int .i64 f.types, .int .i64 f.ntypes, .int .i64 f.colors, .int .i64 f.ncolors, .string fs, .int .i64 f.keys, .int .i64 f.tap, .int .i64 f.pow.kind, .int .i64 f.pow.n, .int .i64 f.tough.kind, .int .i64 f.tough.n, .int .i64 f.val.kind, .int .i64 f.val.n] 25)).heap.size (w.alloc (.cells #[.int .i64 f.zone, .int .i64 f.who, .int .i64 f.self, .int .i64 f.types, .int .i64 f.ntypes, .int .i64 f.colors, .int .i64 f.ncolors, .string fs, .int .i64 f.keys, .int .i64 f.tap, .int .i64 f.pow.kind, .int .i64 f.pow.n, .int .i64 f.tough.kind, .int .i64 f.tough.n, .int .i64 f.val.kind, .int .i64 f.val.n] 25)) w8) := Lib.hid (HX0.out.trans (hb.mono HX0.out.size))
                    obtain ⟨hcl8, hfr8⟩ := below_cells HX8.out
                    clear hb
                    cases b8 with
                    | false =>
                      go_wp2_with fail
                      go_ret
                      exact ⟨ret_bool R.out.symm, below_boxed HX8.out⟩
                    | true =>
                      go_wp2_with fail
                      refine (filBound f.tough _).mono ?_
                      rw [H9.out]
                      rintro e w9 ⟨rfl, hb⟩
                      have HX9 : Hid (Below (w.alloc (.cells #[.int .i64 f.zone, .int .i64 f.who, .int .i64 f.self, .int .i64 f.types, .int .i64 f.ntypes, .int .i64 f.colors, .int .i64 f.ncolors, .string fs, .int .i64 f.keys, .int .i64 f.tap, .int .i64 f.pow.kind, .int .i64 f.pow.n, .int .i64 f.tough.kind, .int .i64 f.tough.n, .int .i64 f.val.kind, .int .i64 f.val.n] 25)).heap.size (w.alloc (.cells #[.int .i64 f.zone, .int .i64 f.who, .int .i64 f.self, .int .i64 f.types, .int .i64 f.ntypes, .int .i64 f.colors, .int .i64 f.ncolors, .string fs, .int .i64 f.keys, .int .i64 f.tap, .int .i64 f.pow.kind, .int .i64 f.pow.n, .int .i64 f.tough.kind, .int .i64 f.tough.n, .int .i64 f.val.kind, .int .i64 f.val.n] 25)) w9) := Lib.hid (HX8.out.trans (hb.mono HX8.out.size))
                      clear hcl8 hfr8
                      obtain ⟨hcl9, hfr9⟩ := below_cells HX9.out
                      clear hb
                      cases b9 with
                      | false =>
                        go_wp2_with fail
                        go_ret
                        exact ⟨ret_bool R.out.symm, below_boxed HX9.out⟩
                      | true =>
                        go_wp2_with fail
                        refine (filBound f.val _).mono ?_
                        rw [H10.out]
                        rintro e w10 ⟨rfl, hb⟩
                        have HX10 : Hid (Below (w.alloc (.cells #[.int .i64 f.zone, .int .i64 f.who, .int .i64 f.self, .int .i64 f.types, .int .i64 f.ntypes, .int .i64 f.colors, .int .i64 f.ncolors, .string fs, .int .i64 f.keys, .int .i64 f.tap, .int .i64 f.pow.kind, .int .i64 f.pow.n, .int .i64 f.tough.kind, .int .i64 f.tough.n, .int .i64 f.val.kind, .int .i64 f.val.n] 25)).heap.size (w.alloc (.cells #[.int .i64 f.zone, .int .i64 f.who, .int .i64 f.self, .int .i64 f.types, .int .i64 f.ntypes, .int .i64 f.colors, .int .i64 f.ncolors, .string fs, .int .i64 f.keys, .int .i64 f.tap, .int .i64 f.pow.kind, .int .i64 f.pow.n, .int .i64 f.tough.kind, .int .i64 f.tough.n, .int .i64 f.val.kind, .int .i64 f.val.n] 25)) w10) := Lib.hid (HX9.out.trans (hb.mono HX9.out.size))
                        clear hb
                        go_wp2_with fail
                        go_ret
                        exact ⟨ret_bool R.out.symm, below_boxed HX10.out⟩
end Go.Proofs.YtkohfomiigcifaaGreatDoor
