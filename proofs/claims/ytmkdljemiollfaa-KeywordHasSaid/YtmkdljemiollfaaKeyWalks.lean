/-
  CONTRACTS OF LAYER 11 (keyword): Is, Name, Has, and the reference's. By an AI agent.
-/
import Derived.Test.YtmkdljemiollfaaKeyFrom
import Derived.Test.YtmkdljemiollfaaWordCJ
namespace Go.Proofs.Ytmkdljemiollfaa
open Go.RowKit

theorem ret_str {a b : List UInt8} (h : a = b) : Ending.returned (str a) = .returned (str b) := by rw [h]
/-- whether all bits of k are set in m -/
def hasB (m k : Int) : Bool := bits .and .i64 m k == k
set_option maxRecDepth 100000 in
theorem keyIs (m : Int) (w : World) :
    Calls Try.prog 8 #[.int .i64 m] w fun e w' => e = .returned (.bool (Kw.validB m)) ∧ w = w' := by
  rcases Int.lt_or_le m 0 with h0 | h0
  · have HB : Hid (Kw.validB m = false) := Lib.hid (by unfold Kw.validB; simp; omega)
    go_enter Try.func8, Try.ntmps8
    go_wp2
    go_ret
    exact ⟨ret_bool HB.out.symm, rfl⟩
  · by_cases h1 : m ≤ 131071
    · have HB : Hid (Kw.validB m = true) := Lib.hid (by unfold Kw.validB; simp; omega)
      go_enter Try.func8, Try.ntmps8
      go_wp2
      go_ret
      exact ⟨ret_bool HB.out.symm, rfl⟩
    · have HB : Hid (Kw.validB m = false) := Lib.hid (by unfold Kw.validB; simp; omega)
      go_enter Try.func8, Try.ntmps8
      go_wp2
      go_ret
      exact ⟨ret_bool HB.out.symm, rfl⟩
set_option maxRecDepth 100000 in
theorem refIs11 (m : Int) (w : World) :
    Calls Try.prog 9 #[.int .i64 m] w fun e w' => e = .returned (.bool (Kw.validB m)) ∧ w = w' := by
  rcases Int.lt_or_le m 0 with h0 | h0
  · have HB : Hid (Kw.validB m = false) := Lib.hid (by unfold Kw.validB; simp; omega)
    go_enter Try.func9, Try.ntmps9
    go_wp2
    go_ret
    exact ⟨ret_bool HB.out.symm, rfl⟩
  · by_cases h1 : m ≤ 131071
    · have HB : Hid (Kw.validB m = true) := Lib.hid (by unfold Kw.validB; simp; omega)
      go_enter Try.func9, Try.ntmps9
      go_wp2
      go_ret
      exact ⟨ret_bool HB.out.symm, rfl⟩
    · have HB : Hid (Kw.validB m = false) := Lib.hid (by unfold Kw.validB; simp; omega)
      go_enter Try.func9, Try.ntmps9
      go_wp2
      go_ret
      exact ⟨ret_bool HB.out.symm, rfl⟩
set_option maxRecDepth 100000 in
theorem keyHas (m k : Int) (w : World) :
    Calls Try.prog 17 #[.int .i64 m, .int .i64 k] w fun e w' => e = .returned (.bool (hasB m k)) ∧ w = w' := by
  have HB : Hid (hasB m k = (bits .and .i64 m k == k)) := Lib.hid rfl
  go_enter Try.func17, Try.ntmps17
  go_wp2
  go_ret
  exact ⟨ret_bool (by rw [HB.out]), rfl⟩
set_option maxRecDepth 100000 in
theorem refHas11 (m k : Int) (w : World) :
    Calls Try.prog 18 #[.int .i64 m, .int .i64 k] w fun e w' => e = .returned (.bool (hasB m k)) ∧ w = w' := by
  have HB : Hid (hasB m k = (bits .and .i64 m k == k)) := Lib.hid rfl
  go_enter Try.func18, Try.ntmps18
  go_wp2
  go_ret
  exact ⟨ret_bool (by rw [HB.out]), rfl⟩
theorem drop_name {k : Nat} (h : k < 17) : Kw.names.drop k = Kw.name k :: Kw.names.drop (k + 1) := by
  have hl : k < Kw.names.length := h
  rw [List.drop_eq_getElem_cons hl]
  unfold Kw.name List.getD
  rw [List.getElem?_eq_getElem hl]
  rfl
set_option maxRecDepth 100000 in
theorem keyName (i : Int) (w : World) :
    Calls Try.prog 10 #[.int .i64 i] w fun e w' => e = .returned (str (Kw.nameI i)) ∧ Below w.heap.size w w' := by
  by_cases hin : 0 ≤ i ∧ i < 17
  · obtain ⟨k, rfl⟩ : ∃ k : Nat, i = (k : Int) := ⟨i.toNat, by omega⟩
    have HC := Lib.hid (keyFrom (k : Int) w)
    have HN := Lib.hid (Kw.nameI_nat k)
    have HF : Hid (Kw.fromI (k : Int) = Kw.name k :: Kw.names.drop (k + 1)) := Lib.hid (by rw [Kw.fromI_nat]; exact drop_name (by omega))
    have HL : Hid ((Kw.fromI (k : Int)).length = 17 - k) := Lib.hid (by rw [Kw.fromI_nat, List.length_drop]; rfl)
    clear hin
    go_enter Try.func10, Try.ntmps10
    go_wp2_with fail
    refine HC.out.mono ?_
    rintro e w1 ⟨v, rfl, hown, hb⟩
    have B := Lib.hid hb
    rcases hown.shape with ⟨_, hl⟩ | ⟨g, cap, rfl, _, hg, hlc, hcap, hcell⟩
    · exfalso
      rw [HF.out] at hl
      cases hl
    · have hc : w1.cell? ⟨g, 0, none⟩ = some (str (Kw.name k)) := hcell 0 _ (by rw [HF.out]; rfl)
      obtain ⟨sx, hsx, ex⟩ := exists_bytes (Kw.name k)
      rw [ex] at hc
      have HX := Lib.hid ex
      have hlen : 0 < (Kw.fromI (k : Int)).length := by rw [HF.out]; simp
      have hz : (((Kw.fromI (k : Int)).length : Int) == 0) = false := beq_eq_false_iff_ne.2 (by omega)
      clear hown hb hcell hsx ex
      generalize (Kw.fromI (k : Int)).length = n at *
      go_wp2_with fail
      go_ret
      exact ⟨by rw [HN.out, HX.out]; rfl, B.out⟩
  · have HC := Lib.hid (keyFrom i w)
    have HN := Lib.hid (Kw.nameI_out (i := i) (by omega))
    have HF := Lib.hid (Kw.fromI_out (i := i) (by omega))
    go_enter Try.func10, Try.ntmps10
    go_wp2_with fail
    refine HC.out.mono ?_
    rw [HF.out]
    rintro e w1 ⟨v, rfl, hown, hb⟩
    have B := Lib.hid hb
    rcases hown.shape with ⟨rfl, _⟩ | ⟨g, cap, rfl, _, hg, hlc, hcap, hcell⟩
    all_goals
      go_wp2_with fail
      go_ret
      exact ⟨by rw [HN.out]; rfl, B.out⟩
set_option maxRecDepth 100000 in
theorem refNames (w : World) :
    Calls Try.prog 20 #[] w fun e w' => ∃ v, e = .returned v ∧ OwnStrs w.heap.size w' v Kw.names ∧ Below w.heap.size w w' := by
  have HO := Lib.hid (OwnStrs.lit w Kw.names (by decide))
  go_enter Try.func20, Try.ntmps20
  go_wp2_with fail
  go_ret
  exact ⟨_, rfl, HO.out, (Below.refl _ _).alloc (Nat.le_refl _) _⟩
set_option maxRecDepth 100000 in
theorem refName11 (i : Int) (w : World) :
    Calls Try.prog 11 #[.int .i64 i] w fun e w' => e = .returned (str (Kw.nameI i)) ∧ Below w.heap.size w w' := by
  rcases Int.lt_or_le i 0 with h0 | h0
  · have HN := Lib.hid (Kw.nameI_out (i := i) (.inl h0))
    go_enter Try.func11, Try.ntmps11
    go_wp2_with fail
    go_ret
    exact ⟨by rw [HN.out]; rfl, Below.refl _ _⟩
  · by_cases h1 : i ≤ 16
    · obtain ⟨k, rfl⟩ : ∃ k : Nat, i = (k : Int) := ⟨i.toNat, by omega⟩
      have HN := Lib.hid (Kw.nameI_nat k)
      have hk : k < 17 := by omega
      go_enter Try.func11, Try.ntmps11
      go_wp2_with fail
      refine (refNames _).mono ?_
      rintro e w1 ⟨v, rfl, hown, hb⟩
      have B := Lib.hid hb
      rcases hown.shape with ⟨_, hl⟩ | ⟨g, cap, rfl, _, hg, hlc, hcap, hcell⟩
      · exact absurd hl (by decide)
      · obtain ⟨sx, hsx, ex⟩ := exists_bytes (Kw.name k)
        have hc : w1.cell? ⟨g, k, none⟩ = some (str (Kw.name k)) := hcell k _ (by unfold Kw.name List.getD; rw [List.getElem?_eq_getElem (show k < Kw.names.length from hk)]; rfl)
        rw [ex] at hc
        have HX := Lib.hid ex
        have hl : Kw.names.length = 17 := rfl
        rw [hl] at hlc
        clear hown hb hcell hsx ex
        rw [hl]
        clear hl
        go_wp2_with fail
        go_ret
        exact ⟨by rw [HN.out, HX.out]; rfl, B.out⟩
    · have HN := Lib.hid (Kw.nameI_out (i := i) (.inr (by omega)))
      go_enter Try.func11, Try.ntmps11
      go_wp2_with fail
      go_ret
      exact ⟨by rw [HN.out]; rfl, Below.refl _ _⟩
end Go.Proofs.Ytmkdljemiollfaa
