/-
  CONTRACTS OF LAYER 9 (color): Is, Name, and the reference's; what the listed variable gives. By an AI agent.
-/
import Derived.Test.YtoedminkaimfcaaDoorColPlain
import Derived.Test.YtoedminkaimfcaaDoorStrs
import Derived.WalkKit
import Derived.WalkLawsBesides
import Derived.BigQuiet
import Derived.Deep.QuietTactic
import Derived.Handy
import Derived.Lib.Hide
namespace Go.Proofs.YtoedminkaimfcaaDoor
open Go.RowKit

theorem gNames : Tryd.prog.globalNamed "cardgame/color.names" = some 0 := by kernel_rfl
/-- the variable of the names holds the five names -/
structure Env (w : World) : Prop where
  names : w.var? Tryd.prog "cardgame/color.names" = some #[.string ⟨#[97, 109, 98, 101, 114]⟩, .string ⟨#[99, 111, 98, 97, 108, 116]⟩, .string ⟨#[106, 101, 116]⟩, .string ⟨#[114, 117, 98, 121]⟩, .string ⟨#[101, 109, 101, 114, 97, 108, 100]⟩]
theorem var_below {w w' : World} (hb : Below w.heap.size w w') {n : String} {cs : Array Value} (h : w.var? Tryd.prog n = some cs) : w'.var? Tryd.prog n = some cs := by
  unfold World.var? at *
  cases hg : Tryd.prog.globalNamed n with
  | none => simp [hg] at h
  | some g =>
    simp only [hg, Option.bind_some] at h ⊢
    have hlt : g < w.heap.size := by
      rcases Nat.lt_or_ge g w.heap.size with h' | h'
      · exact h'
      · rw [Array.getElem?_eq_none h'] at h; simp at h
    rw [hb.block g hlt]
    exact h
theorem Env.below {w w' : World} (h : Env w) (hb : Below w.heap.size w w') : Env w' := ⟨var_below hb h.names⟩
theorem Env.cell {w : World} (h : Env w) (k : Nat) (hk : k < 5) : w.cell? ⟨0, k, none⟩ = some (.string ⟨(Col.name k).toArray⟩) := by
  rw [World.var?_cell gNames h.names k]
  match k, hk with
  | 0, _ => rfl
  | 1, _ => rfl
  | 2, _ => rfl
  | 3, _ => rfl
  | 4, _ => rfl
theorem ret_bool {a b : Bool} (h : a = b) : Ending.returned (.bool a) = .returned (.bool b) := by rw [h]
theorem ret_int {k : IntKind} {a b : Int} (h : a = b) : Ending.returned (.int k a) = .returned (.int k b) := by rw [h]
theorem ret_str {a b : List UInt8} (h : a = b) : Ending.returned (str a) = .returned (str b) := by rw [h]

set_option maxRecDepth 100000 in
theorem colorIs (m : Int) (w : World) :
    Calls Tryd.prog 8 #[.int .i64 m] w fun e w' => e = .returned (.bool (Col.validB m)) ∧ w = w' := by
  rcases Int.lt_or_le m 0 with h0 | h0
  · have HB : Hid (Col.validB m = false) := Lib.hid (by unfold Col.validB; simp; omega)
    go_enter Tryd.func8, Tryd.ntmps8
    go_wp2
    go_ret
    exact ⟨ret_bool HB.out.symm, rfl⟩
  · by_cases h1 : m ≤ 31
    · have HB : Hid (Col.validB m = true) := Lib.hid (by unfold Col.validB; simp; omega)
      go_enter Tryd.func8, Tryd.ntmps8
      go_wp2
      go_ret
      exact ⟨ret_bool HB.out.symm, rfl⟩
    · have HB : Hid (Col.validB m = false) := Lib.hid (by unfold Col.validB; simp; omega)
      go_enter Tryd.func8, Tryd.ntmps8
      go_wp2
      go_ret
      exact ⟨ret_bool HB.out.symm, rfl⟩
set_option maxRecDepth 100000 in
theorem refIs9 (m : Int) (w : World) :
    Calls Tryd.prog 9 #[.int .i64 m] w fun e w' => e = .returned (.bool (Col.validB m)) ∧ w = w' := by
  rcases Int.lt_or_le m 0 with h0 | h0
  · have HB : Hid (Col.validB m = false) := Lib.hid (by unfold Col.validB; simp; omega)
    go_enter Tryd.func9, Tryd.ntmps9
    go_wp2
    go_ret
    exact ⟨ret_bool HB.out.symm, rfl⟩
  · by_cases h1 : m ≤ 31
    · have HB : Hid (Col.validB m = true) := Lib.hid (by unfold Col.validB; simp; omega)
      go_enter Tryd.func9, Tryd.ntmps9
      go_wp2
      go_ret
      exact ⟨ret_bool HB.out.symm, rfl⟩
    · have HB : Hid (Col.validB m = false) := Lib.hid (by unfold Col.validB; simp; omega)
      go_enter Tryd.func9, Tryd.ntmps9
      go_wp2
      go_ret
      exact ⟨ret_bool HB.out.symm, rfl⟩
set_option maxRecDepth 100000 in
theorem colorName (i : Int) (w : World) (hE : Env w) :
    Calls Tryd.prog 10 #[.int .i64 i] w fun e w' => e = .returned (str (Col.nameI i)) ∧ w = w' := by
  rcases Int.lt_or_le i 0 with h0 | h0
  · have HN := Lib.hid (Col.nameI_out (i := i) (.inl h0))
    go_enter Tryd.func10, Tryd.ntmps10
    go_wp2
    go_ret
    exact ⟨by rw [HN.out]; rfl, rfl⟩
  · by_cases h1 : i < 5
    · obtain ⟨k, rfl⟩ : ∃ k : Nat, i = (k : Int) := ⟨i.toNat, by omega⟩
      have hc := hE.cell k (by omega)
      have HN := Lib.hid (Col.nameI_nat k)
      clear hE
      go_enter Tryd.func10, Tryd.ntmps10
      go_wp2
      go_ret
      exact ⟨by rw [HN.out]; rfl, rfl⟩
    · have HN := Lib.hid (Col.nameI_out (i := i) (.inr (by omega)))
      go_enter Tryd.func10, Tryd.ntmps10
      go_wp2
      go_ret
      exact ⟨by rw [HN.out]; rfl, rfl⟩
set_option maxRecDepth 100000 in
theorem refName9 (i : Int) (w : World) :
    Calls Tryd.prog 11 #[.int .i64 i] w fun e w' => e = .returned (str (Col.nameI i)) ∧ w = w' := by
  by_cases e0 : i = 0
  · subst e0
    go_enter Tryd.func11, Tryd.ntmps11
    go_wp2
    go_ret
    exact ⟨rfl, rfl⟩
  by_cases e1 : i = 1
  · subst e1
    go_enter Tryd.func11, Tryd.ntmps11
    go_wp2
    go_ret
    exact ⟨rfl, rfl⟩
  by_cases e2 : i = 2
  · subst e2
    go_enter Tryd.func11, Tryd.ntmps11
    go_wp2
    go_ret
    exact ⟨rfl, rfl⟩
  by_cases e3 : i = 3
  · subst e3
    go_enter Tryd.func11, Tryd.ntmps11
    go_wp2
    go_ret
    exact ⟨rfl, rfl⟩
  by_cases e4 : i = 4
  · subst e4
    go_enter Tryd.func11, Tryd.ntmps11
    go_wp2
    go_ret
    exact ⟨rfl, rfl⟩
  have HN := Lib.hid (Col.nameI_out (i := i) (by omega))
  have t0 : (i == 0) = false := by simpa using e0
  have t1 : (i == 1) = false := by simpa using e1
  have t2 : (i == 2) = false := by simpa using e2
  have t3 : (i == 3) = false := by simpa using e3
  have t4 : (i == 4) = false := by simpa using e4
  go_enter Tryd.func11, Tryd.ntmps11
  go_wp2
  go_ret
  exact ⟨by rw [HN.out]; rfl, rfl⟩
end Go.Proofs.YtoedminkaimfcaaDoor
