/-
  CONTRACTS OF LAYER 9 (color) that layer 13 reaches: Name; what the listed variable gives. By an AI agent.
-/
import Derived.Test.YtkohfomiigcifaaGreatDoorColPlain
import Derived.Test.YtkohfomiigcifaaGreatDoorFWord
namespace Go.Proofs.YtkohfomiigcifaaGreatDoor
open Go.RowKit
open Wd (Bs)


theorem gNames : Tryz.prog.globalNamed "cardgame/color.names" = some 2 := by kernel_rfl
/-- the variable of the names holds the five names -/
structure EnvC (w : World) : Prop where
  names : w.var? Tryz.prog "cardgame/color.names" = some #[.string ⟨#[97, 109, 98, 101, 114]⟩, .string ⟨#[99, 111, 98, 97, 108, 116]⟩, .string ⟨#[106, 101, 116]⟩, .string ⟨#[114, 117, 98, 121]⟩, .string ⟨#[101, 109, 101, 114, 97, 108, 100]⟩]
theorem EnvC.below {w w' : World} (h : EnvC w) (hb : Below w.heap.size w w') : EnvC w' := ⟨var_below hb h.names⟩
theorem EnvC.cell {w : World} (h : EnvC w) (k : Nat) (hk : k < 5) : w.cell? ⟨2, k, none⟩ = some (.string ⟨(Col.name k).toArray⟩) := by
  rw [World.var?_cell gNames h.names k]
  match k, hk with
  | 0, _ => rfl
  | 1, _ => rfl
  | 2, _ => rfl
  | 3, _ => rfl
  | 4, _ => rfl
set_option maxRecDepth 100000 in
theorem colorName (i : Int) (w : World) (hE : EnvC w) :
    Calls Tryz.prog 86 #[.int .i64 i] w fun e w' => e = .returned (str (Col.nameI i)) ∧ w = w' := by
  rcases Int.lt_or_le i 0 with h0 | h0
  · have HN := Lib.hid (Col.nameI_out (i := i) (.inl h0))
    go_enter Tryz.func86, Tryz.ntmps86
    go_wp2
    go_ret
    exact ⟨by rw [HN.out]; rfl, rfl⟩
  · by_cases h1 : i < 5
    · obtain ⟨k, rfl⟩ : ∃ k : Nat, i = (k : Int) := ⟨i.toNat, by omega⟩
      have hc := hE.cell k (by omega)
      have HN := Lib.hid (Col.nameI_nat k)
      clear hE
      go_enter Tryz.func86, Tryz.ntmps86
      go_wp2
      go_ret
      exact ⟨by rw [HN.out]; rfl, rfl⟩
    · have HN := Lib.hid (Col.nameI_out (i := i) (.inr (by omega)))
      go_enter Tryz.func86, Tryz.ntmps86
      go_wp2
      go_ret
      exact ⟨by rw [HN.out]; rfl, rfl⟩
end Go.Proofs.YtkohfomiigcifaaGreatDoor
