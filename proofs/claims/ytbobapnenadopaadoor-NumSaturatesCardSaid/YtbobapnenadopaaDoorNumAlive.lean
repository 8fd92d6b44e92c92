/-
  CONTRACT OF LAYER 1's FIXED EXAMPLES ('alive'): they answer true. By an AI agent.
-/
import Derived.Test.YtbobapnenadopaaDoorNumWalksC
import Derived.Test.YtbobapnenadopaaDoorNumWalksD
namespace Go.Proofs.YtbobapnenadopaaDoor
open Go.RowKit

namespace Num
theorem number40 : numberL [45, 52, 48] = some (-40) := numberL_some.2 ⟨by decide, by decide, by
  rw [itoa_neg (by decide), show (-(-40 : Int)).toNat = 40 from rfl, Lib.decDigits_two (by decide) (by decide)]
  decide⟩
theorem number007 : numberL [48, 48, 55] = none := by
  have h : Lib.atoiAll [48, 48, 55] = .ok 7 := by decide
  rw [numberL_ok h, if_neg]
  rintro ⟨-, -, h⟩
  rw [itoa_nonneg (by decide), show (7 : Int).toNat = 7 from rfl, Lib.decDigits_one (by decide)] at h
  exact absurd h (by decide)
theorem bits5 : bitsL 5 31 = [0, 2] := by decide
theorem text7 : Lib.itoa (-7) = [45, 55] := by
  rw [itoa_neg (by decide), show (-(-7 : Int)).toNat = 7 from rfl, Lib.decDigits_one (by decide)]
  decide
end Num

theorem numberNo40 (w : World) (hE : Env w) :
    Calls Tryd.prog 22 #[.string ⟨#[45, 52, 48]⟩] w fun e w' => e = .returned (.tuple #[.int .i64 (-40), .bool true]) ∧ Below w.heap.size w w' := by
  refine (numNumber ⟨#[45, 52, 48]⟩ (by decide) w hE).mono fun e w' h => ⟨?_, h.2⟩
  have h1 := h.1
  unfold numRes at h1
  rw [show (ByteArray.mk #[45, 52, 48]).data.toList = [45, 52, 48] from rfl, Num.number40] at h1
  exact h1
theorem numberNo007 (w : World) (hE : Env w) :
    Calls Tryd.prog 22 #[.string ⟨#[48, 48, 55]⟩] w fun e w' => e = .returned (.tuple #[.int .i64 0, .bool false]) ∧ Below w.heap.size w w' := by
  refine (numNumber ⟨#[48, 48, 55]⟩ (by decide) w hE).mono fun e w' h => ⟨?_, h.2⟩
  have h1 := h.1
  unfold numRes at h1
  rw [show (ByteArray.mk #[48, 48, 55]).data.toList = [48, 48, 55] from rfl, Num.number007] at h1
  exact h1
/-- Bits(5): a row of two cells, the second 2 -/
theorem bitsOf5 (w : World) :
    Calls Tryd.prog 20 #[.int .i64 5] w fun e w' => ∃ g cap, e = .returned (.slice (some ⟨g, 0, none⟩) 2 cap) ∧ w.heap.size ≤ g ∧ g < w'.heap.size ∧ w'.cell? ⟨g, 1, none⟩ = some (.int .i64 2) ∧ Below w.heap.size w w' := by
  refine (numBits 5 (by decide) w).mono fun e w' h => ?_
  rw [Num.bits5] at h
  obtain ⟨v, rfl, ho, hb⟩ := h
  rcases ho.shape with ⟨_, h⟩ | ⟨g, cap, hv, hg, hlt, _, _, hc⟩
  · cases h
  · exact ⟨g, cap, by rw [hv]; rfl, hg, hlt, hc 1 2 rfl, hb⟩
theorem textOf7 (w : World) (hE : Env w) :
    Calls Tryd.prog 24 #[.int .i64 (-7)] w fun e w' => e = .returned (.string ⟨#[45, 55]⟩) ∧ Below w.heap.size w w' := by
  have h := numText (-7) (by decide) (by decide) w hE
  rw [Num.text7] at h
  exact h
theorem mulOf (w : World) : Calls Tryd.prog 16 #[.int .i64 1000, .int .i64 1001] w fun e w' => e = .returned (.int .i64 1000000) ∧ w = w' := numMul 1000 1001 w
theorem halfOf (w : World) : Calls Tryd.prog 18 #[.int .i64 (-3), .bool false] w fun e w' => e = .returned (.int .i64 (-2)) ∧ w = w' := numHalf (-3) false w
theorem halfUpOf (w : World) : Calls Tryd.prog 18 #[.int .i64 (-3), .bool true] w fun e w' => e = .returned (.int .i64 (-1)) ∧ w = w' := numHalf (-3) true w
theorem meetsOf (w : World) : Calls Tryd.prog 26 #[.agg #[.int .i64 1, .int .i64 2], .int .i64 3] w fun e w' => e = .returned (.bool true) ∧ Below w.heap.size w w' := numMeets 1 2 3 w

set_option maxRecDepth 100000 in
theorem numAlive (w : World) (hE : Env w) :
    Calls Tryd.prog 9 #[] w fun e w' => e = .returned (.bool true) ∧ Below w.heap.size w w' := by
  go_enter Tryd.func9, Tryd.ntmps9
  go_wp2_with fail
  refine (numberNo40 _ hE).mono ?_
  rintro e w1 ⟨rfl, hb1⟩
  have hE1 := Lib.hid (hE.below hb1)
  go_wp2_with fail
  refine (numberNo007 _ hE1.out).mono ?_
  rintro e w2 ⟨rfl, hb2⟩
  have hE2 := Lib.hid (hE1.out.below hb2)
  have hb2 := hb1.trans (hb2.mono hb1.size)
  go_wp2_with fail
  refine (bitsOf5 _).mono ?_
  rintro e w3 ⟨g, cap, rfl, hg, hlt, hc, hb3⟩
  have hE3 := Lib.hid (hE2.out.below hb3)
  have hb3 := hb2.trans (hb3.mono hb2.size)
  go_wp2_with fail
  refine (mulOf _).mono ?_
  rintro e w' ⟨rfl, rfl⟩
  go_wp2_with fail
  refine (halfOf _).mono ?_
  rintro e w' ⟨rfl, rfl⟩
  go_wp2_with fail
  refine (halfUpOf _).mono ?_
  rintro e w' ⟨rfl, rfl⟩
  go_wp2_with fail
  refine (textOf7 _ hE3.out).mono ?_
  rintro e w4 ⟨rfl, hb4⟩
  have hb4 := hb3.trans (hb4.mono hb3.size)
  go_wp2_with fail
  refine (meetsOf _).mono ?_
  rintro e w5 ⟨rfl, hb5⟩
  have hb5 := hb4.trans (hb5.mono hb4.size)
  go_wp2_with fail
  go_ret
  exact ⟨rfl, hb5⟩
end Go.Proofs.YtbobapnenadopaaDoor
