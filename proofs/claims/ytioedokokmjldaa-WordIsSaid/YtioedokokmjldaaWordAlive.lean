/-
  LAYER 2: the chapter's examples, as the laws' common function asks them. By an AI agent.
-/
import Derived.Test.YtioedokokmjldaaWordWalksG
namespace Go.Proofs.Ytioedokokmjldaa
open Go.RowKit
open Wd (Bs)

theorem name_fox : Wd.isName [101, 109, 98, 101, 114, 45, 102, 111, 120] = true := by
  refine Wd.isName_true ⟨by decide, by decide, by decide, by decide, by decide, fun i hi => ?_⟩
  have h : ∀ i, i < 8 → ¬ (([101, 109, 98, 101, 114, 45, 102, 111, 120] : Bs).getD i 0 = 45 ∧ ([101, 109, 98, 101, 114, 45, 102, 111, 120] : Bs).getD (i + 1) 0 = 45) := by decide
  exact h i (by simp at hi; omega)
theorem name_ab : Wd.isName [97, 45, 45, 98] = false := no_hyph 1 (by decide) rfl rfl
theorem alive_cut (w : World) : Calls Try.prog 16 #[.string ⟨#[120, 58, 32, 121, 58, 32, 122]⟩, .string ⟨#[58, 32]⟩] w fun e w' =>
    e = .returned (.tuple #[.string ⟨#[120]⟩, .string ⟨#[121, 58, 32, 122]⟩, .bool true]) ∧ Below w.heap.size w w' := by
  refine (wordCut ⟨#[120, 58, 32, 121, 58, 32, 122]⟩ ⟨#[58, 32]⟩ w (by decide) (by decide)).mono ?_
  rintro e w' ⟨rfl, hb⟩
  refine ⟨?_, hb⟩
  rw [show Wd.cut (ByteArray.mk #[120, 58, 32, 121, 58, 32, 122]).data.toList (ByteArray.mk #[58, 32]).data.toList = ([120], [121, 58, 32, 122], true) by decide]
  rfl
theorem alive_lines (w : World) : Calls Try.prog 18 #[.string ⟨#[97, 10, 98, 10]⟩] w fun e w' =>
    ∃ g cap, e = .returned (.tuple #[.slice (some ⟨g, 0, none⟩) 2 cap, .bool true]) ∧ Below w.heap.size w w' := by
  refine (wordLines ⟨#[97, 10, 98, 10]⟩ w (by decide)).mono ?_
  rintro e w' ⟨v, rfl, ho, hb⟩
  have hl : Wd.lines (ByteArray.mk #[97, 10, 98, 10]).data.toList = ([[97], [98]], true) := by decide
  rw [hl] at ho ⊢
  rcases ho.shape with ⟨_, e⟩ | ⟨g, cap, rfl, _⟩
  · cases e
  · exact ⟨g, cap, rfl, hb⟩
theorem alive_split (w : World) : Calls Try.prog 14 #[.string ⟨#[97, 32, 40, 98, 32, 99, 41, 32, 100]⟩, .int .u8 32] w (StrsRes [[97], [40, 98, 32, 99, 41], [100]] w) := by
  have h := wordSplit ⟨#[97, 32, 40, 98, 32, 99, 41, 32, 100]⟩ 32 w (by decide)
  have hl : Wd.split (ByteArray.mk #[97, 32, 40, 98, 32, 99, 41, 32, 100]).data.toList 32 = [[97], [40, 98, 32, 99, 41], [100]] := by decide
  rw [hl] at h
  exact h
theorem alive_lit (w : World) : Strs (w.alloc (.cells #[.string ⟨#[97]⟩, .string ⟨#[40, 98, 32, 99, 41]⟩, .string ⟨#[100]⟩] 9)) (.slice (some ⟨w.heap.size, 0, none⟩) 3 3) [[97], [40, 98, 32, 99, 41], [100]] :=
  (OwnStrs.lit w [[97], [40, 98, 32, 99, 41], [100]] (by decide)).strs
set_option maxHeartbeats 800000 in
set_option maxRecDepth 100000 in
theorem lawAlive (w : World) (hE : Env w) :
    Calls Try.prog 10 #[] w fun e w' => e = .returned (.bool true) ∧ Below w.heap.size w w' := by
  have HE : Hid (Env w) := Lib.hid hE
  clear hE
  go_enter Try.func10, Try.ntmps10
  go_wp2_with fail
  refine (alive_cut _).mono ?_
  rintro e w1 ⟨rfl, hb1⟩
  go_wp2_with fail
  refine (alive_lines _).mono ?_
  rintro e w2 ⟨g, cap, rfl, hb2⟩
  go_wp2_with fail
  refine (alive_split _).mono ?_
  rintro e w3 ⟨v, rfl, ho, hb3⟩
  have hs1 := ho.strs.below ((Below.refl w3.heap.size w3).alloc (Nat.le_refl _) (.cells #[.string ⟨#[97]⟩, .string ⟨#[40, 98, 32, 99, 41]⟩, .string ⟨#[100]⟩] 9)) (Nat.le_refl _)
  have hb12 := hb1.trans (hb2.mono hb1.size)
  have hb13 := hb12.trans (hb3.mono hb12.size)
  clear ho hb1 hb2 hb3 hb12
  go_wp2_with fail
  refine (refSame _ _ _ _ _ hs1 (alive_lit _)).mono ?_
  rw [show decide (([[97], [40, 98, 32, 99, 41], [100]] : List Bs) = [[97], [40, 98, 32, 99, 41], [100]]) = true by decide]
  rintro e w4 ⟨rfl, hb4⟩
  have hb14 : Below w.heap.size w w4 := hb13.trans (((Below.refl _ _).alloc (Nat.le_refl _) _).trans (hb4.mono (by simp)) |>.mono hb13.size)
  have HB := Lib.hid hb14
  clear hs1 hb13 hb4 hb14
  go_wp2_with fail
  refine (wordIs _ _ (HE.out.below HB.out) (by decide)).mono ?_
  rw [show Wd.isName (ByteArray.mk #[101, 109, 98, 101, 114, 45, 102, 111, 120]).data.toList = true from name_fox]
  rintro e w5 ⟨rfl, rfl⟩
  go_wp2_with fail
  refine (wordIs _ _ (HE.out.below HB.out) (by decide)).mono ?_
  rw [show Wd.isName (ByteArray.mk #[97, 45, 45, 98]).data.toList = false from name_ab]
  rintro e w5 ⟨rfl, rfl⟩
  go_wp2_with fail
  go_ret
  exact ⟨rfl, HB.out⟩
end Go.Proofs.Ytioedokokmjldaa
