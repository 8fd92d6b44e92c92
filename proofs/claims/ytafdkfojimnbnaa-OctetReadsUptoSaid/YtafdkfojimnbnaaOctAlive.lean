/-
  LAYER 4's LAWS: the chapter's fixed calls. By an AI agent.
-/
import Derived.Test.YtafdkfojimnbnaaOctValB
namespace Go.Proofs.Ytafdkfojimnbnaa
open Go.RowKit
open Go.Lib (uvarint uvarint_small uvarint_big zigzag unzigzag)

theorem enc_alive : encAll [300] ++ uvarint (zigzag (-1)) = [172, 2, 1] := by
  have h1 : uvarint 300 = [172, 2] := by rw [uvarint_big (by decide), uvarint_small (by decide)]; decide
  have h2 : zigzag (-1) = 1 := by decide
  rw [h2, uvarint_small (by decide)]
  simp [encAll, h1]
theorem enc_alive2 : [] ++ uvarint (if true then 1 else 0) ++ Oct.textE (⟨#[97, 98]⟩ : ByteArray).data.toList = [1, 2, 97, 98] := by
  unfold Oct.textE
  rw [uvarint_small (by decide), uvarint_small (by decide)]
  decide
theorem dec_alive : Oct.intS ([128, 0], 0) = (0, ([], 3)) := by decide
set_option maxHeartbeats 1000000 in
set_option maxRecDepth 100000 in
theorem alive (w : World) : Calls Try.prog 12 #[] w fun e w' => e = .returned (.bool true) ∧ Below w.heap.size w w' := by
  go_enter Try.func12, Try.ntmps12
  go_wp2_with fail
  refine (octPut (.slice none 0 0) _ [] [300] _ (RowIn.nil _ _ _ _) (lit_one w 300) (by simp [Fits64]) (by decide)).mono ?_
  intro e w1 h
  obtain ⟨v1, rfl, ho1, hb1⟩ := BytesRes.trans (below_alloc1 w _) h
  go_wp2_with fail
  refine (octPutInt v1 _ (-1) w1 ho1.row.all (by decide) (by decide) (by rw [List.length_append]; have := encAll_len [300] (by simp [Fits64]); simp at this ⊢; omega)).mono ?_
  intro e w2 h
  obtain ⟨v2, rfl, ho2, hb2⟩ := BytesRes.trans hb1 h
  rw [List.nil_append, enc_alive] at ho2
  have hlit : Bytes (w2.alloc (.cells #[.int .u8 128, .int .u8 0] 5)) (.slice (some ⟨w2.heap.size, 0, none⟩) 2 2) [128, 0] := (OwnRow.lit encB 5 w2 [128, 0] (by decide)).row.all
  have hb2' := below_alloc1 w2 (.cells #[.int .u8 128, .int .u8 0] 5)
  go_wp2_with fail
  refine (octNew _ [128, 0] _ hlit (by decide)).mono ?_
  rintro e w3 ⟨g, rfl, hgs, hr, hb3⟩
  have hs3 : w2.heap.size ≤ w3.heap.size := by have := hb3.size; simp at this; omega
  have hb23 : Below w2.heap.size w2 w3 := hb2'.trans (hb3.mono (by simp))
  have hrow3 : RowIn encB 0 w2.heap.size w3 v2 [172, 2, 1] := ho2.row.all.below hb23 (Nat.le_refl _)
  have hb03 := hb2.trans (hb23.mono hb2.size)
  have hgg : w2.heap.size < g := by simp at hgs; omega
  have hs2 := hb2.size
  clear hb3 hgs hlit hb2' hb23
  go_wp2_with fail
  refine (octInt w3 hr).mono ?_
  rw [dec_alive]
  rintro e w4 ⟨rfl, hr4, hg4⟩
  have hrow4 : RowIn encB 0 w2.heap.size w4 v2 [172, 2, 1] := hrow3.keep hg4.size fun k _ hk hs => hg4.block k hs (by intro e; injection e with e; omega)
  have hcv : (convert 22 9 v2).run Try.prog w4 = .ok (.string ⟨#[172, 2, 1]⟩) w4 := run_text hrow4
  have hb04 := hb03.grown hg4 hb03.size (by rintro k ⟨⟩; omega)
  clear hrow3 hrow4 hb03
  go_wp2_with fail
  refine (octErr w4 hr4).mono ?_
  rintro e w5 ⟨rfl, rfl⟩
  go_wp2_with fail
  refine (octLeft w4 hr4).mono ?_
  rintro e w5 ⟨rfl, rfl⟩
  go_wp2_with fail
  refine (octErrNil w4).mono ?_
  rintro e w5 ⟨rfl, rfl⟩
  go_wp2_with fail
  refine (octTextNil w4).mono ?_
  rintro e w5 ⟨rfl, rfl⟩
  go_wp2_with fail
  refine (octPutBool (.slice none 0 0) [] true w4 (RowIn.nil _ _ _ _) (by decide)).mono ?_
  rintro e w5 ⟨v5, rfl, ho5, hb5⟩
  go_wp2_with fail
  refine (octPutText v5 _ ⟨#[97, 98]⟩ w5 ho5.row.all (by
    have h1 : (uvarint 1).length = 1 := by rw [uvarint_small (by decide)]; rfl
    have h2 : (⟨#[97, 98]⟩ : ByteArray).size = 2 := rfl
    rw [h2]
    simp [h1])).mono ?_
  rintro e w6 ⟨v6, rfl, ho6, hb6⟩
  replace ho6 : OwnB w5.heap.size w6 v6 [1, 2, 97, 98] := by have h := enc_alive2; simp only [if_true] at h ho6; rw [h] at ho6; exact ho6
  have hcv6 : (convert 22 9 v6).run Try.prog w6 = .ok (.string ⟨#[1, 2, 97, 98]⟩) w6 := run_text ho6.row
  go_wp2_with fail
  go_ret
  exact ⟨rfl, hb04.trans ((hb5.mono hb04.size).trans (hb6.mono (Nat.le_trans hb04.size hb5.size)))⟩
end Go.Proofs.Ytafdkfojimnbnaa
