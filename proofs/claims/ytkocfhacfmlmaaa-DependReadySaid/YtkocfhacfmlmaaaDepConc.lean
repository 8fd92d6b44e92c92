/-
  LAYER 7 AS PLAIN FUNCTIONS AT THE CHAPTER's FIXED CALLS. By an AI agent.
-/
import Derived.Test.YtkocfhacfmlmaaaDepPlain
namespace Go.Proofs.Ytkocfhacfmlmaaa.Dep

def rdyB (el : List Int) (M : List (List Bool)) (a : Int) : Bool := el.all fun b => !needS M a b || needS M b a || b == a
def blkB (el : List Int) (M : List (List Bool)) (a : Int) : Bool := el.any fun b => needS M a b && b != a && el.all fun y => !needS M b y
open Classical in
theorem rdyL_calc {el : List Int} {M : List (List Bool)} (h : (el.all fun a => rdyB el M a || blkB el M a) = true) : rdyL el M = el.filter (rdyB el M) := by
  unfold rdyL
  refine List.filter_congr fun a ha => ?_
  have h1 := List.all_eq_true.1 h a ha
  rw [Bool.eq_iff_iff, decide_eq_true_eq]
  constructor
  · intro hr
    rw [Bool.or_eq_true] at h1
    rcases h1 with h1 | h1
    · exact h1
    · exfalso
      unfold blkB at h1
      obtain ⟨b, hb, h2⟩ := List.any_eq_true.1 h1
      simp only [Bool.and_eq_true, bne_iff_ne, List.all_eq_true, Bool.not_eq_true'] at h2
      have h3 := hr b hb h2.1.1
      rcases h3.head with h4 | ⟨c, h4, _⟩
      · exact h2.1.2 h4
      · have h5 := h2.2 _ h4.2.1
        rw [h4.2.2] at h5
        cases h5
  · intro hr b hb hn
    have h2 := List.all_eq_true.1 hr b hb
    simp only [Bool.or_eq_true, Bool.not_eq_true', beq_iff_eq] at h2
    rcases h2 with (h2 | h2) | h2
    · rw [hn] at h2; cases h2
    · exact .single ⟨hb, ha, h2⟩
    · rw [h2]; exact .refl _
theorem nextS_calc {el st : List Int} {M : List (List Bool)} (hg : Good el) (h : (el.all fun a => rdyB el M a || blkB el M a) = true) : nextS el st M = nextL st (el.filter (rdyB el M)) := by
  rw [nextS, readyS_of_good hg, rdyL_calc h]
theorem good_of {el : List Int} (h1 : el.Nodup) (h2 : (el.all fun x => decide (0 ≤ x)) = true) : Good el := ⟨h1, fun x hx => of_decide_eq_true (List.all_eq_true.1 h2 x hx)⟩
def M1 : List (List Bool) := [[false, false, true]]
def M2 : List (List Bool) := [[false, false, true], [], [true]]
theorem order_1 : orderS [1, 2, 3] M1 = [1, 2, 0] := by
  have h1 : nextS (idx 3) [1, 2, 3] M1 = 1 := by rw [nextS_calc (idx_good 3) (by decide +kernel)]; decide +kernel
  have h2 : nextS [0, 2] [1, 2, 3] M1 = 2 := by rw [nextS_calc (good_of (by decide +kernel) (by decide +kernel)) (by decide +kernel)]; decide +kernel
  have h3 : nextS [0] [1, 2, 3] M1 = 0 := by rw [nextS_calc (good_of (by decide +kernel) (by decide +kernel)) (by decide +kernel)]; decide +kernel
  have f1 : ((idx 3).filter fun y => y != 1) = [0, 2] := by decide +kernel
  have f2 : (([0, 2] : List Int).filter fun y => y != 2) = [0] := by decide +kernel
  show orderF [1, 2, 3] M1 3 (idx 3) = _
  rw [orderF, h1, f1, orderF, h2, f2, orderF, h3, orderF]
theorem order_2 : orderS [1, 2, 3] M2 = [0, 1, 2] := by
  have h1 : nextS (idx 3) [1, 2, 3] M2 = 0 := by rw [nextS_calc (idx_good 3) (by decide +kernel)]; decide +kernel
  have h2 : nextS [1, 2] [1, 2, 3] M2 = 1 := by rw [nextS_calc (good_of (by decide +kernel) (by decide +kernel)) (by decide +kernel)]; decide +kernel
  have h3 : nextS [2] [1, 2, 3] M2 = 2 := by rw [nextS_calc (good_of (by decide +kernel) (by decide +kernel)) (by decide +kernel)]; decide +kernel
  have f1 : ((idx 3).filter fun y => y != 0) = [1, 2] := by decide +kernel
  have f2 : (([1, 2] : List Int).filter fun y => y != 1) = [2] := by decide +kernel
  show orderF [1, 2, 3] M2 3 (idx 3) = _
  rw [orderF, h1, f1, orderF, h2, f2, orderF, h3, orderF]
theorem next_0 : nextS [] [] [] = -1 := by
  rw [nextS, readyS_nil good_nil]
  rfl
theorem next_53 : nextS [5, 3] [] [] = 3 := by
  rw [nextS, readyS_nil (good_of (by decide +kernel) (by decide +kernel))]
  decide +kernel
theorem ready_4 : readyS [4, -1, 4, 2] [] = [4, 2] := by
  have e : elemS [] [4, -1, 4, 2] = [4, 2] := by decide +kernel
  rw [readyS, e, rdyL_nil]
end Go.Proofs.Ytkocfhacfmlmaaa.Dep
