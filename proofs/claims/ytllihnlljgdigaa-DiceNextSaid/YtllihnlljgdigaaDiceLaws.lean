/-
  LAYER 6's LAWS: the chapter's fixed calls; DiceNext, DiceBelow, DiceShuffle, DiceSequence. By an AI agent.
-/
import Derived.Test.YtllihnlljgdigaaDiceWalksC
namespace Go.Proofs.Ytllihnlljgdigaa
open Go.RowKit

theorem val_0 : Dice.valS 0 = 16294208416658607535 := by decide +kernel
theorem seed_0 : Dice.seedS 0 = 11400714819323198485 := by decide +kernel
theorem below_01 : Dice.belowV 0 1 = 0 := by decide +kernel
theorem belowS_01 : Dice.belowS 0 1 = 11400714819323198485 := by decide +kernel
theorem below_50 : Dice.belowV 5 0 = 0 := by decide +kernel
theorem belowS_50 : Dice.belowS 5 0 = 5 := by decide +kernel
theorem shuffle_9 : Dice.shuffleS 3 [9] = [9] := rfl
theorem after_9 : Dice.afterS 3 [9] = 3 := rfl
theorem lit_9 (w : World) : Ints (w.alloc (.cells #[.int .i64 9] 3)) (.slice (some ⟨w.heap.size, 0, none⟩) 1 1) [9] := (OwnRow.lit encI 3 w [9] (by simp)).row.all
set_option maxHeartbeats 1000000 in
set_option maxRecDepth 100000 in
theorem alive (w : World) : Calls Try.prog 10 #[] w fun e w' => e = .returned (.bool true) ∧ Below w.heap.size w w' := by
  go_enter Try.func10, Try.ntmps10
  go_wp2_with fail
  refine (diceNext 0 _).mono ?_
  rw [val_0, seed_0]
  unfold two
  rintro e w0 ⟨rfl, rfl⟩
  go_wp2_with fail
  refine (diceBelow 0 1 _ (by decide) (by decide)).mono ?_
  rw [below_01, belowS_01]
  unfold pair
  rintro e w0 ⟨rfl, rfl⟩
  go_wp2_with fail
  refine (diceBelow 5 0 _ (by decide) (by decide)).mono ?_
  rw [below_50, belowS_50]
  unfold pair
  rintro e w0 ⟨rfl, rfl⟩
  have hl1 := lit_9 w
  have hb1 := below_alloc1 w (.cells #[.int .i64 9] 3)
  go_wp2_with fail
  refine (diceShuffle _ [9] 3 _ hl1 (by simp)).mono ?_
  rw [shuffle_9, after_9]
  unfold ShufRes
  rintro e w1 ⟨v1, rfl, ho1, hb⟩
  have hb01 := hb1.trans (hb.mono hb1.size)
  clear hl1 hb1 hb
  have hl2 := lit_9 w1
  have hb2 := below_alloc1 w1 (.cells #[.int .i64 9] 3)
  have ho2 := ho1.below hb2 (Nat.le_refl _)
  have hb02 := hb01.trans (hb2.mono hb01.size)
  go_wp2_with fail
  refine (refSame _ _ [9] [9] _ ho2.row.all hl2).mono ?_
  rw [sameI_self]
  rintro e w3 ⟨rfl, hb3⟩
  have hb03 := hb02.trans (hb3.mono hb02.size)
  clear ho1 hl2 ho2
  go_wp2_with fail
  go_ret
  exact ⟨rfl, hb03⟩
theorem seed_back (x : Int) : (IntKind.u64.wrap (Dice.seedS x - x) == 11400714819323198485) = true := by
  rw [Dice.wrap_two]
  unfold Dice.seedS Dice.two64
  rw [beq_iff_eq]
  omega
set_option maxHeartbeats 1000000 in
set_option maxRecDepth 100000 in
theorem lawNext (x : Int) (w : World) :
    Calls Try.prog 3 #[.int .u64 x] w fun e w' => e = .returned (.bool true) ∧ Below w.heap.size w w' := by
  have hs := seed_back x
  go_enter Try.func3, Try.ntmps3
  go_wp2_with fail
  refine (diceNext x _).mono ?_
  have hr := refNext x
  generalize Dice.valS x = z at hr ⊢
  generalize Dice.seedS x = s at hr hs ⊢
  unfold two at hr ⊢
  rintro e w0 ⟨rfl, rfl⟩
  go_wp2_with fail
  refine (hr _).mono ?_
  rintro e w0 ⟨rfl, rfl⟩
  go_wp2_with fail
  refine (alive _).mono ?_
  rintro e w1 ⟨rfl, hb⟩
  go_wp2_with fail
  go_ret
  exact ⟨rfl, hb⟩
set_option maxHeartbeats 1000000 in
set_option maxRecDepth 100000 in
theorem lawBelow (x : Int) (n : Int) (lo : -9223372036854775808 ≤ n) (hi : n ≤ 9223372036854775807) (w : World) :
    Calls Try.prog 4 #[.int .u64 x, .int .i64 n] w fun e w' => e = .returned (.bool true) ∧ Below w.heap.size w w' := by
  have hd := fun w => diceBelow x n w lo hi
  have hr := fun w => refBelow x n w lo hi
  have hz := Dice.belowV_nonneg x n
  have hlt : ¬ n < 1 → Dice.belowV x n < n := fun h => (Dice.below_bounds x n (by omega)).2
  generalize Dice.belowV x n = z at hd hr hz hlt
  generalize Dice.belowS x n = s at hd hr
  unfold pair at hd hr
  have HD := Lib.hid hd
  have HR := Lib.hid hr
  clear hd hr
  by_cases h : n < 1
  · clear hlt
    go_enter Try.func4, Try.ntmps4
    go_wp2_with fail
    refine (HD.out _).mono ?_
    rintro e w0 ⟨rfl, rfl⟩
    go_wp2_with fail
    refine (HR.out _).mono ?_
    rintro e w0 ⟨rfl, rfl⟩
    go_wp2_with fail
    refine (alive _).mono ?_
    rintro e w1 ⟨rfl, hb⟩
    go_wp2_with fail
    go_ret
    exact ⟨rfl, hb⟩
  · replace hlt := hlt h
    go_enter Try.func4, Try.ntmps4
    go_wp2_with fail
    refine (HD.out _).mono ?_
    rintro e w0 ⟨rfl, rfl⟩
    go_wp2_with fail
    refine (HR.out _).mono ?_
    rintro e w0 ⟨rfl, rfl⟩
    go_wp2_with fail
    refine (alive _).mono ?_
    rintro e w1 ⟨rfl, hb⟩
    go_wp2_with fail
    go_ret
    exact ⟨rfl, hb⟩
set_option maxHeartbeats 1000000 in
set_option maxRecDepth 100000 in
theorem lawShuffle (s : Int) (v : Value) (l : List Int) (w : World) (hv : Ints w v l) :
    Calls Try.prog 5 #[.int .u64 s, v] w fun e w' => e = .returned (.bool true) ∧ Below w.heap.size w w' := by
  have HV := Lib.hid hv
  obtain ⟨a, c, rfl, -⟩ := hv
  by_cases hm : 300 < l.length
  · have hm' : (300 : Int) < (l.length : Int) := by omega
    go_enter Try.func5, Try.ntmps5
    go_wp2_with fail
    refine (alive _).mono ?_
    rintro e w1 ⟨rfl, hb⟩
    go_wp2_with fail
    go_ret
    exact ⟨rfl, hb⟩
  · have hm' : ¬ (300 : Int) < (l.length : Int) := by omega
    have hl : l.length ≤ 1000000 := by omega
    clear hm
    go_enter Try.func5, Try.ntmps5
    go_wp2_with fail
    refine (diceShuffle _ l s _ HV.out hl).mono ?_
    have hr := fun u wx => refShuffle u l s wx
    generalize Dice.shuffleS s l = xs at hr ⊢
    generalize Dice.afterS s l = s2 at hr ⊢
    unfold ShufRes at hr ⊢
    have HR := Lib.hid hr
    clear hr
    rintro e w1 ⟨v1, rfl, ho1, hb1⟩
    have HV1 := Lib.hid (HV.out.under hb1 (Nat.le_refl _))
    go_wp2_with fail
    refine (HR.out _ _ HV1.out hl).mono ?_
    rintro e w2 ⟨v2, rfl, ho2, hb2⟩
    have hb02 := hb1.trans (hb2.mono hb1.size)
    have hr1 := (ho1.below hb2 (Nat.le_refl _)).row.all
    have hr2 := ho2.row.all
    clear ho1 ho2
    go_wp2_with fail
    refine (refSame _ _ _ _ _ hr1 hr2).mono ?_
    rw [sameI_self]
    rintro e w3 ⟨rfl, hb3⟩
    have hb03 := hb02.trans (hb3.mono hb02.size)
    go_wp2_with fail
    refine (alive _).mono ?_
    rintro e w4 ⟨rfl, hb4⟩
    go_wp2_with fail
    go_ret
    exact ⟨rfl, hb03.trans (hb4.mono hb03.size)⟩
set_option maxHeartbeats 1000000 in
set_option maxRecDepth 100000 in
theorem lawSequence (s0 : Int) (v : Value) (l : List Int) (w : World) (hv : Ints w v l) :
    Calls Try.prog 7 #[.int .u64 s0, v] w fun e w' => e = .returned (.bool true) ∧ Below w.heap.size w w' := by
  have HV := Lib.hid hv
  obtain ⟨a, c, rfl, -⟩ := hv
  by_cases hm : 300 < l.length
  · have hm' : (300 : Int) < (l.length : Int) := by omega
    go_enter Try.func7, Try.ntmps7
    go_wp2_with fail
    refine (alive _).mono ?_
    rintro e w1 ⟨rfl, hb⟩
    go_wp2_with fail
    go_ret
    exact ⟨rfl, hb⟩
  · have hm' : ¬ (300 : Int) < (l.length : Int) := by omega
    have hl : l.length ≤ 1000000 := by omega
    clear hm
    go_enter Try.func7, Try.ntmps7
    go_wp2_with fail
    refine (diceShuffle _ l s0 _ HV.out hl).mono ?_
    generalize Dice.shuffleS s0 l = xs
    have h0 := Lib.hid (show Dice.after ((l.length : Int) - 1).toNat s0 = Dice.afterS s0 l by rw [Dice.afterS]; congr 1; omega)
    generalize Dice.afterS s0 l = s2 at h0 ⊢
    unfold ShufRes
    rintro e w1 ⟨v1, rfl, -, hb1⟩
    go_wp2_with fail
    go_loop [0, 7] (fun sd i => ∃ m s : Int, 0 ≤ m ∧ m ≤ (l.length : Int) ∧ sd = .int .u64 s ∧ i = .int .i64 m ∧ Hid (Dice.after (m - 1).toNat s = s2)) (fun _ i => (intOf i).toNat)
    case atStart => exact ⟨_, _, by omega, Int.le_refl _, rfl, rfl, h0⟩
    case round =>
      obtain ⟨m, s, hm0, hm1, rfl, rfl, H⟩ := hrel
      by_cases h2 : 2 ≤ m
      · obtain ⟨k, rfl⟩ : ∃ k : Nat, m = (k : Int) + 2 := ⟨(m - 2).toNat, by omega⟩
        have HN := Lib.hid (show Dice.after (((k : Int) + 1) - 1).toNat (Dice.belowS s ((k : Int) + 2)) = s2 by
          rw [← H.out, show (((k : Int) + 1) - 1).toNat = k by omega, show (((k : Int) + 2) - 1).toNat = k + 1 by omega, Dice.after])
        clear H
        go_wp2_with fail
        refine (diceBelow s _ _ (by omega) (by omega)).mono ?_
        generalize Dice.belowV s ((k : Int) + 2) = z
        generalize Dice.belowS s ((k : Int) + 2) = s3 at HN ⊢
        unfold pair
        rintro e w2 ⟨rfl, rfl⟩
        go_wp2_with fail
        go_round
        case rel => exact ⟨(k : Int) + 1, _, by omega, by omega, rfl, by go_num, HN⟩
        case measure => simp [intOf]; omega
      · have hs : Hid (s = s2) := Lib.hid (by rw [← H.out, show (m - 1).toNat = 0 by omega]; rfl)
        obtain rfl : s = s2 := hs.out
        clear H hs
        go_wp2_with fail
        refine (alive _).mono ?_
        rintro e w4 ⟨rfl, hb4⟩
        go_wp2_with fail
        go_ret
        exact ⟨rfl, hb1.trans (hb4.mono hb1.size)⟩
end Go.Proofs.Ytllihnlljgdigaa
