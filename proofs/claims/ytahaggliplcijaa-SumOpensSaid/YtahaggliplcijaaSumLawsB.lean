/-
  LAYER 5's LAWS: SumOpens, SumBack. By an AI agent.
-/
import Derived.Test.YtahaggliplcijaaSumLaws
namespace Go.Proofs.Ytahaggliplcijaa
open Go.RowKit

theorem openV_back {l : List UInt8} (h : (Crc.openV l).2 = 0) : Crc.sealS (Crc.openV l).1 = l := by
  unfold Crc.openV at h ⊢
  split at h
  · cases h
  · rename_i h4
    rw [if_neg h4]
    split at h
    · rename_i hk
      rw [if_pos hk]
      exact Crc.okS_eq hk
    · cases h
theorem openV_len (l : List UInt8) : (Crc.openV l).1.length ≤ l.length := by
  unfold Crc.openV
  split
  · simp
  · split
    · simp
    · simp
set_option maxHeartbeats 1000000 in
set_option maxRecDepth 100000 in
theorem lawOpens (v : Value) (l : List UInt8) (w : World) (hv : Bytes w v l) (hl : l.length ≤ 140737488355328) :
    Calls Try.prog 4 #[v] w fun e w' => e = .returned (.bool true) ∧ Below w.heap.size w w' := by
  have HV := hv
  obtain ⟨a, c, rfl, -⟩ := hv
  by_cases hm : 4000 < l.length
  · have hm' : (4000 : Int) < (l.length : Int) := by omega
    go_enter Try.func4, Try.ntmps4
    go_wp2_with fail
    refine (alive _).mono ?_
    rintro e w1 ⟨rfl, hb⟩
    go_wp2_with fail
    go_ret
    exact ⟨rfl, hb⟩
  · have hm' : ¬ (4000 : Int) < (l.length : Int) := by omega
    have hl' : l.length ≤ 100000 := by omega
    have HX := Lib.hid (openV_back (l := l))
    have hx := openV_len l
    clear hm
    go_enter Try.func4, Try.ntmps4
    go_wp2_with fail
    refine (sumOpen _ l _ HV hl').mono ?_
    rintro e w1 ⟨v1, rfl, ho1, hb1⟩
    go_wp2_with fail
    refine (refOpen _ l _ (HV.under hb1 (Nat.le_refl _)) hl').mono ?_
    rintro e w2 ⟨v2, rfl, ho2, hb2⟩
    have hb02 := hb1.trans (hb2.mono hb1.size)
    generalize (Crc.openV l).1 = x at hx HX ho1 ho2
    generalize (Crc.openV l).2 = k at HX ⊢
    go_wp2_with fail
    refine (refSame _ _ _ _ _ (ho1.row.all.under hb2 (Nat.le_refl _)) ho2.row.all).mono ?_
    rw [sameB_self]
    rintro e w3 ⟨rfl, hb3⟩
    have hb03 := hb02.trans (hb3.mono hb02.size)
    by_cases hk : k = 0
    · subst hk
      have HE := Lib.hid (HX.out rfl)
      clear HX
      go_wp2_with fail
      refine (sumSeal _ x _ (ho1.row.all.under (hb2.trans (hb3.mono hb2.size)) (Nat.le_refl _)) (by omega)).mono ?_
      rw [HE.out]
      rintro e w4 ⟨v4, rfl, ho4, hb4⟩
      have hb04 := hb03.trans (hb4.mono hb03.size)
      go_wp2_with fail
      refine (refSame _ _ _ _ _ ho4.row.all (HV.under hb04 (Nat.le_refl _))).mono ?_
      rw [sameB_self]
      rintro e w5 ⟨rfl, hb5⟩
      have hb05 := hb04.trans (hb5.mono hb04.size)
      go_wp2_with fail
      refine (alive _).mono ?_
      rintro e w6 ⟨rfl, hb6⟩
      go_wp2_with fail
      go_ret
      exact ⟨rfl, hb05.trans (hb6.mono hb05.size)⟩
    · have t1 : ((k : Int) == 0) = false := by simp only [beq_eq_false_iff_ne]; exact hk
      have t2 : ((k : Int) != 0) = true := by simp only [bne_iff_ne]; exact hk
      clear HX hk
      go_wp2_with fail
      refine (alive _).mono ?_
      rintro e w6 ⟨rfl, hb6⟩
      go_wp2_with fail
      go_ret
      exact ⟨rfl, hb03.trans (hb6.mono hb03.size)⟩
set_option maxHeartbeats 1000000 in
set_option maxRecDepth 100000 in
theorem lawBack (v : Value) (l : List UInt8) (w : World) (hv : Bytes w v l) (hl : l.length ≤ 140737488355328) :
    Calls Try.prog 5 #[v] w fun e w' => e = .returned (.bool true) ∧ Below w.heap.size w w' := by
  have HV := hv
  obtain ⟨a, c, rfl, -⟩ := hv
  by_cases hm : 4000 < l.length
  · have hm' : (4000 : Int) < (l.length : Int) := by omega
    go_enter Try.func5, Try.ntmps5
    go_wp2_with fail
    refine (alive _).mono ?_
    rintro e w1 ⟨rfl, hb⟩
    go_wp2_with fail
    go_ret
    exact ⟨rfl, hb⟩
  · have hm' : ¬ (4000 : Int) < (l.length : Int) := by omega
    have hl' : l.length ≤ 4000 := by omega
    clear hm
    go_enter Try.func5, Try.ntmps5
    go_wp2_with fail
    refine (sumSeal _ l _ HV (by omega)).mono ?_
    rintro e w1 ⟨v1, rfl, ho1, hb1⟩
    go_wp2_with fail
    refine (sumOpen _ (Crc.sealS l) _ ho1.row.all (by rw [Crc.sealS_length]; omega)).mono ?_
    unfold OpenRes
    rw [Crc.openV_seal]
    rintro e w2 ⟨v2, rfl, ho2, hb2⟩
    have hb02 := hb1.trans (hb2.mono hb1.size)
    go_wp2_with fail
    refine (refSame _ _ _ _ _ ho2.row.all (HV.under hb02 (Nat.le_refl _))).mono ?_
    rw [sameB_self]
    rintro e w3 ⟨rfl, hb3⟩
    have hb03 := hb02.trans (hb3.mono hb02.size)
    go_wp2_with fail
    refine (alive _).mono ?_
    rintro e w4 ⟨rfl, hb4⟩
    go_wp2_with fail
    go_ret
    exact ⟨rfl, hb03.trans (hb4.mono hb03.size)⟩
end Go.Proofs.Ytahaggliplcijaa
