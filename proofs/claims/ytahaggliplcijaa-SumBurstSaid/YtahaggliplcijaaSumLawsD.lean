/-
  LAYER 5's LAWS: SumBurst. By an AI agent.
-/
import Derived.Test.YtahaggliplcijaaSumLawsC
import Derived.RegionTactic
import Derived.BigRegion
namespace Go.Proofs.Ytahaggliplcijaa
open Go.RowKit

theorem shift_cell (c : UInt8) (r : Nat) (hr : r < 8) : Value.int .u8 (bits .xor .u8 (c.toNat : Int) (2 ^ r % 256)) = encB (c ^^^ (2 ^ r).toUInt8) := by
  have h : 2 ^ r < 2 ^ 8 := Nat.pow_lt_pow_right (by decide) hr
  have e : (2 : Int) ^ r % 256 = ((2 ^ r : Nat) : Int) := by
    rw [Int.natCast_pow, Int.emod_eq_of_lt]
    · rfl
    · exact Int.pow_nonneg (by decide)
    · have h2 : ((2 ^ r : Nat) : Int) < 256 := by omega
      rw [Int.natCast_pow] at h2
      exact h2
  rw [e]
  exact xor_cell c (2 ^ r) h
/-- the head of a round: i rounds are done, ch says whether a bit has been turned -/
def BurstAt (w : World) (s0 : List UInt8) (a2 : Option Addr) (c2 A : Nat) (ch i : Value) (wr : World) : Prop :=
  ∃ (k : Nat) (b : Bool) (xs : List UInt8), k ≤ 32 ∧ i = .int .i64 (k : Int) ∧ ch = .bool b ∧ OwnB w.heap.size wr (.slice a2 s0.length c2) xs ∧ Crc.Turned s0 xs A k b ∧ Below w.heap.size w wr
theorem BurstAt.drew {w wr : World} {s0 : List UInt8} {a2 : Option Addr} {c2 A : Nat} {ch i : Value} (h : BurstAt w s0 a2 c2 A ch i wr) : BurstAt w s0 a2 c2 A ch i wr.drew := by
  obtain ⟨k, b, xs, h1, h2, h3, h4, h5, h6⟩ := h
  exact ⟨k, b, xs, h1, h2, h3, h4.drewN 1, h5, below_drewN h6 1⟩
theorem openV_not {l : List UInt8} (h4 : 4 ≤ l.length) (h : Crc.okS l = false) : Crc.openV l = ([], 8) := by unfold Crc.openV; rw [if_neg (by omega), h]; rfl
theorem openV_yes {l : List UInt8} (h4 : 4 ≤ l.length) (h : Crc.okS l = true) : (Crc.openV l).2 = 0 := by unfold Crc.openV; rw [if_neg (by omega), h]; rfl
set_option maxHeartbeats 2000000 in
set_option maxRecDepth 100000 in
theorem lawBurst (v : Value) (l : List UInt8) (t M : Nat) (w : World) (hv : Bytes w v l) (hl : l.length ≤ 140737488355328) (ht : t < 65536) (hM : M < 4294967296) :
    Calls Try.prog 6 #[v, .int .u16 (t : Int), .int .u32 (M : Int)] w fun e w' => e = .returned (.bool true) ∧ Below w.heap.size w w' := by
  have HV := hv
  obtain ⟨a, c, rfl, -⟩ := hv
  by_cases hm : 1000 < l.length
  · have hm' : (1000 : Int) < (l.length : Int) := by omega
    go_enter Try.func6, Try.ntmps6
    go_wp2_with fail
    refine (alive _).mono ?_
    rintro e w1 ⟨rfl, hb⟩
    go_wp2_with fail
    go_ret
    exact ⟨rfl, hb⟩
  have hm' : ¬ (1000 : Int) < (l.length : Int) := by omega
  have hl' : l.length ≤ 1000 := by omega
  clear hm
  by_cases hz : M = 0
  · subst hz
    go_enter Try.func6, Try.ntmps6
    go_wp2_with fail
    refine (alive _).mono ?_
    rintro e w1 ⟨rfl, hb⟩
    go_wp2_with fail
    go_ret
    exact ⟨rfl, hb⟩
  have hz1 : ((M : Int) == 0) = false := by simp only [beq_eq_false_iff_ne]; omega
  have M0 : (0 : Int) ≤ (M : Int) := by omega
  have M1 : (M : Int) ≤ 4294967295 := by omega
  have T0 : (0 : Int) ≤ (t : Int) := by omega
  have T1 : (t : Int) ≤ 65535 := by omega
  clear hz
  go_enter Try.func6, Try.ntmps6
  go_wp2_with fail
  refine (sumSeal _ l _ HV (by omega)).mono ?_
  rintro e w1 ⟨v1, rfl, ho1, hb1⟩
  obtain ⟨a2, c2, rfl, hc2, hm2, -⟩ := ho1.row
  have hlen := Crc.sealS_length l
  have hok := Crc.okS_seal l
  unfold maxLen at hm2
  generalize Crc.sealS l = s0 at hlen ho1 hok hc2 ⊢
  obtain ⟨A, hA, hA2⟩ : ∃ A : Nat, A < 8 * s0.length ∧ (t : Int) % (8 * (s0.length : Int)) = (A : Int) := ⟨t % (8 * s0.length), Nat.mod_lt _ (by omega), by rw [Int.natCast_emod, Int.natCast_mul]; rfl⟩
  have HS := Lib.hid hlen
  have n0 : (s0.length : Int) ≤ 1004 := by omega
  have n1 : (4 : Int) ≤ (s0.length : Int) := by omega
  have hs1 : ((s0.length : Int) == (l.length : Int) + 4) = true := by simp only [beq_iff_eq]; omega
  clear hlen
  have A0 : (0 : Int) ≤ (A : Int) := by omega
  have A1 : (A : Int) < 8 * (s0.length : Int) := by omega
  go_wp2_with fail
  go_loopw [8, 9] (fun ch i wr => BurstAt w s0 a2 c2 A ch i wr) (fun _ i _ => 32 - (intOf i).toNat)
  case atStart => exact ⟨0, false, _, Nat.zero_le _, rfl, rfl, ho1, Crc.Turned.start s0 A, hb1⟩
  case round =>
    clear ho1 hb1
    obtain ⟨k, b, xs, hk, rfl, rfl, ho, hT, hb⟩ := hrel
    have i0 : (0 : Int) ≤ (k : Int) := by omega
    by_cases hlt : k < 32
    · have i1 : (k : Int) < 32 := by omega
      have HT := Lib.hid hT
      have HR := Lib.hid (⟨k + 1, b, xs, by omega, by go_num, rfl, ho, hT.same, hb⟩ : BurstAt w s0 a2 c2 A (.bool b) (.int .i64 ((k : Int) + 1)) wr)
      clear hT
      cases hbit : (bits .and .u32 ((M : Int) / 2 ^ k) 1 == 1) with
      | false =>
        go_wp2_with fail
        go_roundw
        case rel => exact HR.out
        case measure => simp [intOf]; omega
      | true =>
        by_cases hin : A + k < 8 * s0.length
        · have j1 : (A : Int) + (k : Int) < 8 * (s0.length : Int) := by omega
          have hq : (A + k) / 8 < s0.length := by omega
          clear HR
          obtain ⟨g, rfl, hB, hg, hcell, hfr, hst⟩ := ho.place 0 hq
          have hflip : ∀ x, xs.getD ((A + k) / 8) 0 = x → Crc.flip xs (A + k) = xs.set ((A + k) / 8) (x ^^^ (2 ^ ((A + k) % 8)).toUInt8) := fun x e => by rw [Crc.flip, e]
          generalize hx : xs.getD ((A + k) / 8) 0 = x at hcell
          obtain ⟨ho3, hg3⟩ := hst (x ^^^ (2 ^ ((A + k) % 8)).toUInt8)
          rw [← hflip x hx] at ho3
          have HC := Lib.hid (shift_cell x ((A + k) % 8) (Nat.mod_lt _ (by decide)))
          have HR := Lib.hid (⟨k + 1, true, _, by omega, by go_num, rfl, ho3, HT.out.flip hin, hb.grown hg3 hb.size (by rintro j ⟨⟩; exact hB)⟩ : BurstAt w s0 (some ⟨g, 0, none⟩) c2 A (.bool true) (.int .i64 ((k : Int) + 1)) _)
          unfold encB at hcell
          clear hst hflip hx ho3 hg3 HT
          go_wp2_with fail
          go_region
          go_wp2_with fail
          go_roundw
          case rel => rw [HC.out]; exact BurstAt.drew HR.out
          case measure => simp [intOf]; omega
        · have j1 : ¬ (A : Int) + (k : Int) < 8 * (s0.length : Int) := by omega
          go_wp2_with fail
          go_roundw
          case rel => exact HR.out
          case measure => simp [intOf]; omega
    · obtain rfl : k = 32 := by omega
      have hx4 : 4 ≤ xs.length := by have := hT.1; have := HS.out; omega
      have hxl : xs.length ≤ 100000 := by have := hT.1; omega
      have hopen := hT.opens (by have := HS.out; omega) (by decide) hok
      clear hT
      cases b with
      | false =>
        have HO := Lib.hid (openV_yes hx4 hopen)
        clear hopen
        go_wp2_with fail
        refine (sumOpen _ xs _ ho.row.all hxl).mono ?_
        unfold OpenRes
        rw [HO.out]
        rintro e w3 ⟨v3, rfl, ho3, hb3⟩
        have hb03 := hb.trans (hb3.mono hb.size)
        go_wp2_with fail
        refine (alive _).mono ?_
        rintro e w4 ⟨rfl, hb4⟩
        go_wp2_with fail
        go_ret
        exact ⟨rfl, hb03.trans (hb4.mono hb03.size)⟩
      | true =>
        have HO := Lib.hid (openV_not hx4 hopen)
        clear hopen
        go_wp2_with fail
        refine (sumOpen _ xs _ ho.row.all hxl).mono ?_
        unfold OpenRes
        rw [HO.out]
        rintro e w3 ⟨v3, rfl, ho3, hb3⟩
        have hb03 := hb.trans (hb3.mono hb.size)
        obtain ⟨a4, c4, rfl, -⟩ := ho3.row
        go_wp2_with fail
        refine (alive _).mono ?_
        rintro e w4 ⟨rfl, hb4⟩
        go_wp2_with fail
        go_ret
        exact ⟨rfl, hb03.trans (hb4.mono hb03.size)⟩
end Go.Proofs.Ytahaggliplcijaa
