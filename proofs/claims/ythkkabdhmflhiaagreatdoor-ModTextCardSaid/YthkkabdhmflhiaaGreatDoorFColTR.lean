/-
  CONTRACTS OF LAYER 9's REFERENCE that layer 15 reaches: Is, Text, Parse. By an AI agent.
-/
import Derived.Test.YthkkabdhmflhiaaGreatDoorModGC
import Derived.Test.YthkkabdhmflhiaaGreatDoorFColR
import Derived.Lib.SlicesS
namespace Go.Proofs.YthkkabdhmflhiaaGreatDoor
open Go.RowKit
open Wd (Bs)

set_option maxRecDepth 100000 in
theorem refIs9 (m : Int) (w : World) :
    Calls Tryz.prog 73 #[.int .i64 m] w fun e w' => e = .returned (.bool (Col.validB m)) ∧ w = w' := by
  rcases Int.lt_or_le m 0 with h0 | h0
  · have HB : Hid (Col.validB m = false) := Lib.hid (by unfold Col.validB; simp; omega)
    go_enter Tryz.func73, Tryz.ntmps73
    go_wp2
    go_ret
    exact ⟨ret_bool HB.out.symm, rfl⟩
  · by_cases h1 : m ≤ 31
    · have HB : Hid (Col.validB m = true) := Lib.hid (by unfold Col.validB; simp; omega)
      go_enter Tryz.func73, Tryz.ntmps73
      go_wp2
      go_ret
      exact ⟨ret_bool HB.out.symm, rfl⟩
    · have HB : Hid (Col.validB m = false) := Lib.hid (by unfold Col.validB; simp; omega)
      go_enter Tryz.func73, Tryz.ntmps73
      go_wp2
      go_ret
      exact ⟨ret_bool HB.out.symm, rfl⟩
theorem pow_bitsC (k : Nat) (hk : k < 5) : wrap64 ((2 : Int) ^ k) = 2 ^ k := by
  match k, hk with
  | 0, _ => exact IntWalk.wrap64_in _ (by decide)
  | 1, _ => exact IntWalk.wrap64_in _ (by decide)
  | 2, _ => exact IntWalk.wrap64_in _ (by decide)
  | 3, _ => exact IntWalk.wrap64_in _ (by decide)
  | 4, _ => exact IntWalk.wrap64_in _ (by decide)
theorem pow_someC (k : Nat) (hk : k < 5) : ¬ wrap64 ((2 : Int) ^ k) = 0 := by
  rw [pow_bitsC k hk]
  match k, hk with
  | 0, _ => decide
  | 1, _ => decide
  | 2, _ => decide
  | 3, _ => decide
  | 4, _ => decide
theorem quo_testC (m k : Nat) (hm : m ≤ 31) (hk : k < 5) : ((wrap64 ((m : Int) / wrap64 ((2 : Int) ^ k))).tmod 2 == 1) = Num.bitB m k := by
  rw [pow_bitsC k hk]
  have e : ((m : Int) / 2 ^ k) = ((m / 2 ^ k : Nat) : Int) := by simp
  have hle : m / 2 ^ k ≤ m := Nat.div_le_self _ _
  rw [e]
  unfold Num.bitB
  generalize m / 2 ^ k = q at *
  rw [IntWalk.wrap64_in (q : Int) ⟨by omega, by omega⟩, Int.tmod_eq_emod_of_nonneg (by omega), Num.half_test]

theorem refText_posC (m : Nat) (h : m ≤ 31) (h0 : 0 < m) : Col.textI (m : Int) = Col.outTo m 5 := (Col.textI_nat h).trans (Col.textN_pos h0 h)
theorem bytes_nilC {r : ByteArray} (h : r.data.toList = []) : r = ⟨#[]⟩ := by
  cases r with | mk d => cases d with | mk l => simp at h; subst h; rfl
theorem bytes_someC {r : ByteArray} (h : r ≠ ⟨#[]⟩) : (!r.toList.isEmpty) = true := by
  have h1 := (Lib.bytes_beq_false_iff r ⟨#[]⟩).2 h
  have h2 : (⟨#[]⟩ : ByteArray).toList = [] := by unfold ByteArray.toList ByteArray.toList.loop; rfl
  rw [h2] at h1
  cases h3 : r.toList with
  | nil => rw [h3] at h1; simp at h1
  | cons a l => rfl
set_option maxHeartbeats 1000000 in
set_option maxRecDepth 100000 in
theorem refText9 (m : Int) (w : World) :
    Calls Tryz.prog 40 #[.int .i64 m] w fun e w' => e = .returned (str (Col.textI m)) ∧ w = w' := by
  rcases Col.valid_cases m with ⟨m, rfl, hk, hv⟩ | ⟨_, hv⟩
  · by_cases h0 : m = 0
    · subst h0
      clear hv
      go_enter Tryz.func40, Tryz.ntmps40
      go_wp2_with fail
      refine (refIs9 _ _).mono ?_
      rw [show Col.validB 0 = true by decide]
      rintro e w1 ⟨rfl, rfl⟩
      go_wp2_with fail
      go_ret
      exact ⟨by rw [show Col.textI ((0 : Nat) : Int) = [110, 111, 110, 101] by decide]; rfl, rfl⟩
    · have HV := Lib.hid hv
      have h0' : ((m : Int) == 0) = false := by simp; omega
      have HT := Lib.hid (refText_posC m hk (by omega))
      clear hv h0
      go_enter Tryz.func40, Tryz.ntmps40
      go_wp2_with fail
      refine (refIs9 _ _).mono ?_
      rw [HV.out]
      rintro e w1 ⟨rfl, rfl⟩
      go_wp2_with fail
      go_loop [3, 4] (fun o i => ∃ (k : Nat) (r : ByteArray), k ≤ 5 ∧ i = .int .i64 (k : Int) ∧ o = .string r ∧ r.data.toList = Col.outTo m k) (fun _ i => 5 - (intOf i).toNat)
      case atStart => exact ⟨0, ⟨#[]⟩, by omega, rfl, rfl, rfl⟩
      case round =>
        obtain ⟨k, r, hk5, rfl, rfl, hr⟩ := hrel
        have hlen := Col.outTo_len m k hk5
        have hsz : r.size ≤ 40 := by
          have : r.data.toList.length = r.size := by simp
          rw [hr] at this
          omega
        have HR := Lib.hid hr
        clear hlen
        by_cases hlt : k < 5
        · cases hbit : Num.bitB m k with
          | false =>
            have hz := pow_someC k hlt
            have ht := (quo_testC m k hk hlt).trans hbit
            have HB := Lib.hid (Col.outTo_no hbit)
            clear hbit hr
            go_wp2_with fail
            go_round
            case rel => exact ⟨k + 1, r, by omega, by go_num, rfl, by rw [HB.out]; exact HR.out⟩
            case measure => simp [intOf]; omega
          | true =>
            have hz := pow_someC k hlt
            have ht := (quo_testC m k hk hlt).trans hbit
            obtain ⟨sx, hsx, ex⟩ := exists_bytes (Col.nameI (k : Int))
            have HSX := Lib.hid (hsx.trans (Col.nameI_nat k))
            have hsl : sx.size ≤ 7 := by
              have h1 : sx.data.toList.length = sx.size := by simp
              rw [← h1, HSX.out]
              match k, hlt with
              | 0, _ => decide
              | 1, _ => decide
              | 2, _ => decide
              | 3, _ => decide
              | 4, _ => decide
            have HN : Hid (∀ w, Calls Tryz.prog 74 #[.int .i64 (k : Int)] w fun e w' => e = .returned (.string sx) ∧ w = w') := Lib.hid (fun w => by rw [← ex]; exact refName9 _ _)
            by_cases hem : Col.outTo m k = []
            · have HB := Lib.hid (Col.outTo_first hbit hlt hem)
              have hre := bytes_nilC (hr.trans hem)
              subst hre
              clear hbit hr hem hsx ex HR
              go_wp2_with fail
              refine (HN.out _).mono ?_
              rintro e w2 ⟨rfl, rfl⟩
              go_wp2_with fail
              go_round
              case rel => exact ⟨k + 1, _, by omega, by go_num, rfl, by rw [HB.out, ← HSX.out]; simp⟩
              case measure => simp [intOf]; omega
            · have HB := Lib.hid (Col.outTo_next hbit hem)
              have hne : (!r.toList.isEmpty) = true := bytes_someC (fun e => hem (by rw [← hr, e]))
              clear hbit hr hem hsx ex
              go_wp2_with fail
              refine (HN.out _).mono ?_
              rintro e w2 ⟨rfl, rfl⟩
              go_wp2_with fail
              go_round
              case rel => exact ⟨k + 1, _, by omega, by go_num, rfl, by rw [HB.out, ← HSX.out, ← HR.out]; simp⟩
              case measure => simp [intOf]; omega
        · obtain rfl : k = 5 := by omega
          have HF : Hid (Value.string r = str (Col.textI (m : Int))) := Lib.hid (by rw [HT.out, ← HR.out]; rfl)
          clear hr
          go_wp2_with fail
          go_ret
          exact ⟨congrArg _ HF.out, rfl⟩
  · have HV := Lib.hid hv
    have HT := Lib.hid (Col.textI_bad hv)
    clear hv
    go_enter Tryz.func40, Tryz.ntmps40
    go_wp2_with fail
    refine (refIs9 _ _).mono ?_
    rw [HV.out]
    rintro e w1 ⟨rfl, rfl⟩
    go_wp2_with fail
    go_ret
    exact ⟨by rw [HT.out]; rfl, rfl⟩
set_option maxHeartbeats 1000000 in
set_option maxRecDepth 100000 in
theorem refParse9 (s : ByteArray) (w : World) :
    Calls Tryz.prog 91 #[.string s] w fun e w' => e = .returned (.tuple #[.int .i64 (Col.parseI s.data.toList), .int .i64 (Col.parseE s.data.toList)]) ∧ w = w' := by
  go_enter Tryz.func91, Tryz.ntmps91
  go_wp2_with fail
  go_loop [4] (fun iv => ∃ j : Nat, j ≤ 32 ∧ iv = .int .i64 (j : Int) ∧ NoneToC s.data.toList j) (fun iv => 32 - (intOf iv).toNat)
  case atStart => exact ⟨0, by omega, rfl, fun j hj => absurd hj (by omega)⟩
  case round =>
    obtain ⟨j, hj, rfl, hno⟩ := hrel
    have HNO := Lib.hid hno
    clear hno
    by_cases hlt : j < 32
    · obtain ⟨sx, hsx, ex⟩ := exists_bytes (Col.textI (j : Int))
      have HSX := Lib.hid (hsx.trans (Col.textI_nat (m := j) (by omega)))
      have HC : Hid (∀ w, Calls Tryz.prog 40 #[.int .i64 (j : Int)] w fun e w' => e = .returned (.string sx) ∧ w = w') := Lib.hid (fun w => by rw [← ex]; exact refText9 _ _)
      clear hsx ex
      cases ht : (sx.toList == s.toList) with
      | true =>
        have HP := Lib.hid (Col.parse_hit_out (s := s.data.toList) hlt HNO.out (by rw [← HSX.out, (Lib.bytes_beq_iff _ _).1 ht]))
        go_wp2_with fail
        refine (HC.out _).mono ?_
        rintro e w2 ⟨rfl, rfl⟩
        go_wp2_with fail
        go_ret2
        exact ⟨by rw [HP.out.1, HP.out.2]; rfl, rfl⟩
      | false =>
        have HN := Lib.hid (HNO.out.next (k := j) (by rw [← HSX.out]; intro e; exact (Lib.bytes_beq_false_iff _ _).1 ht (bytes_same e)))
        go_wp2_with fail
        refine (HC.out _).mono ?_
        rintro e w2 ⟨rfl, rfl⟩
        go_wp2_with fail
        go_round
        case rel => exact ⟨j + 1, by omega, by go_num, HN.out⟩
        case measure => simp [intOf]; omega
    · obtain rfl : j = 32 := by omega
      have HP := Lib.hid (Col.parse_none_out HNO.out)
      go_wp2_with fail
      go_ret2
      exact ⟨by rw [HP.out.1, HP.out.2]; rfl, rfl⟩
end Go.Proofs.YthkkabdhmflhiaaGreatDoor
