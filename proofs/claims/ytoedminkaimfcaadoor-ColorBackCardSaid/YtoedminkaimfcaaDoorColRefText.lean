/-
  CONTRACT OF LAYER 9's REFERENCE: Text. By an AI agent.
-/
import Derived.Test.YtoedminkaimfcaaDoorColText
import Derived.Lib.SlicesS
namespace Go.Proofs.YtoedminkaimfcaaDoor
open Go.RowKit

theorem refText_pos (m : Nat) (h : m ≤ 31) (h0 : 0 < m) : Col.textI (m : Int) = Col.outTo m 5 := (Col.textI_nat h).trans (Col.textN_pos h0 h)
theorem bytes_nil {r : ByteArray} (h : r.data.toList = []) : r = ⟨#[]⟩ := by
  cases r with | mk d => cases d with | mk l => simp at h; subst h; rfl
theorem bytes_some {r : ByteArray} (h : r ≠ ⟨#[]⟩) : (!r.toList.isEmpty) = true := by
  have h1 := (Lib.bytes_beq_false_iff r ⟨#[]⟩).2 h
  have h2 : (⟨#[]⟩ : ByteArray).toList = [] := by unfold ByteArray.toList ByteArray.toList.loop; rfl
  rw [h2] at h1
  cases h3 : r.toList with
  | nil => rw [h3] at h1; simp at h1
  | cons a l => rfl
set_option maxHeartbeats 1000000 in
set_option maxRecDepth 100000 in
theorem refText9 (m : Int) (w : World) :
    Calls Tryd.prog 16 #[.int .i64 m] w fun e w' => e = .returned (str (Col.textI m)) ∧ w = w' := by
  rcases Col.valid_cases m with ⟨m, rfl, hk, hv⟩ | ⟨_, hv⟩
  · by_cases h0 : m = 0
    · subst h0
      clear hv
      go_enter Tryd.func16, Tryd.ntmps16
      go_wp2_with fail
      refine (refIs9 _ _).mono ?_
      rw [show Col.validB 0 = true by decide]
      rintro e w1 ⟨rfl, rfl⟩
      go_wp2_with fail
      go_ret
      exact ⟨by rw [show Col.textI ((0 : Nat) : Int) = [110, 111, 110, 101] by decide]; rfl, rfl⟩
    · have HV := Lib.hid hv
      have h0' : ((m : Int) == 0) = false := by simp; omega
      have HT := Lib.hid (refText_pos m hk (by omega))
      clear hv h0
      go_enter Tryd.func16, Tryd.ntmps16
      go_wp2_with fail
      refine (refIs9 _ _).mono ?_
      rw [HV.out]
      rintro e w1 ⟨rfl, rfl⟩
      go_wp2_with fail
      go_loop [3, 4] (fun o i => ∃ (k : Nat) (r : ByteArray), k ≤ 5 ∧ i = .int .i64 (k : Int) ∧ o = .string r ∧ r.data.toList = Col.outTo m k) (fun _ i => 5 - (intOf i).toNat)
      case atStart => exact ⟨0, ⟨#[]⟩, by omega, rfl, rfl, rfl⟩
      case round =>
        obtain ⟨k, r, hk5, rfl, rfl, hr⟩ := hrel
        have hlen := Col.outTo_len m k hk5
        have hsz : r.size ≤ 40 := by
          have : r.data.toList.length = r.size := by simp
          rw [hr] at this
          omega
        have HR := Lib.hid hr
        clear hlen
        by_cases hlt : k < 5
        · cases hbit : Num.bitB m k with
          | false =>
            have hz := pow_some k hlt
            have ht := (quo_test m k hk hlt).trans hbit
            have HB := Lib.hid (Col.outTo_no hbit)
            clear hbit hr
            go_wp2_with fail
            go_round
            case rel => exact ⟨k + 1, r, by omega, by go_num, rfl, by rw [HB.out]; exact HR.out⟩
            case measure => simp [intOf]; omega
          | true =>
            have hz := pow_some k hlt
            have ht := (quo_test m k hk hlt).trans hbit
            obtain ⟨sx, hsx, ex⟩ := exists_bytes (Col.nameI (k : Int))
            have HSX := Lib.hid (hsx.trans (Col.nameI_nat k))
            have hsl : sx.size ≤ 7 := by
              have h1 : sx.data.toList.length = sx.size := by simp
              rw [← h1, HSX.out]
              match k, hlt with
              | 0, _ => decide
              | 1, _ => decide
              | 2, _ => decide
              | 3, _ => decide
              | 4, _ => decide
            have HN : Hid (∀ w, Calls Tryd.prog 11 #[.int .i64 (k : Int)] w fun e w' => e = .returned (.string sx) ∧ w = w') := Lib.hid (fun w => by rw [← ex]; exact refName9 _ _)
            by_cases hem : Col.outTo m k = []
            · have HB := Lib.hid (Col.outTo_first hbit hlt hem)
              have hre := bytes_nil (hr.trans hem)
              subst hre
              clear hbit hr hem hsx ex HR
              go_wp2_with fail
              refine (HN.out _).mono ?_
              rintro e w2 ⟨rfl, rfl⟩
              go_wp2_with fail
              go_round
              case rel => exact ⟨k + 1, _, by omega, by go_num, rfl, by rw [HB.out, ← HSX.out]; simp⟩
              case measure => simp [intOf]; omega
            · have HB := Lib.hid (Col.outTo_next hbit hem)
              have hne : (!r.toList.isEmpty) = true := bytes_some (fun e => hem (by rw [← hr, e]))
              clear hbit hr hem hsx ex
              go_wp2_with fail
              refine (HN.out _).mono ?_
              rintro e w2 ⟨rfl, rfl⟩
              go_wp2_with fail
              go_round
              case rel => exact ⟨k + 1, _, by omega, by go_num, rfl, by rw [HB.out, ← HSX.out, ← HR.out]; simp⟩
              case measure => simp [intOf]; omega
        · obtain rfl : k = 5 := by omega
          have HF : Hid (Value.string r = str (Col.textI (m : Int))) := Lib.hid (by rw [HT.out, ← HR.out]; rfl)
          clear hr
          go_wp2_with fail
          go_ret
          exact ⟨congrArg _ HF.out, rfl⟩
  · have HV := Lib.hid hv
    have HT := Lib.hid (Col.textI_bad hv)
    clear hv
    go_enter Tryd.func16, Tryd.ntmps16
    go_wp2_with fail
    refine (refIs9 _ _).mono ?_
    rw [HV.out]
    rintro e w1 ⟨rfl, rfl⟩
    go_wp2_with fail
    go_ret
    exact ⟨by rw [HT.out]; rfl, rfl⟩
end Go.Proofs.YtoedminkaimfcaaDoor
