/-
  CONTRACTS OF LAYER 9 (color): Parse, and the reference's Parse. By an AI agent.
-/
import Derived.Test.YtoedminkaimfcaaDoorColRefText
namespace Go.Proofs.YtoedminkaimfcaaDoor
open Go.RowKit

theorem bytes_same {a b : ByteArray} (h : a.data.toList = b.data.toList) : a = b := by
  cases a with | mk a => cases b with | mk b => cases a with | mk a => cases b with | mk b => simp at h; subst h; rfl
/-- no mask below k has the text s -/
def NoneTo (s : List UInt8) (k : Nat) : Prop := ∀ j, j < k → Col.textN j ≠ s
theorem NoneTo.next {s : List UInt8} {k : Nat} (h : NoneTo s k) (hk : Col.textN k ≠ s) : NoneTo s (k + 1) := by
  intro j hj
  by_cases e : j = k
  · subst e; exact hk
  · exact h j (by omega)
set_option maxHeartbeats 1000000 in
set_option maxRecDepth 100000 in
theorem colorParse (s : ByteArray) (w : World) (hE : Env w) :
    Calls Tryd.prog 17 #[.string s] w fun e w' => e = .returned (.tuple #[.int .i64 (Col.parseI s.data.toList), .int .i64 (Col.parseE s.data.toList)]) ∧ Below w.heap.size w w' := by
  have HE := Lib.hid hE
  clear hE
  go_enter Tryd.func17, Tryd.ntmps17
  go_wp2_with fail
  go_loopw [5] (fun iv wr => ∃ j : Nat, j ≤ 32 ∧ iv = .int .i64 (j : Int) ∧ NoneTo s.data.toList j ∧ Below w.heap.size w wr) (fun iv _ => 32 - (intOf iv).toNat)
  case atStart => exact ⟨0, by omega, rfl, fun j hj => absurd hj (by omega), Below.refl _ _⟩
  case round =>
    obtain ⟨j, hj, rfl, hno, hb⟩ := hrel
    have HB := Lib.hid hb
    have HNO := Lib.hid hno
    clear hb hno
    by_cases hlt : j < 32
    · obtain ⟨sx, hsx, ex⟩ := exists_bytes (Col.textI (j : Int))
      have HSX := Lib.hid (hsx.trans (Col.textI_nat (m := j) (by omega)))
      have HC : Hid (Calls Tryd.prog 15 #[.int .i64 (j : Int)] wr fun e w' => e = .returned (.string sx) ∧ Below wr.heap.size wr w') := Lib.hid (by rw [← ex]; exact colorText _ _ (HE.out.below HB.out))
      clear hsx ex
      cases ht : (sx.toList == s.toList) with
      | true =>
        have HP := Lib.hid (Col.parse_hit_out (s := s.data.toList) hlt HNO.out (by rw [← HSX.out, (Lib.bytes_beq_iff _ _).1 ht]))
        go_wp2_with fail
        refine HC.out.mono ?_
        rintro e w2 ⟨rfl, hb2⟩
        go_wp2_with fail
        go_ret2
        exact ⟨by rw [HP.out.1, HP.out.2]; rfl, HB.out.trans (hb2.mono HB.out.size)⟩
      | false =>
        have HN := Lib.hid (HNO.out.next (k := j) (by rw [← HSX.out]; intro e; exact (Lib.bytes_beq_false_iff _ _).1 ht (bytes_same e)))
        go_wp2_with fail
        refine HC.out.mono ?_
        rintro e w2 ⟨rfl, hb2⟩
        go_wp2_with fail
        go_roundw
        case rel => exact ⟨j + 1, by omega, by go_num, HN.out, HB.out.trans (hb2.mono HB.out.size)⟩
        case measure => simp [intOf]; omega
    · obtain rfl : j = 32 := by omega
      have HP := Lib.hid (Col.parse_none_out HNO.out)
      go_wp2_with fail
      go_ret2
      exact ⟨by rw [HP.out.1, HP.out.2]; rfl, HB.out⟩
set_option maxHeartbeats 1000000 in
set_option maxRecDepth 100000 in
theorem refParse9 (s : ByteArray) (w : World) :
    Calls Tryd.prog 18 #[.string s] w fun e w' => e = .returned (.tuple #[.int .i64 (Col.parseI s.data.toList), .int .i64 (Col.parseE s.data.toList)]) ∧ w = w' := by
  go_enter Tryd.func18, Tryd.ntmps18
  go_wp2_with fail
  go_loop [4] (fun iv => ∃ j : Nat, j ≤ 32 ∧ iv = .int .i64 (j : Int) ∧ NoneTo s.data.toList j) (fun iv => 32 - (intOf iv).toNat)
  case atStart => exact ⟨0, by omega, rfl, fun j hj => absurd hj (by omega)⟩
  case round =>
    obtain ⟨j, hj, rfl, hno⟩ := hrel
    have HNO := Lib.hid hno
    clear hno
    by_cases hlt : j < 32
    · obtain ⟨sx, hsx, ex⟩ := exists_bytes (Col.textI (j : Int))
      have HSX := Lib.hid (hsx.trans (Col.textI_nat (m := j) (by omega)))
      have HC : Hid (∀ w, Calls Tryd.prog 16 #[.int .i64 (j : Int)] w fun e w' => e = .returned (.string sx) ∧ w = w') := Lib.hid (fun w => by rw [← ex]; exact refText9 _ _)
      clear hsx ex
      cases ht : (sx.toList == s.toList) with
      | true =>
        have HP := Lib.hid (Col.parse_hit_out (s := s.data.toList) hlt HNO.out (by rw [← HSX.out, (Lib.bytes_beq_iff _ _).1 ht]))
        go_wp2_with fail
        refine (HC.out _).mono ?_
        rintro e w2 ⟨rfl, rfl⟩
        go_wp2_with fail
        go_ret2
        exact ⟨by rw [HP.out.1, HP.out.2]; rfl, rfl⟩
      | false =>
        have HN := Lib.hid (HNO.out.next (k := j) (by rw [← HSX.out]; intro e; exact (Lib.bytes_beq_false_iff _ _).1 ht (bytes_same e)))
        go_wp2_with fail
        refine (HC.out _).mono ?_
        rintro e w2 ⟨rfl, rfl⟩
        go_wp2_with fail
        go_round
        case rel => exact ⟨j + 1, by omega, by go_num, HN.out⟩
        case measure => simp [intOf]; omega
    · obtain rfl : j = 32 := by omega
      have HP := Lib.hid (Col.parse_none_out HNO.out)
      go_wp2_with fail
      go_ret2
      exact ⟨by rw [HP.out.1, HP.out.2]; rfl, rfl⟩
end Go.Proofs.YtoedminkaimfcaaDoor
