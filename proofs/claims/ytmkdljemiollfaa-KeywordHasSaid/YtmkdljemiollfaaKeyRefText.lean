/-
  CONTRACT OF LAYER 11's REFERENCE: Text. By an AI agent.
-/
import Derived.Test.YtmkdljemiollfaaKeyText
import Derived.Lib.SlicesS
namespace Go.Proofs.Ytmkdljemiollfaa
open Go.RowKit

theorem refText_pos (m : Nat) (h : m ≤ 131071) (h0 : 0 < m) : Kw.textI (m : Int) = Kw.outTo m 17 := (Kw.textI_nat h).trans (Kw.textN_pos h0 h)
theorem bytes_nil {r : ByteArray} (h : r.data.toList = []) : r = ⟨#[]⟩ := by
  cases r with | mk d => cases d with | mk l => simp at h; subst h; rfl
theorem bytes_some {r : ByteArray} (h : r ≠ ⟨#[]⟩) : (!r.toList.isEmpty) = true := by
  have h1 := (Lib.bytes_beq_false_iff r ⟨#[]⟩).2 h
  have h2 : (⟨#[]⟩ : ByteArray).toList = [] := by unfold ByteArray.toList ByteArray.toList.loop; rfl
  rw [h2] at h1
  cases h3 : r.toList with
  | nil => rw [h3] at h1; simp at h1
  | cons a l => rfl
theorem bytes_none {r : ByteArray} (h : r ≠ ⟨#[]⟩) : (r.toList == []) = false := by
  have := bytes_some h
  cases h3 : r.toList with
  | nil => rw [h3] at this; simp at this
  | cons a l => rfl
set_option maxHeartbeats 1000000 in
set_option maxRecDepth 100000 in
theorem refText11 (m : Int) (w : World) :
    Calls Try.prog 13 #[.int .i64 m] w fun e w' => e = .returned (str (Kw.textI m)) ∧ Below w.heap.size w w' := by
  rcases Kw.valid_cases m with ⟨m, rfl, hk, hv⟩ | ⟨_, hv⟩
  · have HV := Lib.hid hv
    have HT : Hid ((m = 0 ∧ Kw.textI (m : Int) = [110, 111, 110, 101] ∧ Kw.outTo m 17 = []) ∨ (Kw.textI (m : Int) = Kw.outTo m 17 ∧ Kw.outTo m 17 ≠ [])) := Lib.hid (by
      by_cases h0 : m = 0
      · subst h0; exact .inl ⟨rfl, by decide, by decide⟩
      · exact .inr ⟨refText_pos m hk (by omega), by rw [← Kw.textN_pos (by omega) hk]; exact Kw.textN_ne hk⟩)
    have hm : (m : Int) ≤ 9223372036854775807 := by omega
    clear hv hk
    go_enter Try.func13, Try.ntmps13
    go_wp2_with fail
    refine (refIs11 _ _).mono ?_
    rw [HV.out]
    rintro e w1 ⟨rfl, rfl⟩
    go_wp2_with fail
    go_loopw [0, 3, 4] (fun q o i wr => ∃ (k j : Nat) (r : ByteArray), k ≤ 17 ∧ i = .int .i64 (k : Int) ∧ q = .int .i64 (j : Int) ∧ (j : Int) ≤ 9223372036854775807 ∧ Num.HalfRel m k j ∧ o = .string r ∧ r.data.toList = Kw.outTo m k ∧ Below w.heap.size w wr) (fun _ _ i _ => 17 - (intOf i).toNat)
    case atStart => exact ⟨0, m, ⟨#[]⟩, by omega, rfl, rfl, hm, Num.halfRel_start m, rfl, rfl, Below.refl _ _⟩
    case round =>
      obtain ⟨k, j, r, hk5, rfl, rfl, hj, hrel, rfl, hr, hb⟩ := hrel
      have hlen := Kw.outTo_len m k hk5
      have hsz : r.size ≤ 238 := by
        have : r.data.toList.length = r.size := by simp
        rw [hr] at this
        omega
      have HR := Lib.hid hr
      have HB := Lib.hid hb
      have HH := Lib.hid (Num.halfRel_step hrel)
      have hj2 : ((j / 2 : Nat) : Int) ≤ 9223372036854775807 := by omega
      clear hlen hb
      by_cases hlt : k < 17
      · cases hbit : Num.bitB m k with
        | false =>
          have ht : ((j : Int) % 2 == 1) = false := by rw [Num.half_test, Num.halfRel_bit hrel, hbit]
          have HO := Lib.hid (Kw.outTo_no hbit)
          clear hbit hr hrel
          go_wp2_with fail
          go_roundw
          case rel => exact ⟨k + 1, j / 2, r, by omega, by go_num, by go_num, hj2, HH.out, rfl, by rw [HO.out]; exact HR.out, HB.out⟩
          case measure => simp [intOf]; omega
        | true =>
          have ht : ((j : Int) % 2 == 1) = true := by rw [Num.half_test, Num.halfRel_bit hrel, hbit]
          obtain ⟨sx, hsx, ex⟩ := exists_bytes (Kw.nameI (k : Int))
          have HSX := Lib.hid (hsx.trans (Kw.nameI_nat k))
          have hsl : sx.size ≤ 13 := by
            have h1 : sx.data.toList.length = sx.size := by simp
            rw [← h1, HSX.out]
            exact (Kw.name_len k hlt).2
          have HN : Hid (Calls Try.prog 11 #[.int .i64 (k : Int)] wr fun e w' => e = .returned (.string sx) ∧ Below wr.heap.size wr w') := Lib.hid (by rw [← ex]; exact refName11 _ _)
          by_cases hem : Kw.outTo m k = []
          · have HO := Lib.hid (Kw.outTo_first hbit hlt hem)
            have hre := bytes_nil (hr.trans hem)
            subst hre
            clear hbit hr hem hsx ex HR hrel
            go_wp2_with fail
            refine HN.out.mono ?_
            rintro e w2 ⟨rfl, hb2⟩
            have HB2 := Lib.hid (HB.out.trans (hb2.mono HB.out.size))
            clear hb2
            go_wp2_with fail
            go_roundw
            case rel => exact ⟨k + 1, j / 2, _, by omega, by go_num, by go_num, hj2, HH.out, rfl, by rw [HO.out, ← HSX.out]; simp, HB2.out⟩
            case measure => simp [intOf]; omega
          · have HO := Lib.hid (Kw.outTo_next hbit hem)
            have hne : (!r.toList.isEmpty) = true := bytes_some (fun e => hem (by rw [← hr, e]))
            clear hbit hr hem hsx ex hrel
            go_wp2_with fail
            refine HN.out.mono ?_
            rintro e w2 ⟨rfl, hb2⟩
            have HB2 := Lib.hid (HB.out.trans (hb2.mono HB.out.size))
            clear hb2
            go_wp2_with fail
            go_roundw
            case rel => exact ⟨k + 1, j / 2, _, by omega, by go_num, by go_num, hj2, HH.out, rfl, by rw [HO.out, ← HSX.out, ← HR.out]; simp, HB2.out⟩
            case measure => simp [intOf]; omega
      · obtain rfl : k = 17 := by omega
        rcases HT.out with ⟨-, h1, h2⟩ | ⟨h1, h2⟩
        · have hre := bytes_nil (hr.trans h2)
          have HF := Lib.hid h1
          subst hre
          clear hr HR h1 h2 HT hrel
          go_wp2_with fail
          go_ret
          exact ⟨by rw [HF.out]; rfl, HB.out⟩
        · have HF : Hid (Value.string r = str (Kw.textI (m : Int))) := Lib.hid (by rw [h1, ← HR.out]; rfl)
          have hne : (r.toList == []) = false := bytes_none (fun e => h2 (by rw [← hr, e]))
          have hne2 : r.toList.isEmpty = false := by
            cases h3 : r.toList with
            | nil => rw [h3] at hne; simp at hne
            | cons a l => rfl
          clear hr h1 h2 HT hrel
          go_wp2_with fail
          go_ret
          exact ⟨congrArg _ HF.out, HB.out⟩
  · have HV := Lib.hid hv
    have HT := Lib.hid (Kw.textI_bad hv)
    clear hv
    go_enter Try.func13, Try.ntmps13
    go_wp2_with fail
    refine (refIs11 _ _).mono ?_
    rw [HV.out]
    rintro e w1 ⟨rfl, rfl⟩
    go_wp2_with fail
    go_ret
    exact ⟨by rw [HT.out]; rfl, Below.refl _ _⟩
end Go.Proofs.Ytmkdljemiollfaa
