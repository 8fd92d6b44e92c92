/-
  CONTRACT OF LAYER 2 (word): Cut, at strings of whatever length. By an AI agent.
-/
import Derived.Test.YtbichcmpggbfnaaDoorLineWordB
namespace Go.Proofs.YtbichcmpggbfnaaDoor
open Go.RowKit
open Wd (Bs)

set_option maxRecDepth 100000 in
theorem wordDepthFar (d : Nat) (c : UInt8) (w : World) (hd : d ≤ 140737488355328) :
    Calls Tryd.prog 60 #[.int .i64 d, .int .u8 c.toNat] w fun e w' => e = .returned (.int .i64 (Wd.stepD d c)) ∧ w = w' := by
  have hd' : (d : Int) ≤ 140737488355328 := by omega
  by_cases k1 : c = 40 ∨ c = 91
  · have hs := Lib.hid (stepD_open (d := d) k1)
    rcases k1 with k1 | k1
    all_goals
      subst k1
      go_enter Tryd.func60, Tryd.ntmps60
      go_wp2
      go_ret
      exact ⟨ret_int (by rw [hs.out]; omega), rfl⟩
  by_cases k2 : c = 41 ∨ c = 93
  · have hs := Lib.hid (stepD_close (d := d) k2)
    rcases k2 with k2 | k2
    all_goals
      subst k2
      go_enter Tryd.func60, Tryd.ntmps60
      go_wp2
      all_goals
        go_ret
        exact ⟨ret_int (by rw [hs.out]; omega), rfl⟩
  have h1 : (c.toNat : Int) ≠ 40 := u8_ne (k := 40) (by omega) fun e => k1 (.inl e)
  have h2 : (c.toNat : Int) ≠ 41 := u8_ne (k := 41) (by omega) fun e => k2 (.inl e)
  have h3 : (c.toNat : Int) ≠ 91 := u8_ne (k := 91) (by omega) fun e => k1 (.inr e)
  have h4 : (c.toNat : Int) ≠ 93 := u8_ne (k := 93) (by omega) fun e => k2 (.inr e)
  have hs := Lib.hid (stepD_else (d := d) h1 h2 h3 h4)
  have e1 : ((c.toNat : Int) == 40) = false := by simpa using h1
  have e2 : ((c.toNat : Int) == 41) = false := by simpa using h2
  have e3 : ((c.toNat : Int) == 91) = false := by simpa using h3
  have e4 : ((c.toNat : Int) == 93) = false := by simpa using h4
  clear k1 k2
  go_enter Tryd.func60, Tryd.ntmps60
  go_wp2
  go_ret
  exact ⟨ret_int (by rw [hs.out]), rfl⟩
set_option maxHeartbeats 800000 in
set_option maxRecDepth 100000 in
theorem wordCutFar (s c : ByteArray) (w : World) (hs : s.size ≤ 140737488355328) (hc : c.size ≤ 1000000000) :
    Calls Tryd.prog 52 #[.string s, .string c] w (CutRes s.data.toList c.data.toList w) := by
  by_cases h0 : c.data.toList = []
  · have e1 : (c.toList == []) = true := by rw [Lib.toList_data, h0]; rfl
    have hcut : Wd.cut s.data.toList c.data.toList = (s.data.toList, [], false) := by rw [h0]; rfl
    have HC := Lib.hid hcut
    clear h0 hcut
    go_enter Tryd.func52, Tryd.ntmps52
    go_wp2_with fail
    exact bodyPost_ret (v := .tuple #[.string s, .string ⟨#[]⟩, .bool false]) (by simp [results, Tryd.results52, go_sem]) rfl (CutRes.of HC.out rfl rfl rfl (Below.refl _ _))
  · have e1 : (c.toList == []) = false := by rw [Lib.toList_data]; simpa using h0
    have H0 := Lib.hid h0
    have hlen : s.data.toList.length = s.size := by simp
    have HLEN := Lib.hid hlen
    clear h0 hlen
    go_enter Tryd.func52, Tryd.ntmps52
    go_wp2_with fail
    go_loop [7, 14] (fun d i => ∃ k : Nat, k ≤ s.size ∧ i = .int .i64 (k : Int) ∧ d = .int .i64 (Wd.depAt s.data.toList k : Int) ∧ NoCut s.data.toList c.data.toList k) (fun _ i => s.size - (intOf i).toNat)
    case atStart => exact ⟨0, Nat.zero_le _, rfl, rfl, fun j hj => by omega⟩
    case round =>
      obtain ⟨k, hk, rfl, rfl, hno⟩ := hrel
      have hdle := Wd.depAt_le s.data.toList k
      generalize hD : Wd.depAt s.data.toList k = D at *
      have hcp := cutP_call s c k
      rw [hD] at hcp
      by_cases hlt : k < s.size
      · have hdb := depAt_byte s k hlt
        rw [hD] at hdb
        have HD := Lib.hid hdb
        clear hdb hD
        cases hz : (D == 0) with
        | false =>
          have t1 : ((D : Int) == 0) = false := by have : D ≠ 0 := by simpa using hz
                                                   simpa using this
          rw [hz, Bool.false_and] at hcp
          have HN := Lib.hid (hno.next hcp)
          clear hcp hz
          go_wp2_with fail
          refine (wordDepthFar D s[k] _ (by omega)).mono ?_
          rintro e w2 ⟨rfl, rfl⟩
          go_wp2_with fail
          go_round
          case rel => exact ⟨k + 1, by omega, by go_num, by rw [HD.out], HN.out⟩
          case measure => simp [intOf]; omega
        | true =>
          have t1 : ((D : Int) == 0) = true := by have : D = 0 := by simpa using hz
                                                  simp [this]
          rw [hz, Bool.true_and] at hcp
          cases hp : Lib.hasPrefix (s.extract k s.size).data.toList c.data.toList with
          | false =>
            rw [hp] at hcp
            have HN := Lib.hid (hno.next hcp)
            have HP := Lib.hid hp
            clear hcp hz hp
            go_wp2_with fail
            refine (Tryd.strings_HasPrefix _ _ _).mono ?_
            rw [HP.out]
            rintro e w2 ⟨rfl, rfl⟩
            go_wp2_with fail
            refine (wordDepthFar D s[k] _ (by omega)).mono ?_
            rintro e w3 ⟨rfl, rfl⟩
            go_wp2_with fail
            go_round
            case rel => exact ⟨k + 1, by omega, by go_num, by rw [HD.out], HN.out⟩
            case measure => simp [intOf]; omega
          | true =>
            rw [hp] at hcp
            have hle := Wd.cutP_len hcp
            have hcl : c.data.toList.length = c.size := by simp
            rw [hcl, HLEN.out] at hle
            have hsum : k + c.size ≤ s.size := by omega
            have hcut := Wd.cut_some H0.out (by rw [HLEN.out]; exact hlt) hcp hno
            rw [hcl] at hcut
            have HC := Lib.hid hcut
            have HP := Lib.hid hp
            clear hcp hz hp hle hcl hcut
            go_wp2_with fail
            refine (Tryd.strings_HasPrefix _ _ _).mono ?_
            rw [HP.out]
            rintro e w2 ⟨rfl, rfl⟩
            go_wp2_with fail
            have s1 : IntKind.i64.wrap ((k : Int) + (c.size : Int)) = (k : Int) + (c.size : Int) := IntWalk.i64_in _ (by omega)
            have s2 : (0 : Int) ≤ (k : Int) + (c.size : Int) := by omega
            have s3 : ((k : Int) + (c.size : Int)).toNat = k + c.size := by omega
            go_quiet (fail)
            go_wp2_with fail
            exact bodyPost_ret (v := .tuple #[.string (s.extract 0 k), .string (s.extract (k + c.size) s.size), .bool true]) (by simp [results, Tryd.results52, go_sem]) rfl
              (CutRes.of HC.out (extract_take _ _) (extract_drop _ _) rfl (below_drewN (Below.refl _ _) _))
      · obtain rfl : k = s.size := by omega
        have HC := Lib.hid (Wd.cut_none H0.out (fun j hj => hno j (by rw [HLEN.out] at hj; exact hj)))
        clear hcp
        go_wp2_with fail
        exact bodyPost_ret (v := .tuple #[.string s, .string ⟨#[]⟩, .bool false]) (by simp [results, Tryd.results52, go_sem]) rfl (CutRes.of HC.out rfl rfl rfl (Below.refl _ _))
end Go.Proofs.YtbichcmpggbfnaaDoor
