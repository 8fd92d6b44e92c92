/-
  CONTRACTS OF LAYER 2 (word) AND OF ITS REFERENCE: Cut. By an AI agent.
-/
import Derived.Test.YtioedokokmjldaaWordWalksC
import Derived.Test.YtioedokokmjldaaShelf
import Derived.IntWalk
namespace Go.Proofs.Ytioedokokmjldaa
open Go.RowKit
open Wd (Bs)

/-- what Cut answers -/
def cutV (x : Bs × Bs × Bool) : Value := .tuple #[str x.1, str x.2.1, .bool x.2.2]
def CutRes (l c : Bs) (w : World) (e : Ending) (w' : World) : Prop := e = .returned (cutV (Wd.cut l c)) ∧ Below w.heap.size w w'
theorem CutRes.of {l c : Bs} {x : Bs × Bs × Bool} {a b : ByteArray} {ok : Bool} {w w' : World} (h : Wd.cut l c = x) (h1 : a.data.toList = x.1) (h2 : b.data.toList = x.2.1) (h3 : ok = x.2.2) (hb : Below w.heap.size w w') :
    CutRes l c w (.returned (.tuple #[.string a, .string b, .bool ok])) w' := by
  refine ⟨?_, hb⟩
  rw [h, cutV, ← h1, ← h2, ← h3]
  rfl
def NoCut (l c : Bs) (k : Nat) : Prop := ∀ j, j < k → Wd.cutP l c j = false
theorem NoCut.next {l c : Bs} {k : Nat} (h : NoCut l c k) (hk : Wd.cutP l c k = false) : NoCut l c (k + 1) := by
  intro j hj
  by_cases e : j = k
  · subst e; exact hk
  · exact h j (by omega)
theorem extract_drop (s : ByteArray) (k : Nat) : (s.extract k s.size).data.toList = s.data.toList.drop k := by
  rw [extract_slice, Wd.slice, List.take_of_length_le (by simp)]
theorem extract_take (s : ByteArray) (k : Nat) : (s.extract 0 k).data.toList = s.data.toList.take k := by
  rw [extract_slice, Wd.slice, List.drop_zero]
theorem cutP_call (s c : ByteArray) (k : Nat) : Wd.cutP s.data.toList c.data.toList k = (Wd.depAt s.data.toList k == 0 && Lib.hasPrefix (s.extract k s.size).data.toList c.data.toList) := by
  rw [extract_drop]; rfl
set_option maxHeartbeats 800000 in
set_option maxRecDepth 100000 in
theorem wordCut (s c : ByteArray) (w : World) (hs : s.size ≤ 1000000000) (hc : c.size ≤ 1000000000) :
    Calls Try.prog 16 #[.string s, .string c] w (CutRes s.data.toList c.data.toList w) := by
  by_cases h0 : c.data.toList = []
  · have e1 : (c.toList == []) = true := by rw [Lib.toList_data, h0]; rfl
    have hcut : Wd.cut s.data.toList c.data.toList = (s.data.toList, [], false) := by rw [h0]; rfl
    have HC := Lib.hid hcut
    clear h0 hcut
    go_enter Try.func16, Try.ntmps16
    go_wp2_with fail
    exact bodyPost_ret (v := .tuple #[.string s, .string ⟨#[]⟩, .bool false]) (by simp [results, Try.results16, go_sem]) rfl (CutRes.of HC.out rfl rfl rfl (Below.refl _ _))
  · have e1 : (c.toList == []) = false := by rw [Lib.toList_data]; simpa using h0
    have H0 := Lib.hid h0
    have hlen : s.data.toList.length = s.size := by simp
    have HLEN := Lib.hid hlen
    clear h0 hlen
    go_enter Try.func16, Try.ntmps16
    go_wp2_with fail
    go_loop [7, 14] (fun d i => ∃ k : Nat, k ≤ s.size ∧ i = .int .i64 (k : Int) ∧ d = .int .i64 (Wd.depAt s.data.toList k : Int) ∧ NoCut s.data.toList c.data.toList k) (fun _ i => s.size - (intOf i).toNat)
    case atStart => exact ⟨0, Nat.zero_le _, rfl, rfl, fun j hj => by omega⟩
    case round =>
      obtain ⟨k, hk, rfl, rfl, hno⟩ := hrel
      have hdle := Wd.depAt_le s.data.toList k
      generalize hD : Wd.depAt s.data.toList k = D at *
      have hcp := cutP_call s c k
      rw [hD] at hcp
      by_cases hlt : k < s.size
      · have hdb := depAt_byte s k hlt
        rw [hD] at hdb
        have HD := Lib.hid hdb
        clear hdb hD
        cases hz : (D == 0) with
        | false =>
          have t1 : ((D : Int) == 0) = false := by have : D ≠ 0 := by simpa using hz
                                                   simpa using this
          rw [hz, Bool.false_and] at hcp
          have HN := Lib.hid (hno.next hcp)
          clear hcp hz
          go_wp2_with fail
          refine (wordDepthAfter D s[k] _ (by omega)).mono ?_
          rintro e w2 ⟨rfl, rfl⟩
          go_wp2_with fail
          go_round
          case rel => exact ⟨k + 1, by omega, by go_num, by rw [HD.out], HN.out⟩
          case measure => simp [intOf]; omega
        | true =>
          have t1 : ((D : Int) == 0) = true := by have : D = 0 := by simpa using hz
                                                  simp [this]
          rw [hz, Bool.true_and] at hcp
          cases hp : Lib.hasPrefix (s.extract k s.size).data.toList c.data.toList with
          | false =>
            rw [hp] at hcp
            have HN := Lib.hid (hno.next hcp)
            have HP := Lib.hid hp
            clear hcp hz hp
            go_wp2_with fail
            refine (Try.strings_HasPrefix _ _ _).mono ?_
            rw [HP.out]
            rintro e w2 ⟨rfl, rfl⟩
            go_wp2_with fail
            refine (wordDepthAfter D s[k] _ (by omega)).mono ?_
            rintro e w3 ⟨rfl, rfl⟩
            go_wp2_with fail
            go_round
            case rel => exact ⟨k + 1, by omega, by go_num, by rw [HD.out], HN.out⟩
            case measure => simp [intOf]; omega
          | true =>
            rw [hp] at hcp
            have hle := Wd.cutP_len hcp
            have hcl : c.data.toList.length = c.size := by simp
            rw [hcl, HLEN.out] at hle
            have hsum : k + c.size ≤ s.size := by omega
            have hcut := Wd.cut_some H0.out (by rw [HLEN.out]; exact hlt) hcp hno
            rw [hcl] at hcut
            have HC := Lib.hid hcut
            have HP := Lib.hid hp
            clear hcp hz hp hle hcl hcut
            go_wp2_with fail
            refine (Try.strings_HasPrefix _ _ _).mono ?_
            rw [HP.out]
            rintro e w2 ⟨rfl, rfl⟩
            go_wp2_with fail
            have s1 : IntKind.i64.wrap ((k : Int) + (c.size : Int)) = (k : Int) + (c.size : Int) := IntWalk.i64_in _ (by omega)
            have s2 : (0 : Int) ≤ (k : Int) + (c.size : Int) := by omega
            have s3 : ((k : Int) + (c.size : Int)).toNat = k + c.size := by omega
            go_quiet (fail)
            go_wp2_with fail
            exact bodyPost_ret (v := .tuple #[.string (s.extract 0 k), .string (s.extract (k + c.size) s.size), .bool true]) (by simp [results, Try.results16, go_sem]) rfl
              (CutRes.of HC.out (extract_take _ _) (extract_drop _ _) rfl (below_drewN (Below.refl _ _) _))
      · obtain rfl : k = s.size := by omega
        have HC := Lib.hid (Wd.cut_none H0.out (fun j hj => hno j (by rw [HLEN.out] at hj; exact hj)))
        clear hcp
        go_wp2_with fail
        exact bodyPost_ret (v := .tuple #[.string s, .string ⟨#[]⟩, .bool false]) (by simp [results, Try.results16, go_sem]) rfl (CutRes.of HC.out rfl rfl rfl (Below.refl _ _))
theorem cutP_cmp (s c : ByteArray) (k : Nat) : Wd.cutP s.data.toList c.data.toList k = (Wd.depAt s.data.toList k == 0 && (s.extract k (k + c.size)).toList == c.toList) := by
  have hcl : c.data.toList.length = c.size := by simp
  rw [Wd.cutP, Wd.prefix_slice, Lib.toList_data, Lib.toList_data, extract_slice, hcl]
set_option maxHeartbeats 800000 in
set_option maxRecDepth 100000 in
theorem refCut (s c : ByteArray) (w : World) (hs : s.size ≤ 1000000000) (hc : c.size ≤ 1000000000) :
    Calls Try.prog 17 #[.string s, .string c] w (CutRes s.data.toList c.data.toList w) := by
  by_cases h0 : c.data.toList = []
  · have e1 : (c.toList == []) = true := by rw [Lib.toList_data, h0]; rfl
    have hcut : Wd.cut s.data.toList c.data.toList = (s.data.toList, [], false) := by rw [h0]; rfl
    have HC := Lib.hid hcut
    clear h0 hcut
    go_enter Try.func17, Try.ntmps17
    go_wp2_with fail
    go_ret3
    exact CutRes.of HC.out rfl rfl rfl (Below.refl _ _)
  · have e1 : (c.toList == []) = false := by rw [Lib.toList_data]; simpa using h0
    have H0 := Lib.hid h0
    have hlen : s.data.toList.length = s.size := by simp
    have hclen : c.data.toList.length = c.size := by simp
    have HLEN := Lib.hid hlen
    have HCL := Lib.hid hclen
    clear h0 hlen hclen
    go_enter Try.func17, Try.ntmps17
    go_wp2_with fail
    go_loop [7] (fun i => ∃ k : Nat, k ≤ s.size + 1 ∧ i = .int .i64 (k : Int) ∧ NoCut s.data.toList c.data.toList k) (fun i => s.size + 1 - (intOf i).toNat)
    case atStart => exact ⟨0, Nat.zero_le _, rfl, fun j hj => by omega⟩
    case round =>
      obtain ⟨k, hk, rfl, hno⟩ := hrel
      by_cases hlt : k + c.size ≤ s.size
      · have hcp := cutP_cmp s c k
        have hpos : 0 < c.size := by have := List.length_pos_iff.2 H0.out; rw [HCL.out] at this; exact this
        have hle : (k : Int) + (c.size : Int) ≤ (s.size : Int) := by omega
        cases hp : ((s.extract k (k + c.size)).toList == c.toList) with
        | false =>
          rw [hp, Bool.and_false] at hcp
          have HN := Lib.hid (hno.next hcp)
          clear hcp
          go_wp2_with fail
          go_round
          case rel => exact ⟨k + 1, by omega, by go_num, HN.out⟩
          case measure => simp [intOf]; omega
        | true =>
          rw [hp, Bool.and_true] at hcp
          cases hz : (Wd.depAt s.data.toList k == 0) with
          | false =>
            rw [hz] at hcp
            have HN := Lib.hid (hno.next hcp)
            have t1 : ((Wd.depAt s.data.toList k : Int) == 0) = false := by simpa using hz
            clear hcp hz
            go_wp2_with fail
            refine (refDepth s k _ (by omega) (by omega)).mono ?_
            rintro e w2 ⟨rfl, rfl⟩
            go_wp2_with fail
            go_round
            case rel => exact ⟨k + 1, by omega, by go_num, HN.out⟩
            case measure => simp [intOf]; omega
          | true =>
            rw [hz] at hcp
            have t1 : ((Wd.depAt s.data.toList k : Int) == 0) = true := by
              have : Wd.depAt s.data.toList k = 0 := by simpa using hz
              simp [this]
            have hcut := Wd.cut_some H0.out (by rw [HLEN.out]; omega) hcp hno
            rw [HCL.out] at hcut
            have HC := Lib.hid hcut
            clear hcp hz hcut
            go_wp2_with fail
            refine (refDepth s k _ (by omega) (by omega)).mono ?_
            rintro e w2 ⟨rfl, rfl⟩
            go_wp2_with fail
            have s1 : IntKind.i64.wrap ((k : Int) + (c.size : Int)) = (k : Int) + (c.size : Int) := IntWalk.i64_in _ (by omega)
            have s2 : (0 : Int) ≤ (k : Int) + (c.size : Int) := by omega
            have s3 : ((k : Int) + (c.size : Int)).toNat = k + c.size := by omega
            go_quiet (fail)
            go_wp2_with fail
            exact bodyPost_ret (v := .tuple #[.string (s.extract 0 k), .string (s.extract (k + c.size) s.size), .bool true]) (by simp [results, Try.results17, go_sem]) rfl
              (CutRes.of HC.out (extract_take _ _) (extract_drop _ _) rfl (below_drewN (Below.refl _ _) _))
      · have hgt : (s.size : Int) < (k : Int) + (c.size : Int) := by omega
        have HC := Lib.hid (Wd.cut_none H0.out (fun j hj => by
          by_cases hjk : j < k
          · exact hno j hjk
          · exact Wd.cutP_far H0.out (by rw [HLEN.out, HCL.out]; omega)))
        go_wp2_with fail
        exact bodyPost_ret (v := .tuple #[.string s, .string ⟨#[]⟩, .bool false]) (by simp [results, Try.results17, go_sem]) rfl (CutRes.of HC.out rfl rfl rfl (Below.refl _ _))
end Go.Proofs.Ytioedokokmjldaa
