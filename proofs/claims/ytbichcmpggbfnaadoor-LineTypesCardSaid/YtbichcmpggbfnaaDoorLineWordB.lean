/-
  CONTRACTS OF LAYER 2 (word) AND OF ITS REFERENCE, those that layer 10 reaches: Cut, Is, Index, Join. By an AI agent.
-/
import Derived.Test.YtbichcmpggbfnaaDoorLineWordA
import Derived.Test.YtbichcmpggbfnaaDoorShelf
namespace Go.Proofs.YtbichcmpggbfnaaDoor
open Go.RowKit
open Wd (Bs)


/-- what Cut answers -/
def cutV (x : Bs × Bs × Bool) : Value := .tuple #[str x.1, str x.2.1, .bool x.2.2]
def CutRes (l c : Bs) (w : World) (e : Ending) (w' : World) : Prop := e = .returned (cutV (Wd.cut l c)) ∧ Below w.heap.size w w'
theorem CutRes.of {l c : Bs} {x : Bs × Bs × Bool} {a b : ByteArray} {ok : Bool} {w w' : World} (h : Wd.cut l c = x) (h1 : a.data.toList = x.1) (h2 : b.data.toList = x.2.1) (h3 : ok = x.2.2) (hb : Below w.heap.size w w') :
    CutRes l c w (.returned (.tuple #[.string a, .string b, .bool ok])) w' := by
  refine ⟨?_, hb⟩
  rw [h, cutV, ← h1, ← h2, ← h3]
  rfl
def NoCut (l c : Bs) (k : Nat) : Prop := ∀ j, j < k → Wd.cutP l c j = false
theorem NoCut.next {l c : Bs} {k : Nat} (h : NoCut l c k) (hk : Wd.cutP l c k = false) : NoCut l c (k + 1) := by
  intro j hj
  by_cases e : j = k
  · subst e; exact hk
  · exact h j (by omega)
theorem extract_drop (s : ByteArray) (k : Nat) : (s.extract k s.size).data.toList = s.data.toList.drop k := by
  rw [extract_slice, Wd.slice, List.take_of_length_le (by simp)]
theorem extract_take (s : ByteArray) (k : Nat) : (s.extract 0 k).data.toList = s.data.toList.take k := by
  rw [extract_slice, Wd.slice, List.drop_zero]
theorem cutP_call (s c : ByteArray) (k : Nat) : Wd.cutP s.data.toList c.data.toList k = (Wd.depAt s.data.toList k == 0 && Lib.hasPrefix (s.extract k s.size).data.toList c.data.toList) := by
  rw [extract_drop]; rfl
set_option maxHeartbeats 800000 in
set_option maxRecDepth 100000 in
theorem wordCut (s c : ByteArray) (w : World) (hs : s.size ≤ 1000000000) (hc : c.size ≤ 1000000000) :
    Calls Tryd.prog 52 #[.string s, .string c] w (CutRes s.data.toList c.data.toList w) := by
  by_cases h0 : c.data.toList = []
  · have e1 : (c.toList == []) = true := by rw [Lib.toList_data, h0]; rfl
    have hcut : Wd.cut s.data.toList c.data.toList = (s.data.toList, [], false) := by rw [h0]; rfl
    have HC := Lib.hid hcut
    clear h0 hcut
    go_enter Tryd.func52, Tryd.ntmps52
    go_wp2_with fail
    exact bodyPost_ret (v := .tuple #[.string s, .string ⟨#[]⟩, .bool false]) (by simp [results, Tryd.results52, go_sem]) rfl (CutRes.of HC.out rfl rfl rfl (Below.refl _ _))
  · have e1 : (c.toList == []) = false := by rw [Lib.toList_data]; simpa using h0
    have H0 := Lib.hid h0
    have hlen : s.data.toList.length = s.size := by simp
    have HLEN := Lib.hid hlen
    clear h0 hlen
    go_enter Tryd.func52, Tryd.ntmps52
    go_wp2_with fail
    go_loop [7, 14] (fun d i => ∃ k : Nat, k ≤ s.size ∧ i = .int .i64 (k : Int) ∧ d = .int .i64 (Wd.depAt s.data.toList k : Int) ∧ NoCut s.data.toList c.data.toList k) (fun _ i => s.size - (intOf i).toNat)
    case atStart => exact ⟨0, Nat.zero_le _, rfl, rfl, fun j hj => by omega⟩
    case round =>
      obtain ⟨k, hk, rfl, rfl, hno⟩ := hrel
      have hdle := Wd.depAt_le s.data.toList k
      generalize hD : Wd.depAt s.data.toList k = D at *
      have hcp := cutP_call s c k
      rw [hD] at hcp
      by_cases hlt : k < s.size
      · have hdb := depAt_byte s k hlt
        rw [hD] at hdb
        have HD := Lib.hid hdb
        clear hdb hD
        cases hz : (D == 0) with
        | false =>
          have t1 : ((D : Int) == 0) = false := by have : D ≠ 0 := by simpa using hz
                                                   simpa using this
          rw [hz, Bool.false_and] at hcp
          have HN := Lib.hid (hno.next hcp)
          clear hcp hz
          go_wp2_with fail
          refine (wordDepthAfter D s[k] _ (by omega)).mono ?_
          rintro e w2 ⟨rfl, rfl⟩
          go_wp2_with fail
          go_round
          case rel => exact ⟨k + 1, by omega, by go_num, by rw [HD.out], HN.out⟩
          case measure => simp [intOf]; omega
        | true =>
          have t1 : ((D : Int) == 0) = true := by have : D = 0 := by simpa using hz
                                                  simp [this]
          rw [hz, Bool.true_and] at hcp
          cases hp : Lib.hasPrefix (s.extract k s.size).data.toList c.data.toList with
          | false =>
            rw [hp] at hcp
            have HN := Lib.hid (hno.next hcp)
            have HP := Lib.hid hp
            clear hcp hz hp
            go_wp2_with fail
            refine (Tryd.strings_HasPrefix _ _ _).mono ?_
            rw [HP.out]
            rintro e w2 ⟨rfl, rfl⟩
            go_wp2_with fail
            refine (wordDepthAfter D s[k] _ (by omega)).mono ?_
            rintro e w3 ⟨rfl, rfl⟩
            go_wp2_with fail
            go_round
            case rel => exact ⟨k + 1, by omega, by go_num, by rw [HD.out], HN.out⟩
            case measure => simp [intOf]; omega
          | true =>
            rw [hp] at hcp
            have hle := Wd.cutP_len hcp
            have hcl : c.data.toList.length = c.size := by simp
            rw [hcl, HLEN.out] at hle
            have hsum : k + c.size ≤ s.size := by omega
            have hcut := Wd.cut_some H0.out (by rw [HLEN.out]; exact hlt) hcp hno
            rw [hcl] at hcut
            have HC := Lib.hid hcut
            have HP := Lib.hid hp
            clear hcp hz hp hle hcl hcut
            go_wp2_with fail
            refine (Tryd.strings_HasPrefix _ _ _).mono ?_
            rw [HP.out]
            rintro e w2 ⟨rfl, rfl⟩
            go_wp2_with fail
            have s1 : IntKind.i64.wrap ((k : Int) + (c.size : Int)) = (k : Int) + (c.size : Int) := IntWalk.i64_in _ (by omega)
            have s2 : (0 : Int) ≤ (k : Int) + (c.size : Int) := by omega
            have s3 : ((k : Int) + (c.size : Int)).toNat = k + c.size := by omega
            go_quiet (fail)
            go_wp2_with fail
            exact bodyPost_ret (v := .tuple #[.string (s.extract 0 k), .string (s.extract (k + c.size) s.size), .bool true]) (by simp [results, Tryd.results52, go_sem]) rfl
              (CutRes.of HC.out (extract_take _ _) (extract_drop _ _) rfl (below_drewN (Below.refl _ _) _))
      · obtain rfl : k = s.size := by omega
        have HC := Lib.hid (Wd.cut_none H0.out (fun j hj => hno j (by rw [HLEN.out] at hj; exact hj)))
        clear hcp
        go_wp2_with fail
        exact bodyPost_ret (v := .tuple #[.string s, .string ⟨#[]⟩, .bool false]) (by simp [results, Tryd.results52, go_sem]) rfl (CutRes.of HC.out rfl rfl rfl (Below.refl _ _))

/-- what is told of the package-level variable that strings.Contains reads: it holds some number -/
def LenEnv (w : World) : Prop := ∃ m, w.cell? ⟨1, 0, none⟩ = some (.int .i64 m)
theorem LenEnv.below {w w' : World} (h : LenEnv w) (hb : Below w.heap.size w w') : LenEnv w' := by
  obtain ⟨m, hm⟩ := h
  exact ⟨m, (hb.cell (p := ⟨1, 0, none⟩) (World.block_lt_of_cell? w _ hm)).trans hm⟩

theorem no_len {l : Bs} (h : l.length < 1 ∨ 32 < l.length) : Wd.isName l = false := Wd.isName_false fun ⟨h1, h2, _⟩ => by omega
theorem no_first {l : Bs} (h : Wd.low (l.getD 0 0) = false) : Wd.isName l = false := Wd.isName_false fun ⟨_, _, h1, _⟩ => by rw [h] at h1; cases h1
theorem no_last {l : Bs} (h : l.getD (l.length - 1) 0 = 45) : Wd.isName l = false := Wd.isName_false fun ⟨_, _, _, h1, _⟩ => h1 h
theorem no_hyph {l : Bs} (i : Nat) (hi : i + 1 < l.length) (h1 : l.getD i 0 = 45) (h2 : l.getD (i + 1) 0 = 45) : Wd.isName l = false := Wd.isName_false fun ⟨_, _, _, _, _, h⟩ => h i hi ⟨h1, h2⟩
theorem no_char {l : Bs} (i : Nat) (hi : i < l.length) (h : Wd.nameCh (l.getD i 0) = false) : Wd.isName l = false := Wd.isName_false fun ⟨_, _, _, _, h1, _⟩ => by rw [h1 i hi] at h; cases h
def CharsTo (l : Bs) (k : Nat) : Prop := ∀ i, i < k → Wd.nameCh (l.getD i 0) = true
theorem CharsTo.next {l : Bs} {k : Nat} (h : CharsTo l k) (hk : Wd.nameCh (l.getD k 0) = true) : CharsTo l (k + 1) := by
  intro j hj
  by_cases e : j = k
  · subst e; exact hk
  · exact h j (by omega)
theorem nameCh_no {c : UInt8} (h1 : Wd.low c = false) (h2 : Wd.dig c = false) (h3 : ((c.toNat : Int) == 45) = false) : Wd.nameCh c = false := by
  have : (c == 45) = false := by rw [← byte_eq_int]; exact h3
  simp [Wd.nameCh, h1, h2, this]
theorem nameCh_45 {c : UInt8} (h : ((c.toNat : Int) == 45) = true) : c = 45 := by
  have : (c == 45) = true := by rw [← byte_eq_int]; exact h
  simpa using this
theorem not_45 {c : UInt8} (h : ((c.toNat : Int) == 45) = false) : c ≠ 45 := by
  rintro rfl; simp at h
set_option maxHeartbeats 1000000 in
set_option maxRecDepth 100000 in
theorem wordIs (s : ByteArray) (w : World) (hE : LenEnv w) (hs : s.size ≤ maxLen) :
    Calls Tryd.prog 35 #[.string s] w fun e w' => e = .returned (.bool (Wd.isName s.data.toList)) ∧ w = w' := by
  unfold maxLen at hs
  have hlen : s.data.toList.length = s.size := by simp
  by_cases h0 : s.size = 0
  · have e1 : (s.toList == []) = true := by
      rw [Lib.toList_data]
      have : s.data.toList = [] := List.length_eq_zero_iff.1 (by omega)
      simpa using this
    have HN := Lib.hid (no_len (l := s.data.toList) (.inl (by omega)))
    clear h0 hlen
    go_enter Tryd.func35, Tryd.ntmps35
    go_wp2_with fail
    go_ret
    exact ⟨ret_bool HN.out.symm, rfl⟩
  have e1 : (s.toList == []) = false := by
    rw [Lib.toList_data]
    have : s.data.toList ≠ [] := fun e => h0 (by rw [e] at hlen; simpa using hlen.symm)
    simpa using this
  have hpos : 0 < s.size := by omega
  clear h0
  by_cases h32 : 32 < s.size
  · have HN := Lib.hid (no_len (l := s.data.toList) (.inr (by omega)))
    clear hlen
    go_enter Tryd.func35, Tryd.ntmps35
    go_wp2_with fail
    go_ret
    exact ⟨ret_bool HN.out.symm, rfl⟩
  have h32' : (s.size : Int) ≤ 32 := by omega
  have g0 := getD_byte s 0 hpos
  have gl := getD_byte s (s.size - 1) (Nat.sub_lt hpos (by omega))
  have HLEN := Lib.hid hlen
  clear hlen h32
  cases hl0 : Wd.low s[0] with
  | false =>
    have HN := Lib.hid (no_first (l := s.data.toList) (by rw [g0]; exact hl0))
    have HL := Lib.hid hl0
    clear g0 gl hl0
    go_enter Tryd.func35, Tryd.ntmps35
    go_wp2_with fail
    refine (wordIsLetter s[0] _).mono ?_
    rw [HL.out]
    rintro e w1 ⟨rfl, rfl⟩
    go_wp2_with fail
    go_ret
    exact ⟨ret_bool HN.out.symm, rfl⟩
  | true =>
    have HL := Lib.hid hl0
    clear hl0
    cases h45 : (((s[s.size - 1]'(Nat.sub_lt hpos (by omega))).toNat : Int) == 45) with
    | true =>
      have HN := Lib.hid (no_last (l := s.data.toList) (by rw [HLEN.out, gl]; exact nameCh_45 h45))
      clear g0 gl
      go_enter Tryd.func35, Tryd.ntmps35
      go_wp2_with fail
      refine (wordIsLetter s[0] _).mono ?_
      rw [HL.out]
      rintro e w1 ⟨rfl, rfl⟩
      go_wp2_with fail
      go_ret
      exact ⟨ret_bool HN.out.symm, rfl⟩
    | false =>
      obtain ⟨m, hm⟩ := hE
      have hlast : s.data.toList.getD (s.data.toList.length - 1) 0 ≠ 45 := by rw [HLEN.out, gl]; exact not_45 h45
      cases hc : Lib.contains s.data.toList (ByteArray.mk #[45, 45]).data.toList with
      | true =>
        have HN : Hid (Wd.isName s.data.toList = false) := Lib.hid (by
          obtain ⟨i, hi, h1, h2⟩ := (Wd.hyphens s.data.toList).1 hc
          exact no_hyph i hi h1 h2)
        have HC := Lib.hid hc
        have HM := Lib.hid hm
        clear g0 gl hlast hc hm
        go_enter Tryd.func35, Tryd.ntmps35
        go_wp2_with fail
        refine (wordIsLetter s[0] _).mono ?_
        rw [HL.out]
        rintro e w1 ⟨rfl, rfl⟩
        go_wp2_with fail
        refine (Tryd.strings_Contains s ⟨#[45, 45]⟩ m _ (by omega) HM.out).mono ?_
        rw [HC.out]
        rintro e w1 ⟨rfl, rfl⟩
        go_wp2_with fail
        go_ret
        exact ⟨ret_bool HN.out.symm, rfl⟩
      | false =>
        have hnh : ∀ i, i + 1 < s.data.toList.length → ¬ (s.data.toList.getD i 0 = 45 ∧ s.data.toList.getD (i + 1) 0 = 45) := fun i hi ⟨h1, h2⟩ => by
          have := (Wd.hyphens s.data.toList).2 ⟨i, hi, h1, h2⟩
          have hc' : Lib.contains s.data.toList [45, 45] = false := hc
          rw [hc'] at this
          cases this
        have HNH := Lib.hid hnh
        have HLA := Lib.hid hlast
        have hfirst : Wd.low (s.data.toList.getD 0 0) = true := by rw [g0]; exact HL.out
        have HF := Lib.hid hfirst
        have HC := Lib.hid hc
        have HM := Lib.hid hm
        clear g0 gl hlast hc hm hnh hfirst
        go_enter Tryd.func35, Tryd.ntmps35
        go_wp2_with fail
        refine (wordIsLetter s[0] _).mono ?_
        rw [HL.out]
        rintro e w1 ⟨rfl, rfl⟩
        go_wp2_with fail
        refine (Tryd.strings_Contains s ⟨#[45, 45]⟩ m _ (by omega) HM.out).mono ?_
        rw [HC.out]
        rintro e w1 ⟨rfl, rfl⟩
        go_wp2_with fail
        go_loop [29] (fun i => ∃ k : Nat, k ≤ s.size ∧ i = .int .i64 (k : Int) ∧ CharsTo s.data.toList k) (fun i => s.size - (intOf i).toNat)
        case atStart => exact ⟨0, Nat.zero_le _, rfl, fun j hj => by omega⟩
        case round =>
          obtain ⟨k, hk, rfl, hch⟩ := hrel
          by_cases hlt : k < s.size
          · have gk := getD_byte s k hlt
            cases hlow : Wd.low s[k] with
            | true =>
              have HN := Lib.hid (hch.next (by rw [gk, Wd.nameCh, hlow]; simp))
              have HLK := Lib.hid hlow
              clear gk hlow
              go_wp2_with fail
              refine (wordIsLetter s[k] _).mono ?_
              rw [HLK.out]
              rintro e w1 ⟨rfl, rfl⟩
              go_wp2_with fail
              go_round
              case rel => exact ⟨k + 1, by omega, by go_num, HN.out⟩
              case measure => simp [intOf]; omega
            | false =>
              cases hdig : Wd.dig s[k] with
              | true =>
                have HN := Lib.hid (hch.next (by rw [gk, Wd.nameCh, hdig]; simp))
                have HLK := Lib.hid hlow
                have HDK := Lib.hid hdig
                clear gk hlow hdig
                go_wp2_with fail
                refine (wordIsLetter s[k] _).mono ?_
                rw [HLK.out]
                rintro e w1 ⟨rfl, rfl⟩
                go_wp2_with fail
                refine (wordIsDigit s[k] _).mono ?_
                rw [HDK.out]
                rintro e w1 ⟨rfl, rfl⟩
                go_wp2_with fail
                go_round
                case rel => exact ⟨k + 1, by omega, by go_num, HN.out⟩
                case measure => simp [intOf]; omega
              | false =>
                cases hy : ((s[k].toNat : Int) == 45) with
                | true =>
                  have HN := Lib.hid (hch.next (by rw [gk, nameCh_45 hy]; decide))
                  have HLK := Lib.hid hlow
                  have HDK := Lib.hid hdig
                  clear gk hlow hdig
                  go_wp2_with fail
                  refine (wordIsLetter s[k] _).mono ?_
                  rw [HLK.out]
                  rintro e w1 ⟨rfl, rfl⟩
                  go_wp2_with fail
                  refine (wordIsDigit s[k] _).mono ?_
                  rw [HDK.out]
                  rintro e w1 ⟨rfl, rfl⟩
                  go_wp2_with fail
                  go_round
                  case rel => exact ⟨k + 1, by omega, by go_num, HN.out⟩
                  case measure => simp [intOf]; omega
                | false =>
                  have HN := Lib.hid (no_char (l := s.data.toList) k (by rw [HLEN.out]; exact hlt) (by rw [gk]; exact nameCh_no hlow hdig hy))
                  have HLK := Lib.hid hlow
                  have HDK := Lib.hid hdig
                  clear gk hlow hdig
                  go_wp2_with fail
                  refine (wordIsLetter s[k] _).mono ?_
                  rw [HLK.out]
                  rintro e w1 ⟨rfl, rfl⟩
                  go_wp2_with fail
                  refine (wordIsDigit s[k] _).mono ?_
                  rw [HDK.out]
                  rintro e w1 ⟨rfl, rfl⟩
                  go_wp2_with fail
                  go_ret
                  exact ⟨ret_bool HN.out.symm, rfl⟩
          · obtain rfl : k = s.size := by omega
            have HN := Lib.hid (Wd.isName_true (l := s.data.toList) ⟨by rw [HLEN.out]; omega, by rw [HLEN.out]; omega, HF.out, HLA.out, by rw [HLEN.out]; exact hch, HNH.out⟩)
            go_wp2_with fail
            go_ret
            exact ⟨ret_bool HN.out.symm, rfl⟩
/-- the reference's loop: so far each byte may stand in a name, and no two hyphens are adjacent -/
def RefTo (l : Bs) (k : Nat) : Prop := CharsTo l k ∧ ∀ i, i + 1 < k → ¬ (l.getD i 0 = 45 ∧ l.getD (i + 1) 0 = 45)
theorem RefTo.next {l : Bs} {k : Nat} (h : RefTo l k) (h1 : Wd.nameCh (l.getD k 0) = true) (h2 : 0 < k → ¬ (l.getD (k - 1) 0 = 45 ∧ l.getD k 0 = 45)) : RefTo l (k + 1) := by
  refine ⟨h.1.next h1, fun i hi => ?_⟩
  by_cases e : i + 1 = k
  · have := h2 (by omega)
    rw [show k - 1 = i by omega, ← e] at this
    exact this
  · exact h.2 i (by omega)
theorem dig_range {c : UInt8} : Wd.dig c = true ↔ 48 ≤ (c.toNat : Int) ∧ (c.toNat : Int) ≤ 57 := by simp [Wd.dig]; omega
set_option maxHeartbeats 1000000 in
set_option maxRecDepth 100000 in
theorem refIs (s : ByteArray) (w : World) (hs : s.size ≤ maxLen) :
    Calls Tryd.prog 36 #[.string s] w fun e w' => e = .returned (.bool (Wd.isName s.data.toList)) ∧ w = w' := by
  unfold maxLen at hs
  have hlen : s.data.toList.length = s.size := by simp
  by_cases hpos : 0 < s.size
  case neg =>
    have h0 : (s.size : Int) < 1 := by omega
    have HN := Lib.hid (no_len (l := s.data.toList) (.inl (by omega)))
    clear hlen hpos
    go_enter Tryd.func36, Tryd.ntmps36
    go_wp2_with fail
    go_ret
    exact ⟨ret_bool HN.out.symm, rfl⟩
  by_cases h32 : 32 < s.size
  · have HN := Lib.hid (no_len (l := s.data.toList) (.inr (by omega)))
    clear hlen
    go_enter Tryd.func36, Tryd.ntmps36
    go_wp2_with fail
    go_ret
    exact ⟨ret_bool HN.out.symm, rfl⟩
  have h32' : (s.size : Int) ≤ 32 := by omega
  have g0 := getD_byte s 0 hpos
  have gl := getD_byte s (s.size - 1) (Nat.sub_lt hpos (by omega))
  have HLEN := Lib.hid hlen
  clear hlen h32
  cases hl0 : Wd.low s[0] with
  | false =>
    have HN := Lib.hid (no_first (l := s.data.toList) (by rw [g0]; exact hl0))
    have HL := Lib.hid hl0
    clear g0 gl hl0
    go_enter Tryd.func36, Tryd.ntmps36
    go_wp2_with fail
    refine (refLow s[0] _).mono ?_
    rw [HL.out]
    rintro e w1 ⟨rfl, rfl⟩
    go_wp2_with fail
    go_ret
    exact ⟨ret_bool HN.out.symm, rfl⟩
  | true =>
    have HL := Lib.hid hl0
    clear hl0
    cases h45 : (((s[s.size - 1]'(Nat.sub_lt hpos (by omega))).toNat : Int) == 45) with
    | true =>
      have HN := Lib.hid (no_last (l := s.data.toList) (by rw [HLEN.out, gl]; exact nameCh_45 h45))
      clear g0 gl
      go_enter Tryd.func36, Tryd.ntmps36
      go_wp2_with fail
      refine (refLow s[0] _).mono ?_
      rw [HL.out]
      rintro e w1 ⟨rfl, rfl⟩
      go_wp2_with fail
      go_ret
      exact ⟨ret_bool HN.out.symm, rfl⟩
    | false =>
      have hlast : s.data.toList.getD (s.data.toList.length - 1) 0 ≠ 45 := by rw [HLEN.out, gl]; exact not_45 h45
      have HLA := Lib.hid hlast
      have hfirst : Wd.low (s.data.toList.getD 0 0) = true := by rw [g0]; exact HL.out
      have HF := Lib.hid hfirst
      clear g0 gl hlast hfirst
      go_enter Tryd.func36, Tryd.ntmps36
      go_wp2_with fail
      refine (refLow s[0] _).mono ?_
      rw [HL.out]
      rintro e w1 ⟨rfl, rfl⟩
      go_wp2_with fail
      go_loop [3] (fun i => ∃ k : Nat, k ≤ s.size ∧ i = .int .i64 (k : Int) ∧ RefTo s.data.toList k) (fun i => s.size - (intOf i).toNat)
      case atStart => exact ⟨0, Nat.zero_le _, rfl, fun j hj => by omega, fun i hi => by omega⟩
      case round =>
        obtain ⟨k, hk, rfl, hch⟩ := hrel
        by_cases hlt : k < s.size
        · have gk := getD_byte s k hlt
          cases hok : Wd.nameCh s[k] with
          | false =>
            have HN := Lib.hid (no_char (l := s.data.toList) k (by rw [HLEN.out]; exact hlt) (by rw [gk]; exact hok))
            have h3 : Wd.low s[k] = false ∧ Wd.dig s[k] = false ∧ s[k] ≠ 45 := by simpa [Wd.nameCh, and_assoc] using hok
            have HLK := Lib.hid h3.1
            have hd : ¬ (48 ≤ (s[k].toNat : Int) ∧ (s[k].toNat : Int) ≤ 57) := fun h => by have := dig_range.2 h; rw [h3.2.1] at this; cases this
            have hy : ((s[k].toNat : Int) == 45) = false := by simpa using u8_ne (k := 45) (by omega) h3.2.2
            clear gk hok h3
            rcases (show (s[k].toNat : Int) < 48 ∨ (48 ≤ (s[k].toNat : Int) ∧ 57 < (s[k].toNat : Int)) by omega) with hd2 | ⟨hd1, hd2⟩
            all_goals
              clear hd
              go_wp2_with fail
              refine (refLow s[k] _).mono ?_
              rw [HLK.out]
              rintro e w1 ⟨rfl, rfl⟩
              go_wp2_with fail
              go_ret
              exact ⟨ret_bool HN.out.symm, rfl⟩
          | true =>
            -- what the first test asks, and then the second
            have h3 : Wd.low s[k] = true ∨ (Wd.low s[k] = false ∧ 48 ≤ (s[k].toNat : Int) ∧ (s[k].toNat : Int) ≤ 57) ∨ (Wd.low s[k] = false ∧ ((s[k].toNat : Int) == 45) = true) := by
              cases h : Wd.low s[k] with
              | true => exact .inl rfl
              | false =>
                cases h2 : Wd.dig s[k] with
                | true => exact .inr (.inl ⟨rfl, dig_range.1 h2⟩)
                | false =>
                  rw [Wd.nameCh, h, h2] at hok
                  exact .inr (.inr ⟨rfl, by have e : s[k] = 45 := by simpa using hok
                                            rw [e]; rfl⟩)
            have hlow45 : Wd.low s[k] = true → ((s[k].toNat : Int) == 45) = false := fun h => by
              have : 97 ≤ (s[k].toNat : Int) := by simp [Wd.low] at h; omega
              simp; omega
            by_cases hk0 : 0 < k
            · have gp := getD_byte s (k - 1) (by omega)
              have hk0' : (0 : Int) < (k : Int) := by omega
              cases hprev : (((s[k - 1]'(by omega)).toNat : Int) == 45) with
              | true =>
                rcases h3 with h3 | ⟨h3, hd1, hd2⟩ | ⟨h3, hy⟩
                · have HLK := Lib.hid h3
                  have hy := hlow45 h3
                  have HN := Lib.hid (hch.next (by rw [gk]; exact hok) fun _ ⟨_, h2⟩ => not_45 hy (by rw [← gk]; exact h2))
                  clear gk gp hok h3 hlow45
                  go_wp2_with fail
                  refine (refLow s[k] _).mono ?_
                  rw [HLK.out]
                  rintro e w1 ⟨rfl, rfl⟩
                  go_wp2_with fail
                  go_round
                  case rel => exact ⟨k + 1, by omega, by go_num, HN.out⟩
                  case measure => simp [intOf]; omega
                · have HLK := Lib.hid h3
                  have hy : ((s[k].toNat : Int) == 45) = false := by simp; omega
                  have HN := Lib.hid (hch.next (by rw [gk]; exact hok) fun _ ⟨_, h2⟩ => not_45 hy (by rw [← gk]; exact h2))
                  clear gk gp hok h3 hlow45
                  go_wp2_with fail
                  refine (refLow s[k] _).mono ?_
                  rw [HLK.out]
                  rintro e w1 ⟨rfl, rfl⟩
                  go_wp2_with fail
                  go_round
                  case rel => exact ⟨k + 1, by omega, by go_num, HN.out⟩
                  case measure => simp [intOf]; omega
                · have HLK := Lib.hid h3
                  have HN := Lib.hid (no_hyph (l := s.data.toList) (k - 1) (by rw [HLEN.out]; omega) (by rw [gp]; exact nameCh_45 hprev) (by rw [show k - 1 + 1 = k by omega, gk]; exact nameCh_45 hy))
                  have hlo : (s[k].toNat : Int) < 48 := by simp at hy; omega
                  clear gk gp hok h3 hlow45
                  go_wp2_with fail
                  refine (refLow s[k] _).mono ?_
                  rw [HLK.out]
                  rintro e w1 ⟨rfl, rfl⟩
                  go_wp2_with fail
                  go_ret
                  exact ⟨ret_bool HN.out.symm, rfl⟩
              | false =>
                have HN := Lib.hid (hch.next (by rw [gk]; exact hok) fun _ ⟨h2, _⟩ => not_45 hprev (by rw [← gp]; exact h2))
                clear gk gp hok
                rcases h3 with h3 | ⟨h3, hd1, hd2⟩ | ⟨h3, hy⟩
                · have HLK := Lib.hid h3
                  have hy := hlow45 h3
                  clear h3 hlow45
                  go_wp2_with fail
                  refine (refLow s[k] _).mono ?_
                  rw [HLK.out]
                  rintro e w1 ⟨rfl, rfl⟩
                  go_wp2_with fail
                  go_round
                  case rel => exact ⟨k + 1, by omega, by go_num, HN.out⟩
                  case measure => simp [intOf]; omega
                · have HLK := Lib.hid h3
                  have hy : ((s[k].toNat : Int) == 45) = false := by simp; omega
                  clear h3 hlow45
                  go_wp2_with fail
                  refine (refLow s[k] _).mono ?_
                  rw [HLK.out]
                  rintro e w1 ⟨rfl, rfl⟩
                  go_wp2_with fail
                  go_round
                  case rel => exact ⟨k + 1, by omega, by go_num, HN.out⟩
                  case measure => simp [intOf]; omega
                · have HLK := Lib.hid h3
                  clear h3 hlow45
                  have hlo : (s[k].toNat : Int) < 48 := by simp at hy; omega
                  go_wp2_with fail
                  refine (refLow s[k] _).mono ?_
                  rw [HLK.out]
                  rintro e w1 ⟨rfl, rfl⟩
                  go_wp2_with fail
                  go_round
                  case rel => exact ⟨k + 1, by omega, by go_num, HN.out⟩
                  case measure => simp [intOf]; omega
            · have HN := Lib.hid (hch.next (by rw [gk]; exact hok) fun h => absurd h hk0)
              have hk0' : (k : Int) ≤ 0 := by omega
              clear gk hok
              rcases h3 with h3 | ⟨h3, hd1, hd2⟩ | ⟨h3, hy⟩
              · have HLK := Lib.hid h3
                have hy := hlow45 h3
                clear h3 hlow45
                go_wp2_with fail
                refine (refLow s[k] _).mono ?_
                rw [HLK.out]
                rintro e w1 ⟨rfl, rfl⟩
                go_wp2_with fail
                go_round
                case rel => exact ⟨k + 1, by omega, by go_num, HN.out⟩
                case measure => simp [intOf]; omega
              · have HLK := Lib.hid h3
                have hy : ((s[k].toNat : Int) == 45) = false := by simp; omega
                clear h3 hlow45
                go_wp2_with fail
                refine (refLow s[k] _).mono ?_
                rw [HLK.out]
                rintro e w1 ⟨rfl, rfl⟩
                go_wp2_with fail
                go_round
                case rel => exact ⟨k + 1, by omega, by go_num, HN.out⟩
                case measure => simp [intOf]; omega
              · have HLK := Lib.hid h3
                clear h3 hlow45
                have hlo : (s[k].toNat : Int) < 48 := by simp at hy; omega
                go_wp2_with fail
                refine (refLow s[k] _).mono ?_
                rw [HLK.out]
                rintro e w1 ⟨rfl, rfl⟩
                go_wp2_with fail
                go_round
                case rel => exact ⟨k + 1, by omega, by go_num, HN.out⟩
                case measure => simp [intOf]; omega
        · obtain rfl : k = s.size := by omega
          have HN := Lib.hid (Wd.isName_true (l := s.data.toList) ⟨by rw [HLEN.out]; omega, by rw [HLEN.out]; omega, HF.out, HLA.out, by rw [HLEN.out]; exact hch.1, by rw [HLEN.out]; exact hch.2⟩)
          go_wp2_with fail
          go_ret
          exact ⟨ret_bool HN.out.symm, rfl⟩

theorem ba_getD (l : List Bs) (j : Nat) (h : j < l.length) : (l.map ba).getD j ByteArray.empty = ba l[j] := by simp [List.getD, h]
theorem ba_lists (l : List Bs) : (l.map ba).map (·.data.toList) = l := by
  rw [List.map_map]
  conv => rhs; rw [← List.map_id l]
  apply List.map_congr_left
  intro x _
  rfl
set_option maxRecDepth 100000 in
theorem wordIndex (v : Value) (l : List Bs) (s : ByteArray) (w : World) (hv : Strs w v l) :
    Calls Tryd.prog 32 #[v, .string s] w fun e w' => e = .returned (.int .i64 (idx l s.data.toList)) ∧ w = w' := by
  rcases hv.shape with ⟨b, k, rfl, rfl⟩ | ⟨b, o, k, rfl, p, q, n1, m1, d⟩
  · go_enter Tryd.func32, Tryd.ntmps32
    go_wp2_with fail
    refine (Tryd.slices_Index_string_empty _ _ _ _).mono ?_
    rintro e w1 ⟨rfl, rfl⟩
    go_wp2_with fail
    go_ret
    exact ⟨rfl, rfl⟩
  · unfold maxLen at m1
    have D := Lib.hid d
    clear d hv
    go_enter Tryd.func32, Tryd.ntmps32
    go_wp2_with fail
    refine (Tryd.slices_Index_string b o l.length k (l.map ba) s _ (by simp) (by omega) (fun j hj => ?_)).mono ?_
    · have hj' : j < l.length := by simpa using hj
      rw [ba_getD l j hj']
      exact D.out j l[j] (List.getElem?_eq_getElem hj')
    rintro e w1 ⟨rfl, rfl⟩
    go_wp2_with fail
    go_ret
    exact ⟨ret_int (by rw [List.take_of_length_le (by simp)]; rfl), rfl⟩
def JoinRes (l : List Bs) (c : Bs) (w : World) (e : Ending) (w' : World) : Prop := e = .returned (str (Lib.join l c)) ∧ Below w.heap.size w w'
set_option maxRecDepth 100000 in
theorem wordJoin (v : Value) (l : List Bs) (s : ByteArray) (w : World) (hv : Strs w v l) (hn : l.length ≤ 140737488355328) (hj : (Lib.join l s.data.toList).length ≤ 140737488355328) :
    Calls Tryd.prog 43 #[v, .string s] w (JoinRes l s.data.toList w) := by
  rcases hv.shape with ⟨b, k, rfl, rfl⟩ | ⟨b, o, k, rfl, p, q, n1, m1, d⟩
  · go_enter Tryd.func43, Tryd.ntmps43
    go_wp2_with fail
    refine (Tryd.strings_Join_none _ _ _ _).mono ?_
    rintro e w1 ⟨rfl, rfl⟩
    go_wp2_with fail
    go_ret
    exact ⟨rfl, Below.refl _ _⟩
  · unfold maxLen at m1
    have D := Lib.hid d
    clear d hv
    have hb : (l.map ba).map (·.data.toList) = l := ba_lists l
    have hlen : (l.map ba).length = l.length := by simp
    have hc := Tryd.strings_Join b o k (l.map ba) s w (fun j x hx => by
      obtain ⟨hj', rfl⟩ := List.getElem?_eq_some_iff.1 hx
      rw [List.getElem_map]
      exact D.out j _ (List.getElem?_eq_getElem (by simpa using hj'))) q (by rw [hlen]; exact hn) (by rw [hlen]; exact n1) (by rw [hb]; exact hj)
    rw [hb, hlen] at hc
    have HC : Hid (Calls Tryd.prog 55 #[.slice (some ⟨b, o, none⟩) l.length k, .string s] w fun e w' => e = .returned (.string ⟨(Lib.join l s.data.toList).toArray⟩) ∧ Below w.heap.size w w') := Lib.hid hc
    clear hc hb hlen hn hj
    go_enter Tryd.func43, Tryd.ntmps43
    go_wp2_with fail
    refine HC.out.mono ?_
    rintro e w1 ⟨rfl, hb⟩
    go_wp2_with fail
    go_ret
    exact ⟨rfl, hb⟩
end Go.Proofs.YtbichcmpggbfnaaDoor
