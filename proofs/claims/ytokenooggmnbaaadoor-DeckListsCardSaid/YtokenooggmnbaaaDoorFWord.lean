/-
  CONTRACTS OF LAYER 2 (word) that layer 13 reaches: letters, digits, Is, Cut, Join. By an AI agent.
-/
import Derived.Test.YtokenooggmnbaaaDoorWordPlain
import Derived.Test.YtokenooggmnbaaaDoorFNum
import Derived.WalkKit
import Derived.WalkLawsBesides
import Derived.BigQuiet
import Derived.Deep.QuietTactic
import Derived.Handy
import Derived.Lib.Hide
import Derived.Lib.SlicesS
import Derived.WalkSmall
import Derived.WalkMore
import Derived.Deep.LoopGhost
import Derived.IntWalk
namespace Go.Proofs.YtokenooggmnbaaaDoor
open Go.RowKit
open Wd (Bs)

theorem byte_eq_int (a c : UInt8) : ((a.toNat : Int) == (c.toNat : Int)) = (a == c) := by
  rw [Bool.eq_iff_iff]
  simp [← UInt8.toNat_inj]
  omega
theorem u8_ne {c : UInt8} {k : Nat} (hk : k < 256) (h : c ≠ UInt8.ofNat k) : (c.toNat : Int) ≠ k := by
  intro e
  exact h (UInt8.toNat_inj.1 (by rw [UInt8.toNat_ofNat_of_lt' (by simpa using hk)]; omega))

theorem brk_false {c : UInt8} (h1 : (c.toNat : Int) ≠ 40) (h2 : (c.toNat : Int) ≠ 41) (h3 : (c.toNat : Int) ≠ 91) (h4 : (c.toNat : Int) ≠ 93) : Wd.brk c = false := by
  have e1 : c ≠ 40 := fun e => h1 (by rw [e]; rfl)
  have e2 : c ≠ 41 := fun e => h2 (by rw [e]; rfl)
  have e3 : c ≠ 91 := fun e => h3 (by rw [e]; rfl)
  have e4 : c ≠ 93 := fun e => h4 (by rw [e]; rfl)
  simp [Wd.brk, e1, e2, e3, e4]
theorem stepD_open {d : Nat} {c : UInt8} (h : c = 40 ∨ c = 91) : Wd.stepD d c = d + 1 := by simp [Wd.stepD, h]
theorem stepD_close {d : Nat} {c : UInt8} (h : c = 41 ∨ c = 93) : Wd.stepD d c = d - 1 := by
  rcases h with rfl | rfl <;> simp [Wd.stepD]
theorem stepD_else {d : Nat} {c : UInt8} (h1 : (c.toNat : Int) ≠ 40) (h2 : (c.toNat : Int) ≠ 41) (h3 : (c.toNat : Int) ≠ 91) (h4 : (c.toNat : Int) ≠ 93) : Wd.stepD d c = d := Wd.stepD_plain (brk_false h1 h2 h3 h4)
theorem getD_byte (s : ByteArray) (k : Nat) (h : k < s.size) : s.data.toList.getD k 0 = s[k] := by
  have h' : k < s.data.toList.length := by simpa using h
  simp only [List.getD, List.getElem?_eq_getElem h', Option.getD_some, Array.getElem_toList]
  rfl
theorem depAt_byte (s : ByteArray) (k : Nat) (h : k < s.size) : Wd.depAt s.data.toList (k + 1) = Wd.stepD (Wd.depAt s.data.toList k) s[k] := by
  show Wd.stepD _ _ = _
  rw [getD_byte s k h]
/-- a row's value as a byte array -/
theorem exists_bytes (x : Bs) : ∃ s : ByteArray, s.data.toList = x ∧ str x = .string s := ⟨⟨x.toArray⟩, rfl, rfl⟩
theorem bytes_ne {a b : ByteArray} (h : a.data.toList ≠ b.data.toList) : (a.toList == b.toList) = false := (Lib.bytes_beq_false_iff a b).2 fun e => h (by rw [e])
theorem bytes_eq {a b : ByteArray} (h : a.data.toList = b.data.toList) : (a.toList == b.toList) = true := (Lib.bytes_beq_iff a b).2 (by cases a; cases b; congr; exact Array.toList_inj.1 h)
/-- a list of strings as byte arrays -/
def ba (x : Bs) : ByteArray := ⟨x.toArray⟩
def idx (l : List Bs) (x : Bs) : Int := Lib.idxOfS (l.map ba) (ba x)
theorem ba_inj {x y : Bs} (h : ba x = ba y) : x = y := by
  unfold ba at h
  injection h with h
  simpa using congrArg Array.toList h
theorem idx_hit {l : List Bs} {k : Nat} {x : Bs} (hk : l[k]? = some x) (hn : ∀ j y, j < k → l[j]? = some y → y ≠ x) : idx l x = k := by
  obtain ⟨h1, rfl⟩ := List.getElem?_eq_some_iff.1 hk
  have := Lib.idxOfS_hit (l.map ba) l.length k (ba l[k]) h1 (by simp) (by simp [List.getD, h1]) (fun j hj => by
    simp only [List.getD, List.getElem?_map, List.getElem?_eq_getElem (show j < l.length by omega), Option.map_some, Option.getD_some]
    intro e
    exact hn j _ hj (List.getElem?_eq_getElem _) (ba_inj e))
  rw [List.take_of_length_le (by simp)] at this
  exact this
theorem idx_miss {l : List Bs} {x : Bs} (hn : ∀ j y, j < l.length → l[j]? = some y → y ≠ x) : idx l x = -1 := by
  have := Lib.idxOfS_miss (l.map ba) l.length (ba x) (fun j hj => by
    simp only [List.getD, List.getElem?_map, List.getElem?_eq_getElem hj, Option.map_some, Option.getD_some]
    intro e
    exact hn j _ hj (List.getElem?_eq_getElem _) (ba_inj e))
  rw [List.take_of_length_le (by simp)] at this
  exact this
theorem idx_mem {l : List Bs} {x : Bs} : 0 ≤ idx l x ↔ x ∈ l := by
  unfold idx
  rw [Lib.idxOfS_nonneg_iff, List.mem_map]
  constructor
  · rintro ⟨y, hy, e⟩; rw [← ba_inj e]; exact hy
  · intro h; exact ⟨x, h, rfl⟩
def NotTo (l : List Bs) (x : Bs) (k : Nat) : Prop := ∀ j y, j < k → l[j]? = some y → y ≠ x
theorem NotTo.next {l : List Bs} {x y : Bs} {k : Nat} (h : NotTo l x k) (hk : l[k]? = some y) (hy : y ≠ x) : NotTo l x (k + 1) := by
  intro j z hj hz
  by_cases e : j = k
  · subst e; rw [hk] at hz; injection hz with hz; subst hz; exact hy
  · exact h j z (by omega) hz

theorem extract_slice (s : ByteArray) (a b : Nat) : (s.extract a b).data.toList = Wd.slice s.data.toList a b := by
  rw [ByteArray.data_extract, Array.toList_extract]
  unfold Wd.slice List.extract
  rw [List.drop_take]
theorem slice_eq (l : Bs) (a b : Nat) : Wd.slice l a b = (l.drop a).take (b - a) := by unfold Wd.slice; rw [List.drop_take]
/-- a list of strings is what the call returns, in new memory -/
def StrsRes (l : List Bs) (w : World) (e : Ending) (w' : World) : Prop := ∃ v, e = .returned v ∧ OwnStrs w.heap.size w' v l ∧ Below w.heap.size w w'


/-- what Cut answers -/
def cutV (x : Bs × Bs × Bool) : Value := .tuple #[str x.1, str x.2.1, .bool x.2.2]
def CutRes (l c : Bs) (w : World) (e : Ending) (w' : World) : Prop := e = .returned (cutV (Wd.cut l c)) ∧ Below w.heap.size w w'
theorem CutRes.of {l c : Bs} {x : Bs × Bs × Bool} {a b : ByteArray} {ok : Bool} {w w' : World} (h : Wd.cut l c = x) (h1 : a.data.toList = x.1) (h2 : b.data.toList = x.2.1) (h3 : ok = x.2.2) (hb : Below w.heap.size w w') :
    CutRes l c w (.returned (.tuple #[.string a, .string b, .bool ok])) w' := by
  refine ⟨?_, hb⟩
  rw [h, cutV, ← h1, ← h2, ← h3]
  rfl
def NoCut (l c : Bs) (k : Nat) : Prop := ∀ j, j < k → Wd.cutP l c j = false
theorem NoCut.next {l c : Bs} {k : Nat} (h : NoCut l c k) (hk : Wd.cutP l c k = false) : NoCut l c (k + 1) := by
  intro j hj
  by_cases e : j = k
  · subst e; exact hk
  · exact h j (by omega)
theorem extract_drop (s : ByteArray) (k : Nat) : (s.extract k s.size).data.toList = s.data.toList.drop k := by
  rw [extract_slice, Wd.slice, List.take_of_length_le (by simp)]
theorem extract_take (s : ByteArray) (k : Nat) : (s.extract 0 k).data.toList = s.data.toList.take k := by
  rw [extract_slice, Wd.slice, List.drop_zero]
theorem cutP_call (s c : ByteArray) (k : Nat) : Wd.cutP s.data.toList c.data.toList k = (Wd.depAt s.data.toList k == 0 && Lib.hasPrefix (s.extract k s.size).data.toList c.data.toList) := by
  rw [extract_drop]; rfl
theorem ba_getD (l : List Bs) (j : Nat) (h : j < l.length) : (l.map ba).getD j ByteArray.empty = ba l[j] := by simp [List.getD, h]
theorem ba_lists (l : List Bs) : (l.map ba).map (·.data.toList) = l := by
  rw [List.map_map]
  conv => rhs; rw [← List.map_id l]
  apply List.map_congr_left
  intro x _
  rfl
def JoinRes (l : List Bs) (c : Bs) (w : World) (e : Ending) (w' : World) : Prop := e = .returned (str (Lib.join l c)) ∧ Below w.heap.size w w'
set_option maxRecDepth 100000 in
theorem wordJoin (v : Value) (l : List Bs) (s : ByteArray) (w : World) (hv : Strs w v l) (hn : l.length ≤ 140737488355328) (hj : (Lib.join l s.data.toList).length ≤ 140737488355328) :
    Calls Tryd.prog 22 #[v, .string s] w (JoinRes l s.data.toList w) := by
  rcases hv.shape with ⟨b, k, rfl, rfl⟩ | ⟨b, o, k, rfl, p, q, n1, m1, d⟩
  · go_enter Tryd.func22, Tryd.ntmps22
    go_wp2_with fail
    refine (Tryd.strings_Join_none _ _ _ _).mono ?_
    rintro e w1 ⟨rfl, rfl⟩
    go_wp2_with fail
    go_ret
    exact ⟨rfl, Below.refl _ _⟩
  · unfold maxLen at m1
    have D := Lib.hid d
    clear d hv
    have hb : (l.map ba).map (·.data.toList) = l := ba_lists l
    have hlen : (l.map ba).length = l.length := by simp
    have hc := Tryd.strings_Join b o k (l.map ba) s w (fun j x hx => by
      obtain ⟨hj', rfl⟩ := List.getElem?_eq_some_iff.1 hx
      rw [List.getElem_map]
      exact D.out j _ (List.getElem?_eq_getElem (by simpa using hj'))) q (by rw [hlen]; exact hn) (by rw [hlen]; exact n1) (by rw [hb]; exact hj)
    rw [hb, hlen] at hc
    have HC : Hid (Calls Tryd.prog 31 #[.slice (some ⟨b, o, none⟩) l.length k, .string s] w fun e w' => e = .returned (.string ⟨(Lib.join l s.data.toList).toArray⟩) ∧ Below w.heap.size w w') := Lib.hid hc
    clear hc hb hlen hn hj
    go_enter Tryd.func22, Tryd.ntmps22
    go_wp2_with fail
    refine HC.out.mono ?_
    rintro e w1 ⟨rfl, hb⟩
    go_wp2_with fail
    go_ret
    exact ⟨rfl, hb⟩

set_option maxRecDepth 100000 in
theorem wordDepthFar (d : Nat) (c : UInt8) (w : World) (hd : d ≤ 140737488355328) :
    Calls Tryd.prog 34 #[.int .i64 d, .int .u8 c.toNat] w fun e w' => e = .returned (.int .i64 (Wd.stepD d c)) ∧ w = w' := by
  have hd' : (d : Int) ≤ 140737488355328 := by omega
  by_cases k1 : c = 40 ∨ c = 91
  · have hs := Lib.hid (stepD_open (d := d) k1)
    rcases k1 with k1 | k1
    all_goals
      subst k1
      go_enter Tryd.func34, Tryd.ntmps34
      go_wp2
      go_ret
      exact ⟨ret_int (by rw [hs.out]; omega), rfl⟩
  by_cases k2 : c = 41 ∨ c = 93
  · have hs := Lib.hid (stepD_close (d := d) k2)
    rcases k2 with k2 | k2
    all_goals
      subst k2
      go_enter Tryd.func34, Tryd.ntmps34
      go_wp2
      all_goals
        go_ret
        exact ⟨ret_int (by rw [hs.out]; omega), rfl⟩
  have h1 : (c.toNat : Int) ≠ 40 := u8_ne (k := 40) (by omega) fun e => k1 (.inl e)
  have h2 : (c.toNat : Int) ≠ 41 := u8_ne (k := 41) (by omega) fun e => k2 (.inl e)
  have h3 : (c.toNat : Int) ≠ 91 := u8_ne (k := 91) (by omega) fun e => k1 (.inr e)
  have h4 : (c.toNat : Int) ≠ 93 := u8_ne (k := 93) (by omega) fun e => k2 (.inr e)
  have hs := Lib.hid (stepD_else (d := d) h1 h2 h3 h4)
  have e1 : ((c.toNat : Int) == 40) = false := by simpa using h1
  have e2 : ((c.toNat : Int) == 41) = false := by simpa using h2
  have e3 : ((c.toNat : Int) == 91) = false := by simpa using h3
  have e4 : ((c.toNat : Int) == 93) = false := by simpa using h4
  clear k1 k2
  go_enter Tryd.func34, Tryd.ntmps34
  go_wp2
  go_ret
  exact ⟨ret_int (by rw [hs.out]), rfl⟩
set_option maxHeartbeats 800000 in
set_option maxRecDepth 100000 in
theorem wordCutFar (s c : ByteArray) (w : World) (hs : s.size ≤ 140737488355328) (hc : c.size ≤ 1000000000) :
    Calls Tryd.prog 27 #[.string s, .string c] w (CutRes s.data.toList c.data.toList w) := by
  by_cases h0 : c.data.toList = []
  · have e1 : (c.toList == []) = true := by rw [Lib.toList_data, h0]; rfl
    have hcut : Wd.cut s.data.toList c.data.toList = (s.data.toList, [], false) := by rw [h0]; rfl
    have HC := Lib.hid hcut
    clear h0 hcut
    go_enter Tryd.func27, Tryd.ntmps27
    go_wp2_with fail
    exact bodyPost_ret (v := .tuple #[.string s, .string ⟨#[]⟩, .bool false]) (by simp [results, Tryd.results27, go_sem]) rfl (CutRes.of HC.out rfl rfl rfl (Below.refl _ _))
  · have e1 : (c.toList == []) = false := by rw [Lib.toList_data]; simpa using h0
    have H0 := Lib.hid h0
    have hlen : s.data.toList.length = s.size := by simp
    have HLEN := Lib.hid hlen
    clear h0 hlen
    go_enter Tryd.func27, Tryd.ntmps27
    go_wp2_with fail
    go_loop [7, 14] (fun d i => ∃ k : Nat, k ≤ s.size ∧ i = .int .i64 (k : Int) ∧ d = .int .i64 (Wd.depAt s.data.toList k : Int) ∧ NoCut s.data.toList c.data.toList k) (fun _ i => s.size - (intOf i).toNat)
    case atStart => exact ⟨0, Nat.zero_le _, rfl, rfl, fun j hj => by omega⟩
    case round =>
      obtain ⟨k, hk, rfl, rfl, hno⟩ := hrel
      have hdle := Wd.depAt_le s.data.toList k
      generalize hD : Wd.depAt s.data.toList k = D at *
      have hcp := cutP_call s c k
      rw [hD] at hcp
      by_cases hlt : k < s.size
      · have hdb := depAt_byte s k hlt
        rw [hD] at hdb
        have HD := Lib.hid hdb
        clear hdb hD
        cases hz : (D == 0) with
        | false =>
          have t1 : ((D : Int) == 0) = false := by have : D ≠ 0 := by simpa using hz
                                                   simpa using this
          rw [hz, Bool.false_and] at hcp
          have HN := Lib.hid (hno.next hcp)
          clear hcp hz
          go_wp2_with fail
          refine (wordDepthFar D s[k] _ (by omega)).mono ?_
          rintro e w2 ⟨rfl, rfl⟩
          go_wp2_with fail
          go_round
          case rel => exact ⟨k + 1, by omega, by go_num, by rw [HD.out], HN.out⟩
          case measure => simp [intOf]; omega
        | true =>
          have t1 : ((D : Int) == 0) = true := by have : D = 0 := by simpa using hz
                                                  simp [this]
          rw [hz, Bool.true_and] at hcp
          cases hp : Lib.hasPrefix (s.extract k s.size).data.toList c.data.toList with
          | false =>
            rw [hp] at hcp
            have HN := Lib.hid (hno.next hcp)
            have HP := Lib.hid hp
            clear hcp hz hp
            go_wp2_with fail
            refine (Tryd.strings_HasPrefix _ _ _).mono ?_
            rw [HP.out]
            rintro e w2 ⟨rfl, rfl⟩
            go_wp2_with fail
            refine (wordDepthFar D s[k] _ (by omega)).mono ?_
            rintro e w3 ⟨rfl, rfl⟩
            go_wp2_with fail
            go_round
            case rel => exact ⟨k + 1, by omega, by go_num, by rw [HD.out], HN.out⟩
            case measure => simp [intOf]; omega
          | true =>
            rw [hp] at hcp
            have hle := Wd.cutP_len hcp
            have hcl : c.data.toList.length = c.size := by simp
            rw [hcl, HLEN.out] at hle
            have hsum : k + c.size ≤ s.size := by omega
            have hcut := Wd.cut_some H0.out (by rw [HLEN.out]; exact hlt) hcp hno
            rw [hcl] at hcut
            have HC := Lib.hid hcut
            have HP := Lib.hid hp
            clear hcp hz hp hle hcl hcut
            go_wp2_with fail
            refine (Tryd.strings_HasPrefix _ _ _).mono ?_
            rw [HP.out]
            rintro e w2 ⟨rfl, rfl⟩
            go_wp2_with fail
            have s1 : IntKind.i64.wrap ((k : Int) + (c.size : Int)) = (k : Int) + (c.size : Int) := IntWalk.i64_in _ (by omega)
            have s2 : (0 : Int) ≤ (k : Int) + (c.size : Int) := by omega
            have s3 : ((k : Int) + (c.size : Int)).toNat = k + c.size := by omega
            go_quiet (fail)
            go_wp2_with fail
            exact bodyPost_ret (v := .tuple #[.string (s.extract 0 k), .string (s.extract (k + c.size) s.size), .bool true]) (by simp [results, Tryd.results27, go_sem]) rfl
              (CutRes.of HC.out (extract_take _ _) (extract_drop _ _) rfl (below_drewN (Below.refl _ _) _))
      · obtain rfl : k = s.size := by omega
        have HC := Lib.hid (Wd.cut_none H0.out (fun j hj => hno j (by rw [HLEN.out] at hj; exact hj)))
        clear hcp
        go_wp2_with fail
        exact bodyPost_ret (v := .tuple #[.string s, .string ⟨#[]⟩, .bool false]) (by simp [results, Tryd.results27, go_sem]) rfl (CutRes.of HC.out rfl rfl rfl (Below.refl _ _))
end Go.Proofs.YtokenooggmnbaaaDoor
