/-
  CONTRACTS OF LAYER 2 (word) AND OF ITS REFERENCE: lists that are read: Same, small, Index and Join of the reference. By an AI agent.
-/
import Derived.Test.YtioedokokmjldaaWordWalks
import Derived.Lib.SlicesS
import Derived.WalkSmall
import Derived.Laws.IdiomStrings
namespace Go.Proofs.Ytioedokokmjldaa
open Go.RowKit
open Wd (Bs)

/-- a row's value as a byte array -/
theorem exists_bytes (x : Bs) : ∃ s : ByteArray, s.data.toList = x ∧ str x = .string s := ⟨⟨x.toArray⟩, rfl, rfl⟩
theorem bytes_ne {a b : ByteArray} (h : a.data.toList ≠ b.data.toList) : (a.toList == b.toList) = false := (Lib.bytes_beq_false_iff a b).2 fun e => h (by rw [e])
theorem bytes_eq {a b : ByteArray} (h : a.data.toList = b.data.toList) : (a.toList == b.toList) = true := (Lib.bytes_beq_iff a b).2 (by cases a; cases b; congr; exact Array.toList_inj.1 h)
/-- equality of lists, as the loop asks it -/
theorem lists_ne {a b : List Bs} {k : Nat} {x y : Bs} (hx : a[k]? = some x) (hy : b[k]? = some y) (h : x ≠ y) : decide (a = b) = false := by
  simp only [decide_eq_false_iff_not]
  rintro rfl
  rw [hx] at hy
  injection hy with hy
  exact h hy
theorem lists_eq {a b : List Bs} (hl : a.length = b.length) (h : ∀ j, j < a.length → a[j]? = b[j]?) : decide (a = b) = true := by
  simp only [decide_eq_true_eq]
  refine List.ext_getElem? fun i => ?_
  by_cases hi : i < a.length
  · exact h i hi
  · rw [List.getElem?_eq_none (by omega), List.getElem?_eq_none (by omega)]
/-- the loop's relation: the first k elements are the same -/
def SameTo (a b : List Bs) (k : Nat) : Prop := ∀ j, j < k → a[j]? = b[j]?
theorem SameTo.next {a b : List Bs} {k : Nat} {x : Bs} (h : SameTo a b k) (hx : a[k]? = some x) (hy : b[k]? = some x) : SameTo a b (k + 1) := by
  intro j hj
  by_cases e : j = k
  · subst e; rw [hx, hy]
  · exact h j (by omega)
set_option maxHeartbeats 400000 in
set_option maxRecDepth 100000 in
theorem refSame (v1 v2 : Value) (l1 l2 : List Bs) (w : World) (s1 : Strs w v1 l1) (s2 : Strs w v2 l2) :
    Calls Try.prog 13 #[v1, v2] w fun e w' => e = .returned (.bool (decide (l1 = l2))) ∧ Below w.heap.size w w' := by
  obtain ⟨a1, c1, rfl, n1, m1, _⟩ := id s1
  obtain ⟨a2, c2, rfl, n2, m2, _⟩ := id s2
  unfold maxLen at m1 m2
  by_cases hl : l1.length = l2.length
  · have hl' : ((l1.length : Int) == (l2.length : Int)) = true := by rw [hl]; simp
    have HL := Lib.hid hl
    rcases s1.shape with ⟨b1, k1, e1, rfl⟩ | ⟨b1, o1, k1, e1, p1, q1, -, -, d1⟩
    · obtain rfl : l2 = [] := List.eq_nil_of_length_eq_zero hl.symm
      clear hl hl' e1
      go_enter Try.func13, Try.ntmps13
      go_wp2
      refine wp_loop_rounds 1 ?_
      rw [rounds_succ]
      go_wp2
      go_ret
      exact ⟨rfl, Below.refl _ _⟩
    · rcases s2.shape with ⟨b2, k2, e2, rfl⟩ | ⟨b2, o2, k2, e2, p2, q2, -, -, d2⟩
      · simp at hl; subst hl; simp at p1
      injection e1 with e1 _ e1'
      injection e2 with e2 _ e2'
      subst e1 e1' e2 e2'
      have D1 := Lib.hid d1
      have D2 := Lib.hid d2
      clear d1 d2 hl s1 s2
      have i1 : (l1.length : Int) ≤ l2.length := by have := HL.out; omega
      have i2 : (l2.length : Int) ≤ l1.length := by have := HL.out; omega
      go_enter Try.func13, Try.ntmps13
      go_wp2
      go_loopw [5] (fun i wr => ∃ k : Nat, k ≤ l1.length ∧ i = .int .i64 (k : Int) ∧ SameTo l1 l2 k ∧ Below w.heap.size w wr) (fun i _ => l1.length - (intOf i).toNat)
      case atStart => exact ⟨0, by omega, rfl, fun j hj => by omega, Below.refl _ _⟩
      case round =>
        obtain ⟨k, hk, rfl, hsame, hbr⟩ := hrel
        by_cases hlt : k < l1.length
        · obtain ⟨x, hx⟩ : ∃ x, l1[k]? = some x := ⟨l1[k], by simp [hlt]⟩
          obtain ⟨y, hy⟩ : ∃ y, l2[k]? = some y := ⟨l2[k]'(by omega), by simp [show k < l2.length by omega]⟩
          obtain ⟨sx, hsx, ex⟩ := exists_bytes x
          obtain ⟨sy, hsy, ey⟩ := exists_bytes y
          have d1 : wr.cell? ⟨b1, o1 + k, none⟩ = some (.string sx) := (hbr.cell q1).trans ((D1.out k x hx).trans (congrArg some ex))
          have d2 : wr.cell? ⟨b2, o2 + k, none⟩ = some (.string sy) := (hbr.cell q2).trans ((D2.out k y hy).trans (congrArg some ey))
          have i0 : (0 : Int) ≤ (k : Int) := by omega
          have i3 : (k : Int) < (l1.length : Int) := by omega
          have i4 : (k : Int) < (l2.length : Int) := by omega
          have HX := Lib.hid hx
          have HY := Lib.hid hy
          have SX := Lib.hid hsx
          have SY := Lib.hid hsy
          clear ex ey hx hy hsx hsy
          by_cases hxy : x = y
          · have ht : (sx.toList == sy.toList) = true := bytes_eq (by rw [SX.out, SY.out, hxy])
            have HXY := Lib.hid hxy
            clear hxy
            go_wp2
            go_quiet (fail)
            go_wp2
            go_roundw
            case rel => exact ⟨k + 1, by omega, by go_num, hsame.next HX.out (by rw [HXY.out]; exact HY.out), below_drewN hbr _⟩
            case measure => simp [intOf]; omega
          · have ht : (sx.toList == sy.toList) = false := bytes_ne (by rw [SX.out, SY.out]; exact hxy)
            go_wp2
            go_quiet (fail)
            go_wp2
            go_ret
            exact ⟨ret_bool (lists_ne HX.out HY.out hxy).symm, below_drewN hbr _⟩
        · have hk' : (l1.length : Int) ≤ (k : Int) := by omega
          go_wp2
          go_ret
          exact ⟨ret_bool (lists_eq HL.out fun j hj => hsame j (by omega)).symm, hbr⟩
  · have hl' : ((l1.length : Int) == (l2.length : Int)) = false := by simp; omega
    have hd : decide (l1 = l2) = false := by simp; rintro rfl; exact hl rfl
    have HD := Lib.hid hd
    clear hd s1 s2
    go_enter Try.func13, Try.ntmps13
    go_wp2
    go_ret
    exact ⟨ret_bool HD.out.symm, Below.refl _ _⟩
/-- the bytes of all strings of a list -/
def total (l : List Bs) : Nat := (l.map List.length).sum
theorem total_take_succ {l : List Bs} {k : Nat} {x : Bs} (h : l[k]? = some x) : total (l.take (k + 1)) = total (l.take k) + x.length := by
  obtain ⟨hk, rfl⟩ := List.getElem?_eq_some_iff.1 h
  rw [List.take_succ_eq_append_getElem hk]
  simp only [total, List.map_append, List.sum_append, List.map_cons, List.map_nil, List.sum_cons, List.sum_nil, Nat.add_zero]
theorem total_take_le (l : List Bs) (k : Nat) : total (l.take k) ≤ total l := by
  have : total l = total (l.take k) + total (l.drop k) := by
    conv => lhs; rw [← List.take_append_drop k l]
    simp only [total, List.map_append, List.sum_append]
  omega
def smallB (l : List Bs) : Bool := decide (l.length ≤ 200 ∧ total l ≤ 2000)
theorem smallB_is {l : List Bs} (r : Bool) (h : r = (decide (l.length ≤ 200) && decide (total l ≤ 2000))) : r = smallB l := by rw [h, smallB, Bool.decide_and]
set_option maxHeartbeats 400000 in
set_option maxRecDepth 100000 in
theorem lawSmallFew (v : Value) (l : List Bs) (w : World) (s : Strs w v l) (h1 : l.length ≤ 200) (ht : total l ≤ 1000000000000000000) :
    Calls Try.prog 20 #[v] w fun e w' => e = .returned (.bool (smallB l)) ∧ w = w' := by
  rcases s.shape with ⟨b, k, rfl, rfl⟩ | ⟨b, o, k, rfl, p, q, n1, m1, d⟩
  · go_enter Try.func20, Try.ntmps20
    go_wp2
    refine wp_loop_rounds 1 ?_
    rw [rounds_succ]
    go_wp2
    go_ret
    exact ⟨rfl, rfl⟩
  · unfold maxLen at m1
    have H1 := Lib.hid h1
    have D := Lib.hid d
    clear d s
    go_enter Try.func20, Try.ntmps20
    go_wp2
    go_loop [3, 8] (fun n i => ∃ k : Nat, k ≤ l.length ∧ i = .int .i64 (k : Int) ∧ n = .int .i64 (total (l.take k) : Int)) (fun _ i => l.length - (intOf i).toNat)
    case atStart => exact ⟨0, by omega, rfl, rfl⟩
    case round =>
      obtain ⟨j, hj, rfl, rfl⟩ := hrel
      have htk := total_take_le l j
      by_cases hlt : j < l.length
      · obtain ⟨x, hx⟩ : ∃ x, l[j]? = some x := ⟨l[j], by simp [hlt]⟩
        obtain ⟨sx, hsx, ex⟩ := exists_bytes x
        have d1 : w.cell? ⟨b, o + j, none⟩ = some (.string sx) := (D.out j x hx).trans (congrArg some ex)
        have hs1 := total_take_succ hx
        have htk1 := total_take_le l (j + 1)
        have hlen : x.length = sx.size := by rw [← hsx]; simp
        have hsz : total (l.take j) + sx.size ≤ 1000000000000000000 := by omega
        have HS := Lib.hid hs1
        have HL := Lib.hid hlen
        clear hs1 hlen hx hsx ex
        go_wp2
        go_round
        case rel => exact ⟨j + 1, by omega, by go_num, by rw [HS.out, HL.out]; go_num⟩
        case measure => simp [intOf]; omega
      · obtain rfl : j = l.length := by omega
        have e : total (l.take l.length) = total l := by rw [List.take_length]
        by_cases h2 : total (l.take l.length) ≤ 2000
        all_goals
          have E := Lib.hid e
          clear e
          go_wp2
          go_ret
          exact ⟨ret_bool (smallB_is _ (by have e := E.out; rw [e] at h2; simp [h1, h2] <;> omega)), rfl⟩
set_option maxHeartbeats 400000 in
set_option maxRecDepth 100000 in
theorem lawSmallMany (v : Value) (l : List Bs) (w : World) (s : Strs w v l) (h1 : 200 < l.length) :
    Calls Try.prog 20 #[v] w fun e w' => e = .returned (.bool (smallB l)) ∧ w = w' := by
  have hS : smallB l = false := by simp [smallB]; omega
  have HS := Lib.hid hS
  clear hS
  rcases s.shape with ⟨b, k, rfl, rfl⟩ | ⟨b, o, k, rfl, p, q, n1, m1, d⟩
  · simp at h1
  · unfold maxLen at m1
    have D := Lib.hid d
    clear d s
    go_enter Try.func20, Try.ntmps20
    go_wp2
    go_loop [3, 8] (fun n i => ∃ k : Nat, k ≤ l.length ∧ i = .int .i64 (k : Int) ∧ ∃ m : Int, n = .int .i64 m) (fun _ i => l.length - (intOf i).toNat)
    case atStart => exact ⟨0, by omega, rfl, _, rfl⟩
    case round =>
      obtain ⟨j, hj, rfl, m, rfl⟩ := hrel
      by_cases hlt : j < l.length
      · obtain ⟨x, hx⟩ : ∃ x, l[j]? = some x := ⟨l[j], by simp [hlt]⟩
        obtain ⟨sx, hsx, ex⟩ := exists_bytes x
        have d1 : w.cell? ⟨b, o + j, none⟩ = some (.string sx) := (D.out j x hx).trans (congrArg some ex)
        clear hx hsx ex
        go_wp2
        go_round
        case rel => exact ⟨j + 1, by omega, by go_num, _, rfl⟩
        case measure => simp [intOf]; omega
      · obtain rfl : j = l.length := by omega
        have h2 : (200 : Int) < (l.length : Int) := by omega
        go_wp2
        go_ret
        exact ⟨ret_bool HS.out.symm, rfl⟩
theorem total_le {l : List Bs} {b : Nat} (h : ∀ x ∈ l, x.length ≤ b) : total l ≤ l.length * b := by
  induction l with
  | nil => simp [total]
  | cons a r ih =>
    have h1 := h a (by simp)
    have h2 := ih fun x hx => h x (by simp [hx])
    have e : total (a :: r) = a.length + total r := by simp [total]
    rw [e, List.length_cons, Nat.succ_mul]
    omega
theorem lawSmall (v : Value) (l : List Bs) (w : World) (s : Strs w v l) (h : ∀ x ∈ l, x.length ≤ 140737488355328) :
    Calls Try.prog 20 #[v] w fun e w' => e = .returned (.bool (smallB l)) ∧ w = w' := by
  by_cases h1 : l.length ≤ 200
  · refine lawSmallFew v l w s h1 ?_
    have h2 := total_le h
    have h3 := Nat.mul_le_mul_right 140737488355328 h1
    omega
  · exact lawSmallMany v l w s (by omega)
/-- a list of strings as byte arrays -/
def ba (x : Bs) : ByteArray := ⟨x.toArray⟩
def idx (l : List Bs) (x : Bs) : Int := Lib.idxOfS (l.map ba) (ba x)
theorem ba_inj {x y : Bs} (h : ba x = ba y) : x = y := by
  unfold ba at h
  injection h with h
  simpa using congrArg Array.toList h
theorem idx_hit {l : List Bs} {k : Nat} {x : Bs} (hk : l[k]? = some x) (hn : ∀ j y, j < k → l[j]? = some y → y ≠ x) : idx l x = k := by
  obtain ⟨h1, rfl⟩ := List.getElem?_eq_some_iff.1 hk
  have := Lib.idxOfS_hit (l.map ba) l.length k (ba l[k]) h1 (by simp) (by simp [List.getD, h1]) (fun j hj => by
    simp only [List.getD, List.getElem?_map, List.getElem?_eq_getElem (show j < l.length by omega), Option.map_some, Option.getD_some]
    intro e
    exact hn j _ hj (List.getElem?_eq_getElem _) (ba_inj e))
  rw [List.take_of_length_le (by simp)] at this
  exact this
theorem idx_miss {l : List Bs} {x : Bs} (hn : ∀ j y, j < l.length → l[j]? = some y → y ≠ x) : idx l x = -1 := by
  have := Lib.idxOfS_miss (l.map ba) l.length (ba x) (fun j hj => by
    simp only [List.getD, List.getElem?_map, List.getElem?_eq_getElem hj, Option.map_some, Option.getD_some]
    intro e
    exact hn j _ hj (List.getElem?_eq_getElem _) (ba_inj e))
  rw [List.take_of_length_le (by simp)] at this
  exact this
theorem idx_mem {l : List Bs} {x : Bs} : 0 ≤ idx l x ↔ x ∈ l := by
  unfold idx
  rw [Lib.idxOfS_nonneg_iff, List.mem_map]
  constructor
  · rintro ⟨y, hy, e⟩; rw [← ba_inj e]; exact hy
  · intro h; exact ⟨x, h, rfl⟩
def NotTo (l : List Bs) (x : Bs) (k : Nat) : Prop := ∀ j y, j < k → l[j]? = some y → y ≠ x
theorem NotTo.next {l : List Bs} {x y : Bs} {k : Nat} (h : NotTo l x k) (hk : l[k]? = some y) (hy : y ≠ x) : NotTo l x (k + 1) := by
  intro j z hj hz
  by_cases e : j = k
  · subst e; rw [hk] at hz; injection hz with hz; subst hz; exact hy
  · exact h j z (by omega) hz
set_option maxHeartbeats 400000 in
set_option maxRecDepth 100000 in
theorem refIndex (v : Value) (l : List Bs) (s : ByteArray) (w : World) (hv : Strs w v l) :
    Calls Try.prog 26 #[v, .string s] w fun e w' => e = .returned (.int .i64 (idx l s.data.toList)) ∧ w = w' := by
  rcases hv.shape with ⟨b, k, rfl, rfl⟩ | ⟨b, o, k, rfl, p, q, n1, m1, d⟩
  · have hm := Lib.hid (idx_miss (l := []) (x := s.data.toList) (fun j y hj => by simp at hj))
    go_enter Try.func26, Try.ntmps26
    go_wp2
    refine wp_loop_rounds 1 ?_
    rw [rounds_succ]
    go_wp2
    go_ret
    exact ⟨ret_int hm.out.symm, rfl⟩
  · unfold maxLen at m1
    have D := Lib.hid d
    clear d hv
    go_enter Try.func26, Try.ntmps26
    go_wp2
    go_loop [5] (fun i => ∃ k : Nat, k ≤ l.length ∧ i = .int .i64 (k : Int) ∧ NotTo l s.data.toList k) (fun i => l.length - (intOf i).toNat)
    case atStart => exact ⟨0, by omega, rfl, fun j y hj => by omega⟩
    case round =>
      obtain ⟨j, hj, rfl, hno⟩ := hrel
      by_cases hlt : j < l.length
      · obtain ⟨x, hx⟩ : ∃ x, l[j]? = some x := ⟨l[j], by simp [hlt]⟩
        obtain ⟨sx, hsx, ex⟩ := exists_bytes x
        have d1 : w.cell? ⟨b, o + j, none⟩ = some (.string sx) := (D.out j x hx).trans (congrArg some ex)
        have HX := Lib.hid hx
        have SX := Lib.hid hsx
        clear hx hsx ex
        by_cases hxs : x = s.data.toList
        · have ht : (sx.toList == s.toList) = true := bytes_eq (by rw [SX.out, hxs])
          have hh := Lib.hid (idx_hit (by rw [HX.out, hxs]) hno)
          clear hxs
          go_wp2
          go_ret
          exact ⟨ret_int hh.out.symm, rfl⟩
        · have ht : (sx.toList == s.toList) = false := bytes_ne (by rw [SX.out]; exact hxs)
          go_wp2
          go_round
          case rel => exact ⟨j + 1, by omega, by go_num, hno.next HX.out hxs⟩
          case measure => simp [intOf]; omega
      · obtain rfl : j = l.length := by omega
        have hm := Lib.hid (idx_miss hno)
        go_wp2
        go_ret
        exact ⟨ret_int hm.out.symm, rfl⟩
end Go.Proofs.Ytioedokokmjldaa
