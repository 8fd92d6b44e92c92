/-
  MERGED: FilOk, FilRefA, FilRefB. By an AI agent.
-/
import Derived.Test.YtboealolklojiaaGreatDoorFilRef
import Derived.Test.YtboealolklojiaaGreatDoorFilRefTab
import Derived.Test.YtboealolklojiaaGreatDoorFilReadB
namespace Go.Proofs.YtboealolklojiaaGreatDoor.Fil
open Num (bitsL bitB)

theorem setB_lt {m n i : Nat} (hm : m < 2 ^ n) (hi : i < n) : setB m i < 2 ^ n := by
  unfold setB
  cases hb : bitB m i with
  | true => rw [if_pos rfl]; exact hm
  | false =>
    rw [if_neg (by simp)]
    have h1 := Kw.mod_no hb
    have h2 := Nat.mod_lt m (Nat.two_pow_pos i)
    have h3 := Nat.div_add_mod m (2 ^ (i + 1))
    have h4 : m / 2 ^ (i + 1) < 2 ^ (n - (i + 1)) := by
      rw [Nat.div_lt_iff_lt_mul (Nat.two_pow_pos _), ← Nat.pow_add]
      rw [show n - (i + 1) + (i + 1) = n by omega]; exact hm
    have h5 : 2 ^ (i + 1) * (m / 2 ^ (i + 1) + 1) ≤ 2 ^ (i + 1) * 2 ^ (n - (i + 1)) := Nat.mul_le_mul_left _ h4
    rw [← Nat.pow_add, show i + 1 + (n - (i + 1)) = n by omega, Nat.mul_add, Nat.mul_one] at h5
    have h6 : 2 ^ (i + 1) = 2 ^ i + 2 ^ i := by rw [Nat.pow_succ]; omega
    omega
theorem orTo_lt {nm : Nat → Bs} {pre w : Bs} {m n : Nat} (hm : m < 2 ^ n) : ∀ k, k ≤ n → orTo nm pre w m k < 2 ^ n
  | 0, _ => hm
  | k + 1, h => by
    show oStep nm pre w k (orTo nm pre w m k) < _
    unfold oStep
    split
    · exact setB_lt (orTo_lt hm k (by omega)) (by omega)
    · exact orTo_lt hm k (by omega)
structure Ok (a : Acc) : Prop where
  types : a.types < 2 ^ 6
  ntypes : a.ntypes < 2 ^ 6
  colors : a.colors < 2 ^ 5
  ncolors : a.ncolors < 2 ^ 5
  keys : a.keys < 2 ^ 17
theorem zero_ok : Ok zeroA := ⟨by decide, by decide, by decide, by decide, by decide⟩
theorem wordN_ok {a : Acc} (w : Bs) (h : Ok a) : Ok (wordN a w) :=
  ⟨orTo_lt h.types 6 (Nat.le_refl _), orTo_lt h.ntypes 6 (Nat.le_refl _), orTo_lt h.colors 5 (Nat.le_refl _), orTo_lt h.ncolors 5 (Nat.le_refl _), orTo_lt h.keys 17 (Nat.le_refl _)⟩
/-- what 'named' leaves -/
def namedN (a : Acc) (w : Bs) : Acc := ⟨a.zone, a.who, a.self, orTo typeW [] w a.types 6, orTo typeW sNon w a.ntypes 6, orTo Col.name [] w a.colors 5, orTo Col.name sNon w a.ncolors 5, a.sub, orTo Kw.name sWith w a.keys 17, a.tap, a.pow, a.tough, a.val⟩
def restN (a : Acc) (w : Bs) : Acc := ⟨oneOf zonesL a.zone w, oneOf whoL a.who w, oneOf selfL a.self w, a.types, a.ntypes, a.colors, a.ncolors, subOf a.sub w, a.keys, oneOf tapL a.tap w, bdOf sPow a.pow w, bdOf sTough a.tough w, bdOf sVal a.val w⟩
theorem wordN_two (a : Acc) (w : Bs) : wordN a w = namedN (restN a w) w := rfl
/-- under way: the masks after k names of types, of colours, of keywords -/
def nT (a : Acc) (w : Bs) (k : Nat) : Acc := { a with types := orTo typeW [] w a.types k, ntypes := orTo typeW sNon w a.ntypes k }
def nC (a : Acc) (w : Bs) (k : Nat) : Acc := { nT a w 6 with colors := orTo Col.name [] w a.colors k, ncolors := orTo Col.name sNon w a.ncolors k }
def nK (a : Acc) (w : Bs) (k : Nat) : Acc := { nC a w 5 with keys := orTo Kw.name sWith w a.keys k }
theorem nK_end (a : Acc) (w : Bs) : nK a w 17 = namedN a w := rfl
theorem orTo_yes {nm : Nat → Bs} {pre w : Bs} {m k : Nat} (h : w = pre ++ nm k) : orTo nm pre w m (k + 1) = setB (orTo nm pre w m k) k := by
  show oStep nm pre w k _ = _
  unfold oStep; rw [if_pos h]
theorem orTo_no {nm : Nat → Bs} {pre w : Bs} {m k : Nat} (h : w ≠ pre ++ nm k) : orTo nm pre w m (k + 1) = orTo nm pre w m k := by
  show oStep nm pre w k _ = _
  unfold oStep; rw [if_neg h]
end Go.Proofs.YtboealolklojiaaGreatDoor.Fil
namespace Go.Proofs.YtboealolklojiaaGreatDoor
open Go.RowKit
open Wd (Bs)

theorem hit_one (l : List Bs) (x : Bs) : Fil.hitAt l x = (Fil.rOne l (x, [])).1 := by
  unfold Fil.rOne
  show _ = (if 0 < Fil.hitAt l x then (Fil.hitAt l x, Fil.adv (x, [])) else (0, (x, []))).1
  split
  · rfl
  · show _ = 0; omega
theorem hit_at {l : List Bs} {x y : Bs} {k : Nat} (hk : l[k]? = some y) (h0 : l[0]? = some []) (hy : y ≠ []) (he : x = y) (hn : NoHit l x k) : Fil.hitAt l x = k := by
  rw [hit_one, rOne_hit (st := (x, [])) hk h0 hy he hn]
theorem hit_none {l : List Bs} {x : Bs} (hn : NoHit l x l.length) : Fil.hitAt l x = 0 := by
  rw [hit_one, rOne_miss (st := (x, [])) hn]
set_option maxHeartbeats 1000000 in
set_option maxRecDepth 100000 in
theorem refIndex13 (g n : Nat) (l : List Bs) (s : ByteArray) (w : World) (hn : l.length = n) (h100 : n ≤ 100) (h1 : 1 ≤ n) (h0 : l[0]? = some []) (hne : ∀ k y, 0 < k → l[k]? = some y → y ≠ [])
    (hc : ∀ k x, l[k]? = some x → w.cell? ⟨g, k, none⟩ = some (str x)) :
    Calls Tryz.prog 70 #[.slice (some ⟨g, 0, none⟩) n n, .string s] w fun e w' => e = .returned (.int .i64 (Fil.hitAt l s.data.toList : Nat)) ∧ w = w' := by
  have HC := Lib.hid hc
  have H0 := Lib.hid h0
  have HN := Lib.hid hn
  have HNE := Lib.hid hne
  clear hc h0 hn hne
  go_enter Tryz.func70, Tryz.ntmps70
  go_wp2_with fail
  go_loop [5] (fun i => ∃ k : Nat, 1 ≤ k ∧ k ≤ n ∧ i = .int .i64 (k : Int) ∧ NoHit l s.data.toList k) (fun i => n - (intOf i).toNat)
  case atStart => exact ⟨1, by omega, by omega, rfl, fun j y hj hy => .inl (by
    obtain rfl : j = 0 := by omega
    rw [H0.out] at hy; injection hy with hy; exact hy.symm)⟩
  case round =>
    obtain ⟨k, hk1, hk, rfl, hno⟩ := hrel
    have HNO := Lib.hid hno
    clear hno
    by_cases hlt : k < n
    · obtain ⟨y, hy⟩ : ∃ y, l[k]? = some y := ⟨_, List.getElem?_eq_getElem (show k < l.length by rw [HN.out]; exact hlt)⟩
      obtain ⟨sx, hsx, ex⟩ := exists_bytes y
      have hcell : w.cell? ⟨g, k, none⟩ = some (.string sx) := by rw [← ex]; exact HC.out k y hy
      by_cases he : y = s.data.toList
      · have ht : (sx.toList == s.toList) = true := bytes_eq (by rw [hsx]; exact he)
        have HR := Lib.hid (hit_at hy H0.out (HNE.out k y (by omega) hy) he.symm HNO.out)
        clear hy hsx ex he
        go_wp2_with fail
        go_ret
        exact ⟨by rw [HR.out]; rfl, rfl⟩
      · have ht : (sx.toList == s.toList) = false := bytes_ne (by rw [hsx]; exact he)
        have HNX := Lib.hid (HNO.out.next hy (.inr he))
        clear hy hsx ex he
        go_wp2_with fail
        go_round
        case rel => exact ⟨k + 1, by omega, by omega, by go_num, HNX.out⟩
        case measure => simp [intOf]; omega
    · obtain rfl : k = n := by omega
      have HR := Lib.hid (hit_none (l := l) (x := s.data.toList) (by rw [HN.out]; exact HNO.out))
      go_wp2_with fail
      go_ret
      exact ⟨by rw [HR.out]; rfl, rfl⟩
theorem refAfter13 (s p : ByteArray) (w : World) :
    Calls Tryz.prog 71 #[.string s, .string p] w fun e w' => e = .returned (.tuple #[str (if p.data.toList.isPrefixOf s.data.toList then s.data.toList.drop p.data.toList.length else []), .bool (p.data.toList.isPrefixOf s.data.toList)]) ∧ w = w' := by
  cases h : p.data.toList.isPrefixOf s.data.toList with
  | true =>
    have hl : p.size ≤ s.size := by have := Wd.isPrefixOf_len h; simpa using this
    have hl1 : (p.size : Int) ≤ (s.size : Int) := by omega
    have hl2 : ¬ (s.size : Int) < (p.size : Int) := by omega
    have ht : ((s.extract 0 p.size).toList == p.toList) = true := bytes_eq (by
      rw [extract_take]
      have := Fil.pre_head h
      simpa using this)
    obtain ⟨x, hx⟩ : ∃ x, x = str (s.data.toList.drop p.data.toList.length) := ⟨_, rfl⟩
    rw [if_pos rfl, ← hx]
    have HD : Hid (Value.string (s.extract p.size s.size) = x) := Lib.hid (by
      rw [hx, show p.data.toList.length = p.size by simp, ← extract_drop]; rfl)
    clear h hx
    go_enter Tryz.func71, Tryz.ntmps71
    go_wp2_with fail
    go_ret2
    exact ⟨by rw [← HD.out]; rfl, rfl⟩
  | false =>
    rw [if_neg (by simp)]
    by_cases hl : s.size < p.size
    · have hl2 : (s.size : Int) < (p.size : Int) := by omega
      clear h
      go_enter Tryz.func71, Tryz.ntmps71
      go_wp2_with fail
      go_ret2
      exact ⟨rfl, rfl⟩
    · have hl1 : (p.size : Int) ≤ (s.size : Int) := by omega
      have hl2 : ¬ (s.size : Int) < (p.size : Int) := by omega
      have ht : ((s.extract 0 p.size).toList == p.toList) = false := bytes_ne (by
        rw [extract_take]
        intro e
        have : p.data.toList.isPrefixOf s.data.toList = true := by
          rw [List.isPrefixOf_iff_prefix]
          exact ⟨s.data.toList.drop p.size, by rw [← e]; exact List.take_append_drop _ _⟩
        rw [this] at h; cases h)
      clear h
      go_enter Tryz.func71, Tryz.ntmps71
      go_wp2_with fail
      go_ret2
      exact ⟨rfl, rfl⟩
theorem refMask13 (m i : Nat) (w : World) (hm : m ≤ 1073741824) (hi : i ≤ 20) :
    Calls Tryz.prog 90 #[.int .i64 m, .int .i64 i] w fun e w' => e = .returned (.int .i64 (Fil.setB m i : Nat)) ∧ w = w' := by
  have HB := Lib.hid (refBit13 m i w (by omega) (by omega))
  have hi1 : (i : Int) ≤ 20 := by omega
  have hm1 : (m : Int) ≤ 1073741824 := by omega
  cases hb : Num.bitB m i with
  | true =>
    have HR : Hid (Fil.setB m i = m) := Lib.hid (by unfold Fil.setB; rw [if_pos hb])
    have HBB := Lib.hid hb
    clear hb
    go_enter Tryz.func90, Tryz.ntmps90
    go_wp2_with fail
    refine HB.out.mono ?_
    rw [HBB.out]
    rintro e w1 ⟨rfl, rfl⟩
    go_wp2_with fail
    go_ret
    exact ⟨by rw [HR.out]; rfl, rfl⟩
  | false =>
    have HR : Hid (Fil.setB m i = m + 2 ^ i) := Lib.hid (by unfold Fil.setB; rw [if_neg (by simp [hb])])
    have HBB := Lib.hid hb
    clear hb
    go_enter Tryz.func90, Tryz.ntmps90
    go_wp2_with fail
    refine HB.out.mono ?_
    rw [HBB.out]
    rintro e w1 ⟨rfl, rfl⟩
    go_wp2_with fail
    go_loop [5, 6] (fun x j => ∃ k p : Nat, k ≤ i ∧ j = .int .i64 (k : Int) ∧ x = .int .i64 (p : Int) ∧ p ≤ 1048576 ∧ Hid (p = 2 ^ k)) (fun _ j => i - (intOf j).toNat)
    case atStart => exact ⟨0, 1, by omega, rfl, rfl, by omega, Lib.hid rfl⟩
    case round =>
      obtain ⟨k, p, hk, rfl, rfl, hp, HP⟩ := hrel
      by_cases hlt : k < i
      · have HN : Hid (p * 2 = 2 ^ (k + 1)) := Lib.hid (by rw [Nat.pow_succ, HP.out])
        have hp2 : p * 2 ≤ 1048576 := by
          rw [HN.out]
          have : 2 ^ (k + 1) ≤ 2 ^ 20 := Nat.pow_le_pow_right (by omega) (by omega)
          omega
        go_wp2_with fail
        go_round
        case rel => exact ⟨k + 1, p * 2, by omega, by go_num, by go_num, by omega, HN⟩
        case measure => simp [intOf]; omega
      · obtain rfl : k = i := by omega
        go_wp2_with fail
        go_ret
        exact ⟨ret_int (by rw [HR.out, ← HP.out]; simp), rfl⟩
end Go.Proofs.YtboealolklojiaaGreatDoor
namespace Go.Proofs.YtboealolklojiaaGreatDoor
open Go.RowKit
open Wd (Bs)

def NoOne (nm x : Bs) (k : Nat) : Prop := ∀ j, 0 < j → j < k → Fil.bdOne nm x j = none
theorem NoOne.next {nm x : Bs} {k : Nat} (h : NoOne nm x k) (hk : Fil.bdOne nm x k = none) : NoOne nm x (k + 1) := by
  intro j h0 hj
  by_cases e : j = k
  · subst e; exact hk
  · exact h j h0 (by omega)
theorem rdB_hit {nm x : Bs} {k : Nat} {b : Fil.Bd} (h0 : 0 < k) (h3 : k ≤ 3) (hn : NoOne nm x k) (h : Fil.bdOne nm x k = some b) : Fil.rdB nm x = b := by
  unfold Fil.rdB
  match k, h0, h3, hn, h with
  | 1, _, _, _, h => rw [h]; rfl
  | 2, _, _, hn, h => rw [hn 1 (by omega) (by omega), h]; rfl
  | 3, _, _, hn, h => rw [hn 1 (by omega) (by omega), hn 2 (by omega) (by omega), h]; rfl
theorem rdB_miss {nm x : Bs} (hn : NoOne nm x 4) : Fil.rdB nm x = Fil.zeroB := by
  unfold Fil.rdB
  rw [hn 1 (by omega) (by omega), hn 2 (by omega) (by omega), hn 3 (by omega) (by omega)]
  rfl
set_option maxHeartbeats 2000000 in
set_option maxRecDepth 100000 in
theorem refRead13 (x nm : ByteArray) (w : World) (hx : x.size ≤ 1000000) (hn : nm.size ≤ 1000) :
    Calls Tryz.prog 72 #[.string x, .string nm] w fun e w' => e = .returned (.agg #[.int .i64 (Fil.rdB nm.data.toList x.data.toList).kind, .int .i64 (Fil.rdB nm.data.toList x.data.toList).n]) ∧ Below w.heap.size w w' := by
  obtain ⟨wB, hwB⟩ : ∃ wB, wB = w.alloc (.cells #[.int .i64 0, .int .i64 0] 23) := ⟨_, rfl⟩
  have hbB : Below w.heap.size w wB := by rw [hwB]; exact (Below.refl _ _).alloc (Nat.le_refl _) _
  have HKB : Hid (Blk wB w.heap.size #[.int .i64 Fil.zeroB.kind, .int .i64 Fil.zeroB.n] 23) := Lib.hid (by rw [hwB]; exact Blk.new w _ _)
  have HBB := Lib.hid hbB
  obtain ⟨rb, hrb⟩ : ∃ rb, rb = Fil.rdB nm.data.toList x.data.toList := ⟨_, rfl⟩
  rw [← hrb]
  have HRB := Lib.hid hrb
  clear hbB hrb
  go_enter Tryz.func72, Tryz.ntmps72
  go_wp2_with fail
  rw [← hwB]
  clear hwB
  refine (rtab_signsL _).mono ?_
  rintro e w2 ⟨rfl, hw2⟩
  have hb2 : Below wB.heap.size wB w2 := by rw [hw2]; exact (Below.refl _ _).alloc (Nat.le_refl _) _
  have HT2 : Hid (Blk w2 wB.heap.size (Fil.signsL.map str).toArray 9) := Lib.hid (by rw [hw2]; exact Blk.new wB _ _)
  have HK2 : Hid (Blk w2 w.heap.size #[.int .i64 Fil.zeroB.kind, .int .i64 Fil.zeroB.n] 23) := Lib.hid (HKB.out.below hb2 HKB.out.lt)
  have HB2 := Lib.hid (HBB.out.trans (hb2.mono HBB.out.size))
  have HLT : Hid (w.heap.size < w2.heap.size ∧ wB.heap.size < w2.heap.size) := Lib.hid ⟨HK2.out.lt, HT2.out.lt⟩
  clear hb2 hw2 HKB
  go_wp2_with fail
  go_loopw [6] (fun i wr => ∃ k : Nat, 1 ≤ k ∧ k ≤ 4 ∧ i = .int .i64 (k : Int) ∧ NoOne nm.data.toList x.data.toList k ∧ Below w2.heap.size w2 wr) (fun i _ => 4 - (intOf i).toNat)
  case atStart => exact ⟨1, by omega, by omega, rfl, fun j h0 hj => by omega, Below.refl _ _⟩
  case round =>
    obtain ⟨k, hk1, hk, rfl, hno, hbr⟩ := hrel
    have HNO := Lib.hid hno
    have HBR := Lib.hid hbr
    have hkr : Blk wr w.heap.size #[.int .i64 Fil.zeroB.kind, .int .i64 Fil.zeroB.n] 23 := HK2.out.below hbr HLT.out.1
    have HKR := Lib.hid hkr
    by_cases hlt : k < 4
    · obtain ⟨sx, hsx, ex⟩ := exists_bytes (Fil.signW k)
      have hcell : wr.cell? ⟨wB.heap.size, k, none⟩ = some (.string sx) := by
        rw [hbr.cell (p := ⟨wB.heap.size, k, none⟩) HLT.out.2, ← ex, HT2.out.cell k]
        simp [sign_at (show k ≤ 3 by omega)]
      have l1 : sx.size ≤ 2 := by have := sign_len k; rw [← hsx] at this; simpa using this
      have hcat : ∀ W : World, (Op.stringOp .add nm sx).run Tryz.prog W = .ok (.string (nm ++ sx)) W := fun W => run_string_add_sum W _ _ (by omega)
      have hcb : (nm ++ sx).data.toList = nm.data.toList ++ Fil.signW k := by rw [cat_bytes, hsx]
      have hA := refAfter13 x (nm ++ sx) wr
      rw [hcb] at hA
      obtain ⟨ok, hok⟩ : ∃ ok, ok = (nm.data.toList ++ Fil.signW k).isPrefixOf x.data.toList := ⟨_, rfl⟩
      rw [← hok] at hA
      obtain ⟨d, hd, ed⟩ := exists_bytes (if ok = true then x.data.toList.drop (nm.data.toList ++ Fil.signW k).length else [])
      rw [ed] at hA
      have HA := Lib.hid hA
      have hdl : d.size ≤ 1000000 := by
        have h2 : d.data.toList.length ≤ x.data.toList.length := by
          rw [hd]
          split
          · rw [List.length_drop]; omega
          · exact Nat.zero_le _
        simp at h2; omega
      obtain ⟨n, hnn⟩ : ∃ n, n = (Num.numberL d.data.toList).getD 0 := ⟨_, rfl⟩
      obtain ⟨is, his⟩ : ∃ is, is = (Num.numberL d.data.toList).isSome := ⟨_, rfl⟩
      have HNUM : Hid (∀ W, Calls Tryz.prog 89 #[.string d] W fun e w' => e = .returned (.tuple #[.int .i64 n, .bool is]) ∧ Below W.heap.size W w') := Lib.hid (fun W => by
        rw [hnn, his]; exact refNumber d (by omega) W)
      have hone : Fil.bdOne nm.data.toList x.data.toList k = if ok && is then some ⟨k, n⟩ else none := by
        unfold Fil.bdOne Fil.bdN
        rw [← hok]
        cases ok with
        | false => rfl
        | true =>
          rw [if_pos rfl]
          rw [if_pos rfl] at hd
          rw [← hd, his, hnn]
          cases Num.numberL d.data.toList <;> rfl
      cases hoi : ok && is with
      | true =>
        have HR : Hid (rb = ⟨k, n⟩) := Lib.hid (by rw [HRB.out, rdB_hit (by omega) (by omega) HNO.out (by rw [hone, hoi, if_pos rfl])])
        obtain ⟨rfl, rfl⟩ : ok = true ∧ is = true := by simpa using hoi
        clear hoi hone hcb hsx ex hA hd ed hnn his hok hno hkr
        go_wp2_with fail
        refine HA.out.mono ?_
        rintro e w3 ⟨rfl, rfl⟩
        go_wp2_with fail
        refine (HNUM.out _).mono ?_
        rintro e w4 ⟨rfl, hb4⟩
        have k4 := HKR.out.below hb4 HKR.out.lt
        have HB4 := Lib.hid (HB2.out.trans ((HBR.out.trans (hb4.mono HBR.out.size)).mono HB2.out.size))
        have z0 := k4.free 0
        have z1 := k4.free 1
        have y0 : w4.cell? ⟨w.heap.size, 0, none⟩ = some (.int .i64 0) := k4.cell 0
        have y1 : w4.cell? ⟨w.heap.size, 1, none⟩ = some (.int .i64 0) := k4.cell 1
        have HK4 := Lib.hid k4
        clear hb4 k4
        go_wp2_with fail
        change bodyPost _ _ _ _ _ (setB w4 w.heap.size ⟨(k : Int), n⟩)
        have hB : Blk (setB w4 w.heap.size ⟨(k : Int), n⟩) w.heap.size #[.int .i64 (k : Int), .int .i64 n] 23 := HK4.out.setB ⟨(k : Int), n⟩
        have HGF : Hid (Below w.heap.size w (setB w4 w.heap.size ⟨(k : Int), n⟩)) := Lib.hid ((HB4.out.setCell (by exact Nat.le_refl _) _).setCell (by exact Nat.le_refl _) _)
        generalize setB w4 w.heap.size ⟨(k : Int), n⟩ = wf at hB HGF ⊢
        have q0 : wf.cell? ⟨w.heap.size, 0, none⟩ = some (.int .i64 (k : Int)) := hB.cell 0
        have q1 : wf.cell? ⟨w.heap.size, 1, none⟩ = some (.int .i64 n) := hB.cell 1
        exact bodyPost_ret (v := .agg #[.int .i64 (k : Int), .int .i64 n]) (by simp [results, Tryz.results72, go_sem, q0, q1]) rfl ⟨by rw [HR.out], HGF.out⟩
      | false =>
        have HNX := Lib.hid (HNO.out.next (by rw [hone, hoi]; rfl))
        clear hone hcb hsx ex hA hd ed hnn his hok hno hkr
        cases ok with
        | false =>
          clear hoi
          go_wp2_with fail
          refine HA.out.mono ?_
          rintro e w3 ⟨rfl, rfl⟩
          go_wp2_with fail
          refine (HNUM.out _).mono ?_
          rintro e w4 ⟨rfl, hb4⟩
          have HB4 := Lib.hid (HBR.out.trans (hb4.mono HBR.out.size))
          clear hb4
          go_wp2_with fail
          go_roundw
          case rel => exact ⟨k + 1, by omega, by omega, by go_num, HNX.out, HB4.out⟩
          case measure => simp [intOf]; omega
        | true =>
          obtain rfl : is = false := by simpa using hoi
          clear hoi
          go_wp2_with fail
          refine HA.out.mono ?_
          rintro e w3 ⟨rfl, rfl⟩
          go_wp2_with fail
          refine (HNUM.out _).mono ?_
          rintro e w4 ⟨rfl, hb4⟩
          have HB4 := Lib.hid (HBR.out.trans (hb4.mono HBR.out.size))
          clear hb4
          go_wp2_with fail
          go_roundw
          case rel => exact ⟨k + 1, by omega, by omega, by go_num, HNX.out, HB4.out⟩
          case measure => simp [intOf]; omega
    · obtain rfl : k = 4 := by omega
      have HR : Hid (rb = Fil.zeroB) := Lib.hid (by rw [HRB.out, rdB_miss HNO.out])
      have HB4 := Lib.hid (HB2.out.trans (HBR.out.mono HB2.out.size))
      have z0 := hkr.free 0
      have z1 := hkr.free 1
      have y0 : wr.cell? ⟨w.heap.size, 0, none⟩ = some (.int .i64 0) := hkr.cell 0
      have y1 : wr.cell? ⟨w.heap.size, 1, none⟩ = some (.int .i64 0) := hkr.cell 1
      clear hkr hbr hno
      go_wp2_with fail
      change bodyPost _ _ _ _ _ (setB wr w.heap.size Fil.zeroB)
      have hB : Blk (setB wr w.heap.size Fil.zeroB) w.heap.size #[.int .i64 0, .int .i64 0] 23 := HKR.out.setB Fil.zeroB
      have HGF : Hid (Below w.heap.size w (setB wr w.heap.size Fil.zeroB)) := Lib.hid ((HB4.out.setCell (by exact Nat.le_refl _) _).setCell (by exact Nat.le_refl _) _)
      generalize setB wr w.heap.size Fil.zeroB = wf at hB HGF ⊢
      have q0 : wf.cell? ⟨w.heap.size, 0, none⟩ = some (.int .i64 0) := hB.cell 0
      have q1 : wf.cell? ⟨w.heap.size, 1, none⟩ = some (.int .i64 0) := hB.cell 1
      exact bodyPost_ret (v := .agg #[.int .i64 0, .int .i64 0]) (by simp [results, Tryz.results72, go_sem, q0, q1]) rfl ⟨by rw [HR.out]; rfl, HGF.out⟩
end Go.Proofs.YtboealolklojiaaGreatDoor
