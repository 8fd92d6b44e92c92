/-
  CONTRACTS OF LAYER 13's REFERENCE: index, after, mask. By an AI agent.
-/
import Derived.Test.YtkohfomiigcifaaGreatDoorFilRefTab
import Derived.Test.YtkohfomiigcifaaGreatDoorFilReadB
namespace Go.Proofs.YtkohfomiigcifaaGreatDoor
open Go.RowKit
open Wd (Bs)

theorem hit_one (l : List Bs) (x : Bs) : Fil.hitAt l x = (Fil.rOne l (x, [])).1 := by
  unfold Fil.rOne
  show _ = (if 0 < Fil.hitAt l x then (Fil.hitAt l x, Fil.adv (x, [])) else (0, (x, []))).1
  split
  · rfl
  · show _ = 0; omega
theorem hit_at {l : List Bs} {x y : Bs} {k : Nat} (hk : l[k]? = some y) (h0 : l[0]? = some []) (hy : y ≠ []) (he : x = y) (hn : NoHit l x k) : Fil.hitAt l x = k := by
  rw [hit_one, rOne_hit (st := (x, [])) hk h0 hy he hn]
theorem hit_none {l : List Bs} {x : Bs} (hn : NoHit l x l.length) : Fil.hitAt l x = 0 := by
  rw [hit_one, rOne_miss (st := (x, [])) hn]
set_option maxHeartbeats 1000000 in
set_option maxRecDepth 100000 in
theorem refIndex13 (g n : Nat) (l : List Bs) (s : ByteArray) (w : World) (hn : l.length = n) (h100 : n ≤ 100) (h1 : 1 ≤ n) (h0 : l[0]? = some []) (hne : ∀ k y, 0 < k → l[k]? = some y → y ≠ [])
    (hc : ∀ k x, l[k]? = some x → w.cell? ⟨g, k, none⟩ = some (str x)) :
    Calls Tryz.prog 108 #[.slice (some ⟨g, 0, none⟩) n n, .string s] w fun e w' => e = .returned (.int .i64 (Fil.hitAt l s.data.toList : Nat)) ∧ w = w' := by
  have HC := Lib.hid hc
  have H0 := Lib.hid h0
  have HN := Lib.hid hn
  have HNE := Lib.hid hne
  clear hc h0 hn hne
  go_enter Tryz.func108, Tryz.ntmps108
  go_wp2_with fail
  go_loop [5] (fun i => ∃ k : Nat, 1 ≤ k ∧ k ≤ n ∧ i = .int .i64 (k : Int) ∧ NoHit l s.data.toList k) (fun i => n - (intOf i).toNat)
  case atStart => exact ⟨1, by omega, by omega, rfl, fun j y hj hy => .inl (by
    obtain rfl : j = 0 := by omega
    rw [H0.out] at hy; injection hy with hy; exact hy.symm)⟩
  case round =>
    obtain ⟨k, hk1, hk, rfl, hno⟩ := hrel
    have HNO := Lib.hid hno
    clear hno
    by_cases hlt : k < n
    · obtain ⟨y, hy⟩ : ∃ y, l[k]? = some y := ⟨_, List.getElem?_eq_getElem (show k < l.length by rw [HN.out]; exact hlt)⟩
      obtain ⟨sx, hsx, ex⟩ := exists_bytes y
      have hcell : w.cell? ⟨g, k, none⟩ = some (.string sx) := by rw [← ex]; exact HC.out k y hy
      by_cases he : y = s.data.toList
      · have ht : (sx.toList == s.toList) = true := bytes_eq (by rw [hsx]; exact he)
        have HR := Lib.hid (hit_at hy H0.out (HNE.out k y (by omega) hy) he.symm HNO.out)
        clear hy hsx ex he
        go_wp2_with fail
        go_ret
        exact ⟨by rw [HR.out]; rfl, rfl⟩
      · have ht : (sx.toList == s.toList) = false := bytes_ne (by rw [hsx]; exact he)
        have HNX := Lib.hid (HNO.out.next hy (.inr he))
        clear hy hsx ex he
        go_wp2_with fail
        go_round
        case rel => exact ⟨k + 1, by omega, by omega, by go_num, HNX.out⟩
        case measure => simp [intOf]; omega
    · obtain rfl : k = n := by omega
      have HR := Lib.hid (hit_none (l := l) (x := s.data.toList) (by rw [HN.out]; exact HNO.out))
      go_wp2_with fail
      go_ret
      exact ⟨by rw [HR.out]; rfl, rfl⟩
theorem refAfter13 (s p : ByteArray) (w : World) :
    Calls Tryz.prog 109 #[.string s, .string p] w fun e w' => e = .returned (.tuple #[str (if p.data.toList.isPrefixOf s.data.toList then s.data.toList.drop p.data.toList.length else []), .bool (p.data.toList.isPrefixOf s.data.toList)]) ∧ w = w' := by
  cases h : p.data.toList.isPrefixOf s.data.toList with
  | true =>
    have hl : p.size ≤ s.size := by have := Wd.isPrefixOf_len h; simpa using this
    have hl1 : (p.size : Int) ≤ (s.size : Int) := by omega
    have hl2 : ¬ (s.size : Int) < (p.size : Int) := by omega
    have ht : ((s.extract 0 p.size).toList == p.toList) = true := bytes_eq (by
      rw [extract_take]
      have := Fil.pre_head h
      simpa using this)
    obtain ⟨x, hx⟩ : ∃ x, x = str (s.data.toList.drop p.data.toList.length) := ⟨_, rfl⟩
    rw [if_pos rfl, ← hx]
    have HD : Hid (Value.string (s.extract p.size s.size) = x) := Lib.hid (by
      rw [hx, show p.data.toList.length = p.size by simp, ← extract_drop]; rfl)
    clear h hx
    go_enter Tryz.func109, Tryz.ntmps109
    go_wp2_with fail
    go_ret2
    exact ⟨by rw [← HD.out]; rfl, rfl⟩
  | false =>
    rw [if_neg (by simp)]
    by_cases hl : s.size < p.size
    · have hl2 : (s.size : Int) < (p.size : Int) := by omega
      clear h
      go_enter Tryz.func109, Tryz.ntmps109
      go_wp2_with fail
      go_ret2
      exact ⟨rfl, rfl⟩
    · have hl1 : (p.size : Int) ≤ (s.size : Int) := by omega
      have hl2 : ¬ (s.size : Int) < (p.size : Int) := by omega
      have ht : ((s.extract 0 p.size).toList == p.toList) = false := bytes_ne (by
        rw [extract_take]
        intro e
        have : p.data.toList.isPrefixOf s.data.toList = true := by
          rw [List.isPrefixOf_iff_prefix]
          exact ⟨s.data.toList.drop p.size, by rw [← e]; exact List.take_append_drop _ _⟩
        rw [this] at h; cases h)
      clear h
      go_enter Tryz.func109, Tryz.ntmps109
      go_wp2_with fail
      go_ret2
      exact ⟨rfl, rfl⟩
theorem refMask13 (m i : Nat) (w : World) (hm : m ≤ 1073741824) (hi : i ≤ 20) :
    Calls Tryz.prog 134 #[.int .i64 m, .int .i64 i] w fun e w' => e = .returned (.int .i64 (Fil.setB m i : Nat)) ∧ w = w' := by
  have HB := Lib.hid (refBit13 m i w (by omega) (by omega))
  have hi1 : (i : Int) ≤ 20 := by omega
  have hm1 : (m : Int) ≤ 1073741824 := by omega
  cases hb : Num.bitB m i with
  | true =>
    have HR : Hid (Fil.setB m i = m) := Lib.hid (by unfold Fil.setB; rw [if_pos hb])
    have HBB := Lib.hid hb
    clear hb
    go_enter Tryz.func134, Tryz.ntmps134
    go_wp2_with fail
    refine HB.out.mono ?_
    rw [HBB.out]
    rintro e w1 ⟨rfl, rfl⟩
    go_wp2_with fail
    go_ret
    exact ⟨by rw [HR.out]; rfl, rfl⟩
  | false =>
    have HR : Hid (Fil.setB m i = m + 2 ^ i) := Lib.hid (by unfold Fil.setB; rw [if_neg (by simp [hb])])
    have HBB := Lib.hid hb
    clear hb
    go_enter Tryz.func134, Tryz.ntmps134
    go_wp2_with fail
    refine HB.out.mono ?_
    rw [HBB.out]
    rintro e w1 ⟨rfl, rfl⟩
    go_wp2_with fail
    go_loop [5, 6] (fun x j => ∃ k p : Nat, k ≤ i ∧ j = .int .i64 (k : Int) ∧ x = .int .i64 (p : Int) ∧ p ≤ 1048576 ∧ Hid (p = 2 ^ k)) (fun _ j => i - (intOf j).toNat)
    case atStart => exact ⟨0, 1, by omega, rfl, rfl, by omega, Lib.hid rfl⟩
    case round =>
      obtain ⟨k, p, hk, rfl, rfl, hp, HP⟩ := hrel
      by_cases hlt : k < i
      · have HN : Hid (p * 2 = 2 ^ (k + 1)) := Lib.hid (by rw [Nat.pow_succ, HP.out])
        have hp2 : p * 2 ≤ 1048576 := by
          rw [HN.out]
          have : 2 ^ (k + 1) ≤ 2 ^ 20 := Nat.pow_le_pow_right (by omega) (by omega)
          omega
        go_wp2_with fail
        go_round
        case rel => exact ⟨k + 1, p * 2, by omega, by go_num, by go_num, by omega, HN⟩
        case measure => simp [intOf]; omega
      · obtain rfl : k = i := by omega
        go_wp2_with fail
        go_ret
        exact ⟨ret_int (by rw [HR.out, ← HP.out]; simp), rfl⟩
end Go.Proofs.YtkohfomiigcifaaGreatDoor
