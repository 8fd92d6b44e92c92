/-
  CONTRACTS OF LAYER 13's REFERENCE: the tables, bit, typeWord, names, add, boundWord. By an AI agent.
-/
import Derived.Test.YtkohfomiigcifaaGreatDoorFilText
import Derived.Test.YtkohfomiigcifaaGreatDoorFLineR
import Derived.Test.YtkohfomiigcifaaGreatDoorFNumR
import Derived.Test.YtkohfomiigcifaaGreatDoorFColR
import Derived.Test.YtkohfomiigcifaaGreatDoorFKeyR
namespace Go.Proofs.YtkohfomiigcifaaGreatDoor
open Go.RowKit
open Wd (Bs)

theorem rtab_zonesL (w : World) : Calls Tryz.prog 55 #[] w fun e w' => e = .returned (.slice (some ⟨w.heap.size, 0, none⟩) 6 6) ∧ w' = w.alloc (.cells (Fil.zonesL.map str).toArray 9) := by
  go_enter Tryz.func55, Tryz.ntmps55
  go_wp2_with fail
  go_ret
  exact ⟨rfl, rfl⟩
theorem rtab_whoL (w : World) : Calls Tryz.prog 56 #[] w fun e w' => e = .returned (.slice (some ⟨w.heap.size, 0, none⟩) 3 3) ∧ w' = w.alloc (.cells (Fil.whoL.map str).toArray 9) := by
  go_enter Tryz.func56, Tryz.ntmps56
  go_wp2_with fail
  go_ret
  exact ⟨rfl, rfl⟩
theorem rtab_selfL (w : World) : Calls Tryz.prog 57 #[] w fun e w' => e = .returned (.slice (some ⟨w.heap.size, 0, none⟩) 3 3) ∧ w' = w.alloc (.cells (Fil.selfL.map str).toArray 9) := by
  go_enter Tryz.func57, Tryz.ntmps57
  go_wp2_with fail
  go_ret
  exact ⟨rfl, rfl⟩
theorem rtab_tapL (w : World) : Calls Tryz.prog 58 #[] w fun e w' => e = .returned (.slice (some ⟨w.heap.size, 0, none⟩) 3 3) ∧ w' = w.alloc (.cells (Fil.tapL.map str).toArray 9) := by
  go_enter Tryz.func58, Tryz.ntmps58
  go_wp2_with fail
  go_ret
  exact ⟨rfl, rfl⟩
theorem rtab_signsL (w : World) : Calls Tryz.prog 97 #[] w fun e w' => e = .returned (.slice (some ⟨w.heap.size, 0, none⟩) 4 4) ∧ w' = w.alloc (.cells (Fil.signsL.map str).toArray 9) := by
  go_enter Tryz.func97, Tryz.ntmps97
  go_wp2_with fail
  go_ret
  exact ⟨rfl, rfl⟩
theorem refBit13 (m i : Nat) (w : World) (hm : (m : Int) ≤ 9223372036854775807) (hi : (i : Int) ≤ 100) :
    Calls Tryz.prog 60 #[.int .i64 m, .int .i64 i] w fun e w' => e = .returned (.bool (Num.bitB m i)) ∧ w = w' := by
  go_enter Tryz.func60, Tryz.ntmps60
  go_wp2
  go_loop [0, 5] (fun x j => ∃ k q : Nat, k ≤ i ∧ j = .int .i64 (k : Int) ∧ x = .int .i64 (q : Int) ∧ (q : Int) ≤ 9223372036854775807 ∧ Hid (q = m / 2 ^ k)) (fun _ j => i - (intOf j).toNat)
  case atStart => exact ⟨0, m, by omega, rfl, rfl, hm, Lib.hid (by simp)⟩
  case round =>
    obtain ⟨k, q, hk, rfl, rfl, hq, HQ⟩ := hrel
    by_cases hlt : k < i
    · go_wp2
      go_round
      case rel => exact ⟨k + 1, q / 2, by omega, by go_num, by go_num, by omega, Lib.hid (by rw [HQ.out, Num.half_pow])⟩
      case measure => simp [intOf]; omega
    · obtain rfl : k = i := by omega
      go_wp2
      go_ret
      exact ⟨ret_bool (by rw [Num.half_test, HQ.out]; rfl), rfl⟩
theorem refTypeWord13 (i : Nat) (hi : i ≤ 20) (w : World) :
    Calls Tryz.prog 61 #[.int .i64 i] w fun e w' => e = .returned (str (Fil.typeW i)) ∧ Below w.heap.size w w' := by
  have hi1 : (i : Int) ≤ 20 := by omega
  have HT := Lib.hid (typesI_pow i)
  go_enter Tryz.func61, Tryz.ntmps61
  go_wp2_with fail
  go_loop [3, 4] (fun x j => ∃ k p : Nat, k ≤ i ∧ j = .int .i64 (k : Int) ∧ x = .int .i64 (p : Int) ∧ p ≤ 1048576 ∧ Hid (p = 2 ^ k)) (fun _ j => i - (intOf j).toNat)
  case atStart => exact ⟨0, 1, by omega, rfl, rfl, by omega, Lib.hid rfl⟩
  case round =>
    obtain ⟨k, p, hk, rfl, rfl, hp, HP⟩ := hrel
    by_cases hlt : k < i
    · have HN : Hid (p * 2 = 2 ^ (k + 1)) := Lib.hid (by rw [Nat.pow_succ, HP.out])
      have hp2 : p * 2 ≤ 1048576 := by
        rw [HN.out]
        have : 2 ^ (k + 1) ≤ 2 ^ 20 := Nat.pow_le_pow_right (by omega) (by omega)
        omega
      go_wp2_with fail
      go_round
      case rel => exact ⟨k + 1, p * 2, by omega, by go_num, by go_num, by omega, HN⟩
      case measure => simp [intOf]; omega
    · obtain rfl : k = i := by omega
      have HC : Hid (∀ W, Calls Tryz.prog 95 #[.int .i64 (p : Int)] W fun e w' => e = .returned (str (Fil.typeW k)) ∧ Below W.heap.size W w') := Lib.hid (fun W => by
        have h := refTypesText10 ((p : Nat) : Int) W
        rw [HP.out, HT.out] at h
        rw [HP.out]
        exact h)
      go_wp2_with fail
      refine (HC.out _).mono ?_
      rintro e w1 ⟨rfl, hb⟩
      have HB := Lib.hid hb
      clear hb
      go_wp2_with fail
      go_ret
      exact ⟨rfl, HB.out⟩
theorem refNameC (k : Nat) (w : World) : Calls Tryz.prog 62 #[.int .i64 k] w fun e w' => e = .returned (str (Col.name k)) ∧ Below w.heap.size w w' :=
  (refName9 k w).mono fun e w' ⟨he, hw⟩ => by rw [he, Col.nameI_nat, hw]; exact ⟨rfl, Below.refl _ _⟩
theorem refNameK (k : Nat) (w : World) : Calls Tryz.prog 63 #[.int .i64 k] w fun e w' => e = .returned (str (Kw.name k)) ∧ Below w.heap.size w w' :=
  (refName11 k w).mono fun e w' ⟨he, hb⟩ => by rw [he, Kw.nameI_nat]; exact ⟨rfl, hb⟩
/-- a word more, unless it is empty -/
theorem refAdd13 {B : Nat} {w0 w : World} {v : Value} {l : List Bs} (s : ByteArray) (hown : OwnStrs B w v l) (hb : Below B w0 w) (hl : l.length ≤ 1000000) (hB : B ≤ w.heap.size) :
    Calls Tryz.prog 59 #[v, .string s] w fun e w' => ∃ v', e = .returned v' ∧ OwnStrs B w' v' (l ++ Fil.one s.data.toList) ∧ Below B w0 w' := by
  have HO := Lib.hid hown
  have HB := Lib.hid hb
  have HL : Hid (l.length ≤ 1000000000000) := Lib.hid (by omega)
  clear hown hb hl
  rcases sub_cases s with ⟨t1, e1⟩ | ⟨t1, e1⟩
  · have HE : Hid (l ++ Fil.one s.data.toList = l) := Lib.hid (by rw [e1]; exact List.append_nil l)
    clear e1
    go_enter Tryz.func59, Tryz.ntmps59
    go_wp2_with fail
    go_ret
    exact ⟨_, rfl, by rw [HE.out]; exact HO.out, HB.out⟩
  · have HE : Hid (Fil.one s.data.toList = [s.data.toList]) := Lib.hid (by unfold Fil.one; rw [if_neg e1])
    clear e1
    go_enter Tryz.func59, Tryz.ntmps59
    go_wp2_with (at_builtin; refine wpList_push_str rfl _ _ rfl rfl HO.out s rfl HL.out hB HB.out ?_)
    intro v' w1 ho hb'
    have HO1 := Lib.hid ho
    have HB1 := Lib.hid hb'
    clear ho hb'
    go_wp2_with fail
    go_ret
    exact ⟨_, rfl, by rw [HE.out]; exact HO1.out, HB1.out⟩
set_option maxHeartbeats 2000000 in
set_option maxRecDepth 100000 in
theorem refBoundWord (nm : ByteArray) (b : Fil.Bd) (w : World) (hn : nm.size ≤ 1000) (hv : Fil.bdB b = true) :
    Calls Tryz.prog 64 #[.string nm, .agg #[.int .i64 b.kind, .int .i64 b.n]] w fun e w' => e = .returned (str (Fil.bdW nm.data.toList b)) ∧ Below w.heap.size w w' := by
  have hb0 : Below w.heap.size w (w.alloc (.cells #[.int .i64 b.kind, .int .i64 b.n] 23)) := (Below.refl _ _).alloc (Nat.le_refl _) _
  have HB0 := Lib.hid hb0
  by_cases hk : b.kind = 0
  · have hk' : (b.kind == 0) = true := by simp [hk]
    have HR : Hid (Fil.bdW nm.data.toList b = []) := Lib.hid (by unfold Fil.bdW; rw [if_pos hk])
    clear hk hb0
    go_enter Tryz.func64, Tryz.ntmps64
    go_wp2_with fail
    go_ret
    exact ⟨by rw [HR.out]; rfl, HB0.out⟩
  · obtain ⟨h0, h1, h2, h3, -⟩ := Fil.bd_valid hv
    obtain ⟨k, hkk⟩ : ∃ k : Nat, b.kind = (k : Int) := ⟨b.kind.toNat, by omega⟩
    obtain ⟨n, hnn⟩ : ∃ n, b.n = n := ⟨_, rfl⟩
    obtain ⟨sx, hsx, ex⟩ := exists_bytes (Fil.signW k)
    obtain ⟨sn, hsn, en⟩ := exists_bytes (Lib.itoa n)
    have HN : Hid (∀ W, Calls Tryz.prog 66 #[.int .i64 n] W fun e w' => e = .returned (.string sn) ∧ Below W.heap.size W w') :=
      Lib.hid fun W => (refText n (by omega) (by omega) W).mono fun e w' ⟨he, hb⟩ => ⟨he.trans (congrArg _ en), hb⟩
    have HR : Hid (Fil.bdW nm.data.toList b = (nm ++ sx ++ sn).data.toList) := Lib.hid (by
      unfold Fil.bdW; rw [if_neg hk, cat_bytes, cat_bytes, hsx, hsn, hkk, hnn]; rfl)
    have l1 : sx.size ≤ 2 := by have := sign_len k; rw [← hsx] at this; simpa using this
    have l2 : sn.size ≤ 21 := by have := Num.itoa_len (n := n) (by omega) (by omega); rw [← hsn] at this; simpa using this
    have a1 : ∀ W : World, (Op.stringOp .add nm sx).run Tryz.prog W = .ok (.string (nm ++ sx)) W := fun W => run_string_add_sum W _ _ (by omega)
    have a2 : ∀ W : World, (Op.stringOp .add (nm ++ sx) sn).run Tryz.prog W = .ok (.string (nm ++ sx ++ sn)) W := fun W => run_string_add_sum W _ _ (by rw [ByteArray.size_append]; omega)
    have hk' : ((k : Int) == 0) = false := by simp; omega
    have k0 : (0 : Int) ≤ (k : Int) := by omega
    have k4 : (k : Int) < 4 := by omega
    have k4' : k < 4 := by omega
    have HX : Hid (Fil.signsL[k]? = some sx.data.toList) := Lib.hid (by rw [hsx]; exact sign_at (by omega))
    have hbb : b = ⟨(k : Int), n⟩ := by cases b; simp_all
    subst hbb
    obtain ⟨w0, hw0⟩ : ∃ w0, w0 = w.alloc (.cells #[.int .i64 (k : Int), .int .i64 n] 23) := ⟨_, rfl⟩
    rw [← hw0] at HB0
    have K0 : Hid (Blk w0 w.heap.size #[.int .i64 (k : Int), .int .i64 n] 23) := Lib.hid (by rw [hw0]; exact Blk.new w _ _)
    clear hk hkk hnn h0 h1 h2 h3 hv hsx hsn en ex hb0 l1 l2 hn
    go_enter Tryz.func64, Tryz.ntmps64
    go_wp2_with fail
    rw [← hw0]
    clear hw0
    refine (rtab_signsL _).mono ?_
    rintro e w2 ⟨rfl, hw2⟩
    have hb2 : Below w0.heap.size w0 w2 := by rw [hw2]; exact (Below.refl _ _).alloc (Nat.le_refl _) _
    have K2 := Lib.hid (K0.out.below hb2 K0.out.lt)
    have T2 : Hid (Blk w2 w0.heap.size (Fil.signsL.map str).toArray 9) := Lib.hid (by rw [hw2]; exact Blk.new w0 _ _)
    have HB2 := Lib.hid (HB0.out.trans (hb2.mono HB0.out.size))
    have c0 : w2.cell? ⟨w.heap.size, 0, none⟩ = some (.int .i64 (k : Int)) ∧ w2.cell? ⟨w.heap.size, 1, none⟩ = some (.int .i64 n) ∧ w2.cell? ⟨w0.heap.size, k, none⟩ = some (.string sx) := ⟨K2.out.cell 0, K2.out.cell 1, by
      rw [T2.out.cell k]; simp [HX.out]; rfl⟩
    have CL : Hid (w.heap.size < w2.heap.size ∧ w0.heap.size < w2.heap.size) := Lib.hid ⟨K2.out.lt, T2.out.lt⟩
    have C0 := Lib.hid c0
    clear hw2 hb2
    go_wp2_with fail
    go_region_held3 (fun W => W.cell? ⟨w.heap.size, 0, none⟩ = some (.int .i64 (k : Int)) ∧ W.cell? ⟨w.heap.size, 1, none⟩ = some (.int .i64 n) ∧ W.cell? ⟨w0.heap.size, k, none⟩ = some (.string sx))
      (first | (with_reducible exact c0) | (with_reducible exact ⟨(hb3.cell (p := ⟨w.heap.size, 0, none⟩) CL.out.1).trans C0.out.1, (hb3.cell (p := ⟨w.heap.size, 1, none⟩) CL.out.1).trans C0.out.2.1, (hb3.cell (p := ⟨w0.heap.size, k, none⟩) CL.out.2).trans C0.out.2.2⟩) | go_keep)
      (first | (go_at_call 66; refine (fromBase (C := w2.heap.size) (w0 := w2) ?_ (Nat.le_refl _) (HN.out _)).mono ?_; (go_grown); rintro e w3 ⟨rfl, hb3⟩))
    have HBF := Lib.hid (HB2.out.trans (hb3.mono HB2.out.size))
    clear hb3 c0
    go_wp2_with fail
    go_ret
    exact ⟨by rw [HR.out]; rfl, HBF.out⟩
end Go.Proofs.YtkohfomiigcifaaGreatDoor
