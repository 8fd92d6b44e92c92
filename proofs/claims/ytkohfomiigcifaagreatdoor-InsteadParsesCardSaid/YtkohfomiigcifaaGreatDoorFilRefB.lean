/-
  CONTRACT OF LAYER 13's REFERENCE: read. By an AI agent.
-/
import Derived.Test.YtkohfomiigcifaaGreatDoorFilRefA
namespace Go.Proofs.YtkohfomiigcifaaGreatDoor
open Go.RowKit
open Wd (Bs)

def NoOne (nm x : Bs) (k : Nat) : Prop := ∀ j, 0 < j → j < k → Fil.bdOne nm x j = none
theorem NoOne.next {nm x : Bs} {k : Nat} (h : NoOne nm x k) (hk : Fil.bdOne nm x k = none) : NoOne nm x (k + 1) := by
  intro j h0 hj
  by_cases e : j = k
  · subst e; exact hk
  · exact h j h0 (by omega)
theorem rdB_hit {nm x : Bs} {k : Nat} {b : Fil.Bd} (h0 : 0 < k) (h3 : k ≤ 3) (hn : NoOne nm x k) (h : Fil.bdOne nm x k = some b) : Fil.rdB nm x = b := by
  unfold Fil.rdB
  match k, h0, h3, hn, h with
  | 1, _, _, _, h => rw [h]; rfl
  | 2, _, _, hn, h => rw [hn 1 (by omega) (by omega), h]; rfl
  | 3, _, _, hn, h => rw [hn 1 (by omega) (by omega), hn 2 (by omega) (by omega), h]; rfl
theorem rdB_miss {nm x : Bs} (hn : NoOne nm x 4) : Fil.rdB nm x = Fil.zeroB := by
  unfold Fil.rdB
  rw [hn 1 (by omega) (by omega), hn 2 (by omega) (by omega), hn 3 (by omega) (by omega)]
  rfl
set_option maxHeartbeats 2000000 in
set_option maxRecDepth 100000 in
theorem refRead13 (x nm : ByteArray) (w : World) (hx : x.size ≤ 1000000) (hn : nm.size ≤ 1000) :
    Calls Tryz.prog 110 #[.string x, .string nm] w fun e w' => e = .returned (.agg #[.int .i64 (Fil.rdB nm.data.toList x.data.toList).kind, .int .i64 (Fil.rdB nm.data.toList x.data.toList).n]) ∧ Below w.heap.size w w' := by
  obtain ⟨wB, hwB⟩ : ∃ wB, wB = w.alloc (.cells #[.int .i64 0, .int .i64 0] 23) := ⟨_, rfl⟩
  have hbB : Below w.heap.size w wB := by rw [hwB]; exact (Below.refl _ _).alloc (Nat.le_refl _) _
  have HKB : Hid (Blk wB w.heap.size #[.int .i64 Fil.zeroB.kind, .int .i64 Fil.zeroB.n] 23) := Lib.hid (by rw [hwB]; exact Blk.new w _ _)
  have HBB := Lib.hid hbB
  obtain ⟨rb, hrb⟩ : ∃ rb, rb = Fil.rdB nm.data.toList x.data.toList := ⟨_, rfl⟩
  rw [← hrb]
  have HRB := Lib.hid hrb
  clear hbB hrb
  go_enter Tryz.func110, Tryz.ntmps110
  go_wp2_with fail
  rw [← hwB]
  clear hwB
  refine (rtab_signsL _).mono ?_
  rintro e w2 ⟨rfl, hw2⟩
  have hb2 : Below wB.heap.size wB w2 := by rw [hw2]; exact (Below.refl _ _).alloc (Nat.le_refl _) _
  have HT2 : Hid (Blk w2 wB.heap.size (Fil.signsL.map str).toArray 9) := Lib.hid (by rw [hw2]; exact Blk.new wB _ _)
  have HK2 : Hid (Blk w2 w.heap.size #[.int .i64 Fil.zeroB.kind, .int .i64 Fil.zeroB.n] 23) := Lib.hid (HKB.out.below hb2 HKB.out.lt)
  have HB2 := Lib.hid (HBB.out.trans (hb2.mono HBB.out.size))
  have HLT : Hid (w.heap.size < w2.heap.size ∧ wB.heap.size < w2.heap.size) := Lib.hid ⟨HK2.out.lt, HT2.out.lt⟩
  clear hb2 hw2 HKB
  go_wp2_with fail
  go_loopw [6] (fun i wr => ∃ k : Nat, 1 ≤ k ∧ k ≤ 4 ∧ i = .int .i64 (k : Int) ∧ NoOne nm.data.toList x.data.toList k ∧ Below w2.heap.size w2 wr) (fun i _ => 4 - (intOf i).toNat)
  case atStart => exact ⟨1, by omega, by omega, rfl, fun j h0 hj => by omega, Below.refl _ _⟩
  case round =>
    obtain ⟨k, hk1, hk, rfl, hno, hbr⟩ := hrel
    have HNO := Lib.hid hno
    have HBR := Lib.hid hbr
    have hkr : Blk wr w.heap.size #[.int .i64 Fil.zeroB.kind, .int .i64 Fil.zeroB.n] 23 := HK2.out.below hbr HLT.out.1
    have HKR := Lib.hid hkr
    by_cases hlt : k < 4
    · obtain ⟨sx, hsx, ex⟩ := exists_bytes (Fil.signW k)
      have hcell : wr.cell? ⟨wB.heap.size, k, none⟩ = some (.string sx) := by
        rw [hbr.cell (p := ⟨wB.heap.size, k, none⟩) HLT.out.2, ← ex, HT2.out.cell k]
        simp [sign_at (show k ≤ 3 by omega)]
      have l1 : sx.size ≤ 2 := by have := sign_len k; rw [← hsx] at this; simpa using this
      have hcat : ∀ W : World, (Op.stringOp .add nm sx).run Tryz.prog W = .ok (.string (nm ++ sx)) W := fun W => run_string_add_sum W _ _ (by omega)
      have hcb : (nm ++ sx).data.toList = nm.data.toList ++ Fil.signW k := by rw [cat_bytes, hsx]
      have hA := refAfter13 x (nm ++ sx) wr
      rw [hcb] at hA
      obtain ⟨ok, hok⟩ : ∃ ok, ok = (nm.data.toList ++ Fil.signW k).isPrefixOf x.data.toList := ⟨_, rfl⟩
      rw [← hok] at hA
      obtain ⟨d, hd, ed⟩ := exists_bytes (if ok = true then x.data.toList.drop (nm.data.toList ++ Fil.signW k).length else [])
      rw [ed] at hA
      have HA := Lib.hid hA
      have hdl : d.size ≤ 1000000 := by
        have h2 : d.data.toList.length ≤ x.data.toList.length := by
          rw [hd]
          split
          · rw [List.length_drop]; omega
          · exact Nat.zero_le _
        simp at h2; omega
      obtain ⟨n, hnn⟩ : ∃ n, n = (Num.numberL d.data.toList).getD 0 := ⟨_, rfl⟩
      obtain ⟨is, his⟩ : ∃ is, is = (Num.numberL d.data.toList).isSome := ⟨_, rfl⟩
      have HNUM : Hid (∀ W, Calls Tryz.prog 112 #[.string d] W fun e w' => e = .returned (.tuple #[.int .i64 n, .bool is]) ∧ Below W.heap.size W w') := Lib.hid (fun W => by
        rw [hnn, his]; exact refNumber d (by omega) W)
      have hone : Fil.bdOne nm.data.toList x.data.toList k = if ok && is then some ⟨k, n⟩ else none := by
        unfold Fil.bdOne Fil.bdN
        rw [← hok]
        cases ok with
        | false => rfl
        | true =>
          rw [if_pos rfl]
          rw [if_pos rfl] at hd
          rw [← hd, his, hnn]
          cases Num.numberL d.data.toList <;> rfl
      cases hoi : ok && is with
      | true =>
        have HR : Hid (rb = ⟨k, n⟩) := Lib.hid (by rw [HRB.out, rdB_hit (by omega) (by omega) HNO.out (by rw [hone, hoi, if_pos rfl])])
        obtain ⟨rfl, rfl⟩ : ok = true ∧ is = true := by simpa using hoi
        clear hoi hone hcb hsx ex hA hd ed hnn his hok hno hkr
        go_wp2_with fail
        refine HA.out.mono ?_
        rintro e w3 ⟨rfl, rfl⟩
        go_wp2_with fail
        refine (HNUM.out _).mono ?_
        rintro e w4 ⟨rfl, hb4⟩
        have k4 := HKR.out.below hb4 HKR.out.lt
        have HB4 := Lib.hid (HB2.out.trans ((HBR.out.trans (hb4.mono HBR.out.size)).mono HB2.out.size))
        have z0 := k4.free 0
        have z1 := k4.free 1
        have y0 : w4.cell? ⟨w.heap.size, 0, none⟩ = some (.int .i64 0) := k4.cell 0
        have y1 : w4.cell? ⟨w.heap.size, 1, none⟩ = some (.int .i64 0) := k4.cell 1
        have HK4 := Lib.hid k4
        clear hb4 k4
        go_wp2_with fail
        change bodyPost _ _ _ _ _ (setB w4 w.heap.size ⟨(k : Int), n⟩)
        have hB : Blk (setB w4 w.heap.size ⟨(k : Int), n⟩) w.heap.size #[.int .i64 (k : Int), .int .i64 n] 23 := HK4.out.setB ⟨(k : Int), n⟩
        have HGF : Hid (Below w.heap.size w (setB w4 w.heap.size ⟨(k : Int), n⟩)) := Lib.hid ((HB4.out.setCell (by exact Nat.le_refl _) _).setCell (by exact Nat.le_refl _) _)
        generalize setB w4 w.heap.size ⟨(k : Int), n⟩ = wf at hB HGF ⊢
        have q0 : wf.cell? ⟨w.heap.size, 0, none⟩ = some (.int .i64 (k : Int)) := hB.cell 0
        have q1 : wf.cell? ⟨w.heap.size, 1, none⟩ = some (.int .i64 n) := hB.cell 1
        exact bodyPost_ret (v := .agg #[.int .i64 (k : Int), .int .i64 n]) (by simp [results, Tryz.results110, go_sem, q0, q1]) rfl ⟨by rw [HR.out], HGF.out⟩
      | false =>
        have HNX := Lib.hid (HNO.out.next (by rw [hone, hoi]; rfl))
        clear hone hcb hsx ex hA hd ed hnn his hok hno hkr
        cases ok with
        | false =>
          clear hoi
          go_wp2_with fail
          refine HA.out.mono ?_
          rintro e w3 ⟨rfl, rfl⟩
          go_wp2_with fail
          refine (HNUM.out _).mono ?_
          rintro e w4 ⟨rfl, hb4⟩
          have HB4 := Lib.hid (HBR.out.trans (hb4.mono HBR.out.size))
          clear hb4
          go_wp2_with fail
          go_roundw
          case rel => exact ⟨k + 1, by omega, by omega, by go_num, HNX.out, HB4.out⟩
          case measure => simp [intOf]; omega
        | true =>
          obtain rfl : is = false := by simpa using hoi
          clear hoi
          go_wp2_with fail
          refine HA.out.mono ?_
          rintro e w3 ⟨rfl, rfl⟩
          go_wp2_with fail
          refine (HNUM.out _).mono ?_
          rintro e w4 ⟨rfl, hb4⟩
          have HB4 := Lib.hid (HBR.out.trans (hb4.mono HBR.out.size))
          clear hb4
          go_wp2_with fail
          go_roundw
          case rel => exact ⟨k + 1, by omega, by omega, by go_num, HNX.out, HB4.out⟩
          case measure => simp [intOf]; omega
    · obtain rfl : k = 4 := by omega
      have HR : Hid (rb = Fil.zeroB) := Lib.hid (by rw [HRB.out, rdB_miss HNO.out])
      have HB4 := Lib.hid (HB2.out.trans (HBR.out.mono HB2.out.size))
      have z0 := hkr.free 0
      have z1 := hkr.free 1
      have y0 : wr.cell? ⟨w.heap.size, 0, none⟩ = some (.int .i64 0) := hkr.cell 0
      have y1 : wr.cell? ⟨w.heap.size, 1, none⟩ = some (.int .i64 0) := hkr.cell 1
      clear hkr hbr hno
      go_wp2_with fail
      change bodyPost _ _ _ _ _ (setB wr w.heap.size Fil.zeroB)
      have hB : Blk (setB wr w.heap.size Fil.zeroB) w.heap.size #[.int .i64 0, .int .i64 0] 23 := HKR.out.setB Fil.zeroB
      have HGF : Hid (Below w.heap.size w (setB wr w.heap.size Fil.zeroB)) := Lib.hid ((HB4.out.setCell (by exact Nat.le_refl _) _).setCell (by exact Nat.le_refl _) _)
      generalize setB wr w.heap.size Fil.zeroB = wf at hB HGF ⊢
      have q0 : wf.cell? ⟨w.heap.size, 0, none⟩ = some (.int .i64 0) := hB.cell 0
      have q1 : wf.cell? ⟨w.heap.size, 1, none⟩ = some (.int .i64 0) := hB.cell 1
      exact bodyPost_ret (v := .agg #[.int .i64 0, .int .i64 0]) (by simp [results, Tryz.results110, go_sem, q0, q1]) rfl ⟨by rw [HR.out]; rfl, HGF.out⟩
end Go.Proofs.YtkohfomiigcifaaGreatDoor
