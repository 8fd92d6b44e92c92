/-
  CONTRACT OF LAYER 13 (filter): readBound. By an AI agent.
-/
import Derived.Test.YtkohfomiigcifaaGreatDoorFilReaders
namespace Go.Proofs.YtkohfomiigcifaaGreatDoor
open Go.RowKit
open Wd (Bs)

def NoSign (nm x : Bs) (k : Nat) : Prop := ∀ j, 0 < j → j < k → (nm ++ Fil.signW j).isPrefixOf x = false
theorem NoSign.next {nm x : Bs} {k : Nat} (h : NoSign nm x k) (hk : k = 0 ∨ (nm ++ Fil.signW k).isPrefixOf x = false) : NoSign nm x (k + 1) := by
  intro j h0 hj
  by_cases e : j = k
  · subst e; rcases hk with hk | hk
    · omega
    · exact hk
  · exact h j h0 (by omega)
theorem bdK_hit {nm x : Bs} {k : Nat} (h0 : 0 < k) (h3 : k ≤ 3) (hn : NoSign nm x k) (h : (nm ++ Fil.signW k).isPrefixOf x = true) : Fil.bdK nm x = k := by
  unfold Fil.bdK
  match k, h0, h3, hn, h with
  | 1, _, _, _, h => rw [if_pos h]
  | 2, _, _, hn, h => rw [hn 1 (by omega) (by omega), if_neg (by simp), if_pos h]
  | 3, _, _, hn, h => rw [hn 1 (by omega) (by omega), hn 2 (by omega) (by omega), if_neg (by simp), if_neg (by simp), if_pos h]
theorem bdK_miss {nm x : Bs} (hn : NoSign nm x 4) : Fil.bdK nm x = 0 := by
  unfold Fil.bdK
  rw [hn 1 (by omega) (by omega), hn 2 (by omega) (by omega), hn 3 (by omega) (by omega)]
  rfl
theorem rBd_hit {nm : Bs} {st : Fil.St} {k : Nat} (h0 : 0 < k) (h3 : k ≤ 3) (hn : NoSign nm st.1 k) (h : (nm ++ Fil.signW k).isPrefixOf st.1 = true) :
    Fil.rBd nm st = (⟨k, Fil.num (st.1.drop (nm ++ Fil.signW k).length)⟩, Fil.adv st) := by
  unfold Fil.rBd
  rw [bdK_hit h0 h3 hn h, if_neg (by omega)]
  rfl
theorem rBd_miss {nm : Bs} {st : Fil.St} (hn : NoSign nm st.1 4) : Fil.rBd nm st = (Fil.zeroB, st) := by
  unfold Fil.rBd
  rw [bdK_miss hn, if_pos rfl]
def setB (w : World) (b : Nat) (q : Fil.Bd) : World := (w.setCell ⟨b, 0, none⟩ (.int .i64 q.kind)).setCell ⟨b, 1, none⟩ (.int .i64 q.n)
theorem Blk.setB {w : World} {b : Nat} {p : Fil.Bd} {t : TypeId} (h : Blk w b #[.int .i64 p.kind, .int .i64 p.n] t) (q : Fil.Bd) : Blk (setB w b q) b #[.int .i64 q.kind, .int .i64 q.n] t := (h.set 0 _).set 1 _
theorem Blk.setB_other {w : World} {b g : Nat} {cs : Array Value} {t : TypeId} (h : Blk w b cs t) (hg : b ≠ g) (q : Fil.Bd) : Blk (Go.Proofs.YtkohfomiigcifaaGreatDoor.setB w g q) b cs t := (h.other hg _ _).other hg _ _
theorem ret_bd {p q : Fil.Bd} (h : p = q) : Ending.returned (.agg #[.int .i64 p.kind, .int .i64 p.n]) = .returned (.agg #[.int .i64 q.kind, .int .i64 q.n]) := by rw [h]
set_option maxHeartbeats 2000000 in
set_option maxRecDepth 100000 in
theorem filReadBound (b : Nat) (nm : ByteArray) (st : Fil.St) (w : World) (h : WAt w b st) (hs : Short st) (hn : nm.size ≤ 1000) {C : Nat} {w0 : World} (hb0 : Below C w0 w) (hCb : C ≤ b) (hE : ∀ W, Below C w0 W → Env W) :
    Calls Tryz.prog 151 #[.string nm, .func (.func 148) #[.pointer (some ⟨b, 0, none⟩)] #[]] w
      fun e w' => e = .returned (.agg #[.int .i64 (Fil.rBd nm.data.toList st).1.kind, .int .i64 (Fil.rBd nm.data.toList st).1.n]) ∧ WAt w' b (Fil.rBd nm.data.toList st).2 ∧ w.grownBy w' (some b) := by
  have HCS : Hid (C ≤ w.heap.size) := Lib.hid (Nat.le_of_lt (Nat.lt_of_le_of_lt hCb h.lt))
  have hlt := h.lt
  obtain ⟨wB, hwB⟩ : ∃ wB, wB = w.alloc (.cells #[.int .i64 0, .int .i64 0] 23) := ⟨_, rfl⟩
  have hbB : Below w.heap.size w wB := by rw [hwB]; exact (Below.refl _ _).alloc (Nat.le_refl _) _
  have hkB : Blk wB w.heap.size #[.int .i64 Fil.zeroB.kind, .int .i64 Fil.zeroB.n] 23 := by rw [hwB]; exact Blk.new w _ _
  have HW := Lib.hid (show WAt wB b st from h.below hbB hlt)
  have HS := Lib.hid hs
  have HB0 : Hid (Below C w0 wB) := Lib.hid (hb0.trans (hbB.mono HCS.out))
  have HBB := Lib.hid hbB
  have HKB := Lib.hid hkB
  have HCB := Lib.hid hCb
  have HE := Lib.hid hE
  have HLT := Lib.hid hlt
  clear h hs hb0 hCb hE hbB hkB hlt
  go_enter Tryz.func151, Tryz.ntmps151
  go_wp2_with fail
  rw [← hwB]
  clear hwB
  refine (tab_signsL _).mono ?_
  rintro e w2 ⟨rfl, hw2⟩
  have hb2 : Below wB.heap.size wB w2 := by rw [hw2]; exact (Below.refl _ _).alloc (Nat.le_refl _) _
  have hk2 : Blk w2 wB.heap.size (Fil.signsL.map str).toArray 9 := by rw [hw2]; exact Blk.new wB _ _
  have HW2 := Lib.hid (show WAt w2 b st from HW.out.below hb2 HW.out.lt)
  have HK2 := Lib.hid (show Blk w2 w.heap.size #[.int .i64 Fil.zeroB.kind, .int .i64 Fil.zeroB.n] 23 from HKB.out.below hb2 HKB.out.lt)
  have HT2 := Lib.hid hk2
  have HB2 := Lib.hid (HBB.out.trans (hb2.mono HBB.out.size))
  have HC2 := Lib.hid (HB0.out.trans (hb2.mono (Nat.le_trans HCS.out HBB.out.size)))
  clear hb2 hk2 hw2 HW HKB HB0
  go_wp2_with fail
  go_loop [13] (fun i => ∃ k : Nat, k ≤ 4 ∧ i = .int .i64 (k : Int) ∧ NoSign nm.data.toList st.1 k) (fun i => 4 - (intOf i).toNat)
  case atStart => exact ⟨0, by omega, rfl, fun j _ hj => by omega⟩
  case round =>
    obtain ⟨k, hk, rfl, hno⟩ := hrel
    have HNO := Lib.hid hno
    clear hno
    by_cases hlt : k < 4
    · obtain ⟨sx, hsx, ex⟩ := exists_bytes (Fil.signW k)
      have hcell : w2.cell? ⟨wB.heap.size, k, none⟩ = some (.string sx) := by
        rw [← ex, HT2.out.cell k]
        simp [sign_at (show k ≤ 3 by omega)]
      by_cases h0 : k = 0
      · have HNX := Lib.hid (HNO.out.next (.inl h0))
        have e0 : ((k : Int) == 0) = true := by rw [h0]; rfl
        clear h0
        go_wp2_with fail
        go_roundw
        case rel => exact ⟨k + 1, by omega, by go_num, HNX.out⟩
        case measure => simp [intOf]; omega
      · have e0 : ((k : Int) == 0) = false := by simp; omega
        have l1 : sx.size ≤ 2 := by have := sign_len k; rw [← hsx] at this; simpa using this
        have hcat : ∀ W : World, (Op.stringOp .add nm sx).run Tryz.prog W = .ok (.string (nm ++ sx)) W := fun W => run_string_add_sum W _ _ (by omega)
        have hcb : (nm ++ sx).data.toList = nm.data.toList ++ Fil.signW k := by rw [cat_bytes, hsx]
        cases hp : (nm.data.toList ++ Fil.signW k).isPrefixOf st.1 with
        | false =>
          have HNX := Lib.hid (HNO.out.next (.inr hp))
          have HT := Lib.hid (afterMiss b st (nm ++ sx) w2 HW2.out (by rw [hcb]; exact hp))
          clear hp hcb hsx ex h0
          go_wp2_with fail
          refine HT.out.mono ?_
          rintro e w3 ⟨rfl, rfl⟩
          go_wp2_with fail
          go_roundw
          case rel => exact ⟨k + 1, by omega, by go_num, HNX.out⟩
          case measure => simp [intOf]; omega
        | true =>
          have HR := Lib.hid (rBd_hit (by omega) (by omega) HNO.out hp)
          obtain ⟨d, hd, ed⟩ := exists_bytes (st.1.drop (nm.data.toList ++ Fil.signW k).length)
          have hT := afterHit b st (nm ++ sx) w2 HW2.out (by rw [hcb]; exact hp) HS.out
          rw [hcb, ed] at hT
          have HT := Lib.hid hT
          have HD := Lib.hid hd
          have hdl : d.size ≤ 1000000 := by
            have h1 := HS.out.1
            have h2 : d.data.toList.length ≤ st.1.length := by rw [hd, List.length_drop]; omega
            simp at h2; omega
          obtain ⟨n, hnn⟩ : ∃ n, n = Fil.num d.data.toList := ⟨_, rfl⟩
          have HN := Lib.hid hnn
          obtain ⟨ok, hok⟩ : ∃ ok, ok = (Num.numberL d.data.toList).isSome := ⟨_, rfl⟩
          have HNUM : Hid (∀ W, EnvN W → Calls Tryz.prog 102 #[.string d] W fun e w' => e = .returned (.tuple #[.int .i64 n, .bool ok]) ∧ Below W.heap.size W w') := Lib.hid (fun W hW => by
            rw [hnn, hok]; exact numNumber d (by omega) W hW)
          clear hp hcb hsx ex h0 hT hd ed hnn hok
          go_wp2_with fail
          refine HT.out.mono ?_
          rintro e w3 ⟨rfl, hw3, hg3⟩
          have HW3 := Lib.hid hw3
          have HG3 := Lib.hid hg3
          have HC3 := Lib.hid (HC2.out.grown hg3 (Nat.le_trans HCS.out HB2.out.size) (fun j e => by injection e with e; rw [← e]; exact HCB.out))
          have HK3 := Lib.hid (HK2.out.grown hg3 (Nat.ne_of_gt HLT.out))
          clear hw3 hg3
          go_wp2_with fail
          refine (HNUM.out _ (HE.out _ HC3.out).num).mono ?_
          rintro e w4 ⟨rfl, hb4⟩
          have HW4 := Lib.hid (show WAt w4 b (Fil.adv st) from HW3.out.below hb4 HW3.out.lt)
          have k4 := HK3.out.below hb4 HK3.out.lt
          have HG4 := Lib.hid (gTrans (gTrans (gBelow (some b) HB2.out) HG3.out) (gBelow (some b) hb4))
          have z0 := k4.free 0
          have z1 := k4.free 1
          have y0 : w4.cell? ⟨w.heap.size, 0, none⟩ = some (.int .i64 0) := k4.cell 0
          have y1 : w4.cell? ⟨w.heap.size, 1, none⟩ = some (.int .i64 0) := k4.cell 1
          have HK4 := Lib.hid k4
          clear hb4 k4
          go_wp2_with fail
          change bodyPost _ _ _ _ _ (setB w4 w.heap.size ⟨(k : Int), n⟩)
          have hB : (setB w4 w.heap.size ⟨(k : Int), n⟩).heap[w.heap.size]? = some (.cells #[.int .i64 (k : Int), .int .i64 n] 23 (0, 0)) := HK4.out.setB ⟨(k : Int), n⟩
          have HWF : Hid (WAt (setB w4 w.heap.size ⟨(k : Int), n⟩) b (Fil.adv st)) := Lib.hid (Blk.setB_other HW4.out (Nat.ne_of_lt HLT.out) _)
          have HGF : Hid (w.grownBy (setB w4 w.heap.size ⟨(k : Int), n⟩) (some b)) := Lib.hid (gSetNew (gSetNew HG4.out (Nat.le_refl _) 0 _) (Nat.le_refl _) 1 _)
          generalize setB w4 w.heap.size ⟨(k : Int), n⟩ = wf at hB HWF HGF ⊢
          have q0 : wf.cell? ⟨w.heap.size, 0, none⟩ = some (.int .i64 (k : Int)) := Blk.cell hB 0
          have q1 : wf.cell? ⟨w.heap.size, 1, none⟩ = some (.int .i64 n) := Blk.cell hB 1
          have HR2 : Fil.rBd nm.data.toList st = (⟨(k : Int), n⟩, Fil.adv st) := by rw [HR.out, HN.out, HD.out]
          exact bodyPost_ret (v := .agg #[.int .i64 (k : Int), .int .i64 n]) (by simp [results, Tryz.results151, go_sem, q0, q1]) rfl ⟨by rw [HR2], by rw [HR2]; exact HWF.out, HGF.out⟩
    · obtain rfl : k = 4 := by omega
      have HR := Lib.hid (rBd_miss HNO.out)
      have k4 := HK2.out
      have z0 := k4.free 0
      have z1 := k4.free 1
      have y0 : w2.cell? ⟨w.heap.size, 0, none⟩ = some (.int .i64 0) := k4.cell 0
      have y1 : w2.cell? ⟨w.heap.size, 1, none⟩ = some (.int .i64 0) := k4.cell 1
      clear k4
      go_wp2_with fail
      change bodyPost _ _ _ _ _ (setB w2 w.heap.size Fil.zeroB)
      have hB : (setB w2 w.heap.size Fil.zeroB).heap[w.heap.size]? = some (.cells #[.int .i64 0, .int .i64 0] 23 (0, 0)) := HK2.out.setB Fil.zeroB
      have HWF : Hid (WAt (setB w2 w.heap.size Fil.zeroB) b st) := Lib.hid (Blk.setB_other HW2.out (Nat.ne_of_lt HLT.out) _)
      have HGF : Hid (w.grownBy (setB w2 w.heap.size Fil.zeroB) (some b)) := Lib.hid (gSetNew (gSetNew (gBelow (some b) HB2.out) (Nat.le_refl _) 0 _) (Nat.le_refl _) 1 _)
      generalize setB w2 w.heap.size Fil.zeroB = wf at hB HWF HGF ⊢
      have q0 : wf.cell? ⟨w.heap.size, 0, none⟩ = some (.int .i64 0) := Blk.cell hB 0
      have q1 : wf.cell? ⟨w.heap.size, 1, none⟩ = some (.int .i64 0) := Blk.cell hB 1
      exact bodyPost_ret (v := .agg #[.int .i64 0, .int .i64 0]) (by simp [results, Tryz.results151, go_sem, q0, q1]) rfl ⟨by rw [HR.out]; rfl, by rw [HR.out]; exact HWF.out, HGF.out⟩
end Go.Proofs.YtkohfomiigcifaaGreatDoor
