/-
  CONTRACTS OF LAYER 5 AND OF ITS REFERENCE: Open; the reference's Seal and Open. By an AI agent.
-/
import Derived.Test.YtahaggliplcijaaSumWalksC
import Derived.Deep.DeepCutAuto
import Derived.Deep.CutRange
import Derived.Deep.RegionHeld3
namespace Go.Proofs.Ytahaggliplcijaa
open Go.RowKit

/-- what Open leaves -/
def OpenRes (l : List UInt8) (w : World) : Ending → World → Prop := fun e w' => ∃ v, e = .returned (.tuple #[v, .int .i64 (Crc.openV l).2]) ∧ OwnB w.heap.size w' v (Crc.openV l).1 ∧ Below w.heap.size w w'
theorem undrew {B : Nat} {w w' : World} (hb : Below B w.drew w') : Below B w w' := ⟨hb.os, hb.tape, hb.output, hb.size, hb.block⟩
theorem RowIn.heap {α : Type} {enc : α → Value} {lo hi : Nat} {w w' : World} {v : Value} {l : List α} (h : RowIn enc lo hi w v l) (e : w'.heap = w.heap) : RowIn enc 0 w'.heap.size w' v l :=
  (h.keep (by rw [e]; exact Nat.le_refl _) fun k _ _ _ => by rw [e]).all
theorem OpenRes.few {l : List UInt8} (h : l.length < 4) (w : World) : OpenRes l w (.returned (.tuple #[.slice none 0 0, .int .i64 4])) w := by
  have e : Crc.openV l = ([], 4) := by unfold Crc.openV; rw [if_pos h]
  unfold OpenRes
  rw [e]
  exact ⟨_, rfl, OwnRow.nil _ _ _ _, Below.refl _ _⟩
theorem OpenRes.bad {l : List UInt8} {w w' : World} (h : 4 ≤ l.length) (hk : Crc.okS l = false) (hb : Below w.heap.size w w') : OpenRes l w (.returned (.tuple #[.slice none 0 0, .int .i64 8])) w' := by
  have e : Crc.openV l = ([], 8) := by unfold Crc.openV; rw [if_neg (by omega), hk]; rfl
  unfold OpenRes
  rw [e]
  exact ⟨_, rfl, OwnRow.nil _ _ _ _, hb⟩
theorem OpenRes.good {l : List UInt8} {w w' : World} {v : Value} (h : 4 ≤ l.length) (hk : Crc.okS l = true) (ho : OwnB w.heap.size w' v (l.take (l.length - 4))) (hb : Below w.heap.size w w') : OpenRes l w (.returned (.tuple #[v, .int .i64 0])) w' := by
  have e : Crc.openV l = (l.take (l.length - 4), 0) := by unfold Crc.openV; rw [if_neg (by omega), hk]; rfl
  unfold OpenRes
  rw [e]
  exact ⟨_, rfl, ho, hb⟩
set_option maxHeartbeats 1000000 in
set_option maxRecDepth 100000 in
theorem sumOpen (v : Value) (l : List UInt8) (w : World) (hv : Bytes w v l) (hl : l.length ≤ 100000) :
    Calls Try.prog 14 #[v] w (OpenRes l w) := by
  have HV := hv
  obtain ⟨a, cap, rfl, h1, h2, h3, h4⟩ := hv
  unfold maxLen at h2
  by_cases hs : l.length < 4
  · have hs' : (l.length : Int) < 4 := by omega
    clear h3 h4
    go_enter Try.func14, Try.ntmps14
    go_wp2
    go_ret2
    exact OpenRes.few hs w
  · obtain ⟨b, o, rfl, -, -, -, -⟩ := h4 0 _ (getD_get (d := 0) (by omega))
    obtain ⟨n, hn⟩ : ∃ n, l.length = n + 4 := ⟨l.length - 4, by omega⟩
    have hhead := HV.take n (by omega)
    have htail := HV.drop rfl n (by omega)
    have hk0 : Crc.okS l = sameB (l.drop n) (Crc.endS (l.take n)) := by
      unfold Crc.okS sameB
      rw [hn, Nat.add_sub_cancel]
    have ht : l.length - 4 = n := by omega
    have hln : (l.take n).length = n := by rw [List.length_take]; omega
    rw [hn, Nat.add_sub_cancel_left] at htail
    have hgood := fun v w' => OpenRes.good (l := l) (w := w) (w' := w') (v := v) (by omega)
    have hbad := fun w' => OpenRes.bad (l := l) (w := w) (w' := w') (by omega)
    rw [ht] at hgood
    rw [hk0] at hgood hbad
    rw [hn] at HV h1 ⊢
    generalize hP : l.take n = p at hhead hgood hbad hln
    generalize l.drop n = q at htail hgood hbad
    have HG := Lib.hid hgood
    have HB := Lib.hid hbad
    have i0 : (0 : Int) ≤ (n : Int) := by omega
    have i1 : (n : Int) ≤ ((n + 4 : Nat) : Int) := by omega
    have i2 : (n : Int) ≤ (cap : Int) := by omega
    have i3 : ((n + 4 : Nat) : Int) - 4 = (n : Int) := by omega
    have i4 : ¬ ((n + 4 : Nat) : Int) < 4 := by omega
    have i5 : (n : Int) < (cap : Int) := by omega
    have i6 : ¬ n = cap := by omega
    have i7 : ¬ cap - n = 0 := by omega
    have i8 : ¬ cap = n := by omega
    have i9 : ¬ cap ≤ n := by omega
    have hpl : p.length ≤ 100000 := by omega
    clear hgood hbad hP hk0 ht hln h3 h4 hn hs hl h1
    go_enter Try.func14, Try.ntmps14
    go_wp2
    go_cut [19] (fun s wx => s = .bool (!sameB q (Crc.endS p)) ∧ Below w.heap.size w wx)
    case first =>
     go_region_with
      (first
        | (go_at_call 17; refine (sumEnding _ p _ (hhead.heap (by rfl)) (by omega)).mono ?_; rintro e w1 ⟨v1, rfl, ho, hb1⟩; have hB1 : Below w.heap.size w w1 := undrew hb1)
        | (go_at_call 18; refine (bytesEqual _ _ q (Crc.endS p) _ (htail.below hB1 (Nat.le_refl _)) ho.row).mono ?_; rintro e w2 ⟨rfl, rfl⟩))
     all_goals ((try go_wp2_with fail); (try simp only [Act.put, List.getElem_toArray, List.getElem_cons_succ, List.getElem_cons_zero, List.setIfInBounds_toArray, List.set_cons_zero, List.set_cons_succ]); go_meet; exact ⟨by first | trivial | rfl | simp [Act.put], hB1⟩)
    case rest =>
    obtain ⟨rfl, hBc⟩ := hcut
    cases hsm : sameB q (Crc.endS p) with
    | false =>
      have HR := Lib.hid (HB.out _ hsm hBc)
      clear hsm
      go_wp2_with fail
      go_ret2
      exact HR.out
    | true =>
      have HR := Lib.hid fun v w' => HG.out v w' hsm
      clear hsm
      go_wp2_with fail
      refine (clone _ p _ (hhead.below hBc (Nat.le_refl _)).all (by omega)).mono ?_
      rintro e w3 ⟨v3, rfl, ho3, hb3⟩
      go_wp2_with fail
      go_ret2
      exact HR.out _ _ (ho3.mono hBc.size) (hBc.trans (hb3.mono hBc.size))
end Go.Proofs.Ytahaggliplcijaa
