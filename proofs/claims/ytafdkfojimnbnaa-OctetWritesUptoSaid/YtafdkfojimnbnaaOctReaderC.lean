/-
  CONTRACTS OF LAYER 4: the program's reader: Ints, New; a nil reader. By an AI agent.
-/
import Derived.Test.YtafdkfojimnbnaaOctReaderB
namespace Go.Proofs.Ytafdkfojimnbnaa
open Go.RowKit
open Go.Lib (uvarint uvarint_small uvarint_big zigzag unzigzag)

theorem grownBy_own {a b c : World} {r r' : Option Nat} (h : a.grownBy b r) (k : b.grownBy c r') (hr : ∀ j, r' = some j → a.heap.size ≤ j) : a.grownBy c r :=
  ⟨k.os.trans h.os, k.tape.trans h.tape, k.output.trans h.output, Nat.le_trans h.size k.size, fun i hi hne => (k.block i (Nat.lt_of_lt_of_le hi h.size) fun e => by have := hr i e.symm; omega).trans (h.block i hi hne)⟩
/-- a list in new memory, and the reader -/
def LeavesInts (lo g : Nat) (w : World) (l : List Int) (s : Oct.St) : Ending → World → Prop := fun e w' => ∃ v, e = .returned v ∧ OwnI w.heap.size w' v l ∧ RdO lo g w' s ∧ w.grownBy w' (some g)
theorem loopS_step {n : Nat} {s : Oct.St} {acc : List Int} (h : (Oct.intS s).2.2 = 0) (hn : 0 < n) : Oct.loopS n s acc = Oct.loopS (n - 1) (Oct.intS s).2 (acc ++ [(Oct.intS s).1]) := by
  match n, hn with
  | n + 1, _ => rw [Oct.loopS, if_pos h, Nat.add_sub_cancel]
theorem loopS_stop {n : Nat} {s : Oct.St} {acc : List Int} (h : (Oct.intS s).2.2 ≠ 0) (hn : 0 < n) : Oct.loopS n s acc = ([], (Oct.intS s).2) := by
  match n, hn with
  | n + 1, _ => rw [Oct.loopS, if_neg h]
set_option maxHeartbeats 1000000 in
set_option maxRecDepth 100000 in
theorem octInts {lo g : Nat} {s : Oct.St} (most : Int) (h0 : -9223372036854775808 ≤ most) (h1 : most ≤ 9223372036854775807) (w : World) (h : RdO lo g w s) (hs : s.1.length ≤ 999999999999) :
    Calls Try.prog 24 #[ptr g, .int .i64 most] w (LeavesInts lo g w (Oct.intsS most s).1 (Oct.intsS most s).2) := by
  have hlt := (Oct.uintS_lt (max most 0).toNat s).1
  replace hlt : (Oct.lenS most s).1 < 18446744073709551616 := hlt
  have hsh := Oct.uintS_len (max most 0).toNat s
  replace hsh : (Oct.lenS most s).2.1.length ≤ s.1.length := hsh
  have HT := Lib.hid (show Oct.intsS most s = Oct.loopS (Oct.lenS most s).1 (Oct.lenS most s).2 [] from rfl)
  have hlen := octLength most h0 h1 w h
  generalize Oct.lenS most s = p at hlt HT hlen hsh
  obtain ⟨n, s1⟩ := p
  replace hlt : n < 18446744073709551616 := hlt
  replace hsh : s1.1.length ≤ s.1.length := hsh
  have n0 : (0 : Int) ≤ (n : Int) := by omega
  have n1 : (n : Int) ≤ 18446744073709551615 := by omega
  have hgl := h.lt
  go_enter Try.func24, Try.ntmps24
  go_wp2_with fail
  refine hlen.mono ?_
  rintro e w1 ⟨rfl, hr1, hg1⟩
  go_wp2_with fail
  go_loopw [5, 10] (fun v i wr => ∃ k : Nat, k ≤ n ∧ i = .int .u64 (k : Int) ∧ ∃ (acc : List Int) (s2 : Oct.St), OwnI w.heap.size wr v acc ∧ RdO lo g wr s2 ∧ w.grownBy wr (some g) ∧ acc.length + s2.1.length ≤ s.1.length ∧ Hid (Oct.loopS (n - k) s2 acc = Oct.intsS most s)) (fun _ i _ => n - (intOf i).toNat)
  case atStart => exact ⟨0, by omega, rfl, [], s1, OwnRow.nil _ _ _ _, hr1, hg1, by simpa using hsh, Lib.hid HT.out.symm⟩
  case round =>
    clear hr1 hg1
    obtain ⟨k, hk, rfl, acc, s2, hown, hr, hg, hlen2, HL⟩ := hrel
    have i0 : (0 : Int) ≤ (k : Int) := by omega
    by_cases hlt2 : k < n
    · have i1 : (k : Int) < (n : Int) := by omega
      have hstep := octInt wr hr
      by_cases he : (Oct.intS s2).2.2 = 0
      · have HL' := Lib.hid ((loopS_step he (by omega : 0 < n - k)).symm.trans HL.out)
        have hless := Oct.num_less (s := s2) he
        replace hless : (Oct.intS s2).2.1.length + 1 ≤ s2.1.length := hless
        generalize (Oct.intS s2).2 = s3 at he HL' hstep hless
        generalize (Oct.intS s2).1 = x at HL' hstep
        clear HL
        go_wp2_with fail
        refine hstep.mono ?_
        rintro e w2 ⟨rfl, hr2, hg2⟩
        have hown2 := hown.grown hg2 (by rintro k' ⟨⟩; exact hgl)
        have hgg := hg.trans hg2
        have hsz := hgg.size
        go_wp2_with fail
        refine (octErr w2 hr2).mono ?_
        rintro e w3 ⟨rfl, rfl⟩
        rw [he]
        go_wp2_with (at_builtin; refine wpList_push_int rfl (.tmp 17) (.tmp 19) rfl rfl hown2 x rfl (by omega) hsz ?_)
        intro v' w4 ho4 hg4
        go_wp2_with fail
        go_roundw
        case rel =>
          refine ⟨k + 1, by omega, by go_num, _, s3, ho4, hr2.past hg4 (fun j hj => by have := (hown2.blk j hj).1; omega), grownBy_own hgg hg4 (fun j hj => (hown2.blk j hj).1), ?_, Lib.hid ?_⟩
          · rw [List.length_append, List.length_singleton]; omega
          · rw [← HL'.out, Nat.sub_sub]
        case measure => simp [intOf]; omega
      · have HL' := Lib.hid ((loopS_stop he (by omega : 0 < n - k)).symm.trans HL.out)
        generalize (Oct.intS s2).2 = s3 at he HL' hstep
        generalize (Oct.intS s2).1 = x at hstep
        have t1 : ((s3.2 : Int) == 0) = false := by simp only [beq_eq_false_iff_ne]; exact he
        clear HL he
        go_wp2_with fail
        refine hstep.mono ?_
        rintro e w2 ⟨rfl, hr2, hg2⟩
        go_wp2_with fail
        refine (octErr w2 hr2).mono ?_
        rintro e w3 ⟨rfl, rfl⟩
        go_wp2_with fail
        go_ret
        rw [← HL'.out]
        exact ⟨_, rfl, OwnRow.nil _ _ _ _, hr2, hg.trans hg2⟩
    · obtain rfl : k = n := by omega
      have HL' := Lib.hid (show (acc, s2) = Oct.intsS most s by rw [← HL.out, Nat.sub_self]; rfl)
      clear HL
      go_wp2_with fail
      go_ret
      rw [← HL'.out]
      exact ⟨_, rfl, hown, hr, hg⟩
set_option maxRecDepth 100000 in
theorem octNew (va : Value) (l : List UInt8) (w : World) (ha : Bytes w va l) (hl : l.length ≤ 140737488355328) :
    Calls Try.prog 13 #[va] w fun e w' => ∃ g, e = .returned (ptr g) ∧ w.heap.size ≤ g ∧ RdO w.heap.size g w' (l, 0) ∧ Below w.heap.size w w' := by
  go_enter Try.func13, Try.ntmps13
  go_wp2_with fail
  refine (clone va l w ha hl).mono ?_
  rintro e w1 ⟨v, rfl, ho, hb⟩
  have hbl := below_alloc1 w1 (.cells #[v, .int .i64 0] 57)
  have hnew : (w1.alloc (.cells #[v, .int .i64 0] 57)).heap[w1.heap.size]? = some (.cells #[v, .int .i64 0] 57 (0, 0)) := heap_alloc_new w1 _
  have hrow := ho.row.below hbl (Nat.le_refl _)
  rcases ho.shape with ⟨rfl, -⟩ | ⟨b, c, rfl, -⟩
  · go_wp2_with fail
    go_ret
    exact ⟨_, rfl, hb.size, ⟨_, hnew, hrow⟩, hb.trans (hbl.mono hb.size)⟩
  · go_wp2_with fail
    go_ret
    exact ⟨_, rfl, hb.size, ⟨_, hnew, hrow⟩, hb.trans (hbl.mono hb.size)⟩
set_option maxRecDepth 100000 in
theorem octUintNil (most : Nat) (w : World) : Calls Try.prog 19 #[.pointer none, .int .u64 (most : Int)] w fun e w' => e = .returned (.int .u64 0) ∧ w = w' := by
  go_enter Try.func19, Try.ntmps19
  go_wp2_with fail
  refine (octErrNil w).mono ?_
  rintro e w1 ⟨rfl, rfl⟩
  go_wp2_with fail
  go_ret
  exact ⟨rfl, rfl⟩
set_option maxRecDepth 100000 in
theorem octTextNil (w : World) : Calls Try.prog 23 #[.pointer none, .int .i64 3] w fun e w' => e = .returned (.string ByteArray.empty) ∧ w = w' := by
  go_enter Try.func23, Try.ntmps23
  go_wp2
  go_ret
  exact ⟨rfl, rfl⟩
end Go.Proofs.Ytafdkfojimnbnaa
