/-
  CONTRACTS OF LAYER 8 (mana): Parse of the program. By an AI agent.
-/
import Derived.Test.YtcllaenanihedaaDoorManaTextWalks
import Derived.Test.YtcllaenanihedaaDoorManaWalksC
import Derived.Test.YtcllaenanihedaaDoorNumNumber
namespace Go.Proofs.YtcllaenanihedaaDoor
open Go.RowKit

theorem strCountAt (s : ByteArray) (k : Nat) (hk : k < 5) (w : World) :
    Calls Tryd.prog 39 #[.string s, .string ((⟨#[65, 67, 74, 82, 69]⟩ : ByteArray).extract k (k + 1))] w fun e w' => e = .returned (.int .i64 (Lib.countByte s.data.toList (Mana.letter k))) ∧ w = w' := by
  rw [extractLetter k hk]
  exact (Tryd.strings_Count_one s (Mana.letter k) w).mono fun _ _ ⟨h1, h2⟩ => ⟨h1, h2.symm⟩
theorem strCount (s : ByteArray) (b : UInt8) (w : World) :
    Calls Tryd.prog 39 #[.string s, .string ⟨#[b]⟩] w fun e w' => e = .returned (.int .i64 (Lib.countByte s.data.toList b)) ∧ w = w' :=
  (Tryd.strings_Count_one s b w).mono fun _ _ ⟨h1, h2⟩ => ⟨h1, h2.symm⟩
theorem numNumber' (s : ByteArray) (hs : s.size ≤ 281474976710656) (w : World) (hE : Env w) :
    Calls Tryd.prog 40 #[.string s] w fun e w' => e = .returned (.tuple #[.int .i64 ((Num.numberL s.data.toList).getD 0), .bool (Num.numberL s.data.toList).isSome]) ∧ Below w.heap.size w w' := numNumber s hs w hE
theorem trimS_len (l cs : List UInt8) : (Lib.trimS l cs).length ≤ l.length := by
  unfold Lib.trimS Lib.trimLeftS Lib.trimRightS
  refine Nat.le_trans (List.dropWhile_sublist _).length_le ?_
  rw [List.length_reverse]
  refine Nat.le_trans (List.dropWhile_sublist _).length_le ?_
  simp
theorem strTrim (s : ByteArray) (hs : s.size ≤ 140737488355328) (w : World) :
    Calls Tryd.prog 41 #[.string s, .string ⟨#[88, 65, 67, 74, 82, 69]⟩] w fun e w' => e = .returned (.string ⟨(Lib.trimS s.data.toList [88, 65, 67, 74, 82, 69]).toArray⟩) ∧ Below w.heap.size w w' :=
  Tryd.strings_Trim_laid s ⟨#[88, 65, 67, 74, 82, 69]⟩ w (by omega) (by decide) (ascii_of_all (by decide))
def parseWorld (c : Mana.Cst) (w : World) : World := (w.alloc (.cells #[.int .i64 Mana.zeroC.g, .int .i64 Mana.zeroC.x, .int .i64 Mana.zeroC.c0, .int .i64 Mana.zeroC.c1, .int .i64 Mana.zeroC.c2, .int .i64 Mana.zeroC.c3, .int .i64 Mana.zeroC.c4] 24)).alloc (.cells #[.int .i64 c.g, .int .i64 c.x, .int .i64 c.c0, .int .i64 c.c1, .int .i64 c.c2, .int .i64 c.c3, .int .i64 c.c4] 24)
theorem parse_no {l : List UInt8} (h : ¬ Mana.textL (Mana.countC l) = l) : Mana.parseC l = Mana.zeroC ∧ Mana.parseE l = 3 := by
  unfold Mana.parseC Mana.parseE; rw [if_neg h, if_neg h]; exact ⟨rfl, rfl⟩
theorem parse_yes {l : List UInt8} (h : Mana.textL (Mana.countC l) = l) : Mana.parseC l = Mana.countC l ∧ Mana.parseE l = 0 := by
  unfold Mana.parseC Mana.parseE; rw [if_pos h, if_pos h]; exact ⟨rfl, rfl⟩
set_option maxHeartbeats 1000000 in
set_option maxRecDepth 100000 in
theorem manaParse (s : ByteArray) (hs : s.size ≤ 140737488355328) (w : World) (hE : Env w) :
    Calls Tryd.prog 18 #[.string s] w fun e w' => e = .returned (.tuple #[.agg #[.int .i64 (Mana.parseC s.data.toList).g, .int .i64 (Mana.parseC s.data.toList).x, .int .i64 (Mana.parseC s.data.toList).c0, .int .i64 (Mana.parseC s.data.toList).c1, .int .i64 (Mana.parseC s.data.toList).c2, .int .i64 (Mana.parseC s.data.toList).c3, .int .i64 (Mana.parseC s.data.toList).c4], .int .i64 (Mana.parseE s.data.toList)]) ∧ Below w.heap.size w w' := by
  obtain ⟨l, hl⟩ : ∃ l, s.data.toList = l := ⟨_, rfl⟩
  have HLS := Lib.hid hl
  have hln : Hid (l.length = s.size) := Lib.hid (by rw [← hl]; exact (Lib.size_eq s).symm)
  have HCA : Hid (∀ k, k < 5 → ∀ w, Calls Tryd.prog 39 #[.string s, .string ((⟨#[65, 67, 74, 82, 69]⟩ : ByteArray).extract k (k + 1))] w fun e w' => e = .returned (.int .i64 (Lib.countByte l (Mana.letter k))) ∧ w = w') := Lib.hid (by rw [← hl]; exact fun k hk w => strCountAt s k hk w)
  have HCB : Hid (∀ w, Calls Tryd.prog 39 #[.string s, .string ⟨#[88]⟩] w fun e w' => e = .returned (.int .i64 (Lib.countByte l 88)) ∧ w = w') := Lib.hid (by rw [← hl]; exact fun w => strCount s 88 w)
  have HTR : Hid (∀ w, Calls Tryd.prog 41 #[.string s, .string ⟨#[88, 65, 67, 74, 82, 69]⟩] w fun e w' => e = .returned (.string ⟨(Lib.trimS l [88, 65, 67, 74, 82, 69]).toArray⟩) ∧ Below w.heap.size w w') := Lib.hid (by rw [← hl]; exact fun w => strTrim s hs w)
  have HE := Lib.hid hE
  rw [hl]
  clear hl hE
  go_enter Tryd.func18, Tryd.ntmps18
  go_wp2_with fail
  refine (HCB.out _).mono ?_
  rintro e w1 ⟨rfl, rfl⟩
  go_wp2
  go_loopw [9] (fun i wr => ∃ k : Nat, k ≤ 5 ∧ i = .int .i64 (k : Int) ∧ wr = parseWorld (Mana.countTo l k) w) (fun i _ => 5 - (intOf i).toNat)
  case atStart => exact ⟨0, by omega, rfl, rfl⟩
  case round =>
    obtain ⟨k, hk, rfl, rfl⟩ := hrel
    by_cases hlt : k < 5
    · unfold parseWorld
      have HS : Hid (Mana.countTo l (k + 1) = (Mana.countTo l k).setCol k (Lib.countByte l (Mana.letter k) : Nat)) := Lib.hid rfl
      obtain ⟨c, HRR⟩ : ∃ c, Hid (Mana.countTo l k = c) := ⟨_, Lib.hid rfl⟩
      rw [HRR.out] at HS ⊢
      have hst := fun v => setCost c k hlt v
      have hc := costCell c k hlt 24 (w.alloc (.cells #[.int .i64 Mana.zeroC.g, .int .i64 Mana.zeroC.x, .int .i64 Mana.zeroC.c0, .int .i64 Mana.zeroC.c1, .int .i64 Mana.zeroC.c2, .int .i64 Mana.zeroC.c3, .int .i64 Mana.zeroC.c4] 24))
      simp only [World.size_alloc] at hc
      go_wp2_with fail
      refine (HCA.out k hlt _).mono ?_
      rintro e w2 ⟨rfl, rfl⟩
      go_wp2
      go_roundw
      case rel => exact ⟨k + 1, by omega, by go_num, by rw [HS.out]⟩
      case measure => simp [intOf]; omega
    · obtain rfl : k = 5 := by omega
      have b0 : Blk (parseWorld (Mana.countTo l 5) w) w.heap.size #[.int .i64 Mana.zeroC.g, .int .i64 Mana.zeroC.x, .int .i64 Mana.zeroC.c0, .int .i64 Mana.zeroC.c1, .int .i64 Mana.zeroC.c2, .int .i64 Mana.zeroC.c3, .int .i64 Mana.zeroC.c4] 24 := (Blk.new w _ _).alloc _
      have b1 : Blk (parseWorld (Mana.countTo l 5) w) (w.heap.size + 1) #[.int .i64 (Mana.countTo l 5).g, .int .i64 (Mana.countTo l 5).x, .int .i64 (Mana.countTo l 5).c0, .int .i64 (Mana.countTo l 5).c1, .int .i64 (Mana.countTo l 5).c2, .int .i64 (Mana.countTo l 5).c3, .int .i64 (Mana.countTo l 5).c4] 24 := by
        have n1 := Blk.new (w.alloc (.cells #[.int .i64 Mana.zeroC.g, .int .i64 Mana.zeroC.x, .int .i64 Mana.zeroC.c0, .int .i64 Mana.zeroC.c1, .int .i64 Mana.zeroC.c2, .int .i64 Mana.zeroC.c3, .int .i64 Mana.zeroC.c4] 24)) #[.int .i64 (Mana.countTo l 5).g, .int .i64 (Mana.countTo l 5).x, .int .i64 (Mana.countTo l 5).c0, .int .i64 (Mana.countTo l 5).c1, .int .i64 (Mana.countTo l 5).c2, .int .i64 (Mana.countTo l 5).c3, .int .i64 (Mana.countTo l 5).c4] 24
        simp only [World.size_alloc] at n1
        exact n1
      have hb : Below w.heap.size w (parseWorld (Mana.countTo l 5) w) := by unfold parseWorld; go_grown
      rw [Mana.countTo_five] at b0 b1 hb ⊢
      generalize parseWorld { Mana.countC l with g := 0 } w = w1 at b0 b1 hb ⊢
      have B0 := Lib.hid b0
      have B1 := Lib.hid b1
      have HB := Lib.hid hb
      clear b0 b1 hb
      go_wp2_with fail
      refine (HTR.out _).mono ?_
      rintro e w2 ⟨rfl, hb2⟩
      have B02 := Lib.hid (B0.out.below hb2 B0.out.lt)
      have B12 := Lib.hid (B1.out.below hb2 B1.out.lt)
      have HB2 := Lib.hid (HB.out.trans (hb2.mono HB.out.size))
      clear hb2 B0 B1 HB
      go_wp2_with fail
      refine (numNumber' _ (by show (Lib.trimS l _).toArray.size ≤ _; have := trimS_len l [88, 65, 67, 74, 82, 69]; have := hln.out; rw [List.size_toArray]; omega) _ (HE.out.below HB2.out)).mono ?_
      rintro e w3 ⟨rfl, hb3⟩
      have B03 := Lib.hid (B02.out.below hb3 B02.out.lt)
      have B13 := Lib.hid (B12.out.below hb3 B12.out.lt)
      have HB3 := Lib.hid (HB2.out.trans (hb3.mono HB2.out.size))
      clear hb3 B02 B12 HB2
      have c1 := B13.out.cell
      have f1 := B13.out.free
      go_wp2_with fail
      refine (manaText (Mana.countC l) _ (HE.out.below (HB3.out.setCell (by show w.heap.size ≤ w.heap.size + 1; omega) _))).mono ?_
      rintro e w4 ⟨rfl, hb4⟩
      have B14 : Hid (Blk w4 (w.heap.size + 1) #[.int .i64 (Mana.countC l).g, .int .i64 (Mana.countC l).x, .int .i64 (Mana.countC l).c0, .int .i64 (Mana.countC l).c1, .int .i64 (Mana.countC l).c2, .int .i64 (Mana.countC l).c3, .int .i64 (Mana.countC l).c4] 24) := Lib.hid (((B13.out.set 0 _).below hb4 (by have := B13.out.lt; simp [World.setCell]; omega)))
      have B04 : Hid (Blk w4 w.heap.size #[.int .i64 Mana.zeroC.g, .int .i64 Mana.zeroC.x, .int .i64 Mana.zeroC.c0, .int .i64 Mana.zeroC.c1, .int .i64 Mana.zeroC.c2, .int .i64 Mana.zeroC.c3, .int .i64 Mana.zeroC.c4] 24) := Lib.hid ((B03.out.other (by omega) _ _).below hb4 (by have := B03.out.lt; simp [World.setCell]; omega))
      have HB4 : Hid (Below w.heap.size w w4) := Lib.hid ((HB3.out.setCell (by show w.heap.size ≤ w.heap.size + 1; omega) _).trans (hb4.mono (by have := HB3.out.size; simp [World.setCell]; omega)))
      clear hb4 c1 f1 B03 B13 HB3
      have c1 := B14.out.cell
      have f1 := B14.out.free
      have c0 := B04.out.cell
      have f0 := B04.out.free
      go_wp2_with fail
      · have ht : (!Mana.textL (Mana.countC l) == s.toList) = true := by assumption
        have HP := Lib.hid (parse_no (fun e => ne_of_test ht (e.trans HLS.out.symm)))
        rw [HP.out.1, HP.out.2]
        change bodyPost _ _ _ _ _ (set7 w4 w.heap.size Mana.zeroC)
        have hB := (B04.out.seven Mana.zeroC).cell
        have HF := Lib.hid (below_seven (q := Mana.zeroC) (b := w.heap.size) HB4.out (Nat.le_refl _))
        clear c0 f0 c1 f1 B04 B14 HB4
        generalize set7 w4 w.heap.size Mana.zeroC = wf at hB HF
        exact bodyPost_ret (v := .tuple #[.agg #[.int .i64 Mana.zeroC.g, .int .i64 Mana.zeroC.x, .int .i64 Mana.zeroC.c0, .int .i64 Mana.zeroC.c1, .int .i64 Mana.zeroC.c2, .int .i64 Mana.zeroC.c3, .int .i64 Mana.zeroC.c4], .int .i64 3]) (by simp [results, Tryd.results18, go_sem, hB]) rfl ⟨rfl, HF.out⟩
      · have ht : (!Mana.textL (Mana.countC l) == s.toList) = false := by assumption
        have HP := Lib.hid (parse_yes ((eq_of_test ht).trans HLS.out))
        rw [HP.out.1, HP.out.2]
        go_wp2
        change bodyPost _ _ _ _ _ (set7 w4 w.heap.size (Mana.countC l))
        have hB := (B04.out.seven (Mana.countC l)).cell
        have HF := Lib.hid (below_seven (q := Mana.countC l) (b := w.heap.size) HB4.out (Nat.le_refl _))
        clear c0 f0 c1 f1 B04 B14 HB4
        generalize set7 w4 w.heap.size (Mana.countC l) = wf at hB HF
        exact bodyPost_ret (v := .tuple #[.agg #[.int .i64 (Mana.countC l).g, .int .i64 (Mana.countC l).x, .int .i64 (Mana.countC l).c0, .int .i64 (Mana.countC l).c1, .int .i64 (Mana.countC l).c2, .int .i64 (Mana.countC l).c3, .int .i64 (Mana.countC l).c4], .int .i64 0]) (by simp [results, Tryd.results18, go_sem, hB]) rfl ⟨rfl, HF.out⟩
end Go.Proofs.YtcllaenanihedaaDoor
