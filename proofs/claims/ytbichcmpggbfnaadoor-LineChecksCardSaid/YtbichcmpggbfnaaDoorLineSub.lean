/-
  CONTRACTS OF LAYER 10: IsSub and HasSub of both, fit. By an AI agent.
-/
import Derived.Test.YtbichcmpggbfnaaDoorLineRefB
namespace Go.Proofs.YtbichcmpggbfnaaDoor
open Go.RowKit
open Wd (Bs)

theorem idx_neg_of {l : List Bs} {x : Bs} (h : x ∉ l) : idx l x < 0 := by
  have := mt idx_mem.1 h; omega
theorem idx_pos_of {l : List Bs} {x : Bs} (h : x ∈ l) : 0 ≤ idx l x := idx_mem.2 h
theorem isSub_no {s : Bs} (h : Wd.isName s = false) : Ln.isSub s = false := by unfold Ln.isSub; rw [h]; rfl
set_option maxRecDepth 100000 in
theorem refIsSub (s : ByteArray) (w : World) (hs : s.size ≤ maxLen) :
    Calls Tryd.prog 18 #[.string s] w fun e w' => e = .returned (.bool (Ln.isSub s.data.toList)) ∧ Below w.heap.size w w' := by
  cases hn : Wd.isName s.data.toList with
  | false =>
    have HN := Lib.hid hn
    have HR := Lib.hid (isSub_no hn)
    clear hn
    go_enter Tryd.func18, Tryd.ntmps18
    go_wp2_with fail
    refine (refIs s _ hs).mono ?_
    rw [HN.out]
    rintro e w1 ⟨rfl, rfl⟩
    go_wp2_with fail
    go_ret
    exact ⟨ret_bool HR.out.symm, Below.refl _ _⟩
  | true =>
    have HN := Lib.hid hn
    by_cases h1 : s.data.toList ∈ supersL
    · have HR := Lib.hid (Ln.isSub_word (mem_words.1 (.inl h1)))
      obtain ⟨i, hi⟩ : ∃ i, i = idx supersL s.data.toList := ⟨_, rfl⟩
      have hi0 : 0 ≤ i := by rw [hi]; exact idx_pos_of h1
      have HI := Lib.hid hi
      clear hn h1 hi
      go_enter Tryd.func18, Tryd.ntmps18
      go_wp2_with fail
      refine (refIs s _ hs).mono ?_
      rw [HN.out]
      rintro e w1 ⟨rfl, rfl⟩
      go_wp2_with fail
      refine (refSupers _).mono ?_
      rintro e w1 ⟨v1, rfl, ho1, hb1⟩
      have HO1 := Lib.hid ho1.strs
      have B1 := Lib.hid hb1
      clear ho1 hb1
      go_wp2_with fail
      refine (refIndex10 _ _ s _ HO1.out).mono ?_
      rw [← HI.out]
      rintro e w2 ⟨rfl, rfl⟩
      go_wp2_with fail
      go_ret
      exact ⟨ret_bool HR.out.symm, B1.out⟩
    · by_cases h2 : s.data.toList ∈ typesL
      · have HR := Lib.hid (Ln.isSub_word (mem_words.1 (.inr h2)))
        obtain ⟨i, hi⟩ : ∃ i, i = idx supersL s.data.toList := ⟨_, rfl⟩
        have hi0 : i < 0 := by rw [hi]; exact idx_neg_of h1
        obtain ⟨j, hj⟩ : ∃ j, j = idx typesL s.data.toList := ⟨_, rfl⟩
        have hj0 : 0 ≤ j := by rw [hj]; exact idx_pos_of h2
        have HI := Lib.hid hi
        have HJ := Lib.hid hj
        clear hn h1 h2 hi hj
        go_enter Tryd.func18, Tryd.ntmps18
        go_wp2_with fail
        refine (refIs s _ hs).mono ?_
        rw [HN.out]
        rintro e w1 ⟨rfl, rfl⟩
        go_wp2_with fail
        refine (refSupers _).mono ?_
        rintro e w1 ⟨v1, rfl, ho1, hb1⟩
        have HO1 := Lib.hid ho1.strs
        have B1 := Lib.hid hb1
        clear ho1 hb1
        go_wp2_with fail
        refine (refIndex10 _ _ s _ HO1.out).mono ?_
        rw [← HI.out]
        rintro e w2 ⟨rfl, rfl⟩
        go_wp2_with fail
        refine (refTypes _).mono ?_
        rintro e w2 ⟨v2, rfl, ho2, hb2⟩
        have HO2 := Lib.hid ho2.strs
        have B2 := Lib.hid (B1.out.trans (hb2.mono B1.out.size))
        clear ho2 hb2
        go_wp2_with fail
        refine (refIndex10 _ _ s _ HO2.out).mono ?_
        rw [← HJ.out]
        rintro e w3 ⟨rfl, rfl⟩
        go_wp2_with fail
        go_ret
        exact ⟨ret_bool (by rw [HR.out]; simp; omega), B2.out⟩
      · have HR := Lib.hid ((Ln.isSub_else (by
          have := Ln.ix_le s.data.toList
          have := mt mem_words.2 (fun h => h.elim h1 h2 : ¬ (_ ∨ _))
          omega)).trans hn)
        obtain ⟨i, hi⟩ : ∃ i, i = idx supersL s.data.toList := ⟨_, rfl⟩
        have hi0 : i < 0 := by rw [hi]; exact idx_neg_of h1
        obtain ⟨j, hj⟩ : ∃ j, j = idx typesL s.data.toList := ⟨_, rfl⟩
        have hj0 : j < 0 := by rw [hj]; exact idx_neg_of h2
        have HI := Lib.hid hi
        have HJ := Lib.hid hj
        clear hn h1 h2 hi hj
        go_enter Tryd.func18, Tryd.ntmps18
        go_wp2_with fail
        refine (refIs s _ hs).mono ?_
        rw [HN.out]
        rintro e w1 ⟨rfl, rfl⟩
        go_wp2_with fail
        refine (refSupers _).mono ?_
        rintro e w1 ⟨v1, rfl, ho1, hb1⟩
        have HO1 := Lib.hid ho1.strs
        have B1 := Lib.hid hb1
        clear ho1 hb1
        go_wp2_with fail
        refine (refIndex10 _ _ s _ HO1.out).mono ?_
        rw [← HI.out]
        rintro e w2 ⟨rfl, rfl⟩
        go_wp2_with fail
        refine (refTypes _).mono ?_
        rintro e w2 ⟨v2, rfl, ho2, hb2⟩
        have HO2 := Lib.hid ho2.strs
        have B2 := Lib.hid (B1.out.trans (hb2.mono B1.out.size))
        clear ho2 hb2
        go_wp2_with fail
        refine (refIndex10 _ _ s _ HO2.out).mono ?_
        rw [← HJ.out]
        rintro e w3 ⟨rfl, rfl⟩
        go_wp2_with fail
        go_ret
        exact ⟨ret_bool HR.out.symm, B2.out⟩
/-! the program's IsSub: a loop over the words -/
def NoWordTo (s : Bs) (k : Nat) : Prop := ∀ j, j < k → Ln.word j ≠ s
theorem NoWordTo.next {s : Bs} {k : Nat} (h : NoWordTo s k) (hk : Ln.word k ≠ s) : NoWordTo s (k + 1) := by
  intro j hj
  by_cases e : j = k
  · subst e; exact hk
  · exact h j (by omega)
theorem bytes_same {a b : ByteArray} (h : a.data.toList = b.data.toList) : a = b := by
  cases a with | mk a => cases b with | mk b => cases a with | mk a => cases b with | mk b => simp at h; subst h; rfl
theorem wordsV_0 (w : World) : (Instr.index 45 (.agg #[.string ⟨(Ln.word 0).toArray⟩, .string ⟨(Ln.word 1).toArray⟩, .string ⟨(Ln.word 2).toArray⟩, .string ⟨(Ln.word 3).toArray⟩, .string ⟨(Ln.word 4).toArray⟩, .string ⟨(Ln.word 5).toArray⟩, .string ⟨(Ln.word 6).toArray⟩, .string ⟨(Ln.word 7).toArray⟩]) (.int .i64 0)).run Tryd.prog w = .ok (.string ⟨(Ln.word 0).toArray⟩) w := by kernel_rfl
theorem wordsV_1 (w : World) : (Instr.index 45 (.agg #[.string ⟨(Ln.word 0).toArray⟩, .string ⟨(Ln.word 1).toArray⟩, .string ⟨(Ln.word 2).toArray⟩, .string ⟨(Ln.word 3).toArray⟩, .string ⟨(Ln.word 4).toArray⟩, .string ⟨(Ln.word 5).toArray⟩, .string ⟨(Ln.word 6).toArray⟩, .string ⟨(Ln.word 7).toArray⟩]) (.int .i64 1)).run Tryd.prog w = .ok (.string ⟨(Ln.word 1).toArray⟩) w := by kernel_rfl
theorem wordsV_2 (w : World) : (Instr.index 45 (.agg #[.string ⟨(Ln.word 0).toArray⟩, .string ⟨(Ln.word 1).toArray⟩, .string ⟨(Ln.word 2).toArray⟩, .string ⟨(Ln.word 3).toArray⟩, .string ⟨(Ln.word 4).toArray⟩, .string ⟨(Ln.word 5).toArray⟩, .string ⟨(Ln.word 6).toArray⟩, .string ⟨(Ln.word 7).toArray⟩]) (.int .i64 2)).run Tryd.prog w = .ok (.string ⟨(Ln.word 2).toArray⟩) w := by kernel_rfl
theorem wordsV_3 (w : World) : (Instr.index 45 (.agg #[.string ⟨(Ln.word 0).toArray⟩, .string ⟨(Ln.word 1).toArray⟩, .string ⟨(Ln.word 2).toArray⟩, .string ⟨(Ln.word 3).toArray⟩, .string ⟨(Ln.word 4).toArray⟩, .string ⟨(Ln.word 5).toArray⟩, .string ⟨(Ln.word 6).toArray⟩, .string ⟨(Ln.word 7).toArray⟩]) (.int .i64 3)).run Tryd.prog w = .ok (.string ⟨(Ln.word 3).toArray⟩) w := by kernel_rfl
theorem wordsV_4 (w : World) : (Instr.index 45 (.agg #[.string ⟨(Ln.word 0).toArray⟩, .string ⟨(Ln.word 1).toArray⟩, .string ⟨(Ln.word 2).toArray⟩, .string ⟨(Ln.word 3).toArray⟩, .string ⟨(Ln.word 4).toArray⟩, .string ⟨(Ln.word 5).toArray⟩, .string ⟨(Ln.word 6).toArray⟩, .string ⟨(Ln.word 7).toArray⟩]) (.int .i64 4)).run Tryd.prog w = .ok (.string ⟨(Ln.word 4).toArray⟩) w := by kernel_rfl
theorem wordsV_5 (w : World) : (Instr.index 45 (.agg #[.string ⟨(Ln.word 0).toArray⟩, .string ⟨(Ln.word 1).toArray⟩, .string ⟨(Ln.word 2).toArray⟩, .string ⟨(Ln.word 3).toArray⟩, .string ⟨(Ln.word 4).toArray⟩, .string ⟨(Ln.word 5).toArray⟩, .string ⟨(Ln.word 6).toArray⟩, .string ⟨(Ln.word 7).toArray⟩]) (.int .i64 5)).run Tryd.prog w = .ok (.string ⟨(Ln.word 5).toArray⟩) w := by kernel_rfl
theorem wordsV_6 (w : World) : (Instr.index 45 (.agg #[.string ⟨(Ln.word 0).toArray⟩, .string ⟨(Ln.word 1).toArray⟩, .string ⟨(Ln.word 2).toArray⟩, .string ⟨(Ln.word 3).toArray⟩, .string ⟨(Ln.word 4).toArray⟩, .string ⟨(Ln.word 5).toArray⟩, .string ⟨(Ln.word 6).toArray⟩, .string ⟨(Ln.word 7).toArray⟩]) (.int .i64 6)).run Tryd.prog w = .ok (.string ⟨(Ln.word 6).toArray⟩) w := by kernel_rfl
theorem wordsV_7 (w : World) : (Instr.index 45 (.agg #[.string ⟨(Ln.word 0).toArray⟩, .string ⟨(Ln.word 1).toArray⟩, .string ⟨(Ln.word 2).toArray⟩, .string ⟨(Ln.word 3).toArray⟩, .string ⟨(Ln.word 4).toArray⟩, .string ⟨(Ln.word 5).toArray⟩, .string ⟨(Ln.word 6).toArray⟩, .string ⟨(Ln.word 7).toArray⟩]) (.int .i64 7)).run Tryd.prog w = .ok (.string ⟨(Ln.word 7).toArray⟩) w := by kernel_rfl
theorem wordsV_at (k : Nat) (hk : k < 8) (w : World) : (Instr.index 45 (.agg #[.string ⟨(Ln.word 0).toArray⟩, .string ⟨(Ln.word 1).toArray⟩, .string ⟨(Ln.word 2).toArray⟩, .string ⟨(Ln.word 3).toArray⟩, .string ⟨(Ln.word 4).toArray⟩, .string ⟨(Ln.word 5).toArray⟩, .string ⟨(Ln.word 6).toArray⟩, .string ⟨(Ln.word 7).toArray⟩]) (.int .i64 (k : Int))).run Tryd.prog w = .ok (str (Ln.word k)) w := by
  match k, hk with
  | 0, _ => exact wordsV_0 w
  | 1, _ => exact wordsV_1 w
  | 2, _ => exact wordsV_2 w
  | 3, _ => exact wordsV_3 w
  | 4, _ => exact wordsV_4 w
  | 5, _ => exact wordsV_5 w
  | 6, _ => exact wordsV_6 w
  | 7, _ => exact wordsV_7 w
set_option maxRecDepth 100000 in
theorem lineIsSub (s : ByteArray) (w : World) (hE : Env w) (hs : s.size ≤ maxLen) :
    Calls Tryd.prog 17 #[.string s] w fun e w' => e = .returned (.bool (Ln.isSub s.data.toList)) ∧ w = w' := by
  have c0 := hE.cell 0 (by decide)
  have c1 := hE.cell 1 (by decide)
  have c2 := hE.cell 2 (by decide)
  have c3 := hE.cell 3 (by decide)
  have c4 := hE.cell 4 (by decide)
  have c5 := hE.cell 5 (by decide)
  have c6 := hE.cell 6 (by decide)
  have c7 := hE.cell 7 (by decide)
  have HE := Lib.hid hE
  clear hE
  go_enter Tryd.func17, Tryd.ntmps17
  go_wp2_with fail
  clear c0 c1 c2 c3 c4 c5 c6 c7
  go_loop [6] (fun i => ∃ k : Nat, k ≤ 8 ∧ i = .int .i64 (k : Int) ∧ NoWordTo s.data.toList k) (fun i => 8 - (intOf i).toNat)
  case atStart => exact ⟨0, by omega, rfl, fun j hj => by omega⟩
  case round =>
    obtain ⟨k, hk, rfl, hno⟩ := hrel
    have HNO := Lib.hid hno
    clear hno
    by_cases hlt : k < 8
    · have hi := fun w => wordsV_at k hlt w
      obtain ⟨sx, hsx, ex⟩ := exists_bytes (Ln.word k)
      rw [ex] at hi
      by_cases hw : Ln.word k = s.data.toList
      · have ht : (s.toList == sx.toList) = true := bytes_eq (by rw [hsx, hw])
        have HR := Lib.hid (Ln.isSub_word (s := s.data.toList) (by rw [Ln.ix_hit hlt hw]; exact hlt))
        clear hw hsx ex
        go_wp2_with fail
        go_ret
        exact ⟨ret_bool HR.out.symm, rfl⟩
      · have ht : (s.toList == sx.toList) = false := bytes_ne (by rw [hsx]; exact Ne.symm hw)
        have HN := Lib.hid (HNO.out.next hw)
        clear hw hsx ex
        go_wp2_with fail
        go_round
        case rel => exact ⟨k + 1, by omega, by go_num, HN.out⟩
        case measure => simp [intOf]; omega
    · obtain rfl : k = 8 := by omega
      have HR := Lib.hid (Ln.isSub_else (Ln.ix_none HNO.out))
      go_wp2_with fail
      refine (wordIs s _ HE.out.len hs).mono ?_
      rintro e w1 ⟨rfl, rfl⟩
      go_wp2_with fail
      go_ret
      exact ⟨ret_bool HR.out.symm, rfl⟩
/-! HasSub -/
def hasB (l : List Bs) (x : Bs) : Bool := decide (x ∈ l)
theorem has_idx (l : List Bs) (x : Bs) : decide (0 ≤ idx l x) = hasB l x := idx_ge l x
set_option maxRecDepth 100000 in
theorem lineHas (a b : Int) (v : Value) (l : List Bs) (s : ByteArray) (w : World) (hv : Strs w v l) :
    Calls Tryd.prog 13 #[.agg #[.int .i64 a, .int .i64 b, v], .string s] w fun e w' => e = .returned (.bool (hasB l s.data.toList)) ∧ Below w.heap.size w w' := by
  obtain ⟨i, hi⟩ : ∃ i, i = idx l s.data.toList := ⟨_, rfl⟩
  have HI := Lib.hid hi
  have HR := Lib.hid ((congrArg (fun z => decide (0 ≤ z)) hi).trans (has_idx l s.data.toList))
  have hb : Below w.heap.size w (w.alloc (.cells #[.int .i64 a, .int .i64 b, v] 24)) := (Below.refl _ _).alloc (Nat.le_refl _) _
  have HV := Lib.hid (hv.below hb (Nat.le_refl _))
  have HB := Lib.hid hb
  clear hi hv hb
  go_enter Tryd.func13, Tryd.ntmps13
  go_wp2_with fail
  refine (wordIndex _ l s _ HV.out).mono ?_
  rw [← HI.out]
  rintro e w1 ⟨rfl, rfl⟩
  go_wp2_with fail
  go_ret
  exact ⟨ret_bool HR.out, HB.out⟩
set_option maxRecDepth 100000 in
theorem refHas (a b : Int) (v : Value) (l : List Bs) (s : ByteArray) (w : World) (hv : Strs w v l) :
    Calls Tryd.prog 14 #[.agg #[.int .i64 a, .int .i64 b, v], .string s] w fun e w' => e = .returned (.bool (hasB l s.data.toList)) ∧ Below w.heap.size w w' := by
  obtain ⟨i, hi⟩ : ∃ i, i = idx l s.data.toList := ⟨_, rfl⟩
  have HI := Lib.hid hi
  have HR := Lib.hid ((congrArg (fun z => decide (0 ≤ z)) hi).trans (has_idx l s.data.toList))
  have hb : Below w.heap.size w (w.alloc (.cells #[.int .i64 a, .int .i64 b, v] 24)) := (Below.refl _ _).alloc (Nat.le_refl _) _
  have HV := Lib.hid (hv.below hb (Nat.le_refl _))
  have HB := Lib.hid hb
  clear hi hv hb
  go_enter Tryd.func14, Tryd.ntmps14
  go_wp2_with fail
  refine (refIndex10 _ l s _ HV.out).mono ?_
  rw [← HI.out]
  rintro e w1 ⟨rfl, rfl⟩
  go_wp2_with fail
  go_ret
  exact ⟨ret_bool HR.out, HB.out⟩
/-! fit -/
theorem fit_test : ∀ t : Nat, t < 64 → 0 < t → (t == 2) = false → (t == 4) = false → (bits .andNot .i64 (t : Int) 57 == 0) = Ln.fitN t := by decide +kernel
end Go.Proofs.YtbichcmpggbfnaaDoor
