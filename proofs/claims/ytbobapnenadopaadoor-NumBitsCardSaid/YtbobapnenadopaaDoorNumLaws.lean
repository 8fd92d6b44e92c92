/-
  THE LAWS OF LAYER 1 (num), WALKED: each answers true, and nothing that was there changes. By an AI agent.
-/
import Derived.Test.YtbobapnenadopaaDoorNumAlive
import Derived.Deep.RegionHeld3
namespace Go.Proofs.YtbobapnenadopaaDoor
open Go.RowKit

set_option maxRecDepth 100000 in
theorem lawNumArithmetic (a b : Int) (up : Bool) (w : World) (hE : Env w) :
    Calls Tryd.prog 3 #[.int .i64 a, .int .i64 b, .bool up] w fun e w' => e = .returned (.bool true) ∧ Below w.heap.size w w' := by
  go_enter Tryd.func3, Tryd.ntmps3
  go_wp2_with fail
  refine (numAlive _ hE).mono ?_
  rintro e w1 ⟨rfl, hb⟩
  clear hE
  go_wp2_with (first
    | (go_at_call 10; refine (numClamp _ _).mono ?_; rintro e w' ⟨rfl, rfl⟩)
    | (go_at_call 11; refine (refClamp _ _).mono ?_; rintro e w' ⟨rfl, rfl⟩)
    | (go_at_call 12; refine (numAdd _ _ _).mono ?_; rintro e w' ⟨rfl, rfl⟩)
    | (go_at_call 13; refine (refAdd _ _ _).mono ?_; rintro e w' ⟨rfl, rfl⟩)
    | (go_at_call 14; refine (numSub _ _ _).mono ?_; rintro e w' ⟨rfl, rfl⟩)
    | (go_at_call 15; refine (refSub _ _ _).mono ?_; rintro e w' ⟨rfl, rfl⟩)
    | (go_at_call 16; refine (numMul _ _ _).mono ?_; rintro e w' ⟨rfl, rfl⟩)
    | (go_at_call 17; refine (refMul _ _ _).mono ?_; rintro e w' ⟨rfl, rfl⟩)
    | (go_at_call 18; refine (numHalf _ _ _).mono ?_; rintro e w' ⟨rfl, rfl⟩)
    | (go_at_call 19; refine (refHalf _ _ _).mono ?_; rintro e w' ⟨rfl, rfl⟩))
  go_ret
  exact ⟨rfl, hb⟩
set_option maxRecDepth 100000 in
theorem lawNumTexts (n : Int) (h0 : -9223372036854775808 ≤ n) (h1 : n ≤ 9223372036854775807) (s : ByteArray) (hs : s.size ≤ 281474976710656) (w : World) (hE : Env w) :
    Calls Tryd.prog 5 #[.int .i64 n, .string s] w fun e w' => e = .returned (.bool true) ∧ Below w.heap.size w w' := by
  go_enter Tryd.func5, Tryd.ntmps5
  go_wp2_with fail
  refine (numNumber s hs _ hE).mono ?_
  rintro e w1 ⟨hr1, hb1⟩
  have hE1 := Lib.hid (hE.below hb1)
  unfold numRes at hr1
  obtain ⟨o, ho⟩ : ∃ o, o = Num.numberL s.data.toList := ⟨_, rfl⟩
  rw [← ho] at hr1
  have HO := Lib.hid ho
  clear ho
  subst hr1
  go_wp2_with fail
  refine (refNumber s hs _).mono ?_
  rintro e w2 ⟨hr2, hb2⟩
  have hE2 := Lib.hid (hE1.out.below hb2)
  have hb2 := hb1.trans (hb2.mono hb1.size)
  unfold numRes at hr2
  rw [← HO.out] at hr2
  subst hr2
  go_wp2_with fail
  refine (numAlive _ hE2.out).mono ?_
  rintro e w3 ⟨rfl, hb3⟩
  have hE3 := Lib.hid (hE2.out.below hb3)
  have hb3 := hb2.trans (hb3.mono hb2.size)
  go_wp2_with fail
  refine (numText n h0 h1 _ hE3.out).mono ?_
  rintro e w4 ⟨rfl, hb4⟩
  have hb4 := hb3.trans (hb4.mono hb3.size)
  go_wp2_with fail
  refine (refText n h0 h1 _).mono ?_
  rintro e w5 ⟨rfl, hb5⟩
  have hb5 := hb4.trans (hb5.mono hb4.size)
  go_wp2_with fail
  go_ret
  exact ⟨rfl, hb5⟩
/-- a call that leaves what was there alone, seen from an earlier world -/
theorem from_base {f : FuncId} {args : Array Value} {v : Value} {C : Nat} {w0 W : World} (hb : Below C w0 W) (hC : C ≤ w0.heap.size)
    (h : Calls Tryd.prog f args W fun e w' => e = .returned v ∧ Below W.heap.size W w') : Calls Tryd.prog f args W fun e w' => e = .returned v ∧ Below C w0 w' :=
  h.mono fun _ _ ⟨he, hb'⟩ => ⟨he, hb.trans (hb'.mono (Nat.le_trans hC hb.size))⟩
/-- the box of a bound: what a later world keeps of it -/
theorem box_kept {B : Nat} {w0 W : World} {i : Nat} {x : Value} (hb : Below (B + 1) w0 W) (hc : w0.cell? ⟨B, i, none⟩ = some x) : W.cell? ⟨B, i, none⟩ = some x :=
  (hb.cell (p := ⟨B, i, none⟩) (by simp)).trans hc
set_option maxRecDepth 100000 in
theorem lawNumMeets (k m n : Int) (w : World) (hE : Env w) :
    Calls Tryd.prog 7 #[.agg #[.int .i64 k, .int .i64 m], .int .i64 n] w fun e w' => e = .returned (.bool true) ∧ Below w.heap.size w w' := by
  go_enter Tryd.func7, Tryd.ntmps7
  go_wp2_with fail
  have hb0 : Below w.heap.size w (w.alloc (.cells #[.int .i64 k, .int .i64 m] 35)) := by go_grown
  have c0 : (w.alloc (.cells #[.int .i64 k, .int .i64 m] 35)).cell? ⟨w.heap.size, 0, none⟩ = some (.int .i64 k) := by rw [World.cell?_alloc_mark]; rfl
  have c1 : (w.alloc (.cells #[.int .i64 k, .int .i64 m] 35)).cell? ⟨w.heap.size, 1, none⟩ = some (.int .i64 m) := by rw [World.cell?_alloc_mark]; rfl
  have hsz : w.heap.size + 1 ≤ (w.alloc (.cells #[.int .i64 k, .int .i64 m] 35)).heap.size := by simp
  have hE0 := Lib.hid (hE.below hb0)
  clear hE
  generalize w.alloc (.cells #[.int .i64 k, .int .i64 m] 35) = w0 at *
  go_region_held3 (fun w' => w'.cell? ⟨w.heap.size, 0, none⟩ = some (.int .i64 k) ∧ w'.cell? ⟨w.heap.size, 1, none⟩ = some (.int .i64 m))
    (first | go_keep | (exact ⟨box_kept hb1 c0, box_kept hb1 c1⟩) | (exact ⟨box_kept (Below.drew hb1) c0, box_kept (Below.drew hb1) c1⟩))
    (first
      | (go_at_call 9; refine (from_base (C := w.heap.size + 1) (w0 := w0) ?_ hsz (numAlive _ (hE0.out.below ?_))).mono ?_; (go_grown); (go_grown); rintro e w1 ⟨rfl, hb1⟩)
      | (go_at_call 26; refine (from_base (C := w.heap.size + 1) (w0 := w0) ?_ hsz (numMeets k m n _)).mono ?_; (go_grown); rintro e w1 ⟨rfl, hb1⟩)
      | (go_at_call 27; refine (from_base (C := w.heap.size + 1) (w0 := w0) ?_ hsz (refMeets k m n _)).mono ?_; (go_grown); rintro e w1 ⟨rfl, hb1⟩))
  go_wp2
  go_ret
  exact ⟨rfl, hb0.trans (Below.mono (by go_grown) (by omega : w.heap.size ≤ w.heap.size + 1))⟩
set_option maxRecDepth 100000 in
theorem lawNumBitsAny (n : Int) (l : List Int) (hl : l.length ≤ 31) (w : World) (hE : Env w)
    (h1 : ∀ W, Calls Tryd.prog 20 #[.int .i64 n] W (IntsRes l W)) (h2 : ∀ W, Calls Tryd.prog 21 #[.int .i64 n] W (IntsRes l W)) :
    Calls Tryd.prog 4 #[.int .i64 n] w fun e w' => e = .returned (.bool true) ∧ Below w.heap.size w w' := by
  have H1 := Lib.hid h1
  have H2 := Lib.hid h2
  clear h1 h2
  go_enter Tryd.func4, Tryd.ntmps4
  go_wp2_with fail
  refine (H1.out w).mono ?_
  rintro e w1 ⟨v1, rfl, ho1, hb1⟩
  have hE1 := Lib.hid (hE.below hb1)
  go_wp2_with fail
  refine (H2.out w1).mono ?_
  rintro e w2 ⟨v2, rfl, ho2, hb2⟩
  have hE2 := Lib.hid (hE1.out.below hb2)
  have ho1' := ho1.below hb2 (Nat.le_refl _)
  have hb2 := hb1.trans (hb2.mono hb1.size)
  clear ho1 hE
  have s1 := ho1'.shape
  have s2 := ho2.shape
  clear ho1' ho2
  rcases s1 with ⟨rfl, rfl⟩ | ⟨g1, cap1, rfl, -, -, -, -, hc1⟩
  · rcases s2 with ⟨rfl, -⟩ | ⟨g2, cap2, rfl, -, -, -, -, hc2⟩
    all_goals
      go_wp2_with fail
      refine wp_loop_rounds 1 ?_
      rw [rounds_succ]
      go_wp2_with fail
      refine (numAlive _ hE2.out).mono ?_
      rintro e w3 ⟨rfl, hb3⟩
      go_wp2_with fail
      go_ret
      exact ⟨rfl, hb2.trans (hb3.mono hb2.size)⟩
  · rcases s2 with ⟨rfl, rfl⟩ | ⟨g2, cap2, rfl, -, -, -, -, hc2⟩
    · go_wp2_with fail
      refine wp_loop_rounds 1 ?_
      rw [rounds_succ]
      go_wp2_with fail
      refine (numAlive _ hE2.out).mono ?_
      rintro e w3 ⟨rfl, hb3⟩
      go_wp2_with fail
      go_ret
      exact ⟨rfl, hb2.trans (hb3.mono hb2.size)⟩
    · have lt1 : ∀ i x, l[i]? = some x → g1 < w2.heap.size := fun i x hx => Lib.lt_of_cell (hc1 i x hx)
      have lt2 : ∀ i x, l[i]? = some x → g2 < w2.heap.size := fun i x hx => Lib.lt_of_cell (hc2 i x hx)
      have C1 := Lib.hid hc1
      have C2 := Lib.hid hc2
      have T1 := Lib.hid lt1
      have T2 := Lib.hid lt2
      clear hc1 hc2 lt1 lt2
      go_wp2_with fail
      go_loopw [17] (fun i wr => ∃ k : Nat, k ≤ l.length ∧ i = .int .i64 (k : Int) ∧ Below w2.heap.size w2 wr) (fun i _ => l.length - (intOf i).toNat)
      case atStart => exact ⟨0, by omega, rfl, Below.refl _ _⟩
      case round =>
        obtain ⟨k, hk, rfl, hbr⟩ := hrel
        by_cases hlt : k < l.length
        · obtain ⟨x, hx⟩ : ∃ x, l[k]? = some x := ⟨l[k], by simp [hlt]⟩
          have d1 : wr.cell? ⟨g1, k, none⟩ = some (.int .i64 x) := (hbr.cell (T1.out k x hx)).trans (C1.out k x hx)
          have d2 : wr.cell? ⟨g2, k, none⟩ = some (.int .i64 x) := (hbr.cell (T2.out k x hx)).trans (C2.out k x hx)
          have i0 : (0 : Int) ≤ (k : Int) := by omega
          have i1 : (k : Int) < (l.length : Int) := by omega
          clear hx
          go_wp2_with fail
          go_quiet (fail)
          go_wp2_with fail
          go_roundw
          case rel => exact ⟨k + 1, by omega, by go_num, below_drewN hbr _⟩
          case measure => simp [intOf]; omega
        · have hle : (l.length : Int) ≤ (k : Int) := by omega
          go_wp2_with fail
          refine (numAlive _ (hE2.out.below hbr)).mono ?_
          rintro e w3 ⟨rfl, hb3⟩
          go_wp2_with fail
          go_ret
          exact ⟨rfl, (hb2.trans (hbr.mono hb2.size)).trans (hb3.mono (Nat.le_trans hb2.size hbr.size))⟩
theorem lawNumBits (n : Int) (h1 : n ≤ 9223372036854775807) (w : World) (hE : Env w) :
    Calls Tryd.prog 4 #[.int .i64 n] w fun e w' => e = .returned (.bool true) ∧ Below w.heap.size w w' := by
  rcases Int.lt_or_le n 0 with hn | hn
  · exact lawNumBitsAny n [] (by decide) w hE (fun W => numBitsNeg n hn W) (fun W => refBitsNeg n hn W)
  · obtain ⟨m, rfl⟩ : ∃ m : Nat, n = (m : Int) := ⟨n.toNat, by omega⟩
    exact lawNumBitsAny (m : Int) (Num.bitsL m 31) (Num.bitsL_len m 31) w hE (fun W => numBits m h1 W) (fun W => refBits m h1 W)
/-- Number at a text that is no numeral, or one: what it returns -/
theorem numberAt {s : ByteArray} {l : List UInt8} {o : Option Int} (hs : s = ⟨l.toArray⟩) (hl : l.length ≤ 1000) (ho : Num.numberL l = o) {W : World} (hE : Env W) :
    Calls Tryd.prog 22 #[.string s] W fun e w' => e = .returned (.tuple #[.int .i64 (o.getD 0), .bool o.isSome]) ∧ Below W.heap.size W w' := by
  subst hs ho
  refine (numNumber ⟨l.toArray⟩ (by show l.toArray.size ≤ _; simp; omega) W hE).mono fun e w' h => ⟨?_, h.2⟩
  have h1 := h.1
  unfold numRes at h1
  simpa using h1
set_option maxRecDepth 100000 in
theorem lawNumBackAny (n : Int) (h0 : -9223372036854775808 ≤ n) (h1 : n ≤ 9223372036854775807) (o : Option Int) (ho : Num.numberL (Lib.itoa n) = o)
    (hin : (-1000000 ≤ n ∧ n ≤ 1000000 ∧ o = some n) ∨ (n < -1000000 ∧ o = none) ∨ (1000000 < n ∧ o = none)) (w : World) (hE : Env w) :
    Calls Tryd.prog 6 #[.int .i64 n] w fun e w' => e = .returned (.bool true) ∧ Below w.heap.size w w' := by
  have hlen := Num.itoa_len h0 h1
  have HN : Hid (∀ W, Env W → Calls Tryd.prog 22 #[.string ⟨(Lib.itoa n).toArray⟩] W fun e w' => e = .returned (.tuple #[.int .i64 (o.getD 0), .bool o.isSome]) ∧ Below W.heap.size W w') :=
    Lib.hid fun W hW => numberAt rfl (by omega) ho hW
  have HZ : Hid (∀ W, Env W → Calls Tryd.prog 22 #[.string ({ data := #[48] } ++ { data := (Lib.itoa n).toArray })] W fun e w' => e = .returned (.tuple #[.int .i64 0, .bool false]) ∧ Below W.heap.size W w') :=
    Lib.hid fun W hW => numberAt (o := none) (str_cat [48] (Lib.itoa n)) (by simp; omega) (Num.numberL_zero n) hW
  have HP : Hid (∀ W, Env W → Calls Tryd.prog 22 #[.string ({ data := #[43] } ++ { data := (Lib.itoa n).toArray })] W fun e w' => e = .returned (.tuple #[.int .i64 0, .bool false]) ∧ Below W.heap.size W w') :=
    Lib.hid fun W hW => numberAt (o := none) (str_cat [43] (Lib.itoa n)) (by simp; omega) (Num.numberL_plus n) hW
  clear ho
  rcases hin with ⟨i0, i1, rfl⟩ | ⟨i0, rfl⟩ | ⟨i0, rfl⟩
  all_goals
    go_enter Tryd.func6, Tryd.ntmps6
    go_wp2_with fail
    refine (numText n h0 h1 _ hE).mono ?_
    rintro e w1 ⟨rfl, hb1⟩
    have hE1 := Lib.hid (hE.below hb1)
    go_wp2_with fail
    refine (HN.out _ hE1.out).mono ?_
    rintro e w2 ⟨rfl, hb2⟩
    have hE2 := Lib.hid (hE1.out.below hb2)
    have hb2 := hb1.trans (hb2.mono hb1.size)
    go_wp2_with fail
    refine (numText n h0 h1 _ hE2.out).mono ?_
    rintro e w3 ⟨rfl, hb3⟩
    have hE3 := Lib.hid (hE2.out.below hb3)
    have hb3 := hb2.trans (hb3.mono hb2.size)
    go_wp2_with fail
    refine (HZ.out _ hE3.out).mono ?_
    rintro e w4 ⟨rfl, hb4⟩
    have hE4 := Lib.hid (hE3.out.below hb4)
    have hb4 := hb3.trans (hb4.mono hb3.size)
    go_wp2_with fail
    refine (numText n h0 h1 _ hE4.out).mono ?_
    rintro e w5 ⟨rfl, hb5⟩
    have hE5 := Lib.hid (hE4.out.below hb5)
    have hb5 := hb4.trans (hb5.mono hb4.size)
    go_wp2_with fail
    refine (HP.out _ hE5.out).mono ?_
    rintro e w6 ⟨rfl, hb6⟩
    have hE6 := Lib.hid (hE5.out.below hb6)
    have hb6 := hb5.trans (hb6.mono hb5.size)
    go_wp2_with fail
    refine (numAlive _ hE6.out).mono ?_
    rintro e w7 ⟨rfl, hb7⟩
    have hb7 := hb6.trans (hb7.mono hb6.size)
    go_wp2_with fail
    go_ret
    first | exact ⟨rfl, hb7⟩ | exact ⟨ret_bool (by simp; omega), hb7⟩
theorem lawNumBack (n : Int) (h0 : -9223372036854775808 ≤ n) (h1 : n ≤ 9223372036854775807) (w : World) (hE : Env w) :
    Calls Tryd.prog 6 #[.int .i64 n] w fun e w' => e = .returned (.bool true) ∧ Below w.heap.size w w' := by
  by_cases h : -1000000 ≤ n ∧ n ≤ 1000000
  · exact lawNumBackAny n h0 h1 _ (Num.numberL_itoa_in h.1 h.2) (Or.inl ⟨h.1, h.2, rfl⟩) w hE
  · exact lawNumBackAny n h0 h1 _ (Num.numberL_itoa_out h0 h1 h) (by rcases Int.lt_or_le n (-1000000) with h' | h' <;> simp <;> omega) w hE
end Go.Proofs.YtbobapnenadopaaDoor
