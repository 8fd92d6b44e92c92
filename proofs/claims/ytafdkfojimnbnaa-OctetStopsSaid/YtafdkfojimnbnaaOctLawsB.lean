/-
  LAYER 4's LAWS: OctetStops. By an AI agent.
-/
import Derived.Test.YtafdkfojimnbnaaOctLaws
namespace Go.Proofs.Ytafdkfojimnbnaa
open Go.RowKit
open Go.Lib (uvarint uvarint_small uvarint_big zigzag unzigzag)

set_option maxRecDepth 100000 in
theorem uintErr {lo g : Nat} {s : Oct.St} (m : Nat) (w : World) (h : RdO lo g w s) (he : s.2 ≠ 0) : Calls Try.prog 19 #[ptr g, .int .u64 (m : Int)] w fun e w' => e = .returned (.int .u64 0) ∧ w = w' := by
  have t1 : ((s.2 : Int) == 0) = false := by simp only [beq_eq_false_iff_ne]; exact he
  go_enter Try.func19, Try.ntmps19
  go_wp2_with fail
  refine (octErr w h).mono ?_
  rintro e w1 ⟨rfl, rfl⟩
  go_wp2_with fail
  go_ret
  exact ⟨rfl, rfl⟩
set_option maxRecDepth 100000 in
theorem intErr {lo g : Nat} {s : Oct.St} (w : World) (h : RdO lo g w s) (he : s.2 ≠ 0) : Calls Try.prog 20 #[ptr g] w fun e w' => e = .returned (.int .i64 0) ∧ w = w' := by
  go_enter Try.func20, Try.ntmps20
  go_wp2_with fail
  refine (uintErr 18446744073709551615 w h he).mono ?_
  rintro e w1 ⟨rfl, rfl⟩
  go_wp2_with fail
  refine (octSigned 0 (by decide) w).mono ?_
  rintro e w1 ⟨rfl, rfl⟩
  go_wp2_with fail
  go_ret
  exact ⟨rfl, rfl⟩
set_option maxRecDepth 100000 in
theorem boolErr {lo g : Nat} {s : Oct.St} (w : World) (h : RdO lo g w s) (he : s.2 ≠ 0) : Calls Try.prog 22 #[ptr g] w fun e w' => e = .returned (.bool false) ∧ w = w' := by
  go_enter Try.func22, Try.ntmps22
  go_wp2_with fail
  refine (uintErr 1 w h he).mono ?_
  rintro e w1 ⟨rfl, rfl⟩
  go_wp2_with fail
  go_ret
  exact ⟨rfl, rfl⟩
set_option maxRecDepth 100000 in
theorem lengthErr {lo g : Nat} {s : Oct.St} (m : Int) (m0 : -9223372036854775808 ≤ m) (m1 : m ≤ 9223372036854775807) (w : World) (h : RdO lo g w s) (he : s.2 ≠ 0) : Calls Try.prog 47 #[ptr g, .int .i64 m] w fun e w' => e = .returned (.int .u64 0) ∧ w = w' := by
  by_cases hm : m < 0
  · have t1 : m ≤ 0 := by omega
    go_enter Try.func47, Try.ntmps47
    go_wp2_with fail
    refine (uintErr 0 w h he).mono ?_
    rintro e w1 ⟨rfl, rfl⟩
    go_wp2_with fail
    go_ret
    exact ⟨rfl, rfl⟩
  · obtain ⟨k, rfl⟩ := Int.eq_ofNat_of_zero_le (show 0 ≤ m by omega)
    have t0 : (0 : Int) ≤ (k : Int) := by omega
    go_enter Try.func47, Try.ntmps47
    go_wp2_with fail
    refine (uintErr k w h he).mono ?_
    rintro e w1 ⟨rfl, rfl⟩
    go_wp2_with fail
    go_ret
    exact ⟨rfl, rfl⟩
set_option maxRecDepth 100000 in
theorem textErr {lo g : Nat} {s : Oct.St} (m : Int) (m0 : -9223372036854775808 ≤ m) (m1 : m ≤ 9223372036854775807) (w : World) (h : RdO lo g w s) (he : s.2 ≠ 0) (hs : s.1 = []) : Calls Try.prog 23 #[ptr g, .int .i64 m] w fun e w' => e = .returned (.string ByteArray.empty) ∧ w = w' := by
  have hleft := octLeft w h
  rw [hs] at hleft
  go_enter Try.func23, Try.ntmps23
  go_wp2_with fail
  refine (lengthErr m m0 m1 w h he).mono ?_
  rintro e w1 ⟨rfl, rfl⟩
  go_wp2_with fail
  refine hleft.mono ?_
  rintro e w1 ⟨rfl, rfl⟩
  go_wp2_with fail
  go_ret
  exact ⟨rfl, rfl⟩
set_option maxRecDepth 100000 in
theorem intsErr {lo g : Nat} {s : Oct.St} (m : Int) (m0 : -9223372036854775808 ≤ m) (m1 : m ≤ 9223372036854775807) (w : World) (h : RdO lo g w s) (he : s.2 ≠ 0) : Calls Try.prog 24 #[ptr g, .int .i64 m] w fun e w' => e = .returned (.slice none 0 0) ∧ w = w' := by
  go_enter Try.func24, Try.ntmps24
  go_wp2_with fail
  refine (lengthErr m m0 m1 w h he).mono ?_
  rintro e w1 ⟨rfl, rfl⟩
  go_wp2_with fail
  refine wp_loop_rounds 1 ?_
  rw [rounds_succ]
  go_wp2_with fail
  go_ret
  exact ⟨rfl, rfl⟩
set_option maxHeartbeats 2000000 in
set_option maxRecDepth 100000 in
theorem lawStops (va vl : Value) (l : List UInt8) (xs : List Val) (w : World) (ha : Bytes w va l) (hv : Vals w.heap.size w vl xs) (hl : l.length ≤ 140737488355328) :
    Calls Try.prog 7 #[va, vl] w fun e w' => e = .returned (.bool true) ∧ Below w.heap.size w w' := by
  obtain ⟨a, c, rfl, hc1, hc2, hd⟩ := hv
  unfold maxLen at hc2
  have D := Lib.hid hd
  clear hd
  have ha' := ha
  obtain ⟨a1, q1, rfl, -⟩ := ha'
  go_enter Try.func7, Try.ntmps7
  go_wp2_with fail
  refine (octNew _ l w ha hl).mono ?_
  rintro e w1 ⟨g, rfl, hg, hr, hb1⟩
  go_wp2_with fail
  go_loopw [6] (fun i wr => ∃ k : Nat, k ≤ l.length + 1 ∧ i = .int .i64 (k : Int) ∧ ∃ s : Oct.St, RdO w.heap.size g wr s ∧ Oct.Fine s ∧ (s.2 = 0 → s.1.length + k ≤ l.length) ∧ Below w.heap.size w wr) (fun i _ => l.length + 1 - (intOf i).toNat)
  case atStart => exact ⟨0, by omega, rfl, (l, 0), hr, fun h => absurd rfl h, fun _ => Nat.le_refl _, hb1⟩
  case round =>
    clear hr hb1
    obtain ⟨k, hk, rfl, s, hr, hf, hsk, hb⟩ := hrel
    have i0 : (0 : Int) ≤ (k : Int) := by omega
    by_cases he : s.2 = 0
    · have hk2 := hsk he
      have i1 : (k : Int) ≤ (l.length : Int) := by omega
      have hless : (Oct.intS s).2.2 = 0 → (Oct.intS s).2.1.length + 1 ≤ s.1.length := Oct.num_less (s := s)
      have hf2 := Oct.intS_fine hf
      have herr := octErr wr hr
      have hint := octInt wr hr
      rw [he] at herr
      go_wp2_with fail
      refine herr.mono ?_
      rintro e w2 ⟨rfl, rfl⟩
      go_wp2_with fail
      refine hint.mono ?_
      rintro e w2 ⟨rfl, hr2, hg2⟩
      go_wp2_with fail
      go_roundw
      case rel => exact ⟨k + 1, by omega, by go_num, _, hr2, hf2, fun h => by have := hless h; omega, hb.grown hg2 hb.size (by rintro j ⟨⟩; exact hg)⟩
      case measure => simp [intOf]; omega
    · have ht : ((s.2 : Int) == 0) = false := by simp only [beq_eq_false_iff_ne]; exact he
      have hs1 : s.1 = [] := hf he
      have HE := Lib.hid he
      clear hsk he
      by_cases hkl : k ≤ l.length
      · have i1 : (k : Int) ≤ (l.length : Int) := by omega
        go_wp2_with fail
        refine (octErr wr hr).mono ?_
        rintro e w2 ⟨rfl, rfl⟩
        go_wp2_with fail
        refine (octErr wr hr).mono ?_
        rintro e w2 ⟨rfl, rfl⟩
        go_wp2_with fail
        revert wr
        intro w0 h1 h2
        go_loopw [31] (fun i wr => ∃ j : Nat, j ≤ xs.length ∧ i = .int .i64 (j : Int) ∧ RdO w.heap.size g wr s ∧ Below w.heap.size w wr) (fun i _ => xs.length - (intOf i).toNat)
        case atStart => exact ⟨0, by omega, rfl, by assumption, by assumption⟩
        case round =>
          clear h1 h2
          obtain ⟨j, hj, rfl, hr, hb⟩ := hrel
          have j0 : (0 : Int) ≤ (j : Int) := by omega
          by_cases hlt : j < xs.length
          · have j1 : (j : Int) < (xs.length : Int) := by omega
            obtain ⟨b, o, rfl, hbC, hu, hn, hrow, hfit, hcell⟩ := D.out j _ (getD_get (d := default) hlt)
            generalize xs.getD j default = x at hu hn hrow hfit hcell
            obtain ⟨kind, u, n, s0, lv, ll⟩ := x
            replace hrow : RowIn (Value.int .i64) 0 w.heap.size w lv ll := hrow
            obtain ⟨a2, q2, rfl, -⟩ := hrow
            have c0 := (hb.cell (p := ⟨b, o + j * 5 + 0, none⟩) hbC).trans (hcell 0 (.int .i64 kind) rfl)
            have c1 := (hb.cell (p := ⟨b, o + j * 5 + 1, none⟩) hbC).trans (hcell 1 (.int .u64 (u : Int)) rfl)
            have c2 := (hb.cell (p := ⟨b, o + j * 5 + 2, none⟩) hbC).trans (hcell 2 (.int .i64 n) rfl)
            have c3 := (hb.cell (p := ⟨b, o + j * 5 + 3, none⟩) hbC).trans (hcell 3 (.string s0) rfl)
            have c4 := (hb.cell (p := ⟨b, o + j * 5 + 4, none⟩) hbC).trans (hcell 4 (.slice a2 ll.length q2) rfl)
            rw [Nat.add_zero] at c0
            replace hu : u < 18446744073709551616 := hu
            obtain ⟨n0, n1⟩ : -9223372036854775808 ≤ n ∧ n ≤ 9223372036854775807 := hn
            have hb0 := below_alloc1 wr (.cells #[.int .i64 kind, .int .u64 (u : Int), .int .i64 n, .string s0, .slice a2 ll.length q2] 29)
            have hr0 := hr.past (r := none) (grownBy_below hb0) (fun k e => by cases e)
            have hleft := octLeft _ hr0
            rw [hs1] at hleft
            clear hcell hfit
            go_wp2_with fail
            refine (uintErr u _ hr0 HE.out).mono ?_
            rintro e w2 ⟨rfl, rfl⟩
            go_wp2_with fail
            refine (intErr _ hr0 HE.out).mono ?_
            rintro e w2 ⟨rfl, rfl⟩
            go_wp2_with fail
            refine (boolErr _ hr0 HE.out).mono ?_
            rintro e w2 ⟨rfl, rfl⟩
            go_wp2_with fail
            refine (textErr n n0 n1 _ hr0 HE.out hs1).mono ?_
            rintro e w2 ⟨rfl, rfl⟩
            go_wp2_with fail
            refine (intsErr n n0 n1 _ hr0 HE.out).mono ?_
            rintro e w2 ⟨rfl, rfl⟩
            go_wp2_with fail
            refine hleft.mono ?_
            rintro e w2 ⟨rfl, rfl⟩
            go_wp2_with fail
            refine (octErr _ hr0).mono ?_
            rintro e w2 ⟨rfl, rfl⟩
            go_wp2_with fail
            go_roundw
            case rel => exact ⟨j + 1, by omega, by go_num, hr0, hb.trans (hb0.mono hb.size)⟩
            case measure => simp [intOf]; omega
          · obtain rfl : j = xs.length := by omega
            go_wp2_with fail
            refine (alive wr).mono ?_
            rintro e w3 ⟨rfl, hb3⟩
            go_wp2_with fail
            go_ret
            exact ⟨rfl, hb.trans (hb3.mono hb.size)⟩
      · have i1 : ¬ (k : Int) ≤ (l.length : Int) := by omega
        go_wp2_with fail
        refine (octErr wr hr).mono ?_
        rintro e w2 ⟨rfl, rfl⟩
        go_wp2_with fail
        revert wr
        intro w0 h1 h2
        go_loopw [31] (fun i wr => ∃ j : Nat, j ≤ xs.length ∧ i = .int .i64 (j : Int) ∧ RdO w.heap.size g wr s ∧ Below w.heap.size w wr) (fun i _ => xs.length - (intOf i).toNat)
        case atStart => exact ⟨0, by omega, rfl, by assumption, by assumption⟩
        case round =>
          clear h1 h2
          obtain ⟨j, hj, rfl, hr, hb⟩ := hrel
          have j0 : (0 : Int) ≤ (j : Int) := by omega
          by_cases hlt : j < xs.length
          · have j1 : (j : Int) < (xs.length : Int) := by omega
            obtain ⟨b, o, rfl, hbC, hu, hn, hrow, hfit, hcell⟩ := D.out j _ (getD_get (d := default) hlt)
            generalize xs.getD j default = x at hu hn hrow hfit hcell
            obtain ⟨kind, u, n, s0, lv, ll⟩ := x
            replace hrow : RowIn (Value.int .i64) 0 w.heap.size w lv ll := hrow
            obtain ⟨a2, q2, rfl, -⟩ := hrow
            have c0 := (hb.cell (p := ⟨b, o + j * 5 + 0, none⟩) hbC).trans (hcell 0 (.int .i64 kind) rfl)
            have c1 := (hb.cell (p := ⟨b, o + j * 5 + 1, none⟩) hbC).trans (hcell 1 (.int .u64 (u : Int)) rfl)
            have c2 := (hb.cell (p := ⟨b, o + j * 5 + 2, none⟩) hbC).trans (hcell 2 (.int .i64 n) rfl)
            have c3 := (hb.cell (p := ⟨b, o + j * 5 + 3, none⟩) hbC).trans (hcell 3 (.string s0) rfl)
            have c4 := (hb.cell (p := ⟨b, o + j * 5 + 4, none⟩) hbC).trans (hcell 4 (.slice a2 ll.length q2) rfl)
            rw [Nat.add_zero] at c0
            replace hu : u < 18446744073709551616 := hu
            obtain ⟨n0, n1⟩ : -9223372036854775808 ≤ n ∧ n ≤ 9223372036854775807 := hn
            have hb0 := below_alloc1 wr (.cells #[.int .i64 kind, .int .u64 (u : Int), .int .i64 n, .string s0, .slice a2 ll.length q2] 29)
            have hr0 := hr.past (r := none) (grownBy_below hb0) (fun k e => by cases e)
            have hleft := octLeft _ hr0
            rw [hs1] at hleft
            clear hcell hfit
            go_wp2_with fail
            refine (uintErr u _ hr0 HE.out).mono ?_
            rintro e w2 ⟨rfl, rfl⟩
            go_wp2_with fail
            refine (intErr _ hr0 HE.out).mono ?_
            rintro e w2 ⟨rfl, rfl⟩
            go_wp2_with fail
            refine (boolErr _ hr0 HE.out).mono ?_
            rintro e w2 ⟨rfl, rfl⟩
            go_wp2_with fail
            refine (textErr n n0 n1 _ hr0 HE.out hs1).mono ?_
            rintro e w2 ⟨rfl, rfl⟩
            go_wp2_with fail
            refine (intsErr n n0 n1 _ hr0 HE.out).mono ?_
            rintro e w2 ⟨rfl, rfl⟩
            go_wp2_with fail
            refine hleft.mono ?_
            rintro e w2 ⟨rfl, rfl⟩
            go_wp2_with fail
            refine (octErr _ hr0).mono ?_
            rintro e w2 ⟨rfl, rfl⟩
            go_wp2_with fail
            go_roundw
            case rel => exact ⟨j + 1, by omega, by go_num, hr0, hb.trans (hb0.mono hb.size)⟩
            case measure => simp [intOf]; omega
          · obtain rfl : j = xs.length := by omega
            go_wp2_with fail
            refine (alive wr).mono ?_
            rintro e w3 ⟨rfl, hb3⟩
            go_wp2_with fail
            go_ret
            exact ⟨rfl, hb.trans (hb3.mono hb.size)⟩
end Go.Proofs.Ytafdkfojimnbnaa
