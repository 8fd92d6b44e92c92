/-
  CONTRACTS OF LAYER 8 (mana): the reference's Text. By an AI agent.
-/
import Derived.Test.YtcllaenanihedaaDoorManaTextWalks
import Derived.Test.YtcllaenanihedaaDoorManaWalksC
import Derived.Deep.LoopGhost
namespace Go.Proofs.YtcllaenanihedaaDoor
open Go.RowKit

theorem catLetter (l : List UInt8) (k : Nat) (hk : k < 5) : Value.string ((⟨l.toArray⟩ : ByteArray) ++ (⟨#[65, 67, 74, 82, 69]⟩ : ByteArray).extract k (k + 1)) = .string ⟨(l ++ [Mana.letter k]).toArray⟩ := by
  rw [extractLetter k hk]
  exact congrArg Value.string (str_cat l [Mana.letter k])
set_option maxHeartbeats 2000000 in
set_option maxRecDepth 100000 in
theorem refText8 (c : Mana.Cst) (w : World) :
    Calls Tryd.prog 12 #[.agg #[.int .i64 c.g, .int .i64 c.x, .int .i64 c.c0, .int .i64 c.c1, .int .i64 c.c2, .int .i64 c.c3, .int .i64 c.c4]] w fun e w' => e = .returned (.string ⟨(Mana.textL c).toArray⟩) ∧ Below w.heap.size w w' := by
  cases hok : Mana.okC c with
  | false =>
    have HO := Lib.hid hok
    have HV := Lib.hid (Mana.text_no hok)
    clear hok
    go_enter Tryd.func12, Tryd.ntmps12
    go_wp2_with fail
    refine (refIs8 c _).mono ?_
    rintro e w1 ⟨rfl, hb⟩
    rw [HO.out]
    go_wp2
    go_ret
    exact ⟨by rw [HV.out]; rfl, below_boxed hb⟩
  | true =>
    have HO := Lib.hid hok
    obtain ⟨⟨g0, g1⟩, ⟨x0, x1⟩, -⟩ := Mana.okC_iff.1 hok
    have HC := Lib.hid (Mana.okC_col hok)
    have HL := Lib.hid (Mana.body_len hok)
    clear hok
    go_enter Tryd.func12, Tryd.ntmps12
    go_wp2_with fail
    refine (refIs8 c _).mono ?_
    rintro e w1 ⟨rfl, hb⟩
    rw [HO.out]
    have HB := Lib.hid hb
    obtain ⟨hcl, hfr⟩ := below_cells hb
    go_wp2
    go_loop [3, 4] (fun s i => ∃ k : Nat, (k : Int) ≤ c.x ∧ i = .int .i64 (k : Int) ∧ s = .string ⟨(Mana.rep 88 (k : Int)).toArray⟩) (fun _ i => 3 - (intOf i).toNat)
    case atStart => exact ⟨0, by omega, rfl, rfl⟩
    case round =>
      obtain ⟨k, hk, rfl, rfl⟩ := hrel
      have hxl : (Mana.rep 88 (k : Int)).length ≤ 9 := Mana.rep_len9 88 (by omega)
      by_cases hlt : (k : Int) < c.x
      · have HS := Lib.hid (Mana.rep_succ 88 k)
        go_wp2
        go_round
        case rel => exact ⟨k + 1, by omega, by go_num, by rw [HS.out]; exact congrArg Value.string (str_cat _ [88])⟩
        case measure => simp [intOf]; omega
      · have HK : Hid ((k : Int) = c.x) := Lib.hid (by omega)
        clear hk hlt
        rw [HK.out] at hxl ⊢
        clear HK
        by_cases hg : 0 < c.g
        · have HG : Hid (Mana.bodyTo c 0 = Mana.rep 88 c.x ++ Lib.itoa c.g) := Lib.hid (by rw [Mana.body_zero, Mana.genL, if_pos hg])
          have hgl : (Lib.itoa c.g).length ≤ 2 := by have := Mana.gen_len g1; rw [Mana.genL, if_pos hg] at this; exact this
          go_wp2_with fail
          refine (refText c.g (by omega) (by omega) _).mono ?_
          rintro e w3 ⟨rfl, hb3⟩
          have HB3 := Lib.hid (HB.out.trans (hb3.mono HB.out.size))
          have HW := Lib.hid (below_boxed HB3.out)
          obtain ⟨hcl3, hfr3⟩ := below_cells HB3.out
          go_wp2
          go_loopg [3, 5] 5 (fun g s i wr => ∃ k : Nat, k + g = 5 ∧ i = .int .i64 (k : Int) ∧ s = .string ⟨(Mana.bodyTo c k).toArray⟩ ∧ wr = w3)
          case atStart => exact ⟨0, by omega, rfl, by rw [HG.out]; exact congrArg Value.string (str_cat _ _), rfl⟩
          case round =>
            obtain ⟨k, hkg, rfl, rfl, rfl⟩ := hrel
            have hk : k ≤ 5 := by omega
            have HKG := Lib.hid hkg
            clear hkg
            have hlen := HL.out k hk
            by_cases hlt : k < 5
            · have hi := costCell c k hlt 24 w
              obtain ⟨n0, n1⟩ := HC.out k
              have HS := Lib.hid (Mana.body_succ c k)
              go_wp2
              go_loopg [3, 6] 9 (fun g s i wr' => ∃ j : Nat, j + g = 9 ∧ (j : Int) ≤ c.col k ∧ i = .int .i64 (j : Int) ∧ s = .string ⟨(Mana.bodyTo c k ++ Mana.rep (Mana.letter k) (j : Int)).toArray⟩ ∧ wr' = wr)
              case atStart => exact ⟨0, by omega, n0, rfl, by rw [show ((0 : Nat) : Int) = 0 from rfl, Mana.rep_zero, List.append_nil], rfl⟩
              case round =>
                obtain ⟨j, hjg, hj, rfl, rfl, rfl⟩ := hrel
                have HJG := Lib.hid hjg
                clear hjg
                have hrl := Mana.rep_len9 (Mana.letter k) (n := (j : Int)) (by omega)
                by_cases hjt : (j : Int) < c.col k
                · have HJ := Lib.hid (Mana.rep_succ (Mana.letter k) j)
                  go_wp2
                  go_roundg (9 - (j + 1))
                  case rel => exact ⟨j + 1, by have := HJG.out; omega, by omega, by go_num, by rw [HJ.out, ← List.append_assoc]; exact catLetter _ k hlt, rfl⟩
                  case measure => have := HJG.out; omega
                · have HJ : Hid ((j : Int) = c.col k) := Lib.hid (by omega)
                  clear hj hjt
                  rw [HJ.out]
                  go_wp2
                  go_roundg (5 - (k + 1))
                  case rel => exact ⟨k + 1, by omega, by go_num, by rw [HS.out], rfl⟩
                  case measure => have := HKG.out; omega
            · obtain rfl : k = 5 := by omega
              by_cases hn : Mana.bodyTo c 5 = []
              · have HN := Lib.hid (Mana.text_nil HO.out hn)
                have t1 : ((Mana.bodyTo c 5) == []) = true := by rw [hn]; rfl
                clear hn
                go_wp2
                go_ret
                exact ⟨ret_str' HN.out, HW.out⟩
              · have HN := Lib.hid (Mana.text_body HO.out hn)
                have t1 : ((Mana.bodyTo c 5) == []) = false := by simpa using hn
                clear hn
                go_wp2
                go_ret
                exact ⟨ret_str' HN.out, HW.out⟩
        · have HG : Hid (Mana.bodyTo c 0 = Mana.rep 88 c.x) := Lib.hid (by rw [Mana.body_zero, Mana.genL, if_neg hg, List.append_nil])
          have hgz : (c.g != 0) = false := by rw [bne_eq_false_iff_eq]; omega
          have HW := Lib.hid (below_boxed HB.out)
          go_wp2
          go_loopg [3, 5] 5 (fun g s i wr => ∃ k : Nat, k + g = 5 ∧ i = .int .i64 (k : Int) ∧ s = .string ⟨(Mana.bodyTo c k).toArray⟩ ∧ wr = w1)
          case atStart => exact ⟨0, by omega, rfl, by rw [HG.out], rfl⟩
          case round =>
            obtain ⟨k, hkg, rfl, rfl, rfl⟩ := hrel
            have hk : k ≤ 5 := by omega
            have HKG := Lib.hid hkg
            clear hkg
            have hlen := HL.out k hk
            by_cases hlt : k < 5
            · have hi := costCell c k hlt 24 w
              obtain ⟨n0, n1⟩ := HC.out k
              have HS := Lib.hid (Mana.body_succ c k)
              go_wp2
              go_loopg [3, 6] 9 (fun g s i wr' => ∃ j : Nat, j + g = 9 ∧ (j : Int) ≤ c.col k ∧ i = .int .i64 (j : Int) ∧ s = .string ⟨(Mana.bodyTo c k ++ Mana.rep (Mana.letter k) (j : Int)).toArray⟩ ∧ wr' = wr)
              case atStart => exact ⟨0, by omega, n0, rfl, by rw [show ((0 : Nat) : Int) = 0 from rfl, Mana.rep_zero, List.append_nil], rfl⟩
              case round =>
                obtain ⟨j, hjg, hj, rfl, rfl, rfl⟩ := hrel
                have HJG := Lib.hid hjg
                clear hjg
                have hrl := Mana.rep_len9 (Mana.letter k) (n := (j : Int)) (by omega)
                by_cases hjt : (j : Int) < c.col k
                · have HJ := Lib.hid (Mana.rep_succ (Mana.letter k) j)
                  go_wp2
                  go_roundg (9 - (j + 1))
                  case rel => exact ⟨j + 1, by have := HJG.out; omega, by omega, by go_num, by rw [HJ.out, ← List.append_assoc]; exact catLetter _ k hlt, rfl⟩
                  case measure => have := HJG.out; omega
                · have HJ : Hid ((j : Int) = c.col k) := Lib.hid (by omega)
                  clear hj hjt
                  rw [HJ.out]
                  go_wp2
                  go_roundg (5 - (k + 1))
                  case rel => exact ⟨k + 1, by omega, by go_num, by rw [HS.out], rfl⟩
                  case measure => have := HKG.out; omega
            · obtain rfl : k = 5 := by omega
              by_cases hn : Mana.bodyTo c 5 = []
              · have HN := Lib.hid (Mana.text_nil HO.out hn)
                have t1 : ((Mana.bodyTo c 5) == []) = true := by rw [hn]; rfl
                clear hn
                go_wp2
                go_ret
                exact ⟨ret_str' HN.out, HW.out⟩
              · have HN := Lib.hid (Mana.text_body HO.out hn)
                have t1 : ((Mana.bodyTo c 5) == []) = false := by simpa using hn
                clear hn
                go_wp2
                go_ret
                exact ⟨ret_str' HN.out, HW.out⟩
end Go.Proofs.YtcllaenanihedaaDoor
