/-
  THE LAWS OF LAYER 10: types. By an AI agent.
-/
import Derived.Test.YtbichcmpggbfnaaDoorLineAlive
namespace Go.Proofs.YtbichcmpggbfnaaDoor
open Go.RowKit
open Wd (Bs)

set_option maxHeartbeats 2000000 in
set_option maxRecDepth 100000 in
theorem lawLineTypes (m : Int) (s : ByteArray) (hs : s.size ≤ 140737488351232) (w : World) (hE : Env w) :
    Calls Tryd.prog 5 #[.int .i64 m, .string s] w fun e w' => e = .returned (.bool true) ∧ Below w.heap.size w w' := by
  have HE := Lib.hid hE
  have G1 := Lib.hid (fun w hE => lineParseTypes s w hE (by omega))
  have G2 := Lib.hid (fun w => refParseTypes10 s w)
  have G3 := Lib.hid (fun w hE => lineTypesText m w hE)
  have G4 := Lib.hid (fun w => refTypesText10 m w)
  obtain ⟨tx, htx, ex⟩ := exists_bytes (typesI m)
  rw [ex] at G3 G4
  have htl : tx.size ≤ 300 := by
    have h1 := bytes_len tx
    by_cases h : 1 ≤ m ∧ m ≤ 63
    · obtain ⟨n, rfl⟩ : ∃ n : Nat, m = (n : Int) := ⟨m.toNat, by omega⟩
      rw [htx, typesI_nat (by omega) (by omega)] at h1
      have := typesN_len n
      omega
    · rw [htx, typesI_out (by omega)] at h1
      have : ([] : Bs).length = 0 := rfl
      omega
  have G5 := Lib.hid (fun w hE => lineParseTypes tx w hE (by omega))
  have key : (1 ≤ m ∧ m ≤ 63 ∧ ptI tx.data.toList = m ∧ ptE tx.data.toList = 0) ∨ ((m < 1 ∨ 63 < m) ∧ ptI tx.data.toList = 0 ∧ ptE tx.data.toList = 3) := by
    by_cases h : 1 ≤ m ∧ m ≤ 63
    · obtain ⟨n, rfl⟩ : ∃ n : Nat, m = (n : Int) := ⟨m.toNat, by omega⟩
      have h2 := pt_text (m := n) (by omega) (by omega)
      rw [htx, typesI_nat (by omega) (by omega)]
      exact .inl ⟨h.1, h.2, h2.1, h2.2⟩
    · rw [htx, typesI_out (by omega)]
      exact .inr ⟨by omega, pt_empty.1, pt_empty.2⟩
  clear hE htx ex htl
  have hp := pt_cases s.data.toList
  rcases hp with ⟨ha, he⟩ | ⟨q, q1, q2, ha, he, hq⟩
  · rw [ha, he] at G1 G2
    clear ha he
    rcases key with ⟨h1, h2, hc, hg⟩ | ⟨h1, hc, hg⟩
    · rw [hc, hg] at G5
      clear hc hg
      go_enter Tryd.func5, Tryd.ntmps5
      go_wp2_with fail
      refine (G1.out _ HE.out).mono ?_
      rintro e w1 ⟨rfl, hb1⟩
      have B1 := Lib.hid hb1
      clear hb1
      go_wp2_with fail
      refine (G2.out _).mono ?_
      rintro e w2 ⟨rfl, hb2⟩
      have B2 := Lib.hid (B1.out.trans (hb2.mono B1.out.size))
      clear hb2
      go_wp2_with fail
      refine (G3.out _ (HE.out.below B2.out)).mono ?_
      rintro e w3 ⟨rfl, hb3⟩
      have B3 := Lib.hid (B2.out.trans (hb3.mono B2.out.size))
      clear hb3
      go_wp2_with fail
      refine (G5.out _ (HE.out.below B3.out)).mono ?_
      rintro e w4 ⟨rfl, hb4⟩
      have B4 := Lib.hid (B3.out.trans (hb4.mono B3.out.size))
      clear hb4
      go_wp2_with fail
      refine (lineAlive _ (HE.out.below B4.out)).mono ?_
      rintro e w5 ⟨rfl, hb5⟩
      have B5 := Lib.hid (B4.out.trans (hb5.mono B4.out.size))
      clear hb5
      go_wp2_with fail
      refine (G4.out _).mono ?_
      rintro e w6 ⟨rfl, hb6⟩
      have B6 := Lib.hid (B5.out.trans (hb6.mono B5.out.size))
      clear hb6
      go_wp2_with fail
      go_ret
      exact ⟨rfl, B6.out⟩
    · rw [hc, hg] at G5
      clear hc hg
      rcases h1 with h1 | h1
      · have hd : ¬ 1 ≤ m := by omega
        go_enter Tryd.func5, Tryd.ntmps5
        go_wp2_with fail
        refine (G1.out _ HE.out).mono ?_
        rintro e w1 ⟨rfl, hb1⟩
        have B1 := Lib.hid hb1
        clear hb1
        go_wp2_with fail
        refine (G2.out _).mono ?_
        rintro e w2 ⟨rfl, hb2⟩
        have B2 := Lib.hid (B1.out.trans (hb2.mono B1.out.size))
        clear hb2
        go_wp2_with fail
        refine (G3.out _ (HE.out.below B2.out)).mono ?_
        rintro e w3 ⟨rfl, hb3⟩
        have B3 := Lib.hid (B2.out.trans (hb3.mono B2.out.size))
        clear hb3
        go_wp2_with fail
        refine (G5.out _ (HE.out.below B3.out)).mono ?_
        rintro e w4 ⟨rfl, hb4⟩
        have B4 := Lib.hid (B3.out.trans (hb4.mono B3.out.size))
        clear hb4
        go_wp2_with fail
        refine (lineAlive _ (HE.out.below B4.out)).mono ?_
        rintro e w5 ⟨rfl, hb5⟩
        have B5 := Lib.hid (B4.out.trans (hb5.mono B4.out.size))
        clear hb5
        go_wp2_with fail
        refine (G4.out _).mono ?_
        rintro e w6 ⟨rfl, hb6⟩
        have B6 := Lib.hid (B5.out.trans (hb6.mono B5.out.size))
        clear hb6
        go_wp2_with fail
        all_goals
          go_ret
          exact ⟨rfl, B6.out⟩
      · have h0 : 1 ≤ m := by omega
        have hd : (0 == m) = false := by simp; omega
        have hd2 : ¬ m ≤ 63 := by omega
        go_enter Tryd.func5, Tryd.ntmps5
        go_wp2_with fail
        refine (G1.out _ HE.out).mono ?_
        rintro e w1 ⟨rfl, hb1⟩
        have B1 := Lib.hid hb1
        clear hb1
        go_wp2_with fail
        refine (G2.out _).mono ?_
        rintro e w2 ⟨rfl, hb2⟩
        have B2 := Lib.hid (B1.out.trans (hb2.mono B1.out.size))
        clear hb2
        go_wp2_with fail
        refine (G3.out _ (HE.out.below B2.out)).mono ?_
        rintro e w3 ⟨rfl, hb3⟩
        have B3 := Lib.hid (B2.out.trans (hb3.mono B2.out.size))
        clear hb3
        go_wp2_with fail
        refine (G5.out _ (HE.out.below B3.out)).mono ?_
        rintro e w4 ⟨rfl, hb4⟩
        have B4 := Lib.hid (B3.out.trans (hb4.mono B3.out.size))
        clear hb4
        go_wp2_with fail
        refine (lineAlive _ (HE.out.below B4.out)).mono ?_
        rintro e w5 ⟨rfl, hb5⟩
        have B5 := Lib.hid (B4.out.trans (hb5.mono B4.out.size))
        clear hb5
        go_wp2_with fail
        refine (G4.out _).mono ?_
        rintro e w6 ⟨rfl, hb6⟩
        have B6 := Lib.hid (B5.out.trans (hb6.mono B5.out.size))
        clear hb6
        go_wp2_with fail
        go_ret
        exact ⟨ret_bool (by simp; omega), B6.out⟩
  · have G6 := Lib.hid (fun w hE => lineTypesText (q : Int) w hE)
    rw [typesI_nat q1 (by omega), hq, show str s.data.toList = .string s from rfl] at G6
    rw [ha, he] at G1 G2
    clear ha he hq
    rcases key with ⟨h1, h2, hc, hg⟩ | ⟨h1, hc, hg⟩
    · rw [hc, hg] at G5
      clear hc hg
      go_enter Tryd.func5, Tryd.ntmps5
      go_wp2_with fail
      refine (G1.out _ HE.out).mono ?_
      rintro e w1 ⟨rfl, hb1⟩
      have B1 := Lib.hid hb1
      clear hb1
      go_wp2_with fail
      refine (G2.out _).mono ?_
      rintro e w2 ⟨rfl, hb2⟩
      have B2 := Lib.hid (B1.out.trans (hb2.mono B1.out.size))
      clear hb2
      go_wp2_with fail
      refine (G3.out _ (HE.out.below B2.out)).mono ?_
      rintro e w3 ⟨rfl, hb3⟩
      have B3 := Lib.hid (B2.out.trans (hb3.mono B2.out.size))
      clear hb3
      go_wp2_with fail
      refine (G5.out _ (HE.out.below B3.out)).mono ?_
      rintro e w4 ⟨rfl, hb4⟩
      have B4 := Lib.hid (B3.out.trans (hb4.mono B3.out.size))
      clear hb4
      go_wp2_with fail
      refine (lineAlive _ (HE.out.below B4.out)).mono ?_
      rintro e w5 ⟨rfl, hb5⟩
      have B5 := Lib.hid (B4.out.trans (hb5.mono B4.out.size))
      clear hb5
      go_wp2_with fail
      refine (G4.out _).mono ?_
      rintro e w6 ⟨rfl, hb6⟩
      have B6 := Lib.hid (B5.out.trans (hb6.mono B5.out.size))
      clear hb6
      go_wp2_with fail
      refine (G6.out _ (HE.out.below B6.out)).mono ?_
      rintro e w7 ⟨rfl, hb7⟩
      have B7 := Lib.hid (B6.out.trans (hb7.mono B6.out.size))
      clear hb7
      go_wp2_with fail
      go_ret
      exact ⟨rfl, B7.out⟩
    · rw [hc, hg] at G5
      clear hc hg
      rcases h1 with h1 | h1
      · have hd : ¬ 1 ≤ m := by omega
        go_enter Tryd.func5, Tryd.ntmps5
        go_wp2_with fail
        refine (G1.out _ HE.out).mono ?_
        rintro e w1 ⟨rfl, hb1⟩
        have B1 := Lib.hid hb1
        clear hb1
        go_wp2_with fail
        refine (G2.out _).mono ?_
        rintro e w2 ⟨rfl, hb2⟩
        have B2 := Lib.hid (B1.out.trans (hb2.mono B1.out.size))
        clear hb2
        go_wp2_with fail
        refine (G3.out _ (HE.out.below B2.out)).mono ?_
        rintro e w3 ⟨rfl, hb3⟩
        have B3 := Lib.hid (B2.out.trans (hb3.mono B2.out.size))
        clear hb3
        go_wp2_with fail
        refine (G5.out _ (HE.out.below B3.out)).mono ?_
        rintro e w4 ⟨rfl, hb4⟩
        have B4 := Lib.hid (B3.out.trans (hb4.mono B3.out.size))
        clear hb4
        go_wp2_with fail
        refine (lineAlive _ (HE.out.below B4.out)).mono ?_
        rintro e w5 ⟨rfl, hb5⟩
        have B5 := Lib.hid (B4.out.trans (hb5.mono B4.out.size))
        clear hb5
        go_wp2_with fail
        refine (G4.out _).mono ?_
        rintro e w6 ⟨rfl, hb6⟩
        have B6 := Lib.hid (B5.out.trans (hb6.mono B5.out.size))
        clear hb6
        go_wp2_with fail
        all_goals
          refine (G6.out _ (HE.out.below B6.out)).mono ?_
          rintro e w7 ⟨rfl, hb7⟩
          have B7 := Lib.hid (B6.out.trans (hb7.mono B6.out.size))
          clear hb7
          go_wp2_with fail
          go_ret
          exact ⟨rfl, B7.out⟩
      · have h0 : 1 ≤ m := by omega
        have hd : (0 == m) = false := by simp; omega
        have hd2 : ¬ m ≤ 63 := by omega
        go_enter Tryd.func5, Tryd.ntmps5
        go_wp2_with fail
        refine (G1.out _ HE.out).mono ?_
        rintro e w1 ⟨rfl, hb1⟩
        have B1 := Lib.hid hb1
        clear hb1
        go_wp2_with fail
        refine (G2.out _).mono ?_
        rintro e w2 ⟨rfl, hb2⟩
        have B2 := Lib.hid (B1.out.trans (hb2.mono B1.out.size))
        clear hb2
        go_wp2_with fail
        refine (G3.out _ (HE.out.below B2.out)).mono ?_
        rintro e w3 ⟨rfl, hb3⟩
        have B3 := Lib.hid (B2.out.trans (hb3.mono B2.out.size))
        clear hb3
        go_wp2_with fail
        refine (G5.out _ (HE.out.below B3.out)).mono ?_
        rintro e w4 ⟨rfl, hb4⟩
        have B4 := Lib.hid (B3.out.trans (hb4.mono B3.out.size))
        clear hb4
        go_wp2_with fail
        refine (lineAlive _ (HE.out.below B4.out)).mono ?_
        rintro e w5 ⟨rfl, hb5⟩
        have B5 := Lib.hid (B4.out.trans (hb5.mono B4.out.size))
        clear hb5
        go_wp2_with fail
        refine (G4.out _).mono ?_
        rintro e w6 ⟨rfl, hb6⟩
        have B6 := Lib.hid (B5.out.trans (hb6.mono B5.out.size))
        clear hb6
        go_wp2_with fail
        refine (G6.out _ (HE.out.below B6.out)).mono ?_
        rintro e w7 ⟨rfl, hb7⟩
        have B7 := Lib.hid (B6.out.trans (hb7.mono B6.out.size))
        clear hb7
        go_wp2_with fail
        go_ret
        exact ⟨ret_bool (by simp; omega), B7.out⟩
end Go.Proofs.YtbichcmpggbfnaaDoor
