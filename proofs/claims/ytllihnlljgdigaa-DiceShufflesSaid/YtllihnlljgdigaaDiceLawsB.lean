/-
  LAYER 6's LAWS: DiceShuffles. By an AI agent.
-/
import Derived.Test.YtllihnlljgdigaaDiceLaws
namespace Go.Proofs.Ytllihnlljgdigaa
open Go.RowKit

/-- a count under way: how often z is among the first k -/
def CntAt (l m : List Int) (z : Int) (B : Nat) (w2 : World) (x y k : Value) (wr : World) : Prop :=
  ∃ n : Nat, n ≤ l.length ∧ x = .int .i64 (Dice.cnt l z n : Nat) ∧ y = .int .i64 (Dice.cnt m z n : Nat) ∧ k = .int .i64 (n : Int) ∧ Below B w2 wr
theorem CntAt.next {l m : List Int} {z : Int} {B : Nat} {w2 wr : World} {n : Nat} {x y : Int} (hn : n < l.length) (hx : x = (Dice.cnt l z (n + 1) : Nat)) (hy : y = (Dice.cnt m z (n + 1) : Nat)) (hb : Below B w2 wr) :
    CntAt l m z B w2 (.int .i64 x) (.int .i64 y) (.int .i64 ((n : Int) + 1)) wr :=
  ⟨n + 1, by omega, by rw [hx], by rw [hy], by rw [Int.natCast_add]; rfl, hb⟩
set_option maxHeartbeats 4000000 in
set_option maxRecDepth 100000 in
theorem lawShuffles (s : Int) (v : Value) (l : List Int) (w : World) (hv : Ints w v l) :
    Calls Try.prog 6 #[.int .u64 s, v] w fun e w' => e = .returned (.bool true) ∧ Below w.heap.size w w' := by
  have HV := Lib.hid hv
  obtain ⟨a, c, rfl, -⟩ := hv
  by_cases hm : 200 < l.length
  · have hm' : (200 : Int) < (l.length : Int) := by omega
    go_enter Try.func6, Try.ntmps6
    go_wp2_with fail
    refine (alive _).mono ?_
    rintro e w1 ⟨rfl, hb⟩
    go_wp2_with fail
    go_ret
    exact ⟨rfl, hb⟩
  · have hm' : ¬ (200 : Int) < (l.length : Int) := by omega
    have hl : l.length ≤ 200 := by omega
    clear hm
    go_enter Try.func6, Try.ntmps6
    go_wp2_with (at_builtin; refine wpList_append_ints (w0 := w) rfl (.tmp 17) (.tmp 18) rfl rfl (OwnRow.nil encI 3 w.heap.size w) rfl HV.out (by simp; omega) (Nat.le_refl _) (Below.refl _ _) ?_)
    intro vb w1 hob hb1
    replace hob : OwnI w.heap.size w1 vb l := by simpa using hob
    have HB := Lib.hid hob
    clear hob
    have HV1 := Lib.hid (HV.out.under hb1 (Nat.le_refl _))
    go_wp2_with fail
    refine (diceShuffle _ l s _ HV1.out (by omega)).mono ?_
    have hp := Dice.shuffle_perm s l
    generalize Dice.shuffleS s l = xs at hp ⊢
    generalize Dice.afterS s l = s2
    unfold ShufRes
    rintro e w2 ⟨v2, rfl, ho2, hb2⟩
    have hxl : xs.length = l.length := hp.length_eq
    have HP := Lib.hid hp
    clear hp
    have hrow := ho2.row
    obtain ⟨a2, c2, rfl, hc2, hm2, -⟩ := hrow
    unfold maxLen at hm2
    rw [hxl] at hc2 ho2 ⊢
    have HV2 := Lib.hid (HV1.out.under hb2 (Nat.le_refl _))
    have HO := Lib.hid ho2
    clear ho2
    have hb02 := hb1.trans (hb2.mono hb1.size)
    go_wp2_with fail
    go_loopw [8, 9, 10, 11] (fun i x y k wr => ∃ n : Nat, n ≤ l.length ∧ i = .int .i64 (n : Int) ∧ Below w2.heap.size w2 wr) (fun i _ _ _ _ => l.length - (intOf i).toNat)
    case atStart => exact ⟨0, Nat.zero_le _, rfl, Below.refl _ _⟩
    case round =>
      obtain ⟨i, hi, rfl, hbr⟩ := hrel
      have i0 : (0 : Int) ≤ (i : Int) := by omega
      by_cases hit : i < l.length
      · have i1 : (i : Int) < (l.length : Int) := by omega
        rcases HV2.out.shape with ⟨a', c', e, hnil, -, -⟩ | ⟨b1, o1, c1, e, hpos, -, -, hq1, -, -, hd1⟩
        · rw [hnil] at hit; cases hit
        obtain ⟨rfl, -, rfl⟩ := sl_eq e
        rcases HO.out.shape with ⟨e', -⟩ | ⟨g, cap, e', -, hg, -, -, hd2⟩
        · obtain ⟨-, e3, -⟩ := sl_eq e'; omega
        obtain ⟨rfl, -, rfl⟩ := sl_eq e'
        have C1 := Lib.hid (fun (k : Nat) (hk : k < l.length) => hd1 k _ (getD_get (d := 0) hk))
        have C2 := Lib.hid (fun (k : Nat) (hk : k < l.length) => hd2 k _ (getD_get (d := 0) (by rw [hxl]; exact hk)))
        clear e e' hd1 hd2
        have hz0 := C1.out i hit
        generalize l.getD i 0 = z at hz0
        go_wp2_with fail
        go_loopw [9, 10, 11] (fun x y k wq => CntAt l xs z w2.heap.size w2 x y k wq) (fun _ _ k _ => l.length - (intOf k).toNat)
        case atStart => exact ⟨0, Nat.zero_le _, by simp [Dice.cnt_zero], by simp [Dice.cnt_zero], rfl, hbr⟩
        case round =>
          obtain ⟨n, hn, rfl, rfl, rfl, hbq⟩ := hrel
          have n0 : (0 : Int) ≤ (n : Int) := by omega
          have cz := (hbq.cell (p := ⟨b1, o1 + i, none⟩) hq1).trans hz0
          unfold encI at cz
          by_cases hlt : n < l.length
          · have n1 : (n : Int) < (l.length : Int) := by omega
            have hltx : n < xs.length := by omega
            have c1 := (hbq.cell (p := ⟨b1, o1 + n, none⟩) hq1).trans (C1.out n hlt)
            have c2' := (hbq.cell (p := ⟨g, n, none⟩) hg).trans (C2.out n hlt)
            unfold encI at c1 c2'
            have hp1 := Dice.cnt_le l z n
            have hp2 := Dice.cnt_le xs z n
            generalize h1u : l.getD n 0 = u at c1
            generalize h2u : xs.getD n 0 = y at c2'
            by_cases hu : u = z
            · by_cases hy : y = z
              · have t1 : (u == z) = true := by simp [hu]
                have t2 : (y == z) = true := by simp [hy]
                have E1 := Lib.hid (Dice.cnt_hit hlt (h1u.trans hu))
                have E2 := Lib.hid (Dice.cnt_hit hltx (h2u.trans hy))
                generalize Dice.cnt l z n = p at hp1 E1 ⊢
                generalize Dice.cnt xs z n = q at hp2 E2 ⊢
                clear h1u h2u hu hy
                go_wp2
                go_quiet (fail)
                go_wp2
                go_quiet (fail)
                go_wp2
                go_roundw
                case rel => exact CntAt.next hlt (by rw [E1.out]; omega) (by rw [E2.out]; omega) (below_drewN hbq _)
                case measure => simp [intOf]; omega
              · have t1 : (u == z) = true := by simp [hu]
                have t2 : (y == z) = false := by simp [hy]
                have E1 := Lib.hid (Dice.cnt_hit hlt (h1u.trans hu))
                have E2 := Lib.hid (Dice.cnt_miss hltx (fun e => hy (h2u.symm.trans e)))
                generalize Dice.cnt l z n = p at hp1 E1 ⊢
                generalize Dice.cnt xs z n = q at hp2 E2 ⊢
                clear h1u h2u hu hy
                go_wp2
                go_quiet (fail)
                go_wp2
                go_quiet (fail)
                go_wp2
                go_roundw
                case rel => exact CntAt.next hlt (by rw [E1.out]; omega) (by rw [E2.out]) (below_drewN hbq _)
                case measure => simp [intOf]; omega
            · by_cases hy : y = z
              · have t1 : (u == z) = false := by simp [hu]
                have t2 : (y == z) = true := by simp [hy]
                have E1 := Lib.hid (Dice.cnt_miss hlt (fun e => hu (h1u.symm.trans e)))
                have E2 := Lib.hid (Dice.cnt_hit hltx (h2u.trans hy))
                generalize Dice.cnt l z n = p at hp1 E1 ⊢
                generalize Dice.cnt xs z n = q at hp2 E2 ⊢
                clear h1u h2u hu hy
                go_wp2
                go_quiet (fail)
                go_wp2
                go_quiet (fail)
                go_wp2
                go_roundw
                case rel => exact CntAt.next hlt (by rw [E1.out]) (by rw [E2.out]; omega) (below_drewN hbq _)
                case measure => simp [intOf]; omega
              · have t1 : (u == z) = false := by simp [hu]
                have t2 : (y == z) = false := by simp [hy]
                have E1 := Lib.hid (Dice.cnt_miss hlt (fun e => hu (h1u.symm.trans e)))
                have E2 := Lib.hid (Dice.cnt_miss hltx (fun e => hy (h2u.symm.trans e)))
                generalize Dice.cnt l z n = p at hp1 E1 ⊢
                generalize Dice.cnt xs z n = q at hp2 E2 ⊢
                clear h1u h2u hu hy
                go_wp2
                go_quiet (fail)
                go_wp2
                go_quiet (fail)
                go_wp2
                go_roundw
                case rel => exact CntAt.next hlt (by rw [E1.out]) (by rw [E2.out]) (below_drewN hbq _)
                case measure => simp [intOf]; omega
          · obtain rfl : n = l.length := by omega
            have heq := Dice.cnt_all HP.out z
            have hp1 := Dice.cnt_le l z l.length
            rw [← heq]
            generalize Dice.cnt l z l.length = p at hp1 ⊢
            clear heq cz hz0
            go_wp2
            go_roundw
            case rel => exact ⟨i + 1, by omega, by go_num, hbq⟩
            case measure => simp [intOf]; omega
      · have i1 : ¬ (i : Int) < (l.length : Int) := by omega
        have ho3 := HO.out.below hbr (Nat.le_refl _)
        have hb13 := hb2.trans (hbr.mono hb2.size)
        go_wp2_with fail
        go_loopw [12] (fun k wq => ∃ n : Nat, n ≤ l.length ∧ k = .int .i64 (n : Int) ∧ (∃ ys, OwnI w1.heap.size wq (.slice a2 l.length c2) ys) ∧ Below w1.heap.size w1 wq) (fun k _ => l.length - (intOf k).toNat)
        case atStart => exact ⟨0, Nat.zero_le _, rfl, ⟨_, ho3⟩, hb13⟩
        case round =>
          clear ho3 hb13
          obtain ⟨k, hk, rfl, ⟨ys, hoy⟩, hby⟩ := hrel
          have k0 : (0 : Int) ≤ (k : Int) := by omega
          by_cases hkt : k < l.length
          · have k1 : (k : Int) < (l.length : Int) := by omega
            obtain ⟨g, rfl, hB, hg, hcell, hfr, hst⟩ := hoy.place 0 hkt
            generalize ys.getD k 0 = x at hcell
            obtain ⟨hoz, hg3⟩ := hst (wrap64 (x + 1))
            have HZ := Lib.hid (⟨⟨_, hoz⟩, hby.grown hg3 hby.size (by rintro j ⟨⟩; exact hB)⟩ : (∃ ys, OwnI w1.heap.size _ (.slice (some ⟨g, 0, none⟩) l.length c2) ys) ∧ Below w1.heap.size w1 _)
            unfold encI at hcell HZ
            clear hst hoz hg3
            go_wp2_with fail
            go_roundw
            case rel => exact ⟨k + 1, by omega, by go_num, HZ.out.1, HZ.out.2⟩
            case measure => simp [intOf]; omega
          · have k1 : ¬ (k : Int) < (l.length : Int) := by omega
            clear hoy
            have hb03 := hb1.trans (hby.mono hb1.size)
            have hv3 := HV.out.under hb03 (Nat.le_refl _)
            have hw3 := (HB.out.below hby (Nat.le_refl _)).row.all
            go_wp2_with fail
            refine (refSame _ _ l l _ hv3 hw3).mono ?_
            rw [sameI_self]
            rintro e w5 ⟨rfl, hb5⟩
            have hb05 := hb03.trans (hb5.mono hb03.size)
            clear hv3 hw3
            go_wp2_with fail
            refine (alive _).mono ?_
            rintro e w6 ⟨rfl, hb6⟩
            go_wp2_with fail
            go_ret
            exact ⟨rfl, hb05.trans (hb6.mono hb05.size)⟩
end Go.Proofs.Ytllihnlljgdigaa
