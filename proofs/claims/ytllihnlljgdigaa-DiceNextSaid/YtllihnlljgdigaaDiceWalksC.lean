/-
  CONTRACTS OF LAYER 6 AND OF ITS REFERENCE: Shuffle. By an AI agent.
-/
import Derived.Test.YtllihnlljgdigaaDiceWalksB
import Derived.BigRegion
namespace Go.Proofs.Ytllihnlljgdigaa
open Go.RowKit

/-- a shuffle under way: what is still to be exchanged -/
def ShufAt (s0 : Int) (l : List Int) (w0 : World) (a : Option Addr) (cap : Nat) (sd i : Value) (wr : World) : Prop :=
  ∃ (m s : Int) (xs : List Int), -1 ≤ m ∧ m < (l.length : Int) ∧ sd = .int .u64 s ∧ i = .int .i64 m ∧ OwnI w0.heap.size wr (.slice a l.length cap) xs ∧ Below w0.heap.size w0 wr ∧
    Hid (Dice.shuf m.toNat s xs = Dice.shuffleS s0 l) ∧ Hid (Dice.after m.toNat s = Dice.afterS s0 l)
theorem ShufAt.next {s0 : Int} {l : List Int} {w0 : World} {g : Nat} {cap k j : Nat} {s : Int} {xs : List Int} {wr : World} (hk : k + 1 < l.length) (hj : Dice.belowV s ((k : Int) + 2) = (j : Int))
    (h1 : Dice.shuf (k + 1) s xs = Dice.shuffleS s0 l) (h2 : Dice.after (k + 1) s = Dice.afterS s0 l)
    (ho : OwnI w0.heap.size wr (.slice (some ⟨g, 0, none⟩) l.length cap) (Dice.swap xs (k + 1) j)) (hb : Below w0.heap.size w0 wr) :
    ShufAt s0 l w0 (some ⟨g, 0, none⟩) cap (.int .u64 (Dice.belowS s ((k : Int) + 2))) (.int .i64 (k : Int)) wr := by
  refine ⟨_, _, _, by omega, by omega, rfl, rfl, ho, hb, Lib.hid ?_, Lib.hid ?_⟩
  · rw [← h1, Dice.shuf, hj]
    rfl
  · rw [← h2, Dice.after]
    rfl
theorem ShufAt.drewN {s0 : Int} {l : List Int} {w0 : World} {a : Option Addr} {cap : Nat} {sd i : Value} {wr : World} (h : ShufAt s0 l w0 a cap sd i wr) (n : Nat) : ShufAt s0 l w0 a cap sd i (wr.drewN n) := by
  obtain ⟨m, s, xs, h1, h2, h3, h4, h5, h6, h7⟩ := h
  exact ⟨m, s, xs, h1, h2, h3, h4, h5.drewN n, below_drewN h6 n, h7⟩
set_option maxHeartbeats 2000000 in
set_option maxRecDepth 100000 in
theorem diceShuffle (v : Value) (l : List Int) (s0 : Int) (w : World) (hv : Ints w v l) (hl : l.length ≤ 1000000) :
    Calls Try.prog 13 #[.int .u64 s0, v] w (ShufRes (Dice.shuffleS s0 l) (Dice.afterS s0 l) w) := by
  have HV := Lib.hid hv
  obtain ⟨a0, c0, rfl, -⟩ := hv
  go_enter Try.func13, Try.ntmps13
  go_wp2_with fail
  refine (clone _ l _ HV.out hl).mono ?_
  rintro e w1 ⟨v1, rfl, ho1, hb1⟩
  obtain ⟨a, cap, rfl, hc1, hc2, -⟩ := ho1.row
  unfold maxLen at hc2
  go_wp2_with fail
  go_loopw [0, 7, 8] (fun sd i j wr => ShufAt s0 l w a cap sd i wr) (fun _ i _ _ => (intOf i).toNat)
  case atStart => exact ⟨_, _, _, by omega, by omega, rfl, rfl, ho1, hb1, Lib.hid (by rw [Dice.shuffleS]; congr 1; omega), Lib.hid (by rw [Dice.afterS]; congr 1; omega)⟩
  case round =>
    clear ho1 hb1
    obtain ⟨m, s, xs, hm1, hm2, rfl, rfl, ho, hb, H1, H2⟩ := hrel
    by_cases hm : 0 < m
    · obtain ⟨k, rfl⟩ : ∃ k : Nat, m = (k : Int) + 1 := ⟨(m - 1).toNat, by omega⟩
      have hkl : k + 1 < l.length := by omega
      have hbo := Dice.below_bounds s ((k : Int) + 2) (by omega)
      obtain ⟨j, hj⟩ : ∃ j : Nat, Dice.belowV s ((k : Int) + 2) = (j : Int) := ⟨(Dice.belowV s ((k : Int) + 2)).toNat, by omega⟩
      have hjl : j < l.length := by omega
      have HJ := Lib.hid hj
      have HN := Lib.hid (fun (g : Nat) (wx : World) => ShufAt.next (s0 := s0) (l := l) (w0 := w) (g := g) (cap := cap) (xs := xs) (wr := wx) hkl hj H1.out H2.out)
      obtain ⟨g, x, y, rfl, hB, hg, hci, hcj, hfi, hfj, ⟨v', hc2'⟩, hf2, hox, hgx⟩ := ho.exchange hkl hjl
      have HX := Lib.hid (HN.out g _ hox (hb.grown hgx hb.size (by rintro j ⟨⟩; exact hB)))
      clear hj hox hgx HN H1 H2 ho
      go_wp2_with fail
      refine (diceBelow s _ _ (by omega) (by omega)).mono ?_
      rw [show (k : Int) + 1 + 1 = (k : Int) + 2 by omega, HJ.out]
      generalize Dice.belowS s ((k : Int) + 2) = s2 at HX ⊢
      unfold pair
      rintro e w2 ⟨rfl, rfl⟩
      clear HJ hbo
      go_wp2_with fail
      go_region
      go_wp2_with fail
      go_roundw
      case rel => exact HX.out.drewN 1
      case measure => simp [intOf]
    · have hm0 : m.toNat = 0 := by omega
      have H3 := Lib.hid (show xs = Dice.shuffleS s0 l by rw [← H1.out, hm0]; rfl)
      have H4 := Lib.hid (show s = Dice.afterS s0 l by rw [← H2.out, hm0]; rfl)
      clear H1 H2 hm0
      go_wp2_with fail
      go_ret2
      exact ⟨.slice a l.length cap, by rw [← H4.out]; rfl, by rw [← H3.out]; exact ho, hb⟩
set_option maxHeartbeats 2000000 in
set_option maxRecDepth 100000 in
theorem refShuffle (v : Value) (l : List Int) (s0 : Int) (w : World) (hv : Ints w v l) (hl : l.length ≤ 1000000) :
    Calls Try.prog 14 #[.int .u64 s0, v] w (ShufRes (Dice.shuffleS s0 l) (Dice.afterS s0 l) w) := by
  have hmk := fun u : World => run_make_ints u l.length hl
  have HV := Lib.hid hv
  obtain ⟨a0, c0, rfl, -⟩ := hv
  go_enter Try.func14, Try.ntmps14
  go_wp2_with (refine wpList_fill_ints rfl (.tmp 14) (.tmp 15) rfl rfl rfl HV.out hl ?_)
  intro w1 ho1 hb1
  clear hmk
  go_wp2_with fail
  go_loopw [0, 7, 8, 9, 10] (fun sd i j s' x wr => ShufAt s0 l w (some ⟨w.heap.size, 0, none⟩) l.length sd i wr) (fun _ i _ _ _ _ => (intOf i).toNat)
  case atStart => exact ⟨_, _, _, by omega, by omega, rfl, rfl, ho1, hb1, Lib.hid (by rw [Dice.shuffleS]; congr 1; omega), Lib.hid (by rw [Dice.afterS]; congr 1; omega)⟩
  case round =>
    clear ho1 hb1
    obtain ⟨m, s, xs, hm1, hm2, rfl, rfl, ho, hb, H1, H2⟩ := hrel
    by_cases hm : 0 < m
    · obtain ⟨k, rfl⟩ : ∃ k : Nat, m = (k : Int) + 1 := ⟨(m - 1).toNat, by omega⟩
      have hkl : k + 1 < l.length := by omega
      have hbo := Dice.below_bounds s ((k : Int) + 2) (by omega)
      obtain ⟨j, hj⟩ : ∃ j : Nat, Dice.belowV s ((k : Int) + 2) = (j : Int) := ⟨(Dice.belowV s ((k : Int) + 2)).toNat, by omega⟩
      have hjl : j < l.length := by omega
      have HJ := Lib.hid hj
      have HN := Lib.hid (fun (g : Nat) (wx : World) => ShufAt.next (s0 := s0) (l := l) (w0 := w) (g := g) (cap := l.length) (xs := xs) (wr := wx) hkl hj H1.out H2.out)
      obtain ⟨g, x, y, eg, hB, hg, hci, hcj, hfi, hfj, ⟨v', hc2'⟩, hf2, hox, hgx⟩ := ho.exchange hkl hjl
      injection eg with eg
      injection eg with eg
      subst eg
      have HX := Lib.hid (HN.out w.heap.size _ hox (hb.grown hgx hb.size (by rintro j ⟨⟩; exact hB)))
      clear hj hox hgx HN H1 H2 ho
      go_wp2_with fail
      refine (refBelow s _ _ (by omega) (by omega)).mono ?_
      rw [show (k : Int) + 1 + 1 = (k : Int) + 2 by omega, HJ.out]
      generalize Dice.belowS s ((k : Int) + 2) = s2 at HX ⊢
      unfold pair
      rintro e w2 ⟨rfl, rfl⟩
      clear HJ hbo
      go_wp2_with fail
      go_roundw
      case rel => exact HX.out
      case measure => simp [intOf]
    · have hm0 : m.toNat = 0 := by omega
      have H3 := Lib.hid (show xs = Dice.shuffleS s0 l by rw [← H1.out, hm0]; rfl)
      have H4 := Lib.hid (show s = Dice.afterS s0 l by rw [← H2.out, hm0]; rfl)
      clear H1 H2 hm0
      go_wp2_with fail
      go_ret2
      exact ⟨.slice (some ⟨w.heap.size, 0, none⟩) l.length l.length, by rw [← H4.out]; rfl, by rw [← H3.out]; exact ho, hb⟩
end Go.Proofs.Ytllihnlljgdigaa
