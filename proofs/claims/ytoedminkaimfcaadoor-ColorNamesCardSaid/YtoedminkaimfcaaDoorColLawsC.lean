/-
  THE LAWS OF LAYER 9: texts of one and of two colours. By an AI agent.
-/
import Derived.Test.YtoedminkaimfcaaDoorColLaws
import Derived.Deep.RegionHeld3
namespace Go.Proofs.YtoedminkaimfcaaDoor
open Go.RowKit

theorem fromBase {f : FuncId} {args : Array Value} {v : Value} {C : Nat} {w0 W : World} (hb : Below C w0 W) (hC : C ≤ w0.heap.size)
    (h : Calls Tryd.prog f args W fun e w' => e = .returned v ∧ Below W.heap.size W w') : Calls Tryd.prog f args W fun e w' => e = .returned v ∧ Below C w0 w' :=
  h.mono fun _ _ ⟨he, hb'⟩ => ⟨he, hb.trans (hb'.mono (Nat.le_trans hC hb.size))⟩
theorem pow_cast (k : Nat) : ((2 : Int) ^ k) = ((2 ^ k : Nat) : Int) := by simp
theorem pow_le (k : Nat) (hk : k < 5) : 1 ≤ 2 ^ k ∧ 2 ^ k ≤ 16 := by
  match k, hk with
  | 0, _ => decide
  | 1, _ => decide
  | 2, _ => decide
  | 3, _ => decide
  | 4, _ => decide
/-- what the texts, the names, the count of one and of two colours come to -/
theorem names_vals (a b : Nat) (hab : a < b) (hb : b < 5) : ∃ (pa pb ps : Int) (sa sb : ByteArray), pa + pb = ps ∧ wrap64 ((2 : Int) ^ a) = pa ∧ wrap64 ((2 : Int) ^ b) = pb ∧ 1 ≤ pa ∧ pa ≤ 16 ∧ 1 ≤ pb ∧ pb ≤ 16 ∧ sa.size ≤ 7 ∧ sb.size ≤ 7 ∧
    str (Col.nameI (a : Int)) = .string sa ∧ str (Col.nameI (b : Int)) = .string sb ∧ str (Col.textI pa) = .string sa ∧ str (Col.textI ps) = .string (sa ++ ⟨#[43]⟩ ++ sb) ∧ Col.countI ps = 2 := by
  have ha5 : a < 5 := by omega
  have h1 := pow_le a ha5
  have h2 := pow_le b hb
  have h3 := Col.pow_two b hb a hab
  have hn : ∀ k, k < 5 → (Col.name k).length ≤ 7 := by decide
  refine ⟨((2 ^ a : Nat) : Int), ((2 ^ b : Nat) : Int), _, ⟨(Col.name a).toArray⟩, ⟨(Col.name b).toArray⟩, rfl, (pow_bits a ha5).trans (pow_cast a), (pow_bits b hb).trans (pow_cast b), by omega, by omega, by omega, by omega, hn a ha5, hn b hb, by rw [Col.nameI_nat]; rfl, by rw [Col.nameI_nat]; rfl, ?_, ?_, ?_⟩
  · rw [Col.textI_nat (by omega), Col.pow_one a ha5]
    rfl
  · rw [show ((2 ^ a : Nat) : Int) + ((2 ^ b : Nat) : Int) = ((2 ^ a + 2 ^ b : Nat) : Int) by omega, Col.textI_nat h3.2.2, h3.1]
    simp [str, ByteArray.ext_iff]
  · rw [show ((2 ^ a : Nat) : Int) + ((2 ^ b : Nat) : Int) = ((2 ^ a + 2 ^ b : Nat) : Int) by omega, Col.countI_nat h3.2.2, h3.2.1]
    rfl
set_option maxHeartbeats 4000000 in
set_option maxRecDepth 100000 in
theorem lawColorNames (i k : Int) (w : World) (hE : Env w) :
    Calls Tryd.prog 7 #[.int .i64 i, .int .i64 k] w fun e w' => e = .returned (.bool true) ∧ Below w.heap.size w w' := by
  have HE := Lib.hid hE
  by_cases hi : i < 0
  · go_enter Tryd.func7, Tryd.ntmps7
    go_wp2_with fail
    refine (colorAlive _ HE.out).mono ?_
    rintro e w2 ⟨rfl, hb2⟩
    go_wp2_with fail
    go_ret
    exact ⟨rfl, hb2⟩
  by_cases hik : k ≤ i
  · go_enter Tryd.func7, Tryd.ntmps7
    go_wp2_with fail
    refine (colorAlive _ HE.out).mono ?_
    rintro e w2 ⟨rfl, hb2⟩
    go_wp2_with fail
    go_ret
    exact ⟨rfl, hb2⟩
  by_cases hk : 4 < k
  · go_enter Tryd.func7, Tryd.ntmps7
    go_wp2_with fail
    refine (colorAlive _ HE.out).mono ?_
    rintro e w2 ⟨rfl, hb2⟩
    go_wp2_with fail
    go_ret
    exact ⟨rfl, hb2⟩
  obtain ⟨a, rfl⟩ : ∃ a : Nat, i = (a : Int) := ⟨i.toNat, by omega⟩
  obtain ⟨b, rfl⟩ : ∃ b : Nat, k = (b : Int) := ⟨k.toNat, by omega⟩
  obtain ⟨pa, pb, ps, sa, sb, hps, hpa, hpb, l1, l2, l3, l4, z1, z2, e1, e2, e3, e4, e5⟩ := names_vals a b (by omega) (by omega)
  obtain ⟨T, G1, t1, t2⟩ : ∃ T : Int → ByteArray, (∀ x w, Env w → Calls Tryd.prog 15 #[.int .i64 x] w fun e w' => e = .returned (.string (T x)) ∧ Below w.heap.size w w') ∧ T pa = sa ∧ T ps = sa ++ ⟨#[43]⟩ ++ sb :=
    ⟨fun x => ⟨(Col.textI x).toArray⟩, fun x w hE => colorText x w hE, by simpa [str] using e3, by simpa [str] using e4⟩
  obtain ⟨N, G3, n1, n2⟩ : ∃ N : Int → ByteArray, (∀ x w, Env w → Calls Tryd.prog 10 #[.int .i64 x] w fun e w' => e = .returned (.string (N x)) ∧ Below w.heap.size w w') ∧ N (a : Int) = sa ∧ N (b : Int) = sb :=
    ⟨fun x => ⟨(Col.nameI x).toArray⟩, fun x w hE => (colorName x w hE).mono fun _ _ ⟨he, hw⟩ => ⟨he, by rw [hw]; exact Below.refl _ _⟩, by simpa [str] using e1, by simpa [str] using e2⟩
  obtain ⟨C, G5, k1⟩ : ∃ C : Int → Int, (∀ x w, Calls Tryd.prog 12 #[.int .i64 x] w fun e w' => e = .returned (.int .i64 (C x)) ∧ Below w.heap.size w w') ∧ C ps = 2 :=
    ⟨Col.countI, fun x w => colorCount x w, e5⟩
  have q1 : IntKind.i64.wrap ((2 : Int) ^ a) = pa := (IntWalk.i64_left _).trans hpa
  have q2 : IntKind.i64.wrap ((2 : Int) ^ b) = pb := (IntWalk.i64_left _).trans hpb
  have q3 : IntKind.i64.wrap ps = ps := by rw [IntWalk.i64_left, IntWalk.wrap64_in _ (by omega)]
  have r1 : ∀ W : World, (Op.stringOp .add sa ⟨#[43]⟩).run Tryd.prog W = .ok (.string (sa ++ ⟨#[43]⟩)) W := fun W => run_string_add_sum W _ _ (by have : (⟨#[43]⟩ : ByteArray).size = 1 := rfl; omega)
  have r2 : ∀ W : World, (Op.stringOp .add (sa ++ ⟨#[43]⟩) sb).run Tryd.prog W = .ok (.string (sa ++ ⟨#[43]⟩ ++ sb)) W := fun W => run_string_add_sum W _ _ (by have : (⟨#[43]⟩ : ByteArray).size = 1 := rfl; rw [ByteArray.size_append]; omega)
  have H1 := Lib.hid G1
  have H3 := Lib.hid G3
  have H5 := Lib.hid G5
  clear G1 G3 G5
  have hE0 := Lib.hid (fun (W : World) (hb : Below w.heap.size w W) => hE.below hb)
  have hsz : w.heap.size ≤ w.heap.size := Nat.le_refl _
  have c0 : True := trivial
  have hik' : (a : Int) < (b : Int) := by omega
  have hk' : (b : Int) ≤ 4 := by omega
  clear hE HE e1 e2 e3 e4 e5 hi hik hk
  go_enter Tryd.func7, Tryd.ntmps7
  go_wp2_with fail
  go_region_held3 (fun _ => True)
    (first | (with_reducible exact trivial) | go_keep)
    (first
      | (go_at_call 14; refine (fromBase (C := w.heap.size) (w0 := w) ?_ hsz (colorAlive _ (hE0.out _ ?_))).mono ?_; (go_grown); (go_grown); rintro e w1 ⟨rfl, hb1⟩)
      | (go_at_call 15; refine (fromBase (C := w.heap.size) (w0 := w) ?_ hsz (H1.out _ _ (hE0.out _ ?_))).mono ?_; (go_grown); (go_grown); rintro e w1 ⟨rfl, hb1⟩; first | rw [t1] | rw [t2])
      | (go_at_call 10; refine (fromBase (C := w.heap.size) (w0 := w) ?_ hsz (H3.out _ _ (hE0.out _ ?_))).mono ?_; (go_grown); (go_grown); rintro e w1 ⟨rfl, hb1⟩; first | rw [n1] | rw [n2])
      | (go_at_call 12; refine (fromBase (C := w.heap.size) (w0 := w) ?_ hsz (H5.out _ _)).mono ?_; (go_grown); rintro e w1 ⟨rfl, hb1⟩; rw [k1]))
  go_wp2
  go_ret
  exact ⟨rfl, by go_grown⟩
end Go.Proofs.YtoedminkaimfcaaDoor
