/-
  CONTRACTS OF LAYER 8 (mana): Value, Colors, of the program and of the reference. By an AI agent.
-/
import Derived.Test.YtcllaenanihedaaDoorManaWalks
namespace Go.Proofs.YtcllaenanihedaaDoor
open Go.RowKit Go.Lib

theorem below_cells {W w1 : World} (hb : Below W.heap.size W w1) : (∀ b o, b < W.heap.size → w1.cell? ⟨b, o, none⟩ = W.cell? ⟨b, o, none⟩) ∧ (∀ b o, b < W.heap.size → w1.frozen? ⟨b, o, none⟩ = W.frozen? ⟨b, o, none⟩) :=
  ⟨fun b o h => hb.cell (p := ⟨b, o, none⟩) h, fun b o h => hb.frozen (p := ⟨b, o, none⟩) h⟩
theorem below_boxed {w w1 : World} {o : Obj} (hb : Below (w.alloc o).heap.size (w.alloc o) w1) : Below w.heap.size w w1 :=
  ((Below.refl _ _).alloc (Nat.le_refl _) _).trans (hb.mono (by simp))
theorem valI_no {c : Mana.Cst} (x : Int) (h : Mana.okC c = false) : Mana.valI c x = 0 := by unfold Mana.valI; rw [h]; rfl
theorem valI_yes {c : Mana.Cst} {x : Int} (h : Mana.okC c = true) {y : Int} (hy : Mana.pos x = y) : Mana.valI c x = Mana.addI (Mana.valTo c 5) (Mana.mulI c.x y) := by unfold Mana.valI; rw [h, hy]; rfl
theorem pos_neg {x : Int} (h : x < 0) : Mana.pos x = 0 := by unfold Mana.pos; rw [if_neg (by omega)]
theorem pos_pos {x : Int} (h : 0 ≤ x) : Mana.pos x = x := by unfold Mana.pos; split <;> omega

set_option maxRecDepth 100000 in
theorem manaValue (c : Mana.Cst) (x : Int) (w : World) :
    Calls Tryd.prog 13 #[.agg #[.int .i64 c.g, .int .i64 c.x, .int .i64 c.c0, .int .i64 c.c1, .int .i64 c.c2, .int .i64 c.c3, .int .i64 c.c4], .int .i64 x] w fun e w' => e = .returned (.int .i64 (Mana.valI c x)) ∧ Below w.heap.size w w' := by
  cases hok : Mana.okC c with
  | false =>
    have HO := Lib.hid hok
    have HV := Lib.hid (valI_no x hok)
    clear hok
    go_enter Tryd.func13, Tryd.ntmps13
    go_wp2_with fail
    refine (manaIs c _).mono ?_
    rintro e w1 ⟨rfl, hb⟩
    rw [HO.out]
    go_wp2
    go_ret
    exact ⟨ret_int HV.out.symm, below_boxed hb⟩
  | true =>
    have HO := Lib.hid hok
    obtain ⟨y, hy⟩ : ∃ y, Mana.pos x = y := ⟨_, rfl⟩
    have HV := Lib.hid (valI_yes hok hy)
    clear hok
    rcases Int.lt_or_le x 0 with h0 | h0
    · obtain rfl : y = 0 := by rw [← hy, pos_neg h0]
      clear hy
      go_enter Tryd.func13, Tryd.ntmps13
      go_wp2_with fail
      refine (manaIs c _).mono ?_
      rintro e w1 ⟨rfl, hb⟩
      rw [HO.out]
      obtain ⟨hcl, hfr⟩ := below_cells hb
      go_wp2
      go_loop [5, 15] (fun v i => ∃ k : Nat, k ≤ 5 ∧ i = .int .i64 (k : Int) ∧ v = .int .i64 (Mana.valTo c k)) (fun _ i => 5 - (intOf i).toNat)
      case atStart => exact ⟨0, by omega, rfl, rfl⟩
      case round =>
        obtain ⟨k, hk, rfl, rfl⟩ := hrel
        by_cases hlt : k < 5
        · have hi := index5 c k hlt
          go_wp2_with fail
          refine (numAdd _ _ _).mono ?_
          rintro e w2 ⟨rfl, rfl⟩
          go_wp2
          go_round
          case rel => exact ⟨k + 1, by omega, by go_num, rfl⟩
          case measure => simp [intOf]; omega
        · obtain rfl : k = 5 := by omega
          go_wp2_with fail
          refine (numMul _ _ _).mono ?_
          rintro e w2 ⟨rfl, rfl⟩
          go_wp2_with fail
          refine (numAdd _ _ _).mono ?_
          rintro e w2 ⟨rfl, rfl⟩
          go_wp2
          go_ret
          exact ⟨ret_int HV.out.symm, below_boxed hb⟩
    · obtain rfl : y = x := by rw [← hy, pos_pos h0]
      clear hy
      go_enter Tryd.func13, Tryd.ntmps13
      go_wp2_with fail
      refine (manaIs c _).mono ?_
      rintro e w1 ⟨rfl, hb⟩
      rw [HO.out]
      obtain ⟨hcl, hfr⟩ := below_cells hb
      go_wp2
      go_loop [5, 15] (fun v i => ∃ k : Nat, k ≤ 5 ∧ i = .int .i64 (k : Int) ∧ v = .int .i64 (Mana.valTo c k)) (fun _ i => 5 - (intOf i).toNat)
      case atStart => exact ⟨0, by omega, rfl, rfl⟩
      case round =>
        obtain ⟨k, hk, rfl, rfl⟩ := hrel
        by_cases hlt : k < 5
        · have hi := index5 c k hlt
          go_wp2_with fail
          refine (numAdd _ _ _).mono ?_
          rintro e w2 ⟨rfl, rfl⟩
          go_wp2
          go_round
          case rel => exact ⟨k + 1, by omega, by go_num, rfl⟩
          case measure => simp [intOf]; omega
        · obtain rfl : k = 5 := by omega
          go_wp2_with fail
          refine (numMul _ _ _).mono ?_
          rintro e w2 ⟨rfl, rfl⟩
          go_wp2_with fail
          refine (numAdd _ _ _).mono ?_
          rintro e w2 ⟨rfl, rfl⟩
          go_wp2
          go_ret
          exact ⟨ret_int HV.out.symm, below_boxed hb⟩
set_option maxRecDepth 100000 in
theorem refValue8 (c : Mana.Cst) (x : Int) (w : World) :
    Calls Tryd.prog 14 #[.agg #[.int .i64 c.g, .int .i64 c.x, .int .i64 c.c0, .int .i64 c.c1, .int .i64 c.c2, .int .i64 c.c3, .int .i64 c.c4], .int .i64 x] w fun e w' => e = .returned (.int .i64 (Mana.valI c x)) ∧ Below w.heap.size w w' := by
  cases hok : Mana.okC c with
  | false =>
    have HO := Lib.hid hok
    have HV := Lib.hid (valI_no x hok)
    clear hok
    go_enter Tryd.func14, Tryd.ntmps14
    go_wp2_with fail
    refine (refIs8 c _).mono ?_
    rintro e w1 ⟨rfl, hb⟩
    rw [HO.out]
    go_wp2
    go_ret
    exact ⟨ret_int HV.out.symm, below_boxed hb⟩
  | true =>
    have HO := Lib.hid hok
    have HV := fun y hy => Lib.hid (valI_yes (x := x) (y := y) hok hy)
    clear hok
    have hk' : ∀ k, k < 5 → Hid ((w.alloc (.cells #[.int .i64 c.g, .int .i64 c.x, .int .i64 c.c0, .int .i64 c.c1, .int .i64 c.c2, .int .i64 c.c3, .int .i64 c.c4] 24)).cell? ⟨w.heap.size, 2 + k, none⟩ = some (.int .i64 (c.col k))) := fun k h => Lib.hid (costCell c k h 24 w)
    go_enter Tryd.func14, Tryd.ntmps14
    go_wp2_with fail
    refine (refIs8 c _).mono ?_
    rintro e w1 ⟨rfl, hb⟩
    rw [HO.out]
    obtain ⟨hcl, hfr⟩ := below_cells hb
    go_wp2
    go_loop [5, 6] (fun v i => ∃ k : Nat, k ≤ 5 ∧ i = .int .i64 (k : Int) ∧ v = .int .i64 (Mana.valTo c k)) (fun _ i => 5 - (intOf i).toNat)
    case atStart => exact ⟨0, by omega, rfl, rfl⟩
    case round =>
      obtain ⟨k, hk, rfl, rfl⟩ := hrel
      by_cases hlt : k < 5
      · have hi := (hk' k hlt).out
        clear hk'
        go_wp2_with fail
        refine (refAdd _ _ _).mono ?_
        rintro e w2 ⟨rfl, rfl⟩
        go_wp2
        go_round
        case rel => exact ⟨k + 1, by omega, by go_num, rfl⟩
        case measure => simp [intOf]; omega
      · obtain rfl : k = 5 := by omega
        clear hk'
        rcases Int.lt_or_le x 0 with h0 | h0
        · have HW := HV 0 (pos_neg h0)
          clear HV
          go_wp2_with fail
          refine (refMul _ _ _).mono ?_
          rintro e w2 ⟨rfl, rfl⟩
          go_wp2_with fail
          refine (refAdd _ _ _).mono ?_
          rintro e w2 ⟨rfl, rfl⟩
          go_wp2
          go_ret
          exact ⟨ret_int HW.out.symm, below_boxed hb⟩
        · have HW := HV x (pos_pos h0)
          clear HV
          go_wp2_with fail
          refine (refMul _ _ _).mono ?_
          rintro e w2 ⟨rfl, rfl⟩
          go_wp2_with fail
          refine (refAdd _ _ _).mono ?_
          rintro e w2 ⟨rfl, rfl⟩
          go_wp2
          go_ret
          exact ⟨ret_int HW.out.symm, below_boxed hb⟩
theorem maskI_no {c : Mana.Cst} (h : Mana.okC c = false) : Mana.maskI c = 0 := by unfold Mana.maskI; rw [h]; rfl
theorem maskI_yes {c : Mana.Cst} (h : Mana.okC c = true) : Mana.maskI c = ((Mana.maskTo c 5 : Nat) : Int) := by unfold Mana.maskI; rw [h]; rfl
theorem or_table : ((List.range 5).all fun k => (List.range (2 ^ k)).all fun m => bits .or .i64 (m : Int) ((2 ^ k : Nat) : Int) == ((m + 2 ^ k : Nat) : Int)) = true := by decide +kernel
theorem or_bit {m k : Nat} (hk : k < 5) (hm : m < 2 ^ k) : bits .or .i64 (m : Int) ((2 ^ k : Nat) : Int) = ((m + 2 ^ k : Nat) : Int) :=
  eq_of_beq (List.all_eq_true.1 (List.all_eq_true.1 or_table k (List.mem_range.2 hk)) m (List.mem_range.2 hm))
theorem wrap_pow {k : Nat} (hk : k < 5) : wrap64 ((2 : Int) ^ k) = ((2 ^ k : Nat) : Int) := by
  match k, hk with
  | 0, _ => decide +kernel
  | 1, _ => decide +kernel
  | 2, _ => decide +kernel
  | 3, _ => decide +kernel
  | 4, _ => decide +kernel
theorem or_step {m k : Nat} (hk : k < 5) (hm : m < 2 ^ k) : Value.int .i64 (bits .or .i64 (m : Int) (wrap64 (2 ^ k))) = .int .i64 ((m + 2 ^ k : Nat) : Int) := by
  rw [wrap_pow hk, or_bit hk hm]
set_option maxRecDepth 100000 in
theorem manaColors (c : Mana.Cst) (w : World) :
    Calls Tryd.prog 15 #[.agg #[.int .i64 c.g, .int .i64 c.x, .int .i64 c.c0, .int .i64 c.c1, .int .i64 c.c2, .int .i64 c.c3, .int .i64 c.c4]] w fun e w' => e = .returned (.int .i64 (Mana.maskI c)) ∧ Below w.heap.size w w' := by
  cases hok : Mana.okC c with
  | false =>
    have HO := Lib.hid hok
    have HV := Lib.hid (maskI_no hok)
    clear hok
    go_enter Tryd.func15, Tryd.ntmps15
    go_wp2_with fail
    refine (manaIs c _).mono ?_
    rintro e w1 ⟨rfl, hb⟩
    rw [HO.out]
    go_wp2
    go_ret
    exact ⟨ret_int HV.out.symm, below_boxed hb⟩
  | true =>
    have HO := Lib.hid hok
    have HV := Lib.hid (maskI_yes hok)
    clear hok
    go_enter Tryd.func15, Tryd.ntmps15
    go_wp2_with fail
    refine (manaIs c _).mono ?_
    rintro e w1 ⟨rfl, hb⟩
    rw [HO.out]
    obtain ⟨hcl, hfr⟩ := below_cells hb
    go_wp2
    go_loop [3, 11] (fun v i => ∃ k : Nat, k ≤ 5 ∧ i = .int .i64 (k : Int) ∧ v = .int .i64 ((Mana.maskTo c k : Nat) : Int)) (fun _ i => 5 - (intOf i).toNat)
    case atStart => exact ⟨0, by omega, rfl, rfl⟩
    case round =>
      obtain ⟨k, hk, rfl, rfl⟩ := hrel
      by_cases hlt : k < 5
      · have hi := index5 c k hlt
        by_cases hp : 0 < c.col k
        · have HM := Lib.hid (Mana.maskTo_yes hp)
          go_wp2
          go_round
          case rel => exact ⟨k + 1, by omega, by go_num, by rw [HM.out]; exact or_step hlt (Mana.maskTo_lt c k)⟩
          case measure => simp [intOf]; omega
        · have HM := Lib.hid (Mana.maskTo_no hp)
          go_wp2
          go_round
          case rel => exact ⟨k + 1, by omega, by go_num, by rw [HM.out]⟩
          case measure => simp [intOf]; omega
      · obtain rfl : k = 5 := by omega
        go_wp2
        go_ret
        exact ⟨ret_int HV.out.symm, below_boxed hb⟩
set_option maxRecDepth 100000 in
theorem refColors8 (c : Mana.Cst) (w : World) :
    Calls Tryd.prog 16 #[.agg #[.int .i64 c.g, .int .i64 c.x, .int .i64 c.c0, .int .i64 c.c1, .int .i64 c.c2, .int .i64 c.c3, .int .i64 c.c4]] w fun e w' => e = .returned (.int .i64 (Mana.maskI c)) ∧ Below w.heap.size w w' := by
  cases hok : Mana.okC c with
  | false =>
    have HO := Lib.hid hok
    have HV := Lib.hid (maskI_no hok)
    clear hok
    go_enter Tryd.func16, Tryd.ntmps16
    go_wp2_with fail
    refine (refIs8 c _).mono ?_
    rintro e w1 ⟨rfl, hb⟩
    rw [HO.out]
    go_wp2
    go_ret
    exact ⟨ret_int HV.out.symm, below_boxed hb⟩
  | true =>
    have HO := Lib.hid hok
    have HV := Lib.hid (maskI_yes hok)
    clear hok
    have hk' : ∀ k, k < 5 → Hid ((w.alloc (.cells #[.int .i64 c.g, .int .i64 c.x, .int .i64 c.c0, .int .i64 c.c1, .int .i64 c.c2, .int .i64 c.c3, .int .i64 c.c4] 24)).cell? ⟨w.heap.size, 2 + k, none⟩ = some (.int .i64 (c.col k))) := fun k h => Lib.hid (costCell c k h 24 w)
    go_enter Tryd.func16, Tryd.ntmps16
    go_wp2_with fail
    refine (refIs8 c _).mono ?_
    rintro e w1 ⟨rfl, hb⟩
    rw [HO.out]
    obtain ⟨hcl, hfr⟩ := below_cells hb
    go_wp2
    go_loop [3, 4, 5] (fun v b i => ∃ k q : Nat, k ≤ 5 ∧ q ≤ 32 ∧ Mana.maskTo c k < q ∧ Hid (q = 2 ^ k) ∧ i = .int .i64 (k : Int) ∧ v = .int .i64 ((Mana.maskTo c k : Nat) : Int) ∧ b = .int .i64 (q : Int)) (fun _ _ i => 5 - (intOf i).toNat)
    case atStart => exact ⟨0, 1, by omega, by omega, by simp [Mana.maskTo], Lib.hid rfl, rfl, rfl, rfl⟩
    case round =>
      obtain ⟨k, q, hk, hq, hm, HQ, rfl, rfl, rfl⟩ := hrel
      by_cases hlt : k < 5
      · have hi := (hk' k hlt).out
        clear hk'
        have hq2 : 2 * q ≤ 32 := by
          have := HQ.out
          have h4 : 2 ^ k ≤ 2 ^ 4 := Nat.pow_le_pow_right (by decide) (by omega)
          omega
        by_cases hp : 0 < c.col k
        · have HM := Lib.hid (Mana.maskTo_yes hp)
          go_wp2
          go_round
          case rel => exact ⟨k + 1, 2 * q, by omega, by omega, by rw [HM.out, ← HQ.out]; omega, Lib.hid (by rw [HQ.out, Nat.pow_succ]; omega), by go_num, by rw [HM.out, ← HQ.out]; go_num, by go_num⟩
          case measure => simp [intOf]; omega
        · have HM := Lib.hid (Mana.maskTo_no hp)
          go_wp2
          go_round
          case rel => exact ⟨k + 1, 2 * q, by omega, by omega, by rw [HM.out]; omega, Lib.hid (by rw [HQ.out, Nat.pow_succ]; omega), by go_num, by rw [HM.out], by go_num⟩
          case measure => simp [intOf]; omega
      · obtain rfl : k = 5 := by omega
        go_wp2
        go_ret
        exact ⟨ret_int HV.out.symm, below_boxed hb⟩
end Go.Proofs.YtcllaenanihedaaDoor
