/-
  CONTRACTS OF LAYER 12 (counter): isKind, Is, Add, of the program and of the reference. By an AI agent.
-/
import Derived.Test.YtgljibplhiabgaaDoorCtrPlain
import Derived.Test.YtgljibplhiabgaaDoorCtrNum
import Derived.Test.YtgljibplhiabgaaDoorBlk
import Derived.StillTailTactics
import Derived.Lib.Hide
namespace Go.Proofs.YtgljibplhiabgaaDoor
open Go.RowKit Go.Lib

theorem counterIsKind (k : Int) (w : World) :
    Calls Tryd.prog 24 #[.int .i64 k] w fun e w' => e = .returned (.bool (decide (0 ≤ k) && decide (k < 3))) ∧ w = w' := by
  rcases Int.lt_or_le k 0 with h0 | h0
  · go_enter Tryd.func24, Tryd.ntmps24
    go_wp2
    go_ret
    exact ⟨ret_bool (by simp; omega), rfl⟩
  · rcases Int.lt_or_le k 3 with h1 | h1
    · go_enter Tryd.func24, Tryd.ntmps24
      go_wp2
      go_ret
      exact ⟨ret_bool (by simp; omega), rfl⟩
    · go_enter Tryd.func24, Tryd.ntmps24
      go_wp2
      go_ret
      exact ⟨ret_bool (by simp; omega), rfl⟩
theorem index3_0 (p : Ctr.Tri) (w : World) : (Instr.index 22 (.agg #[.int .i64 p.a, .int .i64 p.b, .int .i64 p.c]) (.int .i64 0)).run Tryd.prog w = .ok (.int .i64 p.a) w := by kernel_rfl
theorem index3_1 (p : Ctr.Tri) (w : World) : (Instr.index 22 (.agg #[.int .i64 p.a, .int .i64 p.b, .int .i64 p.c]) (.int .i64 1)).run Tryd.prog w = .ok (.int .i64 p.b) w := by kernel_rfl
theorem index3_2 (p : Ctr.Tri) (w : World) : (Instr.index 22 (.agg #[.int .i64 p.a, .int .i64 p.b, .int .i64 p.c]) (.int .i64 2)).run Tryd.prog w = .ok (.int .i64 p.c) w := by kernel_rfl
theorem index3 (p : Ctr.Tri) (k : Nat) (hk : k < 3) (w : World) : (Instr.index 22 (.agg #[.int .i64 p.a, .int .i64 p.b, .int .i64 p.c]) (.int .i64 (k : Int))).run Tryd.prog w = .ok (.int .i64 (p.el k)) w := by
  match k, hk with
  | 0, _ => exact index3_0 p w
  | 1, _ => exact index3_1 p w
  | 2, _ => exact index3_2 p w
theorem triCell (p : Ctr.Tri) (k : Nat) (hk : k < 3) (t : TypeId) (w : World) : (w.alloc (.cells #[.int .i64 p.a, .int .i64 p.b, .int .i64 p.c] t)).cell? ⟨w.heap.size, k, none⟩ = some (.int .i64 (p.el k)) := by
  rw [World.cell?_alloc_mark]
  match k, hk with
  | 0, _ => rfl
  | 1, _ => rfl
  | 2, _ => rfl
theorem triAt (p : Ctr.Tri) (k : Nat) (hk : k < 3) : (#[.int .i64 p.a, .int .i64 p.b, .int .i64 p.c] : Array Value)[k]? = some (.int .i64 (p.el k)) := by
  match k, hk with
  | 0, _ => rfl
  | 1, _ => rfl
  | 2, _ => rfl
theorem setTri (p : Ctr.Tri) (k : Nat) (hk : k < 3) (v : Int) : (#[.int .i64 p.a, .int .i64 p.b, .int .i64 p.c] : Array Value).setIfInBounds k (.int .i64 v) = #[.int .i64 (p.set k v).a, .int .i64 (p.set k v).b, .int .i64 (p.set k v).c] := by
  match k, hk with
  | 0, _ => rfl
  | 1, _ => rfl
  | 2, _ => rfl
theorem Blk.tri {w : World} {b : Nat} {p : Ctr.Tri} {t : TypeId} (h : Blk w b #[.int .i64 p.a, .int .i64 p.b, .int .i64 p.c] t) (k : Nat) (hk : k < 3) : w.cell? ⟨b, k, none⟩ = some (.int .i64 (p.el k)) := by
  rw [h.cell, triAt p k hk]
theorem Blk.setTri {w : World} {b : Nat} {p : Ctr.Tri} {t : TypeId} (h : Blk w b #[.int .i64 p.a, .int .i64 p.b, .int .i64 p.c] t) (k : Nat) (hk : k < 3) (v : Int) : Blk (w.setCell ⟨b, k, none⟩ (.int .i64 v)) b #[.int .i64 (p.set k v).a, .int .i64 (p.set k v).b, .int .i64 (p.set k v).c] t := by
  have := h.set k (.int .i64 v)
  rw [Go.Proofs.YtgljibplhiabgaaDoor.setTri p k hk v] at this
  exact this
set_option maxRecDepth 100000 in
theorem counterIs (p : Ctr.Tri) (w : World) :
    Calls Tryd.prog 12 #[.agg #[.int .i64 p.a, .int .i64 p.b, .int .i64 p.c]] w fun e w' => e = .returned (.bool (Ctr.okT p)) ∧ Below w.heap.size w w' := by
  go_enter Tryd.func12, Tryd.ntmps12
  go_wp2
  go_loop [6] (fun i => ∃ k : Nat, k ≤ 3 ∧ i = .int .i64 (k : Int) ∧ Ctr.okTo p k) (fun i => 3 - (intOf i).toNat)
  case atStart => exact ⟨0, by omega, rfl, Ctr.okTo_zero p⟩
  case round =>
    obtain ⟨k, hk, rfl, hok⟩ := hrel
    have HO := Lib.hid hok
    clear hok
    by_cases hlt : k < 3
    · have hi := index3 p k hlt
      cases hc : Ctr.okN (p.el k) with
      | true =>
        obtain ⟨h0, h1⟩ := Ctr.okN_yes hc
        have HC := Lib.hid hc
        clear hc
        go_wp2
        go_round
        case rel => exact ⟨k + 1, by omega, by go_num, Ctr.okTo_yes HO.out HC.out⟩
        case measure => simp [intOf]; omega
      | false =>
        have HC := Lib.hid (Ctr.okT_no hlt hc)
        rcases Ctr.okN_no hc with h | h
        all_goals
          clear hc
          go_wp2
          all_goals (go_ret; exact ⟨ret_bool HC.out.symm, by go_grown⟩)
    · obtain rfl : k = 3 := by omega
      go_wp2
      go_ret
      exact ⟨ret_bool (Ctr.okT_end HO.out).symm, by go_grown⟩
set_option maxRecDepth 100000 in
theorem refIs12 (p : Ctr.Tri) (w : World) :
    Calls Tryd.prog 13 #[.agg #[.int .i64 p.a, .int .i64 p.b, .int .i64 p.c]] w fun e w' => e = .returned (.bool (Ctr.okT p)) ∧ Below w.heap.size w w' := by
  go_enter Tryd.func13, Tryd.ntmps13
  go_wp2
  go_loop [3] (fun i => ∃ k : Nat, k ≤ 3 ∧ i = .int .i64 (k : Int) ∧ Ctr.okTo p k) (fun i => 3 - (intOf i).toNat)
  case atStart => exact ⟨0, by omega, rfl, Ctr.okTo_zero p⟩
  case round =>
    obtain ⟨k, hk, rfl, hok⟩ := hrel
    have HO := Lib.hid hok
    clear hok
    by_cases hlt : k < 3
    · have hi := triCell p k hlt 22 w
      cases hc : Ctr.okN (p.el k) with
      | true =>
        obtain ⟨h0, h1⟩ := Ctr.okN_yes hc
        have HC := Lib.hid hc
        clear hc
        go_wp2
        go_round
        case rel => exact ⟨k + 1, by omega, by go_num, Ctr.okTo_yes HO.out HC.out⟩
        case measure => simp [intOf]; omega
      | false =>
        have HC := Lib.hid (Ctr.okT_no hlt hc)
        rcases Ctr.okN_no hc with h | h
        all_goals
          clear hc
          go_wp2
          all_goals (go_ret; exact ⟨ret_bool HC.out.symm, by go_grown⟩)
    · obtain rfl : k = 3 := by omega
      go_wp2
      go_ret
      exact ⟨ret_bool (Ctr.okT_end HO.out).symm, by go_grown⟩
theorem numAdd' (a b : Int) (w : World) :
    Calls Tryd.prog 25 #[.int .i64 a, .int .i64 b] w fun e w' => ∃ s, e = .returned (.int .i64 s) ∧ max 0 s = Ctr.addN a b ∧ -1000000 ≤ s ∧ s ≤ 1000000 ∧ w = w' :=
  (numAdd a b w).mono fun _ _ ⟨h1, h2⟩ => ⟨_, h1, rfl, (Num.clampI_bd _).1, (Num.clampI_bd _).2, h2⟩
theorem refAdd' (a b : Int) (w : World) :
    Calls Tryd.prog 26 #[.int .i64 a, .int .i64 b] w fun e w' => ∃ s, e = .returned (.int .i64 s) ∧ max 0 s = Ctr.addN a b ∧ -1000000 ≤ s ∧ s ≤ 1000000 ∧ w = w' :=
  (refAdd a b w).mono fun _ _ ⟨h1, h2⟩ => ⟨_, h1, rfl, (Num.clampI_bd _).1, (Num.clampI_bd _).2, h2⟩
theorem ret_tri {p q : Ctr.Tri} (h : p = q) : Ending.returned (.agg #[.int .i64 p.a, .int .i64 p.b, .int .i64 p.c]) = .returned (.agg #[.int .i64 q.a, .int .i64 q.b, .int .i64 q.c]) := by rw [h]
set_option maxRecDepth 100000 in
theorem counterAdd (p : Ctr.Tri) (k n : Int) (w : World) :
    Calls Tryd.prog 16 #[.agg #[.int .i64 p.a, .int .i64 p.b, .int .i64 p.c], .int .i64 k, .int .i64 n] w fun e w' => e = .returned (.agg #[.int .i64 (Ctr.addT p k n).a, .int .i64 (Ctr.addT p k n).b, .int .i64 (Ctr.addT p k n).c]) ∧ Below w.heap.size w w' := by
  by_cases ho : k < 0 ∨ 3 ≤ k
  · rw [Ctr.addT_out ho]
    have HB : Hid ((decide (0 ≤ k) && decide (k < 3)) = false) := Lib.hid (by simp; omega)
    clear ho
    go_enter Tryd.func16, Tryd.ntmps16
    go_wp2_with fail
    refine (counterIsKind _ _).mono ?_
    rw [HB.out]
    rintro e w1 ⟨rfl, rfl⟩
    go_wp2
    exact bodyPost_ret (v := .agg #[.int .i64 p.a, .int .i64 p.b, .int .i64 p.c]) (by simp [results, Tryd.results16, go_sem]) rfl ⟨rfl, by go_grown⟩
  · obtain ⟨j, rfl⟩ : ∃ j : Nat, k = (j : Int) := ⟨k.toNat, by omega⟩
    have hj : j < 3 := by omega
    rw [Ctr.addT_nat p hj]
    have HB : Hid ((decide (0 ≤ (j : Int)) && decide ((j : Int) < 3)) = true) := Lib.hid (by simp; omega)
    clear ho
    have hc : ((w.alloc (.cells #[.int .i64 p.a, .int .i64 p.b, .int .i64 p.c] 22)).alloc (.cells #[.int .i64 0, .int .i64 0, .int .i64 0] 22)).cell? ⟨w.heap.size, j, none⟩ = some (.int .i64 (p.el j)) := ((Blk.new w #[.int .i64 p.a, .int .i64 p.b, .int .i64 p.c] 22).alloc _).tri j hj
    have hst := fun v => setTri p j hj v
    go_enter Tryd.func16, Tryd.ntmps16
    go_wp2_with fail
    refine (counterIsKind _ _).mono ?_
    rw [HB.out]
    rintro e w1 ⟨rfl, rfl⟩
    go_wp2_with fail
    refine (numAdd' _ _ _).mono ?_
    rintro e w1 ⟨s, rfl, hs, s0, s1, rfl⟩
    have HS := Lib.hid hs
    clear hs
    rcases (show s ≤ 0 ∨ 0 < s by omega) with hn | hn
    · have HN : Hid (Ctr.addN (p.el j) n = 0) := Lib.hid (by rw [← HS.out]; omega)
      go_wp2
      exact bodyPost_ret (v := .agg #[.int .i64 (p.set j 0).a, .int .i64 (p.set j 0).b, .int .i64 (p.set j 0).c]) (by simp [results, Tryd.results16, go_sem]) rfl ⟨ret_tri (by rw [HN.out]), by go_grown⟩
    · have HN : Hid (Ctr.addN (p.el j) n = s) := Lib.hid (by rw [← HS.out]; omega)
      go_wp2
      exact bodyPost_ret (v := .agg #[.int .i64 (p.set j s).a, .int .i64 (p.set j s).b, .int .i64 (p.set j s).c]) (by simp [results, Tryd.results16, go_sem]) rfl ⟨ret_tri (by rw [HN.out]), by go_grown⟩
set_option maxRecDepth 100000 in
theorem refAdd12 (p : Ctr.Tri) (k n : Int) (w : World) :
    Calls Tryd.prog 17 #[.agg #[.int .i64 p.a, .int .i64 p.b, .int .i64 p.c], .int .i64 k, .int .i64 n] w fun e w' => e = .returned (.agg #[.int .i64 (Ctr.addT p k n).a, .int .i64 (Ctr.addT p k n).b, .int .i64 (Ctr.addT p k n).c]) ∧ Below w.heap.size w w' := by
  by_cases ho : k < 0 ∨ 3 ≤ k
  · rw [Ctr.addT_out ho]
    rcases ho with ho | ho
    · have ho' : ¬ 0 ≤ k := by omega
      go_enter Tryd.func17, Tryd.ntmps17
      go_wp2
      exact bodyPost_ret (v := .agg #[.int .i64 p.a, .int .i64 p.b, .int .i64 p.c]) (by simp [results, Tryd.results17, go_sem]) rfl ⟨rfl, by go_grown⟩
    · have ho' : ¬ k < 3 := by omega
      have ho2 : 0 ≤ k := by omega
      go_enter Tryd.func17, Tryd.ntmps17
      go_wp2
      exact bodyPost_ret (v := .agg #[.int .i64 p.a, .int .i64 p.b, .int .i64 p.c]) (by simp [results, Tryd.results17, go_sem]) rfl ⟨rfl, by go_grown⟩
  · obtain ⟨j, rfl⟩ : ∃ j : Nat, k = (j : Int) := ⟨k.toNat, by omega⟩
    have hj : j < 3 := by omega
    rw [Ctr.addT_nat p hj]
    clear ho
    have hc : ((w.alloc (.cells #[.int .i64 p.a, .int .i64 p.b, .int .i64 p.c] 22)).alloc (.cells #[.int .i64 0, .int .i64 0, .int .i64 0] 22)).cell? ⟨w.heap.size, j, none⟩ = some (.int .i64 (p.el j)) := ((Blk.new w #[.int .i64 p.a, .int .i64 p.b, .int .i64 p.c] 22).alloc _).tri j hj
    have hst := fun v => setTri p j hj v
    go_enter Tryd.func17, Tryd.ntmps17
    go_wp2_with fail
    refine (refAdd' _ _ _).mono ?_
    rintro e w1 ⟨s, rfl, hs, s0, s1, rfl⟩
    have HS := Lib.hid hs
    clear hs
    rcases (show s ≤ 0 ∨ 0 < s by omega) with hn | hn
    · have HN : Hid (Ctr.addN (p.el j) n = 0) := Lib.hid (by rw [← HS.out]; omega)
      go_wp2
      exact bodyPost_ret (v := .agg #[.int .i64 (p.set j 0).a, .int .i64 (p.set j 0).b, .int .i64 (p.set j 0).c]) (by simp [results, Tryd.results17, go_sem]) rfl ⟨ret_tri (by rw [HN.out]), by go_grown⟩
    · have HN : Hid (Ctr.addN (p.el j) n = s) := Lib.hid (by rw [← HS.out]; omega)
      go_wp2
      exact bodyPost_ret (v := .agg #[.int .i64 (p.set j s).a, .int .i64 (p.set j s).b, .int .i64 (p.set j s).c]) (by simp [results, Tryd.results17, go_sem]) rfl ⟨ret_tri (by rw [HN.out]), by go_grown⟩
end Go.Proofs.YtgljibplhiabgaaDoor
