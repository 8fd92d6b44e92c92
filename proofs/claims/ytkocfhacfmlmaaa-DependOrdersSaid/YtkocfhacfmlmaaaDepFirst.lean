/-
  THE ONE WITH THE SMALLEST TIMESTAMP: the contracts of stamp, cmp.Compare, cmp.Or, the closure, slices.MinFunc, first. By an AI agent.
-/
import Derived.Test.YtkocfhacfmlmaaaDepRow
import Derived.Test.YtkocfhacfmlmaaaDepPlain
import Derived.RegionTactic
import Derived.StillTailTactics
namespace Go.Proofs.Ytkocfhacfmlmaaa
open Go.RowKit

def cmpS (x y : Int) : Int := if x < y then -1 else if y < x then 1 else 0
def orS (x y : Int) : Int := if x = 0 then y else x
theorem ret_int {x y : Int} (h : x = y) : Ending.returned (.int .i64 x) = .returned (.int .i64 y) := by rw [h]
theorem orS_lt (st : List Int) (a b : Int) : orS (cmpS (Dep.stampS st a) (Dep.stampS st b)) (cmpS a b) < 0 ↔ Dep.bet st a b = true := by
  unfold orS cmpS Dep.bet
  rw [decide_eq_true_eq]
  repeat' split
  all_goals omega
theorem orS_range (x y a b : Int) : -1 ≤ orS (cmpS x y) (cmpS a b) ∧ orS (cmpS x y) (cmpS a b) ≤ 1 := by
  unfold orS cmpS
  repeat' split
  all_goals omega
set_option maxRecDepth 100000 in
theorem cmpInt (x y : Int) (w : World) : Calls Try.prog 34 #[.int .i64 x, .int .i64 y] w fun e w' => e = .returned (.int .i64 (cmpS x y)) ∧ w' = w := by
  by_cases h1 : x < y
  · have HS : Hid (cmpS x y = -1) := Lib.hid (by simp [cmpS, h1])
    go_enter Try.func34, Try.ntmps34
    go_wp2
    go_ret
    exact ⟨ret_int HS.out.symm, rfl⟩
  · by_cases h2 : y < x
    · have HS : Hid (cmpS x y = 1) := Lib.hid (by simp [cmpS, h1, h2])
      go_enter Try.func34, Try.ntmps34
      go_wp2
      go_ret
      exact ⟨ret_int HS.out.symm, rfl⟩
    · have HS : Hid (cmpS x y = 0) := Lib.hid (by simp [cmpS, h1, h2])
      go_enter Try.func34, Try.ntmps34
      go_wp2
      go_ret
      exact ⟨ret_int HS.out.symm, rfl⟩
theorem stampS_in {st : List Int} {k : Nat} : Dep.stampS st (k : Int) = st.getD k 0 := rfl
theorem stampS_out {st : List Int} {k : Nat} (h : st.length ≤ k) : Dep.stampS st (k : Int) = 0 := by
  show st.getD k 0 = 0
  simp [List.getD, List.getElem?_eq_none h]
set_option maxRecDepth 100000 in
theorem stamp (x : Int) (hx : 0 ≤ x) (w : World) (v : Value) (st : List Int) (hv : Ints w v st) : Calls Try.prog 35 #[.int .i64 x, v] w fun e w' => e = .returned (.int .i64 (Dep.stampS st x)) ∧ w' = w := by
  obtain ⟨k, rfl⟩ : ∃ k : Nat, x = (k : Int) := ⟨x.toNat, by omega⟩
  obtain ⟨a, cap, rfl, hc1, hc2, -, hcell⟩ := hv
  by_cases hlt : k < st.length
  · have i1 : (k : Int) < (st.length : Int) := by omega
    have HS : Hid (Dep.stampS st (k : Int) = st.getD k 0) := Lib.hid rfl
    obtain ⟨b, o, rfl, -, -, -, c1⟩ := hcell k _ (getD_get (d := 0) hlt)
    replace c1 : w.cell? ⟨b, o + k, none⟩ = some (.int .i64 (st.getD k 0)) := c1
    generalize Dep.stampS st (k : Int) = z at HS ⊢
    generalize st.getD k 0 = y at c1 HS
    clear hcell
    go_enter Try.func35, Try.ntmps35
    go_wp2
    go_ret
    exact ⟨ret_int HS.out.symm, rfl⟩
  · have i1 : ¬ (k : Int) < (st.length : Int) := by omega
    have HS : Hid (Dep.stampS st (k : Int) = 0) := Lib.hid (stampS_out (by omega))
    clear hcell
    go_enter Try.func35, Try.ntmps35
    go_wp2
    go_ret
    exact ⟨ret_int HS.out.symm, rfl⟩
set_option maxRecDepth 100000 in
theorem refStamp (x : Int) (hx : 0 ≤ x) (w : World) (v : Value) (st : List Int) (hv : Ints w v st) : Calls Try.prog 26 #[v, .int .i64 x] w fun e w' => e = .returned (.int .i64 (Dep.stampS st x)) ∧ w' = w := by
  obtain ⟨k, rfl⟩ : ∃ k : Nat, x = (k : Int) := ⟨x.toNat, by omega⟩
  obtain ⟨a, cap, rfl, hc1, hc2, -, hcell⟩ := hv
  by_cases hlt : k < st.length
  · have i1 : (k : Int) < (st.length : Int) := by omega
    have HS : Hid (Dep.stampS st (k : Int) = st.getD k 0) := Lib.hid rfl
    obtain ⟨b, o, rfl, -, -, -, c1⟩ := hcell k _ (getD_get (d := 0) hlt)
    replace c1 : w.cell? ⟨b, o + k, none⟩ = some (.int .i64 (st.getD k 0)) := c1
    generalize Dep.stampS st (k : Int) = z at HS ⊢
    generalize st.getD k 0 = y at c1 HS
    clear hcell
    go_enter Try.func26, Try.ntmps26
    go_wp2
    go_ret
    exact ⟨ret_int HS.out.symm, rfl⟩
  · have i1 : ¬ (k : Int) < (st.length : Int) := by omega
    have HS : Hid (Dep.stampS st (k : Int) = 0) := Lib.hid (stampS_out (by omega))
    clear hcell
    go_enter Try.func26, Try.ntmps26
    go_wp2
    go_ret
    exact ⟨ret_int HS.out.symm, rfl⟩
set_option maxHeartbeats 1000000 in
set_option maxRecDepth 100000 in
theorem orInts (x y : Int) (w : World) (b o : Nat) (h0 : w.cell? ⟨b, o, none⟩ = some (.int .i64 x)) (h1 : w.cell? ⟨b, o + 1, none⟩ = some (.int .i64 y)) :
    Calls Try.prog 33 #[.slice (some ⟨b, o, none⟩) 2 2] w fun e w' => e = .returned (.int .i64 (orS x y)) ∧ w' = w := by
  by_cases hx : x = 0
  · have HS : Hid (orS x y = y) := Lib.hid (by simp [orS, hx])
    have tx : (x != 0) = false := by simp [hx]
    by_cases hy : y = 0
    · have ty : (y != 0) = false := by simp [hy]
      have HY := Lib.hid hy
      clear hx hy
      go_enter Try.func33, Try.ntmps33
      go_wp2
      refine wp_loop_rounds 3 ?_
      rw [rounds_succ]
      go_wp2
      rw [rounds_succ]
      go_wp2
      rw [rounds_succ]
      go_wp2
      go_ret
      exact ⟨ret_int (by rw [HS.out, HY.out]), rfl⟩
    · have ty : (y != 0) = true := by simp only [bne_iff_ne]; exact hy
      clear hx hy
      go_enter Try.func33, Try.ntmps33
      go_wp2
      refine wp_loop_rounds 3 ?_
      rw [rounds_succ]
      go_wp2
      rw [rounds_succ]
      go_wp2
      go_ret
      exact ⟨ret_int HS.out.symm, rfl⟩
  · have HS : Hid (orS x y = x) := Lib.hid (by simp [orS, hx])
    have tx : (x != 0) = true := by simp only [bne_iff_ne]; exact hx
    clear hx
    go_enter Try.func33, Try.ntmps33
    go_wp2
    refine wp_loop_rounds 3 ?_
    rw [rounds_succ]
    go_wp2
    go_ret
    exact ⟨ret_int HS.out.symm, rfl⟩
theorem cell_new0 (w : World) (x y : Value) (e : TypeId) : (w.alloc (.cells #[x, y] e)).cell? ⟨w.heap.size, 0, none⟩ = some x := by
  have h : (w.alloc (.cells #[x, y] e)).heap[w.heap.size]? = some (.cells #[x, y] e (0, 0)) := heap_alloc_new _ _
  simp only [World.cell?]
  rw [h]
  rfl
theorem cell_new1 (w : World) (x y : Value) (e : TypeId) : (w.alloc (.cells #[x, y] e)).cell? ⟨w.heap.size, 0 + 1, none⟩ = some y := by
  have h : (w.alloc (.cells #[x, y] e)).heap[w.heap.size]? = some (.cells #[x, y] e (0, 0)) := heap_alloc_new _ _
  simp only [World.cell?]
  rw [h]
  rfl
set_option maxHeartbeats 4000000 in
set_option maxRecDepth 100000 in
theorem firstCmp (a b : Int) (ha : 0 ≤ a) (hb : 0 ≤ b) (w : World) (bs : Nat) (vs : Value) (st : List Int) (hc : w.cell? ⟨bs, 0, none⟩ = some vs) (hv : Ints w vs st) :
    Calls Try.prog 32 #[.int .i64 a, .int .i64 b, .pointer (some ⟨bs, 0, none⟩)] w fun e w' => e = .returned (.int .i64 (orS (cmpS (Dep.stampS st a) (Dep.stampS st b)) (cmpS a b))) ∧ Below w.heap.size w w' := by
  have HV := Lib.hid hv
  have hbs := World.block_lt_of_cell? w _ hc
  have H1 : Hid (∀ u : World, Below w.heap.size w u → Calls Try.prog 35 #[.int .i64 a, vs] u fun e w' => e = .returned (.int .i64 (Dep.stampS st a)) ∧ w' = u) := Lib.hid fun u hu => stamp a ha u vs st (HV.out.under hu (Nat.le_refl _))
  have H2 : Hid (∀ u : World, Below w.heap.size w u → Calls Try.prog 35 #[.int .i64 b, vs] u fun e w' => e = .returned (.int .i64 (Dep.stampS st b)) ∧ w' = u) := Lib.hid fun u hu => stamp b hb u vs st (HV.out.under hu (Nat.le_refl _))
  obtain ⟨av, cv, rfl, -⟩ := hv
  generalize Dep.stampS st a = x at *
  generalize Dep.stampS st b = y at *
  clear ha hb
  go_enter Try.func32, Try.ntmps32
  go_wp2_with fail
  refine wp_region_still_tail 10 (by kernel_rfl) (by kernel_rfl) ?_
  simp only [List.take_succ_cons, List.take_zero, List.drop_succ_cons, List.drop_zero]
  still_step
  still_step
  still_call (H1.out _ ((Below.refl w.heap.size w).drew))
  still_step
  still_step
  still_call (H2.out _ ((Below.refl w.heap.size w).drew))
  still_call (cmpInt _ _ _)
  still_step
  still_step
  still_call (cmpInt _ _ _)
  refine wpStill_nil ?_
  change wpList _ _ _ _ _ w.drew
  have hb0 : Below w.heap.size w w.drew := (Below.refl w.heap.size w).drew
  generalize w.drew = w2 at hb0
  have HB0 := Lib.hid hb0
  clear hb0 hc
  go_wp2_with fail
  refine (orInts _ _ _ _ 0 (cell_new0 _ _ _ _) (cell_new1 _ _ _ _)).mono ?_
  rintro e w3 ⟨rfl, rfl⟩
  go_wp2_with fail
  go_ret
  exact ⟨rfl, HB0.out.alloc HB0.out.size _⟩
/-- the smallest under way -/
def MinAt (st : List Int) (l : List Int) (w : World) (m i : Value) (wr : World) : Prop :=
  ∃ (k : Nat) (x : Int), 1 ≤ k ∧ k ≤ l.length ∧ 0 ≤ x ∧ i = .int .i64 (k : Int) ∧ m = .int .i64 x ∧ Dep.pick st x (l.drop k) = Dep.nextL st l ∧ Below w.heap.size w wr
theorem MinAt.next {st l : List Int} {w wr : World} {k : Nat} {x : Int} (hl : ∀ y, y ∈ l → 0 ≤ y) (hk : 1 ≤ k) (hlt : k < l.length) (hx : 0 ≤ x) (hp : Dep.pick st x (l.drop k) = Dep.nextL st l) (hb : Below w.heap.size w wr) :
    MinAt st l w (.int .i64 (if Dep.bet st (l.getD k 0) x then l.getD k 0 else x)) (.int .i64 ((k : Int) + 1)) wr := by
  have e : l.getD k 0 = l[k] := by simp [List.getD, hlt]
  refine ⟨k + 1, _, by omega, hlt, ?_, rfl, rfl, ?_, hb⟩
  · have := hl (l.getD k 0) (by rw [e]; exact List.getElem_mem _)
    split <;> omega
  · rw [List.drop_eq_getElem_cons hlt] at hp
    rw [← hp, e]
    rfl
set_option maxHeartbeats 4000000 in
set_option maxRecDepth 100000 in
theorem minFunc (w : World) (bs : Nat) (vs v : Value) (st l : List Int) (hc : w.cell? ⟨bs, 0, none⟩ = some vs) (hs : Ints w vs st) (hv : Ints w v l) (hl : ∀ y, y ∈ l → 0 ≤ y) (hne : 0 < l.length) :
    Calls Try.prog 31 #[v, .func (Fn.func 32) #[] #[.pointer (some ⟨bs, 0, none⟩)]] w fun e w' => e = .returned (.int .i64 (Dep.nextL st l)) ∧ Below w.heap.size w w' := by
  have HS := Lib.hid hs
  have HC := Lib.hid hc
  have HB : Hid (bs < w.heap.size) := Lib.hid (World.block_lt_of_cell? w _ hc)
  have HL := Lib.hid hl
  obtain ⟨a, cap, rfl, hc1, hc2, -, hcell⟩ := hv
  unfold maxLen at hc2
  have D := Lib.hid hcell
  obtain ⟨b0, o0, rfl, -, -, hb0, c0⟩ := hcell 0 _ (getD_get (d := 0) hne)
  replace c0 : w.cell? ⟨b0, o0, none⟩ = some (.int .i64 (l.getD 0 0)) := c0
  have hlen1 : ¬ (l.length : Int) < 1 := by omega
  have hpos : (0 : Int) < (l.length : Int) := by omega
  have HP : Hid (Dep.pick st (l.getD 0 0) (l.drop 1) = Dep.nextL st l) := Lib.hid (by
    cases l with
    | nil => simp at hne
    | cons x r => rfl)
  have HX : Hid (0 ≤ l.getD 0 0) := Lib.hid (hl _ (by rw [List.getD_eq_getElem?_getD, List.getElem?_eq_getElem hne]; exact List.getElem_mem _))
  generalize l.getD 0 0 = x0 at c0 HP HX
  clear hcell hs hc hl
  go_enter Try.func31, Try.ntmps31
  go_wp2_with fail
  go_loopw [5, 6] (fun m i wr => MinAt st l w m i wr) (fun _ i _ => l.length - (intOf i).toNat)
  case atStart => exact ⟨1, x0, Nat.le_refl _, hne, HX.out, rfl, rfl, HP.out, Below.refl _ _⟩
  case round =>
    clear c0 HP HX
    obtain ⟨k, x, hk1, hk, hx, rfl, rfl, hp, hb⟩ := hrel
    by_cases hlt : k < l.length
    · have i1 : (k : Int) < (l.length : Int) := by omega
      have hki : (0 : Int) ≤ (k : Int) ∧ (k : Int) < (l.length : Int) := by omega
      obtain ⟨b1, o1, e1, -, -, hq, hcell⟩ := D.out k _ (getD_get (d := 0) hlt)
      injection e1 with e1
      injection e1 with e1 e2
      subst e1 e2
      have c1 : wr.cell? ⟨b0, o0 + k, none⟩ = some (.int .i64 (l.getD k 0)) := (hb.cell hq).trans hcell
      have hy : 0 ≤ l.getD k 0 := HL.out _ (by rw [List.getD_eq_getElem?_getD, List.getElem?_eq_getElem hlt]; exact List.getElem_mem _)
      have HW := Lib.hid (firstCmp (l.getD k 0) x hy hx wr bs vs st ((hb.cell (p := ⟨bs, 0, none⟩) HB.out).trans HC.out) (HS.out.under hb (Nat.le_refl _)))
      have hr := orS_range (Dep.stampS st (l.getD k 0)) (Dep.stampS st x) (l.getD k 0) x
      have hlt2 := orS_lt st (l.getD k 0) x
      have HN := Lib.hid (fun (wx : World) (hbx : Below w.heap.size w wx) => MinAt.next HL.out hk1 hlt hx hp hbx)
      have HBR := Lib.hid hb
      generalize orS (cmpS (Dep.stampS st (l.getD k 0)) (Dep.stampS st x)) (cmpS (l.getD k 0) x) = r at HW hr hlt2
      generalize l.getD k 0 = y at *
      clear hcell hp hb hy
      cases hbet : Dep.bet st y x with
      | true =>
        have hr0 : r < 0 := hlt2.2 hbet
        rw [hbet] at HN
        simp only [if_true] at HN
        clear hlt2 hbet
        go_wp2_with fail
        refine HW.out.mono ?_
        rintro e w3 ⟨rfl, hb3⟩
        have HB3 := Lib.hid (HBR.out.trans (hb3.mono HBR.out.size))
        have c3 : w3.cell? ⟨b0, o0 + k, none⟩ = some (.int .i64 y) := (hb3.cell (p := ⟨b0, o0 + k, none⟩) (World.block_lt_of_cell? wr _ c1)).trans c1
        clear HW hb3 c1
        go_wp2_with fail
        go_roundw
        case rel => exact HN.out _ HB3.out
        case measure => simp [intOf]; omega
      | false =>
        have hr0 : ¬ r < 0 := fun h => by rw [hlt2.1 h] at hbet; cases hbet
        rw [hbet] at HN
        simp only [Bool.false_eq_true, if_false] at HN
        clear hlt2 hbet
        go_wp2_with fail
        refine HW.out.mono ?_
        rintro e w3 ⟨rfl, hb3⟩
        have HB3 := Lib.hid (HBR.out.trans (hb3.mono HBR.out.size))
        clear HW hb3 c1
        go_wp2_with fail
        go_roundw
        case rel => exact HN.out _ HB3.out
        case measure => simp [intOf]; omega
    · obtain rfl : k = l.length := by omega
      have HF : Hid (x = Dep.nextL st l) := Lib.hid (by rw [← hp, List.drop_length]; rfl)
      go_wp2_with fail
      go_ret
      exact ⟨ret_int HF.out, hb⟩
set_option maxHeartbeats 4000000 in
set_option maxRecDepth 100000 in
theorem first (w : World) (vs v : Value) (st l : List Int) (hs : Ints w vs st) (hv : Ints w v l) (hl : ∀ y, y ∈ l → 0 ≤ y) :
    Calls Try.prog 25 #[v, vs] w fun e w' => e = .returned (.int .i64 (Dep.nextL st l)) ∧ Below w.heap.size w w' := by
  have hmf : ∀ (fn : Fn) (first cap : Array Value) (w : World), (Instr.makeFunc fn first cap).run Try.prog w = .ok (.func fn first cap) w := fun _ _ _ _ => rfl
  have hb := below_alloc1 w (.cells #[vs] 22)
  have hbox : (w.alloc (.cells #[vs] 22)).cell? ⟨w.heap.size, 0, none⟩ = some vs := cell_of_one (heap_alloc_new _ _)
  by_cases h0 : l.length = 0
  · have hll : l = [] := List.eq_nil_of_length_eq_zero h0
    subst hll
    obtain ⟨a, cap, rfl, -⟩ := hv
    obtain ⟨a', cap', rfl, -⟩ := hs
    have HB := Lib.hid hb
    clear hb hbox h0 hl
    rw [List.length_nil]
    go_enter Try.func25, Try.ntmps25
    go_wp2_with fail
    go_ret
    exact ⟨rfl, HB.out⟩
  · have HC := Lib.hid (minFunc _ w.heap.size vs v st l hbox (hs.under hb (Nat.le_refl _)) (hv.under hb (Nat.le_refl _)) hl (by omega))
    have HB := Lib.hid hb
    obtain ⟨a, cap, rfl, -⟩ := hv
    obtain ⟨a', cap', rfl, -⟩ := hs
    have t0 : ((l.length : Int) == 0) = false := by simp only [beq_eq_false_iff_ne]; omega
    clear hb hbox h0 hl
    go_enter Try.func25, Try.ntmps25
    go_wp2_with fail
    refine HC.out.mono ?_
    rintro e w3 ⟨rfl, hb3⟩
    have HB3 := Lib.hid (HB.out.trans (hb3.mono HB.out.size))
    clear hb3 HC
    go_wp2_with fail
    go_ret
    exact ⟨rfl, HB3.out⟩
end Go.Proofs.Ytkocfhacfmlmaaa
