/-
  LAYER 7's LAWS: DependAll. By an AI agent.
-/
import Derived.Test.YtkocfhacfmlmaaaDepLaws
import Derived.BigQuiet
namespace Go.Proofs.Ytkocfhacfmlmaaa
open Go.RowKit

/-- an order and what it keeps -/
structure OrdFacts (n : Nat) (st : List Int) (M : List (List Bool)) (l : List Int) : Prop where
  len : l.length = n
  good : Dep.Good l
  range : ∀ x, x ∈ l → 0 ≤ x ∧ x < (n : Int)
  left : ∀ i, i < n → Dep.readyS (l.drop i) M ≠ []
  first : ∀ i, i < n → ∀ y, y ∈ Dep.readyS (l.drop i) M → Dep.bet st y (l.getD i 0) = false
theorem ordFacts (st : List Int) (M : List (List Bool)) : OrdFacts st.length st M (Dep.orderS st M) :=
  ⟨Dep.orderS_length, Dep.orderS_good, fun _ h => Dep.orderS_mem h, fun _ h => Dep.orderS_left h, fun _ h _ hy => Dep.orderS_first h hy⟩
theorem OrdFacts.wf {n : Nat} {st l : List Int} {M : List (List Bool)} (h : OrdFacts n st M l) (hn : n ≤ 1000000) {x : Int} (hx : x ∈ l) : wfI x := by
  have := h.range x hx
  exact WalkArith.wf_i64 (by omega)
theorem OrdFacts.at {n : Nat} {st l : List Int} {M : List (List Bool)} (h : OrdFacts n st M l) {i : Nat} (hi : i < n) : ∃ x : Nat, l.getD i 0 = (x : Int) ∧ x < n := by
  have := h.range _ (getD_mem (d := 0) (show i < l.length by rw [h.len]; exact hi))
  exact ⟨(l.getD i 0).toNat, by omega, by omega⟩
/-- which have been seen -/
def SeenAt (w2 : World) (n : Nat) (l : List Int) (i : Value) (wr : World) : Prop :=
  ∃ (k : Nat) (sl : List Bool), k ≤ n ∧ i = .int .i64 (k : Int) ∧ OwnRow encB 4 w2.heap.size wr (.slice (some ⟨w2.heap.size, 0, none⟩) n n) sl ∧ (∀ x, x < n → sl.getD x false = true → ∃ j, j < k ∧ l.getD j 0 = (x : Int)) ∧ Below w2.heap.size w2 wr
theorem seen_start (w2 : World) (n : Nat) (l : List Int) (hn : n ≤ 1000000) : SeenAt w2 n l (.int .i64 ((0 : Nat) : Int)) (w2.alloc (.cells (falseRow n) 4)) :=
  ⟨0, List.replicate n false, Nat.zero_le _, rfl, own_block (Nat.le_refl _) (by simp) hn (heap_alloc_new _ _), fun x _ h => (by
    have := congrFun (nth_falses n) x
    unfold nth at this
    rw [this] at h
    cases h), below_alloc1 _ _⟩
theorem SeenAt.next {w2 wr w5 : World} {n k x : Nat} {l : List Int} {sl : List Bool} (hk : k < n) (hx : l.getD k 0 = (x : Int)) (hxn : x < n) (h1 : OwnRow encB 4 w2.heap.size wr (.slice (some ⟨w2.heap.size, 0, none⟩) n n) sl)
    (h2 : ∀ x, x < n → sl.getD x false = true → ∃ j, j < k ∧ l.getD j 0 = (x : Int)) (h3 : Below w2.heap.size w2 wr) (hb : Below wr.heap.size wr w5) :
    SeenAt w2 n l (.int .i64 ((k : Int) + 1)) (w5.setCell ⟨w2.heap.size, x, none⟩ (.bool true)) := by
  have h5 : OwnRow encB 4 w2.heap.size w5 (.slice (some ⟨w2.heap.size, 0, none⟩) n n) sl := h1.below hb (Nat.le_refl _)
  obtain ⟨g, e, _, _, _, _, h6⟩ := h5.place false hxn
  obtain rfl : w2.heap.size = g := by injection e with e; injection e
  refine ⟨k + 1, sl.set x true, hk, rfl, (h6 true).1, fun y hy h => ?_, (h3.trans (hb.mono h3.size)).setCell (Nat.le_refl _) _⟩
  by_cases e : y = x
  · exact ⟨k, by omega, by rw [hx, e]⟩
  · have : (sl.set x true).getD y false = sl.getD y false := by simp [List.getD, Ne.symm e]
    rw [this] at h
    obtain ⟨j, hj, hj2⟩ := h2 y hy h
    exact ⟨j, by omega, hj2⟩
theorem unseen {n k x : Nat} {l : List Int} {sl : List Bool} (hg : l.Nodup) (hk : k < l.length) (hx : l.getD k 0 = (x : Int)) (hxn : x < n) (h2 : ∀ x, x < n → sl.getD x false = true → ∃ j, j < k ∧ l.getD j 0 = (x : Int)) : sl.getD x false = false := by
  cases h : sl.getD x false with
  | false => rfl
  | true =>
    obtain ⟨j, hj, hj2⟩ := h2 x hxn h
    have e1 : l.idxOf (l.getD j 0) = j := idx_at hg (by omega)
    have e2 : l.idxOf (l.getD k 0) = k := idx_at hg hk
    rw [hj2, ← hx, e2] at e1
    omega
set_option maxHeartbeats 600000 in
set_option maxRecDepth 100000 in
theorem lawAll (w : World) (sv nv : Value) (st : List Int) (M : List (List Bool)) (hs : Ints w sv st) (hM : Grid encB 0 w.heap.size w nv M) :
    Calls Try.prog 6 #[sv, nv] w (LawTrue w) := by
  have HV := Lib.hid hs
  have HM := Lib.hid hM
  obtain ⟨a, cap, rfl, -⟩ := hs
  obtain ⟨a2, cap2, rfl, -⟩ := hM.len
  by_cases h : st.length ≤ 24
  · have hsm : st.length ≤ 1000000 := by omega
    have HF := Lib.hid (few_yes st.length h w)
    have HP := Lib.hid (progOrder w _ _ st M HV.out HM.out hsm)
    have HOF := Lib.hid (ordFacts st M)
    generalize Dep.orderS st M = l at HP HOF
    clear hM
    go_enter Try.func6, Try.ntmps6
    go_wp2_with fail
    refine HF.out.mono ?_
    rintro e w0 ⟨rfl, rfl⟩
    go_wp2_with fail
    refine HP.out.mono ?_
    rintro e w2 ⟨u, rfl, hu, hb2⟩
    have hmk := fun u : World => run_make_bools u st.length hsm
    have HU := Lib.hid hu
    have HB2 := Lib.hid hb2
    obtain ⟨a3, c3, rfl, hc1, hc2, -⟩ := hu.row
    unfold maxLen at hc2
    rw [HOF.out.len] at HU hc1 ⊢
    clear hu hb2 HP HF
    go_wp2_with fail
    go_loopw [27] (fun i wr => SeenAt w2 st.length l i wr) (fun i _ => st.length - (intOf i).toNat)
    case atStart => exact seen_start w2 st.length l hsm
    case round =>
      clear hmk
      obtain ⟨k, sl, hk, rfl, h1, h2, h3⟩ := hrel
      have HH := Lib.hid (And.intro h1 (And.intro h2 h3))
      by_cases hlt : k < st.length
      · have i1 : (k : Int) < (st.length : Int) := by omega
        have hki : (0 : Int) ≤ (k : Int) ∧ (k : Int) < (st.length : Int) := by omega
        obtain ⟨x, hx, hxn⟩ := HOF.out.at hlt
        have hxi : (0 : Int) ≤ (x : Int) ∧ (x : Int) < (st.length : Int) := by omega
        obtain ⟨gl, rfl, -, hgl, hcl, -, -⟩ := HU.out.place 0 hlt
        have cx : wr.cell? ⟨gl, k, none⟩ = some (.int .i64 (x : Int)) := ((h3.cell (p := ⟨gl, k, none⟩) hgl).trans hcl).trans (by rw [hx]; rfl)
        obtain ⟨g9, e9, -, hg9, hcs, hfs, -⟩ := h1.place false hxn
        injection e9 with e9
        injection e9 with e9
        subst e9
        rw [unseen HOF.out.good.1 (by rw [HOF.out.len]; exact hlt) hx hxn h2] at hcs
        replace hcs : wr.cell? ⟨w2.heap.size, x, none⟩ = some (.bool false) := hcs
        have hrow : RowIn encI 0 wr.heap.size wr (.slice (some ⟨gl, 0 + k, none⟩) (st.length - k) (c3 - k)) (l.drop k) := (HU.out.row.all.under h3 (Nat.le_refl _)).drop HOF.out.len.symm k (Nat.le_of_lt hlt)
        rw [Nat.zero_add] at hrow
        have HC := Lib.hid (progReady wr _ _ (l.drop k) M hrow (fun y hy => HOF.out.wf hsm (List.mem_of_mem_drop hy)) (HM.out.under (HB2.out.trans (h3.mono HB2.out.size)) (Nat.le_refl _)) (by rw [List.length_drop, HOF.out.len]; omega))
        have hrl : 0 < (Dep.readyS (l.drop k) M).length := List.length_pos_iff.2 (HOF.out.left k hlt)
        have HN := Lib.hid (fun (w5 : World) hb => SeenAt.next (w5 := w5) hlt hx hxn HH.out.1 HH.out.2.1 HH.out.2.2 hb)
        have q1 : ¬ c3 ≤ k := by omega
        have q2 : ¬ c3 - k = 0 := by omega
        have HCS := Lib.hid (And.intro hcs (And.intro hfs hg9))
        generalize Dep.readyS (l.drop k) M = R at HC hrl
        clear h1 h2 h3 hcl hfs hx hrow
        go_wp2_with fail
        refine HC.out.mono ?_
        rintro e w5 ⟨u5, rfl, h5, hb5⟩
        have HREL := Lib.hid (HN.out w5 hb5)
        have c5 := (hb5.cell (p := ⟨w2.heap.size, x, none⟩) HCS.out.2.2).trans HCS.out.1
        have f5 := (hb5.frozen (p := ⟨w2.heap.size, x, none⟩) HCS.out.2.2).trans HCS.out.2.1
        obtain ⟨a5, c6, rfl, -, -, -, -⟩ := h5.row
        have t5 : ((R.length : Int) == 0) = false := by simp only [beq_eq_false_iff_ne]; omega
        clear h5 hb5 HC HN HCS
        go_wp2_with fail
        go_roundw
        case rel => exact HREL.out
        case measure => simp [intOf]; omega
      · obtain rfl : k = st.length := by omega
        clear h1 h2 h3
        go_wp2_with fail
        refine (alive _).mono ?_
        rintro e w6 ⟨rfl, hb6⟩
        have HB6 := Lib.hid ((HB2.out.trans (HH.out.2.2.mono HB2.out.size)).trans (hb6.mono (Nat.le_trans HB2.out.size HH.out.2.2.size)))
        clear hb6
        go_wp2_with fail
        go_ret
        exact ⟨rfl, HB6.out⟩
  · have HF := Lib.hid (few_no st.length h w)
    clear h hM
    go_enter Try.func6, Try.ntmps6
    go_wp2_with fail
    refine HF.out.mono ?_
    rintro e w0 ⟨rfl, rfl⟩
    go_wp2_with fail
    refine (alive _).mono ?_
    rintro e w6 ⟨rfl, hb6⟩
    go_wp2_with fail
    go_ret
    exact ⟨rfl, hb6⟩
end Go.Proofs.Ytkocfhacfmlmaaa
