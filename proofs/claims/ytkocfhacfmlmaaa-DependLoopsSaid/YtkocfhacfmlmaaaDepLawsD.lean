/-
  LAYER 7's LAWS: DependLoops. By an AI agent.
-/
import Derived.Test.YtkocfhacfmlmaaaDepLawsC
namespace Go.Proofs.Ytkocfhacfmlmaaa
open Go.RowKit

/-- the ring that the law makes -/
def ringR (n i : Nat) : List Bool := (List.replicate n false).set ((i + 1) % n) true
def ringS (n : Nat) : List (List Bool) := (List.range n).map (ringR n)
theorem ringS_length (n : Nat) : (ringS n).length = n := by simp [ringS]
theorem ringS_take {n k : Nat} (hk : k < n) : (ringS n).take (k + 1) = (ringS n).take k ++ [ringR n k] := by
  rw [List.take_succ_eq_append_getElem (by rw [ringS_length]; exact hk)]
  simp [ringS]
theorem ringS_all (n : Nat) : (ringS n).take n = ringS n := List.take_of_length_le (by rw [ringS_length]; exact Nat.le_refl _)
theorem ring_need {n i : Nat} (hi : i < n) : Dep.needS (ringS n) (i : Int) (((i + 1) % n : Nat) : Int) = true := by
  have hm : (i + 1) % n < n := Nat.mod_lt _ (by omega)
  rw [needS_row]
  have e : (ringS n).getD i [] = ringR n i := by simp [ringS, List.getD, hi]
  rw [e]
  unfold ringR
  simp [List.getD, hm]
theorem ring_reach {n i : Nat} (hi : i < n) : ∀ k, Dep.Reach (Dep.NE (Dep.idx n) (ringS n)) (i : Int) (((i + k) % n : Nat) : Int)
  | 0 => by
    rw [Nat.add_zero, Nat.mod_eq_of_lt hi]
    exact .refl _
  | k + 1 => by
    have hm : (i + k) % n < n := Nat.mod_lt _ (by omega)
    have hm2 : ((i + k) % n + 1) % n < n := Nat.mod_lt _ (by omega)
    have h1 := ring_need hm
    have e : ((i + k) % n + 1) % n = (i + (k + 1)) % n := by rw [Nat.mod_add_mod, Nat.add_assoc]
    refine (ring_reach hi k).trans (.single ⟨Dep.mem_idx.2 (by omega), Dep.mem_idx.2 (by rw [← e]; omega), ?_⟩)
    rw [← e]
    exact h1
open Classical in
theorem ring_ready (n : Nat) : Dep.readyS (Dep.idx n) (ringS n) = Dep.idx n := by
  rw [Dep.readyS_of_good (Dep.idx_good n)]
  unfold Dep.rdyL
  rw [List.filter_eq_self]
  intro a ha
  rw [decide_eq_true_eq]
  intro b hb _
  obtain ⟨a0, a1⟩ := Dep.mem_idx.1 ha
  obtain ⟨b0, b1⟩ := Dep.mem_idx.1 hb
  have h := ring_reach (n := n) (i := b.toNat) (by omega) (a.toNat + n - b.toNat)
  have e1 : b.toNat + (a.toNat + n - b.toNat) = a.toNat + n := by omega
  have e2 : (a.toNat + n) % n = a.toNat := by rw [Nat.add_mod_right]; exact Nat.mod_eq_of_lt (by omega)
  rw [e1, e2] at h
  have e3 : ((a.toNat : Nat) : Int) = a := by omega
  have e4 : ((b.toNat : Nat) : Int) = b := by omega
  rw [e3, e4] at h
  exact h
/-- the ring under way -/
def RingAt (w : World) (n : Nat) (vr va i : Value) (wr : World) : Prop :=
  ∃ k : Nat, k ≤ n ∧ i = .int .i64 (k : Int) ∧ OwnGrid encB 4 31 w.heap.size wr vr ((ringS n).take k) ∧ OwnI w.heap.size wr va (Dep.idx k) ∧ Below w.heap.size w wr
/-- one row of it -/
theorem falseRow_set (n r : Nat) : (falseRow n).setIfInBounds r (.bool true) = (((List.replicate n false).set r true).map encB).toArray := by
  unfold falseRow
  rw [List.map_set]
  apply Array.ext'
  simp [encB]
theorem ring_row (wb : World) {n k : Nat} (hn : n ≤ 1000000) :
    OwnRow encB 4 wb.heap.size (wb.alloc (.cells ((falseRow n).setIfInBounds ((k + 1) % n) (.bool true)) 4)) (.slice (some ⟨wb.heap.size, 0, none⟩) n n) (ringR n k) := by
  refine own_block (Nat.le_refl _) (by simp [ringR]) hn ?_
  rw [falseRow_set]
  exact heap_alloc_new _ _
theorem wpList_push_head_at {B sz : Nat} {w : World} {v : Value} {ops : Array Oper} {rest : List Oper} {o : Oper} {a : Act} {Q : Exit → Act → World → Prop} {l : List Hd} (hz : w.heap.size = sz) (hgd : o.guard = none) (s x : Operand) (ho : o.op = .call { callee := .builtin .append, args := #[s, x], argTypes := #[23, 23] })
    (hs : a.eval s = v) (hown : OwnRow encH 31 B w v l) (k : Hd) {ek : Value} (hk : ek = encH k) (hx : a.eval x = .slice (some ⟨sz, 0, none⟩) 1 1) (hlen : l.length + 1 ≤ 1000000000000) (hB : B ≤ w.heap.size)
    (h : ∀ v' w', OwnRow encH 31 B w' v' (l ++ [k]) → w.grownBy w' v.ownBlock → wpList Try.prog ops Q rest (a.put o.dst v') w') : wpList Try.prog ops Q (o :: rest) a (w.alloc (.cells #[ek] 31)) := by
  subst hz
  exact wpList_push_head hgd s x ho hs hown k hk hx hlen hB h
theorem OwnGrid.keepInt {B B' : Nat} {w w' : World} {v va : Value} {M : List (List Bool)} {l : List Int} (h : OwnGrid encB 4 31 B w v M) (ha : OwnI B' w va l) (hg : w.grownBy w' va.ownBlock) : OwnGrid encB 4 31 B w' v M := by
  obtain ⟨hs, h1, h2, h3⟩ := h
  refine ⟨hs, h1.stay fun j hj => hg.block j (h1.blk j hj).2 (fun e => h1.apart ha (by decide) hj e.symm), h2, fun i h l e1 e2 => ?_⟩
  have h4 := h3 i h l e1 e2
  exact h4.stay fun j hj => hg.block j (h4.blk j hj).2 (fun e => h4.apart ha (by decide) hj e.symm)
/-- of two that follow each other -/
theorem OrdFacts.next {n : Nat} {st l : List Int} (h : OrdFacts n st [] l) {k : Nat} (hk : k + 1 < n) : Dep.bet st (l.getD (k + 1) 0) (l.getD k 0) = false ∧ l.getD k 0 ≠ l.getD (k + 1) 0 := by
  refine ⟨h.first k (by omega) _ ?_, fun e => ?_⟩
  · rw [Dep.readyS_nil (Dep.drop_good h.good k)]
    have e1 : l.getD (k + 1) 0 = (l.drop k).getD 1 0 := by simp [List.getD, List.getElem?_drop]
    rw [e1]
    exact getD_mem (by rw [List.length_drop, h.len]; omega)
  · have := place_one h.good (by rw [h.len]; omega) (by rw [h.len]; omega) e
    omega
set_option maxHeartbeats 1500000 in
set_option maxRecDepth 100000 in
theorem lawLoops (w : World) (sv : Value) (st : List Int) (hs : Ints w sv st) :
    Calls Try.prog 8 #[sv] w (LawTrue w) := by
  have HV := Lib.hid hs
  obtain ⟨a, cap, rfl, -⟩ := hs
  by_cases h : st.length ≤ 24
  · have hsm : st.length ≤ 1000000 := by omega
    have HF := Lib.hid (few_yes st.length h w)
    clear h
    go_enter Try.func8, Try.ntmps8
    go_wp2_with fail
    refine HF.out.mono ?_
    rintro e w0 ⟨rfl, rfl⟩
    go_wp2_with fail
    go_loopw [4, 5, 21] (fun vr va i wr => RingAt w0 st.length vr va i wr) (fun _ _ i _ => st.length - (intOf i).toNat)
    case atStart => exact ⟨0, Nat.zero_le _, rfl, ⟨[], OwnRow.nil _ _ _ _, rfl, fun i h l e1 => (by simp at e1)⟩, OwnRow.nil _ _ _ _, Below.refl _ _⟩
    case round =>
      revert wr
      intro wb hrel
      obtain ⟨k, hk, rfl, hgr, hall, hb⟩ := hrel
      have HG := Lib.hid hgr
      have HA := Lib.hid hall
      have HB := Lib.hid hb
      by_cases hlt : k < st.length
      · have i1 : (k : Int) < (st.length : Int) := by omega
        have hki : (0 : Int) ≤ (k : Int) ∧ (k : Int) < (st.length : Int) := by omega
        have HLT := Lib.hid hlt
        have hmk := fun u : World => run_make_bools u st.length hsm
        have hn0 : ¬ (st.length : Int) = 0 := by omega
        obtain ⟨rm, hrm0⟩ : ∃ rm, rm = (k + 1) % st.length := ⟨_, rfl⟩
        have hrmn : rm < st.length := by rw [hrm0]; exact Nat.mod_lt _ (by omega)
        have hrm : ((k : Int) + 1) % (st.length : Int) = (rm : Int) := by rw [hrm0]; push_cast; rfl
        have hr1 := ring_row wb (n := st.length) (k := k) hsm
        rw [← hrm0] at hr1
        have hr2 := below_alloc1 wb (.cells ((falseRow st.length).setIfInBounds rm (.bool true)) 4)
        have hrmi : (0 : Int) ≤ (rm : Int) ∧ (rm : Int) < (st.length : Int) := by omega
        have hal : OwnRow encB 4 wb.heap.size (wb.alloc (.cells (falseRow st.length) 4)) (.slice (some ⟨wb.heap.size, 0, none⟩) st.length st.length) (List.replicate st.length false) := own_block (Nat.le_refl _) (by simp) hsm (heap_alloc_new _ _)
        obtain ⟨g9, e9, -, -, hcs, hfs, -⟩ := hal.place false hrmn
        injection e9 with e9
        injection e9 with e9
        subst e9
        obtain ⟨y, hcy⟩ : ∃ y, (wb.alloc (.cells (falseRow st.length) 4)).cell? ⟨wb.heap.size, rm, none⟩ = some y := ⟨_, hcs⟩
        obtain ⟨hs, g1, g2, g3⟩ := HG.out.below hr2 (Nat.le_refl _)
        have HGR := Lib.hid (And.intro g1 (And.intro g2 g3))
        have HB3 := Lib.hid (HB.out.trans (hr2.mono HB.out.size))
        have HSZ3 := Lib.hid HB3.out.size
        have HZ := Lib.hid (show (wb.alloc (.cells ((falseRow st.length).setIfInBounds rm (.bool true)) 4)).heap.size = wb.heap.size + 1 by simp)
        have HR1 := Lib.hid (hr1.mono (show w0.heap.size ≤ wb.heap.size from HB.out.size))
        have HA1 := Lib.hid (HA.out.below hr2 (Nat.le_refl _))
        have hhl : hs.length ≤ st.length := by rw [g2]; simp; omega
        clear hgr hall hb hr1 hr2 hal hcs g1 g2 g3 hrm0
        go_wp2_with (refine wpList_push_head_at HZ.out rfl (.tmp 32) (.tmp 34) rfl rfl HGR.out.1 (some ⟨wb.heap.size, 0, none⟩, st.length, st.length) rfl rfl (by omega) HSZ3.out ?_)
        intro v6 w6 ho6 hg6
        have HG6 : Hid (OwnGrid encB 4 31 w0.heap.size w6 v6 ((ringS st.length).take (k + 1))) := Lib.hid (by rw [ringS_take HLT.out]; exact OwnGrid.push (hd := (some ⟨wb.heap.size, 0, none⟩, st.length, st.length)) (by decide) HGR.out.1 HGR.out.2.1 HGR.out.2.2 HR1.out ho6 hg6)
        have HA6 := Lib.hid (HA1.out.stay fun j hj => hg6.block j (HA1.out.blk j hj).2 (fun e => HGR.out.1.apart HA1.out (by decide) e.symm hj))
        have HB6 := Lib.hid (HB3.out.grown hg6 HSZ3.out (fun j hj => (HGR.out.1.blk j hj).1))
        have hil := Dep.idx_length k
        clear ho6 hg6
        go_wp2_with (refine wpList_push_int_at rfl (.tmp 36) (.tmp 38) rfl rfl HA6.out (k : Int) rfl rfl (by omega) HB6.out.size ?_)
        intro v9 w9 ho9 hg9 hloc
        have HREL : Hid (RingAt w0 st.length v6 v9 (.int .i64 ((k : Int) + 1)) w9) := Lib.hid ⟨k + 1, HLT.out, rfl, HG6.out.keepInt HA6.out hg9, by rw [Dep.idx_succ]; exact ho9, HB6.out.grown hg9 HB6.out.size (fun j hj => (HA6.out.blk j hj).1)⟩
        clear ho9 hg9 hloc
        go_wp2_with fail
        go_roundw
        case rel => exact HREL.out
        case measure => simp [intOf]; omega
      · obtain rfl : k = st.length := by omega
        rw [ringS_all] at hgr
        have HP := Lib.hid (progReady wb _ _ (Dep.idx st.length) (ringS st.length) hall.row.all (fun x hx => by obtain ⟨h1, h2⟩ := Dep.mem_idx.1 hx; exact WalkArith.wf_i64 (by omega)) hgr.grid.all (by rw [Dep.idx_length]; exact hsm))
        rw [ring_ready] at HP
        obtain ⟨au, cu, rfl, -, -⟩ := hgr.grid.len
        obtain ⟨aa, ca, rfl, -, -, -, -⟩ := hall.row
        have hil := Dep.idx_length st.length
        rw [hil] at HP HA ⊢
        clear hil hgr hall hb hlt hk HG
        go_wp2_with fail
        refine HP.out.mono ?_
        rintro e w2 ⟨u, rfl, hu, hb2⟩
        have HS := Lib.hid (lawSame _ _ _ _ w2 hu.row.all (HA.out.row.all.under hb2 (Nat.le_refl _)))
        rw [sameI_self] at HS
        have HB2 := Lib.hid (HB.out.trans (hb2.mono HB.out.size))
        obtain ⟨a3, c3, rfl, -, -, -, -⟩ := hu.row
        clear hu hb2 HP
        go_wp2_with fail
        refine HS.out.mono ?_
        rintro e w3 ⟨rfl, hb3⟩
        have HB3 := Lib.hid (HB2.out.trans (hb3.mono HB2.out.size))
        have HQ := Lib.hid (progOrder w3 _ nilS st [] (HV.out.under HB3.out (Nat.le_refl _)) (Grid.nil _ _ _ _) hsm)
        have HOF := Lib.hid (ordFacts st [])
        generalize Dep.orderS st [] = l at HQ HOF
        clear hb3 HS
        go_wp2_with fail
        refine HQ.out.mono ?_
        rintro e w4 ⟨u4, rfl, hu4, hb4⟩
        have HU := Lib.hid hu4
        have HB4 := Lib.hid (HB3.out.trans (hb4.mono HB3.out.size))
        obtain ⟨a4, c4, rfl, hc1, hc2, -, -⟩ := hu4.row
        unfold maxLen at hc2
        rw [HOF.out.len] at HU hc1 ⊢
        clear hu4 hb4 HQ
        go_wp2_with fail
        go_loopw [9] (fun i wr => ∃ k : Nat, k ≤ st.length ∧ i = .int .i64 ((k : Int) + 1) ∧ Below w4.heap.size w4 wr) (fun i _ => st.length + 1 - (intOf i).toNat)
        case atStart => exact ⟨0, Nat.zero_le _, rfl, Below.refl _ _⟩
        case round =>
          obtain ⟨k, hk, rfl, hb⟩ := hrel
          have HBM := Lib.hid hb
          by_cases hlt : k + 1 < st.length
          · have i1 : (k : Int) + 1 < (st.length : Int) := by omega
            have hki : (0 : Int) ≤ (k : Int) + 1 ∧ (k : Int) + 1 < (st.length : Int) := by omega
            have hki0 : (0 : Int) ≤ (k : Int) ∧ (k : Int) < (st.length : Int) := by omega
            have hk0 : k < st.length := by omega
            obtain ⟨x, hx, hxn⟩ := HOF.out.at hk0
            obtain ⟨y, hy, hyn⟩ := HOF.out.at hlt
            obtain ⟨hbet, hne⟩ := HOF.out.next hlt
            rw [hx, hy] at hbet hne
            obtain ⟨gl, rfl, -, hgl, hcx, -, -⟩ := HU.out.place 0 hk0
            obtain ⟨g8, e8, -, -, hcy, -, -⟩ := HU.out.place 0 hlt
            injection e8 with e8
            injection e8 with e8
            subst e8
            have cx : wr.cell? ⟨gl, k, none⟩ = some (.int .i64 (x : Int)) := ((hb.cell (p := ⟨gl, k, none⟩) hgl).trans hcx).trans (by rw [hx]; rfl)
            have cy : wr.cell? ⟨gl, k + 1, none⟩ = some (.int .i64 (y : Int)) := ((hb.cell (p := ⟨gl, k + 1, none⟩) hgl).trans hcy).trans (by rw [hy]; rfl)
            have hVr := HV.out.under (HB4.out.trans (hb.mono HB4.out.size)) (Nat.le_refl _)
            obtain ⟨a7, c7, e7, -, -, -, hc7⟩ := hVr
            obtain ⟨rfl, -, rfl⟩ := sl_eq e7
            obtain ⟨b7, o7, rfl, -, -, -, hs1⟩ := hc7 y _ (getD_get (d := 0) hyn)
            obtain ⟨b8, o8, e8, -, -, -, hs2⟩ := hc7 x _ (getD_get (d := 0) hxn)
            injection e8 with e8
            injection e8 with e8 e9
            subst e8 e9
            replace hs1 : wr.cell? ⟨b7, o7 + y, none⟩ = some (.int .i64 (st.getD y 0)) := hs1
            replace hs2 : wr.cell? ⟨b7, o7 + x, none⟩ = some (.int .i64 (st.getD x 0)) := hs2
            have hbet2 : ¬ (st.getD y 0 < st.getD x 0 ∨ (st.getD y 0 = st.getD x 0 ∧ (y : Int) < (x : Int))) := of_decide_eq_false hbet
            have hyi : (0 : Int) ≤ (y : Int) ∧ (y : Int) < (st.length : Int) := by omega
            have hxi : (0 : Int) ≤ (x : Int) ∧ (x : Int) < (st.length : Int) := by omega
            have d1 : decide ((x : Int) < 0) = false := decide_eq_false (by omega)
            have d2 : decide ((y : Int) < 0) = false := decide_eq_false (by omega)
            have d3 : decide (st.length ≤ x) = false := decide_eq_false (by omega)
            have d4 : decide (st.length ≤ y) = false := decide_eq_false (by omega)
            have d5 : decide (st.getD y 0 < st.getD x 0) = false := decide_eq_false (fun h => hbet2 (.inl h))
            by_cases hse : st.getD x 0 = st.getD y 0
            · have d6 : (st.getD x 0 == st.getD y 0) = true := by rw [hse]; simp
              have d7 : decide (y ≤ x) = false := decide_eq_false (fun h => hbet2 (.inr ⟨hse.symm, by omega⟩))
              generalize st.getD y 0 = sy at *
              generalize st.getD x 0 = sx at *
              clear hb hcx hcy hx hy hc7 e7 hbet hbet2 hse hne
              go_wp2_with fail
              go_quiet (fail)
              go_wp2_with fail
              go_quiet (fail)
              go_wp2_with fail
              go_roundw
              case rel => exact ⟨k + 1, by omega, by go_num, below_drewN HBM.out _⟩
              case measure => simp [intOf]; omega
            · have d6 : (st.getD x 0 == st.getD y 0) = false := by simp only [beq_eq_false_iff_ne]; exact hse
              generalize st.getD y 0 = sy at *
              generalize st.getD x 0 = sx at *
              clear hb hcx hcy hx hy hc7 e7 hbet hbet2 hse hne
              go_wp2_with fail
              go_quiet (fail)
              go_wp2_with fail
              go_quiet (fail)
              go_wp2_with fail
              go_roundw
              case rel => exact ⟨k + 1, by omega, by go_num, below_drewN HBM.out _⟩
              case measure => simp [intOf]; omega
          · have i1 : ¬ (k : Int) + 1 < (st.length : Int) := by omega
            clear hb
            go_wp2_with fail
            refine (alive _).mono ?_
            rintro e w6 ⟨rfl, hb6⟩
            have HB6 := Lib.hid ((HB4.out.trans (HBM.out.mono HB4.out.size)).trans (hb6.mono (Nat.le_trans HB4.out.size HBM.out.size)))
            clear hb6
            go_wp2_with fail
            go_ret
            exact ⟨rfl, HB6.out⟩
  · have HF := Lib.hid (few_no st.length h w)
    clear h
    go_enter Try.func8, Try.ntmps8
    go_wp2_with fail
    refine HF.out.mono ?_
    rintro e w0 ⟨rfl, rfl⟩
    go_wp2_with fail
    refine (alive _).mono ?_
    rintro e w6 ⟨rfl, hb6⟩
    go_wp2_with fail
    go_ret
    exact ⟨rfl, hb6⟩
end Go.Proofs.Ytkocfhacfmlmaaa
