/-
  LAYER 7's LAWS: DependOrders. By an AI agent.
-/
import Derived.Test.YtkocfhacfmlmaaaDepLawsB
namespace Go.Proofs.Ytkocfhacfmlmaaa
open Go.RowKit

/-- the matrix that the law makes: of each row what lies behind the diagonal -/
def upR (M : List (List Bool)) (n i : Nat) : List Bool := (List.range n).map fun j => decide (i < j) && Dep.needS M (i : Int) (j : Int)
def upS (M : List (List Bool)) (n : Nat) : List (List Bool) := (List.range n).map fun i => upR M n i
theorem upS_up {M : List (List Bool)} {n : Nat} (a b : Int) (h : Dep.needS (upS M n) a b = true) : a < b := by
  unfold Dep.needS at h
  simp only [Bool.and_eq_true, decide_eq_true_eq] at h
  obtain ⟨⟨h1, h2⟩, h3⟩ := h
  by_cases ha : a.toNat < n
  · have e : (upS M n).getD a.toNat [] = upR M n a.toNat := by simp [upS, List.getD, ha]
    rw [e] at h3
    by_cases hb : b.toNat < n
    · have e2 : (upR M n a.toNat).getD b.toNat false = (decide (a.toNat < b.toNat) && Dep.needS M ((a.toNat : Nat) : Int) ((b.toNat : Nat) : Int)) := by simp [upR, List.getD, hb]
      rw [e2, Bool.and_eq_true, decide_eq_true_eq] at h3
      omega
    · have e2 : (upR M n a.toNat).getD b.toNat false = false := by rw [List.getD_eq_getElem?_getD, List.getElem?_eq_none (by simp [upR]; omega)]; rfl
      rw [e2] at h3
      cases h3
  · have e : (upS M n).getD a.toNat [] = [] := by rw [List.getD_eq_getElem?_getD, List.getElem?_eq_none (by simp [upS]; omega)]; rfl
    rw [e] at h3
    cases h3
theorem upS_length (M : List (List Bool)) (n : Nat) : (upS M n).length = n := by simp [upS]
theorem upS_take {M : List (List Bool)} {n k : Nat} (hk : k < n) : (upS M n).take (k + 1) = (upS M n).take k ++ [upR M n k] := by
  rw [List.take_succ_eq_append_getElem (by rw [upS_length]; exact hk)]
  simp [upS]
theorem upS_all (M : List (List Bool)) (n : Nat) : (upS M n).take n = upS M n := List.take_of_length_le (by rw [upS_length]; exact Nat.le_refl _)
/-- one row of it under way -/
def UpRow (w0 : World) (M : List (List Bool)) (n k : Nat) (i : Value) (wr : World) : Prop :=
  ∃ (j : Nat) (r : List Bool), k + 1 ≤ j ∧ j ≤ n ∧ i = .int .i64 (j : Int) ∧ OwnRow encB 4 w0.heap.size wr (.slice (some ⟨w0.heap.size, 0, none⟩) n n) r ∧ (∀ c, c < n → r.getD c false = (decide (k < c) && decide (c < j) && Dep.needS M (k : Int) (c : Int))) ∧ Below w0.heap.size w0 wr
theorem upRow_start (w0 : World) (M : List (List Bool)) {n k : Nat} (hk : k < n) (hn : n ≤ 1000000) : UpRow w0 M n k (.int .i64 ((k : Int) + 1)) (w0.alloc (.cells (falseRow n) 4)) :=
  ⟨k + 1, List.replicate n false, Nat.le_refl _, hk, rfl, own_block (Nat.le_refl _) (by simp) hn (heap_alloc_new _ _), fun c _ => (by
    have := congrFun (nth_falses n) c
    unfold nth at this
    rw [this]
    by_cases e : k < c
    · simp [show ¬ c < k + 1 by omega]
    · simp [e]), below_alloc1 _ _⟩
theorem UpRow.next {w0 wr : World} {M : List (List Bool)} {n k j : Nat} {r : List Bool} (h0 : k + 1 ≤ j) (hj : j < n) (h1 : OwnRow encB 4 w0.heap.size wr (.slice (some ⟨w0.heap.size, 0, none⟩) n n) r)
    (h2 : ∀ c, c < n → r.getD c false = (decide (k < c) && decide (c < j) && Dep.needS M (k : Int) (c : Int))) (h3 : Below w0.heap.size w0 wr) :
    UpRow w0 M n k (.int .i64 ((j : Int) + 1)) (wr.setCell ⟨w0.heap.size, j, none⟩ (.bool (Dep.needS M (k : Int) (j : Int)))) := by
  obtain ⟨g, e, _, _, _, _, h6⟩ := h1.place false hj
  obtain rfl : w0.heap.size = g := by injection e with e; injection e
  have hl := h1.len
  refine ⟨j + 1, r.set j (Dep.needS M (k : Int) (j : Int)), by omega, hj, rfl, (h6 _).1, fun c hc => ?_, h3.setCell (Nat.le_refl _) _⟩
  by_cases e : c = j
  · subst e
    have e1 : (r.set c (Dep.needS M (k : Int) (c : Int))).getD c false = Dep.needS M (k : Int) (c : Int) := by simp [List.getD, ← hl, hc]
    rw [e1]
    simp [show k < c by omega]
  · have e1 : (r.set j (Dep.needS M (k : Int) (j : Int))).getD c false = r.getD c false := by simp [List.getD, Ne.symm e]
    rw [e1, h2 c hc]
    have e2 : decide (c < j) = decide (c < j + 1) := by
      by_cases h : c < j
      · simp [h, show c < j + 1 by omega]
      · simp [h, show ¬ c < j + 1 by omega]
    rw [e2]
theorem upRow_end {w0 wr : World} {M : List (List Bool)} {n k : Nat} {r : List Bool} (h1 : OwnRow encB 4 w0.heap.size wr (.slice (some ⟨w0.heap.size, 0, none⟩) n n) r)
    (h2 : ∀ c, c < n → r.getD c false = (decide (k < c) && decide (c < n) && Dep.needS M (k : Int) (c : Int))) : r = upR M n k := by
  have hl := h1.len
  refine List.ext_getElem (by simp [upR, hl]) fun c hc1 hc2 => ?_
  have := h2 c (by omega)
  have e : r.getD c false = r[c] := by simp [List.getD, hc1]
  rw [← e, this]
  simp [upR, show c < n by omega]
/-- the law's matrix under way -/
def UpAt (w : World) (M : List (List Bool)) (n : Nat) (vu i : Value) (wr : World) : Prop :=
  ∃ k : Nat, k ≤ n ∧ i = .int .i64 (k : Int) ∧ OwnGrid encB 4 31 w.heap.size wr vu ((upS M n).take k) ∧ Below w.heap.size w wr
/-- 'g = append(g, row)' -/
theorem OwnGrid.push {α : Type} {enc : α → Value} {e t : TypeId} {B : Nat} {w w' : World} {v v' : Value} {M : List (List α)} {hs : List Hd} {hd : Hd} {r : List α} (hne : t ≠ e) (h1 : OwnRow encH t B w v hs) (h2 : hs.length = M.length)
    (h3 : ∀ (i : Nat) h l, hs[i]? = some h → M[i]? = some l → OwnRow enc e B w (encH h) l) (hr : OwnRow enc e B w (encH hd) r) (h4 : OwnRow encH t B w' v' (hs ++ [hd])) (hg : w.grownBy w' v.ownBlock) : OwnGrid enc e t B w' v' (M ++ [r]) := by
  have hst : ∀ {u : Value} {l : List α}, OwnRow enc e B w u l → OwnRow enc e B w' u l := fun {u l} ho => ho.stay fun j hj => hg.block j (ho.blk j hj).2 (fun e1 => h1.apart ho hne e1.symm hj)
  refine ⟨hs ++ [hd], h4, by simp [h2], fun i h l e1 e2 => ?_⟩
  by_cases hi : i < hs.length
  · rw [List.getElem?_append_left hi] at e1
    rw [List.getElem?_append_left (by omega)] at e2
    exact hst (h3 i h l e1 e2)
  · rw [List.getElem?_append_right (by omega)] at e1
    rw [List.getElem?_append_right (by omega)] at e2
    have hi2 : i - hs.length = 0 := by
      have := (List.getElem?_eq_some_iff.1 e1).1
      simp at this
      omega
    rw [hi2] at e1
    rw [show i - M.length = 0 by omega] at e2
    obtain rfl := Option.some.inj e1
    obtain rfl := Option.some.inj e2
    exact hst hr
theorem wpList_push_head {B : Nat} {w : World} {v : Value} {ops : Array Oper} {rest : List Oper} {o : Oper} {a : Act} {Q : Exit → Act → World → Prop} {l : List Hd} (hgd : o.guard = none) (s x : Operand) (ho : o.op = .call { callee := .builtin .append, args := #[s, x], argTypes := #[23, 23] })
    (hs : a.eval s = v) (hown : OwnRow encH 31 B w v l) (k : Hd) {ek : Value} (hk : ek = encH k) (hx : a.eval x = .slice (some ⟨w.heap.size, 0, none⟩) 1 1) (hlen : l.length + 1 ≤ 1000000000000) (hB : B ≤ w.heap.size)
    (h : ∀ v' w', OwnRow encH 31 B w' v' (l ++ [k]) → w.grownBy w' v.ownBlock → wpList Try.prog ops Q rest (a.put o.dst v') w') : wpList Try.prog ops Q (o :: rest) a (w.alloc (.cells #[ek] 31)) :=
  wpList_push_row hgd s x ho infoSB rfl Try.underlying23 (fun _ => rfl) hs hown k hk hx (by omega) (by omega) hB h
set_option maxHeartbeats 3000000 in
set_option maxRecDepth 100000 in
theorem lawOrders (w : World) (sv nv : Value) (st : List Int) (M : List (List Bool)) (hs : Ints w sv st) (hM : Grid encB 0 w.heap.size w nv M) :
    Calls Try.prog 7 #[sv, nv] w (LawTrue w) := by
  have HV := Lib.hid hs
  have HM := Lib.hid hM
  obtain ⟨a, cap, rfl, -⟩ := hs
  obtain ⟨a2, cap2, rfl, -⟩ := hM.len
  clear hM
  by_cases h : st.length ≤ 24
  · have hsm : st.length ≤ 1000000 := by omega
    have HF := Lib.hid (few_yes st.length h w)
    clear h
    go_enter Try.func7, Try.ntmps7
    go_wp2_with fail
    refine HF.out.mono ?_
    rintro e w0 ⟨rfl, rfl⟩
    go_wp2_with fail
    go_loopw [5, 23] (fun vu i wr => UpAt w0 M st.length vu i wr) (fun _ i _ => st.length - (intOf i).toNat)
    case atStart => exact ⟨0, Nat.zero_le _, rfl, ⟨[], OwnRow.nil _ _ _ _, rfl, fun i h l e1 => (by simp at e1)⟩, Below.refl _ _⟩
    case round =>
      revert wr
      intro wb hrel
      obtain ⟨k, hk, rfl, hgr, hb⟩ := hrel
      have HG := Lib.hid hgr
      have HB := Lib.hid hb
      by_cases hlt : k < st.length
      · have i1 : (k : Int) < (st.length : Int) := by omega
        have hki : (0 : Int) ≤ (k : Int) ∧ (k : Int) < (st.length : Int) := by omega
        have HLT := Lib.hid hlt
        have hmk := fun u : World => run_make_bools u st.length hsm
        have HST := Lib.hid (upRow_start wb M hlt hsm)
        clear hgr hb
        go_wp2_with fail
        go_loopw [8] (fun i wr => UpRow wb M st.length k i wr) (fun i _ => st.length - (intOf i).toNat)
        case atStart => exact HST.out
        case round =>
          clear HST hmk
          obtain ⟨j, r, hj0, hj, rfl, h1, h2, h3⟩ := hrel
          have HH := Lib.hid (And.intro h1 (And.intro h2 h3))
          by_cases hlt2 : j < st.length
          · have i2 : (j : Int) < (st.length : Int) := by omega
            have hji : (0 : Int) ≤ (j : Int) ∧ (j : Int) < (st.length : Int) := by omega
            obtain ⟨g9, e9, -, hg9, hcs, hfs, -⟩ := h1.place false hlt2
            injection e9 with e9
            injection e9 with e9
            subst e9
            obtain ⟨y, hcy⟩ : ∃ y, wr.cell? ⟨wb.heap.size, j, none⟩ = some y := ⟨_, hcs⟩
            have HN := Lib.hid (lawNeed wr _ M (k : Int) (j : Int) (by omega) (by omega) (HM.out.under (HB.out.trans (h3.mono HB.out.size)) (Nat.le_refl _)))
            have HREL := Lib.hid (UpRow.next hj0 hlt2 h1 h2 h3)
            generalize Dep.needS M (k : Int) (j : Int) = bb at HN HREL
            clear h1 h2 h3 hcs
            go_wp2_with fail
            refine HN.out.mono ?_
            rintro e w9 ⟨rfl, rfl⟩
            go_wp2_with fail
            go_roundw
            case rel => exact HREL.out
            case measure => simp [intOf]; omega
          · obtain rfl : j = st.length := by omega
            have hr := upRow_end h1 h2
            subst hr
            obtain ⟨hs, g1, g2, g3⟩ := HG.out.below h3 (Nat.le_refl _)
            have HGR := Lib.hid (And.intro g1 (And.intro g2 g3))
            have HB3 := Lib.hid (HB.out.trans (h3.mono HB.out.size))
            have hsz3 := HB3.out.size
            have HR1 := Lib.hid (h1.mono (show w0.heap.size ≤ wb.heap.size from HB.out.size))
            have hhl : hs.length ≤ st.length := by rw [g2]; simp; omega
            clear h1 h2 h3 g2 g3
            go_wp2_with (refine wpList_push_head rfl (.tmp 44) (.tmp 46) rfl rfl g1 (some ⟨wb.heap.size, 0, none⟩, st.length, st.length) rfl rfl (by omega) hsz3 ?_)
            intro v6 w6 ho6 hg6
            have HREL : Hid (UpAt w0 M st.length v6 (.int .i64 ((k : Int) + 1)) w6) := Lib.hid ⟨k + 1, HLT.out, rfl, by rw [upS_take HLT.out]; exact OwnGrid.push (hd := (some ⟨wb.heap.size, 0, none⟩, st.length, st.length)) (by decide) HGR.out.1 HGR.out.2.1 HGR.out.2.2 HR1.out ho6 hg6, HB3.out.grown hg6 hsz3 (fun j hj => (HGR.out.1.blk j hj).1)⟩
            clear g1 ho6 hg6
            go_wp2_with fail
            go_roundw
            case rel => exact HREL.out
            case measure => simp [intOf]; omega
      · obtain rfl : k = st.length := by omega
        rw [upS_all] at hgr HG
        have HP := Lib.hid (progOrder wb _ _ st (upS M st.length) (HV.out.under hb (Nat.le_refl _)) hgr.grid.all hsm)
        obtain ⟨au, cu, rfl, -, -⟩ := hgr.grid.len
        have HOF := Lib.hid (ordFacts st (upS M st.length))
        have HAF := Lib.hid (fun (i : Nat) (hi : i < st.length) (y : Int) hy => Dep.orderS_after (st := st) (M := upS M st.length) upS_up hi (y := y) hy)
        generalize Dep.orderS st (upS M st.length) = l at HP HOF HAF
        clear hgr hb hlt hk
        go_wp2_with fail
        refine HP.out.mono ?_
        rintro e w2 ⟨u, rfl, hu, hb2⟩
        have HU := Lib.hid hu
        have HB2 := Lib.hid (HB.out.trans (hb2.mono HB.out.size))
        have HGU := Lib.hid (HG.out.grid.all.under hb2 (Nat.le_refl _))
        obtain ⟨a3, c3, rfl, hc1, hc2, -⟩ := hu.row
        unfold maxLen at hc2
        rw [HOF.out.len] at HU hc1 ⊢
        clear hu hb2 HP HF HG
        go_wp2_with fail
        go_loopw [59] (fun i wr => ∃ k : Nat, k ≤ st.length ∧ i = .int .i64 (k : Int) ∧ Below w2.heap.size w2 wr) (fun i _ => st.length - (intOf i).toNat)
        case atStart => exact ⟨0, Nat.zero_le _, rfl, Below.refl _ _⟩
        case round =>
          revert wr
          intro wc hrel
          obtain ⟨k, hk, rfl, hb⟩ := hrel
          have HBC := Lib.hid hb
          by_cases hlt : k < st.length
          · have i1 : (k : Int) < (st.length : Int) := by omega
            have hki : (0 : Int) ≤ (k : Int) ∧ (k : Int) < (st.length : Int) := by omega
            obtain ⟨x, hx, hxn⟩ := HOF.out.at hlt
            have HX := Lib.hid hx
            have hxi : (0 : Int) ≤ (x : Int) ∧ (x : Int) < (st.length : Int) := by omega
            obtain ⟨gl, rfl, -, hgl, hcl, -, -⟩ := HU.out.place 0 hlt
            have cx : wc.cell? ⟨gl, k, none⟩ = some (.int .i64 (x : Int)) := ((hb.cell (p := ⟨gl, k, none⟩) hgl).trans hcl).trans (by rw [hx]; rfl)
            have q1 : ¬ c3 < k + 1 := by omega
            by_cases hq : c3 - (k + 1) = 0
            · have q2 : c3 ≤ k + 1 := by omega
              clear hb hcl hx
              go_wp2_with fail
              go_loopw [69] (fun i wr => ∃ m : Nat, m ≤ st.length - (k + 1) ∧ i = .int .i64 (m : Int) ∧ Below wc.heap.size wc wr) (fun i _ => st.length - (k + 1) - (intOf i).toNat)
              case atStart => exact ⟨0, Nat.zero_le _, rfl, Below.refl _ _⟩
              case round =>
                obtain ⟨m, hm, rfl, hb⟩ := hrel
                have HBR := Lib.hid hb
                have hnw := HBC.out.trans (hb.mono HBC.out.size)
                by_cases hlt2 : m < st.length - (k + 1)
                · exfalso; omega
                · obtain rfl : m = st.length - (k + 1) := by omega
                  have hrow : RowIn encI 0 wr.heap.size wr (.slice (some ⟨gl, 0 + k, none⟩) (st.length - k) (c3 - k)) (l.drop k) := (HU.out.row.all.under hnw (Nat.le_refl _)).drop HOF.out.len.symm k (Nat.le_of_lt hlt)
                  rw [Nat.zero_add] at hrow
                  have HC := Lib.hid (progReady wr _ _ (l.drop k) (upS M st.length) hrow (fun y hy => HOF.out.wf hsm (List.mem_of_mem_drop hy)) (HGU.out.under hnw (Nat.le_refl _)) (by rw [List.length_drop, HOF.out.len]; omega))
                  have HFI := Lib.hid (HOF.out.first k hlt)
                  have HSUB : Hid (∀ y, y ∈ Dep.readyS (l.drop k) (upS M st.length) → 0 ≤ y ∧ y < (st.length : Int)) := Lib.hid fun y hy => by
                    rw [Dep.readyS_of_good (Dep.drop_good HOF.out.good k)] at hy
                    exact HOF.out.range y (List.mem_of_mem_drop (Dep.mem_rdyL.1 hy).1)
                  have hRl : (Dep.readyS (l.drop k) (upS M st.length)).length ≤ 1000000 := Nat.le_trans (Dep.readyS_length _ _) (by rw [List.length_drop, HOF.out.len]; omega)
                  have q3 : ¬ c3 ≤ k := by omega
                  have q4 : ¬ c3 - k = 0 := by omega
                  have HWR := Lib.hid hnw
                  generalize Dep.readyS (l.drop k) (upS M st.length) = R at HC HFI HSUB hRl
                  clear hb hnw hrow
                  go_wp2_with fail
                  refine HC.out.mono ?_
                  rintro e w5 ⟨u5, rfl, h5, hb5⟩
                  have HR5 := Lib.hid h5
                  have HB5 := Lib.hid (HWR.out.trans (hb5.mono HWR.out.size))
                  have HB5C := Lib.hid (HBR.out.trans (hb5.mono HBR.out.size))
                  obtain ⟨a5, c5, rfl, hd1, hd2, -, -⟩ := h5.row
                  unfold maxLen at hd2
                  clear h5 hb5 HC
                  go_wp2_with fail
                  go_loopw [84] (fun i wr => ∃ m : Nat, m ≤ R.length ∧ i = .int .i64 (m : Int) ∧ Below w5.heap.size w5 wr) (fun i _ => R.length - (intOf i).toNat)
                  case atStart => exact ⟨0, Nat.zero_le _, rfl, Below.refl _ _⟩
                  case round =>
                    obtain ⟨m, hm, rfl, hb⟩ := hrel
                    have HBM := Lib.hid hb
                    by_cases hlt3 : m < R.length
                    · have i4 : (m : Int) < (R.length : Int) := by omega
                      have hmi : (0 : Int) ≤ (m : Int) ∧ (m : Int) < (R.length : Int) := by omega
                      obtain ⟨g5, rfl, -, hg5, hcy, -, -⟩ := HR5.out.place 0 hlt3
                      obtain ⟨hy0, hy1⟩ := HSUB.out _ (getD_mem (d := 0) hlt3)
                      obtain ⟨y, hy⟩ : ∃ y : Nat, R.getD m 0 = (y : Int) := ⟨(R.getD m 0).toNat, by omega⟩
                      have hbet := HFI.out _ (getD_mem (d := 0) hlt3)
                      rw [hy, HX.out] at hbet
                      rw [hy] at hy0 hy1
                      have hyn : y < st.length := by omega
                      have cy : wr.cell? ⟨g5, m, none⟩ = some (.int .i64 (y : Int)) := ((hb.cell (p := ⟨g5, m, none⟩) hg5).trans hcy).trans (by rw [hy]; rfl)
                      have hVr := HV.out.under (HB2.out.trans ((HB5.out.trans (hb.mono HB5.out.size)).mono HB2.out.size)) (Nat.le_refl _)
                      obtain ⟨a7, c7, e7, -, -, -, hc7⟩ := hVr
                      obtain ⟨rfl, -, rfl⟩ := sl_eq e7
                      obtain ⟨b7, o7, rfl, -, -, -, hs1⟩ := hc7 y _ (getD_get (d := 0) hyn)
                      obtain ⟨b8, o8, e8, -, -, -, hs2⟩ := hc7 x _ (getD_get (d := 0) hxn)
                      injection e8 with e8
                      injection e8 with e8 e9
                      subst e8 e9
                      replace hs1 : wr.cell? ⟨b7, o7 + y, none⟩ = some (.int .i64 (st.getD y 0)) := hs1
                      replace hs2 : wr.cell? ⟨b7, o7 + x, none⟩ = some (.int .i64 (st.getD x 0)) := hs2
                      have hbet2 : ¬ (st.getD y 0 < st.getD x 0 ∨ (st.getD y 0 = st.getD x 0 ∧ (y : Int) < (x : Int))) := of_decide_eq_false hbet
                      have hyi : (0 : Int) ≤ (y : Int) ∧ (y : Int) < (st.length : Int) := by omega
                      have d1 : decide ((y : Int) < 0) = false := decide_eq_false (by omega)
                      have d2 : decide (st.length ≤ y) = false := decide_eq_false (by omega)
                      have d3 : decide ((x : Int) < 0) = false := decide_eq_false (by omega)
                      have d4 : decide (st.length ≤ x) = false := decide_eq_false (by omega)
                      have d5 : decide (st.getD y 0 < st.getD x 0) = false := decide_eq_false (fun h => hbet2 (.inl h))
                      by_cases hse : st.getD y 0 = st.getD x 0
                      · have d6 : (st.getD y 0 == st.getD x 0) = true := by rw [hse]; simp
                        have d7 : decide (y < x) = false := decide_eq_false (fun h => hbet2 (.inr ⟨hse, by omega⟩))
                        generalize st.getD y 0 = sy at *
                        generalize st.getD x 0 = sx at *
                        clear hb hcy hy hc7 e7 hbet hbet2 hse hy0 hy1
                        go_wp2_with fail
                        go_quiet (fail)
                        go_wp2_with fail
                        go_roundw
                        case rel => exact ⟨m + 1, hlt3, by go_num, below_drewN HBM.out _⟩
                        case measure => simp [intOf]; omega
                      · have d6 : (st.getD y 0 == st.getD x 0) = false := by simp only [beq_eq_false_iff_ne]; exact hse
                        generalize st.getD y 0 = sy at *
                        generalize st.getD x 0 = sx at *
                        clear hb hcy hy hc7 e7 hbet hbet2 hse hy0 hy1
                        go_wp2_with fail
                        go_quiet (fail)
                        go_wp2_with fail
                        go_roundw
                        case rel => exact ⟨m + 1, hlt3, by go_num, below_drewN HBM.out _⟩
                        case measure => simp [intOf]; omega
                    · obtain rfl : m = R.length := by omega
                      have HRL : Hid (Below w2.heap.size w2 wr) := Lib.hid (HB5.out.trans (hb.mono HB5.out.size))
                      clear hb
                      go_wp2_with fail
                      go_roundw
                      case rel => exact ⟨k + 1, hlt, by go_num, HRL.out⟩
                      case measure => simp [intOf]; omega
            · have q2 : ¬ c3 ≤ k + 1 := by omega
              clear hb hcl hx
              go_wp2_with fail
              go_loopw [69] (fun i wr => ∃ m : Nat, m ≤ st.length - (k + 1) ∧ i = .int .i64 (m : Int) ∧ Below wc.heap.size wc wr) (fun i _ => st.length - (k + 1) - (intOf i).toNat)
              case atStart => exact ⟨0, Nat.zero_le _, rfl, Below.refl _ _⟩
              case round =>
                obtain ⟨m, hm, rfl, hb⟩ := hrel
                have HBR := Lib.hid hb
                have hnw := HBC.out.trans (hb.mono HBC.out.size)
                by_cases hlt2 : m < st.length - (k + 1)
                · have i3 : (m : Int) < ((st.length - (k + 1) : Nat) : Int) := by omega
                  have hmi : (0 : Int) ≤ (m : Int) ∧ (m : Int) < ((st.length - (k + 1) : Nat) : Int) := by omega
                  have hk1 : k + 1 + m < st.length := by omega
                  obtain ⟨y, hy, hyn⟩ := HOF.out.at hk1
                  obtain ⟨g8, e8, -, -, hcy, -, -⟩ := HU.out.place 0 hk1
                  injection e8 with e8
                  injection e8 with e8
                  subst e8
                  have cy : wr.cell? ⟨gl, k + 1 + m, none⟩ = some (.int .i64 (y : Int)) := ((hnw.cell (p := ⟨gl, k + 1 + m, none⟩) hgl).trans hcy).trans (by rw [hy]; rfl)
                  have hny : Dep.needS (upS M st.length) (x : Int) (y : Int) = false := by
                    have := HAF.out k hlt (l.getD (k + 1 + m) 0) (by
                      have e1 : l.getD (k + 1 + m) 0 = (l.drop k).getD (1 + m) 0 := by simp [List.getD, List.getElem?_drop, Nat.add_assoc]
                      rw [e1]
                      exact getD_mem (by rw [List.length_drop, HOF.out.len]; omega))
                    rw [HX.out, hy] at this
                    exact this
                  have HN := Lib.hid (lawNeed wr _ (upS M st.length) (x : Int) (y : Int) (by omega) (by omega) (HGU.out.under hnw (Nat.le_refl _)))
                  rw [hny] at HN
                  clear hb hnw hcy hy hny
                  go_wp2_with fail
                  refine HN.out.mono ?_
                  rintro e w9 ⟨rfl, rfl⟩
                  go_wp2_with fail
                  go_roundw
                  case rel => exact ⟨m + 1, hlt2, by go_num, HBR.out⟩
                  case measure => simp [intOf]; omega
                · obtain rfl : m = st.length - (k + 1) := by omega
                  have hrow : RowIn encI 0 wr.heap.size wr (.slice (some ⟨gl, 0 + k, none⟩) (st.length - k) (c3 - k)) (l.drop k) := (HU.out.row.all.under hnw (Nat.le_refl _)).drop HOF.out.len.symm k (Nat.le_of_lt hlt)
                  rw [Nat.zero_add] at hrow
                  have HC := Lib.hid (progReady wr _ _ (l.drop k) (upS M st.length) hrow (fun y hy => HOF.out.wf hsm (List.mem_of_mem_drop hy)) (HGU.out.under hnw (Nat.le_refl _)) (by rw [List.length_drop, HOF.out.len]; omega))
                  have HFI := Lib.hid (HOF.out.first k hlt)
                  have HSUB : Hid (∀ y, y ∈ Dep.readyS (l.drop k) (upS M st.length) → 0 ≤ y ∧ y < (st.length : Int)) := Lib.hid fun y hy => by
                    rw [Dep.readyS_of_good (Dep.drop_good HOF.out.good k)] at hy
                    exact HOF.out.range y (List.mem_of_mem_drop (Dep.mem_rdyL.1 hy).1)
                  have hRl : (Dep.readyS (l.drop k) (upS M st.length)).length ≤ 1000000 := Nat.le_trans (Dep.readyS_length _ _) (by rw [List.length_drop, HOF.out.len]; omega)
                  have q3 : ¬ c3 ≤ k := by omega
                  have q4 : ¬ c3 - k = 0 := by omega
                  have HWR := Lib.hid hnw
                  generalize Dep.readyS (l.drop k) (upS M st.length) = R at HC HFI HSUB hRl
                  clear hb hnw hrow
                  go_wp2_with fail
                  refine HC.out.mono ?_
                  rintro e w5 ⟨u5, rfl, h5, hb5⟩
                  have HR5 := Lib.hid h5
                  have HB5 := Lib.hid (HWR.out.trans (hb5.mono HWR.out.size))
                  have HB5C := Lib.hid (HBR.out.trans (hb5.mono HBR.out.size))
                  obtain ⟨a5, c5, rfl, hd1, hd2, -, -⟩ := h5.row
                  unfold maxLen at hd2
                  clear h5 hb5 HC
                  go_wp2_with fail
                  go_loopw [84] (fun i wr => ∃ m : Nat, m ≤ R.length ∧ i = .int .i64 (m : Int) ∧ Below w5.heap.size w5 wr) (fun i _ => R.length - (intOf i).toNat)
                  case atStart => exact ⟨0, Nat.zero_le _, rfl, Below.refl _ _⟩
                  case round =>
                    obtain ⟨m, hm, rfl, hb⟩ := hrel
                    have HBM := Lib.hid hb
                    by_cases hlt3 : m < R.length
                    · have i4 : (m : Int) < (R.length : Int) := by omega
                      have hmi : (0 : Int) ≤ (m : Int) ∧ (m : Int) < (R.length : Int) := by omega
                      obtain ⟨g5, rfl, -, hg5, hcy, -, -⟩ := HR5.out.place 0 hlt3
                      obtain ⟨hy0, hy1⟩ := HSUB.out _ (getD_mem (d := 0) hlt3)
                      obtain ⟨y, hy⟩ : ∃ y : Nat, R.getD m 0 = (y : Int) := ⟨(R.getD m 0).toNat, by omega⟩
                      have hbet := HFI.out _ (getD_mem (d := 0) hlt3)
                      rw [hy, HX.out] at hbet
                      rw [hy] at hy0 hy1
                      have hyn : y < st.length := by omega
                      have cy : wr.cell? ⟨g5, m, none⟩ = some (.int .i64 (y : Int)) := ((hb.cell (p := ⟨g5, m, none⟩) hg5).trans hcy).trans (by rw [hy]; rfl)
                      have hVr := HV.out.under (HB2.out.trans ((HB5.out.trans (hb.mono HB5.out.size)).mono HB2.out.size)) (Nat.le_refl _)
                      obtain ⟨a7, c7, e7, -, -, -, hc7⟩ := hVr
                      obtain ⟨rfl, -, rfl⟩ := sl_eq e7
                      obtain ⟨b7, o7, rfl, -, -, -, hs1⟩ := hc7 y _ (getD_get (d := 0) hyn)
                      obtain ⟨b8, o8, e8, -, -, -, hs2⟩ := hc7 x _ (getD_get (d := 0) hxn)
                      injection e8 with e8
                      injection e8 with e8 e9
                      subst e8 e9
                      replace hs1 : wr.cell? ⟨b7, o7 + y, none⟩ = some (.int .i64 (st.getD y 0)) := hs1
                      replace hs2 : wr.cell? ⟨b7, o7 + x, none⟩ = some (.int .i64 (st.getD x 0)) := hs2
                      have hbet2 : ¬ (st.getD y 0 < st.getD x 0 ∨ (st.getD y 0 = st.getD x 0 ∧ (y : Int) < (x : Int))) := of_decide_eq_false hbet
                      have hyi : (0 : Int) ≤ (y : Int) ∧ (y : Int) < (st.length : Int) := by omega
                      have d1 : decide ((y : Int) < 0) = false := decide_eq_false (by omega)
                      have d2 : decide (st.length ≤ y) = false := decide_eq_false (by omega)
                      have d3 : decide ((x : Int) < 0) = false := decide_eq_false (by omega)
                      have d4 : decide (st.length ≤ x) = false := decide_eq_false (by omega)
                      have d5 : decide (st.getD y 0 < st.getD x 0) = false := decide_eq_false (fun h => hbet2 (.inl h))
                      by_cases hse : st.getD y 0 = st.getD x 0
                      · have d6 : (st.getD y 0 == st.getD x 0) = true := by rw [hse]; simp
                        have d7 : decide (y < x) = false := decide_eq_false (fun h => hbet2 (.inr ⟨hse, by omega⟩))
                        generalize st.getD y 0 = sy at *
                        generalize st.getD x 0 = sx at *
                        clear hb hcy hy hc7 e7 hbet hbet2 hse hy0 hy1
                        go_wp2_with fail
                        go_quiet (fail)
                        go_wp2_with fail
                        go_roundw
                        case rel => exact ⟨m + 1, hlt3, by go_num, below_drewN HBM.out _⟩
                        case measure => simp [intOf]; omega
                      · have d6 : (st.getD y 0 == st.getD x 0) = false := by simp only [beq_eq_false_iff_ne]; exact hse
                        generalize st.getD y 0 = sy at *
                        generalize st.getD x 0 = sx at *
                        clear hb hcy hy hc7 e7 hbet hbet2 hse hy0 hy1
                        go_wp2_with fail
                        go_quiet (fail)
                        go_wp2_with fail
                        go_roundw
                        case rel => exact ⟨m + 1, hlt3, by go_num, below_drewN HBM.out _⟩
                        case measure => simp [intOf]; omega
                    · obtain rfl : m = R.length := by omega
                      have HRL : Hid (Below w2.heap.size w2 wr) := Lib.hid (HB5.out.trans (hb.mono HB5.out.size))
                      clear hb
                      go_wp2_with fail
                      go_roundw
                      case rel => exact ⟨k + 1, hlt, by go_num, HRL.out⟩
                      case measure => simp [intOf]; omega
          · obtain rfl : k = st.length := by omega
            clear hb
            go_wp2_with fail
            refine (alive _).mono ?_
            rintro e w6 ⟨rfl, hb6⟩
            have HB6 := Lib.hid ((HB2.out.trans (HBC.out.mono HB2.out.size)).trans (hb6.mono (Nat.le_trans HB2.out.size HBC.out.size)))
            clear hb6
            go_wp2_with fail
            go_ret
            exact ⟨rfl, HB6.out⟩
  · have HF := Lib.hid (few_no st.length h w)
    clear h
    go_enter Try.func7, Try.ntmps7
    go_wp2_with fail
    refine HF.out.mono ?_
    rintro e w0 ⟨rfl, rfl⟩
    go_wp2_with fail
    refine (alive _).mono ?_
    rintro e w6 ⟨rfl, hb6⟩
    go_wp2_with fail
    go_ret
    exact ⟨rfl, hb6⟩
end Go.Proofs.Ytkocfhacfmlmaaa
