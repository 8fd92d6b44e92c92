/-
  THE PROGRAM's OWN FUNCTIONS: the contracts of Ready, Next, Order. By an AI agent.
-/
import Derived.Test.YtkocfhacfmlmaaaDepGraph
import Derived.Test.YtkocfhacfmlmaaaDepFirst
namespace Go.Proofs.Ytkocfhacfmlmaaa
open Go.RowKit

/-- the call returns this row of ints in new memory -/
theorem graphReady (w : World) (lv wv rv : Value) (el : List Int) (M : List (List Bool)) (rmL : List Bool) (hg : Dep.Good el) (hl : Ints w lv el) (hw : Grid encN 0 w.heap.size w wv (wantsS el M)) (hr : RowIn encB 0 w.heap.size w rv rmL)
    (hrn : rmL.length = el.length) (hsm : el.length ≤ 1000000) :
    Calls Try.prog 20 #[.agg #[lv, wv, rv]] w (IntsRes (Dep.rdyL (liveL el (nth false rmL)) M) w) :=
  (ready w lv wv rv el (wantsS el M) rmL el.length hl hw hr rfl (wantsS_length _ _) hrn (wants_in hg) hsm).mono fun e w' ⟨v, L, h1, h2, h3, h4⟩ => ⟨v, h1, by rw [← readyAcc_eq hg h4]; exact h2, h3⟩
theorem nth_falses (n : Nat) : nth false (List.replicate n false) = fun _ => false := by
  funext q
  unfold nth
  rw [List.getD_eq_getElem?_getD, List.getElem?_replicate]
  split <;> rfl
set_option maxHeartbeats 1000000 in
set_option maxRecDepth 100000 in
theorem progReady (w : World) (v nv : Value) (left : List Int) (M : List (List Bool)) (hv : Ints w v left) (hwf : ∀ x, x ∈ left → wfI x) (hM : Grid encB 0 w.heap.size w nv M) (hsm : left.length ≤ 1000000) :
    Calls Try.prog 12 #[v, nv] w (IntsRes (Dep.readyS left M) w) := by
  have HC := Lib.hid (newGraph w v nv left M hv hwf hM hsm)
  have HL := Lib.hid (Dep.elems_length left)
  obtain ⟨a, cap, rfl, -⟩ := hv
  obtain ⟨a2, cap2, rfl, -⟩ := hM.len
  clear hM hwf
  go_enter Try.func12, Try.ntmps12
  go_wp2_with fail
  refine HC.out.mono ?_
  rintro e w1 ⟨lv, wv, rv, rfl, h1, h2, h3, hb⟩
  have HG := Lib.hid (graphReady w1 lv wv rv (Dep.elemS [] left) M _ (Dep.elems_good left) h1.row.all h2.grid.all h3.row.all (by simp) (by have := HL.out; omega))
  rw [nth_falses, live_all] at HG
  have HB := Lib.hid hb
  clear h1 h2 h3 hb HC
  go_wp2_with fail
  refine HG.out.mono ?_
  rintro e w2 ⟨u, rfl, hu, hb2⟩
  have HU := Lib.hid (hu.mono HB.out.size)
  have HB2 := Lib.hid (HB.out.trans (hb2.mono HB.out.size))
  obtain ⟨a3, cap3, rfl, -⟩ := hu.row
  clear hu hb2 HG
  go_wp2_with fail
  go_ret
  exact ⟨_, rfl, HU.out, HB2.out⟩
set_option maxHeartbeats 1000000 in
set_option maxRecDepth 100000 in
theorem progNext (w : World) (v sv nv : Value) (left st : List Int) (M : List (List Bool)) (hv : Ints w v left) (hs : Ints w sv st) (hwf : ∀ x, x ∈ left → wfI x) (hM : Grid encB 0 w.heap.size w nv M) (hsm : left.length ≤ 1000000) :
    Calls Try.prog 14 #[v, sv, nv] w fun e w' => e = .returned (.int .i64 (Dep.nextS left st M)) ∧ Below w.heap.size w w' := by
  have HC := Lib.hid (progReady w v nv left M hv hwf hM hsm)
  have HS := Lib.hid hs
  obtain ⟨a, cap, rfl, -⟩ := hv
  obtain ⟨a2, cap2, rfl, -⟩ := hM.len
  obtain ⟨a3, cap3, rfl, -⟩ := hs
  clear hM hwf
  go_enter Try.func14, Try.ntmps14
  go_wp2_with fail
  refine HC.out.mono ?_
  rintro e w1 ⟨u, rfl, hu, hb⟩
  have HF := Lib.hid (first w1 _ _ st _ (HS.out.under hb (Nat.le_refl _)) hu.row.all (Dep.readyS_good left M).2)
  have HB := Lib.hid hb
  obtain ⟨a4, cap4, rfl, -⟩ := hu.row
  clear hu hb HC
  go_wp2_with fail
  refine HF.out.mono ?_
  rintro e w2 ⟨rfl, hb2⟩
  have HB2 := Lib.hid (HB.out.trans (hb2.mono HB.out.size))
  clear hb2 HF
  go_wp2_with fail
  go_ret
  exact ⟨rfl, HB2.out⟩
theorem OwnRow.keepBut {α : Type} {enc : α → Value} {e e' : TypeId} {B B' : Nat} {w w' : World} {v rv : Value} {l : List α} {rm : List Bool} (h : OwnRow enc e B w v l) (hr : OwnRow encB e' B' w rv rm) (hne : e ≠ e') (hk : ∀ j, j < w.heap.size → rv.ownBlock ≠ some j → w'.heap[j]? = w.heap[j]?) :
    OwnRow enc e B w' v l := h.stay fun j hj => hk j (h.blk j hj).2 (fun e2 => h.apart hr hne hj e2)
theorem OwnGrid.keepBut {α : Type} {enc : α → Value} {e t e' : TypeId} {B B' : Nat} {w w' : World} {v rv : Value} {M : List (List α)} {rm : List Bool} (h : OwnGrid enc e t B w v M) (hr : OwnRow encB e' B' w rv rm) (hne : e ≠ e') (hnt : t ≠ e') (hk : ∀ j, j < w.heap.size → rv.ownBlock ≠ some j → w'.heap[j]? = w.heap[j]?) :
    OwnGrid enc e t B w' v M := by
  obtain ⟨hs, h1, h2, h3⟩ := h
  exact ⟨hs, h1.keepBut hr hnt hk, h2, fun i h l e1 e2 => (h3 i h l e1 e2).keepBut hr hne hk⟩
/-- the order under way -/
def OrdAt (n : Nat) (st : List Int) (M : List (List Bool)) (w W3 : World) (rv : Value) (vs i : Value) (wr : World) : Prop :=
  ∃ (k : Nat) (rmL : List Bool) (pre : List Int), k ≤ n ∧ i = .int .i64 (k : Int) ∧ OwnI W3.heap.size wr vs pre ∧ pre.length = k ∧ pre ++ Dep.orderF st M (n - k) (liveL (Dep.idx n) (nth false rmL)) = Dep.orderS st M ∧ (liveL (Dep.idx n) (nth false rmL)).length = n - k ∧
    rmL.length = n ∧ OwnRow encB 4 w.heap.size wr rv rmL ∧ (wr.os = W3.os ∧ wr.tape = W3.tape ∧ wr.output = W3.output ∧ W3.heap.size ≤ wr.heap.size) ∧ ∀ j, j < W3.heap.size → rv.ownBlock ≠ some j → wr.heap[j]? = W3.heap[j]?
theorem OrdAt.next {n k x : Nat} {st : List Int} {M : List (List Bool)} {w W3 wr w6 : World} {v6 : Value} {br c6 : Nat} {rmL : List Bool} {pre : List Int} (hk : k < n)
    (hx : (x : Int) = Dep.nextS (liveL (Dep.idx n) (nth false rmL)) st M) (hxl : (x : Int) ∈ liveL (Dep.idx n) (nth false rmL)) (hxn : x < n)
    (h1 : pre.length = k) (h2 : pre ++ Dep.orderF st M (n - k) (liveL (Dep.idx n) (nth false rmL)) = Dep.orderS st M) (h3 : (liveL (Dep.idx n) (nth false rmL)).length = n - k) (h4 : rmL.length = n)
    (h5 : OwnRow encB 4 w.heap.size wr (.slice (some ⟨br, 0, none⟩) n c6) rmL) (h6 : wr.os = W3.os ∧ wr.tape = W3.tape ∧ wr.output = W3.output ∧ W3.heap.size ≤ wr.heap.size) (h7 : ∀ j, j < W3.heap.size → (Value.slice (some ⟨br, 0, none⟩) n c6).ownBlock ≠ some j → wr.heap[j]? = W3.heap[j]?)
    (hbr : br < W3.heap.size) (ho : OwnI W3.heap.size w6 v6 (pre ++ [(x : Int)])) (hb : Below W3.heap.size wr w6) :
    OrdAt n st M w W3 (.slice (some ⟨br, 0, none⟩) n c6) v6 (.int .i64 ((k : Int) + 1)) (w6.setCell ⟨br, x, none⟩ (.bool true)) := by
  have hst : ∀ j, j ≠ br → (w6.setCell ⟨br, x, none⟩ (.bool true)).heap[j]? = w6.heap[j]? := fun j hj => Below.heap_setCell _ _ _ _ hj
  have hset : nth false (rmL.set x true) = Dep.upd (nth false rmL) x true := nth_set false rmL true (by omega)
  refine ⟨k + 1, rmL.set x true, pre ++ [(x : Int)], hk, rfl, ho.stay fun j hj => hst j (by have := ho.blk j hj; omega), by simp [h1], ?_, ?_, by simp [h4], ?_, ⟨hb.os.trans h6.1, hb.tape.trans h6.2.1, hb.output.trans h6.2.2.1, by have := hb.size; simp [World.setCell]; omega⟩, ?_⟩
  · rw [← h2, hset, live_drop hxn, hx, List.append_assoc]
    have e : n - k = (n - (k + 1)) + 1 := by omega
    rw [e, Dep.orderF]
    rfl
  · rw [hset, live_drop hxn]
    have := Dep.rest_length (live_good (Dep.idx_good n) (nth false rmL)).1 hxl
    omega
  · have h8 : OwnRow encB 4 w.heap.size w6 (.slice (some ⟨br, 0, none⟩) n c6) rmL := h5.stay fun j hj => hb.block j (by have e : br = j := Option.some.inj hj; omega)
    obtain ⟨g, e, _, _, _, _, h9⟩ := h8.place false hxn
    obtain rfl : br = g := by injection e with e; injection e
    exact (h9 true).1
  · intro j hj hne
    have hjb : j ≠ br := fun e => hne (by rw [e]; rfl)
    exact (hst j hjb).trans ((hb.block j hj).trans (h7 j hj hne))
set_option maxHeartbeats 4000000 in
set_option maxRecDepth 100000 in
theorem progOrder (w : World) (sv nv : Value) (st : List Int) (M : List (List Bool)) (hs : Ints w sv st) (hM : Grid encB 0 w.heap.size w nv M) (hsm : st.length ≤ 1000000) :
    Calls Try.prog 16 #[sv, nv] w (IntsRes (Dep.orderS st M) w) := by
  have HS := Lib.hid hs
  have HM := Lib.hid hM
  obtain ⟨a, cap, rfl, hc1, hc2, -⟩ := hs
  obtain ⟨a2, cap2, rfl, -⟩ := hM.len
  unfold maxLen at hc2
  clear hM
  go_enter Try.func16, Try.ntmps16
  go_wp2_with fail
  go_loopw [5, 12] (fun vs i wr => ∃ k : Nat, k ≤ st.length ∧ i = .int .i64 (k : Int) ∧ OwnI w.heap.size wr vs (Dep.idx k) ∧ Below w.heap.size w wr) (fun _ i _ => st.length - (intOf i).toNat)
  case atStart => exact ⟨0, Nat.zero_le _, rfl, OwnRow.nil _ _ _ _, Below.refl _ _⟩
  case round =>
    obtain ⟨k, hk, rfl, ho, hb⟩ := hrel
    by_cases hlt : k < st.length
    · have i1 : (k : Int) < (st.length : Int) := by omega
      have hil := Dep.idx_length k
      have hsz := hb.size
      go_wp2_with (refine wpList_push_int rfl (.tmp 15) (.tmp 17) rfl rfl ho (k : Int) rfl rfl (by omega) hsz hb ?_)
      intro v1 w1 ho1 hb1
      have HO := Lib.hid ho1
      have HB := Lib.hid hb1
      clear ho hb ho1 hb1
      go_wp2_with fail
      go_roundw
      case rel => exact ⟨k + 1, hlt, by go_num, by rw [Dep.idx_succ]; exact HO.out, HB.out⟩
      case measure => simp [intOf]; omega
    · obtain rfl : k = st.length := by omega
      have hil := Dep.idx_length st.length
      have HC := Lib.hid (newGraph wr _ (.slice a2 M.length cap2) (Dep.idx st.length) M ho.row.all (fun x hx => by obtain ⟨h1, h2⟩ := Dep.mem_idx.1 hx; exact WalkArith.wf_i64 (by omega)) (HM.out.under hb (Nat.le_refl _)) (by rw [hil]; omega))
      rw [Dep.elems_id (Dep.idx_good st.length)] at HC
      have HB := Lib.hid hb
      obtain ⟨al, cl, rfl, hl1, hl2, -⟩ := ho.row
      rw [hil] at HC hl1 ⊢
      unfold maxLen at hl2
      clear ho hb hlt
      go_wp2_with fail
      refine HC.out.mono ?_
      rintro e w2 ⟨lv, wv, rv, rfl, g1, g2, g3, hb2⟩
      obtain ⟨al2, cl2, rfl, -, -, -, -⟩ := g1.row
      obtain ⟨aw2, cw2, rfl, -, -⟩ := g2.grid.len
      obtain ⟨ar2, cr2, rfl, -, -, -, -⟩ := g3.row
      rw [hil, List.length_replicate] at g3
      rw [hil] at g1 ⊢
      rw [wantsS_length, hil] at g2 ⊢
      rw [List.length_replicate]
      have hbv := below_alloc1 w2 (.cells #[.slice al2 st.length cl2, .slice aw2 st.length cw2, .slice ar2 st.length cr2] 36)
      have HW3 : Hid (Below w.heap.size w (w2.alloc (.cells #[.slice al2 st.length cl2, .slice aw2 st.length cw2, .slice ar2 st.length cr2] 36))) := Lib.hid ((HB.out.trans (hb2.mono HB.out.size)).trans (hbv.mono (by have := HB.out.size; have := hb2.size; omega)))
      have HG1 := Lib.hid ((g1.mono HB.out.size).below hbv (Nat.le_refl _))
      have HG2 := Lib.hid ((g2.mono HB.out.size).below hbv (Nat.le_refl _))
      have HG3 := Lib.hid ((g3.mono HB.out.size).below hbv (Nat.le_refl _))
      have HBK : Hid (∀ j, (Value.slice ar2 st.length cr2).ownBlock = some j → j < w2.heap.size) := Lib.hid fun j hj => (g3.blk j hj).2
      have HSZ : Hid ((w2.alloc (.cells #[.slice al2 st.length cl2, .slice aw2 st.length cw2, .slice ar2 st.length cr2] 36)).heap.size = w2.heap.size + 1) := Lib.hid (by simp)
      have HBOX : Hid ((w2.alloc (.cells #[.slice al2 st.length cl2, .slice aw2 st.length cw2, .slice ar2 st.length cr2] 36)).heap[w2.heap.size]? = some (.cells #[.slice al2 st.length cl2, .slice aw2 st.length cw2, .slice ar2 st.length cr2] 36 (0, 0))) := Lib.hid (heap_alloc_new _ _)
      clear g1 g2 g3 hb2 hbv HC
      go_wp2_with fail
      go_loopw [6, 25] (fun vs i wx => OrdAt st.length st M w (w2.alloc (.cells #[.slice al2 st.length cl2, .slice aw2 st.length cw2, .slice ar2 st.length cr2] 36)) (.slice ar2 st.length cr2) vs i wx) (fun _ i _ => st.length - (intOf i).toNat)
      case atStart =>
        refine ⟨0, List.replicate st.length false, [], Nat.zero_le _, rfl, OwnRow.nil _ _ _ _, rfl, ?_, ?_, by simp, HG3.out, ⟨rfl, rfl, rfl, Nat.le_refl _⟩, fun j _ _ => rfl⟩
        · rw [nth_falses, live_all, List.nil_append, Nat.sub_zero, Dep.orderS]
        · rw [nth_falses, live_all, hil, Nat.sub_zero]
      case round =>
        obtain ⟨m, rmL, pre, hm, rfl, ho, o1, o2, o3, o4, o5, o6, o7⟩ := hrel
        have HO := Lib.hid ho
        have HF := Lib.hid (And.intro o1 (And.intro o2 (And.intro o3 (And.intro o4 (And.intro o5 (And.intro o6 o7))))))
        by_cases hlt : m < st.length
        · have i1 : (m : Int) < (st.length : Int) := by omega
          obtain ⟨br, rfl, hbrB, hbrs, -, -, -⟩ := o5.place false hlt
          have hbr := HBK.out br rfl
          have hng : wr.heap[w2.heap.size]? = some (.cells #[.slice al2 st.length cl2, .slice aw2 st.length cw2, .slice (some ⟨br, 0, none⟩) st.length cr2] 36 (0, 0)) := (o7 _ (by rw [HSZ.out]; omega) (fun e => by have e2 : br = w2.heap.size := Option.some.inj e; omega)).trans HBOX.out
          have n0 := cell_of_three hng 0
          have n1 := cell_of_three hng 1
          have n2 := cell_of_three hng 2
          simp only [List.getElem?_toArray, List.getElem?_cons_zero, List.getElem?_cons_succ] at n0 n1 n2
          have hl1 := HG1.out.keepBut HG3.out (by decide) o7
          have hg1 := HG2.out.keepBut HG3.out (by decide) (by decide) o7
          have HGR := Lib.hid (graphReady wr _ _ _ (Dep.idx st.length) M rmL (Dep.idx_good st.length) hl1.row.all hg1.grid.all o5.row.all (by rw [o4, hil]) (by rw [hil]; omega))
          have HNL : Hid (liveL (Dep.idx st.length) (nth false rmL) ≠ []) := Lib.hid fun e => by rw [e] at o3; simp at o3; omega
          have HLG := Lib.hid (live_good (Dep.idx_good st.length) (nth false rmL))
          have HLT := Lib.hid hlt
          have hszr := o6.2.2.2
          have HBW : Hid (∀ j, j < w.heap.size → wr.heap[j]? = w.heap[j]?) := Lib.hid fun j hj => (o7 j (by have := HW3.out.size; omega) (fun e => by have e2 : br = j := Option.some.inj e; omega)).trans (HW3.out.block j hj)
          have HNG := Lib.hid hng
          have HSW : Hid (w.heap.size ≤ wr.heap.size) := Lib.hid (by have := HW3.out.size; omega)
          clear ho o1 o2 o3 o4 o5 o6 o7 hl1 hg1 hng
          go_wp2_with fail
          refine HGR.out.mono ?_
          rintro e w4 ⟨v4, rfl, hv4, hb4⟩
          have HF4 := Lib.hid (first w4 _ _ st _ ((HS.out.keep HSW.out fun j _ hj _ => HBW.out j hj).all.under hb4 (Nat.le_refl _)) hv4.row.all (Dep.rdyL_good HLG.out).2)
          have HB4 := Lib.hid hb4
          obtain ⟨a4, c4, rfl, -, -, -, -⟩ := hv4.row
          clear hv4 hb4 HGR
          go_wp2_with fail
          refine HF4.out.mono ?_
          rintro e w5 ⟨rfl, hb5⟩
          have HB5 := Lib.hid (HB4.out.trans (hb5.mono HB4.out.size))
          clear hb5 HF4
          have hmem := Dep.nextS_mem (st := st) (M := M) HLG.out HNL.out
          have hns : Dep.nextL st (Dep.rdyL (liveL (Dep.idx st.length) (nth false rmL)) M) = Dep.nextS (liveL (Dep.idx st.length) (nth false rmL)) st M := by rw [Dep.nextS, Dep.readyS_of_good HLG.out]
          rw [hns]
          obtain ⟨p0, hp0, -, hp1⟩ := mem_live.1 hmem
          rw [Dep.idx_length] at hp0
          rw [Dep.idx_get hp0] at hp1
          have HX := Lib.hid hp1
          have HMEM := Lib.hid hmem
          rw [← hp1]
          have ho5 := HO.out.below HB5.out (by exact Nat.le_refl _)
          have hsz5 : (w2.alloc (.cells #[.slice al2 st.length cl2, .slice aw2 st.length cw2, .slice (some ⟨br, 0, none⟩) st.length cr2] 36)).heap.size ≤ w5.heap.size := Nat.le_trans hszr HB5.out.size
          have hpl := HF.out.1
          clear hns hmem hp1
          go_wp2_with (refine wpList_push_int rfl (.tmp 31) (.tmp 33) rfl rfl ho5 (p0 : Int) rfl rfl (by omega) hsz5 (Below.refl _ w5) ?_)
          intro v6 w6 ho6 hb6
          obtain ⟨a6, n6, c6, rfl⟩ : ∃ a n cap, v6 = .slice a n cap := by obtain ⟨a, cap, e, -⟩ := ho6.row; exact ⟨a, _, cap, e⟩
          rw [← HSZ.out] at hb6 ho6
          have hb36 : Below (w2.alloc (.cells #[.slice al2 st.length cl2, .slice aw2 st.length cw2, .slice (some ⟨br, 0, none⟩) st.length cr2] 36)).heap.size wr w6 := (HB5.out.mono hszr).trans hb6
          have HREL := Lib.hid (OrdAt.next HLT.out HX.out (by rw [HX.out]; exact HMEM.out) hp0 HF.out.1 HF.out.2.1 HF.out.2.2.1 HF.out.2.2.2.1 HF.out.2.2.2.2.1 HF.out.2.2.2.2.2.1 HF.out.2.2.2.2.2.2 (by rw [HSZ.out]; omega) ho6 hb36)
          obtain ⟨g7, e7, -, -, k1, k2, -⟩ := HF.out.2.2.2.2.1.place false hp0
          injection e7 with e7
          injection e7 with e7
          subst e7
          have hlt3 : br < (w2.alloc (.cells #[.slice al2 st.length cl2, .slice aw2 st.length cw2, .slice (some ⟨br, 0, none⟩) st.length cr2] 36)).heap.size := by rw [HSZ.out]; omega
          have c1 := (hb36.cell (p := ⟨br, p0, none⟩) hlt3).trans k1
          have f1 := (hb36.frozen (p := ⟨br, p0, none⟩) hlt3).trans k2
          have c2 := (hb36.cell (p := ⟨w2.heap.size, 2, none⟩) (by rw [HSZ.out]; exact Nat.lt_succ_self _)).trans n2
          have hpi : (0 : Int) ≤ (p0 : Int) ∧ (p0 : Int) < (st.length : Int) := by omega
          clear ho6 hb6 ho5 hb36 k1 k2 n0 n1 n2 HF HNG
          go_wp2_with fail
          go_roundw
          case rel => exact HREL.out
          case measure => simp [intOf]; omega
        · obtain rfl : m = st.length := by omega
          have HP : Hid (pre = Dep.orderS st M) := Lib.hid (by rw [← o2, Nat.sub_self, Dep.orderF, List.append_nil])
          go_wp2_with fail
          go_ret
          exact ⟨_, rfl, by rw [← HP.out]; exact HO.out.mono HW3.out.size, ⟨o6.1.trans HW3.out.os, o6.2.1.trans HW3.out.tape, o6.2.2.1.trans HW3.out.output, by have := HW3.out.size; omega, fun j hj => (o7 j (by have := HW3.out.size; omega) (fun e => by have := (o5.blk j e).1; omega)).trans (HW3.out.block j hj)⟩⟩
end Go.Proofs.Ytkocfhacfmlmaaa
