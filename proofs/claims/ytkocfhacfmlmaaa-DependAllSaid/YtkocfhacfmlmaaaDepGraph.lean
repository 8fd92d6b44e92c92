/-
  THE GRAPH: the map of places; the contracts of wanted and newGraph. By an AI agent.
-/
import Derived.Test.YtkocfhacfmlmaaaDepPlainB
import Derived.Maps.OwnSet
import Derived.Deep.RegionHeld3
namespace Go.Proofs.Ytkocfhacfmlmaaa
open Go.RowKit Go.Maps

theorem lawI : Keyed Try.prog 3 := int_keyed Try.underlying3
theorem zeroI (w : World) : (zeroValue 3).run Try.prog w = .ok (.int .i64 0) w := by kernel_rfl
def wfI (x : Int) : Prop := (Lit.int .i64 x).wf = true
/-- block b is a map of the places of el's elements -/
def MapI (w : World) (b : Nat) (el : List Int) : Prop :=
  ∃ (n : Nat) (D : DataW Unit), w.ownsMap Try.prog 3 (plainElem Try.prog 3) b n D ∧ n ≤ el.length ∧ (∀ x, wfI x → Maps.has D (.int .i64 x) = decide (x ∈ el)) ∧
    ∀ p, p < el.length → D.atKey (.int .i64 (el.getD p 0)) (.lit (.int .i64 0)) = .lit (.int .i64 (p : Int))
theorem MapI.kept {w w' : World} {b : Nat} {el : List Int} {row : Option Nat} (h : MapI w b el) (hg : w.grownBy w' row) (hne : some b ≠ row) : MapI w' b el := by
  obtain ⟨n, D, h1, h2⟩ := h
  exact ⟨n, D, h1.kept hg hne, h2⟩
theorem MapI.below {w w' : World} {b : Nat} {el : List Int} (h : MapI w b el) (hb : Below w.heap.size w w') : MapI w' b el := h.kept (grownBy_below (r := none) hb) (by simp)
theorem MapI.lt {w : World} {b : Nat} {el : List Int} (h : MapI w b el) : b < w.heap.size := by
  obtain ⟨n, D, ⟨es, clock, hb, _⟩, _⟩ := h
  exact lt_of_block hb
theorem MapI.same {w w' : World} {b : Nat} {el : List Int} (h : MapI w b el) (hk : w'.heap[b]? = w.heap[b]?) : MapI w' b el := by
  obtain ⟨n, D, ⟨es, clock, hb, r⟩, h2⟩ := h
  exact ⟨n, D, ⟨es, clock, hk.trans hb, r⟩, h2⟩
theorem wfI_nat {k : Nat} (h : k ≤ 9223372036854775807) : wfI (k : Int) := WalkArith.wf_i64 (by omega)

/-- wants under way -/
def WantAt (w : World) (row : List Bool) (el : List Int) (vs i : Value) (wr : World) : Prop :=
  ∃ k : Nat, k ≤ row.length ∧ i = .int .i64 (k : Int) ∧ OwnRow encN 3 w.heap.size wr vs (wantedS row el k) ∧ Below w.heap.size w wr
set_option maxHeartbeats 4000000 in
set_option maxRecDepth 100000 in
theorem wanted (w : World) (b : Nat) (el : List Int) (v : Value) (row : List Bool) (hm : MapI w b el) (hv : RowIn encB 0 w.heap.size w v row) (hsm : el.length ≤ 1000000) :
    Calls Try.prog 27 #[v, .map (some b)] w fun e w' => ∃ u, e = .returned u ∧ OwnRow encN 3 w.heap.size w' u (wantedF row el) ∧ Below w.heap.size w w' := by
  have HM := Lib.hid hm
  obtain ⟨a, cap, rfl, hc1, hc2, -, hcell⟩ := hv
  unfold maxLen at hc2
  have D := Lib.hid hcell
  clear hcell hm
  go_enter Try.func27, Try.ntmps27
  go_wp2_with fail
  go_loopw [5, 12] (fun vs i wr => WantAt w row el vs i wr) (fun _ i _ => row.length - (intOf i).toNat)
  case atStart => exact ⟨0, Nat.zero_le _, rfl, OwnRow.nil _ _ _ _, Below.refl _ _⟩
  case round =>
    obtain ⟨k, hk, rfl, ho, hb⟩ := hrel
    by_cases hlt : k < row.length
    · have i1 : (k : Int) < (row.length : Int) := by omega
      obtain ⟨br, or', rfl, -, -, hq, hcell⟩ := D.out k _ (getD_get (d := false) hlt)
      have cq : wr.cell? ⟨br, or' + k, none⟩ = some (.bool (row.getD k false)) := (hb.cell hq).trans hcell
      have hki : (0 : Int) ≤ (k : Int) ∧ (k : Int) < (row.length : Int) := by omega
      have HLT := Lib.hid hlt
      have HO := Lib.hid ho
      have HB := Lib.hid hb
      clear hcell
      cases hrk : row.getD k false with
      | false =>
        rw [hrk] at cq
        have HS := Lib.hid (wantedS_out (el := el) (row := row) (k := k) (fun h => by rw [hrk] at h; cases h.1))
        clear ho hb
        go_wp2_with fail
        go_roundw
        case rel => exact ⟨k + 1, HLT.out, by go_num, by rw [HS.out]; exact HO.out, HB.out⟩
        case measure => simp [intOf]; omega
      | true =>
        rw [hrk] at cq
        obtain ⟨n, E, hown, hn, hhas, hat⟩ := HM.out.kept (grownBy_below (r := none) hb) (by simp)
        have hkey := keyOf_int_mk Try.underlying3 (wfI_nat (k := k) (by omega))
        have HHAS := Lib.hid (hhas (k : Int) (wfI_nat (by omega)))
        have HAT := Lib.hid hat
        have hkb := wantedS_few row el k
        have hsz := hb.size
        clear hhas hat hn
        by_cases hmem : (k : Int) ∈ el
        · have HS := Lib.hid (wantedS_in hrk hmem)
          have HK : Hid (E.atKey (.int .i64 (k : Int)) (.lit (.int .i64 0)) = .lit (.int .i64 ((el.idxOf (k : Int) : Nat) : Int))) := Lib.hid (by
            have := HAT.out (el.idxOf (k : Int)) (List.idxOf_lt_length_of_mem hmem)
            rw [at_idx hmem] at this
            exact this)
          have hdec : Maps.has E (.int .i64 (k : Int)) = true := by rw [HHAS.out]; exact decide_eq_true hmem
          generalize el.idxOf (k : Int) = ix at HS HK
          clear HHAS HAT hmem hrk ho hb
          go_wp2_with (at_lookup; refine wpList_lookup_own_ok_int _ rfl _ _ 44 rfl 3 3 .i64 lawI Try.underlying44 Try.underlying3 (zeroI _) b n E rfl hown _ _ rfl hkey ?_)
          intro c hcat _
          rw [HK.out] at hcat
          obtain rfl : (ix : Int) = c := by injection hcat with h; injection h
          clear hcat hown hkey hdec
          go_wp2_with (refine wpList_push_nat rfl (.tmp 26) (.tmp 28) rfl rfl HO.out ix rfl rfl (by omega) hsz ?_)
          intro v1 w1 ho1 hg1
          have HB1 := Lib.hid (HB.out.grown hg1 hsz (fun j hj => (HO.out.blk j hj).1))
          clear hg1
          go_wp2_with fail
          go_roundw
          case rel => exact ⟨k + 1, HLT.out, by go_num, by rw [HS.out]; exact ho1, HB1.out⟩
          case measure => simp [intOf]; omega
        · have HS := Lib.hid (wantedS_out (el := el) (row := row) (k := k) (fun h => hmem h.2))
          have hdec : Maps.has E (.int .i64 (k : Int)) = false := by rw [HHAS.out]; exact decide_eq_false hmem
          clear HHAS HAT hmem hrk ho hb
          go_wp2_with (at_lookup; refine wpList_lookup_own_ok_int _ rfl _ _ 44 rfl 3 3 .i64 lawI Try.underlying44 Try.underlying3 (zeroI _) b n E rfl hown _ _ rfl hkey ?_)
          intro c hcat _
          clear hcat hown hkey hdec
          go_wp2_with fail
          go_roundw
          case rel => exact ⟨k + 1, HLT.out, by go_num, by rw [HS.out]; exact HO.out, HB.out⟩
          case measure => simp [intOf]; omega
    · obtain rfl : k = row.length := by omega
      go_wp2_with fail
      go_ret
      exact ⟨_, rfl, ho, hb⟩
theorem MapI.put {w1 : World} {b n : Nat} {D : DataW Unit} {el : List Int} {x : Int} (hD : Maps.IsMap D) (hn : n ≤ el.length) (hhas : ∀ x, wfI x → Maps.has D (.int .i64 x) = decide (x ∈ el))
    (hat : ∀ p, p < el.length → D.atKey (.int .i64 (el.getD p 0)) (.lit (.int .i64 0)) = .lit (.int .i64 (p : Int))) (hx : x ∉ el)
    (h1 : w1.ownsMap Try.prog 3 (plainElem Try.prog 3) b (n + 1) (D.put (.int .i64 x) (.lit (.int .i64 (el.length : Int))))) : MapI w1 b (el ++ [x]) := by
  have hk : WideAt.IsKeyLit (.int .i64 x) := trivial
  refine ⟨n + 1, _, h1, by simp; omega, fun y hy => ?_, fun p hp => ?_⟩
  · by_cases e : y = x
    · subst e
      rw [has_put_same hD hk]
      simp
    · rw [has_put_other (fun e2 => e (by injection e2)), hhas y hy]
      simp [e]
  · rw [List.length_append, List.length_singleton] at hp
    by_cases e : p = el.length
    · subst e
      have e2 : (el ++ [x]).getD el.length 0 = x := by simp [List.getD]
      rw [e2, atKey_put_same hD hk]
    · have hlt : p < el.length := by omega
      have e2 : (el ++ [x]).getD p 0 = el.getD p 0 := by simp [List.getD, List.getElem?_append_left hlt]
      have hne : el.getD p 0 ≠ x := fun e3 => hx (by rw [← e3]; exact getD_mem hlt)
      rw [e2, atKey_put_other (fun e3 => hne (by injection e3)), hat p hlt]
/-- the empty slice -/
abbrev nilS : Value := .slice none 0 0
/-- the first loop under way: the elements so far, their places -/
def GraphAt (w : World) (left : List Int) (i : Value) (wr : World) : Prop :=
  ∃ (k : Nat) (out : List Int) (lv : Value), k ≤ left.length ∧ i = .int .i64 (k : Int) ∧ Dep.elemS out (left.drop k) = Dep.elemS [] left ∧ out.length ≤ k ∧ MapI wr (w.heap.size + 2) out ∧
    wr.heap[w.heap.size + 1]? = some (.cells #[lv, nilS, nilS] 36 (0, 0)) ∧ OwnI (w.heap.size + 3) wr lv out ∧
    wr.heap[w.heap.size]? = some (.cells #[nilS, nilS, nilS] 36 (0, 0)) ∧ Below w.heap.size w wr ∧ w.heap.size + 3 ≤ wr.heap.size
theorem graph_start (w : World) (left : List Int) : GraphAt w left (.int .i64 ((0 : Nat) : Int)) (((w.alloc (.cells #[nilS, nilS, nilS] 36)).alloc (.cells #[nilS, nilS, nilS] 36)).alloc (.map #[] 0)) := by
  have e1 : (w.alloc (.cells #[nilS, nilS, nilS] 36)).heap[w.heap.size]? = some (.cells #[nilS, nilS, nilS] 36 (0, 0)) := heap_alloc_new _ _
  have e2 : ((w.alloc (.cells #[nilS, nilS, nilS] 36)).alloc (.cells #[nilS, nilS, nilS] 36)).heap[w.heap.size + 1]? = some (.cells #[nilS, nilS, nilS] 36 (0, 0)) := by
    have := heap_alloc_new (w.alloc (.cells #[nilS, nilS, nilS] 36)) (.cells #[nilS, nilS, nilS] 36)
    simpa using this
  refine ⟨0, [], nilS, Nat.zero_le _, rfl, rfl, Nat.le_refl _, ⟨0, (.map [] : DataW Unit), ?_, Nat.le_refl _, fun x _ => by simp [Maps.has], fun p hp => by simp at hp⟩, ?_, OwnRow.nil _ _ _ _, ?_, ?_, by simp⟩
  · have := World.ownsMap_made (H := Unit) ((w.alloc (.cells #[nilS, nilS, nilS] 36)).alloc (.cells #[nilS, nilS, nilS] 36)) Try.prog 3 (plainElem Try.prog 3)
    simpa using this
  · exact (Below.heap_alloc _ _ _ (by simp)).trans e2
  · exact (Below.heap_alloc _ _ _ (by simp; omega)).trans ((Below.heap_alloc _ _ _ (by simp)).trans e1)
  · exact (((Below.refl w.heap.size w).alloc (Nat.le_refl _) _).alloc (by simp) _).alloc (by simp; omega) _
theorem made_row {α : Type} (enc : α → Value) (d : α) (n : Nat) : madeCells #[enc d] n = ((List.replicate n d).map enc).toArray := by
  apply Array.ext
  · simp [madeCells]
  · intro i h1 h2
    simp [madeCells, Nat.mod_one]
/-- n empty slices; n falses -/
def nilRow (n : Nat) : Array Value := ((List.replicate n ((none, 0, 0) : Hd)).map encH).toArray
def falseRow (n : Nat) : Array Value := ((List.replicate n false).map encB).toArray
theorem run_make_slices (w : World) (n : Nat) (hn : n ≤ 1000000) : (Instr.makeSlice 34 (.int .i64 (n : Int)) (.int .i64 (n : Int))).run Try.prog w =
    .ok (.slice (some ⟨w.heap.size, 0, none⟩) n n) (w.alloc (.cells (nilRow n) 22)) := by
  obtain ⟨i0, hi, hz0, hz1, hz2⟩ := info_parts infoSI
  have h := run_make (P := Try.prog) w 34 22 i0 (.slice none 0 0) Try.underlying34 hi hz0 .i64 .i64 (n : Int) (n : Int) (by omega) (Int.le_refl _) (by rw [hz2]; omega) (by omega)
  have e : ((n : Int)).toNat = n := by omega
  rw [e, hz1, Nat.mul_one] at h
  unfold nilRow
  rw [← made_row]
  exact h
theorem run_make_bools (w : World) (n : Nat) (hn : n ≤ 1000000) : (Instr.makeSlice 31 (.int .i64 (n : Int)) (.int .i64 (n : Int))).run Try.prog w =
    .ok (.slice (some ⟨w.heap.size, 0, none⟩) n n) (w.alloc (.cells (falseRow n) 4)) := by
  obtain ⟨i0, hi, hz0, hz1, hz2⟩ := info_parts infoB
  have h := run_make (P := Try.prog) w 31 4 i0 (.bool false) Try.underlying31 hi hz0 .i64 .i64 (n : Int) (n : Int) (by omega) (Int.le_refl _) (by rw [hz2]; omega) (by omega)
  have e : ((n : Int)).toNat = n := by omega
  rw [e, hz1, Nat.mul_one] at h
  unfold falseRow
  rw [← made_row]
  exact h
theorem cell_of_three {w : World} {b : Nat} {cs : Array Value} {e : TypeId} (h : w.heap[b]? = some (.cells cs e (0, 0))) (j : Nat) : w.cell? ⟨b, j, none⟩ = cs[j]? := by
  simp only [World.cell?]
  rw [h]
  rfl
theorem free_of_cells {w : World} {b : Nat} {cs : Array Value} {e : TypeId} (h : w.heap[b]? = some (.cells cs e (0, 0))) (j : Nat) : w.frozen? ⟨b, j, none⟩ = false := by simp [World.frozen?, h]
theorem elemS_step {out left : List Int} {k : Nat} (hk : k < left.length) : Dep.elemS out (left.drop k) = Dep.elemS (if 0 ≤ left.getD k 0 ∧ left.getD k 0 ∉ out then out ++ [left.getD k 0] else out) (left.drop (k + 1)) := by
  have e : left.getD k 0 = left[k] := by simp [List.getD, hk]
  rw [List.drop_eq_getElem_cons hk, Dep.elemS, e]
theorem GraphAt.skip {w wr : World} {left out : List Int} {k : Nat} {lv : Value} (hk : k < left.length) (hx : ¬ (0 ≤ left.getD k 0 ∧ left.getD k 0 ∉ out)) (he : Dep.elemS out (left.drop k) = Dep.elemS [] left) (hl : out.length ≤ k) (hm : MapI wr (w.heap.size + 2) out)
    (h1 : wr.heap[w.heap.size + 1]? = some (.cells #[lv, nilS, nilS] 36 (0, 0))) (h2 : OwnI (w.heap.size + 3) wr lv out) (h3 : wr.heap[w.heap.size]? = some (.cells #[nilS, nilS, nilS] 36 (0, 0))) (hb : Below w.heap.size w wr) (hs : w.heap.size + 3 ≤ wr.heap.size) :
    GraphAt w left (.int .i64 ((k : Int) + 1)) wr :=
  ⟨k + 1, out, lv, hk, rfl, by rw [← he, elemS_step hk, if_neg hx], by omega, hm, h1, h2, h3, hb, hs⟩
theorem GraphAt.push {w wr w1 w2 : World} {left out : List Int} {k : Nat} {lv v2 : Value} (hk : k < left.length) (hx : 0 ≤ left.getD k 0 ∧ left.getD k 0 ∉ out) (he : Dep.elemS out (left.drop k) = Dep.elemS [] left) (hl : out.length ≤ k) (hm : MapI w1 (w.heap.size + 2) (out ++ [left.getD k 0]))
    (h1 : wr.heap[w.heap.size + 1]? = some (.cells #[lv, nilS, nilS] 36 (0, 0))) (h3 : wr.heap[w.heap.size]? = some (.cells #[nilS, nilS, nilS] 36 (0, 0))) (hb : Below w.heap.size w wr) (hs : w.heap.size + 3 ≤ wr.heap.size)
    (hg : wr.grownBy w1 (some (w.heap.size + 2))) (ho : OwnI (w.heap.size + 3) w2 v2 (out ++ [left.getD k 0])) (hb2 : Below (w.heap.size + 3) w1 w2) :
    GraphAt w left (.int .i64 ((k : Int) + 1)) (w2.setCell ⟨w.heap.size + 1, 0, none⟩ v2) := by
  have hs1 := hg.size
  have hs2 := hb2.size
  have e1 : w2.heap[w.heap.size + 1]? = some (.cells #[lv, nilS, nilS] 36 (0, 0)) := (hb2.block _ (by omega)).trans ((hg.block _ (by omega) (by simp)).trans h1)
  have e3 : w2.heap[w.heap.size]? = some (.cells #[nilS, nilS, nilS] 36 (0, 0)) := (hb2.block _ (by omega)).trans ((hg.block _ (by omega) (by simp)).trans h3)
  have hst := fun j (hj : j ≠ w.heap.size + 1) => Below.heap_setCell w2 ⟨w.heap.size + 1, 0, none⟩ v2 j hj
  refine ⟨k + 1, _, v2, hk, rfl, by rw [← he, elemS_step hk, if_pos hx], by simp; omega, ?_, ?_, ?_, (hst _ (by omega)).trans e3, ?_, by simp [World.setCell]; omega⟩
  · exact (hm.same (hb2.block _ (by omega))).same (hst _ (by omega))
  · exact heap_setCell_same w2 (w.heap.size + 1) 0 _ _ v2 e1
  · exact ho.stay fun j hj => hst j (by have := ho.blk j hj; omega)
  · exact ((hb.trans (below_grownBy hg (fun j hj => by cases hj; omega) (by omega))).trans (hb2.mono (by omega))).setCell (by show w.heap.size ≤ w.heap.size + 1; omega) _
theorem own_block {α : Type} {enc : α → Value} {e : TypeId} {B g n : Nat} {w : World} {l : List α} (hB : B ≤ g) (hn : l.length = n) (hm : n ≤ 1000000) (h : w.heap[g]? = some (.cells (l.map enc).toArray e (0, 0))) : OwnRow enc e B w (.slice (some ⟨g, 0, none⟩) n n) l := by
  subst hn
  exact ⟨by simp, .inr ⟨g, l.length, _, rfl, hB, h, Nat.le_refl _, by unfold maxLen; omega, by simp, by simp [List.take_of_length_le]⟩⟩
theorem OwnGrid.below {α : Type} {enc : α → Value} {e t : TypeId} {B C : Nat} {w w' : World} {v : Value} {M : List (List α)} (h : OwnGrid enc e t B w v M) (hb : Below C w w') (hC : w.heap.size ≤ C) : OwnGrid enc e t B w' v M := by
  obtain ⟨hs, h1, h2, h3⟩ := h
  exact ⟨hs, h1.below hb hC, h2, fun i h l e1 e2 => (h3 i h l e1 e2).below hb hC⟩
/-- one more row is laid into the grid -/
theorem OwnGrid.set {α : Type} {enc : α → Value} {e t : TypeId} {B g n cap k : Nat} {w : World} {M : List (List α)} {r : List α} {hd : Hd} (hne : t ≠ e) (h : OwnGrid enc e t B w (.slice (some ⟨g, 0, none⟩) n cap) M) (hk : k < n) (hr : OwnRow enc e B w (encH hd) r) :
    OwnGrid enc e t B (w.setCell ⟨g, k, none⟩ (encH hd)) (.slice (some ⟨g, 0, none⟩) n cap) (M.set k r) := by
  obtain ⟨hs, h1, h2, h3⟩ := h
  have hn := h1.len
  have hst : ∀ {v : Value} {l : List α}, OwnRow enc e B w v l → OwnRow enc e B (w.setCell ⟨g, k, none⟩ (encH hd)) v l := fun {v l} ho => ho.stay fun j hj => Below.heap_setCell _ _ _ _ (fun e1 => by
    have e2 : j = g := e1
    rw [e2] at hj
    exact h1.apart ho hne (g := g) rfl hj)
  refine ⟨hs.set k hd, ?_, by simp [h2], fun i h l e1 e2 => ?_⟩
  · obtain ⟨g', e1, _, _, _, _, h4⟩ := h1.place (none, 0, 0) hk
    obtain rfl : g = g' := by injection e1 with e1; injection e1
    exact (h4 hd).1
  · by_cases e3 : i = k
    · subst e3
      have hki : i < hs.length := by omega
      rw [List.getElem?_set, if_pos rfl, if_pos hki] at e1
      rw [List.getElem?_set, if_pos rfl, if_pos (by omega)] at e2
      obtain rfl := Option.some.inj e1
      obtain rfl := Option.some.inj e2
      exact hst hr
    · rw [List.getElem?_set, if_neg (Ne.symm e3)] at e1
      rw [List.getElem?_set, if_neg (Ne.symm e3)] at e2
      exact hst (h3 i h l e1 e2)
/-- the wants of the first k places; the others have none yet -/
def partW (el : List Int) (M : List (List Bool)) (k : Nat) : List (List Nat) := (wantsS el M).take k ++ List.replicate (el.length - k) []
theorem partW_zero (el : List Int) (M : List (List Bool)) : partW el M 0 = List.replicate el.length [] := rfl
theorem partW_all (el : List Int) (M : List (List Bool)) : partW el M el.length = wantsS el M := by
  unfold partW
  rw [List.take_of_length_le (by rw [wantsS_length]; exact Nat.le_refl _)]
  simp
theorem partW_set {el : List Int} {M : List (List Bool)} {k : Nat} (hk : k < el.length) : (partW el M k).set k (wantedF (M.getD (el.getD k 0).toNat []) el) = partW el M (k + 1) := by
  have hl : ((wantsS el M).take k).length = k := by simp [wantsS_length]; omega
  have e1 : el.length - k = (el.length - (k + 1)) + 1 := by omega
  have e2 : (wantsS el M).take (k + 1) = (wantsS el M).take k ++ [wantedF (M.getD (el.getD k 0).toNat []) el] := by
    have hk2 : k < (wantsS el M).length := by rw [wantsS_length]; exact hk
    rw [List.take_succ_eq_append_getElem hk2]
    have := wantsS_get (M := M) hk
    rw [List.getD_eq_getElem?_getD, List.getElem?_eq_getElem hk2] at this
    rw [← this]
    rfl
  unfold partW
  rw [List.set_append, if_neg (by omega), hl, e1, List.replicate_succ, e2]
  simp
theorem partW_skip {el : List Int} {M : List (List Bool)} {k : Nat} (hk : k < el.length) (h : M.length ≤ (el.getD k 0).toNat) : partW el M (k + 1) = partW el M k := by
  rw [← partW_set hk]
  have e : M.getD (el.getD k 0).toNat [] = [] := by rw [List.getD_eq_getElem?_getD, List.getElem?_eq_none h]; rfl
  have hl : ((wantsS el M).take k).length = k := by simp [wantsS_length]; omega
  have e1 : el.length - k = (el.length - (k + 1)) + 1 := by omega
  rw [e]
  unfold partW
  rw [List.set_append, if_neg (by omega), hl, e1, List.replicate_succ]
  simp [wantedF, wantedS]
/-- the second loop under way -/
def GraphAt2 (w : World) (el : List Int) (M : List (List Bool)) (lv : Value) (B1 : Nat) (i : Value) (wr : World) : Prop :=
  ∃ k : Nat, k ≤ el.length ∧ i = .int .i64 (k : Int) ∧ wr.heap[w.heap.size + 1]? = some (.cells #[lv, .slice (some ⟨B1, 0, none⟩) el.length el.length, .slice (some ⟨B1 + 1, 0, none⟩) el.length el.length] 36 (0, 0)) ∧
    wr.heap[w.heap.size]? = some (.cells #[nilS, nilS, nilS] 36 (0, 0)) ∧ OwnI (w.heap.size + 3) wr lv el ∧ OwnGrid encN 3 22 (w.heap.size + 3) wr (.slice (some ⟨B1, 0, none⟩) el.length el.length) (partW el M k) ∧
    OwnRow encB 4 (w.heap.size + 3) wr (.slice (some ⟨B1 + 1, 0, none⟩) el.length el.length) (List.replicate el.length false) ∧ MapI wr (w.heap.size + 2) el ∧ Below w.heap.size w wr ∧ w.heap.size + 3 ≤ wr.heap.size
theorem graph2_start {w wr : World} {el : List Int} {lv : Value} (M : List (List Bool)) (hsm : el.length ≤ 1000000) (h1 : wr.heap[w.heap.size + 1]? = some (.cells #[lv, nilS, nilS] 36 (0, 0)))
    (h3 : wr.heap[w.heap.size]? = some (.cells #[nilS, nilS, nilS] 36 (0, 0))) (h2 : OwnI (w.heap.size + 3) wr lv el) (hm : MapI wr (w.heap.size + 2) el) (hb : Below w.heap.size w wr) (hs : w.heap.size + 3 ≤ wr.heap.size) :
    GraphAt2 w el M lv wr.heap.size (.int .i64 ((0 : Nat) : Int)) ((((wr.setCell ⟨w.heap.size + 1, 1, none⟩ (.slice (some ⟨wr.heap.size, 0, none⟩) el.length el.length)).alloc (.cells (nilRow el.length) 22)).alloc (.cells (falseRow el.length) 4)).setCell
      ⟨w.heap.size + 1, 2, none⟩ (.slice (some ⟨wr.heap.size + 1, 0, none⟩) el.length el.length)) := by
  have hsz : (wr.setCell ⟨w.heap.size + 1, 1, none⟩ (.slice (some ⟨wr.heap.size, 0, none⟩) el.length el.length)).heap.size = wr.heap.size := by simp [World.setCell]
  have k1 : (wr.setCell ⟨w.heap.size + 1, 1, none⟩ (.slice (some ⟨wr.heap.size, 0, none⟩) el.length el.length)).heap[w.heap.size + 1]? = some (.cells #[lv, .slice (some ⟨wr.heap.size, 0, none⟩) el.length el.length, nilS] 36 (0, 0)) := heap_setCell_same wr _ 1 _ _ _ h1
  have ko : ∀ j, j < wr.heap.size → j ≠ w.heap.size + 1 → ((((wr.setCell ⟨w.heap.size + 1, 1, none⟩ (.slice (some ⟨wr.heap.size, 0, none⟩) el.length el.length)).alloc (.cells (nilRow el.length) 22)).alloc (.cells (falseRow el.length) 4)).setCell
      ⟨w.heap.size + 1, 2, none⟩ (.slice (some ⟨wr.heap.size + 1, 0, none⟩) el.length el.length)).heap[j]? = wr.heap[j]? := fun j hj hne =>
    (Below.heap_setCell _ _ _ _ hne).trans ((Below.heap_alloc _ _ _ (by simp [hsz]; omega)).trans ((Below.heap_alloc _ _ _ (by rw [hsz]; exact hj)).trans (Below.heap_setCell _ _ _ _ hne)))
  have kb1 : ((((wr.setCell ⟨w.heap.size + 1, 1, none⟩ (.slice (some ⟨wr.heap.size, 0, none⟩) el.length el.length)).alloc (.cells (nilRow el.length) 22)).alloc (.cells (falseRow el.length) 4)).setCell
      ⟨w.heap.size + 1, 2, none⟩ (.slice (some ⟨wr.heap.size + 1, 0, none⟩) el.length el.length)).heap[wr.heap.size]? = some (.cells (nilRow el.length) 22 (0, 0)) := by
    refine (Below.heap_setCell _ _ _ _ (by show wr.heap.size ≠ w.heap.size + 1; omega)).trans ((Below.heap_alloc _ _ _ (by simp [hsz])).trans ?_)
    have := heap_alloc_new (wr.setCell ⟨w.heap.size + 1, 1, none⟩ (.slice (some ⟨wr.heap.size, 0, none⟩) el.length el.length)) (.cells (nilRow el.length) 22)
    rw [hsz] at this
    exact this
  have kb2 : ((((wr.setCell ⟨w.heap.size + 1, 1, none⟩ (.slice (some ⟨wr.heap.size, 0, none⟩) el.length el.length)).alloc (.cells (nilRow el.length) 22)).alloc (.cells (falseRow el.length) 4)).setCell
      ⟨w.heap.size + 1, 2, none⟩ (.slice (some ⟨wr.heap.size + 1, 0, none⟩) el.length el.length)).heap[wr.heap.size + 1]? = some (.cells (falseRow el.length) 4 (0, 0)) := by
    refine (Below.heap_setCell _ _ _ _ (by show wr.heap.size + 1 ≠ w.heap.size + 1; omega)).trans ?_
    have := heap_alloc_new ((wr.setCell ⟨w.heap.size + 1, 1, none⟩ (.slice (some ⟨wr.heap.size, 0, none⟩) el.length el.length)).alloc (.cells (nilRow el.length) 22)) (.cells (falseRow el.length) 4)
    simp only [World.size_alloc, hsz] at this
    exact this
  refine ⟨0, Nat.zero_le _, rfl, ?_, (ko _ (by omega) (by omega)).trans h3, h2.stay fun j hj => ko j (h2.blk j hj).2 (by have := h2.blk j hj; omega), ?_, ?_, hm.same (ko _ (by omega) (by omega)), ?_, ?_⟩
  · exact heap_setCell_same _ _ 2 _ _ _ ((Below.heap_alloc _ _ _ (by simp [hsz]; omega)).trans ((Below.heap_alloc _ _ _ (by rw [hsz]; omega)).trans k1))
  · refine ⟨List.replicate el.length (none, 0, 0), own_block (by omega) (by simp) hsm kb1, by simp [partW_zero], fun i h l e1 e2 => ?_⟩
    rw [List.getElem?_replicate] at e1
    rw [partW_zero, List.getElem?_replicate] at e2
    by_cases hi : i < el.length
    · rw [if_pos hi] at e1 e2
      obtain rfl := Option.some.inj e1
      obtain rfl := Option.some.inj e2
      exact OwnRow.nil _ _ _ _
    · rw [if_neg hi] at e1
      cases e1
  · exact own_block (by omega) (by simp) hsm kb2
  · exact ⟨hb.os, hb.tape, hb.output, by have := hb.size; simp [World.setCell]; omega, fun j hj => (ko j (by have := hb.size; omega) (by omega)).trans (hb.block j hj)⟩
  · simp [World.setCell]; omega
theorem OwnGrid.keep {α : Type} {enc : α → Value} {e t : TypeId} {B : Nat} {w w' : World} {v : Value} {M : List (List α)} (h : OwnGrid enc e t B w v M) (hk : ∀ k, B ≤ k → k < w.heap.size → w'.heap[k]? = w.heap[k]?) : OwnGrid enc e t B w' v M := by
  obtain ⟨hs, h1, h2, h3⟩ := h
  exact ⟨hs, h1.keep hk, h2, fun i h l e1 e2 => (h3 i h l e1 e2).keep hk⟩
theorem OwnGrid.mono {α : Type} {enc : α → Value} {e t : TypeId} {B B' : Nat} {w : World} {v : Value} {M : List (List α)} (h : OwnGrid enc e t B w v M) (hB : B' ≤ B) : OwnGrid enc e t B' w v M := by
  obtain ⟨hs, h1, h2, h3⟩ := h
  exact ⟨hs, h1.mono hB, h2, fun i h l e1 e2 => (h3 i h l e1 e2).mono hB⟩
/-- a graph in new memory: its elements, their wants, none removed -/
def GraphRes (el : List Int) (M : List (List Bool)) (w : World) : Ending → World → Prop := fun e w' => ∃ lv wv rv, e = .returned (.agg #[lv, wv, rv]) ∧ OwnI w.heap.size w' lv el ∧ OwnGrid encN 3 22 w.heap.size w' wv (wantsS el M) ∧
  OwnRow encB 4 w.heap.size w' rv (List.replicate el.length false) ∧ Below w.heap.size w w'
theorem graph_done {w wr w' : World} {el : List Int} {M : List (List Bool)} {lv wv rv : Value} (ho : OwnI (w.heap.size + 3) wr lv el) (hgr : OwnGrid encN 3 22 (w.heap.size + 3) wr wv (partW el M el.length))
    (hfr : OwnRow encB 4 (w.heap.size + 3) wr rv (List.replicate el.length false)) (hb : Below w.heap.size w wr) (hs : w'.os = wr.os ∧ w'.tape = wr.tape ∧ w'.output = wr.output ∧ w'.heap.size = wr.heap.size) (hk : ∀ j, j ≠ w.heap.size → w'.heap[j]? = wr.heap[j]?) :
    GraphRes el M w (.returned (.agg #[lv, wv, rv])) w' := by
  rw [partW_all] at hgr
  refine ⟨lv, wv, rv, rfl, (ho.keep fun j hj _ => hk j (by omega)).mono (by omega), (hgr.keep fun j hj _ => hk j (by omega)).mono (by omega), (hfr.keep fun j hj _ => hk j (by omega)).mono (by omega), ⟨hs.1.trans hb.os, hs.2.1.trans hb.tape, hs.2.2.1.trans hb.output, by have := hb.size; omega, fun j hj => (hk j (by omega)).trans (hb.block j hj)⟩⟩
theorem graph_next {w wr w1 w2 : World} {el : List Int} {M : List (List Bool)} {lv : Value} {B1 k : Nat} {hd : Hd} (hk : k < el.length) (h1 : wr.heap[w.heap.size + 1]? = some (.cells #[lv, .slice (some ⟨B1, 0, none⟩) el.length el.length, .slice (some ⟨B1 + 1, 0, none⟩) el.length el.length] 36 (0, 0)))
    (h3 : wr.heap[w.heap.size]? = some (.cells #[nilS, nilS, nilS] 36 (0, 0))) (ho : OwnI (w.heap.size + 3) wr lv el) (hgr : OwnGrid encN 3 22 (w.heap.size + 3) wr (.slice (some ⟨B1, 0, none⟩) el.length el.length) (partW el M k))
    (hfr : OwnRow encB 4 (w.heap.size + 3) wr (.slice (some ⟨B1 + 1, 0, none⟩) el.length el.length) (List.replicate el.length false)) (hm : MapI wr (w.heap.size + 2) el) (hb : Below w.heap.size w wr) (hs : w.heap.size + 3 ≤ wr.heap.size)
    (hb1 : Below wr.heap.size wr w1) (hr : OwnRow encN 3 wr.heap.size w1 (encH hd) (wantedF (M.getD (el.getD k 0).toNat []) el)) (h2 : w2 = w1.setCell ⟨B1, k, none⟩ (encH hd)) :
    GraphAt2 w el M lv B1 (.int .i64 ((k : Int) + 1)) w2 := by
  subst h2
  have hB1 : w.heap.size + 3 ≤ B1 ∧ B1 < wr.heap.size := by
    obtain ⟨hs0, hw0, -⟩ := hgr
    exact hw0.blk B1 rfl
  have hg2 := (hgr.below hb1 (Nat.le_refl _)).set (k := k) (r := wantedF (M.getD (el.getD k 0).toNat []) el) (hd := hd) (by decide) hk (hr.mono (by omega))
  rw [partW_set hk] at hg2
  have hst : ∀ j, j < wr.heap.size → j ≠ B1 → (w1.setCell ⟨B1, k, none⟩ (encH hd)).heap[j]? = wr.heap[j]? := fun j hj hne => (Below.heap_setCell _ _ _ _ hne).trans (hb1.block j hj)
  refine ⟨k + 1, hk, rfl, (hst _ (by omega) (by omega)).trans h1, (hst _ (by omega) (by omega)).trans h3, ?_, hg2, ?_, hm.same (hst _ (by omega) (by omega)), ?_, ?_⟩
  · refine ho.stay fun j hj => ?_
    have hj2 := ho.blk j hj
    refine hst j hj2.2 fun e => ?_
    subst e
    obtain ⟨hs0, hw0, -⟩ := hgr
    exact hw0.apart ho (by decide) (g := j) rfl hj
  · refine hfr.stay fun j hj => ?_
    have hj2 := hfr.blk j hj
    refine hst j hj2.2 fun e => ?_
    subst e
    obtain ⟨hs0, hw0, -⟩ := hgr
    exact hw0.apart hfr (by decide) (g := j) rfl hj
  · exact (hb.trans (hb1.mono hb.size)).setCell (by show w.heap.size ≤ B1; omega) _
  · have := hb1.size
    simp [World.setCell]
    omega
set_option maxHeartbeats 4000000 in
set_option maxRecDepth 100000 in
theorem newGraph (w : World) (v nv : Value) (left : List Int) (M : List (List Bool)) (hv : Ints w v left) (hwf : ∀ x, x ∈ left → wfI x) (hM : Grid encB 0 w.heap.size w nv M) (hsm : left.length ≤ 1000000) :
    Calls Try.prog 19 #[v, nv] w (GraphRes (Dep.elemS [] left) M w) := by
  have hmm := @run_makeMap Try.prog
  have HV := Lib.hid hv
  have HM := Lib.hid hM
  have HWF := Lib.hid hwf
  obtain ⟨a, cap, rfl, hc1, hc2, -, hcell⟩ := hv
  obtain ⟨a2, cap2, rfl, hc3, hc4⟩ := hM.len
  unfold maxLen at hc2 hc3
  have D := Lib.hid hcell
  clear hM hcell hwf
  go_enter Try.func19, Try.ntmps19
  go_wp2_with fail
  go_loopw [17] (fun i wr => GraphAt w left i wr) (fun i _ => left.length - (intOf i).toNat)
  case atStart => exact graph_start w left
  case round =>
    clear hmm
    obtain ⟨k, out, lv, hk, rfl, he, hl, hm, h1, h2, h3, hb, hs⟩ := hrel
    have HH := Lib.hid (And.intro he (And.intro h1 (And.intro h3 hb)))
    have H2 := Lib.hid h2
    have HMM := Lib.hid hm
    have c0 : wr.cell? ⟨w.heap.size + 1, 0, none⟩ = some lv := by
      simp only [World.cell?]
      rw [h1]
      rfl
    obtain ⟨al, cl, rfl, hl1, hl2, -, -⟩ := h2.row
    by_cases hlt : k < left.length
    · have i1 : (k : Int) < (left.length : Int) := by omega
      have hki : (0 : Int) ≤ (k : Int) ∧ (k : Int) < (left.length : Int) := by omega
      have f0 : wr.frozen? ⟨w.heap.size + 1, 0, none⟩ = false := by simp [World.frozen?, h1]
      obtain ⟨bx, ox, rfl, -, -, hbx, hcx⟩ := D.out k _ (getD_get (d := 0) hlt)
      have cx : wr.cell? ⟨bx, ox + k, none⟩ = some (.int .i64 (left.getD k 0)) := (hb.cell (p := ⟨bx, ox + k, none⟩) hbx).trans hcx
      obtain ⟨n, E, hown, hn, hhas, hat⟩ := hm
      have hwx := HWF.out _ (getD_mem (d := 0) hlt)
      have hkey := keyOf_int_mk Try.underlying3 hwx
      have hdec0 := hhas _ hwx
      have HHAS := Lib.hid hhas
      have HAT := Lib.hid hat
      have HLT := Lib.hid hlt
      have HXX := Lib.hid (fun (wx : World) (h : ¬ (0 ≤ left.getD k 0 ∧ left.getD k 0 ∉ out)) (h4 : wx = wr) => (by subst h4; exact GraphAt.skip HLT.out h HH.out.1 hl HMM.out HH.out.2.1 H2.out HH.out.2.2.1 HH.out.2.2.2 hs : GraphAt w left (.int .i64 ((k : Int) + 1)) wx))
      have HPP := Lib.hid (fun (w1 w2 : World) (v2 : Value) hx hm1 hg ho hb2 => GraphAt.push (w := w) (wr := wr) (w1 := w1) (w2 := w2) (v2 := v2) HLT.out hx HH.out.1 hl hm1 HH.out.2.1 HH.out.2.2.1 HH.out.2.2.2 hs hg ho hb2)
      have HNE := Lib.hid hn
      generalize left.getD k 0 = x at *
      clear hcx he h1 h2 h3 hb hhas hat hl1
      by_cases hx0 : 0 ≤ x
      · by_cases hxm : x ∈ out
        · have hdec : Maps.has E (.int .i64 x) = true := by rw [hdec0]; exact decide_eq_true hxm
          have HREL := Lib.hid (HXX.out wr (fun h => h.2 hxm) rfl)
          clear hdec0 hxm HPP HXX
          go_wp2_with (at_lookup; refine wpList_lookup_own_ok_int _ rfl _ _ 44 rfl 3 3 .i64 lawI Try.underlying44 Try.underlying3 (zeroI _) (w.heap.size + 2) n E rfl hown _ _ rfl hkey ?_)
          intro c _ _
          clear hown
          go_wp2_with fail
          go_roundw
          case rel => exact HREL.out
          case measure => simp [intOf]; omega
        · have hdec : Maps.has E (.int .i64 x) = false := by rw [hdec0]; exact decide_eq_false hxm
          have HXN := Lib.hid (And.intro hx0 hxm)
          clear hdec0 hxm HXX
          go_wp2_with (at_lookup; refine wpList_lookup_own_ok_int _ rfl _ _ 44 rfl 3 3 .i64 lawI Try.underlying44 Try.underlying3 (zeroI _) (w.heap.size + 2) n E rfl hown _ _ rfl hkey ?_)
          intro c _ _
          go_wp2_with (at_mapUpdate; refine wpList_mapUpdate_own _ rfl _ _ _ 44 rfl 3 3 lawI Try.underlying44 _ (w.heap.size + 2) n E rfl hown (by unfold maxLen; omega) _ _ _ rfl rfl hkey _ [] (plainElem_int Try.underlying3 (wfI_nat (by omega))) ?_)
          intro w1 hown1 hg1
          have HM1 := Lib.hid (MapI.put hown.isMap HNE.out HHAS.out HAT.out HXN.out.2 hown1)
          have HG1 := Lib.hid hg1
          have ho1 : OwnI (w.heap.size + 3) w1 (.slice al out.length cl) out := H2.out.stay fun j hj => hg1.block j (H2.out.blk j hj).2 (by have := H2.out.blk j hj; simp; omega)
          have hsz1 : w.heap.size + 3 ≤ w1.heap.size := by have := hg1.size; omega
          have hblk1 : w1.heap[w.heap.size + 1]? = wr.heap[w.heap.size + 1]? := hg1.block _ (by omega) (by simp)
          have c1 : w1.cell? ⟨w.heap.size + 1, 0, none⟩ = some (.slice al out.length cl) := (World.cell?_of_block (a := ⟨w.heap.size + 1, 0, none⟩) hblk1).trans c0
          have f1 : w1.frozen? ⟨w.heap.size + 1, 0, none⟩ = false := (World.frozen?_of_block (a := ⟨w.heap.size + 1, 0, none⟩) hblk1).trans f0
          clear hown hown1 hg1 hblk1
          go_wp2_with (refine wpList_push_int rfl (.tmp 39) (.tmp 41) rfl rfl ho1 x rfl rfl (by omega) hsz1 (Below.refl (w.heap.size + 3) w1) ?_)
          intro v2 w2 ho2 hb2
          obtain ⟨a3, n3, cap3, rfl⟩ : ∃ a n cap, v2 = .slice a n cap := by obtain ⟨a, cap, e, -⟩ := ho2.row; exact ⟨a, _, cap, e⟩
          have HREL := Lib.hid (HPP.out w1 w2 _ HXN.out HM1.out HG1.out ho2 hb2)
          have c2 : w2.cell? ⟨w.heap.size + 1, 0, none⟩ = some (.slice al out.length cl) := (hb2.cell (p := ⟨w.heap.size + 1, 0, none⟩) (by show w.heap.size + 1 < w.heap.size + 3; omega)).trans c1
          have f2 : w2.frozen? ⟨w.heap.size + 1, 0, none⟩ = false := (World.frozen?_of_block (a := ⟨w.heap.size + 1, 0, none⟩) (hb2.block (w.heap.size + 1) (by omega))).trans f1
          clear ho1 ho2 hb2 HPP HM1 HG1
          go_wp2_with fail
          go_roundw
          case rel => exact HREL.out
          case measure => simp [intOf]; omega
      · have HREL := Lib.hid (HXX.out wr (fun h => hx0 h.1) rfl)
        cases hdec : Maps.has E (.int .i64 x) with
        | true =>
          clear hdec0 HPP HXX
          go_wp2_with (at_lookup; refine wpList_lookup_own_ok_int _ rfl _ _ 44 rfl 3 3 .i64 lawI Try.underlying44 Try.underlying3 (zeroI _) (w.heap.size + 2) n E rfl hown _ _ rfl hkey ?_)
          intro c _ _
          clear hown
          go_wp2_with fail
          go_roundw
          case rel => exact HREL.out
          case measure => simp [intOf]; omega
        | false =>
          clear hdec0 HPP HXX
          go_wp2_with (at_lookup; refine wpList_lookup_own_ok_int _ rfl _ _ 44 rfl 3 3 .i64 lawI Try.underlying44 Try.underlying3 (zeroI _) (w.heap.size + 2) n E rfl hown _ _ rfl hkey ?_)
          intro c _ _
          clear hown
          go_wp2_with fail
          go_roundw
          case rel => exact HREL.out
          case measure => simp [intOf]; omega
    · obtain rfl : k = left.length := by omega
      have HST := Lib.hid (graph2_start M (show out.length ≤ 1000000 by omega) h1 h3 h2 hm hb hs)
      have HEL : Hid (out = Dep.elemS [] left) := Lib.hid (by rw [← he, List.drop_length]; rfl)
      have hmk1 := fun u : World => run_make_slices u out.length (by omega)
      have hmk2 := fun u : World => run_make_bools u out.length (by omega)
      have f0 : ∀ j, wr.frozen? ⟨w.heap.size + 1, j, none⟩ = false := fun j => by simp [World.frozen?, h1]
      have f1 := f0 1
      have f2 := f0 2
      have c1 : wr.cell? ⟨w.heap.size + 1, 1, none⟩ = some nilS := by
        simp only [World.cell?]
        rw [h1]
        rfl
      have c2 : wr.cell? ⟨w.heap.size + 1, 2, none⟩ = some nilS := by
        simp only [World.cell?]
        rw [h1]
        rfl
      have hba := below_alloc1 wr (.cells (nilRow out.length) 22)
      have hN1 : w.heap.size + 1 < wr.heap.size := by omega
      have d0 := (hba.cell (p := ⟨w.heap.size + 1, 0, none⟩) hN1).trans c0
      have d1 := (hba.cell (p := ⟨w.heap.size + 1, 1, none⟩) hN1).trans c1
      have d2 := (hba.cell (p := ⟨w.heap.size + 1, 2, none⟩) hN1).trans c2
      have g1 := (hba.frozen (p := ⟨w.heap.size + 1, 1, none⟩) hN1).trans f1
      have g2 := (hba.frozen (p := ⟨w.heap.size + 1, 2, none⟩) hN1).trans f2
      have k1 : (wr.setCell ⟨w.heap.size + 1, 1, none⟩ (.slice (some ⟨wr.heap.size, 0, none⟩) out.length out.length)).heap[w.heap.size + 1]? = some (.cells #[.slice al out.length cl, .slice (some ⟨wr.heap.size, 0, none⟩) out.length out.length, nilS] 36 (0, 0)) := heap_setCell_same wr _ 1 _ _ _ h1
      have k2 := heap_setCell_same _ _ 2 _ _ (.slice (some ⟨wr.heap.size + 1, 0, none⟩) out.length out.length) k1
      have sz1 : w.heap.size + 1 < (wr.setCell ⟨w.heap.size + 1, 1, none⟩ (.slice (some ⟨wr.heap.size, 0, none⟩) out.length out.length)).heap.size := lt_of_block k1
      have sz2 : w.heap.size + 1 < ((wr.setCell ⟨w.heap.size + 1, 1, none⟩ (.slice (some ⟨wr.heap.size, 0, none⟩) out.length out.length)).setCell ⟨w.heap.size + 1, 2, none⟩ (.slice (some ⟨wr.heap.size + 1, 0, none⟩) out.length out.length)).heap.size := lt_of_block k2
      have K1 := (Below.heap_alloc _ (.cells (falseRow out.length) 4) _ (by simp; omega)).trans ((Below.heap_alloc _ (.cells (nilRow out.length) 22) _ sz1).trans k1)
      have K2 := (Below.heap_alloc _ (.cells (falseRow out.length) 4) _ (by simp; omega)).trans ((Below.heap_alloc _ (.cells (nilRow out.length) 22) _ sz2).trans k2)
      have x0 := cell_of_three K1 0
      have x2 := cell_of_three K1 2
      have y2 := free_of_cells K1 2
      have z0 := cell_of_three K2 0
      simp only [List.getElem?_toArray, List.getElem?_cons_zero, List.getElem?_cons_succ] at x0 x2 z0
      clear he h1 h2 h3 hb hm f0 hba k1 k2 sz1 sz2 K1 K2
      go_wp2_with fail
      have HG : Hid (Dep.Good out) := Lib.hid (by rw [HEL.out]; exact Dep.elems_good left)
      obtain ⟨B1, hB1⟩ : ∃ B1, B1 = wr.heap.size := ⟨_, rfl⟩
      rw [← hB1] at HST
      clear c1 c2 d0 d1 d2 g1 g2 x0 x2 y2 f1 f2 hmk1 hmk2 c0 HH H2 HMM
      go_loopw [58] (fun i wx => GraphAt2 w out M (.slice al out.length cl) B1 i wx) (fun i _ => out.length - (intOf i).toNat)
      case atStart => subst hB1; exact HST.out
      case round =>
        clear hB1 HST
        obtain ⟨k, hk, rfl, h1, h3, ho, hgr, hfr, hm, hb, hs⟩ := hrel
        have e0 := cell_of_three h1 0
        have e1 := cell_of_three h1 1
        have e2 := cell_of_three h1 2
        simp only [List.getElem?_toArray, List.getElem?_cons_zero, List.getElem?_cons_succ] at e0 e1 e2
        have HH := Lib.hid (And.intro h1 (And.intro h3 (And.intro ho (And.intro hgr (And.intro hfr (And.intro hm (And.intro hb hs)))))))
        by_cases hlt : k < out.length
        · have i1 : (k : Int) < (out.length : Int) := by omega
          have hki : (0 : Int) ≤ (k : Int) ∧ (k : Int) < (out.length : Int) := by omega
          obtain ⟨gl, rfl, -, -, cx, -, -⟩ := ho.place 0 hlt
          obtain ⟨x, hx⟩ : ∃ x : Nat, out.getD k 0 = (x : Int) := ⟨(out.getD k 0).toNat, by have := HG.out.2 _ (getD_mem (d := 0) hlt); omega⟩
          rw [hx] at cx
          replace cx : wr.cell? ⟨gl, k, none⟩ = some (.int .i64 (x : Int)) := cx
          have HLT := Lib.hid hlt
          have HX := Lib.hid hx
          clear h1 h3 ho hx
          by_cases hxm : x < M.length
          · have i2 : (x : Int) < (M.length : Int) := by omega
            have hxi : (0 : Int) ≤ (x : Int) ∧ (x : Int) < (M.length : Int) := by omega
            obtain ⟨bn, on, hd, rfl, -, -, hbn0, cn0, hrn1⟩ := HM.out.row hxm
            have hrn := hrn1.under hb (Nat.le_refl _)
            have hbn : bn < wr.heap.size := Nat.lt_of_lt_of_le hbn0 hb.size
            have cn := (hb.cell (p := ⟨bn, on + x, none⟩) hbn0).trans cn0
            have hrn0 := hrn
            obtain ⟨ar, capr, ehd, -, -, -, -⟩ := hrn
            rw [ehd] at cn hrn0
            obtain ⟨hs0, hw0, hw1, hw2⟩ := hgr
            obtain ⟨g9, e9, -, -, cs, fs, -⟩ := hw0.place (none, 0, 0) hlt
            obtain rfl : B1 = g9 := by injection e9 with e9; injection e9
            have HCS := Lib.hid (And.intro cs fs)
            have hN1 : w.heap.size + 1 < wr.heap.size := by omega
            have hrl : out.length ≤ 1000000 := by omega
            have HB1 : Hid (B1 < wr.heap.size) := Lib.hid (hw0.blk B1 rfl).2
            have hne1 : w.heap.size + 1 ≠ B1 := by have := (hw0.blk B1 rfl).1; omega
            have hne2 : bn ≠ B1 := by have := (hw0.blk B1 rfl).1; omega
            have HC : Hid (∀ u : World, Below wr.heap.size wr u → Calls Try.prog 27 #[.slice ar (M.getD x []).length capr, .map (some (w.heap.size + 1 + 1))] u fun e w' => ∃ hd2 : Hd, e = .returned (.slice hd2.1 hd2.2.1 hd2.2.2) ∧
                OwnRow encN 3 wr.heap.size w' (encH hd2) (wantedF (M.getD (out.getD k 0).toNat []) out) ∧ Below wr.heap.size wr w') := Lib.hid fun u hu =>
              (wanted u (w.heap.size + 2) out _ (M.getD x []) (hm.below hu) (hrn0.under hu (Nat.le_refl _)) hrl).mono fun e w' ⟨v2, h4, h5, h6⟩ => by
                obtain ⟨a4, c4, e4, -⟩ := h5.row
                refine ⟨(a4, _, c4), by rw [h4, e4], ?_, hu.trans (h6.mono hu.size)⟩
                rw [HX.out]
                have := h5.mono hu.size
                rw [e4] at this
                exact this
            have HN := Lib.hid (fun (w1 w2 : World) (hd : Hd) hb1 hr h2 => graph_next (w := w) (wr := wr) (w1 := w1) (w2 := w2) (hd := hd) HLT.out HH.out.1 HH.out.2.1 HH.out.2.2.1 HH.out.2.2.2.1 HH.out.2.2.2.2.1 HH.out.2.2.2.2.2.1 HH.out.2.2.2.2.2.2.1 HH.out.2.2.2.2.2.2.2 hb1 hr h2)
            generalize wantedF (M.getD (out.getD k 0).toNat []) out = nw at HC HN
            generalize (M.getD x []).length = rl at *
            clear hfr hw0 hw1 hw2 e9 cs fs hm hb hrn0 hrl ehd hrn1 cn0
            go_wp2_with fail
            go_region_held3 (fun w' => w'.cell? ⟨w.heap.size + 1, 1, none⟩ = some (.slice (some ⟨B1, 0, none⟩) out.length out.length) ∧ w'.cell? ⟨bn, on + x, none⟩ = some (.slice ar rl capr))
              (first | go_keep | (exact ⟨(hb5.cell (p := ⟨w.heap.size + 1, 1, none⟩) hN1).trans e1, (hb5.cell (p := ⟨bn, on + x, none⟩) hbn).trans cn⟩) | (exact ⟨(World.cell?_of_block (Below.heap_setCell _ _ _ _ hne1)).trans ((hb5.cell (p := ⟨w.heap.size + 1, 1, none⟩) hN1).trans e1), (World.cell?_of_block (Below.heap_setCell _ _ _ _ hne2)).trans ((hb5.cell (p := ⟨bn, on + x, none⟩) hbn).trans cn)⟩))
              (first
                | (go_at_call 27; refine (HC.out _ ?_).mono ?_; (go_grown); rintro e w1 ⟨⟨a5, n5, c5⟩, rfl, ho5, hb5⟩; have c9 := (hb5.cell (p := ⟨B1, k, none⟩) HB1.out).trans HCS.out.1; have f9 := (hb5.frozen (p := ⟨B1, k, none⟩) HB1.out).trans HCS.out.2))
            have HREL := Lib.hid (HN.out w1 _ (a5, n5, c5) hb5 ho5 rfl)
            clear hb5 ho5 HN HC
            go_wp2_with fail
            go_roundw
            case rel => exact HREL.out
            case measure => simp [intOf]; omega
          · have i2 : ¬ (x : Int) < (M.length : Int) := by omega
            have HSK := Lib.hid (partW_skip (M := M) hlt (by rw [HX.out]; omega))
            clear hgr hfr hm hb
            go_wp2_with fail
            go_roundw
            case rel => exact ⟨k + 1, HLT.out, by go_num, HH.out.1, HH.out.2.1, HH.out.2.2.1, by rw [HSK.out]; exact HH.out.2.2.2.1, HH.out.2.2.2.2⟩
            case measure => simp [intOf]; omega
        · obtain rfl : k = out.length := by omega
          have m0 := cell_of_three h3 0
          have m1 := cell_of_three h3 1
          have m2 := cell_of_three h3 2
          have n0 := free_of_cells h3 0
          have n1 := free_of_cells h3 1
          have n2 := free_of_cells h3 2
          simp only [List.getElem?_toArray, List.getElem?_cons_zero, List.getElem?_cons_succ] at m0 m1 m2
          have q0 := heap_setCell_same _ _ 2 _ _ (.slice (some ⟨B1 + 1, 0, none⟩) out.length out.length) (heap_setCell_same _ _ 1 _ _ (.slice (some ⟨B1, 0, none⟩) out.length out.length) (heap_setCell_same wr _ 0 _ _ (.slice al out.length cl) h3))
          have r0 := cell_of_three q0 0
          have r1 := cell_of_three q0 1
          have r2 := cell_of_three q0 2
          have r0' : (((wr.setCell ⟨w.heap.size, 0, none⟩ (.slice al out.length cl)).setCell ⟨w.heap.size, 1, none⟩ (.slice (some ⟨B1, 0, none⟩) out.length out.length)).setCell ⟨w.heap.size, 2, none⟩ (.slice (some ⟨B1 + 1, 0, none⟩) out.length out.length)).cell? ⟨w.heap.size, 0, none⟩ = some (.slice al out.length cl) := r0
          have r1' : (((wr.setCell ⟨w.heap.size, 0, none⟩ (.slice al out.length cl)).setCell ⟨w.heap.size, 1, none⟩ (.slice (some ⟨B1, 0, none⟩) out.length out.length)).setCell ⟨w.heap.size, 2, none⟩ (.slice (some ⟨B1 + 1, 0, none⟩) out.length out.length)).cell? ⟨w.heap.size, 1, none⟩ = some (.slice (some ⟨B1, 0, none⟩) out.length out.length) := r1
          have r2' : (((wr.setCell ⟨w.heap.size, 0, none⟩ (.slice al out.length cl)).setCell ⟨w.heap.size, 1, none⟩ (.slice (some ⟨B1, 0, none⟩) out.length out.length)).setCell ⟨w.heap.size, 2, none⟩ (.slice (some ⟨B1 + 1, 0, none⟩) out.length out.length)).cell? ⟨w.heap.size, 2, none⟩ = some (.slice (some ⟨B1 + 1, 0, none⟩) out.length out.length) := r2
          clear hgr hfr hm hb ho h1 h3 r0 r1 r2 q0
          go_wp2_with fail
          refine bodyPost_ret (v := .agg #[.slice al out.length cl, .slice (some ⟨B1, 0, none⟩) out.length out.length, .slice (some ⟨B1 + 1, 0, none⟩) out.length out.length]) (by simp [results, Try.results19, go_sem, r0', r1', r2']) rfl ?_
          rw [← HEL.out]
          refine graph_done HH.out.2.2.1 HH.out.2.2.2.1 HH.out.2.2.2.2.1 HH.out.2.2.2.2.2.2.1 ⟨rfl, rfl, rfl, by simp [World.setCell]⟩ fun j hj => ?_
          exact (Below.heap_setCell _ _ _ _ hj).trans ((Below.heap_setCell _ _ _ _ hj).trans (Below.heap_setCell _ _ _ _ hj))
end Go.Proofs.Ytkocfhacfmlmaaa
