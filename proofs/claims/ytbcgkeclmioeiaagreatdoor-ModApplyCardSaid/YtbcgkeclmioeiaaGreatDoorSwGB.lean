/-
  MERGED: RowS, RowM, TrRows, OpenS, EqDeep, PartOf, ModEnv, Frame. By an AI agent.
-/
import Derived.Test.YtbcgkeclmioeiaaGreatDoorProg
import Derived.WalkKit
import Derived.OwnWalk
import Derived.Laws.AppendOwn
import Derived.Laws.OwnMore
import Derived.Deep.MidRow
import Derived.Test.YtbcgkeclmioeiaaGreatDoorSwGA
import Derived.Deep.Slices
import Derived.OpenShut
import Derived.DataOpen
import Derived.DeepKeys
import Derived.RowKit
import Derived.MapViews
import Derived.Test.YtbcgkeclmioeiaaGreatDoorRows
import Derived.Lib.LaidTab
import Derived.LaidMore
import Derived.Stop.LaidErr
import Derived.LaidLaws
import Derived.MakeChecks
import Derived.Lay
import Derived.HandedShaped
import Derived.ProofKit
import Derived.Carry
import Derived.ChangeSame
namespace Go.Proofs.YtbcgkeclmioeiaaGreatDoor
open Go.RowKit

/-- the cells of a list of structs, one behind the other -/
def flat (l : List (Array Value)) : List Value := l.flatMap (·.toList)
theorem flat_cons (x : Array Value) (l : List (Array Value)) : flat (x :: l) = x.toList ++ flat l := by simp [flat]
theorem flat_app (a b : List (Array Value)) : flat (a ++ b) = flat a ++ flat b := by simp [flat]
theorem flat_len {n : Nat} : ∀ {l : List (Array Value)}, (∀ x ∈ l, x.size = n) → (flat l).length = l.length * n
  | [], _ => by simp [flat]
  | x :: l, h => by
    have h1 := h x (by simp)
    have h2 := flat_len (l := l) fun y hy => h y (List.mem_cons_of_mem _ hy)
    rw [flat_cons, List.length_append, h2, List.length_cons, Array.length_toList, h1, Nat.add_mul, Nat.one_mul, Nat.add_comm]
theorem flat_at {n : Nat} : ∀ {l : List (Array Value)} {i j : Nat} {x : Array Value} {u : Value}, (∀ x ∈ l, x.size = n) → l[i]? = some x → x[j]? = some u → (flat l)[i * n + j]? = some u
  | [], i, _, _, _, _, h, _ => by simp at h
  | y :: l, 0, j, x, u, hs, h, hu => by
    simp at h
    subst h
    have hj : j < y.size := (Array.getElem?_eq_some_iff.1 hu).1
    rw [flat_cons, Nat.zero_mul, Nat.zero_add, List.getElem?_append_left (by simpa using hj)]
    simpa using hu
  | y :: l, i + 1, j, x, u, hs, h, hu => by
    have h1 := hs y (by simp)
    have h2 := flat_at (l := l) (i := i) (j := j) (fun z hz => hs z (List.mem_cons_of_mem _ hz)) (by simpa using h) hu
    rw [flat_cons, List.getElem?_append_right (by rw [Array.length_toList, h1, Nat.add_mul]; omega), Array.length_toList, h1, show (i + 1) * n + j - n = i * n + j by rw [Nat.add_mul]; omega]
    exact h2
/-- the value v is a slice that reads as the structs l -/
def RowS (n : Nat) (w : World) (v : Value) (l : List (Array Value)) : Prop :=
  ∃ a cap, v = .slice a l.length cap ∧ l.length ≤ cap ∧ cap ≤ maxLen ∧ (∀ x ∈ l, x.size = n) ∧ ∀ (i : Nat) x, l[i]? = some x → ∃ b o, a = some ⟨b, o, none⟩ ∧ b < w.heap.size ∧ w.rangeAt b (o + i * n) x.toList
/-- the value v is a slice in new memory (from block B on) that holds just the structs l -/
def OwnRowS (e : TypeId) (n B : Nat) (w : World) (v : Value) (l : List (Array Value)) : Prop := (∀ x ∈ l, x.size = n) ∧ w.ownsRow B e n v l.length (flat l)
theorem RowS.nil (n : Nat) (w : World) : RowS n w (.slice none 0 0) [] := ⟨none, 0, rfl, Nat.le_refl _, by decide, by simp, fun i x h => by simp at h⟩
theorem RowS.below {n C : Nat} {w w' : World} {v : Value} {l : List (Array Value)} (h : RowS n w v l) (hb : Below C w w') (hC : w.heap.size ≤ C) : RowS n w' v l := by
  obtain ⟨a, cap, rfl, h1, h2, h3, h4⟩ := h
  refine ⟨a, cap, rfl, h1, h2, h3, fun i x hx => ?_⟩
  obtain ⟨b, o, e, h5, h6⟩ := h4 i x hx
  exact ⟨b, o, e, Nat.lt_of_lt_of_le h5 hb.size, fun j u hu => by rw [hb.cell (p := ⟨b, _, none⟩) (Nat.lt_of_lt_of_le h5 hC)]; exact h6 j u hu⟩
theorem RowS.shape {n : Nat} {w : World} {v : Value} {l : List (Array Value)} (h : RowS n w v l) : (∃ a cap, v = .slice a 0 cap ∧ l = []) ∨
    ∃ b o cap, v = .slice (some ⟨b, o, none⟩) l.length cap ∧ 0 < l.length ∧ b < w.heap.size ∧ l.length ≤ cap ∧ cap ≤ maxLen ∧ (∀ x ∈ l, x.size = n) ∧ ∀ (i : Nat) x, l[i]? = some x → w.rangeAt b (o + i * n) x.toList := by
  obtain ⟨a, cap, rfl, h1, h2, h3, h4⟩ := h
  cases l with
  | nil => exact .inl ⟨a, cap, rfl, rfl⟩
  | cons y r =>
    obtain ⟨b, o, rfl, h5, _⟩ := h4 0 y rfl
    refine .inr ⟨b, o, cap, rfl, by simp, h5, h1, h2, h3, fun i x hx => ?_⟩
    obtain ⟨b', o', e, _, h6⟩ := h4 i x hx
    injection e with e
    injection e with e1 e2
    subst e1 e2
    exact h6
theorem OwnRowS.nil (e : TypeId) (n B : Nat) (w : World) : OwnRowS e n B w (.slice none 0 0) [] := ⟨by simp, World.ownsRow_nil _ _ _ _⟩
theorem OwnRowS.row {e : TypeId} {n B : Nat} {w : World} {v : Value} {l : List (Array Value)} (h : OwnRowS e n B w v l) : RowS n w v l := by
  obtain ⟨hs, h⟩ := h
  rcases h.2 with ⟨hv, hn⟩ | ⟨g, cap, cur, hv, hB, hg, hc, hm, _⟩
  · rw [hv, List.eq_nil_of_length_eq_zero hn]; exact RowS.nil n w
  · refine ⟨_, cap, hv, hc, hm, hs, fun i x hx => ⟨g, 0, rfl, (Array.getElem?_eq_some_iff.1 hg).1, fun j u hu => ?_⟩⟩
    have hcell := World.ownsRow.cells h (g := g) (by rw [hv]; rfl) (i * n + j) u (flat_at hs hx (by simpa using hu))
    have hadd : (⟨g, 0, none⟩ : Addr).add (i * n + j) = ⟨g, i * n + j, none⟩ := by unfold Addr.add; split <;> simp_all
    rw [hadd] at hcell
    rw [Nat.zero_add]
    exact hcell
theorem OwnRowS.below {e : TypeId} {n B C : Nat} {w w' : World} {v : Value} {l : List (Array Value)} (h : OwnRowS e n B w v l) (hb : Below C w w') (hC : w.heap.size ≤ C) : OwnRowS e n B w' v l := by
  refine ⟨h.1, h.2.1, ?_⟩
  rcases h.2.2 with hn | ⟨g, cap, cur, rfl, hB, hg, rest⟩
  · exact .inl hn
  · refine .inr ⟨g, cap, cur, rfl, hB, ?_, rest⟩
    rw [hb.block g (Nat.lt_of_lt_of_le (Array.getElem?_eq_some_iff.1 hg).1 hC)]
    exact hg
theorem OwnRowS.mono {e : TypeId} {n B B' : Nat} {w : World} {v : Value} {l : List (Array Value)} (h : OwnRowS e n B w v l) (hB : B' ≤ B) : OwnRowS e n B' w v l := by
  refine ⟨h.1, h.2.1, ?_⟩
  rcases h.2.2 with hn | ⟨g, cap, cur, rfl, hg, rest⟩
  · exact .inl hn
  · exact .inr ⟨g, cap, cur, rfl, Nat.le_trans hB hg, rest⟩
theorem OwnRowS.own {e : TypeId} {n B : Nat} {w : World} {v : Value} {l : List (Array Value)} (h : OwnRowS e n B w v l) : ∀ k, v.ownBlock = some k → B ≤ k ∧ k < w.heap.size := World.ownsRow.lt h.2
/-- 's = append(s, x)': the struct's cells lie from place ad on -/
theorem wpList_push_struct {P : Program} {ops : Array Oper} {rest : List Oper} {o : Oper} {a : Act} {Q : Exit → Act → World → Prop} (hgd : o.guard = none) (s x : Operand) (t : TypeId)
    (ho : o.op = .call { callee := .builtin .append, args := #[s, x], argTypes := #[t, t] }) {e : TypeId} {i : TypeInfo} {z : Value} {n bytes B : Nat} {w : World}
    (ht : P.underlying t = some (.slice e)) (hi : P.info? e = some i) (hz : i.zero = some z) (hsize : i.size = n) (hby : i.bytes = bytes) (hzs : z.cells.size = n) (hn : 0 < n)
    {v : Value} {l : List (Array Value)} (hs : a.eval s = v) (hown : OwnRowS e n B w v l) {b off c : Nat} {cs : Array Value} (hx : a.eval x = .slice (some ⟨b, off, none⟩) 1 c) (hcs : cs.size = n) (hr : w.rangeAt b off cs.toList) (h1 : cs.all (·.oneCell') = true)
    (hlen : l.length ≤ 1000000) (hbytes : (l.length + 1) * bytes ≤ 140737488355328) (hB : B ≤ w.heap.size)
    (h : ∀ v' w', OwnRowS e n B w' v' (l ++ [cs]) → w.grownBy w' v.ownBlock → wpList P ops Q rest (a.put o.dst v') w') : wpList P ops Q (o :: rest) a w := by
  refine wpList_append_own w hgd s x t ho B e i z n bytes ht hi hz hsize hby hzs hn v l.length (flat l) hs hown.2 ⟨b, off, none⟩ 1 c cs.toList hx (by simp [hcs]) (fun j u hu => ?_) (fun u hu => (Array.all_eq_true_iff_forall_mem.1 h1) u (by simpa using hu)) (by unfold maxLen; omega) hbytes hB ?_
  · have hadd : (⟨b, off, none⟩ : Addr).add j = ⟨b, off + j, none⟩ := by unfold Addr.add; split <;> simp_all
    rw [hadd]
    exact hr j u hu
  · intro v' w' h2 h3 _
    refine h v' w' ⟨fun y hy => ?_, ?_⟩ h3
    · rcases List.mem_append.1 hy with hy | hy
      · exact hown.1 y hy
      · rw [List.mem_singleton] at hy; rw [hy]; exact hcs
    · rw [flat_app, show flat [cs] = cs.toList by simp [flat], List.length_append]
      exact h2
end Go.Proofs.YtbcgkeclmioeiaaGreatDoor
namespace Go.Proofs.YtbcgkeclmioeiaaGreatDoor
open Go.RowKit

section
variable {P : Program}
/-- a struct loaded whole out of a row -/
theorem wpList_loadR {ops : Array Oper} {rest : List Oper} {a : Act} {w : World} {Q : Exit → Act → World → Prop} {d : Option Tmp} {ty T : TypeId} {ps : String} {af : Array Edge} {gd : Option (Nat × Bool)} (x : Operand)
    (hw : Region.wanted { dst := d, op := .load T x, type := ty, pos := ps, after := af, guard := gd } (yielded ops a.tmps) = true)
    {b o : Nat} {xs : Array Value} {D : TypeDesc} (hx : a.eval x = .pointer (some ⟨b, o, none⟩)) (hr : w.rangeAt b o xs.toList) (hu : P.underlying T = some D) (hd : D.isRow = true) (hn : (P.info? T).map (·.size) = some xs.size)
    (h : wpList P ops Q rest (a.put d (.agg xs)) w) : wpList P ops Q ({ dst := d, op := .load T x, type := ty, pos := ps, after := af, guard := gd } :: rest) a w := by
  unfold wpList
  rw [if_pos hw]
  refine .inl (wp_load_mid T x rfl b o hx xs.toList _ hr hu hd (by simpa using hn) ?_)
  simpa using h
end
theorem RowS.get {n : Nat} {w : World} {ad : Option Addr} {len cap : Nat} {l : List (Array Value)} (h : RowS n w (.slice ad len cap) l) {i : Nat} {x : Array Value} (hx : l[i]? = some x) : ∃ b o, ad = some ⟨b, o, none⟩ ∧ w.rangeAt b (o + i * n) x.toList := by
  obtain ⟨a', c', e, _, _, _, h4⟩ := h
  injection e with e1
  subst e1
  obtain ⟨b, o, e, _, hr⟩ := h4 i x hx
  exact ⟨b, o, e, hr⟩
theorem RowS.len {n : Nat} {w : World} {ad : Option Addr} {len cap : Nat} {l : List (Array Value)} (h : RowS n w (.slice ad len cap) l) : len = l.length ∧ len ≤ cap ∧ cap ≤ maxLen := by
  obtain ⟨a', c', e, h1, h2, _⟩ := h
  injection e with _ e2 e3
  subst e2 e3
  exact ⟨rfl, h1, h2⟩
theorem RowS.slice {n : Nat} {w : World} {v : Value} {l : List (Array Value)} (h : RowS n w v l) : ∃ ad cap, v = .slice ad l.length cap := by
  obtain ⟨a', c', e, _⟩ := h
  exact ⟨a', c', e⟩
theorem Blk.rangeAll {w : World} {b : Nat} {cs : Array Value} {t : TypeId} (h : Blk w b cs t) : w.rangeAt b 0 cs.toList := fun j v hv => by
  rw [h.cell, Nat.zero_add]
  simpa using hv
theorem OwnRowS.grown {e : TypeId} {n B : Nat} {w0 w w' : World} {v : Value} {l : List (Array Value)} (h : OwnRowS e n B w v l) (hb : Below B w0 w) (hg : w.grownBy w' v.ownBlock) (hB : B ≤ w.heap.size) : Below B w0 w' :=
  hb.grown hg hB fun k hk => (h.own k hk).1
theorem fold_laid : ∀ (l : List Value) (k o : Nat) (zs : Array Value), (l.zipIdx k).foldl (fun cs (c, j) => cs.setIfInBounds (o + j) c) zs = laidAt zs (o + k) l
  | [], _, _, _ => rfl
  | v :: l, k, o, zs => by
    rw [List.zipIdx_cons, List.foldl_cons]
    exact fold_laid l (k + 1) o (zs.setIfInBounds (o + k) v)
theorem fill_one {n : Nat} {zs xs : Array Value} (hz : zs.size = n) (hx : xs.size = n) : Instr.fill (fun i => some (i * n, n)) zs [(0, .agg xs)] = some xs := by
  have hc : (Value.agg xs).cells = xs := rfl
  unfold Instr.fill
  simp only [hc, Nat.zero_mul]
  rw [if_neg (by simp [hx, hz])]
  unfold Instr.fill
  rw [← Array.foldl_toList, Array.toList_zipIdx, fold_laid xs.toList 0 0 zs, laidAt_whole (by rw [hx, hz])]
/-- a slice of one struct -/
theorem run_slice_one {P : Program} {o : Oper} {ev : Operand → Value} {w : World} {t e : TypeId} {i : TypeInfo} {z : Value} {n : Nat} (x : Operand) {xs : Array Value} (ho : o.op = .buildSlice t 1 #[(0, x)]) (hx : ev x = .agg xs)
    (ht : P.underlying t = some (.slice e)) (hi : P.info? e = some i) (hz : i.zero = some z) (hs : i.size = n) (h0 : 0 < n) (hn : n ≤ 16777216) (hxs : xs.size = n) :
    (execOp ev o).run P w = .ok (.value (.slice (some ⟨w.heap.size, 0, none⟩) 1 1)) (w.alloc (.cells xs e)) := by
  have hf : ∀ zs : Array Value, zs.size = n → Instr.fill (fun i => some (i * n, n)) zs [(0, .agg xs)] = some xs := fun zs h => fill_one h hxs
  unfold execOp
  simp only [ho, Sem.run_bind]
  have hr : (Instr.buildSlice t 1 #[(0, .agg xs)]).run P w = .ok (.slice (some ⟨w.heap.size, 0, none⟩) 1 1) (w.alloc (.cells xs e)) := by
    have h1 : ¬ n > 16777216 := by omega
    have h2 : ¬ n = 0 := by omega
    unfold Instr.buildSlice
    simp [run_underlying ht, sizeOf, typeInfo, zeroValue, hi, hz, hs, Sem.run_bind, h1, h2, hf, newRow, newObj]
    rfl
  simp [hx, hr]
noncomputable def iMo : TypeInfo := (Tryz.prog.info? 39).get (by kernel_rfl)
noncomputable def zMo : Value := iMo.zero.get (by kernel_rfl)
theorem infoMo : Tryz.prog.info? 39 = some iMo := by kernel_rfl
theorem zeroMo : iMo.zero = some zMo := by kernel_rfl
theorem sizeMo : iMo.size = 20 := by kernel_rfl
theorem bytesMo : iMo.bytes ≤ 1000 := of_decide_eq_true (by kernel_rfl)
theorem zMo_cells : zMo.cells.size = 20 := by kernel_rfl
/-- 's = append(s, m)' of a modification -/
theorem wpList_push_mod {ops : Array Oper} {rest : List Oper} {o : Oper} {a : Act} {Q : Exit → Act → World → Prop} (hgd : o.guard = none) (s x : Operand)
    (ho : o.op = .call { callee := .builtin .append, args := #[s, x], argTypes := #[42, 42] }) {B : Nat} {w0 w : World} {v : Value} {l : List (Array Value)} (hs : a.eval s = v) (hown : OwnRowS 39 20 B w v l)
    {b c : Nat} {cs : Array Value} (hx : a.eval x = .slice (some ⟨b, 0, none⟩) 1 c) (hk : Blk w b cs 39) (hcs : cs.size = 20) (h1 : cs.all (·.oneCell') = true) (hlen : l.length ≤ 1000000) (hB : B ≤ w.heap.size) (hb : Below B w0 w)
    (h : ∀ v' w', OwnRowS 39 20 B w' v' (l ++ [cs]) → Below B w0 w' → wpList Tryz.prog ops Q rest (a.put o.dst v') w') : wpList Tryz.prog ops Q (o :: rest) a w :=
  wpList_push_struct hgd s x 42 ho Tryz.underlying42 infoMo zeroMo sizeMo rfl zMo_cells (by decide) hs hown hx hcs hk.rangeAll h1 hlen
    (Nat.le_trans (Nat.mul_le_mul (show l.length + 1 ≤ 1000001 by omega) bytesMo) (by decide)) hB fun v' w' h1 h2 => h v' w' h1 (hown.grown hb h2 hB)
end Go.Proofs.YtbcgkeclmioeiaaGreatDoor
namespace Go.Proofs.YtbcgkeclmioeiaaGreatDoor
open Go.RowKit
open Wd (Bs)

theorem flat_nth {n : Nat} (hn : 0 < n) : ∀ {l : List (Array Value)}, (∀ x ∈ l, x.size = n) → ∀ j, (flat l)[j]? = (l[j / n]?).bind fun x => x[j % n]?
  | [], _, j => by simp [flat]
  | x :: l, h, j => by
    have h1 := h x (by simp)
    have h2 := flat_nth hn (l := l) fun y hy => h y (List.mem_cons_of_mem _ hy)
    rw [flat_cons, List.getElem?_append, Array.length_toList, h1]
    by_cases hj : j < n
    · rw [if_pos hj, Nat.div_eq_of_lt hj, Nat.mod_eq_of_lt hj]
      simp
    · rw [if_neg hj, h2]
      have e1 : j / n = (j - n) / n + 1 := by rw [Nat.div_eq_sub_div hn (by omega)]
      have e2 : (j - n) % n = j % n := (Nat.mod_eq_sub_mod (by omega)).symm
      rw [e1, e2]
      simp
/-- only cells of blocks of one element type may have changed -/
def KeepT (t : TypeId) (w w' : World) : Prop := ∀ (g : Nat) (c : Array Value) (e : TypeId), Blk w g c e → e ≠ t → Blk w' g c e
theorem KeepT.stored {w : World} {b : Nat} {cs : Array Value} {t : TypeId} (h : Blk w b cs t) (o : Nat) (vs : List Value) : KeepT t w (w.setCells b o vs) := fun g c e hg hne => hg.wholeElse vs (o := o) (by
  rintro rfl
  have h1 : w.heap[g]? = some (.cells c e (0, 0)) := hg
  have h2 : w.heap[g]? = some (.cells cs t (0, 0)) := h
  rw [h1] at h2
  injection h2 with h2
  injection h2 with _ h3
  exact hne h3)
theorem OwnRowS.blk {e : TypeId} {n B : Nat} {w : World} {v : Value} {l : List (Array Value)} (h : OwnRowS e n B w v l) :
    (v = .slice none 0 0 ∧ l = []) ∨ ∃ g cap cur, v = .slice (some ⟨g, 0, none⟩) l.length cap ∧ B ≤ g ∧ Blk w g cur e ∧ l.length ≤ cap ∧ cap ≤ maxLen ∧ cur.size = cap * n ∧ cur.toList.take (l.length * n) = flat l := by
  rcases h.2.2 with ⟨hv, hn⟩ | h2
  · exact .inl ⟨hv, List.eq_nil_of_length_eq_zero hn⟩
  · exact .inr h2
theorem OwnRowS.of {e : TypeId} {n B : Nat} {w : World} {l : List (Array Value)} (hs : ∀ x ∈ l, x.size = n) {g cap : Nat} {cur : Array Value} (hB : B ≤ g) (hg : Blk w g cur e) (hc : l.length ≤ cap) (hm : cap ≤ maxLen) (hz : cur.size = cap * n) (ht : cur.toList.take (l.length * n) = flat l) :
    OwnRowS e n B w (.slice (some ⟨g, 0, none⟩) l.length cap) l := ⟨hs, flat_len hs, .inr ⟨g, cap, cur, rfl, hB, hg, hc, hm, hz, ht⟩⟩
theorem OwnRowS.keep {e t : TypeId} {n B : Nat} {w w' : World} {v : Value} {l : List (Array Value)} (h : OwnRowS e n B w v l) (hk : KeepT t w w') (hne : e ≠ t) : OwnRowS e n B w' v l := by
  rcases h.blk with ⟨hv, hl⟩ | ⟨g, cap, cur, hv, hB, hg, hc, hm, hz, ht⟩
  · rw [hv, hl]; exact OwnRowS.nil _ _ _ _
  · rw [hv]; exact OwnRowS.of h.1 hB (hk g cur e hg hne) hc hm hz ht
/-- a struct of an owned row stored whole -/
theorem OwnRowS.set {e : TypeId} {n B len cap : Nat} {w : World} {ad : Option Addr} {l : List (Array Value)} (h : OwnRowS e n B w (.slice ad len cap) l) (hn : 0 < n) {i : Nat} (hi : i < l.length) {x : Array Value} (hx : x.size = n) :
    ∃ g cs, ad = some ⟨g, 0, none⟩ ∧ B ≤ g ∧ Blk w g cs e ∧ i * n + n ≤ cs.size ∧ OwnRowS e n B (w.setCells g (i * n) x.toList) (.slice ad len cap) (l.set i x) := by
  rcases h.blk with ⟨_, hl⟩ | ⟨g, cap', cur, hv, hB, hg, hc, hm, hz, ht⟩
  · subst hl; simp at hi
  · injection hv with e1 e2 e3
    subst e1 e2 e3
    have hfit : i * n + n ≤ cur.size := by
      rw [hz]
      calc i * n + n = (i + 1) * n := by rw [Nat.add_mul, Nat.one_mul]
        _ ≤ cap * n := Nat.mul_le_mul_right _ (by omega)
    refine ⟨g, cur, rfl, hB, hg, hfit, ?_⟩
    have hs : ∀ y ∈ l.set i x, y.size = n := fun y hy => by
      rcases List.mem_or_eq_of_mem_set hy with hy | rfl
      · exact h.1 y hy
      · exact hx
    have hsz : (laidAt cur (i * n) x.toList).size = cap * n := by rw [laidAt_size, hz]
    have key := OwnRowS.of (e := e) (n := n) (B := B) (w := w.setCells g (i * n) x.toList) (l := l.set i x) hs hB hg.laid (by rw [List.length_set]; exact hc) hm hsz (by
      rw [List.length_set]
      apply List.ext_getElem?
      intro j
      rw [List.getElem?_take, flat_nth hn hs, Array.getElem?_toList]
      by_cases hj : j < l.length * n
      · rw [if_pos hj, laidAt_get _ _ _ _ (by rw [Array.length_toList, hx]; exact hfit), Array.length_toList, hx]
        have hc2 : cur[j]? = (l[j / n]?).bind fun y => y[j % n]? := by
          rw [← flat_nth hn h.1, ← ht, List.getElem?_take, if_pos hj, Array.getElem?_toList]
        have hdm := Nat.div_add_mod j n
        have hml := Nat.mod_lt j hn
        rw [List.getElem?_set]
        by_cases hq : i = j / n
        · subst hq
          have e1 : j / n * n + j % n = j := by rw [Nat.mul_comm]; exact hdm
          rw [if_pos ⟨by omega, by omega⟩, if_pos rfl, if_pos hi, show j - j / n * n = j % n by omega]
          simp
        · rw [if_neg hq, hc2, if_neg]
          rintro ⟨h1, h2⟩
          apply hq
          have h3 : j < (i + 1) * n := by rw [Nat.add_mul, Nat.one_mul]; exact h2
          have a1 : i ≤ j / n := (Nat.le_div_iff_mul_le hn).2 h1
          have a2 : j / n < i + 1 := (Nat.div_lt_iff_lt_mul hn).2 h3
          omega
      · rw [if_neg hj]
        have : l.length ≤ j / n := (Nat.le_div_iff_mul_le hn).2 (by omega)
        rw [List.getElem?_eq_none (by rw [List.length_set]; exact this)]
        rfl)
    rw [List.length_set] at key
    exact key
/-- a row of structs: read (none), or owned from block B on -/
def SRow (o : Option Nat) (e : TypeId) (n : Nat) (w : World) (v : Value) (l : List (Array Value)) : Prop := match o with
  | none => RowS n w v l
  | some B => OwnRowS e n B w v l
theorem SRow.row {o : Option Nat} {e : TypeId} {n : Nat} {w : World} {v : Value} {l : List (Array Value)} (h : SRow o e n w v l) : RowS n w v l := by
  cases o with
  | none => exact h
  | some B => exact OwnRowS.row h
theorem SRow.below {o : Option Nat} {e : TypeId} {n C : Nat} {w w' : World} {v : Value} {l : List (Array Value)} (h : SRow o e n w v l) (hb : Below C w w') (hC : w.heap.size ≤ C) : SRow o e n w' v l := by
  cases o with
  | none => exact RowS.below h hb hC
  | some B => exact OwnRowS.below h hb hC
theorem SRow.keep {B n : Nat} {e t : TypeId} {w w' : World} {v : Value} {l : List (Array Value)} (h : SRow (some B) e n w v l) (hk : KeepT t w w') (hne : e ≠ t) : SRow (some B) e n w' v l := OwnRowS.keep h hk hne
theorem SRow.mono {B B' n : Nat} {e : TypeId} {w : World} {v : Value} {l : List (Array Value)} (h : SRow (some B) e n w v l) (hB : B' ≤ B) : SRow (some B') e n w v l := OwnRowS.mono h hB
theorem SRow.nil (o : Option Nat) (e : TypeId) (n : Nat) (w : World) : SRow o e n w (.slice none 0 0) [] := by
  cases o with
  | none => exact RowS.nil _ _
  | some B => exact OwnRowS.nil _ _ _ _
/-! effects -/
structure EfD where
  op : Int
  ref : Array Value
  am : Array Value
  ctr : Int
  zone : Int
  card : ByteArray
  fl : Array Value
  pool : Array Value
  mods : List (Array Value)
def efC (d : EfD) (v : Value) : Array Value := cat [#[.int .i64 d.op], d.ref, d.am, #[.int .i64 d.ctr], #[.int .i64 d.zone], #[.string d.card], d.fl, d.pool, #[v]]
/-- a part: its size, one cell each, equal to itself -/
structure Part (T : TypeId) (n : Nat) (xs : Array Value) : Prop where
  size : xs.size = n
  one : xs.all (·.oneCell') = true
  eq : ∀ W : World, (Op.equalIn 10000 T (.agg xs) (.agg xs)).run Tryz.prog W = .ok true W
structure EfOk (d : EfD) : Prop where
  ref : Part 27 18 d.ref
  am : Part 73 19 d.am
  fl : Part 25 16 d.fl
  pool : Part 75 6 d.pool
  mods : ∀ x ∈ d.mods, Part 39 20 x
  few : d.mods.length ≤ 1000
abbrev EfP := EfD × Value
def efP (p : EfP) : Array Value := efC p.1 p.2
def EfRow (o : Option Nat) (w : World) (v : Value) (l : List EfD) : Prop := ∃ ps : List EfP, ps.map (·.1) = l ∧ SRow o 77 64 w v (ps.map efP) ∧ ∀ p ∈ ps, SRow o 39 20 w p.2 p.1.mods
theorem EfRow.below {o : Option Nat} {C : Nat} {w w' : World} {v : Value} {l : List EfD} (h : EfRow o w v l) (hb : Below C w w') (hC : w.heap.size ≤ C) : EfRow o w' v l := by
  obtain ⟨ps, h1, h2, h3⟩ := h
  exact ⟨ps, h1, h2.below hb hC, fun p hp => (h3 p hp).below hb hC⟩
theorem EfRow.read {o : Option Nat} {w : World} {v : Value} {l : List EfD} (h : EfRow o w v l) : EfRow none w v l := by
  obtain ⟨ps, h1, h2, h3⟩ := h
  exact ⟨ps, h1, h2.row, fun p hp => (h3 p hp).row⟩
theorem EfRow.mono {B B' : Nat} {w : World} {v : Value} {l : List EfD} (h : EfRow (some B) w v l) (hB : B' ≤ B) : EfRow (some B') w v l := by
  obtain ⟨ps, h1, h2, h3⟩ := h
  exact ⟨ps, h1, h2.mono hB, fun p hp => (h3 p hp).mono hB⟩
theorem EfRow.keep {B : Nat} {t : TypeId} {w w' : World} {v : Value} {l : List EfD} (h : EfRow (some B) w v l) (hk : KeepT t w w') (hn : 77 ≠ t ∧ 39 ≠ t) : EfRow (some B) w' v l := by
  obtain ⟨ps, a, b, c⟩ := h
  exact ⟨ps, a, b.keep hk hn.1, fun p hp => (c p hp).keep hk hn.2⟩
theorem EfRow.slice {o : Option Nat} {w : World} {v : Value} {l : List EfD} (h : EfRow o w v l) : ∃ ad cap, v = .slice ad l.length cap := by
  obtain ⟨ps, rfl, b, _⟩ := h
  obtain ⟨ad, cap, e⟩ := b.row.slice
  rw [List.length_map] at e
  exact ⟨ad, cap, by rw [List.length_map]; exact e⟩
theorem EfRow.oneCell {o : Option Nat} {w : World} {v : Value} {l : List EfD} (h : EfRow o w v l) : v.oneCell' = true := by
  obtain ⟨ad, cap, e⟩ := h.slice
  rw [e]
  rfl
theorem EfRow.nil (o : Option Nat) (w : World) : EfRow o w (.slice none 0 0) [] := ⟨[], rfl, SRow.nil _ _ _ _, fun p hp => by cases hp⟩
/-! abilities -/
structure AbD where
  kind : Int
  fl : Array Value
  mods : List (Array Value)
  price : Array Value
  slow : Bool
  trig : Array Value
  may : Bool
  specs : List (Array Value)
  effs : List EfD
  repl : Array Value
def abC (d : AbD) (v1 v2 v3 : Value) : Array Value := cat [#[.int .i64 d.kind], d.fl, #[v1], d.price, #[.bool d.slow], d.trig, #[.bool d.may], #[v2], #[v3], d.repl]
structure AbOk (d : AbD) : Prop where
  fl : Part 25 16 d.fl
  price : Part 63 10 d.price
  trig : Part 65 18 d.trig
  repl : Part 69 22 d.repl
  mods : ∀ x ∈ d.mods, Part 39 20 x
  specs : ∀ x ∈ d.specs, Part 119 18 x
  effs : ∀ x ∈ d.effs, EfOk x
  few : d.mods.length ≤ 1000 ∧ d.specs.length ≤ 1000 ∧ d.effs.length ≤ 1000
abbrev AbP := AbD × Value × Value × Value
def abP (p : AbP) : Array Value := abC p.1 p.2.1 p.2.2.1 p.2.2.2
structure AbIn (o : Option Nat) (w : World) (p : AbP) : Prop where
  mods : SRow o 39 20 w p.2.1 p.1.mods
  specs : SRow o 119 18 w p.2.2.1 p.1.specs
  effs : EfRow o w p.2.2.2 p.1.effs
theorem AbIn.below {o : Option Nat} {C : Nat} {w w' : World} {p : AbP} (h : AbIn o w p) (hb : Below C w w') (hC : w.heap.size ≤ C) : AbIn o w' p := ⟨h.mods.below hb hC, h.specs.below hb hC, h.effs.below hb hC⟩
theorem AbIn.read {o : Option Nat} {w : World} {p : AbP} (h : AbIn o w p) : AbIn none w p := ⟨h.mods.row, h.specs.row, h.effs.read⟩
theorem AbIn.mono {B B' : Nat} {w : World} {p : AbP} (h : AbIn (some B) w p) (hB : B' ≤ B) : AbIn (some B') w p := ⟨h.mods.mono hB, h.specs.mono hB, h.effs.mono hB⟩
theorem AbIn.keep {B : Nat} {w w' : World} {p : AbP} (h : AbIn (some B) w p) (hk : KeepT 71 w w') : AbIn (some B) w' p := ⟨h.mods.keep hk (by decide), h.specs.keep hk (by decide), h.effs.keep hk (by decide)⟩
def AbRow (o : Option Nat) (w : World) (v : Value) (l : List AbD) : Prop := ∃ ps : List AbP, ps.map (·.1) = l ∧ SRow o 71 72 w v (ps.map abP) ∧ ∀ p ∈ ps, AbIn o w p
theorem AbRow.below {o : Option Nat} {C : Nat} {w w' : World} {v : Value} {l : List AbD} (h : AbRow o w v l) (hb : Below C w w') (hC : w.heap.size ≤ C) : AbRow o w' v l := by
  obtain ⟨ps, h1, h2, h3⟩ := h
  exact ⟨ps, h1, h2.below hb hC, fun p hp => (h3 p hp).below hb hC⟩
theorem AbRow.read {o : Option Nat} {w : World} {v : Value} {l : List AbD} (h : AbRow o w v l) : AbRow none w v l := by
  obtain ⟨ps, h1, h2, h3⟩ := h
  exact ⟨ps, h1, h2.row, fun p hp => (h3 p hp).read⟩
theorem AbRow.slice {o : Option Nat} {w : World} {v : Value} {l : List AbD} (h : AbRow o w v l) : ∃ ad cap, v = .slice ad l.length cap := by
  obtain ⟨ps, rfl, b, _⟩ := h
  obtain ⟨ad, cap, e⟩ := b.row.slice
  rw [List.length_map] at e
  exact ⟨ad, cap, by rw [List.length_map]; exact e⟩
theorem AbRow.oneCell {o : Option Nat} {w : World} {v : Value} {l : List AbD} (h : AbRow o w v l) : v.oneCell' = true := by
  obtain ⟨ad, cap, e⟩ := h.slice
  rw [e]
  rfl
theorem AbRow.keep {B : Nat} {t : TypeId} {w w' : World} {v : Value} {l : List AbD} (h : AbRow (some B) w v l) (hk : KeepT t w w') (hn : (71 ≠ t ∧ 39 ≠ t) ∧ 119 ≠ t ∧ 77 ≠ t) : AbRow (some B) w' v l := by
  obtain ⟨ps, a, b, c⟩ := h
  exact ⟨ps, a, b.keep hk hn.1.1, fun p hp => ⟨(c p hp).mods.keep hk hn.1.2, (c p hp).specs.keep hk hn.2.1, (c p hp).effs.keep hk ⟨hn.2.2, hn.1.2⟩⟩⟩
theorem AbRow.nil (o : Option Nat) (w : World) : AbRow o w (.slice none 0 0) [] := ⟨[], rfl, SRow.nil _ _ _ _, fun p hp => by cases hp⟩
end Go.Proofs.YtbcgkeclmioeiaaGreatDoor
namespace Go.Proofs.YtbcgkeclmioeiaaGreatDoor
open Go.RowKit Go.ChangeShapes Go.WideShapes

section
variable {H : Type} {enc : TypeId × Value → H} {W : World}
theorem open_rowS {P : Program} {β : Type} [Inhabited β] {n : Nat} (ec : β → Array Value) (Good : β → Prop) {e t : TypeId} (ht : P.underlying t = some (.slice e)) (hc : P.cellsOf e = n) (hn : 0 < n) (hsz : ∀ y, (ec y).size = n)
    (el : ∀ (fuel : Nat) (cs : List Value) (x : DataW H × List MemPlace), DataW.trod enc P W 0 (fun _ => true) true fuel e cs = some x → cs.length = n → ∃ y, cs = (ec y).toList ∧ Good y)
    {fuel : Nat} {v : Value} {x : DataW H × List MemPlace} (h : DataW.trod enc P W 0 (fun _ => true) true fuel t [v] = some x) :
    ∃ ys : List β, RowS n W v (ys.map ec) ∧ ∀ y ∈ ys, Good y := by
  rcases DataW.trod_slice ht h with ⟨hcs, _⟩ | ⟨a, len, cap, elems, rest, m, _, hcs, _, _, hl, hm, hel, hi, _⟩
  · have ev : v = .slice none 0 0 := by simpa using hcs
    subst ev
    exact ⟨[], RowS.nil n W, by simp⟩
  · have ev : v = .slice (some a) len cap := by simpa using hcs
    subst ev
    rw [hc] at hi
    have each : ∀ i, i < len → ∃ y : β, (∀ j c, (ec y)[j]? = some c → W.cell? ((a.add (i * n)).add j) = some c) ∧ Good y := by
      intro i hil
      have h1 := hi i hil
      rw [List.getElem?_eq_getElem (show i < elems.length by omega)] at h1
      obtain ⟨cs', hcc, hd⟩ := Option.bind_eq_some_iff.1 h1
      obtain ⟨-, hcl, hat⟩ := World.cells?_some hcc
      obtain ⟨y, hy, hg⟩ := el _ _ _ hd hcl
      refine ⟨y, fun j c hj => ?_, hg⟩
      have hjn : j < n := by have := (Array.getElem?_eq_some_iff.1 hj).1; rw [hsz] at this; exact this
      rw [hat j hjn, hy]
      simpa using hj
    let X : Nat → β := fun i => if h : i < len then (each i h).choose else default
    have hX : ∀ i, i < len → (∀ j c, (ec (X i))[j]? = some c → W.cell? ((a.add (i * n)).add j) = some c) ∧ Good (X i) := by
      intro i h
      have e : X i = (each i h).choose := dif_pos h
      rw [e]
      exact (each i h).choose_spec
    refine ⟨(List.range len).map X, ⟨some a, cap, by simp, by simpa using hl, hm, ?_, fun i x hx => ?_⟩, ?_⟩
    · intro y hy
      obtain ⟨z, _, rfl⟩ := List.mem_map.1 hy
      exact hsz z
    · have hil : i < len := by have := (List.getElem?_eq_some_iff.1 hx).1; simpa using this
      have ex : x = ec (X i) := by
        rw [List.getElem?_map, List.getElem?_map, List.getElem?_range hil] at hx
        simpa using hx.symm
      subst ex
      have h0 := (hX 0 (by omega)).1 0 _ (Array.getElem?_eq_getElem (show 0 < (ec (X 0)).size by rw [hsz]; exact hn))
      have hspot : a.spot = none := by
        have := World.cell?_spot h0
        simpa [Addr.add] using this
      obtain ⟨b, o, sp⟩ := a
      simp only at hspot
      subst hspot
      have hlt : b < W.heap.size := by
        have := World.block_lt_of_cell? W _ h0
        simpa [Addr.add] using this
      refine ⟨b, o, rfl, hlt, fun j u hu => ?_⟩
      have h1 := (hX i hil).1 j u (by simpa using hu)
      have hadd : ((⟨b, o, none⟩ : Addr).add (i * n)).add j = ⟨b, o + i * n + j, none⟩ := by
        have e1 : (⟨b, o, none⟩ : Addr).add (i * n) = ⟨b, o + i * n, none⟩ := by unfold Addr.add; split <;> simp_all
        rw [e1]
        unfold Addr.add; split <;> simp_all
      rw [hadd] at h1
      exact h1
    · intro y hy
      obtain ⟨i, hi', rfl⟩ := List.mem_map.1 hy
      exact (hX i (by simpa using hi')).2
end
end Go.Proofs.YtbcgkeclmioeiaaGreatDoor
namespace Go.Proofs.YtbcgkeclmioeiaaGreatDoor
open Go.RowKit

/-- two structs of one type are equal where their literals are -/
theorem run_eq_deep {P : Program} (m : Nat) {t : TypeId} (hm : P.keyTypeAt m t = true) (hle : m ≤ 10000) {D D' : Nat} {xs ys : Array Value} {la lb : List Lit}
    (fx : (Value.agg xs).formed P t = true) (fy : (Value.agg ys).formed P t = true) (hx : P.keyLits D t xs.toList = some la) (hy : P.keyLits D' t ys.toList = some lb) (w : World) :
    ∃ r : Bool, (Op.equalIn 10000 t (.agg xs) (.agg ys)).run P w = .ok r w ∧ (r = true ↔ la = lb) := by
  obtain ⟨r, h1, h2⟩ := run_equalIn_deep (P := P) (10000 - m) m t hm w D D' (.agg xs) (.agg ys) la lb fx fy hx hy
  rw [show 10000 - m + m = 10000 by omega] at h1
  exact ⟨r, h1, h2⟩
theorem run_eq_same {P : Program} (m : Nat) {t : TypeId} (hm : P.keyTypeAt m t = true) (hle : m ≤ 10000) {D : Nat} {xs : Array Value} {la : List Lit}
    (fx : (Value.agg xs).formed P t = true) (hx : P.keyLits D t xs.toList = some la) (w : World) : (Op.equalIn 10000 t (.agg xs) (.agg xs)).run P w = .ok true w := by
  obtain ⟨r, h1, h2⟩ := run_eq_deep m hm hle fx fx hx hx w
  rw [h1, h2.2 rfl]
end Go.Proofs.YtbcgkeclmioeiaaGreatDoor
namespace Go.Proofs.YtbcgkeclmioeiaaGreatDoor
open Go.RowKit Go.ChangeShapes Go.WideShapes

/-- scalars alone, whose places cover all cells -/
def flatB (P : Program) : Nat → TypeId → Bool
  | 0, _ => false
  | d + 1, t => match P.underlying t with
    | some .bool => true
    | some (.int _) => true
    | some .string => true
    | some (.array n e) => flatB P d e && (List.range (P.cellsOf t)).all fun i => (List.range n).any fun j => decide (j * P.cellsOf e ≤ i) && decide (i < j * P.cellsOf e + P.cellsOf e)
    | some (.struct fs) => (fs.toList.all fun f => flatB P d f.type) && (List.range (P.cellsOf t)).all fun i => fs.toList.any fun f => decide (f.offset ≤ i) && decide (i < f.offset + P.cellsOf f.type)
    | _ => false
theorem in_slice {cs : List Value} {i o n : Nat} {c : Value} (h : cs[i]? = some c) (h1 : o ≤ i) (h2 : i < o + n) : c ∈ (cs.drop o).take n := by
  refine List.mem_of_getElem? (i := i - o) ?_
  rw [List.getElem?_take, if_pos (by omega), List.getElem?_drop, show o + (i - o) = i by omega]
  exact h
theorem one_of_lits {P : Program} : ∀ (d : Nat) (t : TypeId) (cs : List Value) (la : List Lit), flatB P d t = true → P.keyLits d t cs = some la → ∀ c ∈ cs, c.oneCell' = true
  | 0, _, _, _, h, _ => by simp [flatB] at h
  | d + 1, t, cs, la, h, hk => by
    intro c hc
    unfold flatB at h
    unfold Program.keyLits at hk
    split at hk
    · simp only [List.mem_singleton] at hc; subst hc; rfl
    · simp only [List.mem_singleton] at hc; subst hc; rfl
    · simp only [List.mem_singleton] at hc; subst hc; rfl
    · rename_i _ n e hu
      rw [hu] at h
      simp only [Bool.and_eq_true, List.all_eq_true, List.any_eq_true, decide_eq_true_eq, List.mem_range] at h
      split at hk
      · rename_i hl
        obtain ⟨xs, hm, _⟩ := Option.map_eq_some_iff.1 hk
        obtain ⟨i, hi⟩ := List.mem_iff_getElem?.1 hc
        have hil := (List.getElem?_eq_some_iff.1 hi).1
        obtain ⟨j, hj, h1, h2⟩ := h.2 i (by omega)
        obtain ⟨b, _, hb⟩ := Lib.mapM_at hm j j (by simp [hj])
        exact one_of_lits d e _ b h.1 hb c (in_slice hi h1 h2)
      · cases hk
    · rename_i _ fs hu
      rw [hu] at h
      simp only [Bool.and_eq_true, List.all_eq_true, List.any_eq_true, decide_eq_true_eq, List.mem_range] at h
      split at hk
      · rename_i hl
        obtain ⟨xs, hm, _⟩ := Option.map_eq_some_iff.1 hk
        obtain ⟨i, hi⟩ := List.mem_iff_getElem?.1 hc
        have hil := (List.getElem?_eq_some_iff.1 hi).1
        obtain ⟨f, hf, h1, h2⟩ := h.2 i (by omega)
        obtain ⟨j, hj⟩ := List.mem_iff_getElem?.1 hf
        obtain ⟨b, _, hb⟩ := Lib.mapM_at hm j f hj
        exact one_of_lits d f.type _ b (h.1 f hf) hb c (in_slice hi h1 h2)
      · cases hk
    · cases hk
def aggB (P : Program) (t : TypeId) : Bool := match P.underlying t with
  | some (.struct _) => true
  | some (.array _ _) => true
  | _ => false
theorem formed_of {P : Program} {t : TypeId} {cs : Array Value} (h : aggB P t = true) (hc : cs.size = P.cellsOf t) : (Value.agg cs).formed P t = true := by
  unfold aggB at h
  unfold Value.formed
  split at h
  · rename_i hu; rw [hu]; simpa using hc
  · rename_i hu; rw [hu]; simpa using hc
  · cases h
def partB (P : Program) (t : TypeId) (n : Nat) : Bool := flatB P 6 t && P.keyTypeAt 6 t && aggB P t && P.cellsOf t == n
variable {H : Type} {enc : TypeId × Value → H} {W : World}
theorem partOf {t : TypeId} {n : Nat} (hb : partB Tryz.prog t n = true) {base fuel : Nat} {sp : Nat → Bool} {held : Bool} {cs : List Value} {x : DataW H × List MemPlace} (h : DataW.trod enc Tryz.prog W base sp held fuel t cs = some x) (hl : cs.length = n) :
    ∃ r : Array Value, cs = r.toList ∧ Part t n r := by
  unfold partB at hb
  simp only [Bool.and_eq_true, beq_iff_eq] at hb
  obtain ⟨⟨⟨h1, h2⟩, h3⟩, h4⟩ := hb
  obtain ⟨k1, _⟩ := keyLits_of_trod 6 t h2 fuel cs x h
  exact ⟨⟨cs⟩, rfl, hl, by
    rw [Array.all_eq_true_iff_forall_mem]
    intro c hc
    exact one_of_lits 6 t cs _ h1 k1 c (by simpa using hc), fun w => run_eq_same 6 h2 (by decide) (formed_of h3 (by rw [h4]; exact hl)) k1 w⟩
/-- a slice of structs, opened one by one; sizes are asked of the good ones alone -/
theorem open_rowG {P : Program} {β : Type} [Inhabited β] {n : Nat} (ec : β → Array Value) (Good : β → Prop) {e t : TypeId} (ht : P.underlying t = some (.slice e)) (hc : P.cellsOf e = n) (hn : 0 < n) (hg : ∀ y, Good y → (ec y).size = n)
    (el : ∀ (fuel : Nat) (cs : List Value) (x : DataW H × List MemPlace), DataW.trod enc P W 0 (fun _ => true) true fuel e cs = some x → cs.length = n → ∃ y, cs = (ec y).toList ∧ Good y)
    {fuel : Nat} {v : Value} {x : DataW H × List MemPlace} (h : DataW.trod enc P W 0 (fun _ => true) true fuel t [v] = some x) :
    ∃ ys : List β, RowS n W v (ys.map ec) ∧ ∀ y ∈ ys, Good y := by
  obtain ⟨ys, h1, h2⟩ := open_rowS (fun y => if (ec y).size = n then ec y else Array.replicate n (.bool false)) Good ht hc hn (by intro y; split <;> simp_all) (fun fuel cs x h hl => by
    obtain ⟨y, hy, hG⟩ := el fuel cs x h hl
    exact ⟨y, by rw [if_pos (hg y hG)]; exact hy, hG⟩) h
  refine ⟨ys, ?_, h2⟩
  rwa [List.map_congr_left (fun y hy => if_pos (hg y (h2 y hy)))] at h1
end Go.Proofs.YtbcgkeclmioeiaaGreatDoor
namespace Go.Proofs.YtbcgkeclmioeiaaGreatDoor
open Go.RowKit Go.ChangeShapes Go.WideShapes
open Go.ChangeMaps (open_string)
open Wd (Bs)

/-- the list of this seat's rows -/
def seatLaid : List (String × DataW Unit) := Rows.modSwitchesRow.laid

/-- An array of strings that reads as the list holds the list's texts, cell for cell. -/
theorem cells_of_strs {H : Type} {enc : TypeId × Value → H} {P : Program} {w : World} {base : Nat} {sp : Nat → Bool} {held : Bool} {fuel : Nat} {t e : TypeId} {n : Nat} {cs : List Value} {zs : List (List UInt8)} {p : List MemPlace}
    (ht : P.underlying t = some (.array n e)) (he : P.underlying e = some .string) (hce : P.cellsOf e = 1) (hct : P.cellsOf t = n)
    (h : DataW.trod enc P w base sp held fuel t cs = some (.agg (zs.map fun z => .lit (.string z)), p)) : cs = zs.map str := by
  cases fuel with
  | zero => simp [DataW.trod] at h
  | succ fuel =>
    simp only [DataW.trod, ht, hce, hct, Nat.mul_one] at h
    split at h
    · rename_i hl
      obtain ⟨xs, hm, hx⟩ := Option.map_eq_some_iff.1 h
      have hxs : xs.map (·.1) = zs.map fun z => (DataW.lit (.string z) : DataW H) := by
        have := congrArg Prod.fst hx
        simpa using this
      have hxl : xs.length = n := by simpa using Lib.mapM_length hm
      have hzl : zs.length = n := by
        have := congrArg List.length hxs
        simp at this
        omega
      apply List.ext_getElem?
      intro i
      by_cases hi : i < n
      · obtain ⟨b, hb, hf⟩ := Lib.mapM_at hm i i (by simp [hi])
        obtain ⟨s, hc, rfl, _⟩ := DataW.trod_string he hf
        have h1 : cs[i]? = some (.string s) := by
          have := congrArg (·[0]?) hc
          simpa [List.getElem?_take, List.getElem?_drop] using this
        have h2 : (xs.map (·.1))[i]? = some (DataW.lit (.string s.data.toList) : DataW H) := by simp [hb]
        rw [hxs] at h2
        simp only [List.getElem?_map, Option.map_eq_some_iff, DataW.lit.injEq, Lit.string.injEq] at h2
        obtain ⟨z', hz', e'⟩ := h2
        rw [h1, List.getElem?_map, hz', e']
        rfl
      · rw [List.getElem?_eq_none (by omega), List.getElem?_eq_none (by simp; omega)]
    · cases h

theorem gWordsType : (Tryz.prog.globals[0]?).map (·.type) = some 125 := by kernel_rfl
theorem cellsWords : Tryz.prog.cellsOf 125 = 8 := by kernel_rfl
theorem cellsTMo : Tryz.prog.cellsOf 39 = 20 := by kernel_rfl
theorem gNamesType : (Tryz.prog.globals[1]?).map (·.type) = some 155 := by kernel_rfl
theorem cellsNames : Tryz.prog.cellsOf 155 = 5 := by kernel_rfl
theorem cellsStr : Tryz.prog.cellsOf 9 = 1 := by kernel_rfl
theorem cellsInt : Tryz.prog.cellsOf 3 = 1 := by kernel_rfl
theorem cellsTF : Tryz.prog.cellsOf 25 = 16 := by kernel_rfl
theorem cellsTB : Tryz.prog.cellsOf 23 = 2 := by kernel_rfl
theorem gPow : Tryz.prog.globalNamed "internal/strconv.uint64pow10" = some 3 := by kernel_rfl
theorem gPowType : (Tryz.prog.globals[3]?).map (·.type) = some 191 := by kernel_rfl
theorem gSyn : Tryz.prog.globalNamed "strconv.ErrSyntax" = some 4 := by kernel_rfl
theorem gSynType : (Tryz.prog.globals[4]?).map (·.type) = some 141 := by kernel_rfl
theorem gRng : Tryz.prog.globalNamed "strconv.ErrRange" = some 5 := by kernel_rfl
theorem gRngType : (Tryz.prog.globals[5]?).map (·.type) = some 141 := by kernel_rfl
theorem cellsArr : Tryz.prog.cellsOf 191 = 20 := by kernel_rfl
theorem cellsU64 : Tryz.prog.cellsOf 102 = 1 := by kernel_rfl
theorem cellsErr : Tryz.prog.cellsOf 207 = 1 := by kernel_rfl
theorem starErr : "*" ++ "errors.errorString" = "*errors.errorString" := by decide
theorem rowErr (u : TypeId) (h : Tryz.prog.typeName? 3 u = some "*errors.errorString") : u = 205 :=
  typeName_ptr_named (nm := "errors.errorString") (by rw [starErr]; kernel_rfl) (by kernel_rfl) (by decide) u (by rw [starErr]; exact h)
theorem powList : (("internal/strconv.uint64pow10", Rows.laid_internal_strconv_uint64pow10) : String × DataW Unit) = ("internal/strconv.uint64pow10", Lib.tabData .u64 Lib.pow10Tab) := by
  refine Prod.ext rfl ?_
  show Rows.laid_internal_strconv_uint64pow10 = Lib.tabData .u64 Lib.pow10Tab
  kernel_rfl
theorem plainList : (seatLaid.all fun x => x.2.handleName?.isNone) = true := by kernel_rfl
theorem len_of_shaped {W : World} (h : W.ShapedOpen Tryz.prog) : LenEnv W :=
  cell_of_shapedOpen_int (zero := #[.int .i64 0]) (t := 3) h (of_decide_eq_true (by kernel_rfl)) (by kernel_rfl) rfl (by kernel_rfl) (by kernel_rfl) Tryz.underlying3
theorem env_of_laid {W : World} (h : laidMetH Tryz.prog seatLaid W) (hs : W.ShapedOpen Tryz.prog) : Env W := by
  rw [MakeChecks.laidMetH_plain _ _ _ plainList] at h
  have h1 : laidMet Tryz.prog (("internal/strconv.uint64pow10", Rows.laid_internal_strconv_uint64pow10) :: ("strconv.ErrRange", Rows.laid_strconv_ErrRange) :: ("strconv.ErrSyntax", Rows.laid_strconv_ErrSyntax) :: ("cardgame/color.names", Rows.laid_cardgame_color_names) :: [("cardgame/line.words", Rows.laid_cardgame_line_words)]) W := h.tail.tail
  have h2 := h1.tail
  have h3 := h2.tail
  have h4 := h3.tail
  have h5 := h4.tail
  rw [powList] at h1
  have hr := laid_sentinel h2 gRng gRngType Tryz.underlying141 rowErr Tryz.underlying205 Tryz.underlying207 rfl rfl Tryz.underlying9 cellsErr cellsStr
  have hs' := laid_sentinel h3 gSyn gSynType Tryz.underlying141 rowErr Tryz.underlying205 Tryz.underlying207 rfl rfl Tryz.underlying9 cellsErr cellsStr
  obtain ⟨a, _, hv, _⟩ := hr
  obtain ⟨b, _, hw, _⟩ := hs'
  have hn : EnvC W := by
    obtain ⟨ps, ⟨g', t', cs, fuel, p, q, hg', ht', hvar, hd, _, _⟩, _⟩ := h4
    obtain rfl := Option.some.inj (gNames.symm.trans hg')
    obtain rfl := Option.some.inj (gNamesType.symm.trans ht')
    have hcs := cells_of_strs (zs := [[97, 109, 98, 101, 114], [99, 111, 98, 97, 108, 116], [106, 101, 116], [114, 117, 98, 121], [101, 109, 101, 114, 97, 108, 100]]) Tryz.underlying155 Tryz.underlying9 cellsStr cellsNames hd
    refine ⟨hvar.trans ?_⟩
    rw [show cs = cs.toList.toArray from rfl, hcs]
    rfl
  have hl : EnvL W := by
    obtain ⟨ps, ⟨g', t', cs, fuel, p, q, hg', ht', hvar, hd, _, _⟩, _⟩ := h5
    obtain rfl := Option.some.inj (gWords.symm.trans hg')
    obtain rfl := Option.some.inj (gWordsType.symm.trans ht')
    have hcs := cells_of_strs (zs := Ln.words) Tryz.underlying125 Tryz.underlying9 cellsStr cellsWords hd
    refine ⟨len_of_shaped hs, hvar.trans ?_⟩
    rw [show cs = cs.toList.toArray from rfl, hcs]
  exact ⟨⟨Lib.tabIs_of_head gPow gPowType Tryz.underlying191 Tryz.underlying102 cellsU64 cellsArr h1, ⟨_, _, hw⟩, ⟨_, _, hv⟩⟩, hl, hn⟩
theorem own : ownKnob Tryz.prog.godebug = none := by kernel_rfl
theorem laidOut : laidOutB Tryz.prog = true := by kernel_rfl
/-- The world that is laid by a function meets the list. -/
theorem laid_met (os : Os) (args : Array Value) : laidMetH Tryz.prog seatLaid ((World.laidAll Tryz.prog os seatLaid).forCall (fun _ _ => 0) ⟨#[], args, []⟩).memory := by
  rw [MakeChecks.laidMetH_plain _ _ _ plainList]
  exact laidMet_laidAll _ (by kernel_rfl) (by kernel_rfl)
theorem laid_shaped (os : Os) : (World.laidAll Tryz.prog os seatLaid).Shaped Tryz.prog := World.shaped_of_ZipB (by kernel_rfl) (by kernel_rfl)
section
variable {H : Type} {enc : TypeId × Value → H}
/-- the kit's two bridges in one: a condition on the listed variables, and the world's shape -/
theorem handed_both {a : Assume} {C : Checked} {os : Os} {f : FuncId} {fn : Func} {s : ChangeSpec} {conds : List PathCond} {apart fresh handsOn again : Bool} {X : World → Array Value → Prop}
    (hX : ∀ (w w' : World) (args : Array Value), w.heap = w'.heap → X w args → X w' args)
    (own : ownKnob C.prog.godebug = none) (started : os.Started) (noInit : C.prog.inits.idxOf? f = none) (hfn : C.prog.funcs[f]? = some fn)
    (witness : ∃ (w : World) (tape : Tape) (i : Input), w.os = os ∧ (w.forCall tape i).Shaped C.prog ∧ i.vars = [] ∧ Input.okWide C.prog (w.forCall tape i) .any w.heap.size f i ∧
      ((s.pre enc C.prog fn conds apart (w.forCall tape i).memory i.args ∧ X (w.forCall tape i).memory i.args) ∧ sizedMet enc C.prog fn (OpenSpec.ofChange s) apart (w.forCall tape i).memory i.args) ∧ a.holds C.prog (lone (Frame.enter C.prog f i.args .normal) [] (w.forCall tape i)))
    (contract : ∀ (W : World) (base : Nat) (args : Array Value) (ds gs : List (DataW H)) (before : List MemPlace),
      (∀ (j : Nat) t v, fn.params[j]? = some t → args[j]? = some v → Value.okWide C.prog W .any base t v) →
      DataW.Whole enc C.prog fn.params.toList s.vars apart W args.toList ds gs before →
      conds.all (PathCond.test C.prog ⟨fn.params.toList, ds, s.plain.varTypes C.prog, gs⟩) = true →
      (DataW.weightsEach C.prog (fn.params.toList ++ s.plain.varTypes C.prog) (ds ++ gs)).all (· ≤ reachBytes) = true → X W args → W.ShapedOpen C.prog →
      a.holds C.prog (lone (Frame.enter C.prog f args .normal) [] W) →
      Calls C.prog f args W fun e W' => ∃ v, e = .returned v ∧ s.post enc C.prog fn apart fresh handsOn again W args v W') :
    ReturnsInHanded a C os f .any (fun w args => (s.pre enc C.prog fn conds apart w args ∧ X w args) ∧ sizedMet enc C.prog fn (OpenSpec.ofChange s) apart w args) (s.post enc C.prog fn apart fresh handsOn again) := by
  refine returnsInHanded_of_calls own started noInit witness ?_
  intro w tape i _ hsh _ hok hpre hholds
  obtain ⟨_, _, _, fn', hfn', _, _, _, _, hval⟩ := hok
  obtain rfl : fn' = fn := Option.some.inj (hfn'.symm.trans hfn)
  obtain ⟨⟨⟨ds, gs, before, hw, hc⟩, hx⟩, hz⟩ := hpre
  refine (contract (w.forCall tape i) w.heap.size i.args ds gs before hval (DataW.Whole.of_heap (w' := w.forCall tape i) (by rfl) hw) hc (hz.weights hw) (hX _ _ _ (by rfl) hx) hsh hholds).mono fun e W' ⟨v, he, hp⟩ => ?_
  subst he
  exact ChangeSpec.post_blind hp
variable {W : World}
theorem int_cell {fuel : Nat} {held : Bool} {sp : Nat → Bool} {v : Value} {x : DataW H × List MemPlace} (h : DataW.trod enc Tryz.prog W 0 sp held fuel 3 [v] = some x) : ∃ z : Int, v = .int .i64 z := by
  obtain ⟨z, e, _, _⟩ := DataW.trod_int Tryz.underlying3 h
  exact ⟨z, by simpa using e⟩
theorem str_cell {fuel : Nat} {held : Bool} {sp : Nat → Bool} {v : Value} {x : DataW H × List MemPlace} (h : DataW.trod enc Tryz.prog W 0 sp held fuel 9 [v] = some x) : ∃ s : ByteArray, v = .string s ∧ s.size ≤ maxLen := by
  obtain ⟨s, e, _, hs⟩ := DataW.trod_string Tryz.underlying9 h
  exact ⟨s, by simpa using e, hs⟩
theorem bd_cells {fuel : Nat} {a b : Value} {x : DataW H × List MemPlace} (hf : DataW.trod enc Tryz.prog W 0 (fun _ => true) true fuel 23 [a, b] = some x) : ∃ p : Fil.Bd, a = .int .i64 p.kind ∧ b = .int .i64 p.n := by
  obtain ⟨xs, n, _, _, _, hl, hg⟩ := DataW.trod_struct Tryz.underlying23 hf
  have hl2 : xs.length = 2 := hl
  have k : ∀ i (hi : i < 2), ∃ y, xs[i]? = some y := fun i hi => ⟨_, List.getElem?_eq_getElem (by omega)⟩
  obtain ⟨y0, e0⟩ := k 0 (by omega)
  obtain ⟨y1, e1⟩ := k 1 (by omega)
  have g0 : DataW.trod enc Tryz.prog W 0 (fun _ => true) true n 3 ((([a, b] : List Value).drop 0).take (Tryz.prog.cellsOf 3)) = xs[0]? := hg 0 _ rfl
  have g1 : DataW.trod enc Tryz.prog W 0 (fun _ => true) true n 3 ((([a, b] : List Value).drop 1).take (Tryz.prog.cellsOf 3)) = xs[1]? := hg 1 _ rfl
  rw [cellsInt, e0] at g0
  rw [cellsInt, e1] at g1
  obtain ⟨z0, rfl⟩ := int_cell (v := a) g0
  obtain ⟨z1, rfl⟩ := int_cell (v := b) g1
  exact ⟨⟨z0, z1⟩, rfl, rfl⟩
theorem list2 {α : Type} (l : List α) (h : (⟨l⟩ : Array α).size = 2) : ∃ a b, l = [a, b] := by
  match l, h with
  | [a, b], _ => exact ⟨a, b, rfl⟩
theorem uncons {α : Type} {l : List α} {n : Nat} (h : l.length = n + 1) : ∃ a r, l = a :: r ∧ r.length = n := by
  cases l with
  | nil => cases h
  | cons a r => exact ⟨a, r, rfl, by simpa using h⟩
theorem list16 {α : Type} (l : List α) (h : (⟨l⟩ : Array α).size = 16) : ∃ c0 c1 c2 c3 c4 c5 c6 c7 c8 c9 c10 c11 c12 c13 c14 c15, l = [c0, c1, c2, c3, c4, c5, c6, c7, c8, c9, c10, c11, c12, c13, c14, c15] := by
  have h0 : l.length = 16 := h
  obtain ⟨c0, r0, rfl, h1⟩ := uncons h0
  obtain ⟨c1, r1, rfl, h2⟩ := uncons h1
  obtain ⟨c2, r2, rfl, h3⟩ := uncons h2
  obtain ⟨c3, r3, rfl, h4⟩ := uncons h3
  obtain ⟨c4, r4, rfl, h5⟩ := uncons h4
  obtain ⟨c5, r5, rfl, h6⟩ := uncons h5
  obtain ⟨c6, r6, rfl, h7⟩ := uncons h6
  obtain ⟨c7, r7, rfl, h8⟩ := uncons h7
  obtain ⟨c8, r8, rfl, h9⟩ := uncons h8
  obtain ⟨c9, r9, rfl, h10⟩ := uncons h9
  obtain ⟨c10, r10, rfl, h11⟩ := uncons h10
  obtain ⟨c11, r11, rfl, h12⟩ := uncons h11
  obtain ⟨c12, r12, rfl, h13⟩ := uncons h12
  obtain ⟨c13, r13, rfl, h14⟩ := uncons h13
  obtain ⟨c14, r14, rfl, h15⟩ := uncons h14
  obtain ⟨c15, r15, rfl, h16⟩ := uncons h15
  obtain rfl := List.eq_nil_of_length_eq_zero h16
  exact ⟨c0, c1, c2, c3, c4, c5, c6, c7, c8, c9, c10, c11, c12, c13, c14, c15, rfl⟩
set_option maxRecDepth 100000 in
theorem open_bd {b0 : Nat} {v : Value} {d : DataW H} {ps : List MemPlace} (hok : Value.okWide Tryz.prog W .any b0 23 v) (hd : DataW.Trod enc Tryz.prog W 0 (fun _ => true) true 23 v d ps) : ∃ p : Fil.Bd, v = .agg #[.int .i64 p.kind, .int .i64 p.n] := by
  obtain ⟨cs, rfl, hsz⟩ := okWide_struct Tryz.underlying23 hok
  rw [cellsTB] at hsz
  obtain ⟨l⟩ := cs
  obtain ⟨a, b, rfl⟩ := list2 l hsz
  obtain ⟨fuel, hf⟩ := hd
  obtain ⟨p, rfl, rfl⟩ := bd_cells hf
  exact ⟨p, rfl⟩
set_option maxRecDepth 100000 in
theorem flt_cells {fuel : Nat} {cs : List Value} {x : DataW H × List MemPlace} (hf : DataW.trod enc Tryz.prog W 0 (fun _ => true) true fuel 25 cs = some x) (hsz : cs.length = 16) :
    ∃ (f : Fil.Flt) (fs : ByteArray), cs = (cellsF f fs).toList ∧ f.sub = fs.data.toList ∧ fs.size ≤ maxLen := by
  obtain ⟨c0, c1, c2, c3, c4, c5, c6, c7, c8, c9, c10, c11, c12, c13, c14, c15, rfl⟩ := list16 cs hsz
  obtain ⟨xs, n, _, _, _, hl, hg⟩ := DataW.trod_struct Tryz.underlying25 hf
  have hl13 : xs.length = 13 := hl
  have k : ∀ i (hi : i < 13), ∃ y, xs[i]? = some y := fun i hi => ⟨_, List.getElem?_eq_getElem (by omega)⟩
  obtain ⟨y0, e0⟩ := k 0 (by omega)
  have g0 : DataW.trod enc Tryz.prog W 0 (fun _ => true) true n 3 ((([c0, c1, c2, c3, c4, c5, c6, c7, c8, c9, c10, c11, c12, c13, c14, c15] : List Value).drop 0).take (Tryz.prog.cellsOf 3)) = xs[0]? := hg 0 _ rfl
  rw [cellsInt, e0] at g0
  obtain ⟨y1, e1⟩ := k 1 (by omega)
  have g1 : DataW.trod enc Tryz.prog W 0 (fun _ => true) true n 3 ((([c0, c1, c2, c3, c4, c5, c6, c7, c8, c9, c10, c11, c12, c13, c14, c15] : List Value).drop 1).take (Tryz.prog.cellsOf 3)) = xs[1]? := hg 1 _ rfl
  rw [cellsInt, e1] at g1
  obtain ⟨y2, e2⟩ := k 2 (by omega)
  have g2 : DataW.trod enc Tryz.prog W 0 (fun _ => true) true n 3 ((([c0, c1, c2, c3, c4, c5, c6, c7, c8, c9, c10, c11, c12, c13, c14, c15] : List Value).drop 2).take (Tryz.prog.cellsOf 3)) = xs[2]? := hg 2 _ rfl
  rw [cellsInt, e2] at g2
  obtain ⟨y3, e3⟩ := k 3 (by omega)
  have g3 : DataW.trod enc Tryz.prog W 0 (fun _ => true) true n 3 ((([c0, c1, c2, c3, c4, c5, c6, c7, c8, c9, c10, c11, c12, c13, c14, c15] : List Value).drop 3).take (Tryz.prog.cellsOf 3)) = xs[3]? := hg 3 _ rfl
  rw [cellsInt, e3] at g3
  obtain ⟨y4, e4⟩ := k 4 (by omega)
  have g4 : DataW.trod enc Tryz.prog W 0 (fun _ => true) true n 3 ((([c0, c1, c2, c3, c4, c5, c6, c7, c8, c9, c10, c11, c12, c13, c14, c15] : List Value).drop 4).take (Tryz.prog.cellsOf 3)) = xs[4]? := hg 4 _ rfl
  rw [cellsInt, e4] at g4
  obtain ⟨y5, e5⟩ := k 5 (by omega)
  have g5 : DataW.trod enc Tryz.prog W 0 (fun _ => true) true n 3 ((([c0, c1, c2, c3, c4, c5, c6, c7, c8, c9, c10, c11, c12, c13, c14, c15] : List Value).drop 5).take (Tryz.prog.cellsOf 3)) = xs[5]? := hg 5 _ rfl
  rw [cellsInt, e5] at g5
  obtain ⟨y6, e6⟩ := k 6 (by omega)
  have g6 : DataW.trod enc Tryz.prog W 0 (fun _ => true) true n 3 ((([c0, c1, c2, c3, c4, c5, c6, c7, c8, c9, c10, c11, c12, c13, c14, c15] : List Value).drop 6).take (Tryz.prog.cellsOf 3)) = xs[6]? := hg 6 _ rfl
  rw [cellsInt, e6] at g6
  obtain ⟨y7, e7⟩ := k 7 (by omega)
  have g7 : DataW.trod enc Tryz.prog W 0 (fun _ => true) true n 9 ((([c0, c1, c2, c3, c4, c5, c6, c7, c8, c9, c10, c11, c12, c13, c14, c15] : List Value).drop 7).take (Tryz.prog.cellsOf 9)) = xs[7]? := hg 7 _ rfl
  rw [cellsStr, e7] at g7
  obtain ⟨y8, e8⟩ := k 8 (by omega)
  have g8 : DataW.trod enc Tryz.prog W 0 (fun _ => true) true n 3 ((([c0, c1, c2, c3, c4, c5, c6, c7, c8, c9, c10, c11, c12, c13, c14, c15] : List Value).drop 8).take (Tryz.prog.cellsOf 3)) = xs[8]? := hg 8 _ rfl
  rw [cellsInt, e8] at g8
  obtain ⟨y9, e9⟩ := k 9 (by omega)
  have g9 : DataW.trod enc Tryz.prog W 0 (fun _ => true) true n 3 ((([c0, c1, c2, c3, c4, c5, c6, c7, c8, c9, c10, c11, c12, c13, c14, c15] : List Value).drop 9).take (Tryz.prog.cellsOf 3)) = xs[9]? := hg 9 _ rfl
  rw [cellsInt, e9] at g9
  obtain ⟨y10, e10⟩ := k 10 (by omega)
  have g10 : DataW.trod enc Tryz.prog W 0 (fun _ => true) true n 23 ((([c0, c1, c2, c3, c4, c5, c6, c7, c8, c9, c10, c11, c12, c13, c14, c15] : List Value).drop 10).take (Tryz.prog.cellsOf 23)) = xs[10]? := hg 10 _ rfl
  rw [cellsTB, e10] at g10
  obtain ⟨y11, e11⟩ := k 11 (by omega)
  have g11 : DataW.trod enc Tryz.prog W 0 (fun _ => true) true n 23 ((([c0, c1, c2, c3, c4, c5, c6, c7, c8, c9, c10, c11, c12, c13, c14, c15] : List Value).drop 12).take (Tryz.prog.cellsOf 23)) = xs[11]? := hg 11 _ rfl
  rw [cellsTB, e11] at g11
  obtain ⟨y12, e12⟩ := k 12 (by omega)
  have g12 : DataW.trod enc Tryz.prog W 0 (fun _ => true) true n 23 ((([c0, c1, c2, c3, c4, c5, c6, c7, c8, c9, c10, c11, c12, c13, c14, c15] : List Value).drop 14).take (Tryz.prog.cellsOf 23)) = xs[12]? := hg 12 _ rfl
  rw [cellsTB, e12] at g12
  obtain ⟨z0, rfl⟩ := int_cell (v := c0) g0
  obtain ⟨z1, rfl⟩ := int_cell (v := c1) g1
  obtain ⟨z2, rfl⟩ := int_cell (v := c2) g2
  obtain ⟨z3, rfl⟩ := int_cell (v := c3) g3
  obtain ⟨z4, rfl⟩ := int_cell (v := c4) g4
  obtain ⟨z5, rfl⟩ := int_cell (v := c5) g5
  obtain ⟨z6, rfl⟩ := int_cell (v := c6) g6
  obtain ⟨z7, rfl, h7⟩ := str_cell (v := c7) g7
  obtain ⟨z8, rfl⟩ := int_cell (v := c8) g8
  obtain ⟨z9, rfl⟩ := int_cell (v := c9) g9
  obtain ⟨z10, rfl, rfl⟩ := bd_cells (a := c10) (b := c11) g10
  obtain ⟨z11, rfl, rfl⟩ := bd_cells (a := c12) (b := c13) g11
  obtain ⟨z12, rfl, rfl⟩ := bd_cells (a := c14) (b := c15) g12
  exact ⟨⟨z0, z1, z2, z3, z4, z5, z6, z7.data.toList, z8, z9, z10, z11, z12⟩, z7, rfl, rfl, h7⟩
set_option maxHeartbeats 4000000 in
set_option maxRecDepth 100000 in
theorem mod_cells {fuel : Nat} {cs : List Value} {x : DataW H × List MemPlace} (hf : DataW.trod enc Tryz.prog W 0 (fun _ => true) true fuel 39 cs = some x) (hsz : cs.length = 20) :
    ∃ (k : Int) (n : Int) (m : Int) (s : ByteArray) (f : Fil.Flt) (fs : ByteArray), cs = (cat [#[.int .i64 k], #[.int .i64 n], #[.int .i64 m], #[.string s], cellsF f fs]).toList ∧ s.size ≤ maxLen ∧ f.sub = fs.data.toList ∧ fs.size ≤ maxLen := by
  obtain ⟨xs, fu, _, _, _, hl, hg⟩ := DataW.trod_struct Tryz.underlying39 hf
  have hlk : xs.length = 5 := hl
  have kk : ∀ i (hi : i < 5), ∃ y, xs[i]? = some y := fun i hi => ⟨_, List.getElem?_eq_getElem (by omega)⟩
  obtain ⟨y0, e0⟩ := kk 0 (by omega)
  have g0 : DataW.trod enc Tryz.prog W 0 (fun _ => true) true fu 3 ((cs.drop 0).take (Tryz.prog.cellsOf 3)) = xs[0]? := hg 0 _ rfl
  rw [show Tryz.prog.cellsOf 3 = 1 by kernel_rfl, e0] at g0
  obtain ⟨v0, q0⟩ := one_of ((cs.drop 0).take 1) (by simp; omega)
  rw [q0] at g0
  obtain ⟨k, rfl⟩ := int_cell g0
  obtain ⟨y1, e1⟩ := kk 1 (by omega)
  have g1 : DataW.trod enc Tryz.prog W 0 (fun _ => true) true fu 3 ((cs.drop 1).take (Tryz.prog.cellsOf 3)) = xs[1]? := hg 1 _ rfl
  rw [show Tryz.prog.cellsOf 3 = 1 by kernel_rfl, e1] at g1
  obtain ⟨v1, q1⟩ := one_of ((cs.drop 1).take 1) (by simp; omega)
  rw [q1] at g1
  obtain ⟨n, rfl⟩ := int_cell g1
  obtain ⟨y2, e2⟩ := kk 2 (by omega)
  have g2 : DataW.trod enc Tryz.prog W 0 (fun _ => true) true fu 3 ((cs.drop 2).take (Tryz.prog.cellsOf 3)) = xs[2]? := hg 2 _ rfl
  rw [show Tryz.prog.cellsOf 3 = 1 by kernel_rfl, e2] at g2
  obtain ⟨v2, q2⟩ := one_of ((cs.drop 2).take 1) (by simp; omega)
  rw [q2] at g2
  obtain ⟨m, rfl⟩ := int_cell g2
  obtain ⟨y3, e3⟩ := kk 3 (by omega)
  have g3 : DataW.trod enc Tryz.prog W 0 (fun _ => true) true fu 9 ((cs.drop 3).take (Tryz.prog.cellsOf 9)) = xs[3]? := hg 3 _ rfl
  rw [show Tryz.prog.cellsOf 9 = 1 by kernel_rfl, e3] at g3
  obtain ⟨v3, q3⟩ := one_of ((cs.drop 3).take 1) (by simp; omega)
  rw [q3] at g3
  obtain ⟨s, rfl, hs3⟩ := str_cell g3
  obtain ⟨y4, e4⟩ := kk 4 (by omega)
  have g4 : DataW.trod enc Tryz.prog W 0 (fun _ => true) true fu 25 ((cs.drop 4).take (Tryz.prog.cellsOf 25)) = xs[4]? := hg 4 _ rfl
  rw [show Tryz.prog.cellsOf 25 = 16 by kernel_rfl, e4] at g4
  obtain ⟨f, fs, q4, h4_0, h4_1⟩ := flt_cells g4 (by simp; omega)
  have e : cs.drop 0 = _ := (part_step cs 0 1 q0 (part_step cs 1 1 q1 (part_step cs 2 1 q2 (part_step cs 3 1 q3 (part_step cs 4 16 q4 (part_end cs hsz))))))
  refine ⟨k, n, m, s, f, fs, ?_, hs3, h4_0, h4_1⟩
  rw [List.drop_zero] at e
  rw [e, cat_list]
  simp
set_option maxRecDepth 100000 in
theorem open_mod {b0 : Nat} {v : Value} {d : DataW H} {ps : List MemPlace} (hok : Value.okWide Tryz.prog W .any b0 39 v) (hd : DataW.Trod enc Tryz.prog W 0 (fun _ => true) true 39 v d ps) :
    ∃ (k : Int) (n : Int) (m : Int) (s : ByteArray) (f : Fil.Flt) (fs : ByteArray), v = .agg (cat [#[.int .i64 k], #[.int .i64 n], #[.int .i64 m], #[.string s], cellsF f fs]) ∧ s.size ≤ maxLen ∧ f.sub = fs.data.toList ∧ fs.size ≤ maxLen := by
  obtain ⟨cs, rfl, hsz⟩ := okWide_struct Tryz.underlying39 hok
  rw [show Tryz.prog.cellsOf 39 = 20 by kernel_rfl] at hsz
  obtain ⟨l⟩ := cs
  obtain ⟨fuel, hf⟩ := hd
  have h9 : l.length = 20 := hsz
  obtain ⟨k, n, m, s, f, fs, h8, h0, h1, h2⟩ := mod_cells hf h9
  exact ⟨k, n, m, s, f, fs, (congrArg (fun z => Value.agg ⟨z⟩) h8).trans (agg_list _), h0, h1, h2⟩
end
end Go.Proofs.YtbcgkeclmioeiaaGreatDoor
namespace Go.Proofs.YtbcgkeclmioeiaaGreatDoor.Frame
open Go.ChangeShapes Go.WideShapes Go.RowKit
/-- a byte's number as a byte -/
theorem byte_of {n : Int} (h : (Lit.int .u8 n).wf = true) : ∃ c : UInt8, n = (c.toNat : Int) := by
  have h2 : 0 ≤ n ∧ n ≤ 255 := bounds_u8 h
  exact ⟨UInt8.ofNat n.toNat, by rw [UInt8.toNat_ofNat_of_lt' (by simp; omega)]; omega⟩
theorem u16_of {n : Int} (h : (Lit.int .u16 n).wf = true) : ∃ c : Nat, c < 65536 ∧ n = (c : Int) := by
  have h2 : 0 ≤ n ∧ n ≤ 65535 := bounds_u16 h
  exact ⟨n.toNat, by omega, by omega⟩
theorem u32_of {n : Int} (h : (Lit.int .u32 n).wf = true) : ∃ c : Nat, c < 4294967296 ∧ n = (c : Int) := by
  have h2 : 0 ≤ n ∧ n ≤ 4294967295 := bounds_u32 h
  exact ⟨n.toNat, by omega, by omega⟩
variable {H : Type} {enc : TypeId × Value → H} {P : Program}

theorem trodAll_below (hl : laidOutB P = true) {W W' : World} (hb : Below W.heap.size W W') :
    ∀ {ts : List TypeId} {vs : List Value} {ds : List (DataW H)} {ps : List MemPlace}, (ts.all fun t => P.readableRec t && decide (t < P.types.size)) = true →
      DataW.TrodAll enc P W 0 (fun _ => true) true ts vs ds ps → (∀ x ∈ ps, x.block < W.heap.size) →
      DataW.TrodAll enc P W' 0 (fun b => decide (b < W.heap.size)) true ts vs ds ps
  | [], vs, ds, ps, _, h, _ => by
    obtain ⟨rfl, rfl, rfl⟩ := trodAll_nil h
    exact trodAll_mk0
  | t :: ts, vs, ds, ps, hr, h, hlt => by
    obtain ⟨v, vs', d, ds', p, q, rfl, rfl, rfl, h0, h1⟩ := trodAll_cons h
    simp only [List.all_cons, Bool.and_eq_true, decide_eq_true_eq] at hr
    exact trodAll_cons_mk (Below.trod hl hr.1.1 hr.1.2 h0 hb (fun x hx => hlt x (List.mem_append_left _ hx)))
      (trodAll_below hl hb (by simpa using hr.2) h1 (fun x hx => hlt x (List.mem_append_right _ hx)))

theorem post_law {f : Func} {s : ChangeSpec} {tb : TypeId} {W W' : World} {args : Array Value} {ds gs : List (DataW H)} {before : List MemPlace} {apart : Bool}
    (hl : laidOutB P = true) (hr : (f.params.toList.all fun t => P.readableRec t && decide (t < P.types.size)) = true) (hres : f.resultTypes = #[tb]) (htb : P.underlying tb = some .bool) (hvars : s.vars = [])
    (hW : DataW.Whole enc P f.params.toList s.vars apart W args.toList ds gs before) (hspec : s.fn H ds = { results := [.lit (.bool true)], args := ds }) (hb : Below W.heap.size W W') :
    s.post enc P f apart true false false W args (.bool true) W' := by
  have hW' := hW
  have hlt := hW.lt
  obtain ⟨p, q, hA, hV, rfl, _, _⟩ := hW
  rw [hvars] at hV
  obtain ⟨rfl, rfl⟩ := trodVars_none hV
  simp only [List.append_nil] at hW' hlt
  refine ⟨ds, [], p, [], p, [], hW', ?_, ?_, ?_, hb.frame _, fun h => by cases h⟩
  · rw [List.append_nil, hspec, hres]
    exact trodAll_cons_mk (shut_bool htb true) trodAll_mk0
  · rw [List.append_nil, hspec]
    exact trodAll_below hl hb hr hA hlt
  · rw [List.append_nil, hspec, hvars]
    rfl
end Go.Proofs.YtbcgkeclmioeiaaGreatDoor.Frame
