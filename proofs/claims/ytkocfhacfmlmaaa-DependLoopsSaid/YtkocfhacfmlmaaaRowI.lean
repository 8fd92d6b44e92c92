/-
  ROWS OF ONE-CELL ELEMENTS OF ANY KIND, READ AND OWNED: what a contract says of a slice that is read, of one in new memory; the steps of append. By an AI agent.
-/
import Derived.Test.YtkocfhacfmlmaaaProg
import Derived.WalkKit
import Derived.WalkLawsBesides
import Derived.OwnWalk
import Derived.Handy
import Derived.Lib.Hide
import Derived.Lib.AppendStr
import Derived.Laws.CopyOwn
import Derived.Maps.AppendAt
import Derived.Laws.OwnMore
import Derived.Laws.AppendOwnNone
import Derived.Laws.MakeOwn
namespace Go.Proofs.Ytkocfhacfmlmaaa
open Go.RowKit

section
variable {α : Type} {enc : α → Value} {e t : TypeId} {B lo hi : Nat} {w w' w0 : World} {v : Value} {l m : List α}
/-- the value v is a slice in the blocks lo .. hi that reads as l -/
def RowIn (enc : α → Value) (lo hi : Nat) (w : World) (v : Value) (l : List α) : Prop :=
  ∃ a cap, v = .slice a l.length cap ∧ l.length ≤ cap ∧ cap ≤ maxLen ∧ (a = none → cap = 0) ∧ ∀ (i : Nat) x, l[i]? = some x → ∃ b o, a = some ⟨b, o, none⟩ ∧ lo ≤ b ∧ b < hi ∧ b < w.heap.size ∧ w.cell? ⟨b, o + i, none⟩ = some (enc x)
/-- the value v is a slice in new memory (from block B on) that holds just l -/
def OwnRow (enc : α → Value) (e : TypeId) (B : Nat) (w : World) (v : Value) (l : List α) : Prop := w.ownsRow B e 1 v l.length (l.map enc)
theorem sl_eq {a a' : Option Addr} {n n' c c' : Nat} (h : Value.slice a n c = .slice a' n' c') : a = a' ∧ n = n' ∧ c = c' := by injection h with h1 h2 h3; exact ⟨h1, h2, h3⟩

theorem RowIn.nil (enc : α → Value) (lo hi : Nat) (w : World) : RowIn enc lo hi w (.slice none 0 0) [] := ⟨none, 0, rfl, Nat.le_refl _, by decide, fun _ => rfl, fun i x h => by simp at h⟩
theorem RowIn.keep (h : RowIn enc lo hi w v l) (hs : w.heap.size ≤ w'.heap.size) (hk : ∀ k, lo ≤ k → k < hi → k < w.heap.size → w'.heap[k]? = w.heap[k]?) : RowIn enc lo hi w' v l := by
  obtain ⟨a, cap, rfl, h1, h2, hn, h3⟩ := h
  refine ⟨a, cap, rfl, h1, h2, hn, fun i x hx => ?_⟩
  obtain ⟨b, o, e, h4, h5, h6, h7⟩ := h3 i x hx
  exact ⟨b, o, e, h4, h5, by omega, by rw [World.cell?_of_block (a := ⟨b, o + i, none⟩) (hk b h4 h5 h6)]; exact h7⟩
theorem RowIn.mono {lo' hi' : Nat} (h : RowIn enc lo hi w v l) (h1 : lo' ≤ lo) (h2 : hi ≤ hi') : RowIn enc lo' hi' w v l := by
  obtain ⟨a, cap, rfl, h3, h4, hn, h5⟩ := h
  refine ⟨a, cap, rfl, h3, h4, hn, fun i x hx => ?_⟩
  obtain ⟨b, o, e, h4, h5, h6⟩ := h5 i x hx
  exact ⟨b, o, e, by omega, by omega, h6⟩
theorem RowIn.below {C : Nat} (h : RowIn enc lo hi w v l) (hb : Below C w w') (hC : hi ≤ C) : RowIn enc lo hi w' v l := h.keep hb.size fun k _ hk _ => hb.block k (by omega)
theorem RowIn.shape (h : RowIn enc lo hi w v l) : (∃ a cap, v = .slice a 0 cap ∧ l = [] ∧ cap ≤ maxLen ∧ (a = none → cap = 0)) ∨
    ∃ b o cap, v = .slice (some ⟨b, o, none⟩) l.length cap ∧ 0 < l.length ∧ lo ≤ b ∧ b < hi ∧ b < w.heap.size ∧ l.length ≤ cap ∧ cap ≤ maxLen ∧ ∀ (i : Nat) x, l[i]? = some x → w.cell? ⟨b, o + i, none⟩ = some (enc x) := by
  obtain ⟨a, cap, rfl, h1, h2, hn, h3⟩ := h
  cases l with
  | nil => exact .inl ⟨a, cap, rfl, rfl, h2, hn⟩
  | cons y r =>
    obtain ⟨b, o, rfl, h4, h5, h6, _⟩ := h3 0 y rfl
    refine .inr ⟨b, o, cap, rfl, by simp, h4, h5, h6, h1, h2, fun i x hx => ?_⟩
    obtain ⟨b', o', e, _, _, _, h6⟩ := h3 i x hx
    injection e with e
    injection e with e1 e2
    subst e1 e2
    exact h6
theorem RowIn.drop {b o n cap : Nat} (h : RowIn enc lo hi w (.slice (some ⟨b, o, none⟩) n cap) l) (hn : n = l.length) (k : Nat) (hk : k ≤ n) : RowIn enc lo hi w (.slice (some ⟨b, o + k, none⟩) (n - k) (cap - k)) (l.drop k) := by
  obtain ⟨a, cap', e, h1, h2, h3, h4⟩ := h
  obtain ⟨rfl, _, rfl⟩ := sl_eq e
  refine ⟨_, _, by rw [List.length_drop, hn], by rw [List.length_drop]; omega, by unfold maxLen at *; omega, fun e => by simp at e, fun i x hx => ?_⟩
  rw [List.getElem?_drop] at hx
  obtain ⟨b', o', e, h5, h6, h7, h8⟩ := h4 _ x hx
  injection e with e
  injection e with e1 e2
  subst e1 e2
  exact ⟨_, _, rfl, h5, h6, h7, by rw [Nat.add_assoc]; exact h8⟩
theorem RowIn.cut {b o n cap cap' : Nat} {a' : Addr} (h : RowIn enc lo hi w (.slice (some ⟨b, o, none⟩) n cap) l) (hn : n = l.length) (k : Nat) (hk : k ≤ n) (ha : cap - k ≠ 0 → a' = ⟨b, o + k, none⟩) (hc : cap' = cap - k) :
    RowIn enc lo hi w (.slice (some a') (n - k) cap') (l.drop k) := by
  by_cases h0 : cap - k = 0
  · obtain ⟨a, cap2, e, h1, h2, -⟩ := h
    obtain ⟨-, -, rfl⟩ := sl_eq e
    have hl : l.drop k = [] := List.drop_eq_nil_of_le (by omega)
    rw [hl]
    exact ⟨_, _, by rw [List.length_nil, show n - k = 0 by omega], Nat.zero_le _, by unfold maxLen at *; omega, fun e => by simp at e, fun i x hx => by simp at hx⟩
  · obtain rfl := ha h0
    subst hc
    exact h.drop hn k hk
theorem RowIn.take {b o n cap : Nat} (h : RowIn enc lo hi w (.slice (some ⟨b, o, none⟩) n cap) l) (k : Nat) (hk : k ≤ l.length) : RowIn enc lo hi w (.slice (some ⟨b, o, none⟩) k cap) (l.take k) := by
  obtain ⟨a, cap', e, h1, h2, h3, h4⟩ := h
  obtain ⟨rfl, _, rfl⟩ := sl_eq e
  refine ⟨_, _, by rw [List.length_take, Nat.min_eq_left hk], by rw [List.length_take]; omega, h2, h3, fun i x hx => ?_⟩
  rw [List.getElem?_take] at hx
  split at hx
  · exact h4 i x hx
  · cases hx

theorem OwnRow.nil (enc : α → Value) (e : TypeId) (B : Nat) (w : World) : OwnRow enc e B w (.slice none 0 0) [] := World.ownsRow_nil _ _ _ _
theorem OwnRow.shape (h : OwnRow enc e B w v l) :
    (v = .slice none 0 0 ∧ l = []) ∨ ∃ g cap, v = .slice (some ⟨g, 0, none⟩) l.length cap ∧ B ≤ g ∧ g < w.heap.size ∧ l.length ≤ cap ∧ cap ≤ maxLen ∧ ∀ (i : Nat) (x : α), l[i]? = some x → w.cell? ⟨g, i, none⟩ = some (enc x) := by
  rcases h.2 with ⟨hv, hn⟩ | ⟨g, cap, cur, hv, hB, hg, hc, hm, _⟩
  · exact .inl ⟨hv, List.eq_nil_of_length_eq_zero hn⟩
  · refine .inr ⟨g, cap, hv, hB, (Array.getElem?_eq_some_iff.1 hg).1, hc, hm, fun i x hx => ?_⟩
    have hcell := World.ownsRow.cells h (g := g) (by rw [hv]; rfl) i (enc x) (by simp [hx])
    have hadd : (⟨g, 0, none⟩ : Addr).add i = ⟨g, i, none⟩ := by unfold Addr.add; split <;> simp_all
    rw [hadd] at hcell
    exact hcell
theorem OwnRow.row (h : OwnRow enc e B w v l) : RowIn enc B w.heap.size w v l := by
  rcases h.shape with ⟨rfl, rfl⟩ | ⟨g, cap, rfl, h1, h2, h3, h4, h5⟩
  · exact RowIn.nil _ _ _ w
  · exact ⟨_, _, rfl, h3, h4, fun e => by simp at e, fun i x hx => ⟨g, 0, rfl, h1, h2, h2, by rw [Nat.zero_add]; exact h5 i x hx⟩⟩
theorem OwnRow.keep (h : OwnRow enc e B w v l) (hk : ∀ k, B ≤ k → k < w.heap.size → w'.heap[k]? = w.heap[k]?) : OwnRow enc e B w' v l := by
  refine ⟨h.1, ?_⟩
  rcases h.2 with hn | ⟨g, cap, cur, rfl, hB, hg, rest⟩
  · exact .inl hn
  · refine .inr ⟨g, cap, cur, rfl, hB, ?_, rest⟩
    rw [hk g hB (Array.getElem?_eq_some_iff.1 hg).1]
    exact hg
theorem OwnRow.below {C : Nat} (h : OwnRow enc e B w v l) (hb : Below C w w') (hC : w.heap.size ≤ C) : OwnRow enc e B w' v l := h.keep fun k _ hk => hb.block k (by omega)
theorem OwnRow.grown {r : Option Nat} (h : OwnRow enc e B w v l) (hg : w.grownBy w' r) (hne : ∀ k, r = some k → k < B) : OwnRow enc e B w' v l :=
  h.keep fun k hk hs => hg.block k hs fun e => by have := hne k e.symm; omega
theorem OwnRow.drewN (h : OwnRow enc e B w v l) (n : Nat) : OwnRow enc e B (w.drewN n) v l := h.below (below_drewN (Below.refl w.heap.size w) n) (Nat.le_refl _)
theorem OwnRow.mono {B' : Nat} (h : OwnRow enc e B w v l) (hB : B' ≤ B) : OwnRow enc e B' w v l := by
  refine ⟨h.1, ?_⟩
  rcases h.2 with hn | ⟨g, cap, cur, rfl, hg, rest⟩
  · exact .inl hn
  · exact .inr ⟨g, cap, cur, rfl, by omega, rest⟩
theorem OwnRow.lit (enc : α → Value) (e : TypeId) (w : World) (l : List α) (hl : l.length ≤ 1000000) : OwnRow enc e w.heap.size (w.alloc (.cells (l.map enc).toArray e)) (.slice (some ⟨w.heap.size, 0, none⟩) l.length l.length) l :=
  World.ownsRow_lit (base := w.heap.size) (size := 1) (e := e) w (l.map enc).toArray l.length (Nat.le_refl _) (by unfold maxLen; omega) (by simp)
theorem OwnRow.blk (h : OwnRow enc e B w v l) : ∀ g, v.ownBlock = some g → B ≤ g ∧ g < w.heap.size := fun g hg => World.ownsRow.lt h g hg
theorem grownBy_refl (w : World) (r : Option Nat) : w.grownBy w r := ⟨rfl, rfl, rfl, Nat.le_refl _, fun _ _ _ => rfl⟩
theorem grownBy_below {r : Option Nat} (hb : Below w.heap.size w w') : w.grownBy w' r := ⟨hb.os, hb.tape, hb.output, hb.size, fun k hk _ => hb.block k hk⟩
theorem below_grownBy {r : Option Nat} (hg : w.grownBy w' r) (hr : ∀ k, r = some k → B ≤ k) (hB : B ≤ w.heap.size) : Below B w w' := (Below.refl B w).grown hg hB hr
theorem grownBy_behind {r : Option Nat} {o : Obj} (h : (w.alloc o).grownBy w' r) : w.grownBy w' r := by
  refine ⟨h.os, h.tape, h.output, ?_, fun k hk hne => ?_⟩
  · have := h.size; simp at this; omega
  · rw [h.block k (by simp; omega) hne]
    simp only [World.alloc]
    rw [Array.getElem?_push_lt hk, Array.getElem?_eq_getElem hk]

/-- 's = append(s, x...)', s a row of the call's own, x a row that is read -/
theorem wpList_append_row {ops : Array Oper} {rest : List Oper} {o : Oper} {a : Act} {Q : Exit → Act → World → Prop} (hgd : o.guard = none) (s x : Operand)
    (ho : o.op = .call { callee := .builtin .append, args := #[s, x], argTypes := #[t, t] }) {z : Value} {bytes : Nat}
    (hinfo : (Try.prog.info? e).map (fun i => (i.zero, i.size, i.bytes)) = some (some z, 1, bytes)) (hz : z.cells.size = 1) (ht : Try.prog.underlying t = some (.slice e)) (h1 : ∀ x, (enc x).oneCell' = true)
    {u : Value} (hs : a.eval s = v) (hown : OwnRow enc e B w v l) (hx : a.eval x = u) (hu : RowIn enc lo hi w u m)
    (hlen : l.length + m.length ≤ 140737488355328) (hbytes : (l.length + m.length) * bytes ≤ 140737488355328) (hB : B ≤ w.heap.size)
    (h : ∀ v' w', OwnRow enc e B w' v' (l ++ m) → w.grownBy w' v.ownBlock → wpList Try.prog ops Q rest (a.put o.dst v') w') :
    wpList Try.prog ops Q (o :: rest) a w := by
  obtain ⟨i0, hi, hz0, hz1, hz2⟩ := info_parts hinfo
  have hrow : w.ownsRow B e 1 v l.length (l.map enc) := hown
  obtain ⟨ao, cap, rfl, h2, h3, h4, h5⟩ := hu
  cases ao with
  | none =>
    obtain rfl := h4 rfl
    have hm : m = [] := List.eq_nil_of_length_eq_zero (by omega)
    subst hm
    refine wpList_append_own_none hgd s x t ho B e i0 1 ht hi v l.length (l.map enc) hs hrow hx ?_
    exact h v w (by simpa using hown) (grownBy_refl _ _)
  | some ad =>
    refine wpList_append_own _ hgd s x t ho B e i0 z 1 bytes ht hi hz0 hz1 hz2 hz (by decide) v l.length (l.map enc) hs hrow ad m.length cap (m.map enc) hx (by simp) ?_ ?_ ?_ hbytes hB ?_
    · intro j u hj
      rw [List.getElem?_map] at hj
      obtain ⟨y, hy, rfl⟩ := Option.map_eq_some_iff.1 hj
      obtain ⟨b, o, e, _, _, _, h6⟩ := h5 j y hy
      obtain rfl := Option.some.inj e
      have hadd : (⟨b, o, none⟩ : Addr).add j = ⟨b, o + j, none⟩ := by unfold Addr.add; split <;> simp_all
      rw [hadd]
      exact h6
    · intro u hu
      obtain ⟨y, _, rfl⟩ := List.mem_map.1 hu
      exact h1 y
    · unfold maxLen; omega
    · intro v' w1 hown' hgrow _
      refine h v' w1 ?_ hgrow
      unfold OwnRow
      simpa using hown'
/-- 's = append(s, x)': behind the block that the element's literal has laid -/
theorem wpList_push_row {ops : Array Oper} {rest : List Oper} {o : Oper} {a : Act} {Q : Exit → Act → World → Prop} (hgd : o.guard = none) (s x : Operand)
    (ho : o.op = .call { callee := .builtin .append, args := #[s, x], argTypes := #[t, t] }) {z : Value} {bytes : Nat}
    (hinfo : (Try.prog.info? e).map (fun i => (i.zero, i.size, i.bytes)) = some (some z, 1, bytes)) (hz : z.cells.size = 1) (ht : Try.prog.underlying t = some (.slice e)) (h1 : ∀ x, (enc x).oneCell' = true)
    (hs : a.eval s = v) (hown : OwnRow enc e B w v l) (k : α) {ek : Value} (hk : ek = enc k) (hx : a.eval x = .slice (some ⟨w.heap.size, 0, none⟩) 1 1)
    (hlen : l.length + 1 ≤ 140737488355328) (hbytes : (l.length + 1) * bytes ≤ 140737488355328) (hB : B ≤ w.heap.size)
    (h : ∀ v' w', OwnRow enc e B w' v' (l ++ [k]) → w.grownBy w' v.ownBlock → wpList Try.prog ops Q rest (a.put o.dst v') w') :
    wpList Try.prog ops Q (o :: rest) a (w.alloc (.cells #[ek] e)) := by
  subst hk
  have hlit : RowIn enc w.heap.size (w.alloc (.cells #[enc k] e)).heap.size (w.alloc (.cells #[enc k] e)) (.slice (some ⟨w.heap.size, 0, none⟩) 1 1) [k] := (OwnRow.lit enc e w [k] (by simp)).row
  have ha : OwnRow enc e B (w.alloc (.cells #[enc k] e)) v l := World.ownsRow.alloc hown _
  exact wpList_append_row hgd s x ho hinfo hz ht h1 hs ha hx hlit hlen hbytes (by simp; omega) fun v' w' h2 h3 => h v' w' h2 (grownBy_behind h3)
end

/-- an int as a cell -/
def encI (x : Int) : Value := .int .i64 x
theorem infoI : (Try.prog.info? 3).map (fun i => (i.zero, i.size, i.bytes)) = some (some (.int .i64 0), 1, 8) := by kernel_rfl
abbrev Ints (w : World) (v : Value) (l : List Int) : Prop := RowIn encI 0 w.heap.size w v l
abbrev OwnI (B : Nat) (w : World) (v : Value) (l : List Int) : Prop := OwnRow encI 3 B w v l
/-- the call returns a row of ints in new memory -/
def IntsRes (l : List Int) (w : World) : Ending → World → Prop := fun e w' => ∃ v, e = .returned v ∧ OwnI w.heap.size w' v l ∧ Below w.heap.size w w'
theorem RowIn.all {α : Type} {enc : α → Value} {lo hi : Nat} {w : World} {v : Value} {l : List α} (h : RowIn enc lo hi w v l) : RowIn enc 0 w.heap.size w v l := by
  obtain ⟨a, cap, rfl, h3, h4, hn, h5⟩ := h
  refine ⟨a, cap, rfl, h3, h4, hn, fun i x hx => ?_⟩
  obtain ⟨b, o, e, h4, h5, h6, h7⟩ := h5 i x hx
  exact ⟨b, o, e, Nat.zero_le _, h6, h6, h7⟩
theorem RowIn.under {α : Type} {enc : α → Value} {C : Nat} {w w' : World} {v : Value} {l : List α} (h : RowIn enc 0 w.heap.size w v l) (hb : Below C w w') (hC : w.heap.size ≤ C) : RowIn enc 0 w'.heap.size w' v l := (h.below hb hC).all
theorem getD_get {α : Type} {l : List α} {k : Nat} {d : α} (h : k < l.length) : l[k]? = some (l.getD k d) := by simp [List.getD, h]
theorem below_alloc1 (w : World) (o : Obj) : Below w.heap.size w (w.alloc o) := (Below.refl _ _).alloc (Nat.le_refl _) _
theorem ret_bool {b c : Bool} (h : b = c) : Ending.returned (.bool b) = .returned (.bool c) := by rw [h]
/-- one place of a row of the call's own: what it holds; what a store there leaves -/
theorem OwnRow.place {α : Type} {enc : α → Value} {e : TypeId} {B n cap k : Nat} {w : World} {a : Option Addr} {l : List α} (d : α) (h : OwnRow enc e B w (.slice a n cap) l) (hk : k < n) :
    ∃ g, a = some ⟨g, 0, none⟩ ∧ B ≤ g ∧ g < w.heap.size ∧ w.cell? ⟨g, k, none⟩ = some (enc (l.getD k d)) ∧ w.frozen? ⟨g, k, none⟩ = false ∧
      ∀ u : α, OwnRow enc e B (w.setCell ⟨g, k, none⟩ (enc u)) (.slice (some ⟨g, 0, none⟩) n cap) (l.set k u) ∧ w.grownBy (w.setCell ⟨g, k, none⟩ (enc u)) (some g) := by
  rcases h.shape with ⟨e1, _⟩ | ⟨g, cap', e1, hB, hg, _, _, hcell⟩
  · obtain ⟨_, e2, _⟩ := sl_eq e1; omega
  obtain ⟨rfl, rfl, rfl⟩ := sl_eq e1
  refine ⟨g, rfl, hB, hg, hcell k _ (getD_get hk), World.ownsRow.frozenAt h k, fun u => ?_⟩
  obtain ⟨h1, h2⟩ := World.ownsRow.stored h k (enc u)
  refine ⟨?_, h2⟩
  unfold OwnRow
  rw [List.length_set, List.map_set]
  exact h1
theorem OwnRow.len {α : Type} {enc : α → Value} {e : TypeId} {B n cap : Nat} {w : World} {a : Option Addr} {l : List α} (h : OwnRow enc e B w (.slice a n cap) l) : n = l.length := by
  obtain ⟨_, _, e1, _⟩ := h.row
  exact (sl_eq e1).2.1
section
variable {B : Nat} {w w0 : World} {v u : Value} {ops : Array Oper} {rest : List Oper} {o : Oper} {a : Act} {Q : Exit → Act → World → Prop}
theorem wpList_append_ints {l m : List Int} {lo hi : Nat} (hgd : o.guard = none) (s x : Operand) (ho : o.op = .call { callee := .builtin .append, args := #[s, x], argTypes := #[22, 22] })
    (hs : a.eval s = v) (hown : OwnI B w v l) (hx : a.eval x = u) (hu : RowIn encI lo hi w u m) (hlen : l.length + m.length ≤ 1000000000000) (hB : B ≤ w.heap.size) (hb : Below B w0 w)
    (h : ∀ v' w', OwnI B w' v' (l ++ m) → Below B w0 w' → wpList Try.prog ops Q rest (a.put o.dst v') w') : wpList Try.prog ops Q (o :: rest) a w :=
  wpList_append_row hgd s x ho infoI rfl Try.underlying22 (fun _ => rfl) hs hown hx hu (by omega) (by omega) hB fun v' w' h1 h2 => h v' w' h1 (hb.grown h2 hB fun k hk => (hown.blk k hk).1)
theorem wpList_push_int {l : List Int} (hgd : o.guard = none) (s x : Operand) (ho : o.op = .call { callee := .builtin .append, args := #[s, x], argTypes := #[22, 22] })
    (hs : a.eval s = v) (hown : OwnI B w v l) (k : Int) {ek : Value} (hk : ek = encI k) (hx : a.eval x = .slice (some ⟨w.heap.size, 0, none⟩) 1 1) (hlen : l.length + 1 ≤ 1000000000000) (hB : B ≤ w.heap.size) (hb : Below B w0 w)
    (h : ∀ v' w', OwnI B w' v' (l ++ [k]) → Below B w0 w' → wpList Try.prog ops Q rest (a.put o.dst v') w') : wpList Try.prog ops Q (o :: rest) a (w.alloc (.cells #[ek] 3)) :=
  wpList_push_row hgd s x ho infoI rfl Try.underlying22 (fun _ => rfl) hs hown k hk hx (by omega) (by omega) hB fun v' w' h1 h2 => h v' w' h1 (hb.grown h2 hB fun k hk => (hown.blk k hk).1)
theorem made_ints (n : Nat) : madeCells #[.int .i64 0] n = ((List.replicate n (0 : Int)).map encI).toArray := by
  apply Array.ext
  · simp [madeCells]
  · intro i h1 h2
    simp [madeCells, encI, Nat.mod_one]
/-- n noughts, laid -/
def zeroRow (n : Nat) : Array Value := ((List.replicate n (0 : Int)).map encI).toArray
theorem zeroRow_size (n : Nat) : (zeroRow n).size = n := by simp [zeroRow]
/-- 'make([]int, n)' -/
theorem run_make_ints (w : World) (n : Nat) (hn : n ≤ 1000000) : (Instr.makeSlice 22 (.int .i64 (n : Int)) (.int .i64 (n : Int))).run Try.prog w =
    .ok (.slice (some ⟨w.heap.size, 0, none⟩) n n) (w.alloc (.cells (zeroRow n) 3)) := by
  obtain ⟨i0, hi, hz0, hz1, hz2⟩ := info_parts infoI
  have h := run_make (P := Try.prog) w 22 3 i0 (.int .i64 0) Try.underlying22 hi hz0 .i64 .i64 (n : Int) (n : Int) (by omega) (Int.le_refl _) (by rw [hz2]; omega) (by omega)
  have e : ((n : Int)).toNat = n := by omega
  rw [e, hz1, Nat.mul_one] at h
  unfold zeroRow
  rw [← made_ints]
  exact h
theorem own_made (w : World) (n : Nat) (hn : n ≤ 1000000) : OwnI w.heap.size (w.alloc (.cells (zeroRow n) 3)) (.slice (some ⟨w.heap.size, 0, none⟩) n n) (List.replicate n (0 : Int)) := by
  have h := OwnRow.lit encI 3 w (List.replicate n (0 : Int)) (by simpa using hn)
  rw [List.length_replicate] at h
  exact h
/-- the row of a call's own behind a copy that fills it -/
theorem own_filled {B g n cap : Nat} {w : World} {l : List Int} (hB : B ≤ g) (hn : n = l.length) (hc : n ≤ cap) (hm : cap ≤ maxLen) (hs : cap = l.length) (hg : w.heap[g]? = some (.cells (l.map encI).toArray 3 (0, 0))) :
    OwnI B w (.slice (some ⟨g, 0, none⟩) n cap) l := by
  subst hn
  subst hs
  refine ⟨by simp, .inr ⟨g, _, _, rfl, hB, hg, hc, hm, by simp, ?_⟩⟩
  simp [List.take_of_length_le]
theorem sizeI : (Try.prog.info? 3).map (·.size) = some 1 := by kernel_rfl
theorem splice_all {α : Type} {L cs : List α} (h : L.length = cs.length) : splice L 0 cs = cs := by
  unfold splice
  rw [List.drop_of_length_le (by omega)]
  simp
/-- 'copy(made, s)': a row just made is filled -/
theorem wpList_fill_ints {l : List Int} (hgd : o.guard = none) (d s : Operand) (ho : o.op = .call { callee := .builtin .copy, args := #[d, s], argTypes := #[22, 22] })
    (hd : a.eval d = .slice (some ⟨w.heap.size, 0, none⟩) l.length l.length) (hs : a.eval s = u) (hu : RowIn encI 0 w.heap.size w u l) (hn : l.length ≤ 1000000)
    (h : ∀ w', OwnI w.heap.size w' (.slice (some ⟨w.heap.size, 0, none⟩) l.length l.length) l → Below w.heap.size w w' → wpList Try.prog ops Q rest (a.put o.dst (goInt l.length)) w') :
    wpList Try.prog ops Q (o :: rest) a (w.alloc (.cells (zeroRow l.length) 3)) := by
  have hbl := below_alloc1 w (.cells (zeroRow l.length) 3)
  obtain ⟨a0, c0, rfl, h1, h2, -, hcell⟩ := hu
  have hg0 : (w.alloc (.cells (zeroRow l.length) 3)).heap[w.heap.size]? = some (.cells (zeroRow l.length).toList.toArray 3 (0, 0)) := by
    show (w.heap.push _)[w.heap.size]? = _
    rw [Array.getElem?_push_size]
  refine wpList_copy_splice hgd d s 22 22 ho 3 Try.underlying22 sizeI _ _ _ _ _ _ hd hs w.heap.size 0 (zeroRow l.length).toList 3 hg0 (l.map encI) ?_ ?_ ?_ ?_ w.heap.size w hbl (Nat.le_refl _) ?_
  · rw [List.length_map]; exact (Nat.min_self _).symm
  · intro hp
    rw [List.length_map] at hp
    obtain ⟨b, o, rfl, -⟩ := hcell 0 _ (getD_get (d := 0) hp)
    refine ⟨rfl, _, rfl, fun j u hj => ?_⟩
    rw [List.getElem?_map] at hj
    obtain ⟨y, hy, rfl⟩ := Option.map_eq_some_iff.1 hj
    obtain ⟨b', o', e, -, hb1, -, h6⟩ := hcell j y hy
    injection e with e
    injection e with e1 e2
    subst e1 e2
    have hadd : (⟨b, o, none⟩ : Addr).add j = ⟨b, o + j, none⟩ := by unfold Addr.add; split <;> simp_all
    rw [hadd, hbl.cell (p := ⟨b, o + j, none⟩) hb1]
    exact h6
  · simp [zeroRow_size]
  · intro u hu
    obtain ⟨y, -, rfl⟩ := List.mem_map.1 hu
    rfl
  · intro w' hg hb
    rw [List.length_map]
    refine h w' (own_filled (Nat.le_refl _) rfl (Nat.le_refl _) (by unfold maxLen; omega) rfl ?_) hb
    have hg' := hg.out
    rw [splice_all (by simp [zeroRow_size])] at hg'
    exact hg'
end
end Go.Proofs.Ytkocfhacfmlmaaa
