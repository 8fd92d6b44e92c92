/-
  ROWS OF NUMBERS, OF BOOLS, OF SLICES; ROWS OF ROWS, READ AND OWNED. By an AI agent.
-/
import Derived.Test.YtkocfhacfmlmaaaRowI
import Derived.OneCell
namespace Go.Proofs.Ytkocfhacfmlmaaa
open Go.RowKit

def encN (k : Nat) : Value := .int .i64 (k : Int)
def encB (b : Bool) : Value := .bool b
/-- a slice's head: where, how many, how many at most -/
abbrev Hd : Type := Option Addr × Nat × Nat
def encH (h : Hd) : Value := .slice h.1 h.2.1 h.2.2
theorem infoB : (Try.prog.info? 4).map (fun i => (i.zero, i.size, i.bytes)) = some (some (.bool false), 1, 1) := by kernel_rfl
theorem infoSI : (Try.prog.info? 22).map (fun i => (i.zero, i.size, i.bytes)) = some (some (.slice none 0 0), 1, 24) := by kernel_rfl
theorem infoSB : (Try.prog.info? 31).map (fun i => (i.zero, i.size, i.bytes)) = some (some (.slice none 0 0), 1, 24) := by kernel_rfl

section
variable {α : Type} {enc : α → Value} {e : TypeId} {B lo hi : Nat} {w w' w0 : World} {v : Value} {l m : List α}
theorem OwnRow.stay (h : OwnRow enc e B w v l) (hk : ∀ k, v.ownBlock = some k → w'.heap[k]? = w.heap[k]?) : OwnRow enc e B w' v l := by
  refine ⟨h.1, ?_⟩
  rcases h.2 with hn | ⟨g, cap, cur, rfl, hB, hg, rest⟩
  · exact .inl hn
  · refine .inr ⟨g, cap, cur, rfl, hB, ?_, rest⟩
    rw [hk g rfl]
    exact hg
theorem OwnRow.block (h : OwnRow enc e B w v l) {g : Nat} (hg : v.ownBlock = some g) : ∃ cur, w.heap[g]? = some (.cells cur e (0, 0)) := by
  rcases h.2 with ⟨rfl, _⟩ | ⟨g', cap, cur, rfl, hB, hg', rest⟩
  · cases hg
  · injection hg with hg
    subst hg
    exact ⟨cur, hg'⟩
theorem OwnRow.takeN {a : Option Addr} {n cap k : Nat} (h : OwnRow enc e B w (.slice a n cap) l) (hk : k ≤ n) : OwnRow enc e B w (.slice a k cap) (l.take k) := by
  have hn := h.len
  refine ⟨by simp, ?_⟩
  rw [show (l.take k).length = k by simp; omega]
  rcases h.2 with ⟨e1, h0⟩ | ⟨g, cap', cur, e1, hB, hg, h1, h2, h3, h4⟩
  · obtain ⟨rfl, e2, rfl⟩ := sl_eq e1
    obtain rfl : k = 0 := by omega
    exact .inl ⟨rfl, rfl⟩
  · obtain ⟨rfl, e2, rfl⟩ := sl_eq e1
    refine .inr ⟨g, cap, cur, rfl, hB, hg, by omega, h2, h3, ?_⟩
    rw [List.map_take, ← h4, List.take_take]
    congr 1
    omega
/-- two owned rows of elements of different types lie in different blocks -/
theorem OwnRow.apart {β : Type} {enc' : β → Value} {e' : TypeId} {B' : Nat} {v' : Value} {l' : List β} (h : OwnRow enc e B w v l) (h' : OwnRow enc' e' B' w v' l') (hne : e ≠ e') {g : Nat} (hg : v.ownBlock = some g) : v'.ownBlock ≠ some g := fun hg' => by
  obtain ⟨cur, h1⟩ := h.block hg
  obtain ⟨cur', h2⟩ := h'.block hg'
  rw [h1] at h2
  injection h2 with h2
  injection h2 with _ h3
  exact hne h3
end

/-- a slice of slices that reads as M -/
def Grid {α : Type} (enc : α → Value) (lo hi : Nat) (w : World) (v : Value) (M : List (List α)) : Prop :=
  ∃ hs : List Hd, RowIn encH lo hi w v hs ∧ hs.length = M.length ∧ ∀ (i : Nat) h l, hs[i]? = some h → M[i]? = some l → RowIn enc lo hi w (encH h) l
/-- a slice of slices in new memory -/
def OwnGrid {α : Type} (enc : α → Value) (e t : TypeId) (B : Nat) (w : World) (v : Value) (M : List (List α)) : Prop :=
  ∃ hs : List Hd, OwnRow encH t B w v hs ∧ hs.length = M.length ∧ ∀ (i : Nat) h l, hs[i]? = some h → M[i]? = some l → OwnRow enc e B w (encH h) l
section
variable {α : Type} {enc : α → Value} {e t : TypeId} {B lo hi : Nat} {w w' : World} {v : Value} {M : List (List α)}
theorem Grid.keep (h : Grid enc lo hi w v M) (hs : w.heap.size ≤ w'.heap.size) (hk : ∀ k, lo ≤ k → k < hi → k < w.heap.size → w'.heap[k]? = w.heap[k]?) : Grid enc lo hi w' v M := by
  obtain ⟨hs', h1, h2, h3⟩ := h
  exact ⟨hs', h1.keep hs hk, h2, fun i h l e1 e2 => (h3 i h l e1 e2).keep hs hk⟩
theorem Grid.below {C : Nat} (h : Grid enc lo hi w v M) (hb : Below C w w') (hC : hi ≤ C) : Grid enc lo hi w' v M := h.keep hb.size fun k _ hk _ => hb.block k (by omega)
theorem Grid.under {C : Nat} (h : Grid enc 0 w.heap.size w v M) (hb : Below C w w') (hC : w.heap.size ≤ C) : Grid enc 0 w'.heap.size w' v M := by
  obtain ⟨hs, h1, h2, h3⟩ := h
  exact ⟨hs, h1.under hb hC, h2, fun i h l e1 e2 => (h3 i h l e1 e2).under hb hC⟩
theorem Grid.all (h : Grid enc lo hi w v M) : Grid enc 0 w.heap.size w v M := by
  obtain ⟨hs, h1, h2, h3⟩ := h
  exact ⟨hs, h1.all, h2, fun i h l e1 e2 => (h3 i h l e1 e2).all⟩
theorem Grid.nil (enc : α → Value) (lo hi : Nat) (w : World) : Grid enc lo hi w (.slice none 0 0) [] := ⟨[], RowIn.nil _ _ _ _, rfl, fun i h l e1 => by simp at e1⟩
theorem OwnGrid.grid (h : OwnGrid enc e t B w v M) : Grid enc B w.heap.size w v M := by
  obtain ⟨hs, h1, h2, h3⟩ := h
  exact ⟨hs, h1.row, h2, fun i h l e1 e2 => (h3 i h l e1 e2).row⟩
theorem Grid.len (h : Grid enc lo hi w v M) : ∃ a cap, v = .slice a M.length cap ∧ cap ≤ maxLen ∧ M.length ≤ cap := by
  obtain ⟨hs, ⟨a, cap, rfl, h1, h2, _⟩, h3, _⟩ := h
  rw [h3] at h1
  exact ⟨a, cap, by rw [h3], h2, h1⟩
/-- one row of the grid -/
theorem Grid.row {a : Option Addr} {n cap i : Nat} (h : Grid enc lo hi w (.slice a n cap) M) (hi' : i < n) :
    ∃ b o hd, a = some ⟨b, o, none⟩ ∧ lo ≤ b ∧ b < hi ∧ b < w.heap.size ∧ w.cell? ⟨b, o + i, none⟩ = some (encH hd) ∧ RowIn enc lo hi w (encH hd) (M.getD i []) := by
  obtain ⟨hs, ⟨a', cap', e1, h1, h2, hn, h3⟩, h4, h5⟩ := h
  obtain ⟨rfl, rfl, rfl⟩ := sl_eq e1
  have hm : hs[i]? = some hs[i] := List.getElem?_eq_getElem hi'
  obtain ⟨b, o, rfl, h6, h7, h8, h9⟩ := h3 i _ hm
  exact ⟨b, o, hs[i], rfl, h6, h7, h8, h9, h5 i _ _ hm (getD_get (by omega))⟩
end
end Go.Proofs.Ytkocfhacfmlmaaa
