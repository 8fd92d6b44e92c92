/-
  ROWS OF STRINGS: what a contract says of a slice of strings (one that is read; one in new memory), the step of an append, and the way through the library's sort. By an AI agent.
-/
import Derived.Test.YtokenooggmnbaaaDoorProg
import Derived.WalkKit
import Derived.WalkLawsBesides
import Derived.OwnWalk
import Derived.Handy
import Derived.Lib.Hide
import Derived.Lib.OwnBridge
import Derived.Maps.AppendAt
import Derived.Laws.OwnMore
import Derived.Sort.Grow
import Derived.Sort.EncStr
namespace Go.Proofs.YtokenooggmnbaaaDoor
open Go.RowKit

theorem infoStr : (Tryd.prog.info? 9).map (fun i => (i.zero, i.size, i.bytes)) = some (some (.string ⟨#[]⟩), 1, 16) := by kernel_rfl
/-- a string's value out of its bytes -/
def str (l : List UInt8) : Value := .string ⟨l.toArray⟩
theorem str_data (s : ByteArray) : str s.data.toList = .string s := rfl
theorem str_enc : str = Proofs.encStr := rfl
/-- the value v is a slice of strings that reads as l -/
def Strs (w : World) (v : Value) (l : List (List UInt8)) : Prop :=
  ∃ a cap, v = .slice a l.length cap ∧ l.length ≤ cap ∧ cap ≤ maxLen ∧ ∀ (i : Nat) x, l[i]? = some x → ∃ b o, a = some ⟨b, o, none⟩ ∧ b < w.heap.size ∧ w.cell? ⟨b, o + i, none⟩ = some (str x)
/-- the value v is a slice of strings in new memory (from block B on) that holds just l -/
def OwnStrs (B : Nat) (w : World) (v : Value) (l : List (List UInt8)) : Prop := w.ownsRow B 9 1 v l.length (l.map str)
theorem Strs.nil (w : World) : Strs w (.slice none 0 0) [] := ⟨none, 0, rfl, Nat.le_refl _, by decide, fun i x h => by simp at h⟩
theorem Strs.shape {w : World} {v : Value} {l : List (List UInt8)} (h : Strs w v l) : (∃ a cap, v = .slice a 0 cap ∧ l = []) ∨
    ∃ b o cap, v = .slice (some ⟨b, o, none⟩) l.length cap ∧ 0 < l.length ∧ b < w.heap.size ∧ l.length ≤ cap ∧ cap ≤ maxLen ∧ ∀ (i : Nat) x, l[i]? = some x → w.cell? ⟨b, o + i, none⟩ = some (str x) := by
  obtain ⟨a, cap, rfl, h1, h2, h3⟩ := h
  cases l with
  | nil => exact .inl ⟨a, cap, rfl, rfl⟩
  | cons y r =>
    obtain ⟨b, o, rfl, h4, _⟩ := h3 0 y rfl
    refine .inr ⟨b, o, cap, rfl, by simp, h4, h1, h2, fun i x hx => ?_⟩
    obtain ⟨b', o', e, _, h6⟩ := h3 i x hx
    injection e with e
    injection e with e1 e2
    subst e1 e2
    exact h6
theorem Strs.of_cells {w : World} {b o cap : Nat} {l : List (List UInt8)} (h1 : l.length ≤ cap) (h2 : cap ≤ maxLen) (hb : b < w.heap.size) (h : ∀ (i : Nat) x, l[i]? = some x → w.cell? ⟨b, o + i, none⟩ = some (str x)) :
    Strs w (.slice (some ⟨b, o, none⟩) l.length cap) l := ⟨_, cap, rfl, h1, h2, fun i x hx => ⟨b, o, rfl, hb, h i x hx⟩⟩
theorem Strs.below {C : Nat} {w w' : World} {v : Value} {l : List (List UInt8)} (h : Strs w v l) (hb : Below C w w') (hC : w.heap.size ≤ C) : Strs w' v l := by
  obtain ⟨a, cap, rfl, h1, h2, h3⟩ := h
  refine ⟨a, cap, rfl, h1, h2, fun i x hx => ?_⟩
  obtain ⟨b, o, e, h4, h5⟩ := h3 i x hx
  exact ⟨b, o, e, Nat.lt_of_lt_of_le h4 hb.size, by rw [hb.cell (p := ⟨b, o + i, none⟩) (by show b < C; omega)]; exact h5⟩
theorem OwnStrs.nil (B : Nat) (w : World) : OwnStrs B w (.slice none 0 0) [] := World.ownsRow_nil _ _ _ _
theorem OwnStrs.below {B C : Nat} {w w' : World} {v : Value} {l : List (List UInt8)} (h : OwnStrs B w v l) (hb : Below C w w') (hC : w.heap.size ≤ C) : OwnStrs B w' v l := by
  refine ⟨h.1, ?_⟩
  rcases h.2 with hn | ⟨g, cap, cur, rfl, hB, hg, rest⟩
  · exact .inl hn
  · refine .inr ⟨g, cap, cur, rfl, hB, ?_, rest⟩
    have hlt := (Array.getElem?_eq_some_iff.1 hg).1
    rw [hb.block g (by omega)]
    exact hg
theorem OwnStrs.mono {B B' : Nat} {w : World} {v : Value} {l : List (List UInt8)} (h : OwnStrs B w v l) (hB : B' ≤ B) : OwnStrs B' w v l := by
  refine ⟨h.1, ?_⟩
  rcases h.2 with hn | ⟨g, cap, cur, rfl, hg, rest⟩
  · exact .inl hn
  · exact .inr ⟨g, cap, cur, rfl, by omega, rest⟩
theorem OwnStrs.lit (w : World) (l : List (List UInt8)) (hl : l.length ≤ 1000000) : OwnStrs w.heap.size (w.alloc (.cells (l.map str).toArray 9)) (.slice (some ⟨w.heap.size, 0, none⟩) l.length l.length) l := by
  have := World.ownsRow_lit (base := w.heap.size) (size := 1) (e := 9) w (l.map str).toArray l.length (Nat.le_refl _) (by unfold maxLen; omega) (by simp)
  simpa [OwnStrs] using this
/-- the shape of the value, its cells -/
theorem OwnStrs.shape {B : Nat} {w : World} {v : Value} {l : List (List UInt8)} (h : OwnStrs B w v l) :
    (v = .slice none 0 0 ∧ l = []) ∨ ∃ g cap, v = .slice (some ⟨g, 0, none⟩) l.length cap ∧ B ≤ g ∧ g < w.heap.size ∧ l.length ≤ cap ∧ cap ≤ maxLen ∧ ∀ (i : Nat) x, l[i]? = some x → w.cell? ⟨g, i, none⟩ = some (str x) := by
  rcases h.2 with ⟨hv, hn⟩ | ⟨g, cap, cur, hv, hB, hg, hc, hm, _⟩
  · exact .inl ⟨hv, List.eq_nil_of_length_eq_zero hn⟩
  · refine .inr ⟨g, cap, hv, hB, (Array.getElem?_eq_some_iff.1 hg).1, hc, hm, fun i x hx => ?_⟩
    have hcell := World.ownsRow.cells h (g := g) (by rw [hv]; rfl) i (str x) (by simp [hx])
    have hadd : (⟨g, 0, none⟩ : Addr).add i = ⟨g, i, none⟩ := by unfold Addr.add; split <;> simp_all
    rw [hadd] at hcell
    exact hcell
theorem OwnStrs.strs {B : Nat} {w : World} {v : Value} {l : List (List UInt8)} (h : OwnStrs B w v l) : Strs w v l := by
  rcases h.shape with ⟨rfl, rfl⟩ | ⟨g, cap, rfl, _, h2, h3, h4, h5⟩
  · exact Strs.nil w
  · exact Strs.of_cells h3 h4 h2 fun i x hx => by rw [Nat.zero_add]; exact h5 i x hx
/-- behind 'append(s, x)': what the law leaves, read as lists -/
theorem OwnStrs.pushed {B : Nat} {w0 w w' : World} {v v' : Value} {l : List (List UInt8)} {x : List UInt8} (h : OwnStrs B w v l) (hb : Below B w0 w) (hB : B ≤ w.heap.size)
    (hown : w'.ownsRow B 9 1 v' (l.length + 1) (l.map str ++ [str x])) (hg : (w.alloc (.cells #[str x] 9)).grownBy w' v.ownBlock) :
    OwnStrs B w' v' (l ++ [x]) ∧ Below B w0 w' := by
  refine ⟨?_, ?_⟩
  · unfold OwnStrs
    simpa using hown
  · refine (hb.alloc hB _).grown hg (by simp; omega) fun k hk => ?_
    exact (World.ownsRow.lt h k hk).1
/-- 's = append(s, k)', s a row of the call's own: at the operation, behind the block that the element's literal has laid. -/
theorem wpList_push_str {ops : Array Oper} {rest : List Oper} {o : Oper} {a : Act} {Q : Exit → Act → World → Prop} (hgd : o.guard = none) (s x : Operand)
    (ho : o.op = .call { callee := .builtin .append, args := #[s, x], argTypes := #[35, 35] })
    {B : Nat} {w0 w : World} {v : Value} {l : List (List UInt8)} (hs : a.eval s = v) (hown : OwnStrs B w v l) (k : ByteArray) (hx : a.eval x = .slice (some ⟨w.heap.size, 0, none⟩) 1 1)
    (hlen : l.length ≤ 1000000000000) (hB : B ≤ w.heap.size) (hb : Below B w0 w)
    (h : ∀ v' w', OwnStrs B w' v' (l ++ [k.data.toList]) → Below B w0 w' → wpList Tryd.prog ops Q rest (a.put o.dst v') w') :
    wpList Tryd.prog ops Q (o :: rest) a (w.alloc (.cells #[.string k] 9)) := by
  obtain ⟨i0, hi, hz0, hz1, hz2⟩ := info_parts infoStr
  have hrow : w.ownsRow B 9 1 v l.length (l.map str) := hown
  refine wpList_append_own _ hgd s x 35 ho B 9 i0 (.string ⟨#[]⟩) 1 16 Tryd.underlying35 hi hz0 hz1 hz2 rfl (by decide) v l.length (l.map str) hs (World.ownsRow.alloc hrow _) ⟨w.heap.size, 0, none⟩ 1 1 [.string k] hx rfl (cell_one_new _ _ _) ?_ ?_ ?_ ?_ ?_
  · intro u hu; simp at hu; subst hu; rfl
  · unfold maxLen; omega
  · omega
  · simp; omega
  · intro v' w1 hown' hgrow _
    obtain ⟨h1, h2⟩ := OwnStrs.pushed (x := k.data.toList) hown hb hB hown' hgrow
    exact h v' w1 h1 h2
/-- 's = append(s, x)' where the element's block lies as the walk spells it. -/
theorem below_grow (w : World) (os : Array Obj) : Below w.heap.size w (Go.Sort.grow w os) := ⟨rfl, rfl, rfl, by simp [Go.Sort.grow], fun _ hk => Go.Sort.heap_grow_old w os hk⟩
theorem OwnStrs.holds {B : Nat} {w : World} {v : Value} {l : List (List UInt8)} (h : OwnStrs B w v l) (hl : 0 < l.length) :
    ∃ g cap, v = .slice (some ⟨g, 0, none⟩) l.length cap ∧ B ≤ g ∧ g < w.heap.size ∧ l.length ≤ cap ∧ cap ≤ maxLen ∧ Go.Sort.Holds Proofs.encStr w g 0 l.toArray := by
  obtain ⟨g, cap, e, h1, h2, h3, h4, _, h5⟩ := Lib.holds_of_ownsRow (enc := Proofs.encStr) (zs := l) h (by
    intro e; rcases h.shape with ⟨_, e1⟩ | ⟨g, cap, e2, _⟩
    · subst e1; simp at hl
    · rw [e] at e2; cases e2)
  exact ⟨g, cap, e, h1, h2, h3, h4, h5⟩
/-- behind a library's function that has written the row: the first k elements of what it laid -/
theorem OwnStrs.laid {B : Nat} {w0 w w' : World} {g cap q k : Nat} {l d : List (List UInt8)} {os : Array Obj} (h : OwnStrs B w (.slice (some ⟨g, 0, none⟩) l.length cap) l) (hb : Below B w0 w) (hg : B ≤ g) (hd : d.length = l.length) (hk : k ≤ l.length)
    (hw : w' = Go.Sort.grow (Go.Sort.putRow Proofs.encStr (Go.Sort.ahead w q) g 0 d.toArray) os) : OwnStrs B w' (.slice (some ⟨g, 0, none⟩) k cap) (d.take k) ∧ Below B w0 w' := by
  subst hw
  have h1 := Lib.ownsRow_putRow (q := q) (k := k) (ys := d) (enc := Proofs.encStr) (zs := l) h hd hk
  have h2 := Lib.below_putRow (enc := Proofs.encStr) (q := q) (d := d.toArray) hb hg
  have hlt : B ≤ (Go.Sort.putRow Proofs.encStr (Go.Sort.ahead w q) g 0 d.toArray).heap.size := by
    have := (World.ownsRow.lt h1 g rfl).2; omega
  have e : (d.take k).length = k := by simp; omega
  have h3 : OwnStrs B (Go.Sort.putRow Proofs.encStr (Go.Sort.ahead w q) g 0 d.toArray) (.slice (some ⟨g, 0, none⟩) k cap) (d.take k) := by
    unfold OwnStrs; rw [e]; exact h1
  exact ⟨h3.below (below_grow _ os) (Nat.le_refl _), h2.trans ((below_grow _ os).mono hlt)⟩
end Go.Proofs.YtokenooggmnbaaaDoor
