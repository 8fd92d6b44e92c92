/-
  ROWS OF INTEGERS THAT A CALL OWNS: what a contract says of a slice of ints in new memory, and the step of an append. By an AI agent.
-/
import Derived.Test.YtkohfomiigcifaaGreatDoorProg
import Derived.WalkKit
import Derived.WalkLawsBesides
import Derived.OwnWalk
import Derived.Handy
import Derived.Lib.Hide
import Derived.Maps.AppendAt
namespace Go.Proofs.YtkohfomiigcifaaGreatDoor
open Go.RowKit

theorem infoInt : (Tryz.prog.info? 3).map (fun i => (i.zero, i.size, i.bytes)) = some (some (.int .i64 0), 1, 8) := by kernel_rfl
/-- the value v is a slice of ints in new memory (from block B on) that holds just l -/
def OwnInts (B : Nat) (w : World) (v : Value) (l : List Int) : Prop := w.ownsRow B 3 1 v l.length (l.map (Value.int .i64))
theorem OwnInts.nil (B : Nat) (w : World) : OwnInts B w (.slice none 0 0) [] := World.ownsRow_nil _ _ _ _
theorem OwnInts.below {B C : Nat} {w w' : World} {v : Value} {l : List Int} (h : OwnInts B w v l) (hb : Below C w w') (hC : w.heap.size ≤ C) : OwnInts B w' v l := by
  refine ⟨h.1, ?_⟩
  rcases h.2 with hn | ⟨g, cap, cur, rfl, hB, hg, rest⟩
  · exact .inl hn
  · refine .inr ⟨g, cap, cur, rfl, hB, ?_, rest⟩
    have hlt := (Array.getElem?_eq_some_iff.1 hg).1
    rw [hb.block g (by omega)]
    exact hg
/-- the shape of the value, its cells -/
theorem OwnInts.shape {B : Nat} {w : World} {v : Value} {l : List Int} (h : OwnInts B w v l) :
    (v = .slice none 0 0 ∧ l = []) ∨ ∃ g cap, v = .slice (some ⟨g, 0, none⟩) l.length cap ∧ B ≤ g ∧ g < w.heap.size ∧ l.length ≤ cap ∧ cap ≤ maxLen ∧ ∀ (i : Nat) (x : Int), l[i]? = some x → w.cell? ⟨g, i, none⟩ = some (.int .i64 x) := by
  rcases h.2 with ⟨hv, hn⟩ | ⟨g, cap, cur, hv, hB, hg, hc, hm, _⟩
  · exact .inl ⟨hv, List.eq_nil_of_length_eq_zero hn⟩
  · refine .inr ⟨g, cap, hv, hB, (Array.getElem?_eq_some_iff.1 hg).1, hc, hm, fun i x hx => ?_⟩
    have hcell := World.ownsRow.cells h (g := g) (by rw [hv]; rfl) i (.int .i64 x) (by simp [hx])
    have hadd : (⟨g, 0, none⟩ : Addr).add i = ⟨g, i, none⟩ := by unfold Addr.add; split <;> simp_all
    rw [hadd] at hcell
    exact hcell
/-- behind 'append(s, x)': what the law leaves, read as lists -/
theorem OwnInts.pushed {B : Nat} {w0 w w' : World} {v v' : Value} {l : List Int} {x : Int} (h : OwnInts B w v l) (hb : Below B w0 w) (hB : B ≤ w.heap.size)
    (hown : w'.ownsRow B 3 1 v' (l.length + 1) (l.map (Value.int .i64) ++ [.int .i64 x])) (hg : (w.alloc (.cells #[.int .i64 x] 3)).grownBy w' v.ownBlock) :
    OwnInts B w' v' (l ++ [x]) ∧ Below B w0 w' := by
  refine ⟨?_, ?_⟩
  · unfold OwnInts
    simpa using hown
  · refine (hb.alloc hB _).grown hg (by simp; omega) fun k hk => ?_
    exact (World.ownsRow.lt h k hk).1
/-- 's = append(s, k)', s a row of the call's own: at the operation, behind the block that the element's literal has laid. -/
theorem wpList_push_int {ops : Array Oper} {rest : List Oper} {o : Oper} {a : Act} {Q : Exit → Act → World → Prop} (hgd : o.guard = none) (s x : Operand)
    (ho : o.op = .call { callee := .builtin .append, args := #[s, x], argTypes := #[43, 43] })
    {B : Nat} {w0 w : World} {v : Value} {l : List Int} (hs : a.eval s = v) (hown : OwnInts B w v l) (k : Int) (hx : a.eval x = .slice (some ⟨w.heap.size, 0, none⟩) 1 1)
    (hlen : l.length ≤ 1000000000000) (hB : B ≤ w.heap.size) (hb : Below B w0 w)
    (h : ∀ v' w', OwnInts B w' v' (l ++ [k]) → Below B w0 w' → wpList Tryz.prog ops Q rest (a.put o.dst v') w') :
    wpList Tryz.prog ops Q (o :: rest) a (w.alloc (.cells #[.int .i64 k] 3)) := by
  obtain ⟨i0, hi, hz0, hz1, hz2⟩ := info_parts infoInt
  have hrow : w.ownsRow B 3 1 v l.length (l.map (Value.int .i64)) := hown
  refine wpList_append_own _ hgd s x 43 ho B 3 i0 (.int .i64 0) 1 8 Tryz.underlying43 hi hz0 hz1 hz2 rfl (by decide) v l.length (l.map (Value.int .i64)) hs (World.ownsRow.alloc hrow _) ⟨w.heap.size, 0, none⟩ 1 1 [.int .i64 k] hx rfl (cell_one_new _ _ _) ?_ ?_ ?_ ?_ ?_
  · intro u hu; simp at hu; subst hu; rfl
  · unfold maxLen; omega
  · omega
  · simp; omega
  · intro v' w1 hown' hgrow _
    obtain ⟨h1, h2⟩ := OwnInts.pushed hown hb hB hown' hgrow
    exact h v' w1 h1 h2
end Go.Proofs.YtkohfomiigcifaaGreatDoor
