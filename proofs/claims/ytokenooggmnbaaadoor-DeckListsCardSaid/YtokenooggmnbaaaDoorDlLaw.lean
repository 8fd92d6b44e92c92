/-
  THE LAW DeckLists, its argument opened by its type's shape. By an AI agent.
-/
import Derived.Test.YtokenooggmnbaaaDoorDlW
namespace Go.Proofs.YtokenooggmnbaaaDoor
open Go.RowKit Go.Sx
def shD : Shp := .s (.t 3 .nil) (.s (.t 3 .nil) .nil)
theorem rows_ints {W : World} {x : Value} {rows : List (List Value)} (h : RowAt W [3] x rows) : ∃ l, rows = rowsOf l := by
  have key : ∀ row ∈ rows, ∃ n : Int, row = [.int .i64 n] := fun row hr => by
    obtain ⟨k, hk, e⟩ := List.mem_iff_getElem.1 hr
    obtain ⟨h1, h2⟩ := h.row (k := k) (row := row) (by rw [List.getElem?_eq_getElem hk, e])
    obtain ⟨v, h3, h4⟩ := h2 0 3 rfl
    obtain ⟨n, rfl, -, -⟩ := of_tag3 h4
    refine ⟨n, ?_⟩
    match row, h1, h3 with
    | [_], _, h3 => simp at h3; rw [h3]
  have : ∀ rows : List (List Value), (∀ row ∈ rows, ∃ n : Int, row = [.int .i64 n]) → ∃ l, rows = rowsOf l := by
    intro rows
    induction rows with
    | nil => exact fun _ => ⟨[], rfl⟩
    | cons r l ih =>
      intro hk
      obtain ⟨n, rfl⟩ := hk r List.mem_cons_self
      obtain ⟨m, rfl⟩ := ih fun y hy => hk y (List.mem_cons_of_mem _ hy)
      exact ⟨n :: m, rfl⟩
  exact this rows key
abbrev EnvS (W : World) : Prop := EnvN W ∧ Knows GN gl W
theorem lawDeckLists {W : World} {xs : List Value} {ds : List Da} (hd : Dat W shD xs ds) (hE : EnvS W) : Calls PP 3 #[.agg ⟨xs⟩] W fun e w' => e = .returned (.bool true) ∧ Below W.heap.size W w' := by
  obtain ⟨x, xs1, rs, ds1, rfl, -, ⟨ra, h1, -, -⟩, y, xs2, rs2, ds2, rfl, -, ⟨rb, h2, -, -⟩, h3⟩ := hd
  obtain ⟨rfl, -⟩ := h3
  have h1 : RowAt W [3] x ra := h1
  have h2 : RowAt W [3] y rb := h2
  obtain ⟨l, rfl⟩ := rows_ints h1
  obtain ⟨m, rfl⟩ := rows_ints h2
  exact lawLists noGo mixed h1 h2 hE.2 fun w hw => alive_ok (EnvN.below hE.1 hw) (hE.2.on hw)
end Go.Proofs.YtokenooggmnbaaaDoor
