/-
  CONTRACT OF LAYER 2 (word): Join of the program. By an AI agent.
-/
import Derived.Test.YtoedminkaimfcaaDoorStrs
import Derived.Test.YtoedminkaimfcaaDoorShelf
import Derived.WalkKit
import Derived.WalkLawsBesides
import Derived.BigQuiet
import Derived.Handy
import Derived.Lib.Hide
namespace Go.Proofs.YtoedminkaimfcaaDoor
open Go.RowKit

theorem exists_bytes (x : List UInt8) : ∃ s : ByteArray, s.data.toList = x ∧ str x = .string s := ⟨⟨x.toArray⟩, rfl, rfl⟩
/-- the bytes of a text -/
def ba (x : List UInt8) : ByteArray := ⟨x.toArray⟩
theorem ba_lists (l : List (List UInt8)) : (l.map ba).map (·.data.toList) = l := by
  rw [List.map_map]
  conv => rhs; rw [← List.map_id l]
  apply List.map_congr_left
  intro x _
  rfl
def JoinRes (l : List (List UInt8)) (c : List UInt8) (w : World) (e : Ending) (w' : World) : Prop := e = .returned (str (Lib.join l c)) ∧ Below w.heap.size w w'
set_option maxRecDepth 100000 in
theorem wordJoin (v : Value) (l : List (List UInt8)) (s : ByteArray) (w : World) (hv : Strs w v l) (hn : l.length ≤ 140737488355328) (hj : (Lib.join l s.data.toList).length ≤ 140737488355328) :
    Calls Tryd.prog 20 #[v, .string s] w (JoinRes l s.data.toList w) := by
  rcases hv.shape with ⟨b, k, rfl, rfl⟩ | ⟨b, o, k, rfl, p, q, n1, m1, d⟩
  · go_enter Tryd.func20, Tryd.ntmps20
    go_wp2_with fail
    refine (Tryd.strings_Join_none _ _ _ _).mono ?_
    rintro e w1 ⟨rfl, rfl⟩
    go_wp2_with fail
    go_ret
    exact ⟨rfl, Below.refl _ _⟩
  · unfold maxLen at m1
    have D := Lib.hid d
    clear d hv
    have hb : (l.map ba).map (·.data.toList) = l := ba_lists l
    have hlen : (l.map ba).length = l.length := by simp
    have hc := Tryd.strings_Join b o k (l.map ba) s w (fun j x hx => by
      obtain ⟨hj', rfl⟩ := List.getElem?_eq_some_iff.1 hx
      rw [List.getElem_map]
      exact D.out j _ (List.getElem?_eq_getElem (by simpa using hj'))) q (by rw [hlen]; exact hn) (by rw [hlen]; exact n1) (by rw [hb]; exact hj)
    rw [hb, hlen] at hc
    have HC : Hid (Calls Tryd.prog 21 #[.slice (some ⟨b, o, none⟩) l.length k, .string s] w fun e w' => e = .returned (.string ⟨(Lib.join l s.data.toList).toArray⟩) ∧ Below w.heap.size w w') := Lib.hid hc
    clear hc hb hlen hn hj
    go_enter Tryd.func20, Tryd.ntmps20
    go_wp2_with fail
    refine HC.out.mono ?_
    rintro e w1 ⟨rfl, hb⟩
    go_wp2_with fail
    go_ret
    exact ⟨rfl, hb⟩
end Go.Proofs.YtoedminkaimfcaaDoor
