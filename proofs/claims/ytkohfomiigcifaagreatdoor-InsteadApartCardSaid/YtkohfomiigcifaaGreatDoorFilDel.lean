/-
  CONTRACT OF LAYER 13 (filter): slices.DeleteFunc of the empty strings, off the library's contract. By an AI agent.
-/
import Derived.Test.YtkohfomiigcifaaGreatDoorFilTabB
import Derived.Shelf.SlicesE.DeleteFunc
namespace Go.Proofs.YtkohfomiigcifaaGreatDoor
open Go.RowKit Go.Sort
open Wd (Bs)

theorem emptyGives (x : Bs) (W : World) : FnGives Tryz.prog 91 #[] #[Proofs.encStr x] (.bool (x == [])) W := by
  show Calls Tryz.prog 91 #[.string ⟨x.toArray⟩] W _
  have HX : Hid (x.isEmpty = (x == [])) := Lib.hid (by cases x <;> rfl)
  go_enter Tryz.func91, Tryz.ntmps91
  go_wp2_with fail
  go_ret
  exact ⟨ret_bool HX.out, 0, rfl⟩
set_option maxRecDepth 1000000 in
theorem delEmpty {B : Nat} {w0 w : World} {v : Value} {l : List Bs} (hown : OwnStrs B w v l) (hb : Below B w0 w) (hl : 0 < l.length) :
    Calls Tryz.prog 90 #[v, .func (.func 91) #[] #[]] w fun e w' => ∃ v', e = .returned v' ∧ OwnStrs B w' v' (l.filter fun x => !(x == [])) ∧ Below B w0 w' := by
  obtain ⟨g, cap, rfl, hg, hgl, hlc, hcm, hH⟩ := hown.holds hl
  have eg : ∀ args w, (callFunc 91 args).run Tryz.prog w = .ok (.enter 91 args) w := enters_of Tryz.func91 (by kernel_rfl) rfl
  unfold maxLen at hcm
  have hc := AnyE.slices_DeleteFunc Tryz.l90 Proofs.encStr (fun _ => rfl) (fun x : Bs => x == []) 91 #[] eg [] (fun _ => rfl) g 0 cap l.toArray w
    (fun W x _ => emptyGives x W) (fun n os dk x _ => emptyGives x _) hH (by simp; omega) (by simpa using hlc)
  refine hc.mono ?_
  rintro e w' ⟨rfl, q, hw⟩
  have hle : (l.filter fun x => !(x == [])).length ≤ l.length := List.length_filter_le _ _
  have h := hown.laid (w' := w') (q := q) (os := #[]) (k := (l.filter fun x => !(x == [])).length) (d := (l.filter fun x => !(x == [])) ++ List.replicate (l.length - (l.filter fun x => !(x == [])).length) []) hb hg
    (by rw [List.length_append, List.length_replicate]; omega) hle (by rw [grow_empty]; exact hw)
  rw [List.take_left] at h
  exact ⟨_, rfl, h.1, h.2⟩
end Go.Proofs.YtkohfomiigcifaaGreatDoor
