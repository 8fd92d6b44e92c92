/-
  THE LAWS OF LAYER 10: the chapter's examples. By an AI agent.
-/
import Derived.Test.YtbichcmpggbfnaaDoorLineRefAdd
namespace Go.Proofs.YtbichcmpggbfnaaDoor
open Go.RowKit
open Wd (Bs)

def exL : Ln.Line := ⟨2, 1, [[102, 111, 120], [104, 101, 114, 111]]⟩
theorem name_fox : Wd.isName [102, 111, 120] = true := Wd.isName_true (l := [102, 111, 120]) ⟨by decide, by decide, by decide, by decide, by decide, fun i hi h => absurd h.1 ((by decide : ∀ i, i < ([102, 111, 120] : Bs).length → ([102, 111, 120] : Bs).getD i 0 ≠ 45) i (by omega))⟩
theorem name_hero : Wd.isName [104, 101, 114, 111] = true := Wd.isName_true (l := [104, 101, 114, 111]) ⟨by decide, by decide, by decide, by decide, by decide, fun i hi h => absurd h.1 ((by decide : ∀ i, i < ([104, 101, 114, 111] : Bs).length → ([104, 101, 114, 111] : Bs).getD i 0 ≠ 45) i (by omega))⟩
theorem sub_fox : Ln.isSub [102, 111, 120] = true := (Ln.isSub_else (by decide)).trans name_fox
theorem sub_hero : Ln.isSub [104, 101, 114, 111] = true := (Ln.isSub_else (by decide)).trans name_hero
theorem sub_land : Ln.isSub [108, 97, 110, 100] = false := Ln.isSub_word (by decide)
theorem exL_valid : Ln.validB exL = true := Ln.validB_iff.2 ⟨by decide, by decide, by decide, by decide, fun x hx => by
  rcases List.mem_cons.1 hx with rfl | hx
  · exact sub_fox
  · rw [List.mem_singleton.1 hx]; exact sub_hero, by show List.Pairwise _ _; decide⟩
theorem exL_text : Ln.textL exL = [117, 110, 105, 113, 117, 101, 32, 99, 114, 101, 97, 116, 117, 114, 101, 32, 102, 111, 120, 32, 104, 101, 114, 111] := by
  rw [Ln.textL_valid exL_valid]
  decide +kernel
theorem parse_ex : Ln.parseO [117, 110, 105, 113, 117, 101, 32, 99, 114, 101, 97, 116, 117, 114, 101, 32, 102, 111, 120, 32, 104, 101, 114, 111] = some exL := by rw [← exL_text]; exact Ln.parse_text exL_valid
theorem parse_bad : Ln.parseO [105, 110, 115, 116, 97, 110, 116, 32, 99, 114, 101, 97, 116, 117, 114, 101] = none := by
  rw [← Ln.parse_collect]
  rw [show Ln.collectL [105, 110, 115, 116, 97, 110, 116, 32, 99, 114, 101, 97, 116, 117, 114, 101] [32] = ⟨0, 3, []⟩ by decide +kernel]
  exact Ln.pick_bad (valid_types (by decide))
theorem pt_ex : ptI [99, 114, 101, 97, 116, 117, 114, 101, 43, 114, 101, 108, 105, 99] = 9 ∧ ptE [99, 114, 101, 97, 116, 117, 114, 101, 43, 114, 101, 108, 105, 99] = 0 := by
  have h := pt_text (m := 9) (by decide) (by decide)
  rwa [show typesN 9 = [99, 114, 101, 97, 116, 117, 114, 101, 43, 114, 101, 108, 105, 99] by decide +kernel] at h
theorem alivePa (w : World) (hE : Env w) :
    Calls Tryd.prog 19 #[.string ⟨#[117, 110, 105, 113, 117, 101, 32, 99, 114, 101, 97, 116, 117, 114, 101, 32, 102, 111, 120, 32, 104, 101, 114, 111]⟩] w fun e w' => ∃ v, e = .returned (.tuple #[.agg #[.int .i64 2, .int .i64 1, v], .int .i64 0]) ∧ Strs w' v [[102, 111, 120], [104, 101, 114, 111]] ∧ Below w.heap.size w w' := by
  have h := lineParse ⟨#[117, 110, 105, 113, 117, 101, 32, 99, 114, 101, 97, 116, 117, 114, 101, 32, 102, 111, 120, 32, 104, 101, 114, 111]⟩ w hE (by decide)
  unfold ParseRes at h
  rw [show (⟨#[117, 110, 105, 113, 117, 101, 32, 99, 114, 101, 97, 116, 117, 114, 101, 32, 102, 111, 120, 32, 104, 101, 114, 111]⟩ : ByteArray).data.toList = [117, 110, 105, 113, 117, 101, 32, 99, 114, 101, 97, 116, 117, 114, 101, 32, 102, 111, 120, 32, 104, 101, 114, 111] from rfl, (Ln.parse_some parse_ex).1, (Ln.parse_some parse_ex).2] at h
  exact h
theorem alivePb (w : World) (hE : Env w) :
    Calls Tryd.prog 19 #[.string ⟨#[105, 110, 115, 116, 97, 110, 116, 32, 99, 114, 101, 97, 116, 117, 114, 101]⟩] w fun e w' => ∃ v, e = .returned (.tuple #[.agg #[.int .i64 0, .int .i64 0, v], .int .i64 3]) ∧ Strs w' v [] ∧ Below w.heap.size w w' := by
  have h := lineParse ⟨#[105, 110, 115, 116, 97, 110, 116, 32, 99, 114, 101, 97, 116, 117, 114, 101]⟩ w hE (by decide)
  unfold ParseRes at h
  rw [show (⟨#[105, 110, 115, 116, 97, 110, 116, 32, 99, 114, 101, 97, 116, 117, 114, 101]⟩ : ByteArray).data.toList = [105, 110, 115, 116, 97, 110, 116, 32, 99, 114, 101, 97, 116, 117, 114, 101] from rfl, (Ln.parse_none parse_bad).1, (Ln.parse_none parse_bad).2] at h
  exact h
theorem alivePt (w : World) (hE : Env w) :
    Calls Tryd.prog 23 #[.string ⟨#[99, 114, 101, 97, 116, 117, 114, 101, 43, 114, 101, 108, 105, 99]⟩] w fun e w' => e = .returned (.tuple #[.int .i64 9, .int .i64 0]) ∧ Below w.heap.size w w' := by
  have h := lineParseTypes ⟨#[99, 114, 101, 97, 116, 117, 114, 101, 43, 114, 101, 108, 105, 99]⟩ w hE (by decide)
  rw [show (⟨#[99, 114, 101, 97, 116, 117, 114, 101, 43, 114, 101, 108, 105, 99]⟩ : ByteArray).data.toList = [99, 114, 101, 97, 116, 117, 114, 101, 43, 114, 101, 108, 105, 99] from rfl, pt_ex.1, pt_ex.2] at h
  exact h
theorem aliveTx (v : Value) (w : World) (hE : Env w) (hv : Strs w v [[102, 111, 120], [104, 101, 114, 111]]) :
    Calls Tryd.prog 21 #[.agg #[.int .i64 2, .int .i64 1, v]] w fun e w' => e = .returned (.string ⟨#[117, 110, 105, 113, 117, 101, 32, 99, 114, 101, 97, 116, 117, 114, 101, 32, 102, 111, 120, 32, 104, 101, 114, 111]⟩) ∧ Below w.heap.size w w' := by
  have h := lineText 2 1 v [[102, 111, 120], [104, 101, 114, 111]] w hE hv (fun x hx => by
    unfold maxLen
    rcases List.mem_cons.1 hx with rfl | hx
    · decide
    · rw [List.mem_singleton.1 hx]; decide) (by decide)
  rw [show Ln.textL ⟨2, 1, [[102, 111, 120], [104, 101, 114, 111]]⟩ = [117, 110, 105, 113, 117, 101, 32, 99, 114, 101, 97, 116, 117, 114, 101, 32, 102, 111, 120, 32, 104, 101, 114, 111] from exL_text] at h
  exact h
theorem aliveSa (w : World) (hE : Env w) :
    Calls Tryd.prog 17 #[.string ⟨#[108, 97, 110, 100]⟩] w fun e w' => e = .returned (.bool false) ∧ w = w' := by
  have h := lineIsSub ⟨#[108, 97, 110, 100]⟩ w hE (by decide)
  rw [show (⟨#[108, 97, 110, 100]⟩ : ByteArray).data.toList = [108, 97, 110, 100] from rfl, sub_land] at h
  exact h
theorem aliveSb (w : World) (hE : Env w) :
    Calls Tryd.prog 17 #[.string ⟨#[102, 111, 120]⟩] w fun e w' => e = .returned (.bool true) ∧ w = w' := by
  have h := lineIsSub ⟨#[102, 111, 120]⟩ w hE (by decide)
  rw [show (⟨#[102, 111, 120]⟩ : ByteArray).data.toList = [102, 111, 120] from rfl, sub_fox] at h
  exact h
theorem aliveTt (w : World) (hE : Env w) :
    Calls Tryd.prog 25 #[.int .i64 0] w fun e w' => e = .returned (.string ⟨#[]⟩) ∧ Below w.heap.size w w' := by
  have h := lineTypesText 0 w hE
  rw [show typesI 0 = [] by decide] at h
  exact h
set_option maxHeartbeats 1000000 in
set_option maxRecDepth 100000 in
theorem lineAlive (w : World) (hE : Env w) :
    Calls Tryd.prog 10 #[] w fun e w' => e = .returned (.bool true) ∧ Below w.heap.size w w' := by
  have HE := Lib.hid hE
  clear hE
  go_enter Tryd.func10, Tryd.ntmps10
  go_wp2_with fail
  refine (alivePa _ HE.out).mono ?_
  rintro e w1 ⟨v1, rfl, hv1, hb1⟩
  obtain ⟨ad, cap, rfl, -, hcm, -⟩ := id hv1
  unfold maxLen at hcm
  obtain ⟨w2, hw2⟩ : ∃ w2, w2 = w1.alloc (.cells #[.int .i64 2, .int .i64 1, .slice ad 2 cap] 24) := ⟨_, rfl⟩
  have hb2 : Below w.heap.size w w2 := by rw [hw2]; exact hb1.alloc hb1.size _
  have hm : Blk w2 w1.heap.size #[.int .i64 2, .int .i64 1, .slice ad 2 cap] 24 := by rw [hw2]; exact Blk.new _ _ _
  have HM := Lib.hid hm
  have B2 := Lib.hid hb2
  have HV := Lib.hid (hv1.below ((Below.refl w1.heap.size w1).alloc (Nat.le_refl _) (.cells #[.int .i64 2, .int .i64 1, .slice ad 2 cap] 24)) (Nat.le_refl _))
  rw [← hw2] at HV
  clear hv1 hb1 hm hb2
  go_wp2_with fail
  rw [← hw2]
  clear hw2
  refine (alivePb _ (HE.out.below B2.out)).mono ?_
  rintro e w3 ⟨v3, rfl, hv3, hb3⟩
  obtain ⟨ad3, cap3, rfl, -, -⟩ := hv3
  have B3 := Lib.hid (B2.out.trans (hb3.mono B2.out.size))
  obtain ⟨w4, hw4⟩ : ∃ w4, w4 = w3.alloc (.cells #[.int .i64 0, .int .i64 0, .slice ad3 0 cap3] 24) := ⟨_, rfl⟩
  have hb34 : Below w3.heap.size w3 w4 := by rw [hw4]; exact (Below.refl _ _).alloc (Nat.le_refl _) _
  have hb24 : Below w2.heap.size w2 w4 := hb3.trans (hb34.mono hb3.size)
  have B4 := Lib.hid (B2.out.trans (hb24.mono B2.out.size))
  have HM4 := Lib.hid (HM.out.below hb24 HM.out.lt)
  have HV4 := Lib.hid (HV.out.below hb24 (Nat.le_refl _))
  clear hb3 hb34 hb24 HM HV
  go_wp2_with fail
  rw [← hw4]
  clear hw4
  refine (alivePt _ (HE.out.below B4.out)).mono ?_
  rintro e w5 ⟨rfl, hb5⟩
  have B5 := Lib.hid (B4.out.trans (hb5.mono B4.out.size))
  have HV5 := Lib.hid (HV4.out.below hb5 (Nat.le_refl _))
  have n0 := (HM4.out.below hb5 HM4.out.lt).cell
  clear hb5
  go_wp2_with fail
  refine (aliveTx _ _ (HE.out.below B5.out) HV5.out).mono ?_
  rintro e w6 ⟨rfl, hb6⟩
  have B6 := Lib.hid (B5.out.trans (hb6.mono B5.out.size))
  clear hb6
  go_wp2_with fail
  refine (aliveSa _ (HE.out.below B6.out)).mono ?_
  rintro e w7 ⟨rfl, rfl⟩
  go_wp2_with fail
  refine (aliveSb _ (HE.out.below B6.out)).mono ?_
  rintro e w7 ⟨rfl, rfl⟩
  go_wp2_with fail
  refine (aliveTt _ (HE.out.below B6.out)).mono ?_
  rintro e w7 ⟨rfl, hb7⟩
  go_wp2_with fail
  go_ret
  exact ⟨rfl, B6.out.trans (hb7.mono B6.out.size)⟩
/-- few: how many subtypes there are -/
def fewB (l : List Bs) : Bool := decide (l.length ≤ 12)
theorem lawFew (a t : Int) (v : Value) (l : List Bs) (w : World) (hv : Strs w v l) :
    Calls Tryd.prog 9 #[.agg #[.int .i64 a, .int .i64 t, v]] w fun e w' => e = .returned (.bool (fewB l)) ∧ Below w.heap.size w w' := by
  have HB : Hid (Below w.heap.size w (w.alloc (.cells #[.int .i64 a, .int .i64 t, v] 24))) := Lib.hid ((Below.refl _ _).alloc (Nat.le_refl _) _)
  obtain ⟨ad, cap, rfl, h1, hcm, -⟩ := hv
  unfold maxLen at hcm
  go_enter Tryd.func9, Tryd.ntmps9
  go_wp2_with fail
  go_ret
  exact ⟨ret_bool (by unfold fewB; simp; omega), HB.out⟩
end Go.Proofs.YtbichcmpggbfnaaDoor
