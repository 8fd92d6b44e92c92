/-
  CONTRACT OF LAYER 10 (line): AddSub. By an AI agent.
-/
import Derived.Test.YtbichcmpggbfnaaDoorLineInsert
import Derived.Test.YtbichcmpggbfnaaDoorLineSame
namespace Go.Proofs.YtbichcmpggbfnaaDoor
open Go.RowKit
open Wd (Bs)

/-- the first place of l whose element is not less than x -/
def place (l : List Bs) (x : Bs) : Nat := l.findIdx fun y => !decide (y < x)
noncomputable def addL (l : Ln.Line) (x : Bs) : Ln.Line := if Ln.isSub x && !hasB l.subs x && decide (l.subs.length < 4) then { l with subs := insAt l.subs (place l.subs x) x } else l
def LessTo (l : List Bs) (x : Bs) (k : Nat) : Prop := ∀ j, j < k → l.getD j [] < x
theorem LessTo.next {l : List Bs} {x : Bs} {k : Nat} (h : LessTo l x k) (hk : l.getD k [] < x) : LessTo l x (k + 1) := by
  intro j hj
  by_cases e : j = k
  · subst e; exact hk
  · exact h j (by omega)
theorem place_le (l : List Bs) (x : Bs) : place l x ≤ l.length := List.findIdx_le_length
theorem place_mid {l : List Bs} {x : Bs} {k : Nat} (hk : k < l.length) (h : LessTo l x k) (hn : ¬ l.getD k [] < x) : place l x = k := by
  unfold place
  rw [List.findIdx_eq hk]
  refine ⟨?_, fun j hj => ?_⟩
  · rw [List.getD, List.getElem?_eq_getElem hk, Option.getD_some] at hn
    simpa using hn
  · have := h j hj
    rw [List.getD, List.getElem?_eq_getElem (by omega), Option.getD_some] at this
    simp [this]
theorem place_end {l : List Bs} {x : Bs} (h : LessTo l x l.length) : place l x = l.length := by
  unfold place
  rw [List.findIdx_eq_length]
  intro y hy
  obtain ⟨j, hj, rfl⟩ := List.mem_iff_getElem.1 hy
  have := h j hj
  rw [List.getD, List.getElem?_eq_getElem hj, Option.getD_some] at this
  simp [this]
theorem addL_no {l : Ln.Line} {x : Bs} (h : Ln.isSub x = false ∨ hasB l.subs x = true ∨ 4 ≤ l.subs.length) : addL l x = l := by
  unfold addL
  rw [if_neg]
  rcases h with h | h | h
  · simp [h]
  · simp [h]
  · simp; omega
theorem addL_yes {l : Ln.Line} {x : Bs} (h1 : Ln.isSub x = true) (h2 : hasB l.subs x = false) (h3 : l.subs.length < 4) : addL l x = { l with subs := insAt l.subs (place l.subs x) x } := by
  unfold addL
  rw [if_pos (by simp [h1, h2, h3])]
/-- what AddSub answers -/
def AddRes (a t : Int) (l : List Bs) (x : Bs) (w : World) (e : Ending) (w' : World) : Prop :=
  ∃ v', e = .returned (.agg #[.int .i64 a, .int .i64 t, v']) ∧ OwnStrs w.heap.size w' v' (addL ⟨a, t, l⟩ x).subs ∧ Below w.heap.size w w'
theorem addL_fields (a t : Int) (l : List Bs) (x : Bs) : addL ⟨a, t, l⟩ x = ⟨a, t, (addL ⟨a, t, l⟩ x).subs⟩ := by
  unfold addL
  split <;> rfl
/-- the memory of AddSub: its line, its result, the subtypes in newer memory -/
structure AddAt (N : Nat) (w wr : World) (a t : Int) (v : Value) (l : List Bs) : Prop where
  b0 : Blk wr N #[.int .i64 a, .int .i64 t, v] 24
  b1 : Blk wr (N + 1) #[.int .i64 0, .int .i64 0, .slice none 0 0] 24
  own : OwnStrs (N + 2) wr v l
  hb : Below N w wr
  size : N + 2 ≤ wr.heap.size
theorem AddAt.below {N : Nat} {w wr w2 : World} {a t : Int} {v : Value} {l : List Bs} (h : AddAt N w wr a t v l) (hb : Below wr.heap.size wr w2) : AddAt N w w2 a t v l :=
  ⟨h.b0.below hb h.b0.lt, h.b1.below hb h.b1.lt, h.own.below hb (Nat.le_refl _), h.hb.trans (hb.mono (by have := h.size; omega)), Nat.le_trans h.size hb.size⟩
set_option maxHeartbeats 2000000 in
set_option maxRecDepth 100000 in
theorem lineAdd (a t : Int) (v : Value) (l : List Bs) (s : ByteArray) (w : World) (hE : Env w) (hv : Strs w v l) (hl : l.length ≤ 100000) (hs : s.size ≤ maxLen) :
    Calls Tryd.prog 27 #[.agg #[.int .i64 a, .int .i64 t, v], .string s] w (AddRes a t l s.data.toList w) := by
  obtain ⟨w0, hw0⟩ : ∃ w0, w0 = (w.alloc (.cells #[.int .i64 a, .int .i64 t, v] 24)).alloc (.cells #[.int .i64 0, .int .i64 0, .slice none 0 0] 24) := ⟨_, rfl⟩
  have hb0 : Below w.heap.size w w0 := by rw [hw0]; exact ((Below.refl _ _).alloc (Nat.le_refl _) _).alloc (by simp) _
  have hsz0 : w0.heap.size = w.heap.size + 2 := by rw [hw0]; simp
  have hz0 : Blk w0 w.heap.size #[.int .i64 a, .int .i64 t, v] 24 := by rw [hw0]; exact (Blk.new _ _ _).alloc _
  have hz1 : Blk w0 (w.heap.size + 1) #[.int .i64 0, .int .i64 0, .slice none 0 0] 24 := by
    have h := Blk.new (w.alloc (.cells #[.int .i64 a, .int .i64 t, v] 24)) #[.int .i64 0, .int .i64 0, .slice none 0 0] 24
    rw [hw0]
    rwa [show (w.alloc (.cells #[.int .i64 a, .int .i64 t, v] 24)).heap.size = w.heap.size + 1 by simp] at h
  have HCL := Lib.hid (sClone v l w0 (hv.below hb0 (Nat.le_refl _)) (by omega))
  have HB0 := Lib.hid hb0
  have HZ0 := Lib.hid hz0
  have HZ1 := Lib.hid hz1
  have HE := Lib.hid hE
  obtain ⟨ad, cap, rfl, hlc, hcm, -⟩ := hv
  unfold maxLen at hcm
  clear hb0 hz0 hz1 hE
  have key : ∀ w2 ad2 cap2, OwnStrs w0.heap.size w2 (.slice ad2 l.length cap2) l → Below w0.heap.size w0 w2 → AddAt w.heap.size w (w2.setCell ⟨w.heap.size, 2, none⟩ (.slice ad2 l.length cap2)) a t (.slice ad2 l.length cap2) l := fun w2 ad2 cap2 ho2 hb2 => by
    rw [hsz0] at ho2
    exact ⟨(HZ0.out.below hb2 HZ0.out.lt).set 2 _, (HZ1.out.below hb2 HZ1.out.lt).other (by omega) 2 _, ho2.set_old (by omega) 2 _, (HB0.out.trans (hb2.mono HB0.out.size)).setCell (by exact Nat.le_refl _) _, by have := hb2.size; simp; omega⟩
  have HKEY := Lib.hid key
  clear key hsz0
  by_cases hfull : 4 ≤ l.length
  · have HADD := Lib.hid (addL_no (l := ⟨a, t, l⟩) (x := s.data.toList) (.inr (.inr hfull)))
    have hf : (4 : Int) ≤ (l.length : Int) := by omega
    go_enter Tryd.func27, Tryd.ntmps27
    go_wp2_with fail
    rw [← hw0]
    clear hw0
    refine HCL.out.mono ?_
    rintro e w2 ⟨v2, rfl, ho2, hb2⟩
    obtain ⟨ad2, cap2, rfl, hcm2, -⟩ := ho2.slice
    unfold maxLen at hcm2
    have c0 : ∀ j, w2.cell? ⟨w.heap.size, j, none⟩ = _ := (HZ0.out.below hb2 HZ0.out.lt).cell
    have c1 : ∀ j, w2.frozen? ⟨w.heap.size, j, none⟩ = false := (HZ0.out.below hb2 HZ0.out.lt).free
    have HAT := Lib.hid (HKEY.out w2 ad2 cap2 ho2 hb2)
    have d0 := (HZ1.out.below hb2 HZ1.out.lt).cell
    have d1 := (HZ1.out.below hb2 HZ1.out.lt).free
    clear ho2 hb2 hfull
    go_wp2_with fail
    change bodyPost _ _ _ _ _ (set3 (w2.setCell ⟨w.heap.size, 2, none⟩ (.slice ad2 l.length cap2)) (w.heap.size + 1) (.int .i64 a) (.int .i64 t) (.slice ad2 l.length cap2))
    have hB := (HAT.out.b1.three (.int .i64 a) (.int .i64 t) (.slice ad2 l.length cap2)).cell
    have HF := Lib.hid (below_three (b := w.heap.size + 1) (x := .int .i64 a) (y := .int .i64 t) (z := .slice ad2 l.length cap2) HAT.out.hb (by omega : w.heap.size ≤ w.heap.size + 1))
    have HOF := Lib.hid ((HAT.out.own.set_three (b := w.heap.size + 1) (by omega) (.int .i64 a) (.int .i64 t) (.slice ad2 l.length cap2)).mono (by omega : w.heap.size ≤ w.heap.size + 2))
    clear d0 d1
    generalize set3 (w2.setCell ⟨w.heap.size, 2, none⟩ (.slice ad2 l.length cap2)) (w.heap.size + 1) (.int .i64 a) (.int .i64 t) (.slice ad2 l.length cap2) = wf at hB HF HOF ⊢
    exact bodyPost_ret (v := .agg #[.int .i64 a, .int .i64 t, .slice ad2 l.length cap2]) (by simp [results, Tryd.results27, go_sem, hB]) rfl ⟨_, rfl, by rw [HADD.out]; exact HOF.out, HF.out⟩
  · have h4 : (l.length : Int) < 4 := by omega
    go_enter Tryd.func27, Tryd.ntmps27
    go_wp2_with fail
    rw [← hw0]
    clear hw0
    refine HCL.out.mono ?_
    rintro e w2 ⟨v2, rfl, ho2, hb2⟩
    obtain ⟨ad2, cap2, rfl, hcm2, -⟩ := ho2.slice
    unfold maxLen at hcm2
    have c0 : ∀ j, w2.cell? ⟨w.heap.size, j, none⟩ = _ := (HZ0.out.below hb2 HZ0.out.lt).cell
    have c1 : ∀ j, w2.frozen? ⟨w.heap.size, j, none⟩ = false := (HZ0.out.below hb2 HZ0.out.lt).free
    have HAT := Lib.hid (HKEY.out w2 ad2 cap2 ho2 hb2)
    clear ho2 hb2
    go_wp2_with fail
    clear c0 c1
    generalize w2.setCell ⟨w.heap.size, 2, none⟩ (.slice ad2 l.length cap2) = w3 at HAT ⊢
    have c0 := HAT.out.b0.cell
    refine (lineIsSub s w3 (HE.out.below HAT.out.hb) hs).mono ?_
    cases hsub : Ln.isSub s.data.toList with
    | false =>
      have HADD := Lib.hid (addL_no (l := ⟨a, t, l⟩) (x := s.data.toList) (.inl hsub))
      clear hsub
      rintro e w4 ⟨rfl, rfl⟩
      have g0 := HAT.out.b1.cell
      have g1 := HAT.out.b1.free
      go_wp2_with fail
      change bodyPost _ _ _ _ _ (set3 w3 (w.heap.size + 1) (.int .i64 a) (.int .i64 t) (.slice ad2 l.length cap2))
      have hB := (HAT.out.b1.three (.int .i64 a) (.int .i64 t) (.slice ad2 l.length cap2)).cell
      have HF := Lib.hid (below_three (b := w.heap.size + 1) (x := .int .i64 a) (y := .int .i64 t) (z := .slice ad2 l.length cap2) HAT.out.hb (by omega : w.heap.size ≤ w.heap.size + 1))
      have HOF := Lib.hid ((HAT.out.own.set_three (b := w.heap.size + 1) (by omega) (.int .i64 a) (.int .i64 t) (.slice ad2 l.length cap2)).mono (by omega : w.heap.size ≤ w.heap.size + 2))
      clear g0 g1
      generalize set3 w3 (w.heap.size + 1) (.int .i64 a) (.int .i64 t) (.slice ad2 l.length cap2) = wf at hB HF HOF ⊢
      exact bodyPost_ret (v := .agg #[.int .i64 a, .int .i64 t, .slice ad2 l.length cap2]) (by simp [results, Tryd.results27, go_sem, hB]) rfl ⟨_, rfl, by rw [HADD.out]; exact HOF.out, HF.out⟩
    | true =>
      rintro e w4 ⟨rfl, rfl⟩
      go_wp2_with fail
      refine (lineHas a t _ l s w3 HAT.out.own.strs).mono ?_
      cases hhas : hasB l s.data.toList with
      | true =>
        have HADD := Lib.hid (addL_no (l := ⟨a, t, l⟩) (x := s.data.toList) (.inr (.inl hhas)))
        clear hsub hhas
        rintro e w4 ⟨rfl, hb4⟩
        have HAT4 := Lib.hid (HAT.out.below hb4)
        clear hb4 c0
        have c0 := HAT4.out.b0.cell
        have g0 := HAT4.out.b1.cell
        have g1 := HAT4.out.b1.free
        go_wp2_with fail
        change bodyPost _ _ _ _ _ (set3 w4 (w.heap.size + 1) (.int .i64 a) (.int .i64 t) (.slice ad2 l.length cap2))
        have hB := (HAT4.out.b1.three (.int .i64 a) (.int .i64 t) (.slice ad2 l.length cap2)).cell
        have HF := Lib.hid (below_three (b := w.heap.size + 1) (x := .int .i64 a) (y := .int .i64 t) (z := .slice ad2 l.length cap2) HAT4.out.hb (by omega : w.heap.size ≤ w.heap.size + 1))
        have HOF := Lib.hid ((HAT4.out.own.set_three (b := w.heap.size + 1) (by omega) (.int .i64 a) (.int .i64 t) (.slice ad2 l.length cap2)).mono (by omega : w.heap.size ≤ w.heap.size + 2))
        clear g0 g1
        generalize set3 w4 (w.heap.size + 1) (.int .i64 a) (.int .i64 t) (.slice ad2 l.length cap2) = wf at hB HF HOF ⊢
        exact bodyPost_ret (v := .agg #[.int .i64 a, .int .i64 t, .slice ad2 l.length cap2]) (by simp [results, Tryd.results27, go_sem, hB]) rfl ⟨_, rfl, by rw [HADD.out]; exact HOF.out, HF.out⟩
      | false =>
        have HADD := Lib.hid (addL_yes (l := ⟨a, t, l⟩) (x := s.data.toList) hsub hhas (show l.length < 4 by omega))
        clear hsub hhas
        rintro e w4 ⟨rfl, hb4⟩
        have HAT4 := Lib.hid (HAT.out.below hb4)
        clear hb4 c0
        have c0 := HAT4.out.b0.cell
        have c1 := HAT4.out.b0.free
        go_wp2_with fail
        go_loop [6] (fun iv => ∃ k : Nat, k ≤ l.length ∧ iv = .int .i64 (k : Int) ∧ LessTo l s.data.toList k) (fun iv => l.length - (intOf iv).toNat)
        case atStart => exact ⟨0, by omega, rfl, fun j hj => by omega⟩
        case round =>
          obtain ⟨k, hk, rfl, hle⟩ := hrel
          have HLE := Lib.hid hle
          clear hle
          by_cases hlt : k < l.length
          · obtain ⟨sx, hsx, ex⟩ := exists_bytes (l.getD k [])
            obtain ⟨b, o, rfl, hbl, dk⟩ := HAT4.out.own.strs.at (getD_some hlt)
            have e1 : w4.cell? ⟨b, o + k, none⟩ = some (.string sx) := dk.trans (congrArg some ex)
            have hi0 : (0 : Int) ≤ (k : Int) := by omega
            have hi1 : (k : Int) < (l.length : Int) := by omega
            by_cases hless : l.getD k [] < s.data.toList
            · have ht : Op.bytesLess sx.toList s.toList = true := less_yes hsx rfl hless
              have HN := Lib.hid (HLE.out.next hless)
              clear hsx ex dk hless
              go_wp2_with fail
              go_round
              case rel => exact ⟨k + 1, by omega, by go_num, HN.out⟩
              case measure => simp [intOf]; omega
            · have ht : Op.bytesLess sx.toList s.toList = false := less_no hsx rfl hless
              have HPL := Lib.hid (place_mid hlt HLE.out hless)
              clear hsx ex dk hless
              have HINS := Lib.hid (sInsert (w.heap.size + 2) w4 w4 (.slice (some ⟨b, o, none⟩) l.length cap2) l k s HAT4.out.own hk (by omega) HAT4.out.size (Below.refl _ _))
              unfold InsRes at HINS
              go_wp2_with fail
              refine HINS.out.mono ?_
              rintro e w7 ⟨v7, rfl, ho7, hb7⟩
              obtain ⟨ad7, cap7, rfl, hcm7, -⟩ := ho7.slice
              rw [insAt_len hk] at *
              have hnew : AddAt w.heap.size w (w7.setCell ⟨w.heap.size, 2, none⟩ (.slice ad7 (l.length + 1) cap7)) a t (.slice ad7 (l.length + 1) cap7) (insAt l k s.data.toList) :=
                ⟨(HAT4.out.b0.below hb7 (by omega)).set 2 _, (HAT4.out.b1.below hb7 (by omega)).other (by omega) 2 _, ho7.set_old (by omega) 2 _, (HAT4.out.hb.trans (hb7.mono (by omega))).setCell (by exact Nat.le_refl _) _, by have := HAT4.out.size; have := hb7.size; simp; omega⟩
              have HNEW := Lib.hid hnew
              have c7 := (HAT4.out.b0.below hb7 (by omega)).cell
              have c8 := (HAT4.out.b0.below hb7 (by omega)).free
              have d0 := (HAT4.out.b1.below hb7 (by omega)).cell
              have d1 := (HAT4.out.b1.below hb7 (by omega)).free
              have HAD2 := Lib.hid (by rw [HADD.out, HPL.out] : addL ⟨a, t, l⟩ s.data.toList = ⟨a, t, insAt l k s.data.toList⟩)
              clear ho7 hb7 hnew c0 c1
              go_wp2_with fail
              change bodyPost _ _ _ _ _ (set3 (w7.setCell ⟨w.heap.size, 2, none⟩ (.slice ad7 (l.length + 1) cap7)) (w.heap.size + 1) (.int .i64 a) (.int .i64 t) (.slice ad7 (l.length + 1) cap7))
              have hB := (HNEW.out.b1.three (.int .i64 a) (.int .i64 t) (.slice ad7 (l.length + 1) cap7)).cell
              have HF := Lib.hid (below_three (b := w.heap.size + 1) (x := .int .i64 a) (y := .int .i64 t) (z := .slice ad7 (l.length + 1) cap7) HNEW.out.hb (by omega : w.heap.size ≤ w.heap.size + 1))
              have HOF := Lib.hid ((HNEW.out.own.set_three (b := w.heap.size + 1) (by omega) (.int .i64 a) (.int .i64 t) (.slice ad7 (l.length + 1) cap7)).mono (by omega : w.heap.size ≤ w.heap.size + 2))
              clear d0 d1
              generalize set3 (w7.setCell ⟨w.heap.size, 2, none⟩ (.slice ad7 (l.length + 1) cap7)) (w.heap.size + 1) (.int .i64 a) (.int .i64 t) (.slice ad7 (l.length + 1) cap7) = wf at hB HF HOF ⊢
              exact bodyPost_ret (v := .agg #[.int .i64 a, .int .i64 t, .slice ad7 (l.length + 1) cap7]) (by simp [results, Tryd.results27, go_sem, hB]) rfl ⟨_, rfl, by rw [HAD2.out]; exact HOF.out, HF.out⟩
          · obtain rfl : k = l.length := by omega
            have HPL := Lib.hid (place_end HLE.out)
            have HINS := Lib.hid (sInsert (w.heap.size + 2) w4 w4 (.slice ad2 l.length cap2) l l.length s HAT4.out.own (Nat.le_refl _) (by omega) HAT4.out.size (Below.refl _ _))
            unfold InsRes at HINS
            go_wp2_with fail
            refine HINS.out.mono ?_
            rintro e w7 ⟨v7, rfl, ho7, hb7⟩
            obtain ⟨ad7, cap7, rfl, hcm7, -⟩ := ho7.slice
            rw [insAt_len (Nat.le_refl _)] at *
            have hnew : AddAt w.heap.size w (w7.setCell ⟨w.heap.size, 2, none⟩ (.slice ad7 (l.length + 1) cap7)) a t (.slice ad7 (l.length + 1) cap7) (insAt l l.length s.data.toList) :=
              ⟨(HAT4.out.b0.below hb7 (by omega)).set 2 _, (HAT4.out.b1.below hb7 (by omega)).other (by omega) 2 _, ho7.set_old (by omega) 2 _, (HAT4.out.hb.trans (hb7.mono (by omega))).setCell (by exact Nat.le_refl _) _, by have := HAT4.out.size; have := hb7.size; simp; omega⟩
            have HNEW := Lib.hid hnew
            have c7 := (HAT4.out.b0.below hb7 (by omega)).cell
            have c8 := (HAT4.out.b0.below hb7 (by omega)).free
            have d0 := (HAT4.out.b1.below hb7 (by omega)).cell
            have d1 := (HAT4.out.b1.below hb7 (by omega)).free
            have HAD2 := Lib.hid (by rw [HADD.out, HPL.out] : addL ⟨a, t, l⟩ s.data.toList = ⟨a, t, insAt l l.length s.data.toList⟩)
            clear ho7 hb7 hnew c0 c1
            go_wp2_with fail
            change bodyPost _ _ _ _ _ (set3 (w7.setCell ⟨w.heap.size, 2, none⟩ (.slice ad7 (l.length + 1) cap7)) (w.heap.size + 1) (.int .i64 a) (.int .i64 t) (.slice ad7 (l.length + 1) cap7))
            have hB := (HNEW.out.b1.three (.int .i64 a) (.int .i64 t) (.slice ad7 (l.length + 1) cap7)).cell
            have HF := Lib.hid (below_three (b := w.heap.size + 1) (x := .int .i64 a) (y := .int .i64 t) (z := .slice ad7 (l.length + 1) cap7) HNEW.out.hb (by omega : w.heap.size ≤ w.heap.size + 1))
            have HOF := Lib.hid ((HNEW.out.own.set_three (b := w.heap.size + 1) (by omega) (.int .i64 a) (.int .i64 t) (.slice ad7 (l.length + 1) cap7)).mono (by omega : w.heap.size ≤ w.heap.size + 2))
            clear d0 d1
            generalize set3 (w7.setCell ⟨w.heap.size, 2, none⟩ (.slice ad7 (l.length + 1) cap7)) (w.heap.size + 1) (.int .i64 a) (.int .i64 t) (.slice ad7 (l.length + 1) cap7) = wf at hB HF HOF ⊢
            exact bodyPost_ret (v := .agg #[.int .i64 a, .int .i64 t, .slice ad7 (l.length + 1) cap7]) (by simp [results, Tryd.results27, go_sem, hB]) rfl ⟨_, rfl, by rw [HAD2.out]; exact HOF.out, HF.out⟩
end Go.Proofs.YtbichcmpggbfnaaDoor
