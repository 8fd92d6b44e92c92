/-
 CONTRACT OF LAYER 10's REFERENCE that layer 15 reaches: AddSub. By an AI agent.
-/
import Derived.Test.YtbcgkeclmioeiaaGreatDoorSwGD
import Derived.Test.YtbcgkeclmioeiaaGreatDoorFLineR
import Derived.Test.YtbcgkeclmioeiaaGreatDoorHand
import Derived.StillTailTactics
import Derived.Deep.AppendLies
import Derived.Deep.RegionLaw
import Derived.Deep.RegionHeld
import Derived.Deep.RegionHeld3
namespace Go.Proofs.YtbcgkeclmioeiaaGreatDoor
open Go.RowKit
open Wd (Bs)

set_option maxRecDepth 100000 in
theorem refHas (a b : Int) (v : Value) (l : List Bs) (s : ByteArray) (w : World) (hv : Strs w v l) :
  Calls Tryz.prog 110 #[.agg #[.int .i64 a, .int .i64 b, v], .string s] w fun e w' => e = .returned (.bool (hasB l s.data.toList)) ∧ Below w.heap.size w w' := by
 obtain ⟨i, hi⟩ : ∃ i, i = idx l s.data.toList := ⟨_, rfl⟩
 have HI := Lib.hid hi
 have HR := Lib.hid ((congrArg (fun z => decide (0 ≤ z)) hi).trans (has_idx l s.data.toList))
 have hb : Below w.heap.size w (w.alloc (.cells #[.int .i64 a, .int .i64 b, v] 53)) := (Below.refl _ _).alloc (Nat.le_refl _) _
 have HV := Lib.hid (hv.below hb (Nat.le_refl _))
 have HB := Lib.hid hb
 clear hi hv hb
 go_enter Tryz.func110, Tryz.ntmps110
 go_wp2_with fail
 refine (refIndex10 _ l s _ HV.out).mono ?_
 rw [← HI.out]
 rintro e w1 ⟨rfl, rfl⟩
 go_wp2_with fail
 go_ret
 exact ⟨ret_bool HR.out, HB.out⟩
/-! fit -/

/-- the memory of the reference's AddSub -/
structure RefAdd (N : Nat) (w wr : World) (a t : Int) (v v5 : Value) (l : List Bs) : Prop where
 b0 : Blk wr N #[.int .i64 a, .int .i64 t, v] 53
 b1 : Blk wr (N + 1) #[.int .i64 0, .int .i64 0, .slice none 0 0] 53
 own : OwnStrs (N + 2) wr v5 l
 hb : Below N w wr
 size : N + 2 ≤ wr.heap.size
theorem RefAdd.below {N : Nat} {w wr w2 : World} {a t : Int} {v v5 : Value} {l : List Bs} (h : RefAdd N w wr a t v v5 l) (hb : Below wr.heap.size wr w2) : RefAdd N w w2 a t v v5 l :=
 ⟨h.b0.below hb h.b0.lt, h.b1.below hb h.b1.lt, h.own.below hb (Nat.le_refl _), h.hb.trans (hb.mono (by have := h.size; omega)), Nat.le_trans h.size hb.size⟩
theorem Strs.empty (w : World) (a : Option Addr) (c : Nat) (h : c ≤ maxLen) : Strs w (.slice a 0 c) [] := ⟨a, c, rfl, Nat.zero_le _, h, fun i x hx => by simp at hx⟩
set_option maxRecDepth 100000 in
/-- 's = append(s, x...)' inside a region that draws -/
theorem step_append_strs {ops : Array Oper} {o : Oper} {a : Act} {K : Act → World → Prop} {Q : Exit → Act → World → Prop} {E : Prop} (hgd : o.guard = none) (s x : Operand)
  (ho : o.op = .call { callee := .builtin .append, args := #[s, x], argTypes := #[51, 51] })
  {B : Nat} {w0 w : World} {v u : Value} {l xs : List Bs} (hs : a.eval s = v) (hown : OwnStrs B w v l) (hx : a.eval x = u) (hxs : Strs w u xs)
  (hlen : l.length + xs.length ≤ 1000000000) (hB : B ≤ w.heap.size) (hb : Below B w0 w)
  (h : ∀ v' w', OwnStrs B w' v' (l ++ xs) → Below B w0 w' → K (a.put o.dst v') w') :
  if Region.wanted o (yielded ops a.tmps) = true then Oper.wp Tryz.prog o a w K Q else E := by
 obtain ⟨i0, hi, hz0, hz1, hz2⟩ := info_parts infoStr
 have hrow : w.ownsRow B 9 1 v l.length (l.map str) := hown
 have hw : Region.wanted o (yielded ops a.tmps) = true := by simp [Region.wanted, hgd]
 rw [if_pos hw]
 obtain ⟨ad, c, rfl, h1, h2, h3⟩ := hxs
 cases ad with
 | none =>
  obtain rfl : xs = [] := by
   cases xs with
   | nil => rfl
   | cons y r => obtain ⟨b, o, e, _⟩ := h3 0 y rfl; cases e
  have hrun := run_append_nil (P := Tryz.prog) (w := w) B 51 o.type 9 i0 1 c Tryz.underlying51 hi v l.length (l.map str) hrow
  unfold Oper.wp
  simp [execOp, ho, resolve, invoke, builtin, hs, hx, hrun, Result.andThen]
  exact h v w (by rw [List.append_nil]; exact hown) hb
 | some p =>
  obtain ⟨v', w', hr, hown', hgrow, -, -⟩ := run_append_own_at (P := Tryz.prog) w B 51 o.type 9 i0 (.string ⟨#[]⟩) 1 16 Tryz.underlying51 hi hz0 hz1 hz2 rfl (by decide) v l.length (l.map str) hrow p xs.length c (xs.map str) (by simp)
   (by
    intro j y hj
    rw [List.getElem?_map, Option.map_eq_some_iff] at hj
    obtain ⟨z, hz, rfl⟩ := hj
    obtain ⟨b, o, e, _, h5⟩ := h3 j z hz
    injection e with e
    subst e
    have hadd : (⟨b, o, none⟩ : Addr).add j = ⟨b, o + j, none⟩ := by unfold Addr.add; split <;> simp_all
    rw [hadd]
    exact h5)
   (by
    intro y hy
    obtain ⟨z, _, rfl⟩ := List.mem_map.1 hy
    rfl) (by unfold maxLen; omega) (by omega) hB
  unfold Oper.wp execOp
  simp only [ho, resolve, invoke, builtin, Sem.run_bind, Sem.run_pure, Result.andThen_ok, List.map_toArray, List.map_cons, List.map_nil, hs, hx, hr]
  have h6 : OwnStrs B w' v' (l ++ xs) := by
   unfold OwnStrs
   simpa using hown'
  exact h v' w' h6 (hb.grown hgrow hB fun k hk => (World.ownsRow.lt hrow k hk).1)
theorem sliceTo (ad : Option Addr) (n c k : Nat) (hk : k ≤ c) (W : World) : (Instr.slice 51 (.slice ad n c) none (some (.int .i64 (k : Int))) none).run Tryz.prog W = .ok (sliced ad 0 k c 1) W := by
 have he : Tryz.prog.elem 51 = 9 := by kernel_rfl
 have ht : Tryz.prog.underlying 51 = some (.slice (Tryz.prog.elem 51)) := by rw [he]; exact Tryz.underlying51
 rw [run_slice_h W 51 ad n c ht .i64 (k : Int) (by omega) (by omega), he, Tryz.sizeOf9]
 simp [Result.andThen]
theorem sliceFrom (ad : Option Addr) (n c k : Nat) (hk : k ≤ n) (W : World) : (Instr.slice 51 (.slice ad n c) (some (.int .i64 (k : Int))) none none).run Tryz.prog W = .ok (sliced ad k n c 1) W := by
 have he : Tryz.prog.elem 51 = 9 := by kernel_rfl
 have ht : Tryz.prog.underlying 51 = some (.slice (Tryz.prog.elem 51)) := by rw [he]; exact Tryz.underlying51
 rw [run_slice_l W 51 ad n c ht .i64 (k : Int) (by omega) (by omega), he, Tryz.sizeOf9]
 simp [Result.andThen]
theorem Strs.sliced {w : World} {ad : Option Addr} {c : Nat} {l : List Bs} (h : Strs w (.slice ad l.length c) l) {i j : Nat} (hi : i ≤ j) (hj : j ≤ l.length) : Strs w (Go.sliced ad i j c 1) ((l.take j).drop i) := by
 obtain ⟨a', c', e, h1, h2, h3⟩ := h
 injection e with e1 _ e2
 subst e1 e2
 have hlen : ((l.take j).drop i).length = j - i := by simp; omega
 unfold Go.sliced
 refine ⟨_, c - i, by rw [hlen], by rw [hlen]; omega, by omega, fun m x hx => ?_⟩
 have hm := (List.getElem?_eq_some_iff.1 hx).1
 rw [hlen] at hm
 rw [List.getElem?_drop, List.getElem?_take, if_pos (by omega)] at hx
 obtain ⟨b, o, rfl, h4, h5⟩ := h3 (i + m) x hx
 refine ⟨b, o + i, ?_, h4, by rw [show o + i + m = o + (i + m) by omega]; exact h5⟩
 have hadd : (⟨b, o, none⟩ : Addr).add i = ⟨b, o + i, none⟩ := by unfold Addr.add; split <;> simp_all
 rw [if_neg (by omega), Nat.mul_one, Option.map_some, hadd]
set_option maxHeartbeats 2000000 in
set_option maxRecDepth 100000 in
theorem refAdd10 (a t : Int) (v : Value) (l : List Bs) (s : ByteArray) (w : World) (hv : Strs w v l) (hl : l.length ≤ 100000) (hs : s.size ≤ maxLen) :
  Calls Tryz.prog 57 #[.agg #[.int .i64 a, .int .i64 t, v], .string s] w (AddRes a t l s.data.toList w) := by
 obtain ⟨w0, hw0⟩ : ∃ w0, w0 = (w.alloc (.cells #[.int .i64 a, .int .i64 t, v] 53)).alloc (.cells #[.int .i64 0, .int .i64 0, .slice none 0 0] 53) := ⟨_, rfl⟩
 have hb0 : Below w.heap.size w w0 := by rw [hw0]; exact ((Below.refl _ _).alloc (Nat.le_refl _) _).alloc (by simp) _
 have hsz0 : w0.heap.size = w.heap.size + 1 + 1 := by rw [hw0]; simp
 have hz0 : Blk w0 w.heap.size #[.int .i64 a, .int .i64 t, v] 53 := by rw [hw0]; exact (Blk.new _ _ _).alloc _
 have hz1 : Blk w0 (w.heap.size + 1) #[.int .i64 0, .int .i64 0, .slice none 0 0] 53 := by
  have h := Blk.new (w.alloc (.cells #[.int .i64 a, .int .i64 t, v] 53)) #[.int .i64 0, .int .i64 0, .slice none 0 0] 53
  rw [hw0]
  rwa [show (w.alloc (.cells #[.int .i64 a, .int .i64 t, v] 53)).heap.size = w.heap.size + 1 by simp] at h
 have HV := Lib.hid hv
 obtain ⟨ad, cap, rfl, hlc, hcm, -⟩ := hv
 unfold maxLen at hcm
 -- the empty literal, the world behind it
 have hlit := OwnStrs.lit w0 [] (by simp)
 obtain ⟨w1, hw1⟩ : ∃ w1, w1 = w0.alloc (.cells #[] 9) := ⟨_, rfl⟩
 have hb1 : Below w0.heap.size w0 w1 := by rw [hw1]; exact (Below.refl _ _).alloc (Nat.le_refl _) _
 have hlit1 : OwnStrs (w.heap.size + 1 + 1) w1 (.slice (some ⟨w.heap.size + 1 + 1, 0, none⟩) 0 0) [] := by
  rw [hw1, ← hsz0]; exact hlit
 have HZ0 := Lib.hid (hz0.below hb1 hz0.lt)
 have HZ1 := Lib.hid (hz1.below hb1 hz1.lt)
 have HB1 := Lib.hid (hb0.trans (hb1.mono hb0.size))
 have HSZ := Lib.hid (by have := hb1.size; omega : w.heap.size + 1 + 1 ≤ w1.heap.size)
 have HV1 := Lib.hid (HV.out.below HB1.out (Nat.le_refl _))
 rw [hw1, hw0] at hlit1
 rw [hw0] at hw1
 have HLIT := Lib.hid hlit1
 have HW1 := Lib.hid hw1
 have HLL : Hid (([] : List Bs).length + l.length ≤ 1000000000) := Lib.hid (by simp; omega)
 rw [hw1] at HV1
 have hszw : w.heap.size + 1 + 1 ≤ (((w.alloc (.cells #[.int .i64 a, .int .i64 t, .slice ad l.length cap] 53)).alloc (.cells #[.int .i64 0, .int .i64 0, .slice none 0 0] 53)).alloc (.cells #[] 9)).heap.size := by rw [← HW1.out]; exact HSZ.out
 clear hb0 hsz0 hz0 hz1 hlit hb1 hlit1 hw1 hw0
 go_enter Tryz.func57, Tryz.ntmps57
 go_wp2_with (at_builtin; refine wpList_append_strs rfl (.tmp 8) (.tmp 10) rfl rfl HLIT.out rfl HV1.out HLL.out hszw (Below.refl _ _) ?_)
 intro v5 w2 ho2 hb2
 rw [← HW1.out] at hb2
 obtain ⟨ad5, cap5, rfl, hcm5, hcl5⟩ := ho2.slice
 unfold maxLen at hcm5
 have hat : RefAdd w.heap.size w w2 a t (.slice ad l.length cap) (.slice ad5 l.length cap5) l :=
  ⟨HZ0.out.below hb2 (by omega), HZ1.out.below hb2 (by omega), ho2, HB1.out.trans (hb2.mono (by omega)), by have := hb2.size; have := HSZ.out; omega⟩
 have HAT := Lib.hid hat
 clear ho2 hb2 hat HLIT HV1 HLL hszw HW1
 go_wp2_with fail
 refine (refIsSub s w2 hs).mono ?_
 cases hsub : Ln.isSub s.data.toList with
 | false =>
  have HADD := Lib.hid (addL_no (l := ⟨a, t, l⟩) (x := s.data.toList) (.inl hsub))
  clear hsub
  rintro e w3 ⟨rfl, hb3⟩
  have HAT3 := Lib.hid (HAT.out.below hb3)
  clear hb3
  have c0 := HAT3.out.b0.cell
  have g0 := HAT3.out.b1.cell
  have g1 := HAT3.out.b1.free
  go_wp2_with fail
  change bodyPost _ _ _ _ _ (set3L w3 (w.heap.size + 1) (.int .i64 a) (.int .i64 t) (.slice ad5 l.length cap5))
  have hB := (HAT3.out.b1.three (.int .i64 a) (.int .i64 t) (.slice ad5 l.length cap5)).cell
  have HF := Lib.hid (below_three (b := w.heap.size + 1) (x := .int .i64 a) (y := .int .i64 t) (z := .slice ad5 l.length cap5) HAT3.out.hb (by omega : w.heap.size ≤ w.heap.size + 1))
  have HOF := Lib.hid ((HAT3.out.own.set_three (b := w.heap.size + 1) (by omega) (.int .i64 a) (.int .i64 t) (.slice ad5 l.length cap5)).mono (by omega : w.heap.size ≤ w.heap.size + 2))
  clear g0 g1
  generalize set3L w3 (w.heap.size + 1) (.int .i64 a) (.int .i64 t) (.slice ad5 l.length cap5) = wf at hB HF HOF ⊢
  exact bodyPost_ret (v := .agg #[.int .i64 a, .int .i64 t, .slice ad5 l.length cap5]) (by simp [results, Tryz.results57, go_sem, hB]) rfl ⟨_, rfl, by rw [HADD.out]; exact HOF.out, HF.out⟩
 | true =>
  rintro e w3 ⟨rfl, hb3⟩
  have HAT3 := Lib.hid (HAT.out.below hb3)
  clear hb3
  have c0 := HAT3.out.b0.cell
  go_wp2_with fail
  refine (refHas a t _ l s w3 (HV.out.below HAT3.out.hb (Nat.le_refl _))).mono ?_
  cases hhas : hasB l s.data.toList with
  | true =>
   have HADD := Lib.hid (addL_no (l := ⟨a, t, l⟩) (x := s.data.toList) (.inr (.inl hhas)))
   clear hsub hhas
   rintro e w4 ⟨rfl, hb4⟩
   have HAT4 := Lib.hid (HAT3.out.below hb4)
   clear hb4 c0
   have c0 := HAT4.out.b0.cell
   have g0 := HAT4.out.b1.cell
   have g1 := HAT4.out.b1.free
   go_wp2_with fail
   change bodyPost _ _ _ _ _ (set3L w4 (w.heap.size + 1) (.int .i64 a) (.int .i64 t) (.slice ad5 l.length cap5))
   have hB := (HAT4.out.b1.three (.int .i64 a) (.int .i64 t) (.slice ad5 l.length cap5)).cell
   have HF := Lib.hid (below_three (b := w.heap.size + 1) (x := .int .i64 a) (y := .int .i64 t) (z := .slice ad5 l.length cap5) HAT4.out.hb (by omega : w.heap.size ≤ w.heap.size + 1))
   have HOF := Lib.hid ((HAT4.out.own.set_three (b := w.heap.size + 1) (by omega) (.int .i64 a) (.int .i64 t) (.slice ad5 l.length cap5)).mono (by omega : w.heap.size ≤ w.heap.size + 2))
   clear g0 g1
   generalize set3L w4 (w.heap.size + 1) (.int .i64 a) (.int .i64 t) (.slice ad5 l.length cap5) = wf at hB HF HOF ⊢
   exact bodyPost_ret (v := .agg #[.int .i64 a, .int .i64 t, .slice ad5 l.length cap5]) (by simp [results, Tryz.results57, go_sem, hB]) rfl ⟨_, rfl, by rw [HADD.out]; exact HOF.out, HF.out⟩
  | false =>
   rintro e w4 ⟨rfl, hb4⟩
   have HAT4 := Lib.hid (HAT3.out.below hb4)
   clear hb4 c0
   by_cases hfull : 4 ≤ l.length
   ·have HADD := Lib.hid (addL_no (l := ⟨a, t, l⟩) (x := s.data.toList) (.inr (.inr hfull)))
    have hf : (4 : Int) ≤ (l.length : Int) := by omega
    have c0 := HAT4.out.b0.cell
    clear hsub hhas hfull
    have g0 := HAT4.out.b1.cell
    have g1 := HAT4.out.b1.free
    go_wp2_with fail
    change bodyPost _ _ _ _ _ (set3L w4 (w.heap.size + 1) (.int .i64 a) (.int .i64 t) (.slice ad5 l.length cap5))
    have hB := (HAT4.out.b1.three (.int .i64 a) (.int .i64 t) (.slice ad5 l.length cap5)).cell
    have HF := Lib.hid (below_three (b := w.heap.size + 1) (x := .int .i64 a) (y := .int .i64 t) (z := .slice ad5 l.length cap5) HAT4.out.hb (by omega : w.heap.size ≤ w.heap.size + 1))
    have HOF := Lib.hid ((HAT4.out.own.set_three (b := w.heap.size + 1) (by omega) (.int .i64 a) (.int .i64 t) (.slice ad5 l.length cap5)).mono (by omega : w.heap.size ≤ w.heap.size + 2))
    clear g0 g1
    generalize set3L w4 (w.heap.size + 1) (.int .i64 a) (.int .i64 t) (.slice ad5 l.length cap5) = wf at hB HF HOF ⊢
    exact bodyPost_ret (v := .agg #[.int .i64 a, .int .i64 t, .slice ad5 l.length cap5]) (by simp [results, Tryz.results57, go_sem, hB]) rfl ⟨_, rfl, by rw [HADD.out]; exact HOF.out, HF.out⟩
   ·have hf : (l.length : Int) < 4 := by omega
    have HADD := Lib.hid (addL_yes (l := ⟨a, t, l⟩) (x := s.data.toList) hsub hhas (show l.length < 4 by omega))
    clear hsub hhas
    go_wp2_with fail
    go_loop [6] (fun iv => ∃ k : Nat, k ≤ l.length ∧ iv = .int .i64 (k : Int) ∧ LessTo l s.data.toList k) (fun iv => l.length - (intOf iv).toNat)
    case atStart => exact ⟨0, by omega, rfl, fun j hj => by omega⟩
    case round =>
     obtain ⟨k, hk, rfl, hle⟩ := hrel
     have HLE := Lib.hid hle
     clear hle
     by_cases hlt : k < l.length
     ·obtain ⟨sx, hsx, ex⟩ := exists_bytes (l.getD k [])
      obtain ⟨b, o, rfl, hbl, dk⟩ := HAT4.out.own.strs.at (getD_some hlt)
      have e1 : w4.cell? ⟨b, o + k, none⟩ = some (.string sx) := dk.trans (congrArg some ex)
      have hi0 : (0 : Int) ≤ (k : Int) := by omega
      have hi1 : (k : Int) < (l.length : Int) := by omega
      by_cases hless : l.getD k [] < s.data.toList
      ·have ht : Op.bytesLess sx.toList s.toList = true := less_yes hsx rfl hless
       have HN := Lib.hid (HLE.out.next hless)
       clear hsx ex dk hless
       go_wp2_with fail
       go_round
       case rel => exact ⟨k + 1, by omega, by go_num, HN.out⟩
       case measure => simp [intOf]; omega
      ·have ht : Op.bytesLess sx.toList s.toList = false := less_no hsx rfl hless
       have HPL := Lib.hid (place_mid hlt HLE.out hless)
       clear hsx ex dk hless
       obtain ⟨u7, hu7⟩ : ∃ u, u = Go.sliced (some ⟨b, o, none⟩) 0 k cap5 1 := ⟨_, rfl⟩
       obtain ⟨u8, hu8⟩ : ∃ u, u = Go.sliced (some ⟨b, o, none⟩) k l.length cap5 1 := ⟨_, rfl⟩
       have hr7 := sliceTo (some ⟨b, o, none⟩) l.length cap5 k (by omega)
       have hr8 := sliceFrom (some ⟨b, o, none⟩) l.length cap5 k hk
       have hq7 := (HAT4.out.own.strs.below ((Below.refl w4.heap.size w4).alloc (Nat.le_refl _) (.cells #[] 9)) (Nat.le_refl _)).sliced (i := 0) (j := k) (by omega) hk
       have hq8 := HAT4.out.own.strs.sliced (i := k) (j := l.length) hk (Nat.le_refl _)
       rw [← hu7] at hr7 hq7
       rw [← hu8] at hr8 hq8
       rw [List.drop_zero] at hq7
       rw [List.take_length] at hq8
       have HSRC := Lib.hid hq7
       have HSRC4 := Lib.hid hq8
       have HLIT := Lib.hid (OwnStrs.lit w4 [] (by simp))
       have HLL : Hid (([] : List Bs).length + (l.take k).length ≤ 1000000000) := Lib.hid (by first | omega | (simp; omega))
       have hszw : w4.heap.size ≤ (w4.alloc (.cells #[] 9)).heap.size := by simp
       clear hu7 hu8 hq7 hq8
       go_wp2_with (at_builtin; refine wpList_append_strs rfl (.tmp 45) (.tmp 48) rfl rfl HLIT.out rfl HSRC.out HLL.out hszw ((Below.refl _ _).alloc (Nat.le_refl _) _) ?_)
       intro v7 w7 ho7 hb7
       have HO7 := Lib.hid ho7
       have HB7 := Lib.hid hb7
       have HL7 : Hid ((l.take k).length ≤ 1000000000000) := Lib.hid (by first | omega | (simp; omega))
       have hsz7 : w4.heap.size ≤ w7.heap.size := hb7.size
       clear ho7 hb7 HSRC HLIT HLL hszw
       go_wp2_with (at_builtin; refine wpList_push_str rfl _ _ rfl rfl HO7.out s rfl HL7.out hsz7 HB7.out ?_)
       intro v8 w8 ho8 hb8
       have HO8 : Hid (OwnStrs w4.heap.size w8.drew v8 (l.take k ++ [s.data.toList])) := Lib.hid ho8
       have HB8 := Lib.hid hb8.drew
       have HL8 : Hid ((l.take k ++ [s.data.toList]).length + (l.drop k).length ≤ 1000000000) := Lib.hid (by first | omega | (simp; omega))
       have hsz8 : w4.heap.size ≤ w8.drew.heap.size := hb8.size
       have HSRC8 : Hid (Strs w8.drew u8 (l.drop k)) := Lib.hid (HSRC4.out.below hb8.drew (Nat.le_refl _))
       have x0 : w8.cell? ⟨w.heap.size, 0, none⟩ = some (.int .i64 a) := (HAT4.out.b0.below hb8 HAT4.out.b0.lt).cell 0
       have x1 : w8.cell? ⟨w.heap.size, 1, none⟩ = some (.int .i64 t) := (HAT4.out.b0.below hb8 HAT4.out.b0.lt).cell 1
       clear ho8 hb8
       go_wp2_with fail
       refine wp_region_held_drew (S := fun W => W.cell? ⟨w.heap.size, 0, none⟩ = some (.int .i64 a) ∧ W.cell? ⟨w.heap.size, 1, none⟩ = some (.int .i64 t)) (by kernel_rfl) ?_ (fun hHeld => ?_)
       ·first | go_keep | (with_reducible exact ⟨x0, x1⟩)
       refine take_run 0 (some 54) (v := ?_) rfl rfl (by kernel_rfl) (by kernel_rfl) (by kernel_rfl) (fun _ _ _ h => h) (by rfl) ?_ (by assumption) ?_
       rotate_left
       ·(intro W hSw; (try dsimp only at hSw); go_simp; (try with_reducible rfl))
       simp only [Act.put, List.setIfInBounds_toArray, List.set_cons_zero, List.set_cons_succ]
       refine take_run 1 (some 55) (v := ?_) rfl rfl (by kernel_rfl) (by kernel_rfl) (by kernel_rfl) (fun _ _ _ h => h) (by rfl) ?_ (by assumption) ?_
       rotate_left
       ·(intro W hSw; (try dsimp only at hSw); go_simp; (try with_reducible rfl))
       simp only [Act.put, List.setIfInBounds_toArray, List.set_cons_zero, List.set_cons_succ]
       refine take_run 2 (some 56) (v := ?_) rfl rfl (by kernel_rfl) (by kernel_rfl) (by kernel_rfl) (fun _ _ _ h => h) (by rfl) ?_ (by assumption) ?_
       rotate_left
       ·(intro W hSw; (try dsimp only at hSw); go_simp; (try with_reducible rfl))
       simp only [Act.put, List.setIfInBounds_toArray, List.set_cons_zero, List.set_cons_succ]
       refine take_run 3 (some 57) (v := ?_) rfl rfl (by kernel_rfl) (by kernel_rfl) (by kernel_rfl) (fun _ _ _ h => h) (by rfl) ?_ (by assumption) ?_
       rotate_left
       ·(intro W hSw; (try dsimp only at hSw); go_simp; (try with_reducible rfl))
       simp only [Act.put, List.setIfInBounds_toArray, List.set_cons_zero, List.set_cons_succ]
       refine take_run 4 (some 58) (v := ?_) rfl rfl (by kernel_rfl) (by kernel_rfl) (by kernel_rfl) (fun _ _ _ h => h) (by rfl) ?_ (by assumption) ?_
       rotate_left
       ·(intro W hSw; (try dsimp only at hSw); go_simp; (try with_reducible rfl))
       simp only [Act.put, List.setIfInBounds_toArray, List.set_cons_zero, List.set_cons_succ]
       refine take_run 5 (some 59) (v := ?_) rfl rfl (by kernel_rfl) (by kernel_rfl) (by kernel_rfl) (fun _ _ _ h => h) (by rfl) ?_ (by assumption) ?_
       rotate_left
       ·(intro W hSw; (try dsimp only at hSw); go_simp; (try with_reducible rfl))
       simp only [Act.put, List.setIfInBounds_toArray, List.set_cons_zero, List.set_cons_succ]
       refine take_run 6 (some 60) (v := ?_) rfl rfl (by kernel_rfl) (by kernel_rfl) (by kernel_rfl) (fun _ _ _ h => h) (by rfl) ?_ (by assumption) ?_
       rotate_left
       ·(intro W hSw; (try dsimp only at hSw); go_simp; (try with_reducible rfl))
       simp only [Act.put, List.setIfInBounds_toArray, List.set_cons_zero, List.set_cons_succ]
       refine take_run 7 (some 61) (v := ?_) rfl rfl (by kernel_rfl) (by kernel_rfl) (by kernel_rfl) (fun _ _ _ h => h) (by rfl) ?_ (by assumption) ?_
       rotate_left
       ·(intro W hSw; (try dsimp only at hSw); go_simp; (try with_reducible rfl))
       simp only [Act.put, List.setIfInBounds_toArray, List.set_cons_zero, List.set_cons_succ]
       refine wpAnyH_ready (rs := [8]) (by kernel_rfl) (by simp) ?_
       refine AllReadyH.cons rfl (fun K hK => ?_) AllReadyH.nil
       refine step_append_strs rfl (.tmp 58) (.tmp 61) rfl rfl HO8.out rfl HSRC8.out HL8.out hsz8 HB8.out (fun v10 w10 ho10 hb10 => ?_)
       have ho : OwnStrs w4.heap.size w10 v10 (insAt l k s.data.toList) := ho10
       obtain ⟨ad10, cap10, hv10, -, -⟩ := ho.slice
       rw [insAt_len hk] at hv10
       subst hv10
       have x2 : w10.cell? ⟨w.heap.size, 0, none⟩ = some (.int .i64 a) := (HAT4.out.b0.below hb10 HAT4.out.b0.lt).cell 0
       have x3 : w10.cell? ⟨w.heap.size, 1, none⟩ = some (.int .i64 t) := (HAT4.out.b0.below hb10 HAT4.out.b0.lt).cell 1
       have y0 := (HAT4.out.b1.below hb10 HAT4.out.b1.lt).cell
       have y1 := (HAT4.out.b1.below hb10 HAT4.out.b1.lt).free
       refine hK.out _ _ ⟨x2, x3⟩ (fun hHeld2 => ?_)
       clear hK K hHeld
       simp only [Act.put, List.setIfInBounds_toArray]
       refine take_run 9 (some 63) (v := ?_) rfl rfl (by kernel_rfl) (by kernel_rfl) (by kernel_rfl) (fun _ _ _ h => h) (by rfl) ?_ (by assumption) ?_
       rotate_left
       ·(intro W hSw; (try dsimp only at hSw); go_simp; (try with_reducible rfl))
       simp only [Act.put]
       refine wpAnyH_ready (rs := [10]) (by kernel_rfl) (by simp) ?_
       refine AllReadyH.cons rfl (fun K hK => ?_) AllReadyH.nil
       go_simp
       refine hK.out _ _ ?_ (fun hHeld3 => ?_)
       ·go_keep
       clear hK K hHeld2
       try simp only [Act.put, List.setIfInBounds_toArray, List.set_cons_zero, List.set_cons_succ]
       refine wpAnyH_done (by kernel_rfl) ?_ _
       have HAD2 := Lib.hid (by rw [HADD.out, HPL.out] : addL ⟨a, t, l⟩ s.data.toList = ⟨a, t, insAt l k s.data.toList⟩)
       have hat10 : RefAdd w.heap.size w w10 a t (.slice ad l.length cap) (.slice ad10 (l.length + 1) cap10) (insAt l k s.data.toList) :=
        ⟨HAT4.out.b0.below hb10 HAT4.out.b0.lt, HAT4.out.b1.below hb10 HAT4.out.b1.lt, ho.mono HAT4.out.size, HAT4.out.hb.trans (hb10.mono (by have := HAT4.out.size; omega)), Nat.le_trans HAT4.out.size hb10.size⟩
       have HAT10 := Lib.hid hat10
       clear ho10 hb10 ho hat10 x0 x1 x2 x3 hHeld3
       go_wp2_with fail
       change bodyPost _ _ _ _ _ (set3L w10 (w.heap.size + 1) (.int .i64 a) (.int .i64 t) (.slice ad10 (l.length + 1) cap10))
       have hB := (HAT10.out.b1.three (.int .i64 a) (.int .i64 t) (.slice ad10 (l.length + 1) cap10)).cell
       have HF := Lib.hid (below_three (b := w.heap.size + 1) (x := .int .i64 a) (y := .int .i64 t) (z := .slice ad10 (l.length + 1) cap10) HAT10.out.hb (by omega : w.heap.size ≤ w.heap.size + 1))
       have HOF := Lib.hid ((HAT10.out.own.set_three (b := w.heap.size + 1) (by omega) (.int .i64 a) (.int .i64 t) (.slice ad10 (l.length + 1) cap10)).mono (by omega : w.heap.size ≤ w.heap.size + 2))
       clear y0 y1
       generalize set3L w10 (w.heap.size + 1) (.int .i64 a) (.int .i64 t) (.slice ad10 (l.length + 1) cap10) = wf at hB HF HOF ⊢
       exact bodyPost_ret (v := .agg #[.int .i64 a, .int .i64 t, .slice ad10 (l.length + 1) cap10]) (by simp [results, Tryz.results57, go_sem, hB]) rfl ⟨_, rfl, by rw [HAD2.out]; exact HOF.out, HF.out⟩
     ·obtain rfl : k = l.length := by omega
      have HPL := Lib.hid (place_end HLE.out)
      obtain ⟨u7, hu7⟩ : ∃ u, u = Go.sliced (ad5) 0 l.length cap5 1 := ⟨_, rfl⟩
      obtain ⟨u8, hu8⟩ : ∃ u, u = Go.sliced (ad5) l.length l.length cap5 1 := ⟨_, rfl⟩
      have hr7 := sliceTo (ad5) l.length cap5 l.length (by omega)
      have hr8 := sliceFrom (ad5) l.length cap5 l.length (Nat.le_refl _)
      have hq7 := (HAT4.out.own.strs.below ((Below.refl w4.heap.size w4).alloc (Nat.le_refl _) (.cells #[] 9)) (Nat.le_refl _)).sliced (i := 0) (j := l.length) (by omega) (Nat.le_refl _)
      have hq8 := HAT4.out.own.strs.sliced (i := l.length) (j := l.length) (Nat.le_refl _) (Nat.le_refl _)
      rw [← hu7] at hr7 hq7
      rw [← hu8] at hr8 hq8
      rw [List.drop_zero] at hq7
      rw [List.take_length] at hq8
      rw [List.take_length] at hq7
      have HSRC := Lib.hid hq7
      have HSRC4 := Lib.hid hq8
      have HLIT := Lib.hid (OwnStrs.lit w4 [] (by simp))
      have HLL : Hid (([] : List Bs).length + (l).length ≤ 1000000000) := Lib.hid (by first | omega | (simp; omega))
      have hszw : w4.heap.size ≤ (w4.alloc (.cells #[] 9)).heap.size := by simp
      clear hu7 hu8 hq7 hq8
      go_wp2_with (at_builtin; refine wpList_append_strs rfl (.tmp 45) (.tmp 48) rfl rfl HLIT.out rfl HSRC.out HLL.out hszw ((Below.refl _ _).alloc (Nat.le_refl _) _) ?_)
      intro v7 w7 ho7 hb7
      have HO7 := Lib.hid ho7
      have HB7 := Lib.hid hb7
      have HL7 : Hid ((l).length ≤ 1000000000000) := Lib.hid (by first | omega | (simp; omega))
      have hsz7 : w4.heap.size ≤ w7.heap.size := hb7.size
      clear ho7 hb7 HSRC HLIT HLL hszw
      go_wp2_with (at_builtin; refine wpList_push_str rfl _ _ rfl rfl HO7.out s rfl HL7.out hsz7 HB7.out ?_)
      intro v8 w8 ho8 hb8
      have HO8 : Hid (OwnStrs w4.heap.size w8.drew v8 (l ++ [s.data.toList])) := Lib.hid ho8
      have HB8 := Lib.hid hb8.drew
      have HL8 : Hid ((l ++ [s.data.toList]).length + (l.drop l.length).length ≤ 1000000000) := Lib.hid (by first | omega | (simp; omega))
      have hsz8 : w4.heap.size ≤ w8.drew.heap.size := hb8.size
      have HSRC8 : Hid (Strs w8.drew u8 (l.drop l.length)) := Lib.hid (HSRC4.out.below hb8.drew (Nat.le_refl _))
      have x0 : w8.cell? ⟨w.heap.size, 0, none⟩ = some (.int .i64 a) := (HAT4.out.b0.below hb8 HAT4.out.b0.lt).cell 0
      have x1 : w8.cell? ⟨w.heap.size, 1, none⟩ = some (.int .i64 t) := (HAT4.out.b0.below hb8 HAT4.out.b0.lt).cell 1
      clear ho8 hb8
      go_wp2_with fail
      refine wp_region_held_drew (S := fun W => W.cell? ⟨w.heap.size, 0, none⟩ = some (.int .i64 a) ∧ W.cell? ⟨w.heap.size, 1, none⟩ = some (.int .i64 t)) (by kernel_rfl) ?_ (fun hHeld => ?_)
      ·first | go_keep | (with_reducible exact ⟨x0, x1⟩)
      refine take_run 0 (some 54) (v := ?_) rfl rfl (by kernel_rfl) (by kernel_rfl) (by kernel_rfl) (fun _ _ _ h => h) (by rfl) ?_ (by assumption) ?_
      rotate_left
      ·(intro W hSw; (try dsimp only at hSw); go_simp; (try with_reducible rfl))
      simp only [Act.put, List.setIfInBounds_toArray, List.set_cons_zero, List.set_cons_succ]
      refine take_run 1 (some 55) (v := ?_) rfl rfl (by kernel_rfl) (by kernel_rfl) (by kernel_rfl) (fun _ _ _ h => h) (by rfl) ?_ (by assumption) ?_
      rotate_left
      ·(intro W hSw; (try dsimp only at hSw); go_simp; (try with_reducible rfl))
      simp only [Act.put, List.setIfInBounds_toArray, List.set_cons_zero, List.set_cons_succ]
      refine take_run 2 (some 56) (v := ?_) rfl rfl (by kernel_rfl) (by kernel_rfl) (by kernel_rfl) (fun _ _ _ h => h) (by rfl) ?_ (by assumption) ?_
      rotate_left
      ·(intro W hSw; (try dsimp only at hSw); go_simp; (try with_reducible rfl))
      simp only [Act.put, List.setIfInBounds_toArray, List.set_cons_zero, List.set_cons_succ]
      refine take_run 3 (some 57) (v := ?_) rfl rfl (by kernel_rfl) (by kernel_rfl) (by kernel_rfl) (fun _ _ _ h => h) (by rfl) ?_ (by assumption) ?_
      rotate_left
      ·(intro W hSw; (try dsimp only at hSw); go_simp; (try with_reducible rfl))
      simp only [Act.put, List.setIfInBounds_toArray, List.set_cons_zero, List.set_cons_succ]
      refine take_run 4 (some 58) (v := ?_) rfl rfl (by kernel_rfl) (by kernel_rfl) (by kernel_rfl) (fun _ _ _ h => h) (by rfl) ?_ (by assumption) ?_
      rotate_left
      ·(intro W hSw; (try dsimp only at hSw); go_simp; (try with_reducible rfl))
      simp only [Act.put, List.setIfInBounds_toArray, List.set_cons_zero, List.set_cons_succ]
      refine take_run 5 (some 59) (v := ?_) rfl rfl (by kernel_rfl) (by kernel_rfl) (by kernel_rfl) (fun _ _ _ h => h) (by rfl) ?_ (by assumption) ?_
      rotate_left
      ·(intro W hSw; (try dsimp only at hSw); go_simp; (try with_reducible rfl))
      simp only [Act.put, List.setIfInBounds_toArray, List.set_cons_zero, List.set_cons_succ]
      refine take_run 6 (some 60) (v := ?_) rfl rfl (by kernel_rfl) (by kernel_rfl) (by kernel_rfl) (fun _ _ _ h => h) (by rfl) ?_ (by assumption) ?_
      rotate_left
      ·(intro W hSw; (try dsimp only at hSw); go_simp; (try with_reducible rfl))
      simp only [Act.put, List.setIfInBounds_toArray, List.set_cons_zero, List.set_cons_succ]
      refine take_run 7 (some 61) (v := ?_) rfl rfl (by kernel_rfl) (by kernel_rfl) (by kernel_rfl) (fun _ _ _ h => h) (by rfl) ?_ (by assumption) ?_
      rotate_left
      ·(intro W hSw; (try dsimp only at hSw); go_simp; (try with_reducible rfl))
      simp only [Act.put, List.setIfInBounds_toArray, List.set_cons_zero, List.set_cons_succ]
      refine wpAnyH_ready (rs := [8]) (by kernel_rfl) (by simp) ?_
      refine AllReadyH.cons rfl (fun K hK => ?_) AllReadyH.nil
      refine step_append_strs rfl (.tmp 58) (.tmp 61) rfl rfl HO8.out rfl HSRC8.out HL8.out hsz8 HB8.out (fun v10 w10 ho10 hb10 => ?_)
      have ho : OwnStrs w4.heap.size w10 v10 (insAt l l.length s.data.toList) := (by unfold insAt; rw [List.take_length]; exact ho10)
      obtain ⟨ad10, cap10, hv10, -, -⟩ := ho.slice
      rw [insAt_len (Nat.le_refl _)] at hv10
      subst hv10
      have x2 : w10.cell? ⟨w.heap.size, 0, none⟩ = some (.int .i64 a) := (HAT4.out.b0.below hb10 HAT4.out.b0.lt).cell 0
      have x3 : w10.cell? ⟨w.heap.size, 1, none⟩ = some (.int .i64 t) := (HAT4.out.b0.below hb10 HAT4.out.b0.lt).cell 1
      have y0 := (HAT4.out.b1.below hb10 HAT4.out.b1.lt).cell
      have y1 := (HAT4.out.b1.below hb10 HAT4.out.b1.lt).free
      refine hK.out _ _ ⟨x2, x3⟩ (fun hHeld2 => ?_)
      clear hK K hHeld
      simp only [Act.put, List.setIfInBounds_toArray]
      refine take_run 9 (some 63) (v := ?_) rfl rfl (by kernel_rfl) (by kernel_rfl) (by kernel_rfl) (fun _ _ _ h => h) (by rfl) ?_ (by assumption) ?_
      rotate_left
      ·(intro W hSw; (try dsimp only at hSw); go_simp; (try with_reducible rfl))
      simp only [Act.put]
      refine wpAnyH_ready (rs := [10]) (by kernel_rfl) (by simp) ?_
      refine AllReadyH.cons rfl (fun K hK => ?_) AllReadyH.nil
      go_simp
      refine hK.out _ _ ?_ (fun hHeld3 => ?_)
      ·go_keep
      clear hK K hHeld2
      try simp only [Act.put, List.setIfInBounds_toArray, List.set_cons_zero, List.set_cons_succ]
      refine wpAnyH_done (by kernel_rfl) ?_ _
      have HAD2 := Lib.hid (by rw [HADD.out, HPL.out] : addL ⟨a, t, l⟩ s.data.toList = ⟨a, t, insAt l l.length s.data.toList⟩)
      have hat10 : RefAdd w.heap.size w w10 a t (.slice ad l.length cap) (.slice ad10 (l.length + 1) cap10) (insAt l l.length s.data.toList) :=
       ⟨HAT4.out.b0.below hb10 HAT4.out.b0.lt, HAT4.out.b1.below hb10 HAT4.out.b1.lt, ho.mono HAT4.out.size, HAT4.out.hb.trans (hb10.mono (by have := HAT4.out.size; omega)), Nat.le_trans HAT4.out.size hb10.size⟩
      have HAT10 := Lib.hid hat10
      clear ho10 hb10 ho hat10 x0 x1 x2 x3 hHeld3
      go_wp2_with fail
      change bodyPost _ _ _ _ _ (set3L w10 (w.heap.size + 1) (.int .i64 a) (.int .i64 t) (.slice ad10 (l.length + 1) cap10))
      have hB := (HAT10.out.b1.three (.int .i64 a) (.int .i64 t) (.slice ad10 (l.length + 1) cap10)).cell
      have HF := Lib.hid (below_three (b := w.heap.size + 1) (x := .int .i64 a) (y := .int .i64 t) (z := .slice ad10 (l.length + 1) cap10) HAT10.out.hb (by omega : w.heap.size ≤ w.heap.size + 1))
      have HOF := Lib.hid ((HAT10.out.own.set_three (b := w.heap.size + 1) (by omega) (.int .i64 a) (.int .i64 t) (.slice ad10 (l.length + 1) cap10)).mono (by omega : w.heap.size ≤ w.heap.size + 2))
      clear y0 y1
      generalize set3L w10 (w.heap.size + 1) (.int .i64 a) (.int .i64 t) (.slice ad10 (l.length + 1) cap10) = wf at hB HF HOF ⊢
      exact bodyPost_ret (v := .agg #[.int .i64 a, .int .i64 t, .slice ad10 (l.length + 1) cap10]) (by simp [results, Tryz.results57, go_sem, hB]) rfl ⟨_, rfl, by rw [HAD2.out]; exact HOF.out, HF.out⟩
end Go.Proofs.YtbcgkeclmioeiaaGreatDoor
