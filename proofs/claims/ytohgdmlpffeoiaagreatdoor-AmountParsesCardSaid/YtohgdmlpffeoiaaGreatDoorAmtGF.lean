/-
  MERGED: FilRefE, AmtRPH, AmtRP, AmtLawS. By an AI agent.
-/
import Derived.Test.YtohgdmlpffeoiaaGreatDoorFilRefD
import Derived.Test.YtohgdmlpffeoiaaGreatDoorAmtGA
import Derived.Test.YtohgdmlpffeoiaaGreatDoorAmtGD
import Derived.Deep.Cut
import Derived.Test.YtohgdmlpffeoiaaGreatDoorAmtGC
namespace Go.Proofs.YtohgdmlpffeoiaaGreatDoor
open Go.RowKit
open Wd (Bs)

/-- a row of strings in a block from B on -/
def RowFar (B : Nat) (w : World) (ad : Option Addr) (l : List Bs) : Prop := ∀ (i : Nat) x, l[i]? = some x → ∃ g, ad = some ⟨g, 0, none⟩ ∧ B ≤ g ∧ g < w.heap.size ∧ w.cell? ⟨g, i, none⟩ = some (str x)
theorem RowFar.of {B : Nat} {w : World} {v : Value} {l : List Bs} (h : OwnStrs B w v l) : ∃ ad cap, v = .slice ad l.length cap ∧ l.length ≤ cap ∧ cap ≤ maxLen ∧ RowFar B w ad l := by
  rcases h.shape with ⟨rfl, rfl⟩ | ⟨g, cap, rfl, h1, h2, h3, h4, h5⟩
  · exact ⟨none, 0, rfl, Nat.le_refl _, by decide, fun i x hx => by simp at hx⟩
  · exact ⟨_, cap, rfl, h3, h4, fun i x hx => ⟨g, rfl, h1, h2, h5 i x hx⟩⟩
theorem RowFar.below {B : Nat} {w w' : World} {ad : Option Addr} {l : List Bs} (h : RowFar B w ad l) (hb : Below w.heap.size w w') : RowFar B w' ad l := fun i x hx => by
  obtain ⟨g, e, h1, h2, h3⟩ := h i x hx
  exact ⟨g, e, h1, Nat.lt_of_lt_of_le h2 hb.size, by rw [hb.cell (p := ⟨g, i, none⟩) h2]; exact h3⟩
theorem RowFar.whole {B b : Nat} {w : World} {ad : Option Addr} {l : List Bs} (h : RowFar B w ad l) (hb : b < B) (vs : List Value) : RowFar B (w.setCells b 0 vs) ad l := fun i x hx => by
  obtain ⟨g, e, h1, h2, h3⟩ := h i x hx
  exact ⟨g, e, h1, by rw [size_whole]; exact h2, by rw [cell_wholeElse vs i (by omega)]; exact h3⟩
theorem foldN_ok : ∀ (l : List Bs) (a : Fil.Acc), Fil.Ok a → Fil.Ok (l.foldl Fil.wordN a)
  | [], _, h => h
  | x :: l, _, h => foldN_ok l _ (Fil.wordN_ok x h)
theorem foldN_step {l : List Bs} {k : Nat} {x : Bs} (h : l[k]? = some x) : (l.take (k + 1)).foldl Fil.wordN Fil.zeroA = Fil.wordN ((l.take k).foldl Fil.wordN Fil.zeroA) x := by
  rw [List.take_add_one, h]
  simp [List.foldl_append]
theorem subOf_le (x w : Bs) {n : Nat} (hx : x.length ≤ n) (hw : w.length ≤ n) : (Fil.subOf x w).length ≤ n := by
  unfold Fil.subOf
  split
  · simp; omega
  · exact hx
theorem foldN_sub {n : Nat} : ∀ (l : List Bs) (a : Fil.Acc), a.sub.length ≤ n → (∀ x ∈ l, x.length ≤ n) → (l.foldl Fil.wordN a).sub.length ≤ n
  | [], _, h, _ => h
  | x :: l, _, h, hl => foldN_sub l _ (subOf_le _ _ h (hl x (by simp))) fun y hy => hl y (by simp [hy])

theorem split_parts_size {l p : Bs} {c : UInt8} (h : p ∈ Wd.split l c) : p.length ≤ l.length := by
  have key : ∀ i, ∀ q ∈ (Wd.partsTo (Wd.sepAt l c) l i).1, q.length ≤ l.length := by
    intro i
    induction i with
    | zero => intro q hq; simp [Wd.partsTo] at hq
    | succ i ih =>
      intro q hq
      simp only [Wd.partsTo] at hq
      split at hq
      · simp at hq
        rcases hq with hq | rfl
        · exact ih q hq
        · simp [Wd.slice]; omega
      · exact ih q hq
  unfold Wd.split at h
  split at h
  · simp at h; subst h; exact Nat.le_refl _
  · simp at h
    rcases h with h | rfl
    · exact key _ _ h
    · simp [Wd.slice]
theorem split_count {l : Bs} {c : UInt8} {n : Nat} (h : l.length ≤ n) : (Wd.split l c).length ≤ n + 1 := by have := (Wd.split_len l c).2; omega
theorem split_part {l : Bs} {c : UInt8} {n : Nat} (h : l.length ≤ n) : ∀ x ∈ Wd.split l c, x.length ≤ n := fun x hx => by have := split_parts_size hx; omega
set_option maxHeartbeats 8000000 in
set_option maxRecDepth 100000 in
theorem refParse13 (s : ByteArray) (w : World) (hs : s.size ≤ 1000000) :
    Calls Tryz.prog 27 #[.string s] w (ParseRes s.data.toList w) := by
  obtain ⟨l, hl⟩ : ∃ l, l = Wd.split s.data.toList 32 := ⟨_, rfl⟩
  have hll : l.length ≤ 1000001 := by rw [hl]; exact split_count hs
  have hlx : ∀ x ∈ l, x.length ≤ 1000000 := by rw [hl]; exact split_part hs
  have HS : Hid (∀ W, Calls Tryz.prog 70 #[.string s, .int .u8 32] W (StrsRes l W)) := Lib.hid fun W => by rw [hl]; exact refSplit s 32 W (by omega)
  have HREF : Hid (Fil.refP s.data.toList = (l.foldl Fil.wordN Fil.zeroA).flt) := Lib.hid (by rw [hl]; rfl)
  obtain ⟨w0, hw0⟩ : ∃ w0, w0 = (w.alloc (.cells cellsZ 25)).alloc (.cells cellsZ 25) := ⟨_, rfl⟩
  obtain ⟨F, hF⟩ : ∃ F, F = w.heap.size + 1 := ⟨_, rfl⟩
  have r0 : Blk w0 w.heap.size cellsZ 25 := by rw [hw0]; exact (Blk.new w _ _).alloc _
  have f0 : Blk w0 F cellsZ 25 := by
    have h := Blk.new (w.alloc (.cells cellsZ 25)) cellsZ 25
    rw [hw0, hF]; simpa using h
  have b0 : Below w.heap.size w w0 := by rw [hw0]; exact ((Below.refl _ _).alloc (Nat.le_refl _) _).alloc (by simp) _
  have hz0 : w0.heap.size = F + 1 := by rw [hw0, hF]; simp
  have HFR : Hid (w.heap.size ≠ F) := Lib.hid (by omega)
  have HFL : Hid (w.heap.size ≤ F) := Lib.hid (by omega)
  have HZ0 := Lib.hid hz0
  have R0 := Lib.hid r0
  have F0 := Lib.hid f0
  have B0 := Lib.hid b0
  have HLX := Lib.hid hlx
  have HL := Lib.hid hl
  have HSS := Lib.hid hs
  clear r0 f0 b0 hlx hz0 hl hs
  go_enter Tryz.func27, Tryz.ntmps27
  go_wp2_with fail
  rw [show (w.alloc (.cells #[.int .i64 0, .int .i64 0, .int .i64 0, .int .i64 0, .int .i64 0, .int .i64 0, .int .i64 0, .string ⟨#[]⟩, .int .i64 0, .int .i64 0, .int .i64 0, .int .i64 0, .int .i64 0, .int .i64 0, .int .i64 0, .int .i64 0] 25)).alloc (.cells #[.int .i64 0, .int .i64 0, .int .i64 0, .int .i64 0, .int .i64 0, .int .i64 0, .int .i64 0, .string ⟨#[]⟩, .int .i64 0, .int .i64 0, .int .i64 0, .int .i64 0, .int .i64 0, .int .i64 0, .int .i64 0, .int .i64 0] 25) = w0 from hw0.symm, ← hF]
  clear hw0 hF
  refine (HS.out _).mono ?_
  rintro e w1 ⟨v, rfl, hown, hb1⟩
  obtain ⟨ad, cap, rfl, hcap, hmx, hrow⟩ := RowFar.of hown
  have hm1 : l.length ≤ maxLen := by omega
  have R1 := Lib.hid (R0.out.below hb1 R0.out.lt)
  have F1 := Lib.hid (F0.out.below hb1 F0.out.lt)
  have B1 := Lib.hid (B0.out.trans (hb1.mono B0.out.size))
  have W1 : Hid (RowFar (F + 1) w1 ad l) := Lib.hid (by rw [← HZ0.out]; exact hrow)
  clear hown hrow hb1 R0 F0 B0
  unfold maxLen at hmx hm1
  go_wp2_with fail
  go_loopw [6] (fun iv wr => ∃ (k : Nat) (a : Fil.Acc) (fs : ByteArray), k ≤ l.length ∧ iv = .int .i64 (k : Int) ∧ Hid (a = (l.take k).foldl Fil.wordN Fil.zeroA ∧ a.sub = fs.data.toList) ∧ Hid (Blk wr F (cellsA a fs) 25) ∧ Hid (Blk wr w.heap.size cellsZ 25) ∧ Hid (RowFar (F + 1) wr ad l) ∧ Hid (Below w.heap.size w wr)) (fun iv _ => l.length - (intOf iv).toNat)
  case atStart => exact ⟨0, Fil.zeroA, ⟨#[]⟩, by omega, rfl, Lib.hid ⟨rfl, rfl⟩, F1, R1, W1, B1⟩
  case round =>
    obtain ⟨k, a, fs, hk, rfl, HA, HK, HR, HW, HB⟩ := hrel
    by_cases hlt : k < l.length
    · obtain ⟨x, hx⟩ : ∃ x, l[k]? = some x := ⟨l[k], by simp [hlt]⟩
      obtain ⟨sx, hsx, ex⟩ := exists_bytes x
      obtain ⟨g, rfl, hg1, hg2, hg3⟩ := HW.out k x hx
      have d1 : wr.cell? ⟨g, k, none⟩ = some (.string sx) := hg3.trans (congrArg some ex)
      have HSTEP := Lib.hid (foldN_step hx)
      have HC : Hid (∀ W, Calls Tryz.prog 71 #[.agg (cellsA a fs), .string sx] W fun e w' => ∃ (b : Fil.Acc) (hs : ByteArray), b = (l.take (k + 1)).foldl Fil.wordN Fil.zeroA ∧ b.sub = hs.data.toList ∧ e = .returned (.agg (cellsA b hs)) ∧ Below W.heap.size W w') := Lib.hid fun W => by
        refine (refWord13 a fs sx (by rw [HA.out.1]; exact foldN_ok _ _ Fil.zero_ok) HA.out.2 (by have := HLX.out x (List.mem_of_getElem? hx); rw [← hsx] at this; simpa using this) W).mono ?_
        rintro e w' ⟨hs, h1, h2, h3⟩
        refine ⟨Fil.wordN a sx.data.toList, hs, ?_, h1.symm, h2, h3⟩
        rw [HSTEP.out, ← HA.out.1, hsx]
      have HG1 := Lib.hid hg1
      have HG2 := Lib.hid hg2
      clear hx hsx ex hg1 hg2 hg3 HSTEP
      go_upto_region 6 with fail
      refine wp_region_held_drew (S := (fun W : World => W.cell? ⟨g, k, none⟩ = some (.string sx))) (by kernel_rfl) ?_ (fun hHeld => ?_)
      · exact d1
      refine take_run 1 (some 16) (v := ?_) rfl rfl (by kernel_rfl) (by kernel_rfl) (by kernel_rfl) (fun _ _ _ h => h) (by rfl) ?_ (by assumption) ?_
      rotate_left
      · (intro W hSw; (try dsimp only at hSw); go_simp; (try with_reducible rfl))
      simp only [Act.put, List.setIfInBounds_toArray, List.set_cons_zero, List.set_cons_succ]
      refine take_run 2 (some 17) (v := ?_) rfl rfl (by kernel_rfl) (by kernel_rfl) (by kernel_rfl) (fun _ _ _ h => h) (by rfl) ?_ (by assumption) ?_
      rotate_left
      · (intro W hSw; (try dsimp only at hSw); go_simp; (try with_reducible rfl))
      simp only [Act.put, List.setIfInBounds_toArray, List.set_cons_zero, List.set_cons_succ]
      refine take_run 3 (some 18) (v := ?_) rfl rfl (by kernel_rfl) (by kernel_rfl) (by kernel_rfl) (fun _ _ _ h => h) (by rfl) ?_ (by assumption) ?_
      rotate_left
      · (intro W hSw; (try dsimp only at hSw); go_simp; (try with_reducible rfl))
      simp only [Act.put, List.setIfInBounds_toArray, List.set_cons_zero, List.set_cons_succ]
      refine take_run 4 (some 19) (v := ?_) rfl rfl (by kernel_rfl) (by kernel_rfl) (by kernel_rfl) (fun _ _ _ h => h) (by rfl) ?_ (by assumption) ?_
      rotate_left
      · (intro W hSw; (try dsimp only at hSw); go_simp; (try with_reducible rfl))
      simp only [Act.put, List.setIfInBounds_toArray, List.set_cons_zero, List.set_cons_succ]
      refine wpAnyH_ready (rs := [0]) (by kernel_rfl) (by simp) ?_
      refine AllReadyH.cons rfl (fun K0 hK0 => ?_) AllReadyH.nil
      rw [if_pos (by rfl)]
      refine wp_loadS (.tmp 4) rfl (b := F) (cs := cellsA a fs) rfl HK.out.drew Tryz.underlying25 rfl (infoTF _ _) ?_
      refine hK0.out _ _ hHeld (fun hHeld0 => ?_)
      clear hK0 K0
      simp only [Act.put, List.setIfInBounds_toArray]
      refine wpAnyH_ready (rs := [5]) (by kernel_rfl) (by simp) ?_
      refine AllReadyH.cons rfl (fun K1 hK1 => ?_) AllReadyH.nil
      go_simp
      go_at_call 71
      refine (HC.out _).mono ?_
      rintro e w2 ⟨b, hs, hb1, hb2, rfl, hb3⟩
      have hlt2 : g < w2.heap.size := Nat.lt_of_lt_of_le HG2.out hb3.size
      have HK2 : Hid (Blk w2 F (cellsA a fs) 25) := Lib.hid (HK.out.drew.below hb3 HK.out.lt)
      have HR2 : Hid (Blk w2 w.heap.size cellsZ 25) := Lib.hid (HR.out.drew.below hb3 HR.out.lt)
      have HB2 : Hid (Below w.heap.size w w2) := Lib.hid ((show Below w.heap.size w wr.drew from HB.out.drew).trans (hb3.mono HB.out.size))
      have HW2 : Hid (RowFar (F + 1) w2 (some ⟨g, 0, none⟩) l) := Lib.hid (RowFar.below (w := wr.drew) HW.out hb3)
      have d2 : w2.cell? ⟨g, k, none⟩ = some (.string sx) := by rw [hb3.cell (p := ⟨g, k, none⟩) HG2.out]; exact hHeld0
      have HAN : Hid (b = (l.take (k + 1)).foldl Fil.wordN Fil.zeroA ∧ b.sub = hs.data.toList) := Lib.hid ⟨hb1, hb2⟩
      have HD2 := Lib.hid d2
      clear hb1 hb2 hb3 hlt2 d2 HK HR HB HW HA HC
      go_simp
      refine hK1.out _ _ HD2.out (fun hHeld1 => ?_)
      clear hK1 K1 hHeld0 hHeld
      try simp only [Act.put, List.setIfInBounds_toArray, List.set_cons_zero, List.set_cons_succ]
      refine wpAnyH_ready (rs := [6]) (by kernel_rfl) (by simp) ?_
      refine AllReadyH.cons rfl (fun K2 hK2 => ?_) AllReadyH.nil
      rw [if_pos (by rfl)]
      refine wp_storeS (.tmp 4) (.tmp 20) rfl (b := F) (cs := cellsA a fs) (vs := cellsA b hs) rfl rfl HK2.out rfl (infoTF _ _) (cellsA_one _ _) ?_
      have HK3 : Hid (Blk (w2.setCells F 0 (cellsA b hs).toList) F (cellsA b hs) 25) := Lib.hid (HK2.out.whole _ rfl)
      have HR3 : Hid (Blk (w2.setCells F 0 (cellsA b hs).toList) w.heap.size cellsZ 25) := Lib.hid (HR2.out.wholeElse _ HFR.out)
      have HB3 : Hid (Below w.heap.size w (w2.setCells F 0 (cellsA b hs).toList)) := Lib.hid (below_whole _ HB2.out HFL.out)
      have HW3 : Hid (RowFar (F + 1) (w2.setCells F 0 (cellsA b hs).toList) (some ⟨g, 0, none⟩) l) := Lib.hid (HW2.out.whole (Nat.lt_succ_self F) _)
      have HD3 : Hid ((w2.setCells F 0 (cellsA b hs).toList).cell? ⟨g, k, none⟩ = some (.string sx)) := Lib.hid (by rw [cell_wholeElse _ k (by have := HG1.out; omega)]; exact HD2.out)
      clear HK2 HR2 HB2 HW2 HD2
      generalize w2.setCells F 0 (cellsA b hs).toList = w3 at HK3 HR3 HB3 HW3 HD3 ⊢
      refine hK2.out _ _ HD3.out (fun hHeld2 => ?_)
      clear hK2 K2 hHeld1
      simp only [Act.put, List.setIfInBounds_toArray]
      refine wpAnyH_done (by kernel_rfl) ?_ _
      go_wp2_with fail
      go_roundw
      case rel => exact ⟨k + 1, b, hs, by omega, by go_num, HAN, HK3, HR3, HW3, HB3⟩
      case measure => simp [intOf]; omega
    · have hke : k = l.length := by omega
      have HFIN : Hid (Fil.refP s.data.toList = a.flt) := Lib.hid (by rw [HREF.out, HA.out.1, hke, List.take_length])
      have hsub := HA.out.2
      have hlen : fs.size ≤ maxLen := by
        have h1 := foldN_sub (n := 1000000) l Fil.zeroA (by simp [Fil.zeroA]) HLX.out
        have h2 := HA.out.1
        rw [hke, List.take_length] at h2
        rw [← h2, HA.out.2] at h1
        unfold maxLen
        simp at h1
        omega
      obtain ⟨tx, htx, etx⟩ := exists_bytes (Fil.textF a.flt)
      have HIS0 : Hid (∀ W, Calls Tryz.prog 17 #[.agg (cellsA a fs)] W fun e w' => e = .returned (.bool (Fil.validB a.flt)) ∧ Below W.heap.size W w') := Lib.hid fun W => refIs13 a.flt fs hsub hlen W
      have HTX : Hid (∀ W, Calls Tryz.prog 23 #[.agg (cellsA a fs)] W fun e w' => e = .returned (.string tx) ∧ Below W.heap.size W w') := Lib.hid fun W => by rw [← etx]; exact refText13 a.flt fs hsub hlen W
      have HRES0 : Hid (∀ e w', e = .returned (if (Fil.validB a.flt && (tx.toList == s.toList)) = true then .tuple #[.agg (cellsA a fs), .int .i64 0] else .tuple #[.agg cellsZ, .int .i64 3]) → Below w.heap.size w w' → ParseRes s.data.toList w e w') := Lib.hid fun e w' he hb =>
        parseRes_of hsub htx (fun h1 h2 => by rw [← HFIN.out]; exact Fil.ref_yes (by rw [HFIN.out]; exact h1) (by rw [HFIN.out]; exact h2)) (fun h => Fil.ref_no (by rw [HFIN.out]; exact h)) he hb
      obtain ⟨v, hv⟩ : ∃ v, v = Fil.validB a.flt := ⟨_, rfl⟩
      obtain ⟨q, hq⟩ : ∃ q, (tx.toList == s.toList) = q := ⟨_, rfl⟩
      have HIS : Hid (∀ W, Calls Tryz.prog 17 #[.agg (cellsA a fs)] W fun e w' => e = .returned (.bool v) ∧ Below W.heap.size W w') := Lib.hid (by rw [hv]; exact HIS0.out)
      have HRES : Hid (∀ e w', e = .returned (if (v && q) = true then .tuple #[.agg (cellsA a fs), .int .i64 0] else .tuple #[.agg cellsZ, .int .i64 3]) → Below w.heap.size w w' → ParseRes s.data.toList w e w') := Lib.hid (by rw [hv, ← hq]; exact HRES0.out)
      have HQ := Lib.hid hq
      clear hke HA HW HIS0 HRES0 HFIN hsub hlen htx etx hv hq HREF HS HLX HL
      go_upto_region 7 with fail
      have hq : (tx.toList == s.toList) = q := HQ.out
      refine wp_region_lit ?_
      refine wpList_loadS (.tmp 4) (by rfl) rfl HK.out Tryz.underlying25 rfl (infoTF _ _) ?_
      simp only [Act.put, List.setIfInBounds_toArray, List.set_cons_zero, List.set_cons_succ]
      go_wp2_with fail
      refine (HIS.out _).mono ?_
      rintro e wi ⟨rfl, hb⟩
      have HKI := Lib.hid (HK.out.below hb HK.out.lt)
      have HRI := Lib.hid (HR.out.below hb HR.out.lt)
      have HBI := Lib.hid (HB.out.trans (hb.mono HB.out.size))
      clear hb HK HR HB
      go_simp
      rename_i hKK
      refine hKK _ _ ?_
      clear hKK
      try simp only [Act.put, List.setIfInBounds_toArray, List.set_cons_zero, List.set_cons_succ]
      cases v with
      | false =>
        refine wpList_runV (some 23) (v := ?_) rfl (by rfl) ?_ ?_
        rotate_left
        · (go_simp; (try with_reducible rfl))
        simp only [Act.put, List.setIfInBounds_toArray, List.set_cons_zero, List.set_cons_succ]
        refine wpList_runV (some 24) (v := ?_) rfl (by rfl) ?_ ?_
        rotate_left
        · (go_simp; (try with_reducible rfl))
        simp only [Act.put, List.setIfInBounds_toArray, List.set_cons_zero, List.set_cons_succ]
        refine wpList_skipV (some 25) rfl (by rfl) ?_
        simp only [Act.put, List.setIfInBounds_toArray, List.set_cons_zero, List.set_cons_succ]
        refine wpList_skipV (some 26) rfl (by rfl) ?_
        simp only [Act.put, List.setIfInBounds_toArray, List.set_cons_zero, List.set_cons_succ]
        refine wpList_skipV (some 27) rfl (by rfl) ?_
        simp only [Act.put, List.setIfInBounds_toArray, List.set_cons_zero, List.set_cons_succ]
        refine wpList_skipV (some 28) rfl (by rfl) ?_
        simp only [Act.put, List.setIfInBounds_toArray, List.set_cons_zero, List.set_cons_succ]
        refine wpList_runV (some 29) (v := ?_) rfl (by rfl) ?_ ?_
        rotate_left
        · (go_simp; (try with_reducible rfl))
        simp only [Act.put, List.setIfInBounds_toArray, List.set_cons_zero, List.set_cons_succ]
        go_upto_region 8 with fail
        refine wp_region_lit ?_
        refine wpList_runV (some 30) (v := .agg cellsZ) rfl (by rfl) (by go_simp; rfl) ?_
        simp only [Act.put, List.setIfInBounds_toArray, List.set_cons_zero, List.set_cons_succ]
        refine wpList_storeS (.tmp 2) (.tmp 30) rfl rfl HRI.out rfl infoTFZ cellsZ_one ?_
        have HRF := Lib.hid (HRI.out.whole cellsZ rfl)
        have HBF := Lib.hid (below_whole cellsZ.toList (o := 0) HBI.out (Nat.le_refl _))
        generalize World.setCells _ _ _ _ = wf at HRF HBF ⊢
        have hL := readZ HRF.out
        go_wp2_with fail
        exact bodyPost_ret (v := .tuple #[.agg cellsZ, .int .i64 3]) (results_cell_tmp Tryz.results27 (by rfl) (by rfl) hL) rfl (HRES.out _ _ rfl HBF.out)
      | true =>
        refine wpList_runV (some 23) (v := ?_) rfl (by rfl) ?_ ?_
        rotate_left
        · (go_simp; (try with_reducible rfl))
        simp only [Act.put, List.setIfInBounds_toArray, List.set_cons_zero, List.set_cons_succ]
        refine wpList_runV (some 24) (v := ?_) rfl (by rfl) ?_ ?_
        rotate_left
        · (go_simp; (try with_reducible rfl))
        simp only [Act.put, List.setIfInBounds_toArray, List.set_cons_zero, List.set_cons_succ]
        refine wpList_loadS (.tmp 4) (by rfl) rfl HKI.out Tryz.underlying25 rfl (infoTF _ _) ?_
        simp only [Act.put, List.setIfInBounds_toArray, List.set_cons_zero, List.set_cons_succ]
        go_wp2_with fail
        refine (HTX.out _).mono ?_
        rintro e wt ⟨rfl, hb⟩
        have HKT := Lib.hid (HKI.out.below hb HKI.out.lt)
        have HRT := Lib.hid (HRI.out.below hb HRI.out.lt)
        have HBT := Lib.hid (HBI.out.trans (hb.mono HBI.out.size))
        clear hb HKI HRI HBI
        go_simp
        rename_i hKK
        refine hKK _ _ ?_
        clear hKK
        try simp only [Act.put, List.setIfInBounds_toArray, List.set_cons_zero, List.set_cons_succ]
        cases q with
        | false =>
          refine wpList_runV (some 27) (v := ?_) rfl (by rfl) ?_ ?_
          rotate_left
          · (go_simp; (try with_reducible rfl))
          simp only [Act.put, List.setIfInBounds_toArray, List.set_cons_zero, List.set_cons_succ]
          refine wpList_runV (some 28) (v := .bool true) rfl (by rfl) ?_ ?_
          · (go_simp; (try with_reducible rfl))
          simp only [Act.put, List.setIfInBounds_toArray, List.set_cons_zero, List.set_cons_succ]
          refine wpList_runV (some 29) (v := ?_) rfl (by rfl) ?_ ?_
          rotate_left
          · (go_simp; (try with_reducible rfl))
          simp only [Act.put, List.setIfInBounds_toArray, List.set_cons_zero, List.set_cons_succ]
          go_upto_region 8 with fail
          refine wp_region_lit ?_
          refine wpList_runV (some 30) (v := .agg cellsZ) rfl (by rfl) (by go_simp; rfl) ?_
          simp only [Act.put, List.setIfInBounds_toArray, List.set_cons_zero, List.set_cons_succ]
          refine wpList_storeS (.tmp 2) (.tmp 30) rfl rfl HRT.out rfl infoTFZ cellsZ_one ?_
          have HRF := Lib.hid (HRT.out.whole cellsZ rfl)
          have HBF := Lib.hid (below_whole cellsZ.toList (o := 0) HBT.out (Nat.le_refl _))
          generalize World.setCells _ _ _ _ = wf at HRF HBF ⊢
          have hL := readZ HRF.out
          go_wp2_with fail
          exact bodyPost_ret (v := .tuple #[.agg cellsZ, .int .i64 3]) (results_cell_tmp Tryz.results27 (by rfl) (by rfl) hL) rfl (HRES.out _ _ rfl HBF.out)
        | true =>
          refine wpList_runV (some 27) (v := ?_) rfl (by rfl) ?_ ?_
          rotate_left
          · (go_simp; (try with_reducible rfl))
          simp only [Act.put, List.setIfInBounds_toArray, List.set_cons_zero, List.set_cons_succ]
          refine wpList_runV (some 28) (v := .bool false) rfl (by rfl) ?_ ?_
          · (go_simp; (try with_reducible rfl))
          simp only [Act.put, List.setIfInBounds_toArray, List.set_cons_zero, List.set_cons_succ]
          refine wpList_runV (some 29) (v := ?_) rfl (by rfl) ?_ ?_
          rotate_left
          · (go_simp; (try with_reducible rfl))
          simp only [Act.put, List.setIfInBounds_toArray, List.set_cons_zero, List.set_cons_succ]
          go_upto_region 9 with fail
          refine wp_region_lit ?_
          refine wpList_loadS (.tmp 4) (by rfl) rfl HKT.out Tryz.underlying25 rfl (infoTF _ _) ?_
          simp only [Act.put, List.setIfInBounds_toArray, List.set_cons_zero, List.set_cons_succ]
          refine wpList_storeS (.tmp 2) (.tmp 31) rfl rfl HRT.out rfl (infoTF _ _) (cellsA_one _ _) ?_
          have HRF := Lib.hid (HRT.out.whole (cellsA a fs) rfl)
          have HBF := Lib.hid (below_whole (cellsA a fs).toList (o := 0) HBT.out (Nat.le_refl _))
          generalize World.setCells _ _ _ _ = wf at HRF HBF ⊢
          have hL := readA HRF.out
          go_wp2_with fail
          exact bodyPost_ret (v := .tuple #[.agg (cellsA a fs), .int .i64 0]) (results_cell_tmp Tryz.results27 (by rfl) (by rfl) hL) rfl (HRES.out _ _ rfl HBF.out)
end Go.Proofs.YtohgdmlpffeoiaaGreatDoor
namespace Go.Proofs.YtohgdmlpffeoiaaGreatDoor
open Go.RowKit
open Wd (Bs)

def NoW (s : ByteArray) (k : Nat) : Prop := ∀ j : Nat, j < k → (j = 1 ∨ j = 3 ∨ j = 5 ∨ j = 6 ∨ j = 7) → Amt.textA ⟨j, 0, 0, Fil.zero⟩ ≠ s.data.toList
theorem NoW.one (s : ByteArray) : NoW s 1 := fun j h1 h2 => by omega
theorem NoW.skip {s : ByteArray} {k : Nat} (h : NoW s k) (hk : k = 2 ∨ k = 4) : NoW s (k + 1) := fun j h1 h2 => h j (by omega) h2
theorem NoW.next {s : ByteArray} {k : Nat} (h : NoW s k) (hq : (Amt.textA ⟨k, 0, 0, Fil.zero⟩ == s.data.toList) = false) : NoW s (k + 1) := fun j h1 h2 => by
  by_cases e : j = k
  · subst e; simpa using hq
  · exact h j (by omega) h2
def NoC (s : ByteArray) (k : Nat) : Prop := ∀ j : Nat, j < k → Amt.textA ⟨4, 0, j, Fil.zero⟩ ≠ s.data.toList
theorem NoC.zero (s : ByteArray) : NoC s 0 := fun j h => by omega
theorem NoC.next {s : ByteArray} {k : Nat} (h : NoC s k) (hq : (Amt.textA ⟨4, 0, k, Fil.zero⟩ == s.data.toList) = false) : NoC s (k + 1) := fun j h1 => by
  by_cases e : j = k
  · subst e; simpa using hq
  · exact h j (by omega)
theorem word_of {s : ByteArray} {k : Nat} (hk : k = 1 ∨ k = 3 ∨ k = 5 ∨ k = 6 ∨ k = 7) (hq : (Amt.textA ⟨k, 0, 0, Fil.zero⟩ == s.data.toList) = true) : Amt.Is_ ⟨k, 0, 0, Fil.zero⟩ s.data.toList := Amt.word_is hk (by simpa using hq)
theorem ctr_of {s : ByteArray} {c : Nat} (hc : c < 3) (hq : (Amt.textA ⟨4, 0, c, Fil.zero⟩ == s.data.toList) = true) : Amt.Is_ ⟨4, 0, c, Fil.zero⟩ s.data.toList := Amt.ctr_is hc (by simpa using hq)
theorem p_of {a : Amt.Amt} {s : Bs} (h : Amt.Is_ a s) : Amt.pV s = a ∧ Amt.pE s = 0 := by
  have := p_text h.1
  rw [h.2] at this
  exact this
theorem p_none {s : Bs} (h : ∀ a, ¬ Amt.Is_ a s) : Amt.pV s = Amt.zero ∧ Amt.pE s = 3 := by
  cases hb : Amt.pB s with
  | false => exact p_no hb
  | true =>
    obtain ⟨h1, h2, _⟩ := p_yes hb
    exact absurd ⟨h1, h2⟩ (h _)
theorem ret_is {k n c : Int} {f : Fil.Flt} {fs : ByteArray} {s : Bs} (h : Amt.Is_ ⟨k, n, c, f⟩ s) (hf : f.sub = fs.data.toList := by rfl) :
    Ending.returned (.tuple #[.agg (cells3 k n c (cellsF f fs)), .int .i64 0]) = .returned (.tuple #[.agg (cellsM (Amt.pV s)), .int .i64 (Amt.pE s)]) := by
  rw [(p_of h).1, (p_of h).2, fs_eq hf]
  rfl
theorem cellsM_Z (k n c : Int) : cellsM ⟨k, n, c, Fil.zero⟩ = cells3 k n c cellsZ := by
  unfold cellsM
  exact congrArg (cells3 k n c) rfl
theorem ret_isZ {k n c : Int} {s : Bs} (h : Amt.Is_ ⟨k, n, c, Fil.zero⟩ s) :
    Ending.returned (.tuple #[.agg (cells3 k n c cellsZ), .int .i64 0]) = .returned (.tuple #[.agg (cellsM (Amt.pV s)), .int .i64 (Amt.pE s)]) := by
  rw [(p_of h).1, (p_of h).2, cellsM_Z]
theorem ret_no {s : Bs} (h : ∀ a, ¬ Amt.Is_ a s) : Ending.returned (.tuple #[.agg (cells3 0 0 0 cellsZ), .int .i64 3]) = .returned (.tuple #[.agg (cellsM (Amt.pV s)), .int .i64 (Amt.pE s)]) := by
  rw [(p_none h).1, (p_none h).2]
  rfl
theorem num_no {l : Bs} {ok : Bool} {n : Int} (h : (ok = false → Num.numberL l = none) ∧ (ok = true → Num.numberL l = some n)) (hb : (ok && decide (0 ≤ n)) = false) : Num.numberL l = none ∨ ∃ n : Int, Num.numberL l = some n ∧ n < 0 := by
  cases ok with
  | false => exact .inl (h.1 rfl)
  | true => exact .inr ⟨n, h.2 rfl, by simpa using hb⟩
theorem refNumTake (s : ByteArray) (i : Nat) (hs : s.size ≤ 1000000) (w : World) :
    Calls Tryz.prog 25 #[.string (s.extract 0 i)] w fun e w' => e = .returned (.tuple #[.int .i64 (Fil.num (s.data.toList.take i)), .bool (Num.numberL (s.data.toList.take i)).isSome]) ∧ Below w.heap.size w w' := by
  have := refNumber (s.extract 0 i) (by rw [ByteArray.size_extract]; omega) w
  rw [extract_take] at this
  exact this
theorem refParse13M (s : ByteArray) (hs : s.size ≤ 1000000) (w : World) :
    Calls Tryz.prog 27 #[.string s] w fun e w' => e = .returned (.tuple #[.agg (cellsF (Fil.parseV s.data.toList) (fsOf (Fil.parseV s.data.toList))), .int .i64 (Fil.parseE s.data.toList)]) ∧ Below w.heap.size w w' := by
  refine (refParse13 s w hs).mono ?_
  rintro e w1 (⟨a, fs, h1, h2, _, _, h5, rfl, hb⟩ | ⟨h1, h2, rfl, hb⟩)
  · refine ⟨?_, hb⟩
    rw [h1, h2, ← fs_eq (f := a.flt) h5]
    rfl
  · refine ⟨?_, hb⟩
    rw [h1, h2]
    rfl
theorem inside_le (s : Bs) : (Amt.insideV Amt.sCount s).length ≤ s.length := by
  unfold Amt.insideV
  split <;> simp
  omega
theorem refInside (s : ByteArray) (hs : s.size ≤ 1000000) (w : World) :
    Calls Tryz.prog 26 #[.string s, .string ⟨#[99, 111, 117, 110, 116, 40]⟩] w fun e w' => e = .returned (.tuple #[.string ⟨(Amt.insideV Amt.sCount s.data.toList).toArray⟩, .bool (Amt.insideB Amt.sCount s.data.toList)]) ∧ Below w.heap.size w w' := by
  have hl : s.data.toList.length = s.size := Array.length_toList
  have no : Amt.insideB Amt.sCount s.data.toList = false → Ending.returned (.tuple #[.string ⟨#[]⟩, .bool false]) = .returned (.tuple #[.string ⟨(Amt.insideV Amt.sCount s.data.toList).toArray⟩, .bool (Amt.insideB Amt.sCount s.data.toList)]) := by
    intro h
    unfold Amt.insideV
    rw [h]
    rfl
  by_cases h1 : (s.size : Int) < 7
  · refine (inShort s w h1).mono ?_
    rintro e w1 ⟨rfl, hb⟩
    refine ⟨no ?_, hb⟩
    unfold Amt.insideB
    rw [hl, show decide (Amt.sCount.length + 1 ≤ s.size) = false from by simp [Amt.sCount]; omega]
    rfl
  have h7 : 7 ≤ s.size := by omega
  have hpre : ((s.extract 0 6).toList == [99, 111, 117, 110, 116, 40]) = Amt.sCount.isPrefixOf s.data.toList := by
    rw [Lib.toList_data, extract_take, Bool.eq_iff_iff, beq_iff_eq, List.isPrefixOf_iff_prefix, List.prefix_iff_eq_take]
    exact eq_comm
  have hin : Amt.insideB Amt.sCount s.data.toList = (Amt.sCount.isPrefixOf s.data.toList && ((s[s.size - 1].toNat : Int) == 41)) := by
    unfold Amt.insideB
    rw [hl, show decide (Amt.sCount.length + 1 ≤ s.size) = true from by simp [Amt.sCount]; omega, Bool.true_and]
    congr 1
    rw [getD_byte s (s.size - 1) (by omega)]
    exact (byte_eq_int _ 41).symm
  cases hp : Amt.sCount.isPrefixOf s.data.toList with
  | false =>
    refine (inPre s w h1 (by omega) (hpre.trans hp)).mono ?_
    rintro e w1 ⟨rfl, hb⟩
    exact ⟨no (by rw [hin, hp]; rfl), hb⟩
  | true =>
    have hx : IntKind.i64.wrap ((s.size : Int) - 1) = ((s.size - 1 : Nat) : Int) := by rw [IntWalk.i64_in _ (by omega)]; omega
    cases hb : ((s[s.size - 1].toNat : Int) == 41) with
    | false =>
      refine (inEnd s w h1 (by omega) (by omega) (hpre.trans hp) hx hb).mono ?_
      rintro e w1 ⟨rfl, hb'⟩
      exact ⟨no (by rw [hin, hp, hb]; rfl), hb'⟩
    | true =>
      refine (inOk s w h1 (by omega) (by omega) (hpre.trans hp) hx hb).mono ?_
      rintro e w1 ⟨rfl, hb'⟩
      refine ⟨?_, hb'⟩
      have hB : Amt.insideB Amt.sCount s.data.toList = true := by rw [hin, hp, hb]; rfl
      unfold Amt.insideV
      rw [hB, if_pos rfl, hl]
      rw [show (.string (s.extract 6 (s.size - 1)) : Value) = str ((s.data.toList.take (s.size - 1)).drop Amt.sCount.length) from str_of (by rw [extract_slice, slice_eq, List.drop_take]; rfl)]
      rfl
theorem star_yes {s : ByteArray} {i : Nat} {n2 : Int} (hi : i < s.size) (hb : ((s[i].toNat : Int) == 42) = true) (hn : Fil.num (s.data.toList.take i) = n2) : Amt.starTo s.data.toList (i + 1) = (n2, (s.extract (i + 1) s.size).data.toList) := by
  unfold Amt.starTo
  rw [getD_byte s i hi, if_pos (by have h := (byte_eq_int s[i] 42).symm.trans hb; simpa using h), hn, extract_drop]
theorem star_no {s : ByteArray} {i : Nat} {x : Int × Bs} (hi : i < s.size) (hb : ((s[i].toNat : Int) == 42) = false) (hn : Amt.starTo s.data.toList i = x) : Amt.starTo s.data.toList (i + 1) = x := by
  rw [show Amt.starTo s.data.toList (i + 1) = if s.data.toList.getD i 0 = 42 then (Fil.num (s.data.toList.take i), s.data.toList.drop (i + 1)) else Amt.starTo s.data.toList i from rfl, getD_byte s i hi, if_neg (by have h := (byte_eq_int s[i] 42).symm.trans hb; simpa using h), hn]
theorem star_end {s : ByteArray} {i : Nat} {x : Int × Bs} (h1 : i ≤ s.size) (h3 : i ≤ 3) (h : ¬ (i < s.size ∧ i < 3)) (hn : Amt.starTo s.data.toList i = x) : Amt.starE s.data.toList = x := by
  have hl : s.data.toList.length = s.size := Array.length_toList
  unfold Amt.starE
  rw [hl, show min s.size 3 = i by omega, hn]
theorem starTo_le (s : Bs) : ∀ i, (Amt.starTo s i).2.length ≤ s.length
  | 0 => Nat.le_refl _
  | i + 1 => by
    unfold Amt.starTo
    split
    · simp
    · exact starTo_le s i
theorem star_size {s r : ByteArray} {n : Int} (h : Amt.starE s.data.toList = (n, r.data.toList)) : r.size ≤ s.size := by
  have h1 := starTo_le s.data.toList (min s.data.toList.length 3)
  have hl : s.data.toList.length = s.size := Array.length_toList
  have hr : r.data.toList.length = r.size := Array.length_toList
  rw [show Amt.starTo s.data.toList (min s.data.toList.length 3) = (n, r.data.toList) from h] at h1
  simp only at h1
  omega
theorem last_eq {s r : Bs} {n : Int} {f : Fil.Flt} (h : Amt.starE s = (n, r)) (hf : Fil.parseV (Amt.insideV Amt.sCount r) = f) : Amt.lastA s = ⟨2, n, 0, f⟩ := by
  unfold Amt.lastA
  rw [h]
  simp only
  rw [hf]
theorem last_yes {s r : Bs} {n : Int} {f : Fil.Flt} (h : Amt.starE s = (n, r)) (hi : Amt.insideB Amt.sCount r = true) (hf : Fil.parseV (Amt.insideV Amt.sCount r) = f) (hq : (Amt.textA ⟨2, n, 0, f⟩ == s) = true) : Amt.Is_ ⟨2, n, 0, f⟩ s := by
  have e := last_eq h hf
  have := Amt.last_is (s := s) (by rw [h]; exact hi) (by rw [e]; simpa using hq)
  rw [e] at this
  exact this
theorem last_ne {s r : Bs} {n : Int} {f : Fil.Flt} (h : Amt.starE s = (n, r)) (hf : Fil.parseV (Amt.insideV Amt.sCount r) = f) (hq : (Amt.textA ⟨2, n, 0, f⟩ == s) = false) : Amt.textA (Amt.lastA s) ≠ s := by
  rw [last_eq h hf]
  simpa using hq
theorem none_last {s : ByteArray} {r : Bs} {n : Int} (h1 : NoW s 8) (h2 : NoC s 3) (h3 : Num.numberL s.data.toList = none ∨ ∃ n : Int, Num.numberL s.data.toList = some n ∧ n < 0) (h : Amt.starE s.data.toList = (n, r))
    (h4 : Amt.insideB Amt.sCount r = false ∨ Fil.parseE (Amt.insideV Amt.sCount r) ≠ 0 ∨ Amt.textA (Amt.lastA s.data.toList) ≠ s.data.toList) : ∀ a, ¬ Amt.Is_ a s.data.toList := by
  refine Amt.none_of (fun k hk => h1 k (by omega) hk) (fun c hc => h2 c hc) (fun n => Amt.const_no h3 n) (fun n f => Amt.last_no ?_ n f)
  rw [h]
  exact h4
end Go.Proofs.YtohgdmlpffeoiaaGreatDoor
namespace Go.Proofs.YtohgdmlpffeoiaaGreatDoor
open Go.RowKit
open Wd (Bs)

set_option maxHeartbeats 16000000 in
set_option maxRecDepth 100000 in
theorem refParse14 (s : ByteArray) (hs : s.size ≤ 1000000) (w : World) :
    Calls Tryz.prog 14 #[.string s] w fun e w' => e = .returned (.tuple #[.agg (cellsM (Amt.pV s.data.toList)), .int .i64 (Amt.pE s.data.toList)]) ∧ Below w.heap.size w w' := by
  obtain ⟨n0, hn0⟩ : ∃ n, Fil.num s.data.toList = n := ⟨_, rfl⟩
  obtain ⟨ok0, hok0⟩ : ∃ b, (Num.numberL s.data.toList).isSome = b := ⟨_, rfl⟩
  have HNUM : Hid (∀ W, Below w.heap.size w W → Calls Tryz.prog 25 #[.string s] W fun e w' => e = .returned (.tuple #[.int .i64 n0, .bool ok0]) ∧ Below W.heap.size W w') := Lib.hid fun W _ => by
    rw [← hn0, ← hok0]; exact refNumber s (by omega) W
  have HOK : Hid ((ok0 = false → Num.numberL s.data.toList = none) ∧ (ok0 = true → Num.numberL s.data.toList = some n0)) := Lib.hid (by
    rw [← hn0, ← hok0]
    unfold Fil.num
    cases Num.numberL s.data.toList <;> simp)
  clear hn0 hok0
  have B0 := Lib.hid (Below.refl w.heap.size w)
  go_enter Tryz.func14, Tryz.ntmps14
  go_upto_region 0 with fail
  refine wp_region_lit ?_
  obtain ⟨w1, hw⟩ : ∃ v, v = w.alloc (.cells (cells3 0 0 0 cellsZ) 27) := ⟨_, rfl⟩
  obtain ⟨pR, hp⟩ : ∃ v, v = w.heap.size := ⟨_, rfl⟩
  have B1 : Hid (Below w.heap.size w w1) := Lib.hid (by rw [hw]; exact B0.out.alloc B0.out.size _)
  have LER : Hid (w.heap.size ≤ pR) := Lib.hid (by rw [hp]; exact B0.out.size)
  have KR1 : Hid (Blk w1 pR (cells3 0 0 0 cellsZ) 27) := Lib.hid (by rw [hw, hp]; exact Blk.new _ _ _)
  with_reducible refine wpList_runWV (some 2) (v := .pointer (some ⟨pR, 0, none⟩)) (w' := w1) ?_ ?_ ?_ ?_
  · rfl
  · rfl
  · rw [hw, hp]; (go_simp; (try rfl))
  simp only [pu, sB, s0, sS]
  clear hw hp
  clear B0
  (with_reducible refine rN (v := ?_) ?_ ?_ ?_); rotate_left; (· rfl); (· go_simp; (try with_reducible rfl)); simp only [pu, sB, s0, sS]
  go_upto_region 1 with fail
  refine wp_region_lit ?_
  (with_reducible refine rN (v := ?_) ?_ ?_ ?_); rotate_left; (· rfl); (· go_simp; (try with_reducible rfl)); simp only [pu, sB, s0, sS]
  go_wp2_with fail
  go_loopw [4] (fun iv wr => ∃ k : Nat, 1 ≤ k ∧ k ≤ 8 ∧ iv = .int .i64 (k : Int) ∧ Hid (NoW s k) ∧ Hid (Blk wr pR (cells3 0 0 0 cellsZ) 27) ∧ Hid (Below w.heap.size w wr)) (fun iv _ => 8 - (intOf iv).toNat)
  case atStart => exact ⟨1, by omega, by omega, rfl, Lib.hid (NoW.one s), KR1, B1⟩
  case round =>
    obtain ⟨k, hk1, hk8, rfl, HN, KR0, B0⟩ := hrel
    by_cases hlt : k ≤ 7
    · have hlt2 : (k : Int) ≤ 7 := by omega
      go_upto_region 2 with fail
      refine wp_region_lit ?_
      (with_reducible refine rN (v := ?_) ?_ ?_ ?_); rotate_left; (· rfl); (· go_simp; (try with_reducible rfl)); simp only [pu, sB, s0, sS]
      (with_reducible refine rN (v := .bool true) ?_ ?_ ?_); (· rfl); (· go_simp; (try with_reducible rfl)); simp only [pu, sB, s0, sS]
      by_cases hw : k = 2 ∨ k = 4
      · rcases hw with hke | hke
        · have e2 : ((k : Int) == 2) = true := by rw [hke]; rfl
          go_upto_region 4 with fail
          refine wp_region_lit ?_
          (with_reducible refine rN (v := ?_) ?_ ?_ ?_); rotate_left; (· rfl); (· go_simp; (try with_reducible rfl)); simp only [pu, sB, s0, sS]
          iterate 2 ((with_reducible refine rN (v := .bool false) ?_ ?_ ?_); (· rfl); (· go_simp; (try with_reducible rfl)); simp only [pu, sB, s0, sS])
          iterate 2 ((with_reducible refine kN ?_ ?_); (· rfl); simp only [pu, sB, s0, sS])
          iterate 2 ((with_reducible refine rN (v := .bool false) ?_ ?_ ?_); (· rfl); (· go_simp; (try with_reducible rfl)); simp only [pu, sB, s0, sS])
          iterate 5 ((with_reducible refine kN ?_ ?_); (· rfl); simp only [pu, sB, s0, sS])
          (with_reducible refine rN (v := .bool false) ?_ ?_ ?_); (· rfl); (· go_simp; (try with_reducible rfl)); simp only [pu, sB, s0, sS]
          go_upto_region 3 with fail
          refine wp_region_lit ?_
          (with_reducible refine rN (v := ?_) ?_ ?_ ?_); rotate_left; (· rfl); (· go_simp; (try with_reducible rfl)); simp only [pu, sB, s0, sS]
          (with_reducible refine rN (v := .int .i64 ((k + 1 : Nat) : Int)) ?_ ?_ ?_); (· rfl); (· go_simp; (try exact IntWalk.i64_in _ (by omega))); simp only [pu, sB, s0, sS]
          (with_reducible refine rN (v := ?_) ?_ ?_ ?_); rotate_left; (· rfl); (· go_simp; (try with_reducible rfl)); simp only [pu, sB, s0, sS]
          go_wp2_with fail
          go_roundw
          case rel => exact ⟨k + 1, by omega, by omega, by rw [hke]; rfl, Lib.hid (HN.out.skip (by omega)), KR0, B0⟩
          case measure => simp [intOf]; omega
        · have e2 : ((k : Int) == 2) = false := by rw [hke]; rfl
          have e4 : ((k : Int) == 4) = true := by rw [hke]; rfl
          go_upto_region 4 with fail
          refine wp_region_lit ?_
          (with_reducible refine rN (v := ?_) ?_ ?_ ?_); rotate_left; (· rfl); (· go_simp; (try with_reducible rfl)); simp only [pu, sB, s0, sS]
          iterate 2 ((with_reducible refine rN (v := .bool true) ?_ ?_ ?_); (· rfl); (· go_simp; (try with_reducible rfl)); simp only [pu, sB, s0, sS])
          (with_reducible refine rN (v := ?_) ?_ ?_ ?_); rotate_left; (· rfl); (· go_simp; (try with_reducible rfl)); simp only [pu, sB, s0, sS]
          iterate 3 ((with_reducible refine rN (v := .bool false) ?_ ?_ ?_); (· rfl); (· go_simp; (try with_reducible rfl)); simp only [pu, sB, s0, sS])
          iterate 5 ((with_reducible refine kN ?_ ?_); (· rfl); simp only [pu, sB, s0, sS])
          (with_reducible refine rN (v := .bool false) ?_ ?_ ?_); (· rfl); (· go_simp; (try with_reducible rfl)); simp only [pu, sB, s0, sS]
          go_upto_region 3 with fail
          refine wp_region_lit ?_
          (with_reducible refine rN (v := ?_) ?_ ?_ ?_); rotate_left; (· rfl); (· go_simp; (try with_reducible rfl)); simp only [pu, sB, s0, sS]
          (with_reducible refine rN (v := .int .i64 ((k + 1 : Nat) : Int)) ?_ ?_ ?_); (· rfl); (· go_simp; (try exact IntWalk.i64_in _ (by omega))); simp only [pu, sB, s0, sS]
          (with_reducible refine rN (v := ?_) ?_ ?_ ?_); rotate_left; (· rfl); (· go_simp; (try with_reducible rfl)); simp only [pu, sB, s0, sS]
          go_wp2_with fail
          go_roundw
          case rel => exact ⟨k + 1, by omega, by omega, by rw [hke]; rfl, Lib.hid (HN.out.skip (by omega)), KR0, B0⟩
          case measure => simp [intOf]; omega
      · have e2 : ¬ (k : Int) = 2 := by omega
        have e4 : ¬ (k : Int) = 4 := by omega
        have HT : Hid (∀ W, Below w.heap.size w W → Calls Tryz.prog 12 #[.agg (cells3 (k : Int) 0 0 cellsZ)] W fun e w' => e = .returned (str (Amt.textA ⟨k, 0, 0, Fil.zero⟩)) ∧ Below W.heap.size W w') := Lib.hid fun W _ => refText14 k 0 0 Fil.zero ⟨#[]⟩ rfl (by decide) W
        obtain ⟨t, ht, et⟩ := exists_bytes (Amt.textA ⟨k, 0, 0, Fil.zero⟩)
        rw [et] at HT
        obtain ⟨q, hq⟩ : ∃ q, (Amt.textA ⟨k, 0, 0, Fil.zero⟩ == s.data.toList) = q := ⟨_, rfl⟩
        have hq2 : (t.toList == s.toList) = q := by rw [Lib.toList_data, Lib.toList_data, ht]; exact hq
        clear ht et
        have HQ := Lib.hid hq
        clear hq
        cases q with
        | false =>
          go_upto_region 4 with fail
          refine wp_region_lit ?_
          (with_reducible refine rN (v := ?_) ?_ ?_ ?_); rotate_left; (· rfl); (· go_simp; (try with_reducible rfl)); simp only [pu, sB, s0, sS]
          iterate 2 ((with_reducible refine rN (v := .bool true) ?_ ?_ ?_); (· rfl); (· go_simp; (try with_reducible rfl)); simp only [pu, sB, s0, sS])
          (with_reducible refine rN (v := ?_) ?_ ?_ ?_); rotate_left; (· rfl); (· go_simp; (try with_reducible rfl)); simp only [pu, sB, s0, sS]
          iterate 3 ((with_reducible refine rN (v := .bool true) ?_ ?_ ?_); (· rfl); (· go_simp; (try with_reducible rfl)); simp only [pu, sB, s0, sS])
          (with_reducible refine rN (v := ?_) ?_ ?_ ?_); rotate_left; (· rfl); (· go_simp; (try with_reducible rfl)); simp only [pu, sB, s0, sS]
          (with_reducible refine rN (v := .agg (cells3 (k : Int) 0 0 cellsZ)) ?_ ?_ ?_); (· rfl); (· go_simp; (try rfl)); simp only [pu, sB, s0, sS]
          go_wp2_with fail
          refine (HT.out _ B0.out).mono ?_
          rintro e w1 ⟨rfl, hb⟩
          have B1 := Lib.hid (B0.out.trans (hb.mono B0.out.size))
          have KR1 := Lib.hid (KR0.out.below hb KR0.out.lt)
          clear hb
          clear B0 KR0
          go_simp
          rename_i hKK
          refine hKK _ _ ?_
          clear hKK
          try simp only [pu, sB, s0, sS]
          (with_reducible refine rN (v := ?_) ?_ ?_ ?_); rotate_left; (· rfl); (· go_simp; (try with_reducible rfl)); simp only [pu, sB, s0, sS]
          iterate 2 ((with_reducible refine rN (v := .bool false) ?_ ?_ ?_); (· rfl); (· go_simp; (try with_reducible rfl)); simp only [pu, sB, s0, sS])
          go_upto_region 3 with fail
          refine wp_region_lit ?_
          (with_reducible refine rN (v := ?_) ?_ ?_ ?_); rotate_left; (· rfl); (· go_simp; (try with_reducible rfl)); simp only [pu, sB, s0, sS]
          (with_reducible refine rN (v := .int .i64 ((k + 1 : Nat) : Int)) ?_ ?_ ?_); (· rfl); (· go_simp; (try exact IntWalk.i64_in _ (by omega))); simp only [pu, sB, s0, sS]
          (with_reducible refine rN (v := ?_) ?_ ?_ ?_); rotate_left; (· rfl); (· go_simp; (try with_reducible rfl)); simp only [pu, sB, s0, sS]
          go_wp2_with fail
          go_roundw
          case rel => exact ⟨k + 1, by omega, by omega, rfl, Lib.hid (HN.out.next HQ.out), KR1, B1⟩
          case measure => simp [intOf]; omega
        | true =>
          go_upto_region 4 with fail
          refine wp_region_lit ?_
          (with_reducible refine rN (v := ?_) ?_ ?_ ?_); rotate_left; (· rfl); (· go_simp; (try with_reducible rfl)); simp only [pu, sB, s0, sS]
          iterate 2 ((with_reducible refine rN (v := .bool true) ?_ ?_ ?_); (· rfl); (· go_simp; (try with_reducible rfl)); simp only [pu, sB, s0, sS])
          (with_reducible refine rN (v := ?_) ?_ ?_ ?_); rotate_left; (· rfl); (· go_simp; (try with_reducible rfl)); simp only [pu, sB, s0, sS]
          iterate 3 ((with_reducible refine rN (v := .bool true) ?_ ?_ ?_); (· rfl); (· go_simp; (try with_reducible rfl)); simp only [pu, sB, s0, sS])
          (with_reducible refine rN (v := ?_) ?_ ?_ ?_); rotate_left; (· rfl); (· go_simp; (try with_reducible rfl)); simp only [pu, sB, s0, sS]
          (with_reducible refine rN (v := .agg (cells3 (k : Int) 0 0 cellsZ)) ?_ ?_ ?_); (· rfl); (· go_simp; (try rfl)); simp only [pu, sB, s0, sS]
          go_wp2_with fail
          refine (HT.out _ B0.out).mono ?_
          rintro e w1 ⟨rfl, hb⟩
          have B1 := Lib.hid (B0.out.trans (hb.mono B0.out.size))
          have KR1 := Lib.hid (KR0.out.below hb KR0.out.lt)
          clear hb
          clear B0 KR0
          go_simp
          rename_i hKK
          refine hKK _ _ ?_
          clear hKK
          try simp only [pu, sB, s0, sS]
          (with_reducible refine rN (v := ?_) ?_ ?_ ?_); rotate_left; (· rfl); (· go_simp; (try with_reducible rfl)); simp only [pu, sB, s0, sS]
          iterate 2 ((with_reducible refine rN (v := .bool true) ?_ ?_ ?_); (· rfl); (· go_simp; (try with_reducible rfl)); simp only [pu, sB, s0, sS])
          go_upto_region 5 with fail
          refine wp_region_lit ?_
          (with_reducible refine rN (v := ?_) ?_ ?_ ?_); rotate_left; (· rfl); (· go_simp; (try with_reducible rfl)); simp only [pu, sB, s0, sS]
          (with_reducible refine rN (v := .agg (cells3 (k : Int) 0 0 cellsZ)) ?_ ?_ ?_); (· rfl); (· go_simp; (try rfl)); simp only [pu, sB, s0, sS]
          have KR2 := Lib.hid (KR1.out.stored (o := 0) (vs := (cells3 (k : Int) 0 0 cellsZ).toList) (laidAt_whole (Eq.trans (cells3_sz cellsZ_size) (Eq.symm (cells3_sz cellsZ_size)))))
          have B2 := Lib.hid (below_whole ((cells3 (k : Int) 0 0 cellsZ).toList) (o := 0) B1.out LER.out)
          with_reducible refine wpList_storeM (.tmp 2) (.tmp 35) (o := 0) (vs := (cells3 (k : Int) 0 0 cellsZ)) ?_ ?_ KR1.out ?_ (infoTM19 (cells3_sz cellsZ_size)) (cells3_one cellsZ_one) ?_
          · rfl
          · rfl
          · exact (by have h0 : (cells3 0 0 0 cellsZ).size = 19 := (cells3_sz cellsZ_size); have h1 : (cells3 (k : Int) 0 0 cellsZ).size = 19 := (cells3_sz cellsZ_size); omega)
          (try simp only [Act.put])
          generalize World.setCells _ _ _ _ = w2 at KR2 B2 ⊢
          clear B1 KR1
          (with_reducible refine rN (v := ?_) ?_ ?_ ?_); rotate_left; (· rfl); (· go_simp; (try with_reducible rfl)); simp only [pu, sB, s0, sS]
          have hL := KR2.out.readS Tryz.underlying27 rfl (infoTM19 (cells3_sz cellsZ_size))
          go_wp2_with fail
          exact bodyPost_ret (v := .tuple #[.agg (cells3 (k : Int) 0 0 cellsZ), .int .i64 0]) (results_cell_tmp Tryz.results14 (by rfl) (by rfl) hL) rfl ⟨ret_isZ (word_of (k := k) (by omega) HQ.out), B2.out⟩
    · have hge : ¬ (k : Int) ≤ 7 := by omega
      have hge2 : ¬ k ≤ 7 := hlt
      have HN1 : Hid (NoW s 8) := Lib.hid (by have h := HN.out; rw [show k = 8 by omega] at h; exact h)
      clear HN
      go_upto_region 2 with fail
      refine wp_region_lit ?_
      (with_reducible refine rN (v := ?_) ?_ ?_ ?_); rotate_left; (· rfl); (· go_simp; (try with_reducible rfl)); simp only [pu, sB, s0, sS]
      (with_reducible refine rN (v := .bool false) ?_ ?_ ?_); (· rfl); (· go_simp; (try with_reducible rfl)); simp only [pu, sB, s0, sS]
      go_upto_region 6 with fail
      refine wp_region_lit ?_
      (with_reducible refine rN (v := ?_) ?_ ?_ ?_); rotate_left; (· rfl); (· go_simp; (try with_reducible rfl)); simp only [pu, sB, s0, sS]
      go_wp2_with fail
      go_loopw [5] (fun iv wr => ∃ c : Nat, c ≤ 3 ∧ iv = .int .i64 (c : Int) ∧ Hid (NoC s c) ∧ Hid (Blk wr pR (cells3 0 0 0 cellsZ) 27) ∧ Hid (Below w.heap.size w wr)) (fun iv _ => 3 - (intOf iv).toNat)
      case atStart => exact ⟨0, by omega, rfl, Lib.hid (NoC.zero s), KR0, B0⟩
      case round =>
        obtain ⟨c, hc3, rfl, HC, KR0, B0⟩ := hrel
        by_cases hlt : c < 3
        · have hlt2 : (c : Int) < 3 := by omega
          go_upto_region 7 with fail
          refine wp_region_lit ?_
          (with_reducible refine rN (v := ?_) ?_ ?_ ?_); rotate_left; (· rfl); (· go_simp; (try with_reducible rfl)); simp only [pu, sB, s0, sS]
          (with_reducible refine rN (v := .bool true) ?_ ?_ ?_); (· rfl); (· go_simp; (try with_reducible rfl)); simp only [pu, sB, s0, sS]
          have HT : Hid (∀ W, Below w.heap.size w W → Calls Tryz.prog 12 #[.agg (cells3 4 0 (c : Int) cellsZ)] W fun e w' => e = .returned (str (Amt.textA ⟨4, 0, c, Fil.zero⟩)) ∧ Below W.heap.size W w') := Lib.hid fun W _ => refText14 4 0 c Fil.zero ⟨#[]⟩ rfl (by decide) W
          obtain ⟨t, ht, et⟩ := exists_bytes (Amt.textA ⟨4, 0, c, Fil.zero⟩)
          rw [et] at HT
          obtain ⟨q, hq⟩ : ∃ q, (Amt.textA ⟨4, 0, c, Fil.zero⟩ == s.data.toList) = q := ⟨_, rfl⟩
          have hq2 : (t.toList == s.toList) = q := by rw [Lib.toList_data, Lib.toList_data, ht]; exact hq
          clear ht et
          have HQ := Lib.hid hq
          clear hq
          cases q with
          | false =>
            go_upto_region 9 with fail
            refine wp_region_lit ?_
            (with_reducible refine rN (v := ?_) ?_ ?_ ?_); rotate_left; (· rfl); (· go_simp; (try with_reducible rfl)); simp only [pu, sB, s0, sS]
            (with_reducible refine rN (v := .agg (cells3 4 0 (c : Int) cellsZ)) ?_ ?_ ?_); (· rfl); (· go_simp; (try rfl)); simp only [pu, sB, s0, sS]
            go_wp2_with fail
            refine (HT.out _ B0.out).mono ?_
            rintro e w1 ⟨rfl, hb⟩
            have B1 := Lib.hid (B0.out.trans (hb.mono B0.out.size))
            have KR1 := Lib.hid (KR0.out.below hb KR0.out.lt)
            clear hb
            clear B0 KR0
            go_simp
            rename_i hKK
            refine hKK _ _ ?_
            clear hKK
            try simp only [pu, sB, s0, sS]
            (with_reducible refine rN (v := ?_) ?_ ?_ ?_); rotate_left; (· rfl); (· go_simp; (try with_reducible rfl)); simp only [pu, sB, s0, sS]
            (with_reducible refine rN (v := .bool false) ?_ ?_ ?_); (· rfl); (· go_simp; (try with_reducible rfl)); simp only [pu, sB, s0, sS]
            go_upto_region 8 with fail
            refine wp_region_lit ?_
            (with_reducible refine rN (v := ?_) ?_ ?_ ?_); rotate_left; (· rfl); (· go_simp; (try with_reducible rfl)); simp only [pu, sB, s0, sS]
            (with_reducible refine rN (v := .int .i64 ((c + 1 : Nat) : Int)) ?_ ?_ ?_); (· rfl); (· go_simp; (try exact IntWalk.i64_in _ (by omega))); simp only [pu, sB, s0, sS]
            (with_reducible refine rN (v := ?_) ?_ ?_ ?_); rotate_left; (· rfl); (· go_simp; (try with_reducible rfl)); simp only [pu, sB, s0, sS]
            go_wp2_with fail
            go_roundw
            case rel => exact ⟨c + 1, by omega, rfl, Lib.hid (HC.out.next HQ.out), KR1, B1⟩
            case measure => simp [intOf]; omega
          | true =>
            go_upto_region 9 with fail
            refine wp_region_lit ?_
            (with_reducible refine rN (v := ?_) ?_ ?_ ?_); rotate_left; (· rfl); (· go_simp; (try with_reducible rfl)); simp only [pu, sB, s0, sS]
            (with_reducible refine rN (v := .agg (cells3 4 0 (c : Int) cellsZ)) ?_ ?_ ?_); (· rfl); (· go_simp; (try rfl)); simp only [pu, sB, s0, sS]
            go_wp2_with fail
            refine (HT.out _ B0.out).mono ?_
            rintro e w1 ⟨rfl, hb⟩
            have B1 := Lib.hid (B0.out.trans (hb.mono B0.out.size))
            have KR1 := Lib.hid (KR0.out.below hb KR0.out.lt)
            clear hb
            clear B0 KR0
            go_simp
            rename_i hKK
            refine hKK _ _ ?_
            clear hKK
            try simp only [pu, sB, s0, sS]
            (with_reducible refine rN (v := ?_) ?_ ?_ ?_); rotate_left; (· rfl); (· go_simp; (try with_reducible rfl)); simp only [pu, sB, s0, sS]
            (with_reducible refine rN (v := .bool true) ?_ ?_ ?_); (· rfl); (· go_simp; (try with_reducible rfl)); simp only [pu, sB, s0, sS]
            go_upto_region 10 with fail
            refine wp_region_lit ?_
            (with_reducible refine rN (v := ?_) ?_ ?_ ?_); rotate_left; (· rfl); (· go_simp; (try with_reducible rfl)); simp only [pu, sB, s0, sS]
            (with_reducible refine rN (v := .agg (cells3 4 0 (c : Int) cellsZ)) ?_ ?_ ?_); (· rfl); (· go_simp; (try rfl)); simp only [pu, sB, s0, sS]
            have KR2 := Lib.hid (KR1.out.stored (o := 0) (vs := (cells3 4 0 (c : Int) cellsZ).toList) (laidAt_whole (Eq.trans (cells3_sz cellsZ_size) (Eq.symm (cells3_sz cellsZ_size)))))
            have B2 := Lib.hid (below_whole ((cells3 4 0 (c : Int) cellsZ).toList) (o := 0) B1.out LER.out)
            with_reducible refine wpList_storeM (.tmp 2) (.tmp 46) (o := 0) (vs := (cells3 4 0 (c : Int) cellsZ)) ?_ ?_ KR1.out ?_ (infoTM19 (cells3_sz cellsZ_size)) (cells3_one cellsZ_one) ?_
            · rfl
            · rfl
            · exact (by have h0 : (cells3 0 0 0 cellsZ).size = 19 := (cells3_sz cellsZ_size); have h1 : (cells3 4 0 (c : Int) cellsZ).size = 19 := (cells3_sz cellsZ_size); omega)
            (try simp only [Act.put])
            generalize World.setCells _ _ _ _ = w2 at KR2 B2 ⊢
            clear B1 KR1
            (with_reducible refine rN (v := ?_) ?_ ?_ ?_); rotate_left; (· rfl); (· go_simp; (try with_reducible rfl)); simp only [pu, sB, s0, sS]
            have hL := KR2.out.readS Tryz.underlying27 rfl (infoTM19 (cells3_sz cellsZ_size))
            go_wp2_with fail
            exact bodyPost_ret (v := .tuple #[.agg (cells3 4 0 (c : Int) cellsZ), .int .i64 0]) (results_cell_tmp Tryz.results14 (by rfl) (by rfl) hL) rfl ⟨ret_isZ (ctr_of (c := c) hlt HQ.out), B2.out⟩
        · have hge : ¬ (c : Int) < 3 := by omega
          have HC1 : Hid (NoC s 3) := Lib.hid (by have h := HC.out; rw [show c = 3 by omega] at h; exact h)
          clear HC
          go_upto_region 7 with fail
          refine wp_region_lit ?_
          (with_reducible refine rN (v := ?_) ?_ ?_ ?_); rotate_left; (· rfl); (· go_simp; (try with_reducible rfl)); simp only [pu, sB, s0, sS]
          (with_reducible refine rN (v := .bool false) ?_ ?_ ?_); (· rfl); (· go_simp; (try with_reducible rfl)); simp only [pu, sB, s0, sS]
          go_upto_region 11 with fail
          refine wp_region_lit ?_
          (with_reducible refine rN (v := ?_) ?_ ?_ ?_); rotate_left; (· rfl); (· go_simp; (try with_reducible rfl)); simp only [pu, sB, s0, sS]
          go_wp2_with fail
          refine (HNUM.out _ B0.out).mono ?_
          rintro e w1 ⟨rfl, hb⟩
          have B1 := Lib.hid (B0.out.trans (hb.mono B0.out.size))
          have KR1 := Lib.hid (KR0.out.below hb KR0.out.lt)
          clear hb
          clear B0 KR0
          go_simp
          rename_i hKK
          refine hKK _ _ ?_
          clear hKK
          try simp only [pu, sB, s0, sS]
          iterate 5 ((with_reducible refine rN (v := ?_) ?_ ?_ ?_); rotate_left; (· rfl); (· go_simp; (try with_reducible rfl)); simp only [pu, sB, s0, sS])
          go_upto_region 12 with fail
          go_cut [56] (fun v wx => v = .bool (ok0 && decide (0 ≤ n0)) ∧ Hid (Blk wx pR (cells3 0 0 0 cellsZ) 27) ∧ Hid (Below w.heap.size w wx))
          case first =>
            cases ok0 with
            | false =>
              refine wp_region_lit ?_
              iterate 2 ((with_reducible refine rN (v := .bool false) ?_ ?_ ?_); (· rfl); (· go_simp; (try with_reducible rfl)); simp only [pu, sB, s0, sS])
              iterate 2 ((with_reducible refine kN ?_ ?_); (· rfl); simp only [pu, sB, s0, sS])
              (with_reducible refine rN (v := .bool false) ?_ ?_ ?_); (· rfl); (· go_simp; (try with_reducible rfl)); simp only [pu, sB, s0, sS]
              go_wp2_with fail
              go_meet
              exact ⟨rfl, KR1, B1⟩
            | true =>
              by_cases hn0 : 0 ≤ n0
              · refine wp_region_lit ?_
                iterate 2 ((with_reducible refine rN (v := .bool true) ?_ ?_ ?_); (· rfl); (· go_simp; (try with_reducible rfl)); simp only [pu, sB, s0, sS])
                (with_reducible refine rN (v := ?_) ?_ ?_ ?_); rotate_left; (· rfl); (· go_simp; (try with_reducible rfl)); simp only [pu, sB, s0, sS]
                iterate 2 ((with_reducible refine rN (v := .bool true) ?_ ?_ ?_); (· rfl); (· go_simp; (try with_reducible rfl)); simp only [pu, sB, s0, sS])
                go_wp2_with fail
                go_meet
                exact ⟨by simp [hn0], KR1, B1⟩
              · refine wp_region_lit ?_
                iterate 2 ((with_reducible refine rN (v := .bool true) ?_ ?_ ?_); (· rfl); (· go_simp; (try with_reducible rfl)); simp only [pu, sB, s0, sS])
                (with_reducible refine rN (v := ?_) ?_ ?_ ?_); rotate_left; (· rfl); (· go_simp; (try with_reducible rfl)); simp only [pu, sB, s0, sS]
                iterate 2 ((with_reducible refine rN (v := .bool false) ?_ ?_ ?_); (· rfl); (· go_simp; (try with_reducible rfl)); simp only [pu, sB, s0, sS])
                go_wp2_with fail
                go_meet
                exact ⟨by simp [hn0], KR1, B1⟩
          case rest =>
          obtain ⟨rfl, KR90, B90⟩ := hcut
          obtain ⟨nb, hnb⟩ : ∃ b, (ok0 && decide (0 ≤ n0)) = b := ⟨_, rfl⟩
          rw [hnb]
          have HNB := Lib.hid hnb
          clear hnb
          cases nb with
          | false =>
            have HNO : Hid (Num.numberL s.data.toList = none ∨ ∃ n : Int, Num.numberL s.data.toList = some n ∧ n < 0) := Lib.hid (num_no HOK.out HNB.out)
            go_upto_region 14 with fail
            refine wp_region_lit ?_
            (with_reducible refine rN (v := .agg (cells3 2 1 0 cellsZ)) ?_ ?_ ?_); (· rfl); (· go_simp; (try rfl)); simp only [pu, sB, s0, sS]
            obtain ⟨w91, hw⟩ : ∃ v, v = wc.alloc (.cells (cells3 0 0 0 cellsZ) 27) := ⟨_, rfl⟩
            obtain ⟨pA, hp⟩ : ∃ v, v = wc.heap.size := ⟨_, rfl⟩
            have B91 : Hid (Below w.heap.size w w91) := Lib.hid (by rw [hw]; exact B90.out.alloc B90.out.size _)
            have LEA : Hid (w.heap.size ≤ pA) := Lib.hid (by rw [hp]; exact B90.out.size)
            have KR91 := Lib.hid (show Blk w91 pR (cells3 0 0 0 cellsZ) 27 by rw [hw]; exact KR90.out.alloc _)
            have NERA : Hid (pR ≠ pA) := Lib.hid (by rw [hp]; exact Nat.ne_of_lt KR90.out.lt)
            have NEAR : Hid (pA ≠ pR) := Lib.hid (Ne.symm NERA.out)
            have KA91 : Hid (Blk w91 pA (cells3 0 0 0 cellsZ) 27) := Lib.hid (by rw [hw, hp]; exact Blk.new _ _ _)
            with_reducible refine wpList_runWV (some 8) (v := .pointer (some ⟨pA, 0, none⟩)) (w' := w91) ?_ ?_ ?_ ?_
            · rfl
            · rfl
            · rw [hw, hp]; (go_simp; (try rfl))
            simp only [pu, sB, s0, sS]
            clear hw hp
            clear B90 KR90
            have KA92 := Lib.hid (KA91.out.stored (o := 0) (vs := (cells3 2 1 0 cellsZ).toList) (laidAt_whole (Eq.trans (cells3_sz cellsZ_size) (Eq.symm (cells3_sz cellsZ_size)))))
            have KR92 := Lib.hid (KR91.out.wholeElse ((cells3 2 1 0 cellsZ).toList) (o := 0) NERA.out)
            have B92 := Lib.hid (below_whole ((cells3 2 1 0 cellsZ).toList) (o := 0) B91.out LEA.out)
            with_reducible refine wpList_storeM (.tmp 8) (.tmp 59) (o := 0) (vs := (cells3 2 1 0 cellsZ)) ?_ ?_ KA91.out ?_ (infoTM19 (cells3_sz cellsZ_size)) (cells3_one cellsZ_one) ?_
            · rfl
            · rfl
            · exact (by have h0 : (cells3 0 0 0 cellsZ).size = 19 := (cells3_sz cellsZ_size); have h1 : (cells3 2 1 0 cellsZ).size = 19 := (cells3_sz cellsZ_size); omega)
            (try simp only [Act.put])
            generalize World.setCells _ _ _ _ = w92 at KR92 KA92 B92 ⊢
            clear B91 KR91 KA91
            go_upto_region 15 with fail
            refine wp_region_lit ?_
            iterate 2 ((with_reducible refine rN (v := ?_) ?_ ?_ ?_); rotate_left; (· rfl); (· go_simp; (try with_reducible rfl)); simp only [pu, sB, s0, sS])
            go_upto_region 16 with fail
            refine wp_region_lit ?_
            (with_reducible refine rN (v := ?_) ?_ ?_ ?_); rotate_left; (· rfl); (· go_simp; (try with_reducible rfl)); simp only [pu, sB, s0, sS]
            go_wp2_with fail
            go_loopw [9, 10, 11, 12] (fun rv iv nv bv wr => ∃ (i : Nat) (n : Int) (r : ByteArray), i ≤ s.size ∧ i ≤ 3 ∧ iv = .int .i64 (i : Int) ∧ rv = .string r ∧ Hid (Amt.starTo s.data.toList i = (n, r.data.toList)) ∧ Hid (Blk wr pR (cells3 0 0 0 cellsZ) 27) ∧ Hid (Blk wr pA (cells3 2 n 0 cellsZ) 27) ∧ Hid (Below w.heap.size w wr)) (fun rv iv nv bv _ => 3 - (intOf iv).toNat)
            case atStart => exact ⟨0, 1, s, by omega, by omega, rfl, rfl, Lib.hid rfl, KR92, KA92, B92⟩
            case round =>
              obtain ⟨i, n1, r, hi1, hi3, rfl, rfl, HS, KR0, KA0, B0⟩ := hrel
              go_upto_region 17 with fail
              go_cut [68] (fun v wx => v = .bool (decide (i < s.size) && decide (i < 3)) ∧ wx = wr)
              case first =>
                by_cases hm : i < s.size
                · have hm1 : (i : Int) < (s.size : Int) := by omega
                  by_cases hm3 : i < 3
                  · have hm2 : (i : Int) < 3 := by omega
                    refine wp_region_lit ?_
                    iterate 3 ((with_reducible refine rN (v := ?_) ?_ ?_ ?_); rotate_left; (· rfl); (· go_simp; (try with_reducible rfl)); simp only [pu, sB, s0, sS])
                    iterate 2 ((with_reducible refine rN (v := .bool true) ?_ ?_ ?_); (· rfl); (· go_simp; (try with_reducible rfl)); simp only [pu, sB, s0, sS])
                    (with_reducible refine rN (v := ?_) ?_ ?_ ?_); rotate_left; (· rfl); (· go_simp; (try with_reducible rfl)); simp only [pu, sB, s0, sS]
                    iterate 2 ((with_reducible refine rN (v := .bool true) ?_ ?_ ?_); (· rfl); (· go_simp; (try with_reducible rfl)); simp only [pu, sB, s0, sS])
                    go_wp2_with fail
                    go_meet
                    exact ⟨by simp [hm, hm3], rfl⟩
                  · have hm2 : ¬ (i : Int) < 3 := by omega
                    refine wp_region_lit ?_
                    iterate 3 ((with_reducible refine rN (v := ?_) ?_ ?_ ?_); rotate_left; (· rfl); (· go_simp; (try with_reducible rfl)); simp only [pu, sB, s0, sS])
                    iterate 2 ((with_reducible refine rN (v := .bool true) ?_ ?_ ?_); (· rfl); (· go_simp; (try with_reducible rfl)); simp only [pu, sB, s0, sS])
                    (with_reducible refine rN (v := ?_) ?_ ?_ ?_); rotate_left; (· rfl); (· go_simp; (try with_reducible rfl)); simp only [pu, sB, s0, sS]
                    iterate 2 ((with_reducible refine rN (v := .bool false) ?_ ?_ ?_); (· rfl); (· go_simp; (try with_reducible rfl)); simp only [pu, sB, s0, sS])
                    go_wp2_with fail
                    go_meet
                    exact ⟨by simp [hm, hm3], rfl⟩
                · have hm1 : ¬ (i : Int) < (s.size : Int) := by omega
                  refine wp_region_lit ?_
                  iterate 3 ((with_reducible refine rN (v := ?_) ?_ ?_ ?_); rotate_left; (· rfl); (· go_simp; (try with_reducible rfl)); simp only [pu, sB, s0, sS])
                  iterate 2 ((with_reducible refine rN (v := .bool false) ?_ ?_ ?_); (· rfl); (· go_simp; (try with_reducible rfl)); simp only [pu, sB, s0, sS])
                  iterate 2 ((with_reducible refine kN ?_ ?_); (· rfl); simp only [pu, sB, s0, sS])
                  (with_reducible refine rN (v := .bool false) ?_ ?_ ?_); (· rfl); (· go_simp; (try with_reducible rfl)); simp only [pu, sB, s0, sS]
                  go_wp2_with fail
                  go_meet
                  exact ⟨by simp [hm], rfl⟩
              case rest =>
              obtain ⟨rfl, rfl⟩ := hcut
              obtain ⟨mb, hmb⟩ : ∃ b, (decide (i < s.size) && decide (i < 3)) = b := ⟨_, rfl⟩
              rw [hmb]
              cases mb with
              | false =>
                have hlt : ¬ (i < s.size ∧ i < 3) := by intro h; simp [h.1, h.2] at hmb
                clear hmb
                have HST : Hid (Amt.starE s.data.toList = (n1, r.data.toList)) := Lib.hid (star_end (i := i) hi1 hi3 hlt HS.out)
                have HRL : Hid (r.size ≤ s.size) := Lib.hid (star_size HST.out)
                clear HS hlt
                have HIN : Hid (∀ W, Below w.heap.size w W → Calls Tryz.prog 26 #[.string r, .string ⟨#[99, 111, 117, 110, 116, 40]⟩] W fun e w' => e = .returned (.tuple #[.string ⟨(Amt.insideV Amt.sCount r.data.toList).toArray⟩, .bool (Amt.insideB Amt.sCount r.data.toList)]) ∧ Below W.heap.size W w') := Lib.hid fun W _ => refInside r (Nat.le_trans HRL.out hs) W
                obtain ⟨ib, hib⟩ : ∃ b, Amt.insideB Amt.sCount r.data.toList = b := ⟨_, rfl⟩
                rw [hib] at HIN
                have HIB := Lib.hid hib
                clear hib
                go_upto_region 23 with fail
                refine wp_region_lit ?_
                (with_reducible refine rN (v := ?_) ?_ ?_ ?_); rotate_left; (· rfl); (· go_simp; (try with_reducible rfl)); simp only [pu, sB, s0, sS]
                go_wp2_with fail
                refine (HIN.out _ B0.out).mono ?_
                rintro e w1 ⟨rfl, hb⟩
                have B1 := Lib.hid (B0.out.trans (hb.mono B0.out.size))
                have KR1 := Lib.hid (KR0.out.below hb KR0.out.lt)
                have KA1 := Lib.hid (KA0.out.below hb KA0.out.lt)
                clear hb
                clear B0 KR0 KA0
                go_simp
                rename_i hKK
                refine hKK _ _ ?_
                clear hKK
                try simp only [pu, sB, s0, sS]
                iterate 5 ((with_reducible refine rN (v := ?_) ?_ ?_ ?_); rotate_left; (· rfl); (· go_simp; (try with_reducible rfl)); simp only [pu, sB, s0, sS])
                cases ib with
                | false =>
                  go_upto_region 24 with fail
                  refine wp_region_lit ?_
                  (with_reducible refine rN (v := .bool false) ?_ ?_ ?_); (· rfl); (· go_simp; (try with_reducible rfl)); simp only [pu, sB, s0, sS]
                  (with_reducible refine rN (v := .bool true) ?_ ?_ ?_); (· rfl); (· go_simp; (try with_reducible rfl)); simp only [pu, sB, s0, sS]
                  go_upto_region 25 with fail
                  refine wp_region_lit ?_
                  (with_reducible refine rN (v := .agg (cells3 0 0 0 cellsZ)) ?_ ?_ ?_); (· rfl); (· go_simp; rfl); simp only [pu, sB, s0, sS]
                  have KR2 := Lib.hid (KR1.out.stored (o := 0) (vs := (cells3 0 0 0 cellsZ).toList) (laidAt_whole (Eq.trans (cells3_sz cellsZ_size) (Eq.symm (cells3_sz cellsZ_size)))))
                  have KA2 := Lib.hid (KA1.out.wholeElse ((cells3 0 0 0 cellsZ).toList) (o := 0) NEAR.out)
                  have B2 := Lib.hid (below_whole ((cells3 0 0 0 cellsZ).toList) (o := 0) B1.out LER.out)
                  with_reducible refine wpList_storeM (.tmp 2) (.tmp 95) (o := 0) (vs := (cells3 0 0 0 cellsZ)) ?_ ?_ KR1.out ?_ (infoTM19 (cells3_sz cellsZ_size)) (cells3_one cellsZ_one) ?_
                  · rfl
                  · rfl
                  · exact (by have h0 : (cells3 0 0 0 cellsZ).size = 19 := (cells3_sz cellsZ_size); have h1 : (cells3 0 0 0 cellsZ).size = 19 := (cells3_sz cellsZ_size); omega)
                  (try simp only [Act.put])
                  generalize World.setCells _ _ _ _ = w2 at KR2 KA2 B2 ⊢
                  clear B1 KR1 KA1
                  (with_reducible refine rN (v := ?_) ?_ ?_ ?_); rotate_left; (· rfl); (· go_simp; (try with_reducible rfl)); simp only [pu, sB, s0, sS]
                  have hL := KR2.out.readS Tryz.underlying27 rfl (infoTM19 (cells3_sz cellsZ_size))
                  go_wp2_with fail
                  exact bodyPost_ret (v := .tuple #[.agg (cells3 0 0 0 cellsZ), .int .i64 3]) (results_cell_tmp Tryz.results14 (by rfl) (by rfl) hL) rfl ⟨ret_no (none_last HN1.out HC1.out HNO.out HST.out (.inl HIB.out)), B2.out⟩
                | true =>
                  go_upto_region 24 with fail
                  refine wp_region_lit ?_
                  (with_reducible refine rN (v := .bool true) ?_ ?_ ?_); (· rfl); (· go_simp; (try with_reducible rfl)); simp only [pu, sB, s0, sS]
                  (with_reducible refine rN (v := .bool false) ?_ ?_ ?_); (· rfl); (· go_simp; (try with_reducible rfl)); simp only [pu, sB, s0, sS]
                  have HP := Lib.hid (fun (W : World) (_ : Below w.heap.size w W) => refParse13M ⟨(Amt.insideV Amt.sCount r.data.toList).toArray⟩ (by rw [size_of]; exact Nat.le_trans (inside_le _) (by have h := HRL.out; have e1 : r.data.toList.length = r.size := Array.length_toList; omega)) W)
                  obtain ⟨x, hx⟩ : ∃ x, Fil.parseE (Amt.insideV Amt.sCount r.data.toList) = x := ⟨_, rfl⟩
                  obtain ⟨f, hf⟩ : ∃ f, Fil.parseV (Amt.insideV Amt.sCount r.data.toList) = f := ⟨_, rfl⟩
                  have hfs := parse_sub (Amt.insideV Amt.sCount r.data.toList)
                  rw [show (ByteArray.mk (Amt.insideV Amt.sCount r.data.toList).toArray).data.toList = Amt.insideV Amt.sCount r.data.toList from rfl, hx, hf] at HP
                  rw [hf] at hfs
                  have HX := Lib.hid hx
                  have HF := Lib.hid hf
                  clear hx hf
                  go_upto_region 26 with fail
                  refine wp_region_lit ?_
                  (with_reducible refine rN (v := ?_) ?_ ?_ ?_); rotate_left; (· rfl); (· go_simp; (try with_reducible rfl)); simp only [pu, sB, s0, sS]
                  go_wp2_with fail
                  refine (HP.out _ B1.out).mono ?_
                  rintro e w2 ⟨rfl, hb⟩
                  have B2 := Lib.hid (B1.out.trans (hb.mono B1.out.size))
                  have KR2 := Lib.hid (KR1.out.below hb KR1.out.lt)
                  have KA2 := Lib.hid (KA1.out.below hb KA1.out.lt)
                  clear hb
                  clear B1 KR1 KA1
                  go_simp
                  rename_i hKK
                  refine hKK _ _ ?_
                  clear hKK
                  try simp only [pu, sB, s0, sS]
                  (with_reducible refine rN (v := ?_) ?_ ?_ ?_); rotate_left; (· rfl); (· go_simp; (try with_reducible rfl)); simp only [pu, sB, s0, sS]
                  (with_reducible refine rN (v := .agg (cellsF f (fsOf f))) ?_ ?_ ?_); (· rfl); (· go_simp; (try with_reducible rfl)); simp only [pu, sB, s0, sS]
                  (with_reducible refine rN (v := ?_) ?_ ?_ ?_); rotate_left; (· rfl); (· go_simp; (try with_reducible rfl)); simp only [pu, sB, s0, sS]
                  obtain ⟨w3, hw⟩ : ∃ v, v = w2.alloc (.cells cellsZ 25) := ⟨_, rfl⟩
                  obtain ⟨pF, hp⟩ : ∃ v, v = w2.heap.size := ⟨_, rfl⟩
                  have B3 : Hid (Below w.heap.size w w3) := Lib.hid (by rw [hw]; exact B2.out.alloc B2.out.size _)
                  have LEF : Hid (w.heap.size ≤ pF) := Lib.hid (by rw [hp]; exact B2.out.size)
                  have KR3 := Lib.hid (show Blk w3 pR (cells3 0 0 0 cellsZ) 27 by rw [hw]; exact KR2.out.alloc _)
                  have NERF : Hid (pR ≠ pF) := Lib.hid (by rw [hp]; exact Nat.ne_of_lt KR2.out.lt)
                  have NEFR : Hid (pF ≠ pR) := Lib.hid (Ne.symm NERF.out)
                  have KA3 := Lib.hid (show Blk w3 pA (cells3 2 n1 0 cellsZ) 27 by rw [hw]; exact KA2.out.alloc _)
                  have NEAF : Hid (pA ≠ pF) := Lib.hid (by rw [hp]; exact Nat.ne_of_lt KA2.out.lt)
                  have NEFA : Hid (pF ≠ pA) := Lib.hid (Ne.symm NEAF.out)
                  have KF3 : Hid (Blk w3 pF cellsZ 25) := Lib.hid (by rw [hw, hp]; exact Blk.new _ _ _)
                  with_reducible refine wpList_runWV (some 15) (v := .pointer (some ⟨pF, 0, none⟩)) (w' := w3) ?_ ?_ ?_ ?_
                  · rfl
                  · rfl
                  · rw [hw, hp]; (go_simp; (try rfl))
                  simp only [pu, sB, s0, sS]
                  clear hw hp
                  clear B2 KR2 KA2
                  have KF4 := Lib.hid (KF3.out.stored (o := 0) (vs := (cellsF f (fsOf f)).toList) (laidAt_whole (Eq.trans (cellsF_size f (fsOf f)) (Eq.symm cellsZ_size))))
                  have KR4 := Lib.hid (KR3.out.wholeElse ((cellsF f (fsOf f)).toList) (o := 0) NERF.out)
                  have KA4 := Lib.hid (KA3.out.wholeElse ((cellsF f (fsOf f)).toList) (o := 0) NEAF.out)
                  have B4 := Lib.hid (below_whole ((cellsF f (fsOf f)).toList) (o := 0) B3.out LEF.out)
                  with_reducible refine wpList_storeM (.tmp 15) (.tmp 99) (o := 0) (vs := (cellsF f (fsOf f))) ?_ ?_ KF3.out ?_ (infoTF16 (cellsF_size f (fsOf f))) (cellsF_one f (fsOf f)) ?_
                  · rfl
                  · rfl
                  · exact (by have h0 : cellsZ.size = 16 := cellsZ_size; have h1 : (cellsF f (fsOf f)).size = 16 := (cellsF_size f (fsOf f)); omega)
                  (try simp only [Act.put])
                  generalize World.setCells _ _ _ _ = w4 at KR4 KA4 KF4 B4 ⊢
                  clear B3 KR3 KA3 KF3
                  (with_reducible refine rN (v := ?_) ?_ ?_ ?_); rotate_left; (· rfl); (· go_simp; (try with_reducible rfl)); simp only [pu, sB, s0, sS]
                  go_upto_region 27 with fail
                  refine wp_region_lit ?_
                  with_reducible refine wpList_loadS (.tmp 15) ?_ ?_ KF4.out Tryz.underlying25 ?_ (infoTF16 (cellsF_size f (fsOf f))) ?_
                  · rfl
                  · rfl
                  · rfl
                  simp only [pu, sB, s0, sS]
                  (with_reducible refine rN (v := .pointer (some ⟨pA, 3, none⟩)) ?_ ?_ ?_); (· rfl); (· go_simp; (try rfl)); simp only [pu, sB, s0, sS]
                  have KA5 := Lib.hid (KA4.out.stored (o := 3) (vs := (cellsF f (fsOf f)).toList) (cells3_laid (by rw [(cellsF_size f (fsOf f)), cellsZ_size])))
                  have KR5 := Lib.hid (KR4.out.wholeElse ((cellsF f (fsOf f)).toList) (o := 3) NERA.out)
                  have KF5 := Lib.hid (KF4.out.wholeElse ((cellsF f (fsOf f)).toList) (o := 3) NEFA.out)
                  have B5 := Lib.hid (below_whole ((cellsF f (fsOf f)).toList) (o := 3) B4.out LEA.out)
                  with_reducible refine wpList_storeM (.tmp 102) (.tmp 101) (o := 3) (vs := (cellsF f (fsOf f))) ?_ ?_ KA4.out ?_ (infoTF16 (cellsF_size f (fsOf f))) (cellsF_one f (fsOf f)) ?_
                  · rfl
                  · rfl
                  · exact (by have h0 : (cells3 2 n1 0 cellsZ).size = 19 := (cells3_sz cellsZ_size); have h1 : (cellsF f (fsOf f)).size = 16 := (cellsF_size f (fsOf f)); omega)
                  (try simp only [Act.put])
                  generalize World.setCells _ _ _ _ = w5 at KR5 KA5 KF5 B5 ⊢
                  clear B4 KR4 KA4 KF4
                  have HT : Hid (∀ W, Below w.heap.size w W → Calls Tryz.prog 12 #[.agg (cells3 2 n1 0 (cellsF f (fsOf f)))] W fun e w' => e = .returned (str (Amt.textA ⟨2, n1, 0, f⟩)) ∧ Below W.heap.size W w') := Lib.hid fun W _ => refText14 2 n1 0 f _ (fsOf_sub f) (by have : (fsOf f).size = f.sub.length := size_of _; unfold maxLen; omega) W
                  obtain ⟨t, ht, et⟩ := exists_bytes (Amt.textA ⟨2, n1, 0, f⟩)
                  rw [et] at HT
                  obtain ⟨q, hq⟩ : ∃ q, (Amt.textA ⟨2, n1, 0, f⟩ == s.data.toList) = q := ⟨_, rfl⟩
                  have hq2 : (t.toList == s.toList) = q := by rw [Lib.toList_data, Lib.toList_data, ht]; exact hq
                  clear ht et
                  have HQ := Lib.hid hq
                  clear hq
                  by_cases hx : x = 0
                  · have hx0 : (x == 0) = true := by simpa using hx
                    cases q with
                    | false =>
                      go_upto_region 28 with fail
                      refine wp_region_lit ?_
                      (with_reducible refine rN (v := ?_) ?_ ?_ ?_); rotate_left; (· rfl); (· go_simp; (try with_reducible rfl)); simp only [pu, sB, s0, sS]
                      iterate 2 ((with_reducible refine rN (v := .bool false) ?_ ?_ ?_); (· rfl); (· go_simp; (try with_reducible rfl)); simp only [pu, sB, s0, sS])
                      with_reducible refine wpList_loadS (.tmp 8) ?_ ?_ KA5.out Tryz.underlying27 ?_ (infoTM19 (cells3_sz (cellsF_size f (fsOf f)))) ?_
                      · rfl
                      · rfl
                      · rfl
                      simp only [pu, sB, s0, sS]
                      go_wp2_with fail
                      refine (HT.out _ B5.out).mono ?_
                      rintro e w6 ⟨rfl, hb⟩
                      have B6 := Lib.hid (B5.out.trans (hb.mono B5.out.size))
                      have KR6 := Lib.hid (KR5.out.below hb KR5.out.lt)
                      have KA6 := Lib.hid (KA5.out.below hb KA5.out.lt)
                      have KF6 := Lib.hid (KF5.out.below hb KF5.out.lt)
                      clear hb
                      clear B5 KR5 KA5 KF5
                      go_simp
                      rename_i hKK
                      refine hKK _ _ ?_
                      clear hKK
                      try simp only [pu, sB, s0, sS]
                      (with_reducible refine rN (v := ?_) ?_ ?_ ?_); rotate_left; (· rfl); (· go_simp; (try with_reducible rfl)); simp only [pu, sB, s0, sS]
                      iterate 2 ((with_reducible refine rN (v := .bool true) ?_ ?_ ?_); (· rfl); (· go_simp; (try with_reducible rfl)); simp only [pu, sB, s0, sS])
                      go_upto_region 29 with fail
                      refine wp_region_lit ?_
                      (with_reducible refine rN (v := .agg (cells3 0 0 0 cellsZ)) ?_ ?_ ?_); (· rfl); (· go_simp; rfl); simp only [pu, sB, s0, sS]
                      have KR7 := Lib.hid (KR6.out.stored (o := 0) (vs := (cells3 0 0 0 cellsZ).toList) (laidAt_whole (Eq.trans (cells3_sz cellsZ_size) (Eq.symm (cells3_sz cellsZ_size)))))
                      have KA7 := Lib.hid (KA6.out.wholeElse ((cells3 0 0 0 cellsZ).toList) (o := 0) NEAR.out)
                      have KF7 := Lib.hid (KF6.out.wholeElse ((cells3 0 0 0 cellsZ).toList) (o := 0) NEFR.out)
                      have B7 := Lib.hid (below_whole ((cells3 0 0 0 cellsZ).toList) (o := 0) B6.out LER.out)
                      with_reducible refine wpList_storeM (.tmp 2) (.tmp 111) (o := 0) (vs := (cells3 0 0 0 cellsZ)) ?_ ?_ KR6.out ?_ (infoTM19 (cells3_sz cellsZ_size)) (cells3_one cellsZ_one) ?_
                      · rfl
                      · rfl
                      · exact (by have h0 : (cells3 0 0 0 cellsZ).size = 19 := (cells3_sz cellsZ_size); have h1 : (cells3 0 0 0 cellsZ).size = 19 := (cells3_sz cellsZ_size); omega)
                      (try simp only [Act.put])
                      generalize World.setCells _ _ _ _ = w7 at KR7 KA7 KF7 B7 ⊢
                      clear B6 KR6 KA6 KF6
                      (with_reducible refine rN (v := ?_) ?_ ?_ ?_); rotate_left; (· rfl); (· go_simp; (try with_reducible rfl)); simp only [pu, sB, s0, sS]
                      have hL := KR7.out.readS Tryz.underlying27 rfl (infoTM19 (cells3_sz cellsZ_size))
                      go_wp2_with fail
                      exact bodyPost_ret (v := .tuple #[.agg (cells3 0 0 0 cellsZ), .int .i64 3]) (results_cell_tmp Tryz.results14 (by rfl) (by rfl) hL) rfl ⟨ret_no (none_last HN1.out HC1.out HNO.out HST.out (.inr (.inr (last_ne HST.out HF.out HQ.out)))), B7.out⟩
                    | true =>
                      go_upto_region 28 with fail
                      refine wp_region_lit ?_
                      (with_reducible refine rN (v := ?_) ?_ ?_ ?_); rotate_left; (· rfl); (· go_simp; (try with_reducible rfl)); simp only [pu, sB, s0, sS]
                      iterate 2 ((with_reducible refine rN (v := .bool false) ?_ ?_ ?_); (· rfl); (· go_simp; (try with_reducible rfl)); simp only [pu, sB, s0, sS])
                      with_reducible refine wpList_loadS (.tmp 8) ?_ ?_ KA5.out Tryz.underlying27 ?_ (infoTM19 (cells3_sz (cellsF_size f (fsOf f)))) ?_
                      · rfl
                      · rfl
                      · rfl
                      simp only [pu, sB, s0, sS]
                      go_wp2_with fail
                      refine (HT.out _ B5.out).mono ?_
                      rintro e w6 ⟨rfl, hb⟩
                      have B6 := Lib.hid (B5.out.trans (hb.mono B5.out.size))
                      have KR6 := Lib.hid (KR5.out.below hb KR5.out.lt)
                      have KA6 := Lib.hid (KA5.out.below hb KA5.out.lt)
                      have KF6 := Lib.hid (KF5.out.below hb KF5.out.lt)
                      clear hb
                      clear B5 KR5 KA5 KF5
                      go_simp
                      rename_i hKK
                      refine hKK _ _ ?_
                      clear hKK
                      try simp only [pu, sB, s0, sS]
                      (with_reducible refine rN (v := ?_) ?_ ?_ ?_); rotate_left; (· rfl); (· go_simp; (try with_reducible rfl)); simp only [pu, sB, s0, sS]
                      iterate 2 ((with_reducible refine rN (v := .bool false) ?_ ?_ ?_); (· rfl); (· go_simp; (try with_reducible rfl)); simp only [pu, sB, s0, sS])
                      go_upto_region 30 with fail
                      refine wp_region_lit ?_
                      with_reducible refine wpList_loadS (.tmp 8) ?_ ?_ KA6.out Tryz.underlying27 ?_ (infoTM19 (cells3_sz (cellsF_size f (fsOf f)))) ?_
                      · rfl
                      · rfl
                      · rfl
                      simp only [pu, sB, s0, sS]
                      have KR7 := Lib.hid (KR6.out.stored (o := 0) (vs := (cells3 2 n1 0 (cellsF f (fsOf f))).toList) (laidAt_whole (Eq.trans (cells3_sz (cellsF_size f (fsOf f))) (Eq.symm (cells3_sz cellsZ_size)))))
                      have KA7 := Lib.hid (KA6.out.wholeElse ((cells3 2 n1 0 (cellsF f (fsOf f))).toList) (o := 0) NEAR.out)
                      have KF7 := Lib.hid (KF6.out.wholeElse ((cells3 2 n1 0 (cellsF f (fsOf f))).toList) (o := 0) NEFR.out)
                      have B7 := Lib.hid (below_whole ((cells3 2 n1 0 (cellsF f (fsOf f))).toList) (o := 0) B6.out LER.out)
                      with_reducible refine wpList_storeM (.tmp 2) (.tmp 112) (o := 0) (vs := (cells3 2 n1 0 (cellsF f (fsOf f)))) ?_ ?_ KR6.out ?_ (infoTM19 (cells3_sz (cellsF_size f (fsOf f)))) (cells3_one (cellsF_one f (fsOf f))) ?_
                      · rfl
                      · rfl
                      · exact (by have h0 : (cells3 0 0 0 cellsZ).size = 19 := (cells3_sz cellsZ_size); have h1 : (cells3 2 n1 0 (cellsF f (fsOf f))).size = 19 := (cells3_sz (cellsF_size f (fsOf f))); omega)
                      (try simp only [Act.put])
                      generalize World.setCells _ _ _ _ = w7 at KR7 KA7 KF7 B7 ⊢
                      clear B6 KR6 KA6 KF6
                      (with_reducible refine rN (v := ?_) ?_ ?_ ?_); rotate_left; (· rfl); (· go_simp; (try with_reducible rfl)); simp only [pu, sB, s0, sS]
                      have hL := KR7.out.readS Tryz.underlying27 rfl (infoTM19 (cells3_sz (cellsF_size f (fsOf f))))
                      go_wp2_with fail
                      exact bodyPost_ret (v := .tuple #[.agg (cells3 2 n1 0 (cellsF f (fsOf f))), .int .i64 0]) (results_cell_tmp Tryz.results14 (by rfl) (by rfl) hL) rfl ⟨ret_is (f := f) (fs := fsOf f) (last_yes HST.out HIB.out HF.out HQ.out) rfl, B7.out⟩
                  · have hx0 : (x == 0) = false := by simpa using hx
                    go_upto_region 28 with fail
                    refine wp_region_lit ?_
                    (with_reducible refine rN (v := ?_) ?_ ?_ ?_); rotate_left; (· rfl); (· go_simp; (try with_reducible rfl)); simp only [pu, sB, s0, sS]
                    iterate 2 ((with_reducible refine rN (v := .bool true) ?_ ?_ ?_); (· rfl); (· go_simp; (try with_reducible rfl)); simp only [pu, sB, s0, sS])
                    iterate 4 ((with_reducible refine kN ?_ ?_); (· rfl); simp only [pu, sB, s0, sS])
                    (with_reducible refine rN (v := .bool true) ?_ ?_ ?_); (· rfl); (· go_simp; (try with_reducible rfl)); simp only [pu, sB, s0, sS]
                    go_upto_region 29 with fail
                    refine wp_region_lit ?_
                    (with_reducible refine rN (v := .agg (cells3 0 0 0 cellsZ)) ?_ ?_ ?_); (· rfl); (· go_simp; rfl); simp only [pu, sB, s0, sS]
                    have KR6 := Lib.hid (KR5.out.stored (o := 0) (vs := (cells3 0 0 0 cellsZ).toList) (laidAt_whole (Eq.trans (cells3_sz cellsZ_size) (Eq.symm (cells3_sz cellsZ_size)))))
                    have KA6 := Lib.hid (KA5.out.wholeElse ((cells3 0 0 0 cellsZ).toList) (o := 0) NEAR.out)
                    have KF6 := Lib.hid (KF5.out.wholeElse ((cells3 0 0 0 cellsZ).toList) (o := 0) NEFR.out)
                    have B6 := Lib.hid (below_whole ((cells3 0 0 0 cellsZ).toList) (o := 0) B5.out LER.out)
                    with_reducible refine wpList_storeM (.tmp 2) (.tmp 111) (o := 0) (vs := (cells3 0 0 0 cellsZ)) ?_ ?_ KR5.out ?_ (infoTM19 (cells3_sz cellsZ_size)) (cells3_one cellsZ_one) ?_
                    · rfl
                    · rfl
                    · exact (by have h0 : (cells3 0 0 0 cellsZ).size = 19 := (cells3_sz cellsZ_size); have h1 : (cells3 0 0 0 cellsZ).size = 19 := (cells3_sz cellsZ_size); omega)
                    (try simp only [Act.put])
                    generalize World.setCells _ _ _ _ = w6 at KR6 KA6 KF6 B6 ⊢
                    clear B5 KR5 KA5 KF5
                    (with_reducible refine rN (v := ?_) ?_ ?_ ?_); rotate_left; (· rfl); (· go_simp; (try with_reducible rfl)); simp only [pu, sB, s0, sS]
                    have hL := KR6.out.readS Tryz.underlying27 rfl (infoTM19 (cells3_sz cellsZ_size))
                    go_wp2_with fail
                    exact bodyPost_ret (v := .tuple #[.agg (cells3 0 0 0 cellsZ), .int .i64 3]) (results_cell_tmp Tryz.results14 (by rfl) (by rfl) hL) rfl ⟨ret_no (none_last HN1.out HC1.out HNO.out HST.out (.inr (.inl (by rw [HX.out]; exact hx)))), B6.out⟩
              | true =>
                have hl1 : i < s.size := by simp only [Bool.and_eq_true, decide_eq_true_eq] at hmb; exact hmb.1
                have hl2 : i < 3 := by simp only [Bool.and_eq_true, decide_eq_true_eq] at hmb; exact hmb.2
                clear hmb
                have hm1 : (i : Int) < (s.size : Int) := by omega
                have hm2 : (i : Int) < 3 := by omega
                obtain ⟨b, hb⟩ : ∃ b, ((s[i].toNat : Int) == 42) = b := ⟨_, rfl⟩
                have HB := Lib.hid hb
                cases b with
                | false =>
                  go_upto_region 19 with fail
                  refine wp_region_lit ?_
                  iterate 3 ((with_reducible refine rN (v := ?_) ?_ ?_ ?_); rotate_left; (· rfl); (· go_simp; (try with_reducible rfl)); simp only [pu, sB, s0, sS])
                  (with_reducible refine rN (v := .bool false) ?_ ?_ ?_); (· rfl); (· go_simp; (try with_reducible rfl)); simp only [pu, sB, s0, sS]
                  go_upto_region 18 with fail
                  refine wp_region_lit ?_
                  (with_reducible refine rN (v := ?_) ?_ ?_ ?_); rotate_left; (· rfl); (· go_simp; (try with_reducible rfl)); simp only [pu, sB, s0, sS]
                  (with_reducible refine rN (v := .int .i64 ((i + 1 : Nat) : Int)) ?_ ?_ ?_); (· rfl); (· go_simp; (try exact IntWalk.i64_in _ (by omega))); simp only [pu, sB, s0, sS]
                  (with_reducible refine rN (v := ?_) ?_ ?_ ?_); rotate_left; (· rfl); (· go_simp; (try with_reducible rfl)); simp only [pu, sB, s0, sS]
                  go_wp2_with fail
                  go_roundw
                  case rel => exact ⟨i + 1, n1, r, by omega, by omega, rfl, rfl, Lib.hid (star_no hl1 HB.out HS.out), KR0, KA0, B0⟩
                  case measure => simp [intOf]; omega
                | true =>
                  go_upto_region 19 with fail
                  refine wp_region_lit ?_
                  iterate 3 ((with_reducible refine rN (v := ?_) ?_ ?_ ?_); rotate_left; (· rfl); (· go_simp; (try with_reducible rfl)); simp only [pu, sB, s0, sS])
                  (with_reducible refine rN (v := .bool true) ?_ ?_ ?_); (· rfl); (· go_simp; (try with_reducible rfl)); simp only [pu, sB, s0, sS]
                  have hle : (i : Int) ≤ (s.size : Int) := by omega
                  have HX : Hid (∀ W, Below w.heap.size w W → Calls Tryz.prog 25 #[.string (s.extract 0 i)] W fun e w' => e = .returned (.tuple #[.int .i64 (Fil.num (s.data.toList.take i)), .bool (Num.numberL (s.data.toList.take i)).isSome]) ∧ Below W.heap.size W w') := Lib.hid fun W _ => refNumTake s i hs W
                  obtain ⟨n2, hn2⟩ : ∃ n, Fil.num (s.data.toList.take i) = n := ⟨_, rfl⟩
                  rw [hn2] at HX
                  have HN2 := Lib.hid hn2
                  clear hn2
                  go_upto_region 20 with fail
                  refine wp_region_lit ?_
                  iterate 3 ((with_reducible refine rN (v := ?_) ?_ ?_ ?_); rotate_left; (· rfl); (· go_simp; (try with_reducible rfl)); simp only [pu, sB, s0, sS])
                  go_wp2_with fail
                  refine (HX.out _ B0.out).mono ?_
                  rintro e w1 ⟨rfl, hb⟩
                  have B1 := Lib.hid (B0.out.trans (hb.mono B0.out.size))
                  have KR1 := Lib.hid (KR0.out.below hb KR0.out.lt)
                  have KA1 := Lib.hid (KA0.out.below hb KA0.out.lt)
                  clear hb
                  clear B0 KR0 KA0
                  go_simp
                  rename_i hKK
                  refine hKK _ _ ?_
                  clear hKK
                  try simp only [pu, sB, s0, sS]
                  iterate 5 ((with_reducible refine rN (v := ?_) ?_ ?_ ?_); rotate_left; (· rfl); (· go_simp; (try with_reducible rfl)); simp only [pu, sB, s0, sS])
                  go_upto_region 21 with fail
                  refine wp_region_lit ?_
                  (with_reducible refine rN (v := .int .i64 n2) ?_ ?_ ?_); (· rfl); (· go_simp; (try with_reducible rfl)); simp only [pu, sB, s0, sS]
                  (with_reducible refine rN (v := .pointer (some ⟨pA, 1, none⟩)) ?_ ?_ ?_); (· rfl); (· go_simp; (try rfl)); simp only [pu, sB, s0, sS]
                  have KA2 := Lib.hid (KA1.out.stored (o := 1) (vs := [.int .i64 n2]) (cells3_put1 _ _ _ _ _))
                  have KR2 := Lib.hid (KR1.out.wholeElse ([.int .i64 n2]) (o := 1) NERA.out)
                  have B2 := Lib.hid (below_whole ([.int .i64 n2]) (o := 1) B1.out LEA.out)
                  with_reducible refine wpList_storeV (.tmp 83) (.tmp 82) (j := 1) (v := .int .i64 n2) ?_ ?_ KA1.out ?_ (by kernel_rfl) (by simp [Value.oneCell']) ?_
                  · rfl
                  · rfl
                  · exact (by have h0 : (cells3 2 n1 0 cellsZ).size = 19 := (cells3_sz cellsZ_size); omega)
                  (try simp only [Act.put])
                  generalize World.setCells _ _ _ _ = w2 at KR2 KA2 B2 ⊢
                  clear B1 KR1 KA1
                  have hle2 : (i : Int) + 1 ≤ (s.size : Int) := by omega
                  have hge0 : (0 : Int) ≤ (i : Int) + 1 := by omega
                  have hwr : IntKind.i64.wrap ((i : Int) + 1) = ((i + 1 : Nat) : Int) := by rw [IntWalk.i64_in _ (by omega)]; rfl
                  go_upto_region 22 with fail
                  refine wp_region_lit ?_
                  iterate 2 ((with_reducible refine rN (v := ?_) ?_ ?_ ?_); rotate_left; (· rfl); (· go_simp; (try with_reducible rfl)); simp only [pu, sB, s0, sS])
                  (with_reducible refine rN (v := .int .i64 ((i + 1 : Nat) : Int)) ?_ ?_ ?_); (· rfl); (· go_simp; (try exact IntWalk.i64_in _ (by omega))); simp only [pu, sB, s0, sS]
                  iterate 2 ((with_reducible refine rN (v := ?_) ?_ ?_ ?_); rotate_left; (· rfl); (· go_simp; (try with_reducible rfl)); simp only [pu, sB, s0, sS])
                  go_upto_region 18 with fail
                  refine wp_region_lit ?_
                  (with_reducible refine rN (v := ?_) ?_ ?_ ?_); rotate_left; (· rfl); (· go_simp; (try with_reducible rfl)); simp only [pu, sB, s0, sS]
                  (with_reducible refine rN (v := .int .i64 ((i + 1 : Nat) : Int)) ?_ ?_ ?_); (· rfl); (· go_simp; (try exact IntWalk.i64_in _ (by omega))); simp only [pu, sB, s0, sS]
                  (with_reducible refine rN (v := ?_) ?_ ?_ ?_); rotate_left; (· rfl); (· go_simp; (try with_reducible rfl)); simp only [pu, sB, s0, sS]
                  go_wp2_with fail
                  go_roundw
                  case rel => exact ⟨i + 1, n2, s.extract (i + 1) s.size, by omega, by omega, rfl, by first | rfl | (congr 1), Lib.hid (star_yes hl1 HB.out HN2.out), KR2, KA2, B2⟩
                  case measure => simp [intOf]; omega
          | true =>
            have HSOME : Hid (Num.numberL s.data.toList = some n0 ∧ 0 ≤ n0) := Lib.hid (by have h := HNB.out; simp only [Bool.and_eq_true, decide_eq_true_eq] at h; exact ⟨HOK.out.2 h.1, h.2⟩)
            go_upto_region 13 with fail
            refine wp_region_lit ?_
            (with_reducible refine rN (v := ?_) ?_ ?_ ?_); rotate_left; (· rfl); (· go_simp; (try with_reducible rfl)); simp only [pu, sB, s0, sS]
            (with_reducible refine rN (v := .agg (cells3 0 n0 0 cellsZ)) ?_ ?_ ?_); (· rfl); (· go_simp; (try rfl)); simp only [pu, sB, s0, sS]
            have KR91 := Lib.hid (KR90.out.stored (o := 0) (vs := (cells3 0 n0 0 cellsZ).toList) (laidAt_whole (Eq.trans (cells3_sz cellsZ_size) (Eq.symm (cells3_sz cellsZ_size)))))
            have B91 := Lib.hid (below_whole ((cells3 0 n0 0 cellsZ).toList) (o := 0) B90.out LER.out)
            with_reducible refine wpList_storeM (.tmp 2) (.tmp 58) (o := 0) (vs := (cells3 0 n0 0 cellsZ)) ?_ ?_ KR90.out ?_ (infoTM19 (cells3_sz cellsZ_size)) (cells3_one cellsZ_one) ?_
            · rfl
            · rfl
            · exact (by have h0 : (cells3 0 0 0 cellsZ).size = 19 := (cells3_sz cellsZ_size); have h1 : (cells3 0 n0 0 cellsZ).size = 19 := (cells3_sz cellsZ_size); omega)
            (try simp only [Act.put])
            generalize World.setCells _ _ _ _ = w91 at KR91 B91 ⊢
            clear B90 KR90
            (with_reducible refine rN (v := ?_) ?_ ?_ ?_); rotate_left; (· rfl); (· go_simp; (try with_reducible rfl)); simp only [pu, sB, s0, sS]
            have hL := KR91.out.readS Tryz.underlying27 rfl (infoTM19 (cells3_sz cellsZ_size))
            go_wp2_with fail
            exact bodyPost_ret (v := .tuple #[.agg (cells3 0 n0 0 cellsZ), .int .i64 0]) (results_cell_tmp Tryz.results14 (by rfl) (by rfl) hL) rfl ⟨ret_isZ (Amt.const_is HSOME.out.1 HSOME.out.2), B91.out⟩
end Go.Proofs.YtohgdmlpffeoiaaGreatDoor
namespace Go.Proofs.YtohgdmlpffeoiaaGreatDoor
open Go.RowKit
open Wd (Bs)

set_option maxHeartbeats 8000000 in
set_option maxRecDepth 100000 in
theorem parsesLong (s : ByteArray) (w : World)
    (HL : Hid (∀ W, Below w.heap.size w W → Calls Tryz.prog 8 #[] W fun e w' => e = .returned (.bool true) ∧ Below W.heap.size W w')) (hl : (1000 : Int) < (s.size : Int)) :
    Calls Tryz.prog 4 #[.string s] w fun e w' => e = .returned (.bool true) ∧ Below w.heap.size w w' := by

  have B0 := Lib.hid (Below.refl w.heap.size w)
  go_enter Tryz.func4, Tryz.ntmps4
  go_upto_region 0 with fail
  refine wp_region_lit ?_
  (with_reducible refine rN (v := .bool false) ?_ ?_ ?_); (· rfl); (· go_simp; (try with_reducible rfl)); simp only [pu, sB, s0, sS]
  go_upto_region 1 with fail
  refine wp_region_lit ?_
  iterate 2 ((with_reducible refine rN (v := ?_) ?_ ?_ ?_); rotate_left; (· rfl); (· go_simp; (try with_reducible rfl)); simp only [pu, sB, s0, sS])
  (with_reducible refine rN (v := .bool true) ?_ ?_ ?_); (· rfl); (· go_simp; (try with_reducible rfl)); simp only [pu, sB, s0, sS]
  go_upto_region 2 with fail
  refine wp_region_lit ?_
  go_wp2_with fail
  refine (HL.out _ B0.out).mono ?_
  rintro e w1 ⟨rfl, hb⟩
  have B1 := Lib.hid (B0.out.trans (hb.mono B0.out.size))
  clear hb
  clear B0
  go_simp
  rename_i hKK
  refine hKK _ _ ?_
  clear hKK
  try simp only [pu, sB, s0, sS]
  (with_reducible refine rN (v := .bool true) ?_ ?_ ?_); (· rfl); (· go_simp; (try with_reducible rfl)); simp only [pu, sB, s0, sS]
  go_wp2_with fail
  go_ret
  exact ⟨rfl, B1.out⟩

set_option maxHeartbeats 8000000 in
set_option maxRecDepth 100000 in
theorem parsesShort (s : ByteArray) (k n c : Int) (f : Fil.Flt) (fs : ByteArray) (x : Int) (w : World)
    (HL : Hid (∀ W, Below w.heap.size w W → Calls Tryz.prog 8 #[] W fun e w' => e = .returned (.bool true) ∧ Below W.heap.size W w')) (hl : ¬ (1000 : Int) < (s.size : Int)) (H1 : Hid (∀ W, Below w.heap.size w W → Calls Tryz.prog 13 #[.string s] W fun e w' => e = .returned (.tuple #[.agg (cells3 k n c (cellsF f fs)), .int .i64 x]) ∧ Below W.heap.size W w')) (H2 : Hid (∀ W, Below w.heap.size w W → Calls Tryz.prog 14 #[.string s] W fun e w' => e = .returned (.tuple #[.agg (cells3 k n c (cellsF f fs)), .int .i64 x]) ∧ Below W.heap.size W w')) (hq : ∀ W : World, (Op.equalIn 10000 27 (.agg (cells3 k n c (cellsF f fs))) (.agg (cells3 k n c (cellsF f fs)))).run Tryz.prog W = .ok true W) :
    Calls Tryz.prog 4 #[.string s] w fun e w' => e = .returned (.bool true) ∧ Below w.heap.size w w' := by

  have B0 := Lib.hid (Below.refl w.heap.size w)
  go_enter Tryz.func4, Tryz.ntmps4
  go_upto_region 0 with fail
  refine wp_region_lit ?_
  (with_reducible refine rN (v := .bool false) ?_ ?_ ?_); (· rfl); (· go_simp; (try with_reducible rfl)); simp only [pu, sB, s0, sS]
  go_upto_region 1 with fail
  refine wp_region_lit ?_
  iterate 2 ((with_reducible refine rN (v := ?_) ?_ ?_ ?_); rotate_left; (· rfl); (· go_simp; (try with_reducible rfl)); simp only [pu, sB, s0, sS])
  (with_reducible refine rN (v := .bool false) ?_ ?_ ?_); (· rfl); (· go_simp; (try with_reducible rfl)); simp only [pu, sB, s0, sS]
  have ex : (x == x) = true := by simp
  go_upto_region 3 with fail
  refine wp_region_lit ?_
  (with_reducible refine rN (v := ?_) ?_ ?_ ?_); rotate_left; (· rfl); (· go_simp; (try with_reducible rfl)); simp only [pu, sB, s0, sS]
  go_wp2_with fail
  refine (H1.out _ B0.out).mono ?_
  rintro e w1 ⟨rfl, hb⟩
  have B1 := Lib.hid (B0.out.trans (hb.mono B0.out.size))
  clear hb
  clear B0
  go_simp
  rename_i hKK
  refine hKK _ _ ?_
  clear hKK
  try simp only [pu, sB, s0, sS]
  (with_reducible refine rN (v := ?_) ?_ ?_ ?_); rotate_left; (· rfl); (· go_simp; (try with_reducible rfl)); simp only [pu, sB, s0, sS]
  (with_reducible refine rN (v := .agg (cells3 k n c (cellsF f fs))) ?_ ?_ ?_); (· rfl); (· go_simp; (try with_reducible rfl)); simp only [pu, sB, s0, sS]
  (with_reducible refine rN (v := ?_) ?_ ?_ ?_); rotate_left; (· rfl); (· go_simp; (try with_reducible rfl)); simp only [pu, sB, s0, sS]
  obtain ⟨w2, hw⟩ : ∃ v, v = w1.alloc (.cells (cells3 0 0 0 cellsZ) 27) := ⟨_, rfl⟩
  obtain ⟨pA, hp⟩ : ∃ v, v = w1.heap.size := ⟨_, rfl⟩
  have B2 : Hid (Below w.heap.size w w2) := Lib.hid (by rw [hw]; exact B1.out.alloc B1.out.size _)
  have LEA : Hid (w.heap.size ≤ pA) := Lib.hid (by rw [hp]; exact B1.out.size)
  have KA2 : Hid (Blk w2 pA (cells3 0 0 0 cellsZ) 27) := Lib.hid (by rw [hw, hp]; exact Blk.new _ _ _)
  with_reducible refine wpList_runWV (some 3) (v := .pointer (some ⟨pA, 0, none⟩)) (w' := w2) ?_ ?_ ?_ ?_
  · rfl
  · rfl
  · rw [hw, hp]; (go_simp; (try rfl))
  simp only [pu, sB, s0, sS]
  clear hw hp
  clear B1
  have KA3 := Lib.hid (KA2.out.stored (o := 0) (vs := (cells3 k n c (cellsF f fs)).toList) (laidAt_whole (Eq.trans (cells3_sz (cellsF_size f fs)) (Eq.symm (cells3_sz cellsZ_size)))))
  have B3 := Lib.hid (below_whole ((cells3 k n c (cellsF f fs)).toList) (o := 0) B2.out LEA.out)
  with_reducible refine wpList_storeM (.tmp 3) (.tmp 14) (o := 0) (vs := (cells3 k n c (cellsF f fs))) ?_ ?_ KA2.out ?_ (infoTM19 (cells3_sz (cellsF_size f fs))) (cells3_one (cellsF_one f fs)) ?_
  · rfl
  · rfl
  · exact (by have h0 : (cells3 0 0 0 cellsZ).size = 19 := (cells3_sz cellsZ_size); have h1 : (cells3 k n c (cellsF f fs)).size = 19 := (cells3_sz (cellsF_size f fs)); omega)
  (try simp only [Act.put])
  generalize World.setCells _ _ _ _ = w3 at KA3 B3 ⊢
  clear B2 KA2
  (with_reducible refine rN (v := ?_) ?_ ?_ ?_); rotate_left; (· rfl); (· go_simp; (try with_reducible rfl)); simp only [pu, sB, s0, sS]
  go_upto_region 4 with fail
  refine wp_region_lit ?_
  (with_reducible refine rN (v := ?_) ?_ ?_ ?_); rotate_left; (· rfl); (· go_simp; (try with_reducible rfl)); simp only [pu, sB, s0, sS]
  go_wp2_with fail
  refine (H2.out _ B3.out).mono ?_
  rintro e w4 ⟨rfl, hb⟩
  have B4 := Lib.hid (B3.out.trans (hb.mono B3.out.size))
  have KA4 := Lib.hid (KA3.out.below hb KA3.out.lt)
  clear hb
  clear B3 KA3
  go_simp
  rename_i hKK
  refine hKK _ _ ?_
  clear hKK
  try simp only [pu, sB, s0, sS]
  (with_reducible refine rN (v := ?_) ?_ ?_ ?_); rotate_left; (· rfl); (· go_simp; (try with_reducible rfl)); simp only [pu, sB, s0, sS]
  (with_reducible refine rN (v := .agg (cells3 k n c (cellsF f fs))) ?_ ?_ ?_); (· rfl); (· go_simp; (try with_reducible rfl)); simp only [pu, sB, s0, sS]
  (with_reducible refine rN (v := ?_) ?_ ?_ ?_); rotate_left; (· rfl); (· go_simp; (try with_reducible rfl)); simp only [pu, sB, s0, sS]
  obtain ⟨w5, hw⟩ : ∃ v, v = w4.alloc (.cells (cells3 0 0 0 cellsZ) 27) := ⟨_, rfl⟩
  obtain ⟨pB, hp⟩ : ∃ v, v = w4.heap.size := ⟨_, rfl⟩
  have B5 : Hid (Below w.heap.size w w5) := Lib.hid (by rw [hw]; exact B4.out.alloc B4.out.size _)
  have LEB : Hid (w.heap.size ≤ pB) := Lib.hid (by rw [hp]; exact B4.out.size)
  have KA5 := Lib.hid (show Blk w5 pA (cells3 k n c (cellsF f fs)) 27 by rw [hw]; exact KA4.out.alloc _)
  have NEAB : Hid (pA ≠ pB) := Lib.hid (by rw [hp]; exact Nat.ne_of_lt KA4.out.lt)
  have NEBA : Hid (pB ≠ pA) := Lib.hid (Ne.symm NEAB.out)
  have KB5 : Hid (Blk w5 pB (cells3 0 0 0 cellsZ) 27) := Lib.hid (by rw [hw, hp]; exact Blk.new _ _ _)
  with_reducible refine wpList_runWV (some 5) (v := .pointer (some ⟨pB, 0, none⟩)) (w' := w5) ?_ ?_ ?_ ?_
  · rfl
  · rfl
  · rw [hw, hp]; (go_simp; (try rfl))
  simp only [pu, sB, s0, sS]
  clear hw hp
  clear B4 KA4
  have KB6 := Lib.hid (KB5.out.stored (o := 0) (vs := (cells3 k n c (cellsF f fs)).toList) (laidAt_whole (Eq.trans (cells3_sz (cellsF_size f fs)) (Eq.symm (cells3_sz cellsZ_size)))))
  have KA6 := Lib.hid (KA5.out.wholeElse ((cells3 k n c (cellsF f fs)).toList) (o := 0) NEAB.out)
  have B6 := Lib.hid (below_whole ((cells3 k n c (cellsF f fs)).toList) (o := 0) B5.out LEB.out)
  with_reducible refine wpList_storeM (.tmp 5) (.tmp 19) (o := 0) (vs := (cells3 k n c (cellsF f fs))) ?_ ?_ KB5.out ?_ (infoTM19 (cells3_sz (cellsF_size f fs))) (cells3_one (cellsF_one f fs)) ?_
  · rfl
  · rfl
  · exact (by have h0 : (cells3 0 0 0 cellsZ).size = 19 := (cells3_sz cellsZ_size); have h1 : (cells3 k n c (cellsF f fs)).size = 19 := (cells3_sz (cellsF_size f fs)); omega)
  (try simp only [Act.put])
  generalize World.setCells _ _ _ _ = w6 at KA6 KB6 B6 ⊢
  clear B5 KA5 KB5
  (with_reducible refine rN (v := ?_) ?_ ?_ ?_); rotate_left; (· rfl); (· go_simp; (try with_reducible rfl)); simp only [pu, sB, s0, sS]
  go_upto_region 5 with fail
  refine wp_region_lit ?_
  with_reducible refine wpList_loadS (.tmp 3) ?_ ?_ KA6.out Tryz.underlying27 ?_ (infoTM19 (cells3_sz (cellsF_size f fs))) ?_
  · rfl
  · rfl
  · rfl
  simp only [pu, sB, s0, sS]
  with_reducible refine wpList_loadS (.tmp 5) ?_ ?_ KB6.out Tryz.underlying27 ?_ (infoTM19 (cells3_sz (cellsF_size f fs))) ?_
  · rfl
  · rfl
  · rfl
  simp only [pu, sB, s0, sS]
  iterate 2 ((with_reducible refine rN (v := .bool true) ?_ ?_ ?_); (· rfl); (· go_simp; (try with_reducible rfl)); simp only [pu, sB, s0, sS])
  iterate 2 ((with_reducible refine rN (v := ?_) ?_ ?_ ?_); rotate_left; (· rfl); (· go_simp; (try with_reducible rfl)); simp only [pu, sB, s0, sS])
  iterate 3 ((with_reducible refine rN (v := .bool true) ?_ ?_ ?_); (· rfl); (· go_simp; (try with_reducible rfl)); simp only [pu, sB, s0, sS])
  go_wp2_with fail
  refine (HL.out _ B6.out).mono ?_
  rintro e w7 ⟨rfl, hb⟩
  have B7 := Lib.hid (B6.out.trans (hb.mono B6.out.size))
  have KA7 := Lib.hid (KA6.out.below hb KA6.out.lt)
  have KB7 := Lib.hid (KB6.out.below hb KB6.out.lt)
  clear hb
  clear B6 KA6 KB6
  go_simp
  rename_i hKK
  refine hKK _ _ ?_
  clear hKK
  try simp only [pu, sB, s0, sS]
  iterate 2 ((with_reducible refine rN (v := .bool true) ?_ ?_ ?_); (· rfl); (· go_simp; (try with_reducible rfl)); simp only [pu, sB, s0, sS])
  go_wp2_with fail
  go_ret
  exact ⟨rfl, B7.out⟩

theorem lawAmountParses (s : ByteArray) (w : World) (hE : EnvA w) :
    Calls Tryz.prog 4 #[.string s] w fun e w' => e = .returned (.bool true) ∧ Below w.heap.size w w' := by
  have HL : Hid (∀ W, Below w.heap.size w W → Calls Tryz.prog 8 #[] W fun e w' => e = .returned (.bool true) ∧ Below W.heap.size W w') := Lib.hid fun W hb => amtAlive W (hE.below hb)
  by_cases hl : (1000 : Int) < (s.size : Int)
  · exact parsesLong s w HL hl
  · obtain ⟨a, ha⟩ : ∃ a, Amt.pV s.data.toList = a := ⟨_, rfl⟩
    have H1 : Hid (∀ W, Below w.heap.size w W → _) := Lib.hid fun W hb => amtParse s (by omega) W (hE.below hb)
    have H2 : Hid (∀ W, Below w.heap.size w W → _) := Lib.hid fun W _ => refParse14 s (by omega) W
    rw [ha] at H1 H2
    exact parsesShort s a.k a.n a.c a.f (fsOf a.f) _ w HL hl H1 H2 (fun W => run_eq_amt_self a.k a.n a.c a.f (fsOf a.f) (fsOf_sub _) W)
end Go.Proofs.YtohgdmlpffeoiaaGreatDoor
