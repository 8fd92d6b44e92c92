/-
  MERGED: FilRefE, TgRPaW, TgRefP, TgLawP, TgLawsP. By an AI agent.
-/
import Derived.Test.YtfliogahkfimbaaGreatDoorFilRefD
import Derived.Test.YtfliogahkfimbaaGreatDoorTgGA
import Derived.Test.YtfliogahkfimbaaGreatDoorTgGD
import Derived.Deep.Cut
import Derived.Test.YtfliogahkfimbaaGreatDoorTgGC
namespace Go.Proofs.YtfliogahkfimbaaGreatDoor
open Go.RowKit
open Wd (Bs)

/-- a row of strings in a block from B on -/
def RowFar (B : Nat) (w : World) (ad : Option Addr) (l : List Bs) : Prop := ∀ (i : Nat) x, l[i]? = some x → ∃ g, ad = some ⟨g, 0, none⟩ ∧ B ≤ g ∧ g < w.heap.size ∧ w.cell? ⟨g, i, none⟩ = some (str x)
theorem RowFar.of {B : Nat} {w : World} {v : Value} {l : List Bs} (h : OwnStrs B w v l) : ∃ ad cap, v = .slice ad l.length cap ∧ l.length ≤ cap ∧ cap ≤ maxLen ∧ RowFar B w ad l := by
  rcases h.shape with ⟨rfl, rfl⟩ | ⟨g, cap, rfl, h1, h2, h3, h4, h5⟩
  · exact ⟨none, 0, rfl, Nat.le_refl _, by decide, fun i x hx => by simp at hx⟩
  · exact ⟨_, cap, rfl, h3, h4, fun i x hx => ⟨g, rfl, h1, h2, h5 i x hx⟩⟩
theorem RowFar.below {B : Nat} {w w' : World} {ad : Option Addr} {l : List Bs} (h : RowFar B w ad l) (hb : Below w.heap.size w w') : RowFar B w' ad l := fun i x hx => by
  obtain ⟨g, e, h1, h2, h3⟩ := h i x hx
  exact ⟨g, e, h1, Nat.lt_of_lt_of_le h2 hb.size, by rw [hb.cell (p := ⟨g, i, none⟩) h2]; exact h3⟩
theorem RowFar.whole {B b : Nat} {w : World} {ad : Option Addr} {l : List Bs} (h : RowFar B w ad l) (hb : b < B) (vs : List Value) : RowFar B (w.setCells b 0 vs) ad l := fun i x hx => by
  obtain ⟨g, e, h1, h2, h3⟩ := h i x hx
  exact ⟨g, e, h1, by rw [size_whole]; exact h2, by rw [cell_wholeElse vs i (by omega)]; exact h3⟩
theorem foldN_ok : ∀ (l : List Bs) (a : Fil.Acc), Fil.Ok a → Fil.Ok (l.foldl Fil.wordN a)
  | [], _, h => h
  | x :: l, _, h => foldN_ok l _ (Fil.wordN_ok x h)
theorem foldN_step {l : List Bs} {k : Nat} {x : Bs} (h : l[k]? = some x) : (l.take (k + 1)).foldl Fil.wordN Fil.zeroA = Fil.wordN ((l.take k).foldl Fil.wordN Fil.zeroA) x := by
  rw [List.take_add_one, h]
  simp [List.foldl_append]
theorem subOf_le (x w : Bs) {n : Nat} (hx : x.length ≤ n) (hw : w.length ≤ n) : (Fil.subOf x w).length ≤ n := by
  unfold Fil.subOf
  split
  · simp; omega
  · exact hx
theorem foldN_sub {n : Nat} : ∀ (l : List Bs) (a : Fil.Acc), a.sub.length ≤ n → (∀ x ∈ l, x.length ≤ n) → (l.foldl Fil.wordN a).sub.length ≤ n
  | [], _, h, _ => h
  | x :: l, _, h, hl => foldN_sub l _ (subOf_le _ _ h (hl x (by simp))) fun y hy => hl y (by simp [hy])

theorem split_parts_size {l p : Bs} {c : UInt8} (h : p ∈ Wd.split l c) : p.length ≤ l.length := by
  have key : ∀ i, ∀ q ∈ (Wd.partsTo (Wd.sepAt l c) l i).1, q.length ≤ l.length := by
    intro i
    induction i with
    | zero => intro q hq; simp [Wd.partsTo] at hq
    | succ i ih =>
      intro q hq
      simp only [Wd.partsTo] at hq
      split at hq
      · simp at hq
        rcases hq with hq | rfl
        · exact ih q hq
        · simp [Wd.slice]; omega
      · exact ih q hq
  unfold Wd.split at h
  split at h
  · simp at h; subst h; exact Nat.le_refl _
  · simp at h
    rcases h with h | rfl
    · exact key _ _ h
    · simp [Wd.slice]
theorem split_count {l : Bs} {c : UInt8} {n : Nat} (h : l.length ≤ n) : (Wd.split l c).length ≤ n + 1 := by have := (Wd.split_len l c).2; omega
theorem split_part {l : Bs} {c : UInt8} {n : Nat} (h : l.length ≤ n) : ∀ x ∈ Wd.split l c, x.length ≤ n := fun x hx => by have := split_parts_size hx; omega
set_option maxHeartbeats 8000000 in
set_option maxRecDepth 100000 in
theorem refParse13 (s : ByteArray) (w : World) (hs : s.size ≤ 1000000) :
    Calls Tryz.prog 29 #[.string s] w (ParseRes s.data.toList w) := by
  obtain ⟨l, hl⟩ : ∃ l, l = Wd.split s.data.toList 32 := ⟨_, rfl⟩
  have hll : l.length ≤ 1000001 := by rw [hl]; exact split_count hs
  have hlx : ∀ x ∈ l, x.length ≤ 1000000 := by rw [hl]; exact split_part hs
  have HS : Hid (∀ W, Calls Tryz.prog 53 #[.string s, .int .u8 32] W (StrsRes l W)) := Lib.hid fun W => by rw [hl]; exact refSplit s 32 W (by omega)
  have HREF : Hid (Fil.refP s.data.toList = (l.foldl Fil.wordN Fil.zeroA).flt) := Lib.hid (by rw [hl]; rfl)
  obtain ⟨w0, hw0⟩ : ∃ w0, w0 = (w.alloc (.cells cellsZ 25)).alloc (.cells cellsZ 25) := ⟨_, rfl⟩
  obtain ⟨F, hF⟩ : ∃ F, F = w.heap.size + 1 := ⟨_, rfl⟩
  have r0 : Blk w0 w.heap.size cellsZ 25 := by rw [hw0]; exact (Blk.new w _ _).alloc _
  have f0 : Blk w0 F cellsZ 25 := by
    have h := Blk.new (w.alloc (.cells cellsZ 25)) cellsZ 25
    rw [hw0, hF]; simpa using h
  have b0 : Below w.heap.size w w0 := by rw [hw0]; exact ((Below.refl _ _).alloc (Nat.le_refl _) _).alloc (by simp) _
  have hz0 : w0.heap.size = F + 1 := by rw [hw0, hF]; simp
  have HFR : Hid (w.heap.size ≠ F) := Lib.hid (by omega)
  have HFL : Hid (w.heap.size ≤ F) := Lib.hid (by omega)
  have HZ0 := Lib.hid hz0
  have R0 := Lib.hid r0
  have F0 := Lib.hid f0
  have B0 := Lib.hid b0
  have HLX := Lib.hid hlx
  have HL := Lib.hid hl
  have HSS := Lib.hid hs
  clear r0 f0 b0 hlx hz0 hl hs
  go_enter Tryz.func29, Tryz.ntmps29
  go_wp2_with fail
  rw [show (w.alloc (.cells #[.int .i64 0, .int .i64 0, .int .i64 0, .int .i64 0, .int .i64 0, .int .i64 0, .int .i64 0, .string ⟨#[]⟩, .int .i64 0, .int .i64 0, .int .i64 0, .int .i64 0, .int .i64 0, .int .i64 0, .int .i64 0, .int .i64 0] 25)).alloc (.cells #[.int .i64 0, .int .i64 0, .int .i64 0, .int .i64 0, .int .i64 0, .int .i64 0, .int .i64 0, .string ⟨#[]⟩, .int .i64 0, .int .i64 0, .int .i64 0, .int .i64 0, .int .i64 0, .int .i64 0, .int .i64 0, .int .i64 0] 25) = w0 from hw0.symm, ← hF]
  clear hw0 hF
  refine (HS.out _).mono ?_
  rintro e w1 ⟨v, rfl, hown, hb1⟩
  obtain ⟨ad, cap, rfl, hcap, hmx, hrow⟩ := RowFar.of hown
  have hm1 : l.length ≤ maxLen := by omega
  have R1 := Lib.hid (R0.out.below hb1 R0.out.lt)
  have F1 := Lib.hid (F0.out.below hb1 F0.out.lt)
  have B1 := Lib.hid (B0.out.trans (hb1.mono B0.out.size))
  have W1 : Hid (RowFar (F + 1) w1 ad l) := Lib.hid (by rw [← HZ0.out]; exact hrow)
  clear hown hrow hb1 R0 F0 B0
  unfold maxLen at hmx hm1
  go_wp2_with fail
  go_loopw [6] (fun iv wr => ∃ (k : Nat) (a : Fil.Acc) (fs : ByteArray), k ≤ l.length ∧ iv = .int .i64 (k : Int) ∧ Hid (a = (l.take k).foldl Fil.wordN Fil.zeroA ∧ a.sub = fs.data.toList) ∧ Hid (Blk wr F (cellsA a fs) 25) ∧ Hid (Blk wr w.heap.size cellsZ 25) ∧ Hid (RowFar (F + 1) wr ad l) ∧ Hid (Below w.heap.size w wr)) (fun iv _ => l.length - (intOf iv).toNat)
  case atStart => exact ⟨0, Fil.zeroA, ⟨#[]⟩, by omega, rfl, Lib.hid ⟨rfl, rfl⟩, F1, R1, W1, B1⟩
  case round =>
    obtain ⟨k, a, fs, hk, rfl, HA, HK, HR, HW, HB⟩ := hrel
    by_cases hlt : k < l.length
    · obtain ⟨x, hx⟩ : ∃ x, l[k]? = some x := ⟨l[k], by simp [hlt]⟩
      obtain ⟨sx, hsx, ex⟩ := exists_bytes x
      obtain ⟨g, rfl, hg1, hg2, hg3⟩ := HW.out k x hx
      have d1 : wr.cell? ⟨g, k, none⟩ = some (.string sx) := hg3.trans (congrArg some ex)
      have HSTEP := Lib.hid (foldN_step hx)
      have HC : Hid (∀ W, Calls Tryz.prog 54 #[.agg (cellsA a fs), .string sx] W fun e w' => ∃ (b : Fil.Acc) (hs : ByteArray), b = (l.take (k + 1)).foldl Fil.wordN Fil.zeroA ∧ b.sub = hs.data.toList ∧ e = .returned (.agg (cellsA b hs)) ∧ Below W.heap.size W w') := Lib.hid fun W => by
        refine (refWord13 a fs sx (by rw [HA.out.1]; exact foldN_ok _ _ Fil.zero_ok) HA.out.2 (by have := HLX.out x (List.mem_of_getElem? hx); rw [← hsx] at this; simpa using this) W).mono ?_
        rintro e w' ⟨hs, h1, h2, h3⟩
        refine ⟨Fil.wordN a sx.data.toList, hs, ?_, h1.symm, h2, h3⟩
        rw [HSTEP.out, ← HA.out.1, hsx]
      have HG1 := Lib.hid hg1
      have HG2 := Lib.hid hg2
      clear hx hsx ex hg1 hg2 hg3 HSTEP
      go_upto_region 6 with fail
      refine wp_region_held_drew (S := (fun W : World => W.cell? ⟨g, k, none⟩ = some (.string sx))) (by kernel_rfl) ?_ (fun hHeld => ?_)
      · exact d1
      refine take_run 1 (some 16) (v := ?_) rfl rfl (by kernel_rfl) (by kernel_rfl) (by kernel_rfl) (fun _ _ _ h => h) (by rfl) ?_ (by assumption) ?_
      rotate_left
      · (intro W hSw; (try dsimp only at hSw); go_simp; (try with_reducible rfl))
      simp only [Act.put, List.setIfInBounds_toArray, List.set_cons_zero, List.set_cons_succ]
      refine take_run 2 (some 17) (v := ?_) rfl rfl (by kernel_rfl) (by kernel_rfl) (by kernel_rfl) (fun _ _ _ h => h) (by rfl) ?_ (by assumption) ?_
      rotate_left
      · (intro W hSw; (try dsimp only at hSw); go_simp; (try with_reducible rfl))
      simp only [Act.put, List.setIfInBounds_toArray, List.set_cons_zero, List.set_cons_succ]
      refine take_run 3 (some 18) (v := ?_) rfl rfl (by kernel_rfl) (by kernel_rfl) (by kernel_rfl) (fun _ _ _ h => h) (by rfl) ?_ (by assumption) ?_
      rotate_left
      · (intro W hSw; (try dsimp only at hSw); go_simp; (try with_reducible rfl))
      simp only [Act.put, List.setIfInBounds_toArray, List.set_cons_zero, List.set_cons_succ]
      refine take_run 4 (some 19) (v := ?_) rfl rfl (by kernel_rfl) (by kernel_rfl) (by kernel_rfl) (fun _ _ _ h => h) (by rfl) ?_ (by assumption) ?_
      rotate_left
      · (intro W hSw; (try dsimp only at hSw); go_simp; (try with_reducible rfl))
      simp only [Act.put, List.setIfInBounds_toArray, List.set_cons_zero, List.set_cons_succ]
      refine wpAnyH_ready (rs := [0]) (by kernel_rfl) (by simp) ?_
      refine AllReadyH.cons rfl (fun K0 hK0 => ?_) AllReadyH.nil
      rw [if_pos (by rfl)]
      refine wp_loadS (.tmp 4) rfl (b := F) (cs := cellsA a fs) rfl HK.out.drew Tryz.underlying25 rfl (infoTF _ _) ?_
      refine hK0.out _ _ hHeld (fun hHeld0 => ?_)
      clear hK0 K0
      simp only [Act.put, List.setIfInBounds_toArray]
      refine wpAnyH_ready (rs := [5]) (by kernel_rfl) (by simp) ?_
      refine AllReadyH.cons rfl (fun K1 hK1 => ?_) AllReadyH.nil
      go_simp
      go_at_call 54
      refine (HC.out _).mono ?_
      rintro e w2 ⟨b, hs, hb1, hb2, rfl, hb3⟩
      have hlt2 : g < w2.heap.size := Nat.lt_of_lt_of_le HG2.out hb3.size
      have HK2 : Hid (Blk w2 F (cellsA a fs) 25) := Lib.hid (HK.out.drew.below hb3 HK.out.lt)
      have HR2 : Hid (Blk w2 w.heap.size cellsZ 25) := Lib.hid (HR.out.drew.below hb3 HR.out.lt)
      have HB2 : Hid (Below w.heap.size w w2) := Lib.hid ((show Below w.heap.size w wr.drew from HB.out.drew).trans (hb3.mono HB.out.size))
      have HW2 : Hid (RowFar (F + 1) w2 (some ⟨g, 0, none⟩) l) := Lib.hid (RowFar.below (w := wr.drew) HW.out hb3)
      have d2 : w2.cell? ⟨g, k, none⟩ = some (.string sx) := by rw [hb3.cell (p := ⟨g, k, none⟩) HG2.out]; exact hHeld0
      have HAN : Hid (b = (l.take (k + 1)).foldl Fil.wordN Fil.zeroA ∧ b.sub = hs.data.toList) := Lib.hid ⟨hb1, hb2⟩
      have HD2 := Lib.hid d2
      clear hb1 hb2 hb3 hlt2 d2 HK HR HB HW HA HC
      go_simp
      refine hK1.out _ _ HD2.out (fun hHeld1 => ?_)
      clear hK1 K1 hHeld0 hHeld
      try simp only [Act.put, List.setIfInBounds_toArray, List.set_cons_zero, List.set_cons_succ]
      refine wpAnyH_ready (rs := [6]) (by kernel_rfl) (by simp) ?_
      refine AllReadyH.cons rfl (fun K2 hK2 => ?_) AllReadyH.nil
      rw [if_pos (by rfl)]
      refine wp_storeS (.tmp 4) (.tmp 20) rfl (b := F) (cs := cellsA a fs) (vs := cellsA b hs) rfl rfl HK2.out rfl (infoTF _ _) (cellsA_one _ _) ?_
      have HK3 : Hid (Blk (w2.setCells F 0 (cellsA b hs).toList) F (cellsA b hs) 25) := Lib.hid (HK2.out.whole _ rfl)
      have HR3 : Hid (Blk (w2.setCells F 0 (cellsA b hs).toList) w.heap.size cellsZ 25) := Lib.hid (HR2.out.wholeElse _ HFR.out)
      have HB3 : Hid (Below w.heap.size w (w2.setCells F 0 (cellsA b hs).toList)) := Lib.hid (below_whole _ HB2.out HFL.out)
      have HW3 : Hid (RowFar (F + 1) (w2.setCells F 0 (cellsA b hs).toList) (some ⟨g, 0, none⟩) l) := Lib.hid (HW2.out.whole (Nat.lt_succ_self F) _)
      have HD3 : Hid ((w2.setCells F 0 (cellsA b hs).toList).cell? ⟨g, k, none⟩ = some (.string sx)) := Lib.hid (by rw [cell_wholeElse _ k (by have := HG1.out; omega)]; exact HD2.out)
      clear HK2 HR2 HB2 HW2 HD2
      generalize w2.setCells F 0 (cellsA b hs).toList = w3 at HK3 HR3 HB3 HW3 HD3 ⊢
      refine hK2.out _ _ HD3.out (fun hHeld2 => ?_)
      clear hK2 K2 hHeld1
      simp only [Act.put, List.setIfInBounds_toArray]
      refine wpAnyH_done (by kernel_rfl) ?_ _
      go_wp2_with fail
      go_roundw
      case rel => exact ⟨k + 1, b, hs, by omega, by go_num, HAN, HK3, HR3, HW3, HB3⟩
      case measure => simp [intOf]; omega
    · have hke : k = l.length := by omega
      have HFIN : Hid (Fil.refP s.data.toList = a.flt) := Lib.hid (by rw [HREF.out, HA.out.1, hke, List.take_length])
      have hsub := HA.out.2
      have hlen : fs.size ≤ maxLen := by
        have h1 := foldN_sub (n := 1000000) l Fil.zeroA (by simp [Fil.zeroA]) HLX.out
        have h2 := HA.out.1
        rw [hke, List.take_length] at h2
        rw [← h2, HA.out.2] at h1
        unfold maxLen
        simp at h1
        omega
      obtain ⟨tx, htx, etx⟩ := exists_bytes (Fil.textF a.flt)
      have HIS0 : Hid (∀ W, Calls Tryz.prog 23 #[.agg (cellsA a fs)] W fun e w' => e = .returned (.bool (Fil.validB a.flt)) ∧ Below W.heap.size W w') := Lib.hid fun W => refIs13 a.flt fs hsub hlen W
      have HTX : Hid (∀ W, Calls Tryz.prog 27 #[.agg (cellsA a fs)] W fun e w' => e = .returned (.string tx) ∧ Below W.heap.size W w') := Lib.hid fun W => by rw [← etx]; exact refText13 a.flt fs hsub hlen W
      have HRES0 : Hid (∀ e w', e = .returned (if (Fil.validB a.flt && (tx.toList == s.toList)) = true then .tuple #[.agg (cellsA a fs), .int .i64 0] else .tuple #[.agg cellsZ, .int .i64 3]) → Below w.heap.size w w' → ParseRes s.data.toList w e w') := Lib.hid fun e w' he hb =>
        parseRes_of hsub htx (fun h1 h2 => by rw [← HFIN.out]; exact Fil.ref_yes (by rw [HFIN.out]; exact h1) (by rw [HFIN.out]; exact h2)) (fun h => Fil.ref_no (by rw [HFIN.out]; exact h)) he hb
      obtain ⟨v, hv⟩ : ∃ v, v = Fil.validB a.flt := ⟨_, rfl⟩
      obtain ⟨q, hq⟩ : ∃ q, (tx.toList == s.toList) = q := ⟨_, rfl⟩
      have HIS : Hid (∀ W, Calls Tryz.prog 23 #[.agg (cellsA a fs)] W fun e w' => e = .returned (.bool v) ∧ Below W.heap.size W w') := Lib.hid (by rw [hv]; exact HIS0.out)
      have HRES : Hid (∀ e w', e = .returned (if (v && q) = true then .tuple #[.agg (cellsA a fs), .int .i64 0] else .tuple #[.agg cellsZ, .int .i64 3]) → Below w.heap.size w w' → ParseRes s.data.toList w e w') := Lib.hid (by rw [hv, ← hq]; exact HRES0.out)
      have HQ := Lib.hid hq
      clear hke HA HW HIS0 HRES0 HFIN hsub hlen htx etx hv hq HREF HS HLX HL
      go_upto_region 7 with fail
      have hq : (tx.toList == s.toList) = q := HQ.out
      refine wp_region_lit ?_
      refine wpList_loadS (.tmp 4) (by rfl) rfl HK.out Tryz.underlying25 rfl (infoTF _ _) ?_
      simp only [Act.put, List.setIfInBounds_toArray, List.set_cons_zero, List.set_cons_succ]
      go_wp2_with fail
      refine (HIS.out _).mono ?_
      rintro e wi ⟨rfl, hb⟩
      have HKI := Lib.hid (HK.out.below hb HK.out.lt)
      have HRI := Lib.hid (HR.out.below hb HR.out.lt)
      have HBI := Lib.hid (HB.out.trans (hb.mono HB.out.size))
      clear hb HK HR HB
      go_simp
      rename_i hKK
      refine hKK _ _ ?_
      clear hKK
      try simp only [Act.put, List.setIfInBounds_toArray, List.set_cons_zero, List.set_cons_succ]
      cases v with
      | false =>
        refine wpList_runV (some 23) (v := ?_) rfl (by rfl) ?_ ?_
        rotate_left
        · (go_simp; (try with_reducible rfl))
        simp only [Act.put, List.setIfInBounds_toArray, List.set_cons_zero, List.set_cons_succ]
        refine wpList_runV (some 24) (v := ?_) rfl (by rfl) ?_ ?_
        rotate_left
        · (go_simp; (try with_reducible rfl))
        simp only [Act.put, List.setIfInBounds_toArray, List.set_cons_zero, List.set_cons_succ]
        refine wpList_skipV (some 25) rfl (by rfl) ?_
        simp only [Act.put, List.setIfInBounds_toArray, List.set_cons_zero, List.set_cons_succ]
        refine wpList_skipV (some 26) rfl (by rfl) ?_
        simp only [Act.put, List.setIfInBounds_toArray, List.set_cons_zero, List.set_cons_succ]
        refine wpList_skipV (some 27) rfl (by rfl) ?_
        simp only [Act.put, List.setIfInBounds_toArray, List.set_cons_zero, List.set_cons_succ]
        refine wpList_skipV (some 28) rfl (by rfl) ?_
        simp only [Act.put, List.setIfInBounds_toArray, List.set_cons_zero, List.set_cons_succ]
        refine wpList_runV (some 29) (v := ?_) rfl (by rfl) ?_ ?_
        rotate_left
        · (go_simp; (try with_reducible rfl))
        simp only [Act.put, List.setIfInBounds_toArray, List.set_cons_zero, List.set_cons_succ]
        go_upto_region 8 with fail
        refine wp_region_lit ?_
        refine wpList_runV (some 30) (v := .agg cellsZ) rfl (by rfl) (by go_simp; rfl) ?_
        simp only [Act.put, List.setIfInBounds_toArray, List.set_cons_zero, List.set_cons_succ]
        refine wpList_storeS (.tmp 2) (.tmp 30) rfl rfl HRI.out rfl infoTFZ cellsZ_one ?_
        have HRF := Lib.hid (HRI.out.whole cellsZ rfl)
        have HBF := Lib.hid (below_whole cellsZ.toList (o := 0) HBI.out (Nat.le_refl _))
        generalize World.setCells _ _ _ _ = wf at HRF HBF ⊢
        have hL := readZ HRF.out
        go_wp2_with fail
        exact bodyPost_ret (v := .tuple #[.agg cellsZ, .int .i64 3]) (results_cell_tmp Tryz.results29 (by rfl) (by rfl) hL) rfl (HRES.out _ _ rfl HBF.out)
      | true =>
        refine wpList_runV (some 23) (v := ?_) rfl (by rfl) ?_ ?_
        rotate_left
        · (go_simp; (try with_reducible rfl))
        simp only [Act.put, List.setIfInBounds_toArray, List.set_cons_zero, List.set_cons_succ]
        refine wpList_runV (some 24) (v := ?_) rfl (by rfl) ?_ ?_
        rotate_left
        · (go_simp; (try with_reducible rfl))
        simp only [Act.put, List.setIfInBounds_toArray, List.set_cons_zero, List.set_cons_succ]
        refine wpList_loadS (.tmp 4) (by rfl) rfl HKI.out Tryz.underlying25 rfl (infoTF _ _) ?_
        simp only [Act.put, List.setIfInBounds_toArray, List.set_cons_zero, List.set_cons_succ]
        go_wp2_with fail
        refine (HTX.out _).mono ?_
        rintro e wt ⟨rfl, hb⟩
        have HKT := Lib.hid (HKI.out.below hb HKI.out.lt)
        have HRT := Lib.hid (HRI.out.below hb HRI.out.lt)
        have HBT := Lib.hid (HBI.out.trans (hb.mono HBI.out.size))
        clear hb HKI HRI HBI
        go_simp
        rename_i hKK
        refine hKK _ _ ?_
        clear hKK
        try simp only [Act.put, List.setIfInBounds_toArray, List.set_cons_zero, List.set_cons_succ]
        cases q with
        | false =>
          refine wpList_runV (some 27) (v := ?_) rfl (by rfl) ?_ ?_
          rotate_left
          · (go_simp; (try with_reducible rfl))
          simp only [Act.put, List.setIfInBounds_toArray, List.set_cons_zero, List.set_cons_succ]
          refine wpList_runV (some 28) (v := .bool true) rfl (by rfl) ?_ ?_
          · (go_simp; (try with_reducible rfl))
          simp only [Act.put, List.setIfInBounds_toArray, List.set_cons_zero, List.set_cons_succ]
          refine wpList_runV (some 29) (v := ?_) rfl (by rfl) ?_ ?_
          rotate_left
          · (go_simp; (try with_reducible rfl))
          simp only [Act.put, List.setIfInBounds_toArray, List.set_cons_zero, List.set_cons_succ]
          go_upto_region 8 with fail
          refine wp_region_lit ?_
          refine wpList_runV (some 30) (v := .agg cellsZ) rfl (by rfl) (by go_simp; rfl) ?_
          simp only [Act.put, List.setIfInBounds_toArray, List.set_cons_zero, List.set_cons_succ]
          refine wpList_storeS (.tmp 2) (.tmp 30) rfl rfl HRT.out rfl infoTFZ cellsZ_one ?_
          have HRF := Lib.hid (HRT.out.whole cellsZ rfl)
          have HBF := Lib.hid (below_whole cellsZ.toList (o := 0) HBT.out (Nat.le_refl _))
          generalize World.setCells _ _ _ _ = wf at HRF HBF ⊢
          have hL := readZ HRF.out
          go_wp2_with fail
          exact bodyPost_ret (v := .tuple #[.agg cellsZ, .int .i64 3]) (results_cell_tmp Tryz.results29 (by rfl) (by rfl) hL) rfl (HRES.out _ _ rfl HBF.out)
        | true =>
          refine wpList_runV (some 27) (v := ?_) rfl (by rfl) ?_ ?_
          rotate_left
          · (go_simp; (try with_reducible rfl))
          simp only [Act.put, List.setIfInBounds_toArray, List.set_cons_zero, List.set_cons_succ]
          refine wpList_runV (some 28) (v := .bool false) rfl (by rfl) ?_ ?_
          · (go_simp; (try with_reducible rfl))
          simp only [Act.put, List.setIfInBounds_toArray, List.set_cons_zero, List.set_cons_succ]
          refine wpList_runV (some 29) (v := ?_) rfl (by rfl) ?_ ?_
          rotate_left
          · (go_simp; (try with_reducible rfl))
          simp only [Act.put, List.setIfInBounds_toArray, List.set_cons_zero, List.set_cons_succ]
          go_upto_region 9 with fail
          refine wp_region_lit ?_
          refine wpList_loadS (.tmp 4) (by rfl) rfl HKT.out Tryz.underlying25 rfl (infoTF _ _) ?_
          simp only [Act.put, List.setIfInBounds_toArray, List.set_cons_zero, List.set_cons_succ]
          refine wpList_storeS (.tmp 2) (.tmp 31) rfl rfl HRT.out rfl (infoTF _ _) (cellsA_one _ _) ?_
          have HRF := Lib.hid (HRT.out.whole (cellsA a fs) rfl)
          have HBF := Lib.hid (below_whole (cellsA a fs).toList (o := 0) HBT.out (Nat.le_refl _))
          generalize World.setCells _ _ _ _ = wf at HRF HBF ⊢
          have hL := readA HRF.out
          go_wp2_with fail
          exact bodyPost_ret (v := .tuple #[.agg (cellsA a fs), .int .i64 0]) (results_cell_tmp Tryz.results29 (by rfl) (by rfl) hL) rfl (HRES.out _ _ rfl HBF.out)
end Go.Proofs.YtfliogahkfimbaaGreatDoor
namespace Go.Proofs.YtfliogahkfimbaaGreatDoor
open Go.RowKit
open Wd (Bs)

set_option maxHeartbeats 8000000 in
set_option maxRecDepth 100000 in
theorem refPaIn18 (s : ByteArray) (w : World)
    (hs : s.size ≤ 1000000) (HW : Hid (∀ (k : Nat) W, 1 ≤ k → k ≤ 14 → Below w.heap.size w W → Calls Tryz.prog 20 #[.int .i64 (k : Int)] W fun e w' => e = .returned (str (Tg.headL k)) ∧ Below W.heap.size W w')) (HO : Hid (∀ (k : Nat) W, Below w.heap.size w W → Calls Tryz.prog 21 #[.int .i64 (k : Int)] W fun e w' => e = .returned (.bool (Tg.usesW k)) ∧ Below W.heap.size W w')) (HH : Hid (∀ (k : Nat) W, 1 ≤ k → k ≤ 14 → Below w.heap.size w W → Calls Tryz.prog 22 #[.int .i64 (k : Int)] W fun e w' => e = .returned (.bool (Tg.usesF k)) ∧ Below W.heap.size W w')) (HT : Hid (∀ (n : Nat) W, n ≤ 2 → Below w.heap.size w W → Calls Tryz.prog 12 #[.int .i64 (n : Int)] W fun e w' => e = .returned (str (Tg.whoL n)) ∧ Below W.heap.size W w')) (HF : Hid (∀ (m : ByteArray) W, m.size ≤ 1000000 → Below w.heap.size w W → Calls Tryz.prog 29 #[.string m] W fun e w' => e = .returned (.tuple #[.agg (cellsF (Fil.parseV m.data.toList) (fsOf (Fil.parseV m.data.toList))), .int .i64 (Fil.parseE m.data.toList)]) ∧ Below W.heap.size W w')) (HI : Hid (∀ (k n : Nat) (g : Fil.Flt) W, g.sub.length ≤ 1000 → Below w.heap.size w W → Calls Tryz.prog 10 #[.agg (tG (k : Int) (n : Int) (cellsF g (fsOf g)))] W fun e w' => e = .returned (.bool (Tg.okB ⟨k, n, g⟩)) ∧ Below W.heap.size W w')) (HX : Hid (∀ (k n : Nat) (g : Fil.Flt) W, g.sub.length ≤ 1000 → Below w.heap.size w W → Calls Tryz.prog 14 #[.agg (tG (k : Int) (n : Int) (cellsF g (fsOf g)))] W fun e w' => e = .returned (str (Tg.textT ⟨k, n, g⟩)) ∧ Below W.heap.size W w')) :
    Calls Tryz.prog 16 #[.string s] w fun e w' => e = .returned (.tuple #[.agg (cellsT (Tg.pV s.data.toList)), .int .i64 (Tg.pE s.data.toList)]) ∧ Below w.heap.size w w' := by

  have M := Mm.nil w
  go_enter Tryz.func16, Tryz.ntmps16
  go_upto_region 0 with fail
  refine wp_region_lit ?_
  with_reducible refine wA (tG 0 0 cellsZ) M ?_; clear M; intro pB2 u M; refine ⟨_, by (simp only [pu, sB, s0, sS]; rfl), ?_⟩
  with_reducible refine rA ?_
  go_upto_region 1 with fail
  refine wp_region_lit ?_
  with_reducible refine rA ?_
  go_wp2_with fail
  go_loopw [4, 5, 6, 7, 8, 9] (fun kv nv tv bv fv gv wr => ∃ k : Nat, 1 ≤ k ∧ k ≤ 15 ∧ kv = .int .i64 (k : Int) ∧ Hid (Tg.NoC s.data.toList k 0) ∧ Mm w wr [(pB2, (tG 0 0 cellsZ), 27)]) (fun kv _ _ _ _ _ _ => 15 - (intOf kv).toNat)
  case atStart => exact ⟨1, by omega, by omega, rfl, Lib.hid (Tg.NoC.zero _), M⟩
  case round =>
    revert wr
    intro w0 hrel
    clear M
    obtain ⟨k, hk1, hk15, rfl, HN, M⟩ := hrel
    obtain ⟨b1, hb1⟩ : ∃ b, decide ((k : Int) ≤ 14) = b := ⟨_, rfl⟩
    go_upto_region 2 with fail
    refine wp_region_lit ?_
    iterate 2 (with_reducible refine rA ?_)
    cases b1 with
    | false =>
      go_upto_region 17 with fail
      refine wp_region_lit ?_
      (with_reducible refine rB (.agg (tG 0 0 cellsZ)) ?_ ?_); (· go_simp; rfl)
      with_reducible refine wS 0 M (laid_all (tG_sz cellsZ_size) (tG_sz cellsZ_size)) (infoTTg18 (tG_sz cellsZ_size)) (tG_one cellsZ_one) (fit_2 (tG_sz cellsZ_size) (tG_sz cellsZ_size) (by decide)) ?_; clear M; intro u M
      with_reducible refine rA ?_
      have hk15x : k = 15 := by have := of_decide_eq_false hb1; omega
      have HE := Lib.hid (Tg.search_no (by have h := HN.out; rw [hk15x] at h; exact h))
      have hL := M.read 0 Tryz.underlying27 (infoTTg18 (tG_sz cellsZ_size)) rfl rfl
      go_wp2_with fail
      exact bodyPost_ret (v := .tuple #[.agg (tG 0 0 cellsZ), .int .i64 3]) (results_cell_tmp Tryz.results16 (by rfl) (by rfl) hL) rfl ⟨(by rw [HE.out.1, HE.out.2]; rfl), M.b⟩
    | true =>
      go_upto_region 4 with fail
      refine wp_region_lit ?_
      with_reducible refine rA ?_
      have hk14 : k ≤ 14 := by have := of_decide_eq_true hb1; omega
      go_wp2_with fail
      go_loopw [5, 6, 7, 8, 9] (fun nv tv bv fv gv wr => ∃ n : Nat, n ≤ 3 ∧ nv = .int .i64 (n : Int) ∧ Hid (Tg.NoC s.data.toList k n) ∧ Mm w wr [(pB2, (tG 0 0 cellsZ), 27)]) (fun nv _ _ _ _ _ => 3 - (intOf nv).toNat)
      case atStart => exact ⟨0, by omega, rfl, HN, M⟩
      case round =>
        clear HN M
        obtain ⟨n, hn3, rfl, HN, M⟩ := hrel
        obtain ⟨b2, hb2⟩ : ∃ b, decide ((n : Int) ≤ 2) = b := ⟨_, rfl⟩
        go_upto_region 5 with fail
        refine wp_region_lit ?_
        iterate 2 (with_reducible refine rA ?_)
        cases b2 with
        | false =>
          go_upto_region 3 with fail
          refine wp_region_lit ?_
          with_reducible refine rA ?_
          (with_reducible refine rB (.int .i64 ((k + 1 : Nat) : Int)) ?_ ?_); (· go_simp; (try exact IntWalk.i64_in _ (by omega)))
          with_reducible refine rA ?_
          have hn3 := of_decide_eq_false hb2
          have e3 : n = 3 := by omega
          have HN2 : Hid (Tg.NoC s.data.toList (k + 1) 0) := Lib.hid (by have h := HN.out; rw [e3] at h; exact h.row)
          go_wp2_with fail
          go_roundw
          case rel => exact ⟨k + 1, by omega, by omega, rfl, HN2, M⟩
          case measure => simp [intOf]; omega
        | true =>
          have hn2 : n ≤ 2 := by have := of_decide_eq_true hb2; omega
          obtain ⟨wk, hwk, ewk⟩ := exists_bytes (Tg.headL k)
          obtain ⟨wn, hwn, ewn⟩ := exists_bytes (Tg.whoL n)
          have HWk := Lib.hid (HW.out k)
          have HTn := Lib.hid (HT.out n)
          rw [ewk] at HWk
          rw [ewn] at HTn
          have HOk := Lib.hid (HO.out k)
          have HHk := Lib.hid (HH.out k)
          obtain ⟨uW, huW⟩ : ∃ b, Tg.usesW k = b := ⟨_, rfl⟩
          obtain ⟨uF, huF⟩ : ∃ b, Tg.usesF k = b := ⟨_, rfl⟩
          rw [huW] at HOk
          rw [huF] at HHk
          have HUW := Lib.hid huW
          have HUF := Lib.hid huF
          have hszk : wk.size ≤ 9 := by have h1 := heads_lenT k (by omega); rw [← hwk] at h1; simpa using h1
          have hszn : wn.size ≤ 9 := by have h1 := whos_lenT n (by omega); rw [← hwn] at h1; simpa using h1
          have HWKB := Lib.hid hwk
          have HWNB := Lib.hid hwn
          clear hwk ewk hwn ewn huW huF
          go_upto_region 7 with fail
          refine wp_region_lit ?_
          iterate 2 (with_reducible refine rA ?_)
          (with_reducible refine rB (.agg (tG (k : Int) (n : Int) cellsZ)) ?_ ?_); (· refine run_buildOp _ [(0, .int .i64 (k : Int)), (1, .int .i64 (n : Int))] rfl ?_ (builtT_kn (k : Int) (n : Int)); rfl)
          with_reducible refine wA (tG 0 0 cellsZ) M ?_; clear M; intro pB6 u M; refine ⟨_, by (simp only [pu, sB, s0, sS]; rfl), ?_⟩
          with_reducible refine wS 1 M (laid_all (tG_sz cellsZ_size) (tG_sz cellsZ_size)) (infoTTg18 (tG_sz cellsZ_size)) (tG_one cellsZ_one) (fit_2 (tG_sz cellsZ_size) (tG_sz cellsZ_size) (by decide)) ?_; clear M; intro u M
          go_upto_region 8 with fail
          refine wp_region_lit ?_
          with_reducible refine rA ?_
          with_reducible refine wC M (HWk.out _ hk1 hk14 M.b) ?_; clear M; intro u M
          with_reducible refine rA ?_
          go_upto_region 9 with fail
          refine wp_region_lit ?_
          with_reducible refine rA ?_
          with_reducible refine wC M (HOk.out _ M.b) ?_; clear M; intro u M
          cases uW with
          | false =>
            obtain ⟨bg, hbg⟩ : ∃ x : ByteArray, x = wk ++ ⟨#[32, 40]⟩ := ⟨_, rfl⟩
            have HBG := Lib.hid hbg
            have HBL : Hid (bg.data.toList = Tg.beginL k n) := Lib.hid (by rw [hbg]; unfold Tg.beginL; rw [HUW.out, ← HWKB.out, ← HWNB.out]; simp)
            have hbs : bg.size ≤ 1000 := by rw [hbg]; simp only [ByteArray.size_append, sz2]; omega
            clear hbg
            go_upto_region 11 with fail
            refine wp_region_lit ?_
            with_reducible refine rA ?_
            (with_reducible refine rB (.string bg) ?_ ?_); (· rw [HBG.out]; go_simp; (try simp only [ByteArray.size_append, sz1, sz2]); (try omega))
            with_reducible refine rA ?_
            cases uF with
            | false =>
              go_upto_region 12 with fail
              refine wp_region_lit ?_
              with_reducible refine rA ?_
              with_reducible refine wC M (HHk.out _ hk1 hk14 M.b) ?_; clear M; intro u M
              with_reducible refine rA ?_
              iterate 5 (with_reducible refine kA ?_)
              iterate 2 (with_reducible refine rA ?_)
              iterate 6 (with_reducible refine kA ?_)
              with_reducible refine rA ?_
              have HGS : Hid ((Fil.zero).sub.length ≤ 1000) := Lib.hid (by decide)
              have HCF : Hid (Tg.candF s.data.toList k n = Fil.zero) := Lib.hid (Tg.candF_no HUF.out)
              have HIk := Lib.hid (HI.out k n Fil.zero)
              have HXk := Lib.hid (HX.out k n Fil.zero)
              rw [show cellsF Fil.zero (fsOf Fil.zero) = cellsZ from rfl] at HIk HXk
              obtain ⟨v, hv⟩ : ∃ v, Tg.okB ⟨k, n, Fil.zero⟩ = v := ⟨_, rfl⟩
              obtain ⟨t, ht, et⟩ := exists_bytes (Tg.textT ⟨k, n, Fil.zero⟩)
              rw [et] at HXk
              rw [hv] at HIk
              obtain ⟨q, hq⟩ : ∃ q, (Tg.textT ⟨k, n, Fil.zero⟩ == s.data.toList) = q := ⟨_, rfl⟩
              have hq2 : (t.toList == s.toList) = q := by rw [Lib.toList_data, Lib.toList_data, ht]; exact hq
              have HC : Hid (Tg.hitC s.data.toList k n = (v && q)) := Lib.hid (by unfold Tg.hitC Tg.cand; rw [HCF.out, hv, hq])
              clear ht et hq hv
              cases v with
              | false =>
                go_upto_region 15 with fail
                refine wp_region_lit ?_
                with_reducible refine wL 1 M whole_part Tryz.underlying27 (infoTTg18 (tG_sz cellsZ_size)) ?_
                with_reducible refine wC M (HIk.out _ HGS.out M.b) ?_; clear M; intro u M
                with_reducible refine rA ?_
                iterate 4 (with_reducible refine kA ?_)
                with_reducible refine rA ?_
                go_upto_region 6 with fail
                refine wp_region_lit ?_
                with_reducible refine rA ?_
                (with_reducible refine rB (.int .i64 ((n + 1 : Nat) : Int)) ?_ ?_); (· go_simp; (try exact IntWalk.i64_in _ (by omega)))
                with_reducible refine rA ?_
                go_wp2_with fail
                go_roundw
                case rel => exact ⟨n + 1, by omega, rfl, Lib.hid (HN.out.next HC.out), M.take 1⟩
                case measure => simp [intOf]; omega
              | true =>
                go_upto_region 15 with fail
                refine wp_region_lit ?_
                with_reducible refine wL 1 M whole_part Tryz.underlying27 (infoTTg18 (tG_sz cellsZ_size)) ?_
                with_reducible refine wC M (HIk.out _ HGS.out M.b) ?_; clear M; intro u M
                with_reducible refine rA ?_
                with_reducible refine wL 1 M whole_part Tryz.underlying27 (infoTTg18 (tG_sz cellsZ_size)) ?_
                with_reducible refine wC M (HXk.out _ HGS.out M.b) ?_; clear M; intro u M
                iterate 3 (with_reducible refine rA ?_)
                cases q with
                | false =>
                  go_upto_region 6 with fail
                  refine wp_region_lit ?_
                  with_reducible refine rA ?_
                  (with_reducible refine rB (.int .i64 ((n + 1 : Nat) : Int)) ?_ ?_); (· go_simp; (try exact IntWalk.i64_in _ (by omega)))
                  with_reducible refine rA ?_
                  go_wp2_with fail
                  go_roundw
                  case rel => exact ⟨n + 1, by omega, rfl, Lib.hid (HN.out.next HC.out), M.take 1⟩
                  case measure => simp [intOf]; omega
                | true =>
                  go_upto_region 16 with fail
                  refine wp_region_lit ?_
                  with_reducible refine wL 1 M whole_part Tryz.underlying27 (infoTTg18 (tG_sz cellsZ_size)) ?_
                  with_reducible refine wS 0 M (laid_all (tG_sz cellsZ_size) (tG_sz cellsZ_size)) (infoTTg18 (tG_sz cellsZ_size)) (tG_one cellsZ_one) (fit_2 (tG_sz cellsZ_size) (tG_sz cellsZ_size) (by decide)) ?_; clear M; intro u M
                  with_reducible refine rA ?_
                  have HP := Lib.hid (Tg.cand_hit HC.out)
                  have hL := M.read 0 Tryz.underlying27 (infoTTg18 (tG_sz cellsZ_size)) rfl rfl
                  go_wp2_with fail
                  exact bodyPost_ret (v := .tuple #[.agg (tG (k : Int) (n : Int) cellsZ), .int .i64 0]) (results_cell_tmp Tryz.results16 (by rfl) (by rfl) hL) rfl ⟨(by rw [HP.out.1, HP.out.2]; unfold Tg.cand; rw [HCF.out]; rfl), M.b⟩
            | true =>
              obtain ⟨b3, hb3⟩ : ∃ b, decide (bg.size < s.size) = b := ⟨_, rfl⟩
              cases b3 with
              | false =>
                go_upto_region 12 with fail
                refine wp_region_lit ?_
                with_reducible refine rA ?_
                with_reducible refine wC M (HHk.out _ hk1 hk14 M.b) ?_; clear M; intro u M
                iterate 8 (with_reducible refine rA ?_)
                iterate 6 (with_reducible refine kA ?_)
                with_reducible refine rA ?_
                have HGS : Hid ((Fil.zero).sub.length ≤ 1000) := Lib.hid (by decide)
                have HCF : Hid (Tg.candF s.data.toList k n = Fil.zero) := Lib.hid (Tg.candF_short HBL.out (by have := of_decide_eq_false hb3; omega))
                have HIk := Lib.hid (HI.out k n Fil.zero)
                have HXk := Lib.hid (HX.out k n Fil.zero)
                rw [show cellsF Fil.zero (fsOf Fil.zero) = cellsZ from rfl] at HIk HXk
                obtain ⟨v, hv⟩ : ∃ v, Tg.okB ⟨k, n, Fil.zero⟩ = v := ⟨_, rfl⟩
                obtain ⟨t, ht, et⟩ := exists_bytes (Tg.textT ⟨k, n, Fil.zero⟩)
                rw [et] at HXk
                rw [hv] at HIk
                obtain ⟨q, hq⟩ : ∃ q, (Tg.textT ⟨k, n, Fil.zero⟩ == s.data.toList) = q := ⟨_, rfl⟩
                have hq2 : (t.toList == s.toList) = q := by rw [Lib.toList_data, Lib.toList_data, ht]; exact hq
                have HC : Hid (Tg.hitC s.data.toList k n = (v && q)) := Lib.hid (by unfold Tg.hitC Tg.cand; rw [HCF.out, hv, hq])
                clear ht et hq hv
                cases v with
                | false =>
                  go_upto_region 15 with fail
                  refine wp_region_lit ?_
                  with_reducible refine wL 1 M whole_part Tryz.underlying27 (infoTTg18 (tG_sz cellsZ_size)) ?_
                  with_reducible refine wC M (HIk.out _ HGS.out M.b) ?_; clear M; intro u M
                  with_reducible refine rA ?_
                  iterate 4 (with_reducible refine kA ?_)
                  with_reducible refine rA ?_
                  go_upto_region 6 with fail
                  refine wp_region_lit ?_
                  with_reducible refine rA ?_
                  (with_reducible refine rB (.int .i64 ((n + 1 : Nat) : Int)) ?_ ?_); (· go_simp; (try exact IntWalk.i64_in _ (by omega)))
                  with_reducible refine rA ?_
                  go_wp2_with fail
                  go_roundw
                  case rel => exact ⟨n + 1, by omega, rfl, Lib.hid (HN.out.next HC.out), M.take 1⟩
                  case measure => simp [intOf]; omega
                | true =>
                  go_upto_region 15 with fail
                  refine wp_region_lit ?_
                  with_reducible refine wL 1 M whole_part Tryz.underlying27 (infoTTg18 (tG_sz cellsZ_size)) ?_
                  with_reducible refine wC M (HIk.out _ HGS.out M.b) ?_; clear M; intro u M
                  with_reducible refine rA ?_
                  with_reducible refine wL 1 M whole_part Tryz.underlying27 (infoTTg18 (tG_sz cellsZ_size)) ?_
                  with_reducible refine wC M (HXk.out _ HGS.out M.b) ?_; clear M; intro u M
                  iterate 3 (with_reducible refine rA ?_)
                  cases q with
                  | false =>
                    go_upto_region 6 with fail
                    refine wp_region_lit ?_
                    with_reducible refine rA ?_
                    (with_reducible refine rB (.int .i64 ((n + 1 : Nat) : Int)) ?_ ?_); (· go_simp; (try exact IntWalk.i64_in _ (by omega)))
                    with_reducible refine rA ?_
                    go_wp2_with fail
                    go_roundw
                    case rel => exact ⟨n + 1, by omega, rfl, Lib.hid (HN.out.next HC.out), M.take 1⟩
                    case measure => simp [intOf]; omega
                  | true =>
                    go_upto_region 16 with fail
                    refine wp_region_lit ?_
                    with_reducible refine wL 1 M whole_part Tryz.underlying27 (infoTTg18 (tG_sz cellsZ_size)) ?_
                    with_reducible refine wS 0 M (laid_all (tG_sz cellsZ_size) (tG_sz cellsZ_size)) (infoTTg18 (tG_sz cellsZ_size)) (tG_one cellsZ_one) (fit_2 (tG_sz cellsZ_size) (tG_sz cellsZ_size) (by decide)) ?_; clear M; intro u M
                    with_reducible refine rA ?_
                    have HP := Lib.hid (Tg.cand_hit HC.out)
                    have hL := M.read 0 Tryz.underlying27 (infoTTg18 (tG_sz cellsZ_size)) rfl rfl
                    go_wp2_with fail
                    exact bodyPost_ret (v := .tuple #[.agg (tG (k : Int) (n : Int) cellsZ), .int .i64 0]) (results_cell_tmp Tryz.results16 (by rfl) (by rfl) hL) rfl ⟨(by rw [HP.out.1, HP.out.2]; unfold Tg.cand; rw [HCF.out]; rfl), M.b⟩
              | true =>
                obtain ⟨b4, hb4⟩ : ∃ b, ((s.extract 0 bg.size).toList == bg.toList) = b := ⟨_, rfl⟩
                have hlt := of_decide_eq_true hb3
                have hle : (bg.size : Int) ≤ (s.size : Int) := by omega
                go_upto_region 12 with fail
                refine wp_region_lit ?_
                with_reducible refine rA ?_
                with_reducible refine wC M (HHk.out _ hk1 hk14 M.b) ?_; clear M; intro u M
                iterate 11 (with_reducible refine rA ?_)
                (with_reducible refine rB (.string (s.extract 0 bg.size)) ?_ ?_); (· go_simp; (try with_reducible rfl))
                iterate 3 (with_reducible refine rA ?_)
                cases b4 with
                | false =>
                  have HGS : Hid ((Fil.zero).sub.length ≤ 1000) := Lib.hid (by decide)
                  have HCF : Hid (Tg.candF s.data.toList k n = Fil.zero) := Lib.hid (Tg.candF_pre HBL.out hb4)
                  have HIk := Lib.hid (HI.out k n Fil.zero)
                  have HXk := Lib.hid (HX.out k n Fil.zero)
                  rw [show cellsF Fil.zero (fsOf Fil.zero) = cellsZ from rfl] at HIk HXk
                  obtain ⟨v, hv⟩ : ∃ v, Tg.okB ⟨k, n, Fil.zero⟩ = v := ⟨_, rfl⟩
                  obtain ⟨t, ht, et⟩ := exists_bytes (Tg.textT ⟨k, n, Fil.zero⟩)
                  rw [et] at HXk
                  rw [hv] at HIk
                  obtain ⟨q, hq⟩ : ∃ q, (Tg.textT ⟨k, n, Fil.zero⟩ == s.data.toList) = q := ⟨_, rfl⟩
                  have hq2 : (t.toList == s.toList) = q := by rw [Lib.toList_data, Lib.toList_data, ht]; exact hq
                  have HC : Hid (Tg.hitC s.data.toList k n = (v && q)) := Lib.hid (by unfold Tg.hitC Tg.cand; rw [HCF.out, hv, hq])
                  clear ht et hq hv
                  cases v with
                  | false =>
                    go_upto_region 15 with fail
                    refine wp_region_lit ?_
                    with_reducible refine wL 1 M whole_part Tryz.underlying27 (infoTTg18 (tG_sz cellsZ_size)) ?_
                    with_reducible refine wC M (HIk.out _ HGS.out M.b) ?_; clear M; intro u M
                    with_reducible refine rA ?_
                    iterate 4 (with_reducible refine kA ?_)
                    with_reducible refine rA ?_
                    go_upto_region 6 with fail
                    refine wp_region_lit ?_
                    with_reducible refine rA ?_
                    (with_reducible refine rB (.int .i64 ((n + 1 : Nat) : Int)) ?_ ?_); (· go_simp; (try exact IntWalk.i64_in _ (by omega)))
                    with_reducible refine rA ?_
                    go_wp2_with fail
                    go_roundw
                    case rel => exact ⟨n + 1, by omega, rfl, Lib.hid (HN.out.next HC.out), M.take 1⟩
                    case measure => simp [intOf]; omega
                  | true =>
                    go_upto_region 15 with fail
                    refine wp_region_lit ?_
                    with_reducible refine wL 1 M whole_part Tryz.underlying27 (infoTTg18 (tG_sz cellsZ_size)) ?_
                    with_reducible refine wC M (HIk.out _ HGS.out M.b) ?_; clear M; intro u M
                    with_reducible refine rA ?_
                    with_reducible refine wL 1 M whole_part Tryz.underlying27 (infoTTg18 (tG_sz cellsZ_size)) ?_
                    with_reducible refine wC M (HXk.out _ HGS.out M.b) ?_; clear M; intro u M
                    iterate 3 (with_reducible refine rA ?_)
                    cases q with
                    | false =>
                      go_upto_region 6 with fail
                      refine wp_region_lit ?_
                      with_reducible refine rA ?_
                      (with_reducible refine rB (.int .i64 ((n + 1 : Nat) : Int)) ?_ ?_); (· go_simp; (try exact IntWalk.i64_in _ (by omega)))
                      with_reducible refine rA ?_
                      go_wp2_with fail
                      go_roundw
                      case rel => exact ⟨n + 1, by omega, rfl, Lib.hid (HN.out.next HC.out), M.take 1⟩
                      case measure => simp [intOf]; omega
                    | true =>
                      go_upto_region 16 with fail
                      refine wp_region_lit ?_
                      with_reducible refine wL 1 M whole_part Tryz.underlying27 (infoTTg18 (tG_sz cellsZ_size)) ?_
                      with_reducible refine wS 0 M (laid_all (tG_sz cellsZ_size) (tG_sz cellsZ_size)) (infoTTg18 (tG_sz cellsZ_size)) (tG_one cellsZ_one) (fit_2 (tG_sz cellsZ_size) (tG_sz cellsZ_size) (by decide)) ?_; clear M; intro u M
                      with_reducible refine rA ?_
                      have HP := Lib.hid (Tg.cand_hit HC.out)
                      have hL := M.read 0 Tryz.underlying27 (infoTTg18 (tG_sz cellsZ_size)) rfl rfl
                      go_wp2_with fail
                      exact bodyPost_ret (v := .tuple #[.agg (tG (k : Int) (n : Int) cellsZ), .int .i64 0]) (results_cell_tmp Tryz.results16 (by rfl) (by rfl) hL) rfl ⟨(by rw [HP.out.1, HP.out.2]; unfold Tg.cand; rw [HCF.out]; rfl), M.b⟩
                | true =>
                  have hx1 : IntKind.i64.wrap ((s.size : Int) - 1) = ((s.size - 1 : Nat) : Int) := by rw [IntWalk.i64_in _ (by omega)]; omega
                  have h51 : (bg.size : Int) ≤ ((s.size - 1 : Nat) : Int) := by omega
                  have h52 : ((s.size - 1 : Nat) : Int) ≤ (s.size : Int) := by omega
                  obtain ⟨m, hm⟩ : ∃ m, m = s.extract bg.size (s.size - 1) := ⟨_, rfl⟩
                  have HMM := Lib.hid hm
                  have HMS : Hid (m.size ≤ 1000000) := Lib.hid (by rw [hm, ByteArray.size_extract]; omega)
                  have HCF : Hid (Tg.candF s.data.toList k n = Fil.parseV m.data.toList) := Lib.hid (Tg.candF_yes HUF.out HBL.out (by omega) hb4 hm)
                  clear hm
                  have HFm := Lib.hid (HF.out m)
                  obtain ⟨g, eg⟩ : ∃ g, Fil.parseV m.data.toList = g := ⟨_, rfl⟩
                  obtain ⟨er, eer⟩ : ∃ x, Fil.parseE m.data.toList = x := ⟨_, rfl⟩
                  have HGS : Hid (g.sub.length ≤ 1000) := Lib.hid (by rw [← eg]; exact Nat.le_trans (parseV_subT _) (by decide))
                  rw [eg, eer] at HFm
                  rw [eg] at HCF
                  clear eg eer
                  go_upto_region 13 with fail
                  refine wp_region_lit ?_
                  iterate 5 (with_reducible refine rA ?_)
                  (with_reducible refine rB (.int .i64 ((s.size - 1 : Nat) : Int)) ?_ ?_); (· go_simp; (try rw [hx1]))
                  (with_reducible refine rB (.string m) ?_ ?_); (· rw [HMM.out]; go_simp; (try with_reducible rfl))
                  with_reducible refine wC M (HFm.out _ HMS.out M.b) ?_; clear M; intro u M
                  with_reducible refine rA ?_
                  (with_reducible refine rB (.agg (cellsF g (fsOf g))) ?_ ?_); (· go_simp; (try with_reducible rfl))
                  with_reducible refine rA ?_
                  with_reducible refine wA cellsZ M ?_; clear M; intro pB8 u M; refine ⟨_, by (simp only [pu, sB, s0, sS]; rfl), ?_⟩
                  with_reducible refine wS 2 M (laid_all (cellsF_size g (fsOf g)) cellsZ_size) (infoTF16 (cellsF_size g (fsOf g))) (cellsF_one g (fsOf g)) (fit_2 cellsZ_size (cellsF_size g (fsOf g)) (by decide)) ?_; clear M; intro u M
                  with_reducible refine rA ?_
                  go_upto_region 14 with fail
                  refine wp_region_lit ?_
                  with_reducible refine wL 2 M whole_part Tryz.underlying25 (infoTF16 (cellsF_size g (fsOf g))) ?_
                  with_reducible refine rA ?_
                  with_reducible refine wS 1 M (tG_pf (Eq.trans (cellsF_size g (fsOf g)) (Eq.symm cellsZ_size))) (infoTF16 (cellsF_size g (fsOf g))) (cellsF_one g (fsOf g)) (fit_2 (tG_sz cellsZ_size) (cellsF_size g (fsOf g)) (by decide)) ?_; clear M; intro u M
                  have HIk := Lib.hid (HI.out k n g)
                  have HXk := Lib.hid (HX.out k n g)
                  obtain ⟨v, hv⟩ : ∃ v, Tg.okB ⟨k, n, g⟩ = v := ⟨_, rfl⟩
                  obtain ⟨t, ht, et⟩ := exists_bytes (Tg.textT ⟨k, n, g⟩)
                  rw [et] at HXk
                  rw [hv] at HIk
                  obtain ⟨q, hq⟩ : ∃ q, (Tg.textT ⟨k, n, g⟩ == s.data.toList) = q := ⟨_, rfl⟩
                  have hq2 : (t.toList == s.toList) = q := by rw [Lib.toList_data, Lib.toList_data, ht]; exact hq
                  have HC : Hid (Tg.hitC s.data.toList k n = (v && q)) := Lib.hid (by unfold Tg.hitC Tg.cand; rw [HCF.out, hv, hq])
                  clear ht et hq hv
                  cases v with
                  | false =>
                    go_upto_region 15 with fail
                    refine wp_region_lit ?_
                    with_reducible refine wL 1 M whole_part Tryz.underlying27 (infoTTg18 (tG_sz (cellsF_size g (fsOf g)))) ?_
                    with_reducible refine wC M (HIk.out _ HGS.out M.b) ?_; clear M; intro u M
                    with_reducible refine rA ?_
                    iterate 4 (with_reducible refine kA ?_)
                    with_reducible refine rA ?_
                    go_upto_region 6 with fail
                    refine wp_region_lit ?_
                    with_reducible refine rA ?_
                    (with_reducible refine rB (.int .i64 ((n + 1 : Nat) : Int)) ?_ ?_); (· go_simp; (try exact IntWalk.i64_in _ (by omega)))
                    with_reducible refine rA ?_
                    go_wp2_with fail
                    go_roundw
                    case rel => exact ⟨n + 1, by omega, rfl, Lib.hid (HN.out.next HC.out), M.take 1⟩
                    case measure => simp [intOf]; omega
                  | true =>
                    go_upto_region 15 with fail
                    refine wp_region_lit ?_
                    with_reducible refine wL 1 M whole_part Tryz.underlying27 (infoTTg18 (tG_sz (cellsF_size g (fsOf g)))) ?_
                    with_reducible refine wC M (HIk.out _ HGS.out M.b) ?_; clear M; intro u M
                    with_reducible refine rA ?_
                    with_reducible refine wL 1 M whole_part Tryz.underlying27 (infoTTg18 (tG_sz (cellsF_size g (fsOf g)))) ?_
                    with_reducible refine wC M (HXk.out _ HGS.out M.b) ?_; clear M; intro u M
                    iterate 3 (with_reducible refine rA ?_)
                    cases q with
                    | false =>
                      go_upto_region 6 with fail
                      refine wp_region_lit ?_
                      with_reducible refine rA ?_
                      (with_reducible refine rB (.int .i64 ((n + 1 : Nat) : Int)) ?_ ?_); (· go_simp; (try exact IntWalk.i64_in _ (by omega)))
                      with_reducible refine rA ?_
                      go_wp2_with fail
                      go_roundw
                      case rel => exact ⟨n + 1, by omega, rfl, Lib.hid (HN.out.next HC.out), M.take 1⟩
                      case measure => simp [intOf]; omega
                    | true =>
                      go_upto_region 16 with fail
                      refine wp_region_lit ?_
                      with_reducible refine wL 1 M whole_part Tryz.underlying27 (infoTTg18 (tG_sz (cellsF_size g (fsOf g)))) ?_
                      with_reducible refine wS 0 M (laid_all (tG_sz (cellsF_size g (fsOf g))) (tG_sz cellsZ_size)) (infoTTg18 (tG_sz (cellsF_size g (fsOf g)))) (tG_one (cellsF_one g (fsOf g))) (fit_2 (tG_sz cellsZ_size) (tG_sz (cellsF_size g (fsOf g))) (by decide)) ?_; clear M; intro u M
                      with_reducible refine rA ?_
                      have HP := Lib.hid (Tg.cand_hit HC.out)
                      have hL := M.read 0 Tryz.underlying27 (infoTTg18 (tG_sz (cellsF_size g (fsOf g)))) rfl rfl
                      go_wp2_with fail
                      exact bodyPost_ret (v := .tuple #[.agg (tG (k : Int) (n : Int) (cellsF g (fsOf g))), .int .i64 0]) (results_cell_tmp Tryz.results16 (by rfl) (by rfl) hL) rfl ⟨(by rw [HP.out.1, HP.out.2]; unfold Tg.cand; rw [HCF.out]; rfl), M.b⟩
          | true =>
            go_upto_region 10 with fail
            refine wp_region_lit ?_
            with_reducible refine rA ?_
            (with_reducible refine rB (.string (wk ++ ⟨#[32]⟩)) ?_ ?_); (· go_simp; omega)
            with_reducible refine rA ?_
            with_reducible refine wC M (HTn.out _ hn2 M.b) ?_; clear M; intro u M
            (with_reducible refine rB (.string ((wk ++ ⟨#[32]⟩) ++ wn)) ?_ ?_); (· go_simp; omega)
            with_reducible refine rA ?_
            obtain ⟨bg, hbg⟩ : ∃ x : ByteArray, x = ((wk ++ ⟨#[32]⟩) ++ wn) ++ ⟨#[32, 40]⟩ := ⟨_, rfl⟩
            have HBG := Lib.hid hbg
            have HBL : Hid (bg.data.toList = Tg.beginL k n) := Lib.hid (by rw [hbg]; unfold Tg.beginL; rw [HUW.out, ← HWKB.out, ← HWNB.out]; simp)
            have hbs : bg.size ≤ 1000 := by rw [hbg]; simp only [ByteArray.size_append, sz1, sz2]; omega
            clear hbg
            go_upto_region 11 with fail
            refine wp_region_lit ?_
            with_reducible refine rA ?_
            (with_reducible refine rB (.string bg) ?_ ?_); (· rw [HBG.out]; go_simp; (try simp only [ByteArray.size_append, sz1, sz2]); (try omega))
            with_reducible refine rA ?_
            cases uF with
            | false =>
              go_upto_region 12 with fail
              refine wp_region_lit ?_
              with_reducible refine rA ?_
              with_reducible refine wC M (HHk.out _ hk1 hk14 M.b) ?_; clear M; intro u M
              with_reducible refine rA ?_
              iterate 5 (with_reducible refine kA ?_)
              iterate 2 (with_reducible refine rA ?_)
              iterate 6 (with_reducible refine kA ?_)
              with_reducible refine rA ?_
              have HGS : Hid ((Fil.zero).sub.length ≤ 1000) := Lib.hid (by decide)
              have HCF : Hid (Tg.candF s.data.toList k n = Fil.zero) := Lib.hid (Tg.candF_no HUF.out)
              have HIk := Lib.hid (HI.out k n Fil.zero)
              have HXk := Lib.hid (HX.out k n Fil.zero)
              rw [show cellsF Fil.zero (fsOf Fil.zero) = cellsZ from rfl] at HIk HXk
              obtain ⟨v, hv⟩ : ∃ v, Tg.okB ⟨k, n, Fil.zero⟩ = v := ⟨_, rfl⟩
              obtain ⟨t, ht, et⟩ := exists_bytes (Tg.textT ⟨k, n, Fil.zero⟩)
              rw [et] at HXk
              rw [hv] at HIk
              obtain ⟨q, hq⟩ : ∃ q, (Tg.textT ⟨k, n, Fil.zero⟩ == s.data.toList) = q := ⟨_, rfl⟩
              have hq2 : (t.toList == s.toList) = q := by rw [Lib.toList_data, Lib.toList_data, ht]; exact hq
              have HC : Hid (Tg.hitC s.data.toList k n = (v && q)) := Lib.hid (by unfold Tg.hitC Tg.cand; rw [HCF.out, hv, hq])
              clear ht et hq hv
              cases v with
              | false =>
                go_upto_region 15 with fail
                refine wp_region_lit ?_
                with_reducible refine wL 1 M whole_part Tryz.underlying27 (infoTTg18 (tG_sz cellsZ_size)) ?_
                with_reducible refine wC M (HIk.out _ HGS.out M.b) ?_; clear M; intro u M
                with_reducible refine rA ?_
                iterate 4 (with_reducible refine kA ?_)
                with_reducible refine rA ?_
                go_upto_region 6 with fail
                refine wp_region_lit ?_
                with_reducible refine rA ?_
                (with_reducible refine rB (.int .i64 ((n + 1 : Nat) : Int)) ?_ ?_); (· go_simp; (try exact IntWalk.i64_in _ (by omega)))
                with_reducible refine rA ?_
                go_wp2_with fail
                go_roundw
                case rel => exact ⟨n + 1, by omega, rfl, Lib.hid (HN.out.next HC.out), M.take 1⟩
                case measure => simp [intOf]; omega
              | true =>
                go_upto_region 15 with fail
                refine wp_region_lit ?_
                with_reducible refine wL 1 M whole_part Tryz.underlying27 (infoTTg18 (tG_sz cellsZ_size)) ?_
                with_reducible refine wC M (HIk.out _ HGS.out M.b) ?_; clear M; intro u M
                with_reducible refine rA ?_
                with_reducible refine wL 1 M whole_part Tryz.underlying27 (infoTTg18 (tG_sz cellsZ_size)) ?_
                with_reducible refine wC M (HXk.out _ HGS.out M.b) ?_; clear M; intro u M
                iterate 3 (with_reducible refine rA ?_)
                cases q with
                | false =>
                  go_upto_region 6 with fail
                  refine wp_region_lit ?_
                  with_reducible refine rA ?_
                  (with_reducible refine rB (.int .i64 ((n + 1 : Nat) : Int)) ?_ ?_); (· go_simp; (try exact IntWalk.i64_in _ (by omega)))
                  with_reducible refine rA ?_
                  go_wp2_with fail
                  go_roundw
                  case rel => exact ⟨n + 1, by omega, rfl, Lib.hid (HN.out.next HC.out), M.take 1⟩
                  case measure => simp [intOf]; omega
                | true =>
                  go_upto_region 16 with fail
                  refine wp_region_lit ?_
                  with_reducible refine wL 1 M whole_part Tryz.underlying27 (infoTTg18 (tG_sz cellsZ_size)) ?_
                  with_reducible refine wS 0 M (laid_all (tG_sz cellsZ_size) (tG_sz cellsZ_size)) (infoTTg18 (tG_sz cellsZ_size)) (tG_one cellsZ_one) (fit_2 (tG_sz cellsZ_size) (tG_sz cellsZ_size) (by decide)) ?_; clear M; intro u M
                  with_reducible refine rA ?_
                  have HP := Lib.hid (Tg.cand_hit HC.out)
                  have hL := M.read 0 Tryz.underlying27 (infoTTg18 (tG_sz cellsZ_size)) rfl rfl
                  go_wp2_with fail
                  exact bodyPost_ret (v := .tuple #[.agg (tG (k : Int) (n : Int) cellsZ), .int .i64 0]) (results_cell_tmp Tryz.results16 (by rfl) (by rfl) hL) rfl ⟨(by rw [HP.out.1, HP.out.2]; unfold Tg.cand; rw [HCF.out]; rfl), M.b⟩
            | true =>
              obtain ⟨b5, hb5⟩ : ∃ b, decide (bg.size < s.size) = b := ⟨_, rfl⟩
              cases b5 with
              | false =>
                go_upto_region 12 with fail
                refine wp_region_lit ?_
                with_reducible refine rA ?_
                with_reducible refine wC M (HHk.out _ hk1 hk14 M.b) ?_; clear M; intro u M
                iterate 8 (with_reducible refine rA ?_)
                iterate 6 (with_reducible refine kA ?_)
                with_reducible refine rA ?_
                have HGS : Hid ((Fil.zero).sub.length ≤ 1000) := Lib.hid (by decide)
                have HCF : Hid (Tg.candF s.data.toList k n = Fil.zero) := Lib.hid (Tg.candF_short HBL.out (by have := of_decide_eq_false hb5; omega))
                have HIk := Lib.hid (HI.out k n Fil.zero)
                have HXk := Lib.hid (HX.out k n Fil.zero)
                rw [show cellsF Fil.zero (fsOf Fil.zero) = cellsZ from rfl] at HIk HXk
                obtain ⟨v, hv⟩ : ∃ v, Tg.okB ⟨k, n, Fil.zero⟩ = v := ⟨_, rfl⟩
                obtain ⟨t, ht, et⟩ := exists_bytes (Tg.textT ⟨k, n, Fil.zero⟩)
                rw [et] at HXk
                rw [hv] at HIk
                obtain ⟨q, hq⟩ : ∃ q, (Tg.textT ⟨k, n, Fil.zero⟩ == s.data.toList) = q := ⟨_, rfl⟩
                have hq2 : (t.toList == s.toList) = q := by rw [Lib.toList_data, Lib.toList_data, ht]; exact hq
                have HC : Hid (Tg.hitC s.data.toList k n = (v && q)) := Lib.hid (by unfold Tg.hitC Tg.cand; rw [HCF.out, hv, hq])
                clear ht et hq hv
                cases v with
                | false =>
                  go_upto_region 15 with fail
                  refine wp_region_lit ?_
                  with_reducible refine wL 1 M whole_part Tryz.underlying27 (infoTTg18 (tG_sz cellsZ_size)) ?_
                  with_reducible refine wC M (HIk.out _ HGS.out M.b) ?_; clear M; intro u M
                  with_reducible refine rA ?_
                  iterate 4 (with_reducible refine kA ?_)
                  with_reducible refine rA ?_
                  go_upto_region 6 with fail
                  refine wp_region_lit ?_
                  with_reducible refine rA ?_
                  (with_reducible refine rB (.int .i64 ((n + 1 : Nat) : Int)) ?_ ?_); (· go_simp; (try exact IntWalk.i64_in _ (by omega)))
                  with_reducible refine rA ?_
                  go_wp2_with fail
                  go_roundw
                  case rel => exact ⟨n + 1, by omega, rfl, Lib.hid (HN.out.next HC.out), M.take 1⟩
                  case measure => simp [intOf]; omega
                | true =>
                  go_upto_region 15 with fail
                  refine wp_region_lit ?_
                  with_reducible refine wL 1 M whole_part Tryz.underlying27 (infoTTg18 (tG_sz cellsZ_size)) ?_
                  with_reducible refine wC M (HIk.out _ HGS.out M.b) ?_; clear M; intro u M
                  with_reducible refine rA ?_
                  with_reducible refine wL 1 M whole_part Tryz.underlying27 (infoTTg18 (tG_sz cellsZ_size)) ?_
                  with_reducible refine wC M (HXk.out _ HGS.out M.b) ?_; clear M; intro u M
                  iterate 3 (with_reducible refine rA ?_)
                  cases q with
                  | false =>
                    go_upto_region 6 with fail
                    refine wp_region_lit ?_
                    with_reducible refine rA ?_
                    (with_reducible refine rB (.int .i64 ((n + 1 : Nat) : Int)) ?_ ?_); (· go_simp; (try exact IntWalk.i64_in _ (by omega)))
                    with_reducible refine rA ?_
                    go_wp2_with fail
                    go_roundw
                    case rel => exact ⟨n + 1, by omega, rfl, Lib.hid (HN.out.next HC.out), M.take 1⟩
                    case measure => simp [intOf]; omega
                  | true =>
                    go_upto_region 16 with fail
                    refine wp_region_lit ?_
                    with_reducible refine wL 1 M whole_part Tryz.underlying27 (infoTTg18 (tG_sz cellsZ_size)) ?_
                    with_reducible refine wS 0 M (laid_all (tG_sz cellsZ_size) (tG_sz cellsZ_size)) (infoTTg18 (tG_sz cellsZ_size)) (tG_one cellsZ_one) (fit_2 (tG_sz cellsZ_size) (tG_sz cellsZ_size) (by decide)) ?_; clear M; intro u M
                    with_reducible refine rA ?_
                    have HP := Lib.hid (Tg.cand_hit HC.out)
                    have hL := M.read 0 Tryz.underlying27 (infoTTg18 (tG_sz cellsZ_size)) rfl rfl
                    go_wp2_with fail
                    exact bodyPost_ret (v := .tuple #[.agg (tG (k : Int) (n : Int) cellsZ), .int .i64 0]) (results_cell_tmp Tryz.results16 (by rfl) (by rfl) hL) rfl ⟨(by rw [HP.out.1, HP.out.2]; unfold Tg.cand; rw [HCF.out]; rfl), M.b⟩
              | true =>
                obtain ⟨b6, hb6⟩ : ∃ b, ((s.extract 0 bg.size).toList == bg.toList) = b := ⟨_, rfl⟩
                have hlt := of_decide_eq_true hb5
                have hle : (bg.size : Int) ≤ (s.size : Int) := by omega
                go_upto_region 12 with fail
                refine wp_region_lit ?_
                with_reducible refine rA ?_
                with_reducible refine wC M (HHk.out _ hk1 hk14 M.b) ?_; clear M; intro u M
                iterate 11 (with_reducible refine rA ?_)
                (with_reducible refine rB (.string (s.extract 0 bg.size)) ?_ ?_); (· go_simp; (try with_reducible rfl))
                iterate 3 (with_reducible refine rA ?_)
                cases b6 with
                | false =>
                  have HGS : Hid ((Fil.zero).sub.length ≤ 1000) := Lib.hid (by decide)
                  have HCF : Hid (Tg.candF s.data.toList k n = Fil.zero) := Lib.hid (Tg.candF_pre HBL.out hb6)
                  have HIk := Lib.hid (HI.out k n Fil.zero)
                  have HXk := Lib.hid (HX.out k n Fil.zero)
                  rw [show cellsF Fil.zero (fsOf Fil.zero) = cellsZ from rfl] at HIk HXk
                  obtain ⟨v, hv⟩ : ∃ v, Tg.okB ⟨k, n, Fil.zero⟩ = v := ⟨_, rfl⟩
                  obtain ⟨t, ht, et⟩ := exists_bytes (Tg.textT ⟨k, n, Fil.zero⟩)
                  rw [et] at HXk
                  rw [hv] at HIk
                  obtain ⟨q, hq⟩ : ∃ q, (Tg.textT ⟨k, n, Fil.zero⟩ == s.data.toList) = q := ⟨_, rfl⟩
                  have hq2 : (t.toList == s.toList) = q := by rw [Lib.toList_data, Lib.toList_data, ht]; exact hq
                  have HC : Hid (Tg.hitC s.data.toList k n = (v && q)) := Lib.hid (by unfold Tg.hitC Tg.cand; rw [HCF.out, hv, hq])
                  clear ht et hq hv
                  cases v with
                  | false =>
                    go_upto_region 15 with fail
                    refine wp_region_lit ?_
                    with_reducible refine wL 1 M whole_part Tryz.underlying27 (infoTTg18 (tG_sz cellsZ_size)) ?_
                    with_reducible refine wC M (HIk.out _ HGS.out M.b) ?_; clear M; intro u M
                    with_reducible refine rA ?_
                    iterate 4 (with_reducible refine kA ?_)
                    with_reducible refine rA ?_
                    go_upto_region 6 with fail
                    refine wp_region_lit ?_
                    with_reducible refine rA ?_
                    (with_reducible refine rB (.int .i64 ((n + 1 : Nat) : Int)) ?_ ?_); (· go_simp; (try exact IntWalk.i64_in _ (by omega)))
                    with_reducible refine rA ?_
                    go_wp2_with fail
                    go_roundw
                    case rel => exact ⟨n + 1, by omega, rfl, Lib.hid (HN.out.next HC.out), M.take 1⟩
                    case measure => simp [intOf]; omega
                  | true =>
                    go_upto_region 15 with fail
                    refine wp_region_lit ?_
                    with_reducible refine wL 1 M whole_part Tryz.underlying27 (infoTTg18 (tG_sz cellsZ_size)) ?_
                    with_reducible refine wC M (HIk.out _ HGS.out M.b) ?_; clear M; intro u M
                    with_reducible refine rA ?_
                    with_reducible refine wL 1 M whole_part Tryz.underlying27 (infoTTg18 (tG_sz cellsZ_size)) ?_
                    with_reducible refine wC M (HXk.out _ HGS.out M.b) ?_; clear M; intro u M
                    iterate 3 (with_reducible refine rA ?_)
                    cases q with
                    | false =>
                      go_upto_region 6 with fail
                      refine wp_region_lit ?_
                      with_reducible refine rA ?_
                      (with_reducible refine rB (.int .i64 ((n + 1 : Nat) : Int)) ?_ ?_); (· go_simp; (try exact IntWalk.i64_in _ (by omega)))
                      with_reducible refine rA ?_
                      go_wp2_with fail
                      go_roundw
                      case rel => exact ⟨n + 1, by omega, rfl, Lib.hid (HN.out.next HC.out), M.take 1⟩
                      case measure => simp [intOf]; omega
                    | true =>
                      go_upto_region 16 with fail
                      refine wp_region_lit ?_
                      with_reducible refine wL 1 M whole_part Tryz.underlying27 (infoTTg18 (tG_sz cellsZ_size)) ?_
                      with_reducible refine wS 0 M (laid_all (tG_sz cellsZ_size) (tG_sz cellsZ_size)) (infoTTg18 (tG_sz cellsZ_size)) (tG_one cellsZ_one) (fit_2 (tG_sz cellsZ_size) (tG_sz cellsZ_size) (by decide)) ?_; clear M; intro u M
                      with_reducible refine rA ?_
                      have HP := Lib.hid (Tg.cand_hit HC.out)
                      have hL := M.read 0 Tryz.underlying27 (infoTTg18 (tG_sz cellsZ_size)) rfl rfl
                      go_wp2_with fail
                      exact bodyPost_ret (v := .tuple #[.agg (tG (k : Int) (n : Int) cellsZ), .int .i64 0]) (results_cell_tmp Tryz.results16 (by rfl) (by rfl) hL) rfl ⟨(by rw [HP.out.1, HP.out.2]; unfold Tg.cand; rw [HCF.out]; rfl), M.b⟩
                | true =>
                  have hx1 : IntKind.i64.wrap ((s.size : Int) - 1) = ((s.size - 1 : Nat) : Int) := by rw [IntWalk.i64_in _ (by omega)]; omega
                  have h51 : (bg.size : Int) ≤ ((s.size - 1 : Nat) : Int) := by omega
                  have h52 : ((s.size - 1 : Nat) : Int) ≤ (s.size : Int) := by omega
                  obtain ⟨m, hm⟩ : ∃ m, m = s.extract bg.size (s.size - 1) := ⟨_, rfl⟩
                  have HMM := Lib.hid hm
                  have HMS : Hid (m.size ≤ 1000000) := Lib.hid (by rw [hm, ByteArray.size_extract]; omega)
                  have HCF : Hid (Tg.candF s.data.toList k n = Fil.parseV m.data.toList) := Lib.hid (Tg.candF_yes HUF.out HBL.out (by omega) hb6 hm)
                  clear hm
                  have HFm := Lib.hid (HF.out m)
                  obtain ⟨g, eg⟩ : ∃ g, Fil.parseV m.data.toList = g := ⟨_, rfl⟩
                  obtain ⟨er, eer⟩ : ∃ x, Fil.parseE m.data.toList = x := ⟨_, rfl⟩
                  have HGS : Hid (g.sub.length ≤ 1000) := Lib.hid (by rw [← eg]; exact Nat.le_trans (parseV_subT _) (by decide))
                  rw [eg, eer] at HFm
                  rw [eg] at HCF
                  clear eg eer
                  go_upto_region 13 with fail
                  refine wp_region_lit ?_
                  iterate 5 (with_reducible refine rA ?_)
                  (with_reducible refine rB (.int .i64 ((s.size - 1 : Nat) : Int)) ?_ ?_); (· go_simp; (try rw [hx1]))
                  (with_reducible refine rB (.string m) ?_ ?_); (· rw [HMM.out]; go_simp; (try with_reducible rfl))
                  with_reducible refine wC M (HFm.out _ HMS.out M.b) ?_; clear M; intro u M
                  with_reducible refine rA ?_
                  (with_reducible refine rB (.agg (cellsF g (fsOf g))) ?_ ?_); (· go_simp; (try with_reducible rfl))
                  with_reducible refine rA ?_
                  with_reducible refine wA cellsZ M ?_; clear M; intro pB8 u M; refine ⟨_, by (simp only [pu, sB, s0, sS]; rfl), ?_⟩
                  with_reducible refine wS 2 M (laid_all (cellsF_size g (fsOf g)) cellsZ_size) (infoTF16 (cellsF_size g (fsOf g))) (cellsF_one g (fsOf g)) (fit_2 cellsZ_size (cellsF_size g (fsOf g)) (by decide)) ?_; clear M; intro u M
                  with_reducible refine rA ?_
                  go_upto_region 14 with fail
                  refine wp_region_lit ?_
                  with_reducible refine wL 2 M whole_part Tryz.underlying25 (infoTF16 (cellsF_size g (fsOf g))) ?_
                  with_reducible refine rA ?_
                  with_reducible refine wS 1 M (tG_pf (Eq.trans (cellsF_size g (fsOf g)) (Eq.symm cellsZ_size))) (infoTF16 (cellsF_size g (fsOf g))) (cellsF_one g (fsOf g)) (fit_2 (tG_sz cellsZ_size) (cellsF_size g (fsOf g)) (by decide)) ?_; clear M; intro u M
                  have HIk := Lib.hid (HI.out k n g)
                  have HXk := Lib.hid (HX.out k n g)
                  obtain ⟨v, hv⟩ : ∃ v, Tg.okB ⟨k, n, g⟩ = v := ⟨_, rfl⟩
                  obtain ⟨t, ht, et⟩ := exists_bytes (Tg.textT ⟨k, n, g⟩)
                  rw [et] at HXk
                  rw [hv] at HIk
                  obtain ⟨q, hq⟩ : ∃ q, (Tg.textT ⟨k, n, g⟩ == s.data.toList) = q := ⟨_, rfl⟩
                  have hq2 : (t.toList == s.toList) = q := by rw [Lib.toList_data, Lib.toList_data, ht]; exact hq
                  have HC : Hid (Tg.hitC s.data.toList k n = (v && q)) := Lib.hid (by unfold Tg.hitC Tg.cand; rw [HCF.out, hv, hq])
                  clear ht et hq hv
                  cases v with
                  | false =>
                    go_upto_region 15 with fail
                    refine wp_region_lit ?_
                    with_reducible refine wL 1 M whole_part Tryz.underlying27 (infoTTg18 (tG_sz (cellsF_size g (fsOf g)))) ?_
                    with_reducible refine wC M (HIk.out _ HGS.out M.b) ?_; clear M; intro u M
                    with_reducible refine rA ?_
                    iterate 4 (with_reducible refine kA ?_)
                    with_reducible refine rA ?_
                    go_upto_region 6 with fail
                    refine wp_region_lit ?_
                    with_reducible refine rA ?_
                    (with_reducible refine rB (.int .i64 ((n + 1 : Nat) : Int)) ?_ ?_); (· go_simp; (try exact IntWalk.i64_in _ (by omega)))
                    with_reducible refine rA ?_
                    go_wp2_with fail
                    go_roundw
                    case rel => exact ⟨n + 1, by omega, rfl, Lib.hid (HN.out.next HC.out), M.take 1⟩
                    case measure => simp [intOf]; omega
                  | true =>
                    go_upto_region 15 with fail
                    refine wp_region_lit ?_
                    with_reducible refine wL 1 M whole_part Tryz.underlying27 (infoTTg18 (tG_sz (cellsF_size g (fsOf g)))) ?_
                    with_reducible refine wC M (HIk.out _ HGS.out M.b) ?_; clear M; intro u M
                    with_reducible refine rA ?_
                    with_reducible refine wL 1 M whole_part Tryz.underlying27 (infoTTg18 (tG_sz (cellsF_size g (fsOf g)))) ?_
                    with_reducible refine wC M (HXk.out _ HGS.out M.b) ?_; clear M; intro u M
                    iterate 3 (with_reducible refine rA ?_)
                    cases q with
                    | false =>
                      go_upto_region 6 with fail
                      refine wp_region_lit ?_
                      with_reducible refine rA ?_
                      (with_reducible refine rB (.int .i64 ((n + 1 : Nat) : Int)) ?_ ?_); (· go_simp; (try exact IntWalk.i64_in _ (by omega)))
                      with_reducible refine rA ?_
                      go_wp2_with fail
                      go_roundw
                      case rel => exact ⟨n + 1, by omega, rfl, Lib.hid (HN.out.next HC.out), M.take 1⟩
                      case measure => simp [intOf]; omega
                    | true =>
                      go_upto_region 16 with fail
                      refine wp_region_lit ?_
                      with_reducible refine wL 1 M whole_part Tryz.underlying27 (infoTTg18 (tG_sz (cellsF_size g (fsOf g)))) ?_
                      with_reducible refine wS 0 M (laid_all (tG_sz (cellsF_size g (fsOf g))) (tG_sz cellsZ_size)) (infoTTg18 (tG_sz (cellsF_size g (fsOf g)))) (tG_one (cellsF_one g (fsOf g))) (fit_2 (tG_sz cellsZ_size) (tG_sz (cellsF_size g (fsOf g))) (by decide)) ?_; clear M; intro u M
                      with_reducible refine rA ?_
                      have HP := Lib.hid (Tg.cand_hit HC.out)
                      have hL := M.read 0 Tryz.underlying27 (infoTTg18 (tG_sz (cellsF_size g (fsOf g)))) rfl rfl
                      go_wp2_with fail
                      exact bodyPost_ret (v := .tuple #[.agg (tG (k : Int) (n : Int) (cellsF g (fsOf g))), .int .i64 0]) (results_cell_tmp Tryz.results16 (by rfl) (by rfl) hL) rfl ⟨(by rw [HP.out.1, HP.out.2]; unfold Tg.cand; rw [HCF.out]; rfl), M.b⟩
end Go.Proofs.YtfliogahkfimbaaGreatDoor
namespace Go.Proofs.YtfliogahkfimbaaGreatDoor
open Go.RowKit
open Wd (Bs)

theorem refParseM13 (s : ByteArray) (hs : s.size ≤ 1000000) (w : World) :
    Calls Tryz.prog 29 #[.string s] w fun e w' => e = .returned (.tuple #[.agg (cellsF (Fil.parseV s.data.toList) (fsOf (Fil.parseV s.data.toList))), .int .i64 (Fil.parseE s.data.toList)]) ∧ Below w.heap.size w w' := by
  refine (refParse13 s w hs).mono ?_
  rintro e w1 (⟨a, fs, h1, h2, _, _, h5, rfl, hb⟩ | ⟨h1, h2, rfl, hb⟩)
  · refine ⟨?_, hb⟩
    rw [h1, h2, ← fs_eq (f := a.flt) h5]
    rfl
  · refine ⟨?_, hb⟩
    rw [h1, h2]
    rfl
theorem fsOf_le {g : Fil.Flt} (h : g.sub.length ≤ 1000) : (fsOf g).size ≤ maxLen := by unfold fsOf; rw [size_of]; unfold maxLen; omega
theorem refParse18 (s : ByteArray) (hs : s.size ≤ 1000000) (w : World) :
    Calls Tryz.prog 16 #[.string s] w fun e w' => e = .returned (.tuple #[.agg (cellsT (Tg.pV s.data.toList)), .int .i64 (Tg.pE s.data.toList)]) ∧ Below w.heap.size w w' :=
  refPaIn18 s w hs (Lib.hid fun k W h1 h2 _ => by
      have h := refWord18 (k : Int) W
      rw [show wordT18 (k : Int) = Tg.headL k by unfold wordT18; rw [if_pos (by omega)]; rfl] at h
      exact h)
    (Lib.hid fun k W _ => refHasWho18 k W) (Lib.hid fun k W _ _ _ => refHasFil18 k W)
    (Lib.hid fun n W hn _ => by
      have h := refWho18 (n : Int) W
      rw [show Tg.whoT (n : Int) = Tg.whoL n by unfold Tg.whoT Tg.whoB; rw [decide_eq_true (by omega), if_pos rfl]; rfl] at h
      exact h)
    (Lib.hid fun m W hm _ => refParseM13 m hm W) (Lib.hid fun k n g W hg _ => refIs18 k n g (fsOf g) (fsOf_sub g) (fsOf_le hg) W) (Lib.hid fun k n g W hg _ => refText18 k n g (fsOf g) (fsOf_sub g) (fsOf_le hg) W)
end Go.Proofs.YtfliogahkfimbaaGreatDoor
namespace Go.Proofs.YtfliogahkfimbaaGreatDoor
open Go.RowKit
open Wd (Bs)

set_option maxHeartbeats 8000000 in
set_option maxRecDepth 100000 in
theorem paLongT (s : ByteArray) (w : World)
    (HL : Hid (∀ W, Below w.heap.size w W → Calls Tryz.prog 8 #[] W fun e w' => e = .returned (.bool true) ∧ Below W.heap.size W w')) (hl : decide (500 < (s.size : Int)) = true) :
    Calls Tryz.prog 4 #[.string s] w fun e w' => e = .returned (.bool true) ∧ Below w.heap.size w w' := by

  have M := Mm.nil w
  go_enter Tryz.func4, Tryz.ntmps4
  go_upto_region 0 with fail
  refine wp_region_lit ?_
  with_reducible refine rA ?_
  go_upto_region 1 with fail
  refine wp_region_lit ?_
  iterate 3 (with_reducible refine rA ?_)
  go_upto_region 2 with fail
  refine wp_region_lit ?_
  with_reducible refine wC M (HL.out _ M.b) ?_; clear M; intro u M
  with_reducible refine rA ?_
  go_wp2_with fail
  go_ret
  exact ⟨rfl, M.b⟩

set_option maxHeartbeats 8000000 in
set_option maxRecDepth 100000 in
theorem paShortT (s : ByteArray) (er : Int) (k n : Int) (f : Fil.Flt) (fs : ByteArray) (w : World)
    (HL : Hid (∀ W, Below w.heap.size w W → Calls Tryz.prog 8 #[] W fun e w' => e = .returned (.bool true) ∧ Below W.heap.size W w')) (hl : decide (500 < (s.size : Int)) = false) (HP : Hid (∀ W, Below w.heap.size w W → Calls Tryz.prog 15 #[.string s] W fun e w' => e = .returned (.tuple #[.agg (tG k n (cellsF f fs)), .int .i64 er]) ∧ Below W.heap.size W w')) (HR : Hid (∀ W, Below w.heap.size w W → Calls Tryz.prog 16 #[.string s] W fun e w' => e = .returned (.tuple #[.agg (tG k n (cellsF f fs)), .int .i64 er]) ∧ Below W.heap.size W w')) (hq : ∀ W : World, (Op.equalIn 10000 27 (.agg (tG k n (cellsF f fs))) (.agg (tG k n (cellsF f fs)))).run Tryz.prog W = .ok true W) :
    Calls Tryz.prog 4 #[.string s] w fun e w' => e = .returned (.bool true) ∧ Below w.heap.size w w' := by

  have M := Mm.nil w
  go_enter Tryz.func4, Tryz.ntmps4
  go_upto_region 0 with fail
  refine wp_region_lit ?_
  with_reducible refine rA ?_
  go_upto_region 1 with fail
  refine wp_region_lit ?_
  iterate 3 (with_reducible refine rA ?_)
  go_upto_region 3 with fail
  refine wp_region_lit ?_
  with_reducible refine rA ?_
  with_reducible refine wC M (HP.out _ M.b) ?_; clear M; intro u M
  with_reducible refine rA ?_
  (with_reducible refine rB (.agg (tG k n (cellsF f fs))) ?_ ?_); (· go_simp; (try with_reducible rfl))
  with_reducible refine rA ?_
  with_reducible refine wA (tG 0 0 cellsZ) M ?_; clear M; intro pB3 u M; refine ⟨_, by (simp only [pu, sB, s0, sS]; rfl), ?_⟩
  with_reducible refine wS 0 M (laid_all (tG_sz (cellsF_size f fs)) (tG_sz cellsZ_size)) (infoTTg18 (tG_sz (cellsF_size f fs))) (tG_one (cellsF_one f fs)) (fit_2 (tG_sz cellsZ_size) (tG_sz (cellsF_size f fs)) (by decide)) ?_; clear M; intro u M
  with_reducible refine rA ?_
  go_upto_region 4 with fail
  refine wp_region_lit ?_
  with_reducible refine rA ?_
  with_reducible refine wC M (HR.out _ M.b) ?_; clear M; intro u M
  with_reducible refine rA ?_
  (with_reducible refine rB (.agg (tG k n (cellsF f fs))) ?_ ?_); (· go_simp; (try with_reducible rfl))
  with_reducible refine rA ?_
  with_reducible refine wA (tG 0 0 cellsZ) M ?_; clear M; intro pB5 u M; refine ⟨_, by (simp only [pu, sB, s0, sS]; rfl), ?_⟩
  with_reducible refine wS 1 M (laid_all (tG_sz (cellsF_size f fs)) (tG_sz cellsZ_size)) (infoTTg18 (tG_sz (cellsF_size f fs))) (tG_one (cellsF_one f fs)) (fit_2 (tG_sz cellsZ_size) (tG_sz (cellsF_size f fs)) (by decide)) ?_; clear M; intro u M
  with_reducible refine rA ?_
  go_upto_region 5 with fail
  refine wp_region_lit ?_
  with_reducible refine wL 0 M whole_part Tryz.underlying27 (infoTTg18 (tG_sz (cellsF_size f fs))) ?_
  with_reducible refine wL 1 M whole_part Tryz.underlying27 (infoTTg18 (tG_sz (cellsF_size f fs))) ?_
  iterate 7 (with_reducible refine rA ?_)
  with_reducible refine wC M (HL.out _ M.b) ?_; clear M; intro u M
  iterate 2 (with_reducible refine rA ?_)
  go_wp2_with fail
  go_ret
  exact ⟨rfl, M.b⟩
end Go.Proofs.YtfliogahkfimbaaGreatDoor
namespace Go.Proofs.YtfliogahkfimbaaGreatDoor
open Go.RowKit
open Wd (Bs)

theorem lawTriggerParse (s : ByteArray) (w : World) (hE : Env w) :
    Calls Tryz.prog 4 #[.string s] w fun e w' => e = .returned (.bool true) ∧ Below w.heap.size w w' := by
  have HL : Hid (∀ W, Below w.heap.size w W → Calls Tryz.prog 8 #[] W fun e w' => e = .returned (.bool true) ∧ Below W.heap.size W w') := Lib.hid fun W hb => tgAlive W (hE.below hb)
  cases hl : decide (500 < (s.size : Int)) with
  | true => exact paLongT s w HL hl
  | false =>
    have hle := of_decide_eq_false hl
    obtain ⟨x, hx⟩ : ∃ x, Tg.pV s.data.toList = x := ⟨_, rfl⟩
    obtain ⟨er, he⟩ : ∃ x, Tg.pE s.data.toList = x := ⟨_, rfl⟩
    have HP : Hid (∀ W, Below w.heap.size w W → _) := Lib.hid fun W hb => tgParse s (by omega) W (hE.below hb)
    have HR : Hid (∀ W, Below w.heap.size w W → _) := Lib.hid fun W _ => refParse18 s (by omega) W
    rw [hx, he] at HP HR
    exact paShortT s er x.k x.n x.f (fsOf x.f) w HL hl HP HR (fun W => run_eq_selfT x W)
end Go.Proofs.YtfliogahkfimbaaGreatDoor
