/-
  CONTRACT OF LAYER 13's REFERENCE: Parse (a filter's cells as a letter). By an AI agent.
-/
import Derived.Test.YtbcgkeclmioeiaaGreatDoorFilRefD
import Derived.Test.YtbcgkeclmioeiaaGreatDoorRfGA
import Derived.Test.YtbcgkeclmioeiaaGreatDoorRfGD
import Derived.Deep.Cut
namespace Go.Proofs.YtbcgkeclmioeiaaGreatDoor
open Go.RowKit
open Wd (Bs)

/-- a row of strings in a block from B on -/
def RowFar (B : Nat) (w : World) (ad : Option Addr) (l : List Bs) : Prop := ∀ (i : Nat) x, l[i]? = some x → ∃ g, ad = some ⟨g, 0, none⟩ ∧ B ≤ g ∧ g < w.heap.size ∧ w.cell? ⟨g, i, none⟩ = some (str x)
theorem RowFar.of {B : Nat} {w : World} {v : Value} {l : List Bs} (h : OwnStrs B w v l) : ∃ ad cap, v = .slice ad l.length cap ∧ l.length ≤ cap ∧ cap ≤ maxLen ∧ RowFar B w ad l := by
  rcases h.shape with ⟨rfl, rfl⟩ | ⟨g, cap, rfl, h1, h2, h3, h4, h5⟩
  · exact ⟨none, 0, rfl, Nat.le_refl _, by decide, fun i x hx => by simp at hx⟩
  · exact ⟨_, cap, rfl, h3, h4, fun i x hx => ⟨g, rfl, h1, h2, h5 i x hx⟩⟩
theorem RowFar.below {B : Nat} {w w' : World} {ad : Option Addr} {l : List Bs} (h : RowFar B w ad l) (hb : Below w.heap.size w w') : RowFar B w' ad l := fun i x hx => by
  obtain ⟨g, e, h1, h2, h3⟩ := h i x hx
  exact ⟨g, e, h1, Nat.lt_of_lt_of_le h2 hb.size, by rw [hb.cell (p := ⟨g, i, none⟩) h2]; exact h3⟩
theorem RowFar.whole {B b : Nat} {w : World} {ad : Option Addr} {l : List Bs} (h : RowFar B w ad l) (hb : b < B) (vs : List Value) : RowFar B (w.setCells b 0 vs) ad l := fun i x hx => by
  obtain ⟨g, e, h1, h2, h3⟩ := h i x hx
  exact ⟨g, e, h1, by rw [size_whole]; exact h2, by rw [cell_wholeElse vs i (by omega)]; exact h3⟩
theorem foldN_ok : ∀ (l : List Bs) (a : Fil.Acc), Fil.Ok a → Fil.Ok (l.foldl Fil.wordN a)
  | [], _, h => h
  | x :: l, _, h => foldN_ok l _ (Fil.wordN_ok x h)
theorem foldN_step {l : List Bs} {k : Nat} {x : Bs} (h : l[k]? = some x) : (l.take (k + 1)).foldl Fil.wordN Fil.zeroA = Fil.wordN ((l.take k).foldl Fil.wordN Fil.zeroA) x := by
  rw [List.take_add_one, h]
  simp [List.foldl_append]
theorem subOf_le (x w : Bs) {n : Nat} (hx : x.length ≤ n) (hw : w.length ≤ n) : (Fil.subOf x w).length ≤ n := by
  unfold Fil.subOf
  split
  · simp; omega
  · exact hx
theorem foldN_sub {n : Nat} : ∀ (l : List Bs) (a : Fil.Acc), a.sub.length ≤ n → (∀ x ∈ l, x.length ≤ n) → (l.foldl Fil.wordN a).sub.length ≤ n
  | [], _, h, _ => h
  | x :: l, _, h, hl => foldN_sub l _ (subOf_le _ _ h (hl x (by simp))) fun y hy => hl y (by simp [hy])

theorem split_parts_size {l p : Bs} {c : UInt8} (h : p ∈ Wd.split l c) : p.length ≤ l.length := by
  have key : ∀ i, ∀ q ∈ (Wd.partsTo (Wd.sepAt l c) l i).1, q.length ≤ l.length := by
    intro i
    induction i with
    | zero => intro q hq; simp [Wd.partsTo] at hq
    | succ i ih =>
      intro q hq
      simp only [Wd.partsTo] at hq
      split at hq
      · simp at hq
        rcases hq with hq | rfl
        · exact ih q hq
        · simp [Wd.slice]; omega
      · exact ih q hq
  unfold Wd.split at h
  split at h
  · simp at h; subst h; exact Nat.le_refl _
  · simp at h
    rcases h with h | rfl
    · exact key _ _ h
    · simp [Wd.slice]
theorem split_count {l : Bs} {c : UInt8} {n : Nat} (h : l.length ≤ n) : (Wd.split l c).length ≤ n + 1 := by have := (Wd.split_len l c).2; omega
theorem split_part {l : Bs} {c : UInt8} {n : Nat} (h : l.length ≤ n) : ∀ x ∈ Wd.split l c, x.length ≤ n := fun x hx => by have := split_parts_size hx; omega
set_option maxHeartbeats 8000000 in
set_option maxRecDepth 100000 in
theorem refParse13 (s : ByteArray) (w : World) (hs : s.size ≤ 1000000) :
    Calls Tryz.prog 42 #[.string s] w (ParseRes s.data.toList w) := by
  obtain ⟨l, hl⟩ : ∃ l, l = Wd.split s.data.toList 32 := ⟨_, rfl⟩
  have hll : l.length ≤ 1000001 := by rw [hl]; exact split_count hs
  have hlx : ∀ x ∈ l, x.length ≤ 1000000 := by rw [hl]; exact split_part hs
  have HS : Hid (∀ W, Calls Tryz.prog 86 #[.string s, .int .u8 32] W (StrsRes l W)) := Lib.hid fun W => by rw [hl]; exact refSplit s 32 W (by omega)
  have HREF : Hid (Fil.refP s.data.toList = (l.foldl Fil.wordN Fil.zeroA).flt) := Lib.hid (by rw [hl]; rfl)
  obtain ⟨w0, hw0⟩ : ∃ w0, w0 = (w.alloc (.cells cellsZ 25)).alloc (.cells cellsZ 25) := ⟨_, rfl⟩
  obtain ⟨F, hF⟩ : ∃ F, F = w.heap.size + 1 := ⟨_, rfl⟩
  have r0 : Blk w0 w.heap.size cellsZ 25 := by rw [hw0]; exact (Blk.new w _ _).alloc _
  have f0 : Blk w0 F cellsZ 25 := by
    have h := Blk.new (w.alloc (.cells cellsZ 25)) cellsZ 25
    rw [hw0, hF]; simpa using h
  have b0 : Below w.heap.size w w0 := by rw [hw0]; exact ((Below.refl _ _).alloc (Nat.le_refl _) _).alloc (by simp) _
  have hz0 : w0.heap.size = F + 1 := by rw [hw0, hF]; simp
  have HFR : Hid (w.heap.size ≠ F) := Lib.hid (by omega)
  have HFL : Hid (w.heap.size ≤ F) := Lib.hid (by omega)
  have HZ0 := Lib.hid hz0
  have R0 := Lib.hid r0
  have F0 := Lib.hid f0
  have B0 := Lib.hid b0
  have HLX := Lib.hid hlx
  have HL := Lib.hid hl
  have HSS := Lib.hid hs
  clear r0 f0 b0 hlx hz0 hl hs
  go_enter Tryz.func42, Tryz.ntmps42
  go_wp2_with fail
  rw [show (w.alloc (.cells #[.int .i64 0, .int .i64 0, .int .i64 0, .int .i64 0, .int .i64 0, .int .i64 0, .int .i64 0, .string ⟨#[]⟩, .int .i64 0, .int .i64 0, .int .i64 0, .int .i64 0, .int .i64 0, .int .i64 0, .int .i64 0, .int .i64 0] 25)).alloc (.cells #[.int .i64 0, .int .i64 0, .int .i64 0, .int .i64 0, .int .i64 0, .int .i64 0, .int .i64 0, .string ⟨#[]⟩, .int .i64 0, .int .i64 0, .int .i64 0, .int .i64 0, .int .i64 0, .int .i64 0, .int .i64 0, .int .i64 0] 25) = w0 from hw0.symm, ← hF]
  clear hw0 hF
  refine (HS.out _).mono ?_
  rintro e w1 ⟨v, rfl, hown, hb1⟩
  obtain ⟨ad, cap, rfl, hcap, hmx, hrow⟩ := RowFar.of hown
  have hm1 : l.length ≤ maxLen := by omega
  have R1 := Lib.hid (R0.out.below hb1 R0.out.lt)
  have F1 := Lib.hid (F0.out.below hb1 F0.out.lt)
  have B1 := Lib.hid (B0.out.trans (hb1.mono B0.out.size))
  have W1 : Hid (RowFar (F + 1) w1 ad l) := Lib.hid (by rw [← HZ0.out]; exact hrow)
  clear hown hrow hb1 R0 F0 B0
  unfold maxLen at hmx hm1
  go_wp2_with fail
  go_loopw [6] (fun iv wr => ∃ (k : Nat) (a : Fil.Acc) (fs : ByteArray), k ≤ l.length ∧ iv = .int .i64 (k : Int) ∧ Hid (a = (l.take k).foldl Fil.wordN Fil.zeroA ∧ a.sub = fs.data.toList) ∧ Hid (Blk wr F (cellsA a fs) 25) ∧ Hid (Blk wr w.heap.size cellsZ 25) ∧ Hid (RowFar (F + 1) wr ad l) ∧ Hid (Below w.heap.size w wr)) (fun iv _ => l.length - (intOf iv).toNat)
  case atStart => exact ⟨0, Fil.zeroA, ⟨#[]⟩, by omega, rfl, Lib.hid ⟨rfl, rfl⟩, F1, R1, W1, B1⟩
  case round =>
    obtain ⟨k, a, fs, hk, rfl, HA, HK, HR, HW, HB⟩ := hrel
    by_cases hlt : k < l.length
    · obtain ⟨x, hx⟩ : ∃ x, l[k]? = some x := ⟨l[k], by simp [hlt]⟩
      obtain ⟨sx, hsx, ex⟩ := exists_bytes x
      obtain ⟨g, rfl, hg1, hg2, hg3⟩ := HW.out k x hx
      have d1 : wr.cell? ⟨g, k, none⟩ = some (.string sx) := hg3.trans (congrArg some ex)
      have HSTEP := Lib.hid (foldN_step hx)
      have HC : Hid (∀ W, Calls Tryz.prog 87 #[.agg (cellsA a fs), .string sx] W fun e w' => ∃ (b : Fil.Acc) (hs : ByteArray), b = (l.take (k + 1)).foldl Fil.wordN Fil.zeroA ∧ b.sub = hs.data.toList ∧ e = .returned (.agg (cellsA b hs)) ∧ Below W.heap.size W w') := Lib.hid fun W => by
        refine (refWord13 a fs sx (by rw [HA.out.1]; exact foldN_ok _ _ Fil.zero_ok) HA.out.2 (by have := HLX.out x (List.mem_of_getElem? hx); rw [← hsx] at this; simpa using this) W).mono ?_
        rintro e w' ⟨hs, h1, h2, h3⟩
        refine ⟨Fil.wordN a sx.data.toList, hs, ?_, h1.symm, h2, h3⟩
        rw [HSTEP.out, ← HA.out.1, hsx]
      have HG1 := Lib.hid hg1
      have HG2 := Lib.hid hg2
      clear hx hsx ex hg1 hg2 hg3 HSTEP
      go_upto_region 6 with fail
      refine wp_region_held_drew (S := (fun W : World => W.cell? ⟨g, k, none⟩ = some (.string sx))) (by kernel_rfl) ?_ (fun hHeld => ?_)
      · exact d1
      refine take_run 1 (some 16) (v := ?_) rfl rfl (by kernel_rfl) (by kernel_rfl) (by kernel_rfl) (fun _ _ _ h => h) (by rfl) ?_ (by assumption) ?_
      rotate_left
      · (intro W hSw; (try dsimp only at hSw); go_simp; (try with_reducible rfl))
      simp only [Act.put, List.setIfInBounds_toArray, List.set_cons_zero, List.set_cons_succ]
      refine take_run 2 (some 17) (v := ?_) rfl rfl (by kernel_rfl) (by kernel_rfl) (by kernel_rfl) (fun _ _ _ h => h) (by rfl) ?_ (by assumption) ?_
      rotate_left
      · (intro W hSw; (try dsimp only at hSw); go_simp; (try with_reducible rfl))
      simp only [Act.put, List.setIfInBounds_toArray, List.set_cons_zero, List.set_cons_succ]
      refine take_run 3 (some 18) (v := ?_) rfl rfl (by kernel_rfl) (by kernel_rfl) (by kernel_rfl) (fun _ _ _ h => h) (by rfl) ?_ (by assumption) ?_
      rotate_left
      · (intro W hSw; (try dsimp only at hSw); go_simp; (try with_reducible rfl))
      simp only [Act.put, List.setIfInBounds_toArray, List.set_cons_zero, List.set_cons_succ]
      refine take_run 4 (some 19) (v := ?_) rfl rfl (by kernel_rfl) (by kernel_rfl) (by kernel_rfl) (fun _ _ _ h => h) (by rfl) ?_ (by assumption) ?_
      rotate_left
      · (intro W hSw; (try dsimp only at hSw); go_simp; (try with_reducible rfl))
      simp only [Act.put, List.setIfInBounds_toArray, List.set_cons_zero, List.set_cons_succ]
      refine wpAnyH_ready (rs := [0]) (by kernel_rfl) (by simp) ?_
      refine AllReadyH.cons rfl (fun K0 hK0 => ?_) AllReadyH.nil
      rw [if_pos (by rfl)]
      refine wp_loadS (.tmp 4) rfl (b := F) (cs := cellsA a fs) rfl HK.out.drew Tryz.underlying25 rfl (infoTF _ _) ?_
      refine hK0.out _ _ hHeld (fun hHeld0 => ?_)
      clear hK0 K0
      simp only [Act.put, List.setIfInBounds_toArray]
      refine wpAnyH_ready (rs := [5]) (by kernel_rfl) (by simp) ?_
      refine AllReadyH.cons rfl (fun K1 hK1 => ?_) AllReadyH.nil
      go_simp
      go_at_call 87
      refine (HC.out _).mono ?_
      rintro e w2 ⟨b, hs, hb1, hb2, rfl, hb3⟩
      have hlt2 : g < w2.heap.size := Nat.lt_of_lt_of_le HG2.out hb3.size
      have HK2 : Hid (Blk w2 F (cellsA a fs) 25) := Lib.hid (HK.out.drew.below hb3 HK.out.lt)
      have HR2 : Hid (Blk w2 w.heap.size cellsZ 25) := Lib.hid (HR.out.drew.below hb3 HR.out.lt)
      have HB2 : Hid (Below w.heap.size w w2) := Lib.hid ((show Below w.heap.size w wr.drew from HB.out.drew).trans (hb3.mono HB.out.size))
      have HW2 : Hid (RowFar (F + 1) w2 (some ⟨g, 0, none⟩) l) := Lib.hid (RowFar.below (w := wr.drew) HW.out hb3)
      have d2 : w2.cell? ⟨g, k, none⟩ = some (.string sx) := by rw [hb3.cell (p := ⟨g, k, none⟩) HG2.out]; exact hHeld0
      have HAN : Hid (b = (l.take (k + 1)).foldl Fil.wordN Fil.zeroA ∧ b.sub = hs.data.toList) := Lib.hid ⟨hb1, hb2⟩
      have HD2 := Lib.hid d2
      clear hb1 hb2 hb3 hlt2 d2 HK HR HB HW HA HC
      go_simp
      refine hK1.out _ _ HD2.out (fun hHeld1 => ?_)
      clear hK1 K1 hHeld0 hHeld
      try simp only [Act.put, List.setIfInBounds_toArray, List.set_cons_zero, List.set_cons_succ]
      refine wpAnyH_ready (rs := [6]) (by kernel_rfl) (by simp) ?_
      refine AllReadyH.cons rfl (fun K2 hK2 => ?_) AllReadyH.nil
      rw [if_pos (by rfl)]
      refine wp_storeS (.tmp 4) (.tmp 20) rfl (b := F) (cs := cellsA a fs) (vs := cellsA b hs) rfl rfl HK2.out rfl (infoTF _ _) (cellsA_one _ _) ?_
      have HK3 : Hid (Blk (w2.setCells F 0 (cellsA b hs).toList) F (cellsA b hs) 25) := Lib.hid (HK2.out.whole _ rfl)
      have HR3 : Hid (Blk (w2.setCells F 0 (cellsA b hs).toList) w.heap.size cellsZ 25) := Lib.hid (HR2.out.wholeElse _ HFR.out)
      have HB3 : Hid (Below w.heap.size w (w2.setCells F 0 (cellsA b hs).toList)) := Lib.hid (below_whole _ HB2.out HFL.out)
      have HW3 : Hid (RowFar (F + 1) (w2.setCells F 0 (cellsA b hs).toList) (some ⟨g, 0, none⟩) l) := Lib.hid (HW2.out.whole (Nat.lt_succ_self F) _)
      have HD3 : Hid ((w2.setCells F 0 (cellsA b hs).toList).cell? ⟨g, k, none⟩ = some (.string sx)) := Lib.hid (by rw [cell_wholeElse _ k (by have := HG1.out; omega)]; exact HD2.out)
      clear HK2 HR2 HB2 HW2 HD2
      generalize w2.setCells F 0 (cellsA b hs).toList = w3 at HK3 HR3 HB3 HW3 HD3 ⊢
      refine hK2.out _ _ HD3.out (fun hHeld2 => ?_)
      clear hK2 K2 hHeld1
      simp only [Act.put, List.setIfInBounds_toArray]
      refine wpAnyH_done (by kernel_rfl) ?_ _
      go_wp2_with fail
      go_roundw
      case rel => exact ⟨k + 1, b, hs, by omega, by go_num, HAN, HK3, HR3, HW3, HB3⟩
      case measure => simp [intOf]; omega
    · have hke : k = l.length := by omega
      have HFIN : Hid (Fil.refP s.data.toList = a.flt) := Lib.hid (by rw [HREF.out, HA.out.1, hke, List.take_length])
      have hsub := HA.out.2
      have hlen : fs.size ≤ maxLen := by
        have h1 := foldN_sub (n := 1000000) l Fil.zeroA (by simp [Fil.zeroA]) HLX.out
        have h2 := HA.out.1
        rw [hke, List.take_length] at h2
        rw [← h2, HA.out.2] at h1
        unfold maxLen
        simp at h1
        omega
      obtain ⟨tx, htx, etx⟩ := exists_bytes (Fil.textF a.flt)
      have HIS0 : Hid (∀ W, Calls Tryz.prog 35 #[.agg (cellsA a fs)] W fun e w' => e = .returned (.bool (Fil.validB a.flt)) ∧ Below W.heap.size W w') := Lib.hid fun W => refIs13 a.flt fs hsub hlen W
      have HTX : Hid (∀ W, Calls Tryz.prog 40 #[.agg (cellsA a fs)] W fun e w' => e = .returned (.string tx) ∧ Below W.heap.size W w') := Lib.hid fun W => by rw [← etx]; exact refText13 a.flt fs hsub hlen W
      have HRES0 : Hid (∀ e w', e = .returned (if (Fil.validB a.flt && (tx.toList == s.toList)) = true then .tuple #[.agg (cellsA a fs), .int .i64 0] else .tuple #[.agg cellsZ, .int .i64 3]) → Below w.heap.size w w' → ParseRes s.data.toList w e w') := Lib.hid fun e w' he hb =>
        parseRes_of hsub htx (fun h1 h2 => by rw [← HFIN.out]; exact Fil.ref_yes (by rw [HFIN.out]; exact h1) (by rw [HFIN.out]; exact h2)) (fun h => Fil.ref_no (by rw [HFIN.out]; exact h)) he hb
      obtain ⟨v, hv⟩ : ∃ v, v = Fil.validB a.flt := ⟨_, rfl⟩
      obtain ⟨q, hq⟩ : ∃ q, (tx.toList == s.toList) = q := ⟨_, rfl⟩
      have HIS : Hid (∀ W, Calls Tryz.prog 35 #[.agg (cellsA a fs)] W fun e w' => e = .returned (.bool v) ∧ Below W.heap.size W w') := Lib.hid (by rw [hv]; exact HIS0.out)
      have HRES : Hid (∀ e w', e = .returned (if (v && q) = true then .tuple #[.agg (cellsA a fs), .int .i64 0] else .tuple #[.agg cellsZ, .int .i64 3]) → Below w.heap.size w w' → ParseRes s.data.toList w e w') := Lib.hid (by rw [hv, ← hq]; exact HRES0.out)
      have HQ := Lib.hid hq
      clear hke HA HW HIS0 HRES0 HFIN hsub hlen htx etx hv hq HREF HS HLX HL
      go_upto_region 7 with fail
      have hq : (tx.toList == s.toList) = q := HQ.out
      refine wp_region_lit ?_
      refine wpList_loadS (.tmp 4) (by rfl) rfl HK.out Tryz.underlying25 rfl (infoTF _ _) ?_
      simp only [Act.put, List.setIfInBounds_toArray, List.set_cons_zero, List.set_cons_succ]
      go_wp2_with fail
      refine (HIS.out _).mono ?_
      rintro e wi ⟨rfl, hb⟩
      have HKI := Lib.hid (HK.out.below hb HK.out.lt)
      have HRI := Lib.hid (HR.out.below hb HR.out.lt)
      have HBI := Lib.hid (HB.out.trans (hb.mono HB.out.size))
      clear hb HK HR HB
      go_simp
      rename_i hKK
      refine hKK _ _ ?_
      clear hKK
      try simp only [Act.put, List.setIfInBounds_toArray, List.set_cons_zero, List.set_cons_succ]
      cases v with
      | false =>
        refine wpList_runV (some 23) (v := ?_) rfl (by rfl) ?_ ?_
        rotate_left
        · (go_simp; (try with_reducible rfl))
        simp only [Act.put, List.setIfInBounds_toArray, List.set_cons_zero, List.set_cons_succ]
        refine wpList_runV (some 24) (v := ?_) rfl (by rfl) ?_ ?_
        rotate_left
        · (go_simp; (try with_reducible rfl))
        simp only [Act.put, List.setIfInBounds_toArray, List.set_cons_zero, List.set_cons_succ]
        refine wpList_skipV (some 25) rfl (by rfl) ?_
        simp only [Act.put, List.setIfInBounds_toArray, List.set_cons_zero, List.set_cons_succ]
        refine wpList_skipV (some 26) rfl (by rfl) ?_
        simp only [Act.put, List.setIfInBounds_toArray, List.set_cons_zero, List.set_cons_succ]
        refine wpList_skipV (some 27) rfl (by rfl) ?_
        simp only [Act.put, List.setIfInBounds_toArray, List.set_cons_zero, List.set_cons_succ]
        refine wpList_skipV (some 28) rfl (by rfl) ?_
        simp only [Act.put, List.setIfInBounds_toArray, List.set_cons_zero, List.set_cons_succ]
        refine wpList_runV (some 29) (v := ?_) rfl (by rfl) ?_ ?_
        rotate_left
        · (go_simp; (try with_reducible rfl))
        simp only [Act.put, List.setIfInBounds_toArray, List.set_cons_zero, List.set_cons_succ]
        go_upto_region 8 with fail
        refine wp_region_lit ?_
        refine wpList_runV (some 30) (v := .agg cellsZ) rfl (by rfl) (by go_simp; rfl) ?_
        simp only [Act.put, List.setIfInBounds_toArray, List.set_cons_zero, List.set_cons_succ]
        refine wpList_storeS (.tmp 2) (.tmp 30) rfl rfl HRI.out rfl infoTFZ cellsZ_one ?_
        have HRF := Lib.hid (HRI.out.whole cellsZ rfl)
        have HBF := Lib.hid (below_whole cellsZ.toList (o := 0) HBI.out (Nat.le_refl _))
        generalize World.setCells _ _ _ _ = wf at HRF HBF ⊢
        have hL := readZ HRF.out
        go_wp2_with fail
        exact bodyPost_ret (v := .tuple #[.agg cellsZ, .int .i64 3]) (results_cell_tmp Tryz.results42 (by rfl) (by rfl) hL) rfl (HRES.out _ _ rfl HBF.out)
      | true =>
        refine wpList_runV (some 23) (v := ?_) rfl (by rfl) ?_ ?_
        rotate_left
        · (go_simp; (try with_reducible rfl))
        simp only [Act.put, List.setIfInBounds_toArray, List.set_cons_zero, List.set_cons_succ]
        refine wpList_runV (some 24) (v := ?_) rfl (by rfl) ?_ ?_
        rotate_left
        · (go_simp; (try with_reducible rfl))
        simp only [Act.put, List.setIfInBounds_toArray, List.set_cons_zero, List.set_cons_succ]
        refine wpList_loadS (.tmp 4) (by rfl) rfl HKI.out Tryz.underlying25 rfl (infoTF _ _) ?_
        simp only [Act.put, List.setIfInBounds_toArray, List.set_cons_zero, List.set_cons_succ]
        go_wp2_with fail
        refine (HTX.out _).mono ?_
        rintro e wt ⟨rfl, hb⟩
        have HKT := Lib.hid (HKI.out.below hb HKI.out.lt)
        have HRT := Lib.hid (HRI.out.below hb HRI.out.lt)
        have HBT := Lib.hid (HBI.out.trans (hb.mono HBI.out.size))
        clear hb HKI HRI HBI
        go_simp
        rename_i hKK
        refine hKK _ _ ?_
        clear hKK
        try simp only [Act.put, List.setIfInBounds_toArray, List.set_cons_zero, List.set_cons_succ]
        cases q with
        | false =>
          refine wpList_runV (some 27) (v := ?_) rfl (by rfl) ?_ ?_
          rotate_left
          · (go_simp; (try with_reducible rfl))
          simp only [Act.put, List.setIfInBounds_toArray, List.set_cons_zero, List.set_cons_succ]
          refine wpList_runV (some 28) (v := .bool true) rfl (by rfl) ?_ ?_
          · (go_simp; (try with_reducible rfl))
          simp only [Act.put, List.setIfInBounds_toArray, List.set_cons_zero, List.set_cons_succ]
          refine wpList_runV (some 29) (v := ?_) rfl (by rfl) ?_ ?_
          rotate_left
          · (go_simp; (try with_reducible rfl))
          simp only [Act.put, List.setIfInBounds_toArray, List.set_cons_zero, List.set_cons_succ]
          go_upto_region 8 with fail
          refine wp_region_lit ?_
          refine wpList_runV (some 30) (v := .agg cellsZ) rfl (by rfl) (by go_simp; rfl) ?_
          simp only [Act.put, List.setIfInBounds_toArray, List.set_cons_zero, List.set_cons_succ]
          refine wpList_storeS (.tmp 2) (.tmp 30) rfl rfl HRT.out rfl infoTFZ cellsZ_one ?_
          have HRF := Lib.hid (HRT.out.whole cellsZ rfl)
          have HBF := Lib.hid (below_whole cellsZ.toList (o := 0) HBT.out (Nat.le_refl _))
          generalize World.setCells _ _ _ _ = wf at HRF HBF ⊢
          have hL := readZ HRF.out
          go_wp2_with fail
          exact bodyPost_ret (v := .tuple #[.agg cellsZ, .int .i64 3]) (results_cell_tmp Tryz.results42 (by rfl) (by rfl) hL) rfl (HRES.out _ _ rfl HBF.out)
        | true =>
          refine wpList_runV (some 27) (v := ?_) rfl (by rfl) ?_ ?_
          rotate_left
          · (go_simp; (try with_reducible rfl))
          simp only [Act.put, List.setIfInBounds_toArray, List.set_cons_zero, List.set_cons_succ]
          refine wpList_runV (some 28) (v := .bool false) rfl (by rfl) ?_ ?_
          · (go_simp; (try with_reducible rfl))
          simp only [Act.put, List.setIfInBounds_toArray, List.set_cons_zero, List.set_cons_succ]
          refine wpList_runV (some 29) (v := ?_) rfl (by rfl) ?_ ?_
          rotate_left
          · (go_simp; (try with_reducible rfl))
          simp only [Act.put, List.setIfInBounds_toArray, List.set_cons_zero, List.set_cons_succ]
          go_upto_region 9 with fail
          refine wp_region_lit ?_
          refine wpList_loadS (.tmp 4) (by rfl) rfl HKT.out Tryz.underlying25 rfl (infoTF _ _) ?_
          simp only [Act.put, List.setIfInBounds_toArray, List.set_cons_zero, List.set_cons_succ]
          refine wpList_storeS (.tmp 2) (.tmp 31) rfl rfl HRT.out rfl (infoTF _ _) (cellsA_one _ _) ?_
          have HRF := Lib.hid (HRT.out.whole (cellsA a fs) rfl)
          have HBF := Lib.hid (below_whole (cellsA a fs).toList (o := 0) HBT.out (Nat.le_refl _))
          generalize World.setCells _ _ _ _ = wf at HRF HBF ⊢
          have hL := readA HRF.out
          go_wp2_with fail
          exact bodyPost_ret (v := .tuple #[.agg (cellsA a fs), .int .i64 0]) (results_cell_tmp Tryz.results42 (by rfl) (by rfl) hL) rfl (HRES.out _ _ rfl HBF.out)
end Go.Proofs.YtbcgkeclmioeiaaGreatDoor
