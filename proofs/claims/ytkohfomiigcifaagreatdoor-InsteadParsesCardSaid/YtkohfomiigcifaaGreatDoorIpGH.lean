/-
  MERGED: FilRefE, IpRTrW, IpRPaW, IpRMid, IpRLast, IpRefP, IpLawP, IpLawsP. By an AI agent.
-/
import Derived.Test.YtkohfomiigcifaaGreatDoorFilRefD
import Derived.Test.YtkohfomiigcifaaGreatDoorIpGA
import Derived.Test.YtkohfomiigcifaaGreatDoorIpGE
import Derived.Deep.Cut
import Derived.Test.YtkohfomiigcifaaGreatDoorIpGC
import Derived.Test.YtkohfomiigcifaaGreatDoorFNumR
import Derived.Test.YtkohfomiigcifaaGreatDoorIpGD
namespace Go.Proofs.YtkohfomiigcifaaGreatDoor
open Go.RowKit
open Wd (Bs)

/-- a row of strings in a block from B on -/
def RowFar (B : Nat) (w : World) (ad : Option Addr) (l : List Bs) : Prop := ∀ (i : Nat) x, l[i]? = some x → ∃ g, ad = some ⟨g, 0, none⟩ ∧ B ≤ g ∧ g < w.heap.size ∧ w.cell? ⟨g, i, none⟩ = some (str x)
theorem RowFar.of {B : Nat} {w : World} {v : Value} {l : List Bs} (h : OwnStrs B w v l) : ∃ ad cap, v = .slice ad l.length cap ∧ l.length ≤ cap ∧ cap ≤ maxLen ∧ RowFar B w ad l := by
  rcases h.shape with ⟨rfl, rfl⟩ | ⟨g, cap, rfl, h1, h2, h3, h4, h5⟩
  · exact ⟨none, 0, rfl, Nat.le_refl _, by decide, fun i x hx => by simp at hx⟩
  · exact ⟨_, cap, rfl, h3, h4, fun i x hx => ⟨g, rfl, h1, h2, h5 i x hx⟩⟩
theorem RowFar.below {B : Nat} {w w' : World} {ad : Option Addr} {l : List Bs} (h : RowFar B w ad l) (hb : Below w.heap.size w w') : RowFar B w' ad l := fun i x hx => by
  obtain ⟨g, e, h1, h2, h3⟩ := h i x hx
  exact ⟨g, e, h1, Nat.lt_of_lt_of_le h2 hb.size, by rw [hb.cell (p := ⟨g, i, none⟩) h2]; exact h3⟩
theorem RowFar.whole {B b : Nat} {w : World} {ad : Option Addr} {l : List Bs} (h : RowFar B w ad l) (hb : b < B) (vs : List Value) : RowFar B (w.setCells b 0 vs) ad l := fun i x hx => by
  obtain ⟨g, e, h1, h2, h3⟩ := h i x hx
  exact ⟨g, e, h1, by rw [size_whole]; exact h2, by rw [cell_wholeElse vs i (by omega)]; exact h3⟩
theorem foldN_ok : ∀ (l : List Bs) (a : Fil.Acc), Fil.Ok a → Fil.Ok (l.foldl Fil.wordN a)
  | [], _, h => h
  | x :: l, _, h => foldN_ok l _ (Fil.wordN_ok x h)
theorem foldN_step {l : List Bs} {k : Nat} {x : Bs} (h : l[k]? = some x) : (l.take (k + 1)).foldl Fil.wordN Fil.zeroA = Fil.wordN ((l.take k).foldl Fil.wordN Fil.zeroA) x := by
  rw [List.take_add_one, h]
  simp [List.foldl_append]
theorem subOf_le (x w : Bs) {n : Nat} (hx : x.length ≤ n) (hw : w.length ≤ n) : (Fil.subOf x w).length ≤ n := by
  unfold Fil.subOf
  split
  · simp; omega
  · exact hx
theorem foldN_sub {n : Nat} : ∀ (l : List Bs) (a : Fil.Acc), a.sub.length ≤ n → (∀ x ∈ l, x.length ≤ n) → (l.foldl Fil.wordN a).sub.length ≤ n
  | [], _, h, _ => h
  | x :: l, _, h, hl => foldN_sub l _ (subOf_le _ _ h (hl x (by simp))) fun y hy => hl y (by simp [hy])

theorem split_parts_size {l p : Bs} {c : UInt8} (h : p ∈ Wd.split l c) : p.length ≤ l.length := by
  have key : ∀ i, ∀ q ∈ (Wd.partsTo (Wd.sepAt l c) l i).1, q.length ≤ l.length := by
    intro i
    induction i with
    | zero => intro q hq; simp [Wd.partsTo] at hq
    | succ i ih =>
      intro q hq
      simp only [Wd.partsTo] at hq
      split at hq
      · simp at hq
        rcases hq with hq | rfl
        · exact ih q hq
        · simp [Wd.slice]; omega
      · exact ih q hq
  unfold Wd.split at h
  split at h
  · simp at h; subst h; exact Nat.le_refl _
  · simp at h
    rcases h with h | rfl
    · exact key _ _ h
    · simp [Wd.slice]
theorem split_count {l : Bs} {c : UInt8} {n : Nat} (h : l.length ≤ n) : (Wd.split l c).length ≤ n + 1 := by have := (Wd.split_len l c).2; omega
theorem split_part {l : Bs} {c : UInt8} {n : Nat} (h : l.length ≤ n) : ∀ x ∈ Wd.split l c, x.length ≤ n := fun x hx => by have := split_parts_size hx; omega
set_option maxHeartbeats 8000000 in
set_option maxRecDepth 100000 in
theorem refParse13 (s : ByteArray) (w : World) (hs : s.size ≤ 1000000) :
    Calls Tryz.prog 38 #[.string s] w (ParseRes s.data.toList w) := by
  obtain ⟨l, hl⟩ : ∃ l, l = Wd.split s.data.toList 32 := ⟨_, rfl⟩
  have hll : l.length ≤ 1000001 := by rw [hl]; exact split_count hs
  have hlx : ∀ x ∈ l, x.length ≤ 1000000 := by rw [hl]; exact split_part hs
  have HS : Hid (∀ W, Calls Tryz.prog 74 #[.string s, .int .u8 32] W (StrsRes l W)) := Lib.hid fun W => by rw [hl]; exact refSplit s 32 W (by omega)
  have HREF : Hid (Fil.refP s.data.toList = (l.foldl Fil.wordN Fil.zeroA).flt) := Lib.hid (by rw [hl]; rfl)
  obtain ⟨w0, hw0⟩ : ∃ w0, w0 = (w.alloc (.cells cellsZ 25)).alloc (.cells cellsZ 25) := ⟨_, rfl⟩
  obtain ⟨F, hF⟩ : ∃ F, F = w.heap.size + 1 := ⟨_, rfl⟩
  have r0 : Blk w0 w.heap.size cellsZ 25 := by rw [hw0]; exact (Blk.new w _ _).alloc _
  have f0 : Blk w0 F cellsZ 25 := by
    have h := Blk.new (w.alloc (.cells cellsZ 25)) cellsZ 25
    rw [hw0, hF]; simpa using h
  have b0 : Below w.heap.size w w0 := by rw [hw0]; exact ((Below.refl _ _).alloc (Nat.le_refl _) _).alloc (by simp) _
  have hz0 : w0.heap.size = F + 1 := by rw [hw0, hF]; simp
  have HFR : Hid (w.heap.size ≠ F) := Lib.hid (by omega)
  have HFL : Hid (w.heap.size ≤ F) := Lib.hid (by omega)
  have HZ0 := Lib.hid hz0
  have R0 := Lib.hid r0
  have F0 := Lib.hid f0
  have B0 := Lib.hid b0
  have HLX := Lib.hid hlx
  have HL := Lib.hid hl
  have HSS := Lib.hid hs
  clear r0 f0 b0 hlx hz0 hl hs
  go_enter Tryz.func38, Tryz.ntmps38
  go_wp2_with fail
  rw [show (w.alloc (.cells #[.int .i64 0, .int .i64 0, .int .i64 0, .int .i64 0, .int .i64 0, .int .i64 0, .int .i64 0, .string ⟨#[]⟩, .int .i64 0, .int .i64 0, .int .i64 0, .int .i64 0, .int .i64 0, .int .i64 0, .int .i64 0, .int .i64 0] 25)).alloc (.cells #[.int .i64 0, .int .i64 0, .int .i64 0, .int .i64 0, .int .i64 0, .int .i64 0, .int .i64 0, .string ⟨#[]⟩, .int .i64 0, .int .i64 0, .int .i64 0, .int .i64 0, .int .i64 0, .int .i64 0, .int .i64 0, .int .i64 0] 25) = w0 from hw0.symm, ← hF]
  clear hw0 hF
  refine (HS.out _).mono ?_
  rintro e w1 ⟨v, rfl, hown, hb1⟩
  obtain ⟨ad, cap, rfl, hcap, hmx, hrow⟩ := RowFar.of hown
  have hm1 : l.length ≤ maxLen := by omega
  have R1 := Lib.hid (R0.out.below hb1 R0.out.lt)
  have F1 := Lib.hid (F0.out.below hb1 F0.out.lt)
  have B1 := Lib.hid (B0.out.trans (hb1.mono B0.out.size))
  have W1 : Hid (RowFar (F + 1) w1 ad l) := Lib.hid (by rw [← HZ0.out]; exact hrow)
  clear hown hrow hb1 R0 F0 B0
  unfold maxLen at hmx hm1
  go_wp2_with fail
  go_loopw [6] (fun iv wr => ∃ (k : Nat) (a : Fil.Acc) (fs : ByteArray), k ≤ l.length ∧ iv = .int .i64 (k : Int) ∧ Hid (a = (l.take k).foldl Fil.wordN Fil.zeroA ∧ a.sub = fs.data.toList) ∧ Hid (Blk wr F (cellsA a fs) 25) ∧ Hid (Blk wr w.heap.size cellsZ 25) ∧ Hid (RowFar (F + 1) wr ad l) ∧ Hid (Below w.heap.size w wr)) (fun iv _ => l.length - (intOf iv).toNat)
  case atStart => exact ⟨0, Fil.zeroA, ⟨#[]⟩, by omega, rfl, Lib.hid ⟨rfl, rfl⟩, F1, R1, W1, B1⟩
  case round =>
    obtain ⟨k, a, fs, hk, rfl, HA, HK, HR, HW, HB⟩ := hrel
    by_cases hlt : k < l.length
    · obtain ⟨x, hx⟩ : ∃ x, l[k]? = some x := ⟨l[k], by simp [hlt]⟩
      obtain ⟨sx, hsx, ex⟩ := exists_bytes x
      obtain ⟨g, rfl, hg1, hg2, hg3⟩ := HW.out k x hx
      have d1 : wr.cell? ⟨g, k, none⟩ = some (.string sx) := hg3.trans (congrArg some ex)
      have HSTEP := Lib.hid (foldN_step hx)
      have HC : Hid (∀ W, Calls Tryz.prog 75 #[.agg (cellsA a fs), .string sx] W fun e w' => ∃ (b : Fil.Acc) (hs : ByteArray), b = (l.take (k + 1)).foldl Fil.wordN Fil.zeroA ∧ b.sub = hs.data.toList ∧ e = .returned (.agg (cellsA b hs)) ∧ Below W.heap.size W w') := Lib.hid fun W => by
        refine (refWord13 a fs sx (by rw [HA.out.1]; exact foldN_ok _ _ Fil.zero_ok) HA.out.2 (by have := HLX.out x (List.mem_of_getElem? hx); rw [← hsx] at this; simpa using this) W).mono ?_
        rintro e w' ⟨hs, h1, h2, h3⟩
        refine ⟨Fil.wordN a sx.data.toList, hs, ?_, h1.symm, h2, h3⟩
        rw [HSTEP.out, ← HA.out.1, hsx]
      have HG1 := Lib.hid hg1
      have HG2 := Lib.hid hg2
      clear hx hsx ex hg1 hg2 hg3 HSTEP
      go_upto_region 6 with fail
      refine wp_region_held_drew (S := (fun W : World => W.cell? ⟨g, k, none⟩ = some (.string sx))) (by kernel_rfl) ?_ (fun hHeld => ?_)
      · exact d1
      refine take_run 1 (some 16) (v := ?_) rfl rfl (by kernel_rfl) (by kernel_rfl) (by kernel_rfl) (fun _ _ _ h => h) (by rfl) ?_ (by assumption) ?_
      rotate_left
      · (intro W hSw; (try dsimp only at hSw); go_simp; (try with_reducible rfl))
      simp only [Act.put, List.setIfInBounds_toArray, List.set_cons_zero, List.set_cons_succ]
      refine take_run 2 (some 17) (v := ?_) rfl rfl (by kernel_rfl) (by kernel_rfl) (by kernel_rfl) (fun _ _ _ h => h) (by rfl) ?_ (by assumption) ?_
      rotate_left
      · (intro W hSw; (try dsimp only at hSw); go_simp; (try with_reducible rfl))
      simp only [Act.put, List.setIfInBounds_toArray, List.set_cons_zero, List.set_cons_succ]
      refine take_run 3 (some 18) (v := ?_) rfl rfl (by kernel_rfl) (by kernel_rfl) (by kernel_rfl) (fun _ _ _ h => h) (by rfl) ?_ (by assumption) ?_
      rotate_left
      · (intro W hSw; (try dsimp only at hSw); go_simp; (try with_reducible rfl))
      simp only [Act.put, List.setIfInBounds_toArray, List.set_cons_zero, List.set_cons_succ]
      refine take_run 4 (some 19) (v := ?_) rfl rfl (by kernel_rfl) (by kernel_rfl) (by kernel_rfl) (fun _ _ _ h => h) (by rfl) ?_ (by assumption) ?_
      rotate_left
      · (intro W hSw; (try dsimp only at hSw); go_simp; (try with_reducible rfl))
      simp only [Act.put, List.setIfInBounds_toArray, List.set_cons_zero, List.set_cons_succ]
      refine wpAnyH_ready (rs := [0]) (by kernel_rfl) (by simp) ?_
      refine AllReadyH.cons rfl (fun K0 hK0 => ?_) AllReadyH.nil
      rw [if_pos (by rfl)]
      refine wp_loadS (.tmp 4) rfl (b := F) (cs := cellsA a fs) rfl HK.out.drew Tryz.underlying25 rfl (infoTF _ _) ?_
      refine hK0.out _ _ hHeld (fun hHeld0 => ?_)
      clear hK0 K0
      simp only [Act.put, List.setIfInBounds_toArray]
      refine wpAnyH_ready (rs := [5]) (by kernel_rfl) (by simp) ?_
      refine AllReadyH.cons rfl (fun K1 hK1 => ?_) AllReadyH.nil
      go_simp
      go_at_call 75
      refine (HC.out _).mono ?_
      rintro e w2 ⟨b, hs, hb1, hb2, rfl, hb3⟩
      have hlt2 : g < w2.heap.size := Nat.lt_of_lt_of_le HG2.out hb3.size
      have HK2 : Hid (Blk w2 F (cellsA a fs) 25) := Lib.hid (HK.out.drew.below hb3 HK.out.lt)
      have HR2 : Hid (Blk w2 w.heap.size cellsZ 25) := Lib.hid (HR.out.drew.below hb3 HR.out.lt)
      have HB2 : Hid (Below w.heap.size w w2) := Lib.hid ((show Below w.heap.size w wr.drew from HB.out.drew).trans (hb3.mono HB.out.size))
      have HW2 : Hid (RowFar (F + 1) w2 (some ⟨g, 0, none⟩) l) := Lib.hid (RowFar.below (w := wr.drew) HW.out hb3)
      have d2 : w2.cell? ⟨g, k, none⟩ = some (.string sx) := by rw [hb3.cell (p := ⟨g, k, none⟩) HG2.out]; exact hHeld0
      have HAN : Hid (b = (l.take (k + 1)).foldl Fil.wordN Fil.zeroA ∧ b.sub = hs.data.toList) := Lib.hid ⟨hb1, hb2⟩
      have HD2 := Lib.hid d2
      clear hb1 hb2 hb3 hlt2 d2 HK HR HB HW HA HC
      go_simp
      refine hK1.out _ _ HD2.out (fun hHeld1 => ?_)
      clear hK1 K1 hHeld0 hHeld
      try simp only [Act.put, List.setIfInBounds_toArray, List.set_cons_zero, List.set_cons_succ]
      refine wpAnyH_ready (rs := [6]) (by kernel_rfl) (by simp) ?_
      refine AllReadyH.cons rfl (fun K2 hK2 => ?_) AllReadyH.nil
      rw [if_pos (by rfl)]
      refine wp_storeS (.tmp 4) (.tmp 20) rfl (b := F) (cs := cellsA a fs) (vs := cellsA b hs) rfl rfl HK2.out rfl (infoTF _ _) (cellsA_one _ _) ?_
      have HK3 : Hid (Blk (w2.setCells F 0 (cellsA b hs).toList) F (cellsA b hs) 25) := Lib.hid (HK2.out.whole _ rfl)
      have HR3 : Hid (Blk (w2.setCells F 0 (cellsA b hs).toList) w.heap.size cellsZ 25) := Lib.hid (HR2.out.wholeElse _ HFR.out)
      have HB3 : Hid (Below w.heap.size w (w2.setCells F 0 (cellsA b hs).toList)) := Lib.hid (below_whole _ HB2.out HFL.out)
      have HW3 : Hid (RowFar (F + 1) (w2.setCells F 0 (cellsA b hs).toList) (some ⟨g, 0, none⟩) l) := Lib.hid (HW2.out.whole (Nat.lt_succ_self F) _)
      have HD3 : Hid ((w2.setCells F 0 (cellsA b hs).toList).cell? ⟨g, k, none⟩ = some (.string sx)) := Lib.hid (by rw [cell_wholeElse _ k (by have := HG1.out; omega)]; exact HD2.out)
      clear HK2 HR2 HB2 HW2 HD2
      generalize w2.setCells F 0 (cellsA b hs).toList = w3 at HK3 HR3 HB3 HW3 HD3 ⊢
      refine hK2.out _ _ HD3.out (fun hHeld2 => ?_)
      clear hK2 K2 hHeld1
      simp only [Act.put, List.setIfInBounds_toArray]
      refine wpAnyH_done (by kernel_rfl) ?_ _
      go_wp2_with fail
      go_roundw
      case rel => exact ⟨k + 1, b, hs, by omega, by go_num, HAN, HK3, HR3, HW3, HB3⟩
      case measure => simp [intOf]; omega
    · have hke : k = l.length := by omega
      have HFIN : Hid (Fil.refP s.data.toList = a.flt) := Lib.hid (by rw [HREF.out, HA.out.1, hke, List.take_length])
      have hsub := HA.out.2
      have hlen : fs.size ≤ maxLen := by
        have h1 := foldN_sub (n := 1000000) l Fil.zeroA (by simp [Fil.zeroA]) HLX.out
        have h2 := HA.out.1
        rw [hke, List.take_length] at h2
        rw [← h2, HA.out.2] at h1
        unfold maxLen
        simp at h1
        omega
      obtain ⟨tx, htx, etx⟩ := exists_bytes (Fil.textF a.flt)
      have HIS0 : Hid (∀ W, Calls Tryz.prog 50 #[.agg (cellsA a fs)] W fun e w' => e = .returned (.bool (Fil.validB a.flt)) ∧ Below W.heap.size W w') := Lib.hid fun W => refIs13 a.flt fs hsub hlen W
      have HTX : Hid (∀ W, Calls Tryz.prog 34 #[.agg (cellsA a fs)] W fun e w' => e = .returned (.string tx) ∧ Below W.heap.size W w') := Lib.hid fun W => by rw [← etx]; exact refText13 a.flt fs hsub hlen W
      have HRES0 : Hid (∀ e w', e = .returned (if (Fil.validB a.flt && (tx.toList == s.toList)) = true then .tuple #[.agg (cellsA a fs), .int .i64 0] else .tuple #[.agg cellsZ, .int .i64 3]) → Below w.heap.size w w' → ParseRes s.data.toList w e w') := Lib.hid fun e w' he hb =>
        parseRes_of hsub htx (fun h1 h2 => by rw [← HFIN.out]; exact Fil.ref_yes (by rw [HFIN.out]; exact h1) (by rw [HFIN.out]; exact h2)) (fun h => Fil.ref_no (by rw [HFIN.out]; exact h)) he hb
      obtain ⟨v, hv⟩ : ∃ v, v = Fil.validB a.flt := ⟨_, rfl⟩
      obtain ⟨q, hq⟩ : ∃ q, (tx.toList == s.toList) = q := ⟨_, rfl⟩
      have HIS : Hid (∀ W, Calls Tryz.prog 50 #[.agg (cellsA a fs)] W fun e w' => e = .returned (.bool v) ∧ Below W.heap.size W w') := Lib.hid (by rw [hv]; exact HIS0.out)
      have HRES : Hid (∀ e w', e = .returned (if (v && q) = true then .tuple #[.agg (cellsA a fs), .int .i64 0] else .tuple #[.agg cellsZ, .int .i64 3]) → Below w.heap.size w w' → ParseRes s.data.toList w e w') := Lib.hid (by rw [hv, ← hq]; exact HRES0.out)
      have HQ := Lib.hid hq
      clear hke HA HW HIS0 HRES0 HFIN hsub hlen htx etx hv hq HREF HS HLX HL
      go_upto_region 7 with fail
      have hq : (tx.toList == s.toList) = q := HQ.out
      refine wp_region_lit ?_
      refine wpList_loadS (.tmp 4) (by rfl) rfl HK.out Tryz.underlying25 rfl (infoTF _ _) ?_
      simp only [Act.put, List.setIfInBounds_toArray, List.set_cons_zero, List.set_cons_succ]
      go_wp2_with fail
      refine (HIS.out _).mono ?_
      rintro e wi ⟨rfl, hb⟩
      have HKI := Lib.hid (HK.out.below hb HK.out.lt)
      have HRI := Lib.hid (HR.out.below hb HR.out.lt)
      have HBI := Lib.hid (HB.out.trans (hb.mono HB.out.size))
      clear hb HK HR HB
      go_simp
      rename_i hKK
      refine hKK _ _ ?_
      clear hKK
      try simp only [Act.put, List.setIfInBounds_toArray, List.set_cons_zero, List.set_cons_succ]
      cases v with
      | false =>
        refine wpList_runV (some 23) (v := ?_) rfl (by rfl) ?_ ?_
        rotate_left
        · (go_simp; (try with_reducible rfl))
        simp only [Act.put, List.setIfInBounds_toArray, List.set_cons_zero, List.set_cons_succ]
        refine wpList_runV (some 24) (v := ?_) rfl (by rfl) ?_ ?_
        rotate_left
        · (go_simp; (try with_reducible rfl))
        simp only [Act.put, List.setIfInBounds_toArray, List.set_cons_zero, List.set_cons_succ]
        refine wpList_skipV (some 25) rfl (by rfl) ?_
        simp only [Act.put, List.setIfInBounds_toArray, List.set_cons_zero, List.set_cons_succ]
        refine wpList_skipV (some 26) rfl (by rfl) ?_
        simp only [Act.put, List.setIfInBounds_toArray, List.set_cons_zero, List.set_cons_succ]
        refine wpList_skipV (some 27) rfl (by rfl) ?_
        simp only [Act.put, List.setIfInBounds_toArray, List.set_cons_zero, List.set_cons_succ]
        refine wpList_skipV (some 28) rfl (by rfl) ?_
        simp only [Act.put, List.setIfInBounds_toArray, List.set_cons_zero, List.set_cons_succ]
        refine wpList_runV (some 29) (v := ?_) rfl (by rfl) ?_ ?_
        rotate_left
        · (go_simp; (try with_reducible rfl))
        simp only [Act.put, List.setIfInBounds_toArray, List.set_cons_zero, List.set_cons_succ]
        go_upto_region 8 with fail
        refine wp_region_lit ?_
        refine wpList_runV (some 30) (v := .agg cellsZ) rfl (by rfl) (by go_simp; rfl) ?_
        simp only [Act.put, List.setIfInBounds_toArray, List.set_cons_zero, List.set_cons_succ]
        refine wpList_storeS (.tmp 2) (.tmp 30) rfl rfl HRI.out rfl infoTFZ cellsZ_one ?_
        have HRF := Lib.hid (HRI.out.whole cellsZ rfl)
        have HBF := Lib.hid (below_whole cellsZ.toList (o := 0) HBI.out (Nat.le_refl _))
        generalize World.setCells _ _ _ _ = wf at HRF HBF ⊢
        have hL := readZ HRF.out
        go_wp2_with fail
        exact bodyPost_ret (v := .tuple #[.agg cellsZ, .int .i64 3]) (results_cell_tmp Tryz.results38 (by rfl) (by rfl) hL) rfl (HRES.out _ _ rfl HBF.out)
      | true =>
        refine wpList_runV (some 23) (v := ?_) rfl (by rfl) ?_ ?_
        rotate_left
        · (go_simp; (try with_reducible rfl))
        simp only [Act.put, List.setIfInBounds_toArray, List.set_cons_zero, List.set_cons_succ]
        refine wpList_runV (some 24) (v := ?_) rfl (by rfl) ?_ ?_
        rotate_left
        · (go_simp; (try with_reducible rfl))
        simp only [Act.put, List.setIfInBounds_toArray, List.set_cons_zero, List.set_cons_succ]
        refine wpList_loadS (.tmp 4) (by rfl) rfl HKI.out Tryz.underlying25 rfl (infoTF _ _) ?_
        simp only [Act.put, List.setIfInBounds_toArray, List.set_cons_zero, List.set_cons_succ]
        go_wp2_with fail
        refine (HTX.out _).mono ?_
        rintro e wt ⟨rfl, hb⟩
        have HKT := Lib.hid (HKI.out.below hb HKI.out.lt)
        have HRT := Lib.hid (HRI.out.below hb HRI.out.lt)
        have HBT := Lib.hid (HBI.out.trans (hb.mono HBI.out.size))
        clear hb HKI HRI HBI
        go_simp
        rename_i hKK
        refine hKK _ _ ?_
        clear hKK
        try simp only [Act.put, List.setIfInBounds_toArray, List.set_cons_zero, List.set_cons_succ]
        cases q with
        | false =>
          refine wpList_runV (some 27) (v := ?_) rfl (by rfl) ?_ ?_
          rotate_left
          · (go_simp; (try with_reducible rfl))
          simp only [Act.put, List.setIfInBounds_toArray, List.set_cons_zero, List.set_cons_succ]
          refine wpList_runV (some 28) (v := .bool true) rfl (by rfl) ?_ ?_
          · (go_simp; (try with_reducible rfl))
          simp only [Act.put, List.setIfInBounds_toArray, List.set_cons_zero, List.set_cons_succ]
          refine wpList_runV (some 29) (v := ?_) rfl (by rfl) ?_ ?_
          rotate_left
          · (go_simp; (try with_reducible rfl))
          simp only [Act.put, List.setIfInBounds_toArray, List.set_cons_zero, List.set_cons_succ]
          go_upto_region 8 with fail
          refine wp_region_lit ?_
          refine wpList_runV (some 30) (v := .agg cellsZ) rfl (by rfl) (by go_simp; rfl) ?_
          simp only [Act.put, List.setIfInBounds_toArray, List.set_cons_zero, List.set_cons_succ]
          refine wpList_storeS (.tmp 2) (.tmp 30) rfl rfl HRT.out rfl infoTFZ cellsZ_one ?_
          have HRF := Lib.hid (HRT.out.whole cellsZ rfl)
          have HBF := Lib.hid (below_whole cellsZ.toList (o := 0) HBT.out (Nat.le_refl _))
          generalize World.setCells _ _ _ _ = wf at HRF HBF ⊢
          have hL := readZ HRF.out
          go_wp2_with fail
          exact bodyPost_ret (v := .tuple #[.agg cellsZ, .int .i64 3]) (results_cell_tmp Tryz.results38 (by rfl) (by rfl) hL) rfl (HRES.out _ _ rfl HBF.out)
        | true =>
          refine wpList_runV (some 27) (v := ?_) rfl (by rfl) ?_ ?_
          rotate_left
          · (go_simp; (try with_reducible rfl))
          simp only [Act.put, List.setIfInBounds_toArray, List.set_cons_zero, List.set_cons_succ]
          refine wpList_runV (some 28) (v := .bool false) rfl (by rfl) ?_ ?_
          · (go_simp; (try with_reducible rfl))
          simp only [Act.put, List.setIfInBounds_toArray, List.set_cons_zero, List.set_cons_succ]
          refine wpList_runV (some 29) (v := ?_) rfl (by rfl) ?_ ?_
          rotate_left
          · (go_simp; (try with_reducible rfl))
          simp only [Act.put, List.setIfInBounds_toArray, List.set_cons_zero, List.set_cons_succ]
          go_upto_region 9 with fail
          refine wp_region_lit ?_
          refine wpList_loadS (.tmp 4) (by rfl) rfl HKT.out Tryz.underlying25 rfl (infoTF _ _) ?_
          simp only [Act.put, List.setIfInBounds_toArray, List.set_cons_zero, List.set_cons_succ]
          refine wpList_storeS (.tmp 2) (.tmp 31) rfl rfl HRT.out rfl (infoTF _ _) (cellsA_one _ _) ?_
          have HRF := Lib.hid (HRT.out.whole (cellsA a fs) rfl)
          have HBF := Lib.hid (below_whole (cellsA a fs).toList (o := 0) HBT.out (Nat.le_refl _))
          generalize World.setCells _ _ _ _ = wf at HRF HBF ⊢
          have hL := readA HRF.out
          go_wp2_with fail
          exact bodyPost_ret (v := .tuple #[.agg (cellsA a fs), .int .i64 0]) (results_cell_tmp Tryz.results38 (by rfl) (by rfl) hL) rfl (HRES.out _ _ rfl HBF.out)
end Go.Proofs.YtkohfomiigcifaaGreatDoor
namespace Go.Proofs.YtkohfomiigcifaaGreatDoor
open Go.RowKit
open Wd (Bs)

set_option maxHeartbeats 8000000 in
set_option maxRecDepth 100000 in
theorem refTryIn19 (s : ByteArray) (on who d n z c : Int) (f : Fil.Flt) (w : World)
    (HL : Hid (∀ W, Below w.heap.size w W → Calls Tryz.prog 76 #[.string s] W fun e w' => e = .returned (.int .i64 (Ip.lastN s.data.toList)) ∧ Below W.heap.size W w')) (HI : Hid (∀ (n z c : Int) W, Below w.heap.size w W → Calls Tryz.prog 11 #[.agg (ipG on who (cellsF f (fsOf f)) d n z c)] W fun e w' => e = .returned (.bool (Ip.okB ⟨on, who, f, d, n, z, c⟩)) ∧ Below W.heap.size W w')) (HX : Hid (∀ (n z c : Int) W, Below w.heap.size w W → Calls Tryz.prog 13 #[.agg (ipG on who (cellsF f (fsOf f)) d n z c)] W fun e w' => e = .returned (str (Ip.textT ⟨on, who, f, d, n, z, c⟩)) ∧ Below W.heap.size W w')) :
    Calls Tryz.prog 40 #[.string s, .agg (ipG on who (cellsF f (fsOf f)) d n z c)] w fun e w' => e = .returned (.tuple #[.agg (cellsI (Ip.tryV s.data.toList ⟨on, who, f, d, n, z, c⟩)), .bool (Ip.tryB s.data.toList ⟨on, who, f, d, n, z, c⟩)]) ∧ Below w.heap.size w w' := by

  have M := Mm.nil w
  go_enter Tryz.func40, Tryz.ntmps40
  go_upto_region 0 with fail
  refine wp_region_lit ?_
  with_reducible refine wA (ipG on who (cellsF f (fsOf f)) d n z c) M ?_; clear M; intro pB3 u M; refine ⟨_, by (simp only [pu, sB, s0, sS]; rfl), ?_⟩
  with_reducible refine wA (ipG 0 0 cellsZ 0 0 0 0) M ?_; clear M; intro pB4 u M; refine ⟨_, by (simp only [pu, sB, s0, sS]; rfl), ?_⟩
  with_reducible refine rA ?_
  go_upto_region 1 with fail
  refine wp_region_lit ?_
  with_reducible refine rA ?_
  go_wp2_with fail
  go_loopw [6, 7, 8] (fun kv xv nv wr => ∃ k : Nat, k ≤ 8 ∧ kv = .int .i64 (k : Int) ∧ Hid (Ip.NoT s.data.toList ⟨on, who, f, d, n, z, c⟩ k 0) ∧ Mm w wr [(pB3, (ipG on who (cellsF f (fsOf f)) d n z c), 27), (pB4, (ipG 0 0 cellsZ 0 0 0 0), 27)]) (fun kv _ _ _ => 8 - (intOf kv).toNat)
  case atStart => exact ⟨0, by omega, rfl, Lib.hid (Ip.NoT.zero _ _), M⟩
  case round =>
    revert wr
    intro w0 hrel
    clear M
    obtain ⟨k, hk8, rfl, HN, M⟩ := hrel
    go_upto_region 2 with fail
    refine wp_region_lit ?_
    with_reducible refine rA ?_
    obtain ⟨b1, hb1⟩ : ∃ b, decide ((k : Int) < 8) = b := ⟨_, rfl⟩
    with_reducible refine rA ?_
    cases b1 with
    | false =>
     go_upto_region 16 with fail
     refine wp_region_lit ?_
     (with_reducible refine rB (.agg (ipG 0 0 cellsZ 0 0 0 0)) ?_ ?_); (· go_simp; rfl)
     with_reducible refine wS 1 M (laid_all (ipG_sz cellsZ_size) (ipG_sz cellsZ_size)) (infoTIp22 (ipG_sz cellsZ_size)) (ipG_one cellsZ_one) (fit_2 (ipG_sz cellsZ_size) (ipG_sz cellsZ_size) (by decide)) ?_; clear M; intro u M
     with_reducible refine rA ?_
     have hk8x : k = 8 := by have := of_decide_eq_false hb1; omega
     have HE := Lib.hid (Ip.try_no (by have h := HN.out; rw [hk8x] at h; exact h))
     have hL := M.read 1 Tryz.underlying27 (infoTIp22 (ipG_sz cellsZ_size)) rfl rfl
     go_wp2_with fail
     exact bodyPost_ret (v := .tuple #[.agg (ipG 0 0 cellsZ 0 0 0 0), .bool false]) (results_cell_tmp Tryz.results40 (by rfl) (by rfl) hL) rfl ⟨(by rw [HE.out.1, HE.out.2]; rfl), M.b⟩
    | true =>
     go_upto_region 4 with fail
     refine wp_region_lit ?_
     with_reducible refine wL 0 M whole_part Tryz.underlying27 (infoTIp22 (ipG_sz (cellsF_size f (fsOf f)))) ?_
     with_reducible refine wA (ipG 0 0 cellsZ 0 0 0 0) M ?_; clear M; intro pB7 u M; refine ⟨_, by (simp only [pu, sB, s0, sS]; rfl), ?_⟩
     with_reducible refine wS 2 M (laid_all (ipG_sz (cellsF_size f (fsOf f))) (ipG_sz cellsZ_size)) (infoTIp22 (ipG_sz (cellsF_size f (fsOf f)))) (ipG_one (cellsF_one f (fsOf f))) (fit_2 (ipG_sz cellsZ_size) (ipG_sz (cellsF_size f (fsOf f))) (by decide)) ?_; clear M; intro u M
     go_upto_region 5 with fail
     refine wp_region_lit ?_
     with_reducible refine rA ?_
     obtain ⟨b2, hb2⟩ : ∃ b, decide ((k : Int) < 3) = b := ⟨_, rfl⟩
     with_reducible refine rA ?_
     cases b2 with
     | false =>
      go_upto_region 7 with fail
      refine wp_region_lit ?_
      with_reducible refine rA ?_
      have hk3w : IntKind.i64.wrap ((k : Int) - 3) = ((k - 3 : Nat) : Int) := by have := of_decide_eq_false hb2; rw [IntWalk.i64_in _ (by omega)]; omega
      (with_reducible refine rB (.int .i64 ((k - 3 : Nat) : Int)) ?_ ?_); (· go_simp; (try exact hk3w))
      with_reducible refine rA ?_
      with_reducible refine wV 2 M (ipG_p20 (cellsF_size f (fsOf f))) (fit_1 (ipG_sz (cellsF_size f (fsOf f))) (by decide)) ?_; clear M; intro u M
      go_upto_region 8 with fail
      refine wp_region_lit ?_
      with_reducible refine rA ?_
      have hk7 : k < 8 := by have := of_decide_eq_true hb1; omega
      go_wp2_with fail
      go_loopw [8] (fun nv wr => ∃ (m : Nat) (n0 : Int), m ≤ 2 ∧ nv = .int .i64 (m : Int) ∧ Hid (Ip.NoT s.data.toList ⟨on, who, f, d, n, z, c⟩ k m) ∧ Mm w wr [(pB3, (ipG on who (cellsF f (fsOf f)) d n z c), 27), (pB4, (ipG 0 0 cellsZ 0 0 0 0), 27), (pB7, (ipG on who (cellsF f (fsOf f)) d n0 ((k - 3 : Nat) : Int) c), 27)]) (fun nv _ => 2 - (intOf nv).toNat)
      case atStart => exact ⟨0, n, by omega, rfl, HN, M⟩
      case round =>
        clear HN M
        obtain ⟨m, n0, hm2, rfl, HN, M⟩ := hrel
        go_upto_region 9 with fail
        refine wp_region_lit ?_
        with_reducible refine rA ?_
        obtain ⟨b3, hb3⟩ : ∃ b, decide ((m : Int) < 2) = b := ⟨_, rfl⟩
        with_reducible refine rA ?_
        cases b3 with
        | false =>
         go_upto_region 3 with fail
         refine wp_region_lit ?_
         with_reducible refine rA ?_
         (with_reducible refine rB (.int .i64 ((k + 1 : Nat) : Int)) ?_ ?_); (· go_simp; (try exact IntWalk.i64_in _ (by omega)))
         with_reducible refine rA ?_
         have hm2 := of_decide_eq_false hb3
         have em : m = 2 := by omega
         have HN2 : Hid (Ip.NoT s.data.toList ⟨on, who, f, d, n, z, c⟩ (k + 1) 0) := Lib.hid (by have h := HN.out; rw [em] at h; exact h.row)
         go_wp2_with fail
         go_roundw
         case rel => exact ⟨k + 1, by omega, rfl, HN2, M.take 2⟩
         case measure => simp [intOf]; omega
        | true =>
         go_upto_region 11 with fail
         refine wp_region_lit ?_
         with_reducible refine rA ?_
         obtain ⟨b4, hb4⟩ : ∃ b, ((m : Int) == 0) = b := ⟨_, rfl⟩
         with_reducible refine rA ?_
         cases b4 with
         | false =>
          go_upto_region 13 with fail
          refine wp_region_lit ?_
          with_reducible refine rA ?_
          with_reducible refine vC M (HL.out _ M.b) ?_; clear M; intro u M
          with_reducible refine rA ?_
          with_reducible refine wV 2 M (ipG_p19 (cellsF_size f (fsOf f))) (fit_1 (ipG_sz (cellsF_size f (fsOf f))) (by decide)) ?_; clear M; intro u M
          have HCN : Hid (Ip.cndR s.data.toList ⟨on, who, f, d, n, z, c⟩ k m = ⟨on, who, f, d, (Ip.lastN s.data.toList), ((k - 3 : Nat) : Int), c⟩) := Lib.hid (by have h3 := of_decide_eq_false hb2; have h0 := (by simpa using hb4 : ¬ (m : Int) = 0); unfold Ip.cndR Ip.putK; rw [if_neg (by omega), if_neg (by omega)])
          have HIk := Lib.hid (HI.out (Ip.lastN s.data.toList) ((k - 3 : Nat) : Int) c)
          have HXk := Lib.hid (HX.out (Ip.lastN s.data.toList) ((k - 3 : Nat) : Int) c)
          obtain ⟨v, hv⟩ : ∃ v, Ip.okB ⟨on, who, f, d, (Ip.lastN s.data.toList), ((k - 3 : Nat) : Int), c⟩ = v := ⟨_, rfl⟩
          obtain ⟨t, ht, et⟩ := exists_bytes (Ip.textT ⟨on, who, f, d, (Ip.lastN s.data.toList), ((k - 3 : Nat) : Int), c⟩)
          rw [et] at HXk
          rw [hv] at HIk
          obtain ⟨q, hq⟩ : ∃ q, (Ip.textT ⟨on, who, f, d, (Ip.lastN s.data.toList), ((k - 3 : Nat) : Int), c⟩ == s.data.toList) = q := ⟨_, rfl⟩
          have hq2 : (t.toList == s.toList) = q := by rw [Lib.toList_data, Lib.toList_data, ht]; exact hq
          have HC : Hid (Ip.hit s.data.toList ⟨on, who, f, d, n, z, c⟩ k m = (v && q)) := Lib.hid (by unfold Ip.hit; rw [HCN.out, hv, hq])
          clear ht et hq hv
          go_upto_region 14 with fail
          refine wp_region_lit ?_
          with_reducible refine wL 2 M whole_part Tryz.underlying27 (infoTIp22 (ipG_sz (cellsF_size f (fsOf f)))) ?_
          with_reducible refine vC M (HIk.out _ M.b) ?_; clear M; intro u M
          with_reducible refine rA ?_
          cases v with
          | false =>
           iterate 4 (with_reducible refine kA ?_)
           with_reducible refine rA ?_
           go_upto_region 10 with fail
           refine wp_region_lit ?_
           with_reducible refine rA ?_
           (with_reducible refine rB (.int .i64 ((m + 1 : Nat) : Int)) ?_ ?_); (· go_simp; (try exact IntWalk.i64_in _ (by omega)))
           with_reducible refine rA ?_
           have hm1 : m < 2 := by have := of_decide_eq_true hb3; omega
           go_wp2_with fail
           go_roundw
           case rel => exact ⟨m + 1, (Ip.lastN s.data.toList), by omega, rfl, Lib.hid (HN.out.next HC.out), M⟩
           case measure => simp [intOf]; omega
          | true =>
           with_reducible refine wL 2 M whole_part Tryz.underlying27 (infoTIp22 (ipG_sz (cellsF_size f (fsOf f)))) ?_
           with_reducible refine vC M (HXk.out _ M.b) ?_; clear M; intro u M
           iterate 3 (with_reducible refine rA ?_)
           cases q with
           | false =>
            go_upto_region 10 with fail
            refine wp_region_lit ?_
            with_reducible refine rA ?_
            (with_reducible refine rB (.int .i64 ((m + 1 : Nat) : Int)) ?_ ?_); (· go_simp; (try exact IntWalk.i64_in _ (by omega)))
            with_reducible refine rA ?_
            have hm1 : m < 2 := by have := of_decide_eq_true hb3; omega
            go_wp2_with fail
            go_roundw
            case rel => exact ⟨m + 1, (Ip.lastN s.data.toList), by omega, rfl, Lib.hid (HN.out.next HC.out), M⟩
            case measure => simp [intOf]; omega
           | true =>
            go_upto_region 15 with fail
            refine wp_region_lit ?_
            with_reducible refine wL 2 M whole_part Tryz.underlying27 (infoTIp22 (ipG_sz (cellsF_size f (fsOf f)))) ?_
            with_reducible refine wS 1 M (laid_all (ipG_sz (cellsF_size f (fsOf f))) (ipG_sz cellsZ_size)) (infoTIp22 (ipG_sz (cellsF_size f (fsOf f)))) (ipG_one (cellsF_one f (fsOf f))) (fit_2 (ipG_sz cellsZ_size) (ipG_sz (cellsF_size f (fsOf f))) (by decide)) ?_; clear M; intro u M
            with_reducible refine rA ?_
            have HP := Lib.hid (Ip.hit_try hk7 (by have := of_decide_eq_true hb3; omega) HC.out)
            have hL := M.read 1 Tryz.underlying27 (infoTIp22 (ipG_sz (cellsF_size f (fsOf f)))) rfl rfl
            go_wp2_with fail
            exact bodyPost_ret (v := .tuple #[.agg (ipG on who (cellsF f (fsOf f)) d (Ip.lastN s.data.toList) ((k - 3 : Nat) : Int) c), .bool true]) (results_cell_tmp Tryz.results40 (by rfl) (by rfl) hL) rfl ⟨(by rw [HP.out.1, HP.out.2, HCN.out]; rfl), M.b⟩
         | true =>
          go_upto_region 12 with fail
          refine wp_region_lit ?_
          with_reducible refine rA ?_
          with_reducible refine wV 2 M (ipG_p19 (cellsF_size f (fsOf f))) (fit_1 (ipG_sz (cellsF_size f (fsOf f))) (by decide)) ?_; clear M; intro u M
          have HCN : Hid (Ip.cndR s.data.toList ⟨on, who, f, d, n, z, c⟩ k m = ⟨on, who, f, d, 0, ((k - 3 : Nat) : Int), c⟩) := Lib.hid (by have h3 := of_decide_eq_false hb2; have h0 := (by simpa using hb4 : (m : Int) = 0); unfold Ip.cndR Ip.putK; rw [if_neg (by omega), if_pos (by omega)])
          have HIk := Lib.hid (HI.out 0 ((k - 3 : Nat) : Int) c)
          have HXk := Lib.hid (HX.out 0 ((k - 3 : Nat) : Int) c)
          obtain ⟨v, hv⟩ : ∃ v, Ip.okB ⟨on, who, f, d, 0, ((k - 3 : Nat) : Int), c⟩ = v := ⟨_, rfl⟩
          obtain ⟨t, ht, et⟩ := exists_bytes (Ip.textT ⟨on, who, f, d, 0, ((k - 3 : Nat) : Int), c⟩)
          rw [et] at HXk
          rw [hv] at HIk
          obtain ⟨q, hq⟩ : ∃ q, (Ip.textT ⟨on, who, f, d, 0, ((k - 3 : Nat) : Int), c⟩ == s.data.toList) = q := ⟨_, rfl⟩
          have hq2 : (t.toList == s.toList) = q := by rw [Lib.toList_data, Lib.toList_data, ht]; exact hq
          have HC : Hid (Ip.hit s.data.toList ⟨on, who, f, d, n, z, c⟩ k m = (v && q)) := Lib.hid (by unfold Ip.hit; rw [HCN.out, hv, hq])
          clear ht et hq hv
          go_upto_region 14 with fail
          refine wp_region_lit ?_
          with_reducible refine wL 2 M whole_part Tryz.underlying27 (infoTIp22 (ipG_sz (cellsF_size f (fsOf f)))) ?_
          with_reducible refine vC M (HIk.out _ M.b) ?_; clear M; intro u M
          with_reducible refine rA ?_
          cases v with
          | false =>
           iterate 4 (with_reducible refine kA ?_)
           with_reducible refine rA ?_
           go_upto_region 10 with fail
           refine wp_region_lit ?_
           with_reducible refine rA ?_
           (with_reducible refine rB (.int .i64 ((m + 1 : Nat) : Int)) ?_ ?_); (· go_simp; (try exact IntWalk.i64_in _ (by omega)))
           with_reducible refine rA ?_
           have hm1 : m < 2 := by have := of_decide_eq_true hb3; omega
           go_wp2_with fail
           go_roundw
           case rel => exact ⟨m + 1, 0, by omega, rfl, Lib.hid (HN.out.next HC.out), M⟩
           case measure => simp [intOf]; omega
          | true =>
           with_reducible refine wL 2 M whole_part Tryz.underlying27 (infoTIp22 (ipG_sz (cellsF_size f (fsOf f)))) ?_
           with_reducible refine vC M (HXk.out _ M.b) ?_; clear M; intro u M
           iterate 3 (with_reducible refine rA ?_)
           cases q with
           | false =>
            go_upto_region 10 with fail
            refine wp_region_lit ?_
            with_reducible refine rA ?_
            (with_reducible refine rB (.int .i64 ((m + 1 : Nat) : Int)) ?_ ?_); (· go_simp; (try exact IntWalk.i64_in _ (by omega)))
            with_reducible refine rA ?_
            have hm1 : m < 2 := by have := of_decide_eq_true hb3; omega
            go_wp2_with fail
            go_roundw
            case rel => exact ⟨m + 1, 0, by omega, rfl, Lib.hid (HN.out.next HC.out), M⟩
            case measure => simp [intOf]; omega
           | true =>
            go_upto_region 15 with fail
            refine wp_region_lit ?_
            with_reducible refine wL 2 M whole_part Tryz.underlying27 (infoTIp22 (ipG_sz (cellsF_size f (fsOf f)))) ?_
            with_reducible refine wS 1 M (laid_all (ipG_sz (cellsF_size f (fsOf f))) (ipG_sz cellsZ_size)) (infoTIp22 (ipG_sz (cellsF_size f (fsOf f)))) (ipG_one (cellsF_one f (fsOf f))) (fit_2 (ipG_sz cellsZ_size) (ipG_sz (cellsF_size f (fsOf f))) (by decide)) ?_; clear M; intro u M
            with_reducible refine rA ?_
            have HP := Lib.hid (Ip.hit_try hk7 (by have := of_decide_eq_true hb3; omega) HC.out)
            have hL := M.read 1 Tryz.underlying27 (infoTIp22 (ipG_sz (cellsF_size f (fsOf f)))) rfl rfl
            go_wp2_with fail
            exact bodyPost_ret (v := .tuple #[.agg (ipG on who (cellsF f (fsOf f)) d 0 ((k - 3 : Nat) : Int) c), .bool true]) (results_cell_tmp Tryz.results40 (by rfl) (by rfl) hL) rfl ⟨(by rw [HP.out.1, HP.out.2, HCN.out]; rfl), M.b⟩
     | true =>
      go_upto_region 6 with fail
      refine wp_region_lit ?_
      iterate 2 (with_reducible refine rA ?_)
      with_reducible refine wV 2 M (ipG_p21 (cellsF_size f (fsOf f))) (fit_1 (ipG_sz (cellsF_size f (fsOf f))) (by decide)) ?_; clear M; intro u M
      go_upto_region 8 with fail
      refine wp_region_lit ?_
      with_reducible refine rA ?_
      have hk7 : k < 8 := by have := of_decide_eq_true hb1; omega
      go_wp2_with fail
      go_loopw [8] (fun nv wr => ∃ (m : Nat) (n0 : Int), m ≤ 2 ∧ nv = .int .i64 (m : Int) ∧ Hid (Ip.NoT s.data.toList ⟨on, who, f, d, n, z, c⟩ k m) ∧ Mm w wr [(pB3, (ipG on who (cellsF f (fsOf f)) d n z c), 27), (pB4, (ipG 0 0 cellsZ 0 0 0 0), 27), (pB7, (ipG on who (cellsF f (fsOf f)) d n0 z (k : Int)), 27)]) (fun nv _ => 2 - (intOf nv).toNat)
      case atStart => exact ⟨0, n, by omega, rfl, HN, M⟩
      case round =>
        clear HN M
        obtain ⟨m, n0, hm2, rfl, HN, M⟩ := hrel
        go_upto_region 9 with fail
        refine wp_region_lit ?_
        with_reducible refine rA ?_
        obtain ⟨b5, hb5⟩ : ∃ b, decide ((m : Int) < 2) = b := ⟨_, rfl⟩
        with_reducible refine rA ?_
        cases b5 with
        | false =>
         go_upto_region 3 with fail
         refine wp_region_lit ?_
         with_reducible refine rA ?_
         (with_reducible refine rB (.int .i64 ((k + 1 : Nat) : Int)) ?_ ?_); (· go_simp; (try exact IntWalk.i64_in _ (by omega)))
         with_reducible refine rA ?_
         have hm2 := of_decide_eq_false hb5
         have em : m = 2 := by omega
         have HN2 : Hid (Ip.NoT s.data.toList ⟨on, who, f, d, n, z, c⟩ (k + 1) 0) := Lib.hid (by have h := HN.out; rw [em] at h; exact h.row)
         go_wp2_with fail
         go_roundw
         case rel => exact ⟨k + 1, by omega, rfl, HN2, M.take 2⟩
         case measure => simp [intOf]; omega
        | true =>
         go_upto_region 11 with fail
         refine wp_region_lit ?_
         with_reducible refine rA ?_
         obtain ⟨b6, hb6⟩ : ∃ b, ((m : Int) == 0) = b := ⟨_, rfl⟩
         with_reducible refine rA ?_
         cases b6 with
         | false =>
          go_upto_region 13 with fail
          refine wp_region_lit ?_
          with_reducible refine rA ?_
          with_reducible refine vC M (HL.out _ M.b) ?_; clear M; intro u M
          with_reducible refine rA ?_
          with_reducible refine wV 2 M (ipG_p19 (cellsF_size f (fsOf f))) (fit_1 (ipG_sz (cellsF_size f (fsOf f))) (by decide)) ?_; clear M; intro u M
          have HCN : Hid (Ip.cndR s.data.toList ⟨on, who, f, d, n, z, c⟩ k m = ⟨on, who, f, d, (Ip.lastN s.data.toList), z, (k : Int)⟩) := Lib.hid (by have h3 := of_decide_eq_true hb2; have h0 := (by simpa using hb6 : ¬ (m : Int) = 0); unfold Ip.cndR Ip.putK; rw [if_pos (by omega), if_neg (by omega)])
          have HIk := Lib.hid (HI.out (Ip.lastN s.data.toList) z (k : Int))
          have HXk := Lib.hid (HX.out (Ip.lastN s.data.toList) z (k : Int))
          obtain ⟨v, hv⟩ : ∃ v, Ip.okB ⟨on, who, f, d, (Ip.lastN s.data.toList), z, (k : Int)⟩ = v := ⟨_, rfl⟩
          obtain ⟨t, ht, et⟩ := exists_bytes (Ip.textT ⟨on, who, f, d, (Ip.lastN s.data.toList), z, (k : Int)⟩)
          rw [et] at HXk
          rw [hv] at HIk
          obtain ⟨q, hq⟩ : ∃ q, (Ip.textT ⟨on, who, f, d, (Ip.lastN s.data.toList), z, (k : Int)⟩ == s.data.toList) = q := ⟨_, rfl⟩
          have hq2 : (t.toList == s.toList) = q := by rw [Lib.toList_data, Lib.toList_data, ht]; exact hq
          have HC : Hid (Ip.hit s.data.toList ⟨on, who, f, d, n, z, c⟩ k m = (v && q)) := Lib.hid (by unfold Ip.hit; rw [HCN.out, hv, hq])
          clear ht et hq hv
          go_upto_region 14 with fail
          refine wp_region_lit ?_
          with_reducible refine wL 2 M whole_part Tryz.underlying27 (infoTIp22 (ipG_sz (cellsF_size f (fsOf f)))) ?_
          with_reducible refine vC M (HIk.out _ M.b) ?_; clear M; intro u M
          with_reducible refine rA ?_
          cases v with
          | false =>
           iterate 4 (with_reducible refine kA ?_)
           with_reducible refine rA ?_
           go_upto_region 10 with fail
           refine wp_region_lit ?_
           with_reducible refine rA ?_
           (with_reducible refine rB (.int .i64 ((m + 1 : Nat) : Int)) ?_ ?_); (· go_simp; (try exact IntWalk.i64_in _ (by omega)))
           with_reducible refine rA ?_
           have hm1 : m < 2 := by have := of_decide_eq_true hb5; omega
           go_wp2_with fail
           go_roundw
           case rel => exact ⟨m + 1, (Ip.lastN s.data.toList), by omega, rfl, Lib.hid (HN.out.next HC.out), M⟩
           case measure => simp [intOf]; omega
          | true =>
           with_reducible refine wL 2 M whole_part Tryz.underlying27 (infoTIp22 (ipG_sz (cellsF_size f (fsOf f)))) ?_
           with_reducible refine vC M (HXk.out _ M.b) ?_; clear M; intro u M
           iterate 3 (with_reducible refine rA ?_)
           cases q with
           | false =>
            go_upto_region 10 with fail
            refine wp_region_lit ?_
            with_reducible refine rA ?_
            (with_reducible refine rB (.int .i64 ((m + 1 : Nat) : Int)) ?_ ?_); (· go_simp; (try exact IntWalk.i64_in _ (by omega)))
            with_reducible refine rA ?_
            have hm1 : m < 2 := by have := of_decide_eq_true hb5; omega
            go_wp2_with fail
            go_roundw
            case rel => exact ⟨m + 1, (Ip.lastN s.data.toList), by omega, rfl, Lib.hid (HN.out.next HC.out), M⟩
            case measure => simp [intOf]; omega
           | true =>
            go_upto_region 15 with fail
            refine wp_region_lit ?_
            with_reducible refine wL 2 M whole_part Tryz.underlying27 (infoTIp22 (ipG_sz (cellsF_size f (fsOf f)))) ?_
            with_reducible refine wS 1 M (laid_all (ipG_sz (cellsF_size f (fsOf f))) (ipG_sz cellsZ_size)) (infoTIp22 (ipG_sz (cellsF_size f (fsOf f)))) (ipG_one (cellsF_one f (fsOf f))) (fit_2 (ipG_sz cellsZ_size) (ipG_sz (cellsF_size f (fsOf f))) (by decide)) ?_; clear M; intro u M
            with_reducible refine rA ?_
            have HP := Lib.hid (Ip.hit_try hk7 (by have := of_decide_eq_true hb5; omega) HC.out)
            have hL := M.read 1 Tryz.underlying27 (infoTIp22 (ipG_sz (cellsF_size f (fsOf f)))) rfl rfl
            go_wp2_with fail
            exact bodyPost_ret (v := .tuple #[.agg (ipG on who (cellsF f (fsOf f)) d (Ip.lastN s.data.toList) z (k : Int)), .bool true]) (results_cell_tmp Tryz.results40 (by rfl) (by rfl) hL) rfl ⟨(by rw [HP.out.1, HP.out.2, HCN.out]; rfl), M.b⟩
         | true =>
          go_upto_region 12 with fail
          refine wp_region_lit ?_
          with_reducible refine rA ?_
          with_reducible refine wV 2 M (ipG_p19 (cellsF_size f (fsOf f))) (fit_1 (ipG_sz (cellsF_size f (fsOf f))) (by decide)) ?_; clear M; intro u M
          have HCN : Hid (Ip.cndR s.data.toList ⟨on, who, f, d, n, z, c⟩ k m = ⟨on, who, f, d, 0, z, (k : Int)⟩) := Lib.hid (by have h3 := of_decide_eq_true hb2; have h0 := (by simpa using hb6 : (m : Int) = 0); unfold Ip.cndR Ip.putK; rw [if_pos (by omega), if_pos (by omega)])
          have HIk := Lib.hid (HI.out 0 z (k : Int))
          have HXk := Lib.hid (HX.out 0 z (k : Int))
          obtain ⟨v, hv⟩ : ∃ v, Ip.okB ⟨on, who, f, d, 0, z, (k : Int)⟩ = v := ⟨_, rfl⟩
          obtain ⟨t, ht, et⟩ := exists_bytes (Ip.textT ⟨on, who, f, d, 0, z, (k : Int)⟩)
          rw [et] at HXk
          rw [hv] at HIk
          obtain ⟨q, hq⟩ : ∃ q, (Ip.textT ⟨on, who, f, d, 0, z, (k : Int)⟩ == s.data.toList) = q := ⟨_, rfl⟩
          have hq2 : (t.toList == s.toList) = q := by rw [Lib.toList_data, Lib.toList_data, ht]; exact hq
          have HC : Hid (Ip.hit s.data.toList ⟨on, who, f, d, n, z, c⟩ k m = (v && q)) := Lib.hid (by unfold Ip.hit; rw [HCN.out, hv, hq])
          clear ht et hq hv
          go_upto_region 14 with fail
          refine wp_region_lit ?_
          with_reducible refine wL 2 M whole_part Tryz.underlying27 (infoTIp22 (ipG_sz (cellsF_size f (fsOf f)))) ?_
          with_reducible refine vC M (HIk.out _ M.b) ?_; clear M; intro u M
          with_reducible refine rA ?_
          cases v with
          | false =>
           iterate 4 (with_reducible refine kA ?_)
           with_reducible refine rA ?_
           go_upto_region 10 with fail
           refine wp_region_lit ?_
           with_reducible refine rA ?_
           (with_reducible refine rB (.int .i64 ((m + 1 : Nat) : Int)) ?_ ?_); (· go_simp; (try exact IntWalk.i64_in _ (by omega)))
           with_reducible refine rA ?_
           have hm1 : m < 2 := by have := of_decide_eq_true hb5; omega
           go_wp2_with fail
           go_roundw
           case rel => exact ⟨m + 1, 0, by omega, rfl, Lib.hid (HN.out.next HC.out), M⟩
           case measure => simp [intOf]; omega
          | true =>
           with_reducible refine wL 2 M whole_part Tryz.underlying27 (infoTIp22 (ipG_sz (cellsF_size f (fsOf f)))) ?_
           with_reducible refine vC M (HXk.out _ M.b) ?_; clear M; intro u M
           iterate 3 (with_reducible refine rA ?_)
           cases q with
           | false =>
            go_upto_region 10 with fail
            refine wp_region_lit ?_
            with_reducible refine rA ?_
            (with_reducible refine rB (.int .i64 ((m + 1 : Nat) : Int)) ?_ ?_); (· go_simp; (try exact IntWalk.i64_in _ (by omega)))
            with_reducible refine rA ?_
            have hm1 : m < 2 := by have := of_decide_eq_true hb5; omega
            go_wp2_with fail
            go_roundw
            case rel => exact ⟨m + 1, 0, by omega, rfl, Lib.hid (HN.out.next HC.out), M⟩
            case measure => simp [intOf]; omega
           | true =>
            go_upto_region 15 with fail
            refine wp_region_lit ?_
            with_reducible refine wL 2 M whole_part Tryz.underlying27 (infoTIp22 (ipG_sz (cellsF_size f (fsOf f)))) ?_
            with_reducible refine wS 1 M (laid_all (ipG_sz (cellsF_size f (fsOf f))) (ipG_sz cellsZ_size)) (infoTIp22 (ipG_sz (cellsF_size f (fsOf f)))) (ipG_one (cellsF_one f (fsOf f))) (fit_2 (ipG_sz cellsZ_size) (ipG_sz (cellsF_size f (fsOf f))) (by decide)) ?_; clear M; intro u M
            with_reducible refine rA ?_
            have HP := Lib.hid (Ip.hit_try hk7 (by have := of_decide_eq_true hb5; omega) HC.out)
            have hL := M.read 1 Tryz.underlying27 (infoTIp22 (ipG_sz (cellsF_size f (fsOf f)))) rfl rfl
            go_wp2_with fail
            exact bodyPost_ret (v := .tuple #[.agg (ipG on who (cellsF f (fsOf f)) d 0 z (k : Int)), .bool true]) (results_cell_tmp Tryz.results40 (by rfl) (by rfl) hL) rfl ⟨(by rw [HP.out.1, HP.out.2, HCN.out]; rfl), M.b⟩
end Go.Proofs.YtkohfomiigcifaaGreatDoor
namespace Go.Proofs.YtkohfomiigcifaaGreatDoor
open Go.RowKit
open Wd (Bs)

set_option maxHeartbeats 8000000 in
set_option maxRecDepth 100000 in
theorem refPaOk19 (s ms : ByteArray) (g : Fil.Flt) (er : Int) (w : World)
    (HM : Hid (∀ W, Below w.heap.size w W → Calls Tryz.prog 39 #[.string s] W fun e w' => e = .returned (.string ms) ∧ Below W.heap.size W w')) (HF : Hid (∀ W, Below w.heap.size w W → Calls Tryz.prog 38 #[.string ms] W fun e w' => e = .returned (.tuple #[.agg (cellsF g (fsOf g)), .int .i64 er]) ∧ Below W.heap.size W w')) (he : (er == 0) = true) (hg : Hid (Fil.parseV (Ip.midS s.data.toList) = g)) (HT1 : Hid (∀ (i j k : Nat) W, Below w.heap.size w W → Calls Tryz.prog 40 #[.string s, .agg (ipG (i : Int) (k : Int) cellsZ (j : Int) 0 0 0)] W fun e w' => e = .returned (.tuple #[.agg (cellsI (Ip.tryV s.data.toList (Ip.baseR i j k Fil.zero))), .bool (Ip.tryB s.data.toList (Ip.baseR i j k Fil.zero))]) ∧ Below W.heap.size W w')) (HT2 : Hid (∀ (i j k : Nat) W, Below w.heap.size w W → Calls Tryz.prog 40 #[.string s, .agg (ipG (i : Int) (k : Int) (cellsF g (fsOf g)) (j : Int) 0 0 0)] W fun e w' => e = .returned (.tuple #[.agg (cellsI (Ip.tryV s.data.toList (Ip.baseR i j k g))), .bool (Ip.tryB s.data.toList (Ip.baseR i j k g))]) ∧ Below W.heap.size W w')) :
    Calls Tryz.prog 15 #[.string s] w fun e w' => e = .returned (.tuple #[.agg (cellsI (Ip.pV s.data.toList)), .int .i64 (Ip.pE s.data.toList)]) ∧ Below w.heap.size w w' := by

  have M := Mm.nil w
  go_enter Tryz.func15, Tryz.ntmps15
  go_upto_region 0 with fail
  refine wp_region_lit ?_
  with_reducible refine wA (ipG 0 0 cellsZ 0 0 0 0) M ?_; clear M; intro pB2 u M; refine ⟨_, by (simp only [pu, sB, s0, sS]; rfl), ?_⟩
  with_reducible refine rA ?_
  go_upto_region 1 with fail
  refine wp_region_lit ?_
  with_reducible refine rA ?_
  with_reducible refine vC M (HM.out _ M.b) ?_; clear M; intro u M
  with_reducible refine vC M (HF.out _ M.b) ?_; clear M; intro u M
  with_reducible refine rA ?_
  (with_reducible refine rB (.agg (cellsF g (fsOf g))) ?_ ?_); (· go_simp; (try with_reducible rfl))
  with_reducible refine rA ?_
  with_reducible refine wA cellsZ M ?_; clear M; intro pB4 u M; refine ⟨_, by (simp only [pu, sB, s0, sS]; rfl), ?_⟩
  with_reducible refine wS 1 M (laid_all (cellsF_size g (fsOf g)) cellsZ_size) (infoTF16 (cellsF_size g (fsOf g))) (cellsF_one g (fsOf g)) (fit_2 cellsZ_size (cellsF_size g (fsOf g)) (by decide)) ?_; clear M; intro u M
  with_reducible refine rA ?_
  go_upto_region 2 with fail
  refine wp_region_lit ?_
  with_reducible refine rA ?_
  (with_reducible refine rB (.bool false) ?_ ?_); (· first | (go_simp; done) | (go_simp; with_reducible rfl) | (go_simp; simp_all))
  go_upto_region 4 with fail
  refine wp_region_lit ?_
  with_reducible refine rA ?_
  go_wp2_with fail
  go_loopw [6, 7, 8, 9, 10] (fun v0 v1 v2 v3 v4 wr => ∃ i : Nat, 1 ≤ i ∧ i ≤ 18 ∧ v0 = .int .i64 (i : Int) ∧ Hid (Ip.NoP s.data.toList i 1 0) ∧ Mm w wr [(pB2, (ipG 0 0 cellsZ 0 0 0 0), 27), (pB4, (cellsF g (fsOf g)), 25)]) (fun v0 _ _ _ _ _ => 18 - (intOf v0).toNat)
  case atStart => exact ⟨1, by omega, by omega, rfl, Lib.hid (Ip.NoP.zero _), M⟩
  case round =>
    revert wr
    intro w0 hrel
    clear M
    obtain ⟨i, hi0, hi1, rfl, HN, M⟩ := hrel
    go_upto_region 5 with fail
    refine wp_region_lit ?_
    with_reducible refine rA ?_
    obtain ⟨b1, hb1⟩ : ∃ b, decide ((i : Int) ≤ 17) = b := ⟨_, rfl⟩
    with_reducible refine rA ?_
    cases b1 with
    | false =>
     go_upto_region 19 with fail
     refine wp_region_lit ?_
     (with_reducible refine rB (.agg (ipG 0 0 cellsZ 0 0 0 0)) ?_ ?_); (· go_simp; rfl)
     with_reducible refine wS 0 M (laid_all (ipG_sz cellsZ_size) (ipG_sz cellsZ_size)) (infoTIp22 (ipG_sz cellsZ_size)) (ipG_one cellsZ_one) (fit_2 (ipG_sz cellsZ_size) (ipG_sz cellsZ_size) (by decide)) ?_; clear M; intro u M
     with_reducible refine rA ?_
     have ea : i = 18 := by have := of_decide_eq_false hb1; omega
     have HE := Lib.hid (Ip.search_no (by have h := HN.out; rw [ea] at h; exact h))
     have hL := M.read 0 Tryz.underlying27 (infoTIp22 (ipG_sz cellsZ_size)) rfl rfl
     go_wp2_with fail
     exact bodyPost_ret (v := .tuple #[.agg (ipG 0 0 cellsZ 0 0 0 0), .int .i64 3]) (results_cell_tmp Tryz.results15 (by rfl) (by rfl) hL) rfl ⟨(by rw [HE.out.1, HE.out.2]; rfl), M.b⟩
    | true =>
     go_upto_region 7 with fail
     refine wp_region_lit ?_
     with_reducible refine rA ?_
     go_wp2_with fail
     go_loopw [7, 8, 9, 10] (fun v0 v1 v2 v3 wr => ∃ j : Nat, 1 ≤ j ∧ j ≤ 9 ∧ v0 = .int .i64 (j : Int) ∧ Hid (Ip.NoP s.data.toList i j 0) ∧ Mm w wr [(pB2, (ipG 0 0 cellsZ 0 0 0 0), 27), (pB4, (cellsF g (fsOf g)), 25)]) (fun v0 _ _ _ _ => 9 - (intOf v0).toNat)
     case atStart => exact ⟨1, by omega, by omega, rfl, HN, M⟩
     case round =>
       clear HN M
       obtain ⟨j, hj0, hj1, rfl, HN, M⟩ := hrel
       go_upto_region 8 with fail
       refine wp_region_lit ?_
       with_reducible refine rA ?_
       obtain ⟨b2, hb2⟩ : ∃ b, decide ((j : Int) ≤ 8) = b := ⟨_, rfl⟩
       with_reducible refine rA ?_
       cases b2 with
       | false =>
        go_upto_region 6 with fail
        refine wp_region_lit ?_
        with_reducible refine rA ?_
        (with_reducible refine rB (.int .i64 ((i + 1 : Nat) : Int)) ?_ ?_); (· go_simp; (try exact IntWalk.i64_in _ (by omega)))
        with_reducible refine rA ?_
        have eb : j = 9 := by have := of_decide_eq_false hb2; omega
        have ha17 := of_decide_eq_true hb1
        have HN2 : Hid (Ip.NoP s.data.toList (i + 1) 1 0) := Lib.hid (by have h := HN.out; rw [eb] at h; exact h.col)
        go_wp2_with fail
        go_roundw
        case rel => exact ⟨i + 1, by omega, by omega, rfl, HN2, M.take 2⟩
        case measure => simp [intOf]; omega
       | true =>
        go_upto_region 10 with fail
        refine wp_region_lit ?_
        with_reducible refine rA ?_
        go_wp2_with fail
        go_loopw [8, 9, 10] (fun v0 v1 v2 wr => ∃ k : Nat, 0 ≤ k ∧ k ≤ 3 ∧ v0 = .int .i64 (k : Int) ∧ Hid (Ip.NoP s.data.toList i j k) ∧ Mm w wr [(pB2, (ipG 0 0 cellsZ 0 0 0 0), 27), (pB4, (cellsF g (fsOf g)), 25)]) (fun v0 _ _ _ => 3 - (intOf v0).toNat)
        case atStart => exact ⟨0, by omega, by omega, rfl, HN, M⟩
        case round =>
          clear HN M
          obtain ⟨k, hk0, hk1, rfl, HN, M⟩ := hrel
          go_upto_region 11 with fail
          refine wp_region_lit ?_
          with_reducible refine rA ?_
          obtain ⟨b3, hb3⟩ : ∃ b, decide ((k : Int) ≤ 2) = b := ⟨_, rfl⟩
          with_reducible refine rA ?_
          cases b3 with
          | false =>
           go_upto_region 9 with fail
           refine wp_region_lit ?_
           with_reducible refine rA ?_
           (with_reducible refine rB (.int .i64 ((j + 1 : Nat) : Int)) ?_ ?_); (· go_simp; (try exact IntWalk.i64_in _ (by omega)))
           with_reducible refine rA ?_
           have ec : k = 3 := by have := of_decide_eq_false hb3; omega
           have hb8 := of_decide_eq_true hb2
           have HN2 : Hid (Ip.NoP s.data.toList i (j + 1) 0) := Lib.hid (by have h := HN.out; rw [ec] at h; exact h.row)
           go_wp2_with fail
           go_roundw
           case rel => exact ⟨j + 1, by omega, by omega, rfl, HN2, M.take 2⟩
           case measure => simp [intOf]; omega
          | true =>
           obtain ⟨t1, ht1⟩ : ∃ t, Ip.tryB s.data.toList (Ip.baseR i j k Fil.zero) = t := ⟨_, rfl⟩
           have HK1 := Lib.hid (HT1.out i j k)
           rw [ht1] at HK1
           have HB1 := Lib.hid ht1
           clear ht1
           go_upto_region 13 with fail
           refine wp_region_lit ?_
           iterate 4 (with_reducible refine rA ?_)
           (with_reducible refine rB (.agg (ipG (i : Int) (k : Int) cellsZ (j : Int) 0 0 0)) ?_ ?_); (· refine run_buildOp _ [(0, .int .i64 (i : Int)), (3, .int .i64 (j : Int)), (1, .int .i64 (k : Int))] rfl ?_ (builtI_odw (i : Int) (k : Int) (j : Int)); rfl)
           with_reducible refine vC M (HK1.out _ M.b) ?_; clear M; intro u M
           with_reducible refine rA ?_
           (with_reducible refine rB (.agg (cellsI (Ip.tryV s.data.toList (Ip.baseR i j k Fil.zero)))) ?_ ?_); (· go_simp; (try with_reducible rfl))
           with_reducible refine rA ?_
           with_reducible refine wA (ipG 0 0 cellsZ 0 0 0 0) M ?_; clear M; intro pB9 u M; refine ⟨_, by (simp only [pu, sB, s0, sS]; rfl), ?_⟩
           with_reducible refine wS 2 M (laid_all (cellsI_sz _) (ipG_sz cellsZ_size)) (infoTIp22 (cellsI_sz _)) (cellsI_one _) (fit_2 (ipG_sz cellsZ_size) (cellsI_sz _) (by decide)) ?_; clear M; intro u M
           with_reducible refine rA ?_
           go_upto_region 14 with fail
           refine wp_region_lit ?_
           with_reducible refine rA ?_
           cases t1 with
           | false =>
            obtain ⟨t2, ht2⟩ : ∃ t, Ip.tryB s.data.toList (Ip.baseR i j k g) = t := ⟨_, rfl⟩
            have HK2 := Lib.hid (HT2.out i j k)
            rw [ht2] at HK2
            have HB2 := Lib.hid ht2
            clear ht2
            go_upto_region 16 with fail
            refine wp_region_lit ?_
            iterate 4 (with_reducible refine rA ?_)
            with_reducible refine wL 1 M whole_part Tryz.underlying25 (infoTF16 (cellsF_size g (fsOf g))) ?_
            (with_reducible refine rB (.agg (ipG (i : Int) (k : Int) (cellsF g (fsOf g)) (j : Int) 0 0 0)) ?_ ?_); (· refine run_buildOp _ [(0, .int .i64 (i : Int)), (3, .int .i64 (j : Int)), (1, .int .i64 (k : Int)), (2, .agg (cellsF g (fsOf g)))] rfl ?_ (builtI_odwf (i : Int) (k : Int) (j : Int) g (fsOf g)); rfl)
            with_reducible refine vC M (HK2.out _ M.b) ?_; clear M; intro u M
            with_reducible refine rA ?_
            (with_reducible refine rB (.agg (cellsI (Ip.tryV s.data.toList (Ip.baseR i j k g)))) ?_ ?_); (· go_simp; (try with_reducible rfl))
            with_reducible refine rA ?_
            with_reducible refine wS 2 M (laid_all (cellsI_sz _) (cellsI_sz _)) (infoTIp22 (cellsI_sz _)) (cellsI_one _) (fit_2 (cellsI_sz _) (cellsI_sz _) (by decide)) ?_; clear M; intro u M
            with_reducible refine rA ?_
            go_upto_region 17 with fail
            refine wp_region_lit ?_
            with_reducible refine rA ?_
            cases t2 with
            | false =>
             go_upto_region 12 with fail
             refine wp_region_lit ?_
             with_reducible refine rA ?_
             (with_reducible refine rB (.int .i64 ((k + 1 : Nat) : Int)) ?_ ?_); (· go_simp; (try exact IntWalk.i64_in _ (by omega)))
             with_reducible refine rA ?_
             have hc2 := of_decide_eq_true hb3
             have HN2 : Hid (Ip.NoP s.data.toList i j (k + 1)) := Lib.hid (HN.out.next (by unfold Ip.rowB; rw [hg.out, HB1.out, HB2.out]; rfl))
             go_wp2_with fail
             go_roundw
             case rel => exact ⟨k + 1, by omega, by omega, rfl, HN2, M.take 2⟩
             case measure => simp [intOf]; omega
            | true =>
             go_upto_region 18 with fail
             refine wp_region_lit ?_
             with_reducible refine wL 2 M whole_part Tryz.underlying27 (infoTIp22 (cellsI_sz _)) ?_
             with_reducible refine wS 0 M (laid_all (cellsI_sz _) (ipG_sz cellsZ_size)) (infoTIp22 (cellsI_sz _)) (cellsI_one _) (fit_2 (ipG_sz cellsZ_size) (cellsI_sz _) (by decide)) ?_; clear M; intro u M
             with_reducible refine rA ?_
             have HY := Lib.hid (Ip.try_yes HB2.out)
             have hL := M.read 0 Tryz.underlying27 (infoTIp22 (cellsI_sz _)) rfl rfl
             go_wp2_with fail
             exact bodyPost_ret (v := .tuple #[.agg (cellsI (Ip.tryV s.data.toList (Ip.baseR i j k g))), .int .i64 0]) (results_cell_tmp Tryz.results15 (by rfl) (by rfl) hL) rfl ⟨(by rw [← HY.out.1, HY.out.2]), M.b⟩
           | true =>
            go_upto_region 15 with fail
            refine wp_region_lit ?_
            with_reducible refine wL 2 M whole_part Tryz.underlying27 (infoTIp22 (cellsI_sz _)) ?_
            with_reducible refine wS 0 M (laid_all (cellsI_sz _) (ipG_sz cellsZ_size)) (infoTIp22 (cellsI_sz _)) (cellsI_one _) (fit_2 (ipG_sz cellsZ_size) (cellsI_sz _) (by decide)) ?_; clear M; intro u M
            with_reducible refine rA ?_
            have HY := Lib.hid (Ip.try_yes HB1.out)
            have hL := M.read 0 Tryz.underlying27 (infoTIp22 (cellsI_sz _)) rfl rfl
            go_wp2_with fail
            exact bodyPost_ret (v := .tuple #[.agg (cellsI (Ip.tryV s.data.toList (Ip.baseR i j k Fil.zero))), .int .i64 0]) (results_cell_tmp Tryz.results15 (by rfl) (by rfl) hL) rfl ⟨(by rw [← HY.out.1, HY.out.2]), M.b⟩

set_option maxHeartbeats 8000000 in
set_option maxRecDepth 100000 in
theorem refPaBad19 (s ms : ByteArray) (g : Fil.Flt) (er : Int) (w : World)
    (HM : Hid (∀ W, Below w.heap.size w W → Calls Tryz.prog 39 #[.string s] W fun e w' => e = .returned (.string ms) ∧ Below W.heap.size W w')) (HF : Hid (∀ W, Below w.heap.size w W → Calls Tryz.prog 38 #[.string ms] W fun e w' => e = .returned (.tuple #[.agg (cellsF g (fsOf g)), .int .i64 er]) ∧ Below W.heap.size W w')) (he : (er == 0) = false) (hg : Hid (Fil.parseV (Ip.midS s.data.toList) = g)) (HT1 : Hid (∀ (i j k : Nat) W, Below w.heap.size w W → Calls Tryz.prog 40 #[.string s, .agg (ipG (i : Int) (k : Int) cellsZ (j : Int) 0 0 0)] W fun e w' => e = .returned (.tuple #[.agg (cellsI (Ip.tryV s.data.toList (Ip.baseR i j k Fil.zero))), .bool (Ip.tryB s.data.toList (Ip.baseR i j k Fil.zero))]) ∧ Below W.heap.size W w')) (HT2 : Hid (∀ (i j k : Nat) W, Below w.heap.size w W → Calls Tryz.prog 40 #[.string s, .agg (ipG (i : Int) (k : Int) cellsZ (j : Int) 0 0 0)] W fun e w' => e = .returned (.tuple #[.agg (cellsI (Ip.tryV s.data.toList (Ip.baseR i j k g))), .bool (Ip.tryB s.data.toList (Ip.baseR i j k g))]) ∧ Below W.heap.size W w')) :
    Calls Tryz.prog 15 #[.string s] w fun e w' => e = .returned (.tuple #[.agg (cellsI (Ip.pV s.data.toList)), .int .i64 (Ip.pE s.data.toList)]) ∧ Below w.heap.size w w' := by

  have M := Mm.nil w
  go_enter Tryz.func15, Tryz.ntmps15
  go_upto_region 0 with fail
  refine wp_region_lit ?_
  with_reducible refine wA (ipG 0 0 cellsZ 0 0 0 0) M ?_; clear M; intro pB2 u M; refine ⟨_, by (simp only [pu, sB, s0, sS]; rfl), ?_⟩
  with_reducible refine rA ?_
  go_upto_region 1 with fail
  refine wp_region_lit ?_
  with_reducible refine rA ?_
  with_reducible refine vC M (HM.out _ M.b) ?_; clear M; intro u M
  with_reducible refine vC M (HF.out _ M.b) ?_; clear M; intro u M
  with_reducible refine rA ?_
  (with_reducible refine rB (.agg (cellsF g (fsOf g))) ?_ ?_); (· go_simp; (try with_reducible rfl))
  with_reducible refine rA ?_
  with_reducible refine wA cellsZ M ?_; clear M; intro pB4 u M; refine ⟨_, by (simp only [pu, sB, s0, sS]; rfl), ?_⟩
  with_reducible refine wS 1 M (laid_all (cellsF_size g (fsOf g)) cellsZ_size) (infoTF16 (cellsF_size g (fsOf g))) (cellsF_one g (fsOf g)) (fit_2 cellsZ_size (cellsF_size g (fsOf g)) (by decide)) ?_; clear M; intro u M
  with_reducible refine rA ?_
  go_upto_region 2 with fail
  refine wp_region_lit ?_
  with_reducible refine rA ?_
  (with_reducible refine rB (.bool true) ?_ ?_); (· first | (go_simp; done) | (go_simp; with_reducible rfl) | (go_simp; simp_all))
  go_upto_region 3 with fail
  refine wp_region_lit ?_
  (with_reducible refine rB (.agg cellsZ) ?_ ?_); (· go_simp; rfl)
  with_reducible refine wS 1 M (laid_all cellsZ_size (cellsF_size g (fsOf g))) (infoTF16 cellsZ_size) cellsZ_one (fit_2 (cellsF_size g (fsOf g)) cellsZ_size (by decide)) ?_; clear M; intro u M
  go_upto_region 4 with fail
  refine wp_region_lit ?_
  with_reducible refine rA ?_
  go_wp2_with fail
  go_loopw [6, 7, 8, 9, 10] (fun v0 v1 v2 v3 v4 wr => ∃ i : Nat, 1 ≤ i ∧ i ≤ 18 ∧ v0 = .int .i64 (i : Int) ∧ Hid (Ip.NoP s.data.toList i 1 0) ∧ Mm w wr [(pB2, (ipG 0 0 cellsZ 0 0 0 0), 27), (pB4, cellsZ, 25)]) (fun v0 _ _ _ _ _ => 18 - (intOf v0).toNat)
  case atStart => exact ⟨1, by omega, by omega, rfl, Lib.hid (Ip.NoP.zero _), M⟩
  case round =>
    revert wr
    intro w0 hrel
    clear M
    obtain ⟨i, hi0, hi1, rfl, HN, M⟩ := hrel
    go_upto_region 5 with fail
    refine wp_region_lit ?_
    with_reducible refine rA ?_
    obtain ⟨b1, hb1⟩ : ∃ b, decide ((i : Int) ≤ 17) = b := ⟨_, rfl⟩
    with_reducible refine rA ?_
    cases b1 with
    | false =>
     go_upto_region 19 with fail
     refine wp_region_lit ?_
     (with_reducible refine rB (.agg (ipG 0 0 cellsZ 0 0 0 0)) ?_ ?_); (· go_simp; rfl)
     with_reducible refine wS 0 M (laid_all (ipG_sz cellsZ_size) (ipG_sz cellsZ_size)) (infoTIp22 (ipG_sz cellsZ_size)) (ipG_one cellsZ_one) (fit_2 (ipG_sz cellsZ_size) (ipG_sz cellsZ_size) (by decide)) ?_; clear M; intro u M
     with_reducible refine rA ?_
     have ea : i = 18 := by have := of_decide_eq_false hb1; omega
     have HE := Lib.hid (Ip.search_no (by have h := HN.out; rw [ea] at h; exact h))
     have hL := M.read 0 Tryz.underlying27 (infoTIp22 (ipG_sz cellsZ_size)) rfl rfl
     go_wp2_with fail
     exact bodyPost_ret (v := .tuple #[.agg (ipG 0 0 cellsZ 0 0 0 0), .int .i64 3]) (results_cell_tmp Tryz.results15 (by rfl) (by rfl) hL) rfl ⟨(by rw [HE.out.1, HE.out.2]; rfl), M.b⟩
    | true =>
     go_upto_region 7 with fail
     refine wp_region_lit ?_
     with_reducible refine rA ?_
     go_wp2_with fail
     go_loopw [7, 8, 9, 10] (fun v0 v1 v2 v3 wr => ∃ j : Nat, 1 ≤ j ∧ j ≤ 9 ∧ v0 = .int .i64 (j : Int) ∧ Hid (Ip.NoP s.data.toList i j 0) ∧ Mm w wr [(pB2, (ipG 0 0 cellsZ 0 0 0 0), 27), (pB4, cellsZ, 25)]) (fun v0 _ _ _ _ => 9 - (intOf v0).toNat)
     case atStart => exact ⟨1, by omega, by omega, rfl, HN, M⟩
     case round =>
       clear HN M
       obtain ⟨j, hj0, hj1, rfl, HN, M⟩ := hrel
       go_upto_region 8 with fail
       refine wp_region_lit ?_
       with_reducible refine rA ?_
       obtain ⟨b2, hb2⟩ : ∃ b, decide ((j : Int) ≤ 8) = b := ⟨_, rfl⟩
       with_reducible refine rA ?_
       cases b2 with
       | false =>
        go_upto_region 6 with fail
        refine wp_region_lit ?_
        with_reducible refine rA ?_
        (with_reducible refine rB (.int .i64 ((i + 1 : Nat) : Int)) ?_ ?_); (· go_simp; (try exact IntWalk.i64_in _ (by omega)))
        with_reducible refine rA ?_
        have eb : j = 9 := by have := of_decide_eq_false hb2; omega
        have ha17 := of_decide_eq_true hb1
        have HN2 : Hid (Ip.NoP s.data.toList (i + 1) 1 0) := Lib.hid (by have h := HN.out; rw [eb] at h; exact h.col)
        go_wp2_with fail
        go_roundw
        case rel => exact ⟨i + 1, by omega, by omega, rfl, HN2, M.take 2⟩
        case measure => simp [intOf]; omega
       | true =>
        go_upto_region 10 with fail
        refine wp_region_lit ?_
        with_reducible refine rA ?_
        go_wp2_with fail
        go_loopw [8, 9, 10] (fun v0 v1 v2 wr => ∃ k : Nat, 0 ≤ k ∧ k ≤ 3 ∧ v0 = .int .i64 (k : Int) ∧ Hid (Ip.NoP s.data.toList i j k) ∧ Mm w wr [(pB2, (ipG 0 0 cellsZ 0 0 0 0), 27), (pB4, cellsZ, 25)]) (fun v0 _ _ _ => 3 - (intOf v0).toNat)
        case atStart => exact ⟨0, by omega, by omega, rfl, HN, M⟩
        case round =>
          clear HN M
          obtain ⟨k, hk0, hk1, rfl, HN, M⟩ := hrel
          go_upto_region 11 with fail
          refine wp_region_lit ?_
          with_reducible refine rA ?_
          obtain ⟨b3, hb3⟩ : ∃ b, decide ((k : Int) ≤ 2) = b := ⟨_, rfl⟩
          with_reducible refine rA ?_
          cases b3 with
          | false =>
           go_upto_region 9 with fail
           refine wp_region_lit ?_
           with_reducible refine rA ?_
           (with_reducible refine rB (.int .i64 ((j + 1 : Nat) : Int)) ?_ ?_); (· go_simp; (try exact IntWalk.i64_in _ (by omega)))
           with_reducible refine rA ?_
           have ec : k = 3 := by have := of_decide_eq_false hb3; omega
           have hb8 := of_decide_eq_true hb2
           have HN2 : Hid (Ip.NoP s.data.toList i (j + 1) 0) := Lib.hid (by have h := HN.out; rw [ec] at h; exact h.row)
           go_wp2_with fail
           go_roundw
           case rel => exact ⟨j + 1, by omega, by omega, rfl, HN2, M.take 2⟩
           case measure => simp [intOf]; omega
          | true =>
           obtain ⟨t1, ht1⟩ : ∃ t, Ip.tryB s.data.toList (Ip.baseR i j k Fil.zero) = t := ⟨_, rfl⟩
           have HK1 := Lib.hid (HT1.out i j k)
           rw [ht1] at HK1
           have HB1 := Lib.hid ht1
           clear ht1
           go_upto_region 13 with fail
           refine wp_region_lit ?_
           iterate 4 (with_reducible refine rA ?_)
           (with_reducible refine rB (.agg (ipG (i : Int) (k : Int) cellsZ (j : Int) 0 0 0)) ?_ ?_); (· refine run_buildOp _ [(0, .int .i64 (i : Int)), (3, .int .i64 (j : Int)), (1, .int .i64 (k : Int))] rfl ?_ (builtI_odw (i : Int) (k : Int) (j : Int)); rfl)
           with_reducible refine vC M (HK1.out _ M.b) ?_; clear M; intro u M
           with_reducible refine rA ?_
           (with_reducible refine rB (.agg (cellsI (Ip.tryV s.data.toList (Ip.baseR i j k Fil.zero)))) ?_ ?_); (· go_simp; (try with_reducible rfl))
           with_reducible refine rA ?_
           with_reducible refine wA (ipG 0 0 cellsZ 0 0 0 0) M ?_; clear M; intro pB9 u M; refine ⟨_, by (simp only [pu, sB, s0, sS]; rfl), ?_⟩
           with_reducible refine wS 2 M (laid_all (cellsI_sz _) (ipG_sz cellsZ_size)) (infoTIp22 (cellsI_sz _)) (cellsI_one _) (fit_2 (ipG_sz cellsZ_size) (cellsI_sz _) (by decide)) ?_; clear M; intro u M
           with_reducible refine rA ?_
           go_upto_region 14 with fail
           refine wp_region_lit ?_
           with_reducible refine rA ?_
           cases t1 with
           | false =>
            obtain ⟨t2, ht2⟩ : ∃ t, Ip.tryB s.data.toList (Ip.baseR i j k g) = t := ⟨_, rfl⟩
            have HK2 := Lib.hid (HT2.out i j k)
            rw [ht2] at HK2
            have HB2 := Lib.hid ht2
            clear ht2
            go_upto_region 16 with fail
            refine wp_region_lit ?_
            iterate 4 (with_reducible refine rA ?_)
            with_reducible refine wL 1 M whole_part Tryz.underlying25 (infoTF16 cellsZ_size) ?_
            (with_reducible refine rB (.agg (ipG (i : Int) (k : Int) cellsZ (j : Int) 0 0 0)) ?_ ?_); (· refine run_buildOp _ [(0, .int .i64 (i : Int)), (3, .int .i64 (j : Int)), (1, .int .i64 (k : Int)), (2, .agg cellsZ)] rfl ?_ (builtI_odwf (i : Int) (k : Int) (j : Int) Fil.zero (fsOf Fil.zero)); rfl)
            with_reducible refine vC M (HK2.out _ M.b) ?_; clear M; intro u M
            with_reducible refine rA ?_
            (with_reducible refine rB (.agg (cellsI (Ip.tryV s.data.toList (Ip.baseR i j k g)))) ?_ ?_); (· go_simp; (try with_reducible rfl))
            with_reducible refine rA ?_
            with_reducible refine wS 2 M (laid_all (cellsI_sz _) (cellsI_sz _)) (infoTIp22 (cellsI_sz _)) (cellsI_one _) (fit_2 (cellsI_sz _) (cellsI_sz _) (by decide)) ?_; clear M; intro u M
            with_reducible refine rA ?_
            go_upto_region 17 with fail
            refine wp_region_lit ?_
            with_reducible refine rA ?_
            cases t2 with
            | false =>
             go_upto_region 12 with fail
             refine wp_region_lit ?_
             with_reducible refine rA ?_
             (with_reducible refine rB (.int .i64 ((k + 1 : Nat) : Int)) ?_ ?_); (· go_simp; (try exact IntWalk.i64_in _ (by omega)))
             with_reducible refine rA ?_
             have hc2 := of_decide_eq_true hb3
             have HN2 : Hid (Ip.NoP s.data.toList i j (k + 1)) := Lib.hid (HN.out.next (by unfold Ip.rowB; rw [hg.out, HB1.out, HB2.out]; rfl))
             go_wp2_with fail
             go_roundw
             case rel => exact ⟨k + 1, by omega, by omega, rfl, HN2, M.take 2⟩
             case measure => simp [intOf]; omega
            | true =>
             go_upto_region 18 with fail
             refine wp_region_lit ?_
             with_reducible refine wL 2 M whole_part Tryz.underlying27 (infoTIp22 (cellsI_sz _)) ?_
             with_reducible refine wS 0 M (laid_all (cellsI_sz _) (ipG_sz cellsZ_size)) (infoTIp22 (cellsI_sz _)) (cellsI_one _) (fit_2 (ipG_sz cellsZ_size) (cellsI_sz _) (by decide)) ?_; clear M; intro u M
             with_reducible refine rA ?_
             have HY := Lib.hid (Ip.try_yes HB2.out)
             have hL := M.read 0 Tryz.underlying27 (infoTIp22 (cellsI_sz _)) rfl rfl
             go_wp2_with fail
             exact bodyPost_ret (v := .tuple #[.agg (cellsI (Ip.tryV s.data.toList (Ip.baseR i j k g))), .int .i64 0]) (results_cell_tmp Tryz.results15 (by rfl) (by rfl) hL) rfl ⟨(by rw [← HY.out.1, HY.out.2]), M.b⟩
           | true =>
            go_upto_region 15 with fail
            refine wp_region_lit ?_
            with_reducible refine wL 2 M whole_part Tryz.underlying27 (infoTIp22 (cellsI_sz _)) ?_
            with_reducible refine wS 0 M (laid_all (cellsI_sz _) (ipG_sz cellsZ_size)) (infoTIp22 (cellsI_sz _)) (cellsI_one _) (fit_2 (ipG_sz cellsZ_size) (cellsI_sz _) (by decide)) ?_; clear M; intro u M
            with_reducible refine rA ?_
            have HY := Lib.hid (Ip.try_yes HB1.out)
            have hL := M.read 0 Tryz.underlying27 (infoTIp22 (cellsI_sz _)) rfl rfl
            go_wp2_with fail
            exact bodyPost_ret (v := .tuple #[.agg (cellsI (Ip.tryV s.data.toList (Ip.baseR i j k Fil.zero))), .int .i64 0]) (results_cell_tmp Tryz.results15 (by rfl) (by rfl) hL) rfl ⟨(by rw [← HY.out.1, HY.out.2]), M.b⟩
end Go.Proofs.YtkohfomiigcifaaGreatDoor
namespace Go.Proofs.YtkohfomiigcifaaGreatDoor
open Go.RowKit
open Wd (Bs)

/-- no byte c from i up to k -/
def NoB (s : ByteArray) (c : UInt8) (i k : Nat) : Prop := ∀ j, i ≤ j → j < k → s.data.toList.getD j 0 ≠ c
theorem NoB.zero (s : ByteArray) (c : UInt8) (i : Nat) : NoB s c i i := fun j h1 h2 => by omega
theorem NoB.next {s : ByteArray} {c : UInt8} {i k : Nat} (h : NoB s c i k) (hk : k < s.size) (hc : ¬ s[k] = c) : NoB s c i (k + 1) := fun j h1 h2 => by
  by_cases e : j = k
  · subst e; rw [getD_byte s j hk]; exact hc
  · exact h j h1 (by omega)
theorem first_end {s : ByteArray} {c : UInt8} {i : Nat} (hi : i ≤ s.size) (h : NoB s c i s.size) : Ip.firstAt c s.data.toList i = s.size := by
  have hsl : s.data.toList.length = s.size := Array.length_toList
  exact Ip.firstAt_of hi (by omega) h (.inl (by omega))
theorem first_hit {s : ByteArray} {c : UInt8} {i k : Nat} (hi : i ≤ k) (hk : k < s.size) (h : NoB s c i k) (hc : s[k] = c) : Ip.firstAt c s.data.toList i = k := by
  have hsl : s.data.toList.length = s.size := Array.length_toList
  exact Ip.firstAt_of hi (by omega) h (.inr (by rw [getD_byte s k hk]; exact hc))
theorem byte_no {a : UInt8} {k : Nat} (h : ¬ a = UInt8.ofNat k) (hk : k < 256) : ((a.toNat : Int) == (k : Int)) = false := by
  have := u8_ne hk h
  simpa using this
theorem lt_of_bytes {s : ByteArray} {k m : Nat} (h : k ≤ m) (hk : k < s.size) (hm : m < s.size) (h1 : s[k] = 40) (h2 : s[m] = 41) : k < m := by
  rcases Nat.lt_or_ge k m with h3 | h3
  · exact h3
  · exfalso
    obtain rfl : k = m := by omega
    rw [h1] at h2
    exact absurd h2 (by decide)
set_option maxHeartbeats 8000000 in
set_option maxRecDepth 100000 in
theorem refMid19 (s : ByteArray) (hs : s.size ≤ 1000000) (w : World) : Calls Tryz.prog 39 #[.string s] w fun e w' => e = .returned (str (Ip.midS s.data.toList)) ∧ w = w' := by
  have hsl : s.data.toList.length = s.size := Array.length_toList
  have HSL := Lib.hid hsl
  clear hsl
  go_enter Tryz.func39, Tryz.ntmps39
  go_wp2
  go_loop [3] (fun v => ∃ k : Nat, k ≤ s.size ∧ v = .int .i64 (k : Int) ∧ Hid (NoB s 40 0 k)) (fun v => s.size + 1 - (intOf v).toNat)
  case atStart => exact ⟨0, by omega, rfl, Lib.hid (NoB.zero _ _ _)⟩
  case round =>
    obtain ⟨k, hk, rfl, HN⟩ := hrel
    by_cases hlt : k < s.size
    · have h1 : (k : Int) < (s.size : Int) := by omega
      have h0 : (0 : Int) ≤ (k : Int) := by omega
      by_cases hne : s[k] = 40
      · have hb : ((s[k].toNat : Int) == 40) = true := by rw [hne]; rfl
        have HF := Lib.hid (first_hit (Nat.zero_le _) hlt HN.out hne)
        have H40 : Hid (s[k] = 40) := Lib.hid hne
        clear hne
        go_wp2
        go_loop [4] (fun v => ∃ m : Nat, k ≤ m ∧ m ≤ s.size ∧ v = .int .i64 (m : Int) ∧ Hid (NoB s 41 k m)) (fun v => s.size + 1 - (intOf v).toNat)
        case atStart => exact ⟨k, by omega, by omega, rfl, Lib.hid (NoB.zero _ _ _)⟩
        case round =>
          obtain ⟨m, hkm, hm, rfl, HM⟩ := hrel
          by_cases hlt2 : m < s.size
          · have g1 : (m : Int) < (s.size : Int) := by omega
            have g0 : (0 : Int) ≤ (m : Int) := by omega
            by_cases hne : s[m] = 41
            · have gb : ((s[m].toNat : Int) == 41) = true := by rw [hne]; rfl
              have HG := Lib.hid (first_hit hkm hlt2 HM.out hne)
              have hkm2 : k < m := lt_of_bytes hkm hlt hlt2 H40.out hne
              have i1 : IntKind.i64.wrap ((k : Int) + 1) = ((k + 1 : Nat) : Int) := by rw [IntWalk.i64_in _ (by omega)]; omega
              have i2 : ((k + 1 : Nat) : Int) ≤ (m : Int) := by omega
              have i3 : (0 : Int) ≤ ((k + 1 : Nat) : Int) := by omega
              have i4 : (m : Int) ≤ (s.size : Int) := by omega
              have i5 : ¬ (s.size : Int) ≤ (m : Int) := by omega
              clear hne
              go_wp2
              go_ret
              refine ⟨?_, rfl⟩
              unfold Ip.midS
              rw [HF.out, HG.out, if_neg (by rw [HSL.out]; omega)]
              exact congrArg Ending.returned (str_of (extract_slice s (k + 1) m))
            · have gb : ((s[m].toNat : Int) == 41) = false := byte_no hne (by decide)
              have HM2 := Lib.hid (HM.out.next hlt2 hne)
              go_wp2
              go_round
              case rel => exact ⟨m + 1, by omega, by omega, by go_num, HM2⟩
              case measure => simp [intOf]; omega
          · obtain rfl : m = s.size := by omega
            have HG := Lib.hid (first_end hkm HM.out)
            have g1 : ¬ (s.size : Int) < (s.size : Int) := by omega
            have i5 : (s.size : Int) ≤ (s.size : Int) := by omega
            go_wp2
            go_ret
            refine ⟨?_, rfl⟩
            unfold Ip.midS
            rw [HF.out, HG.out, if_pos (by rw [HSL.out]; omega)]
            rfl
      · have hb : ((s[k].toNat : Int) == 40) = false := byte_no hne (by decide)
        have HN2 := Lib.hid (HN.out.next hlt hne)
        go_wp2
        go_round
        case rel => exact ⟨k + 1, by omega, by go_num, HN2⟩
        case measure => simp [intOf]; omega
    · obtain rfl : k = s.size := by omega
      have h1 : ¬ (s.size : Int) < (s.size : Int) := by omega
      have HF := Lib.hid (first_end (Nat.zero_le _) HN.out)
      have HG := Lib.hid (first_end (Nat.le_refl _) (NoB.zero s 41 s.size))
      go_wp2
      go_loop [4] (fun v => v = .int .i64 (s.size : Int)) (fun v => 0)
      case atStart => rfl
      case round =>
        obtain rfl := hrel
        have i5 : (s.size : Int) ≤ (s.size : Int) := by omega
        go_wp2
        go_ret
        refine ⟨?_, rfl⟩
        unfold Ip.midS
        rw [HF.out, HG.out, if_pos (by rw [HSL.out]; omega)]
        rfl
end Go.Proofs.YtkohfomiigcifaaGreatDoor
namespace Go.Proofs.YtkohfomiigcifaaGreatDoor
open Go.RowKit
open Wd (Bs)

/-- the words and the word under way behind i bytes; behind the end the words -/
def stAt (l : Bs) (i : Nat) : List Bs × Bs := if i ≤ l.length then Ip.wst (l.take i) else (Ip.wsp l, [])
theorem stAt_zero (l : Bs) : stAt l 0 = ([], []) := rfl
theorem stAt_end (l : Bs) : stAt l (l.length + 1) = (Ip.wsp l, []) := by unfold stAt; rw [if_neg (by omega)]
theorem wst_snoc (l : Bs) (b : UInt8) : Ip.wst (l ++ [b]) = Ip.stW (Ip.wst l) b := by unfold Ip.wst; rw [List.foldl_append]; rfl
theorem stAt_byte {s : ByteArray} {i : Nat} (h : i < s.size) : stAt s.data.toList (i + 1) = Ip.stW (stAt s.data.toList i) s[i] := by
  have hsl : s.data.toList.length = s.size := Array.length_toList
  unfold stAt
  rw [if_pos (by omega), if_pos (by omega), ← wst_snoc]
  congr 1
  rw [List.take_succ_eq_append_getElem (by omega)]
  rfl
theorem stAt_add {s : ByteArray} {i : Nat} {ps : List Bs} {nw : Bs} (h : i < s.size) (hc : ¬ s[i] = 32) (e : stAt s.data.toList i = (ps, nw)) : stAt s.data.toList (i + 1) = (ps, nw ++ [s[i]]) := by
  rw [stAt_byte h, e]
  unfold Ip.stW
  rw [if_neg hc]
theorem stAt_cut {s : ByteArray} {i : Nat} {ps : List Bs} {nw : Bs} (h : i < s.size) (hc : s[i] = 32) (e : stAt s.data.toList i = (ps, nw)) : stAt s.data.toList (i + 1) = (ps ++ [nw], []) := by
  rw [stAt_byte h, e]
  unfold Ip.stW
  rw [if_pos hc]
theorem stAt_last {s : ByteArray} {ps : List Bs} {nw : Bs} (e : stAt s.data.toList s.size = (ps, nw)) : stAt s.data.toList (s.size + 1) = (ps ++ [nw], []) := by
  have hsl : s.data.toList.length = s.size := Array.length_toList
  have h1 := stAt_end s.data.toList
  rw [hsl] at h1
  rw [h1]
  unfold stAt at e
  rw [if_pos (by omega), ← hsl, List.take_length] at e
  unfold Ip.wsp
  rw [e]
theorem slice_one {s : ByteArray} {i : Nat} (h : i < s.size) : (s.extract i (i + 1)).data.toList = [s[i]] := by
  have hsl : s.data.toList.length = s.size := Array.length_toList
  rw [extract_slice, slice_eq, show i + 1 - i = 1 by omega, List.drop_eq_getElem_cons (by omega)]
  rfl
theorem own_place {B : Nat} {w : World} {v : Value} {l : List Bs} (h : OwnStrs B w v l) (hl : 0 < l.length) : ∃ b cap, v = .slice (some ⟨b, 0, none⟩) l.length cap ∧ ∀ j, j < l.length → w.cell? ⟨b, j, none⟩ = some (str (l.getD j [])) := by
  rcases h.shape with ⟨rfl, rfl⟩ | ⟨g, cap, rfl, h1, h2, h3, h4, h5⟩
  · simp at hl
  · refine ⟨g, cap, rfl, fun j hj => h5 j _ ?_⟩
    rw [List.getD, List.getElem?_eq_getElem hj]
    rfl
theorem stAt_size (l : Bs) : ∀ i, i ≤ l.length → (stAt l i).2.length ≤ i ∧ (stAt l i).1.length ≤ i
  | 0, _ => by rw [stAt_zero]; simp
  | i + 1, h => by
    have ih := stAt_size l i (by omega)
    have e : stAt l (i + 1) = Ip.stW (stAt l i) l[i] := by
      unfold stAt
      rw [if_pos h, if_pos (by omega), ← wst_snoc, List.take_succ_eq_append_getElem (by omega)]
    rw [e]
    unfold Ip.stW
    split
    · simp; omega
    · simp; omega
theorem wst_words : ∀ (l : Bs) (a : List Bs × Bs) (N : Nat), (∀ p ∈ a.1, p.length ≤ N) → a.2.length + l.length ≤ N → (∀ p ∈ (l.foldl Ip.stW a).1, p.length ≤ N) ∧ (l.foldl Ip.stW a).2.length ≤ N
  | [], a, N, h1, h2 => ⟨h1, by simpa using h2⟩
  | b :: l, a, N, h1, h2 => by
    rw [List.foldl_cons]
    simp at h2
    unfold Ip.stW
    split
    · refine wst_words l _ N (fun p hp => ?_) (by simp; omega)
      rcases List.mem_append.1 hp with hp | hp
      · exact h1 p hp
      · rw [List.mem_singleton] at hp; subst hp; omega
    · exact wst_words l _ N h1 (by simp; omega)
theorem wst_count : ∀ (l : Bs) (a : List Bs × Bs), (l.foldl Ip.stW a).1.length ≤ a.1.length + l.length
  | [], a => by simp
  | b :: l, a => by
    rw [List.foldl_cons]
    have := wst_count l (Ip.stW a b)
    have h2 : (Ip.stW a b).1.length ≤ a.1.length + 1 := by unfold Ip.stW; split <;> simp
    simp
    omega
theorem wsp_len (l : Bs) : (Ip.wsp l).length ≤ l.length + 1 := by
  have := wst_count l ([], [])
  unfold Ip.wsp Ip.wst
  simp at this ⊢
  exact this
theorem wsp_word (l : Bs) (j : Nat) : ((Ip.wsp l).getD j []).length ≤ l.length := by
  have h := wst_words l ([], []) l.length (fun p hp => by cases hp) (by simp)
  rw [List.getD]
  cases hj : (Ip.wsp l)[j]? with
  | none => simp
  | some p =>
    have hm := List.mem_of_getElem? hj
    unfold Ip.wsp at hm
    rcases List.mem_append.1 hm with hp | hp
    · exact h.1 p hp
    · rw [List.mem_singleton] at hp; subst hp; exact h.2
theorem numL_some {l : Bs} {n : Int} (h : Num.numberL l = some n) : (Num.numberL l).getD 0 = n ∧ (Num.numberL l).isSome = true := by rw [h]; exact ⟨rfl, rfl⟩
theorem numL_none {l : Bs} (h : Num.numberL l = none) : (Num.numberL l).getD 0 = 0 ∧ (Num.numberL l).isSome = false := by rw [h]; exact ⟨rfl, rfl⟩
theorem refNum19 (x : Bs) (hx : x.length ≤ 1000001) (w : World) : Calls Tryz.prog 112 #[str x] w fun e w' => e = .returned (.tuple #[.int .i64 (Ip.numV x), .bool (Num.numberL x).isSome]) ∧ Below w.heap.size w w' := by
  refine refNumber ⟨x.toArray⟩ ?_ w
  rw [size_of]
  omega
set_option maxHeartbeats 8000000 in
set_option maxRecDepth 100000 in
theorem refLast19 (s : ByteArray) (hs : s.size ≤ 1000000) (w : World) : Calls Tryz.prog 76 #[.string s] w fun e w' => e = .returned (.int .i64 (Ip.lastN s.data.toList)) ∧ Below w.heap.size w w' := by
  have hsl : s.data.toList.length = s.size := Array.length_toList
  have HSL := Lib.hid hsl
  clear hsl
  go_enter Tryz.func76, Tryz.ntmps76
  go_wp2_with fail
  go_loopw [3, 4, 5] (fun wv nv iv wr => ∃ (i : Nat) (ps : List Bs) (nw : ByteArray), i ≤ s.size + 1 ∧ iv = .int .i64 (i : Int) ∧ nv = .string nw ∧ Hid (stAt s.data.toList i = (ps, nw.data.toList)) ∧ OwnStrs w.heap.size wr wv ps ∧ Below w.heap.size w wr) (fun _ _ iv _ => s.size + 2 - (intOf iv).toNat)
  case atStart => exact ⟨0, [], ⟨#[]⟩, by omega, rfl, rfl, Lib.hid (stAt_zero _), OwnStrs.nil _ _, Below.refl _ _⟩
  case round =>
    obtain ⟨i, ps, nw, hi, rfl, rfl, HE, hown, hb⟩ := hrel
    have hsz := hb.size
    by_cases hle : i ≤ s.size
    · have HZ := Lib.hid (stAt_size s.data.toList i (by rw [HSL.out]; exact hle))
      have hns : nw.size ≤ 1000000 := by have h := HZ.out.1; rw [HE.out] at h; simp at h; omega
      have hpl : ps.length ≤ 1000000000000 := by have h := HZ.out.2; rw [HE.out] at h; simp at h; omega
      have h1 : (i : Int) ≤ (s.size : Int) := by omega
      have h0 : (0 : Int) ≤ (i : Int) := by omega
      have i1 : IntKind.i64.wrap ((i : Int) + 1) = ((i + 1 : Nat) : Int) := by rw [IntWalk.i64_in _ (by omega)]; omega
      by_cases hlt : i < s.size
      · have h2 : (i : Int) < (s.size : Int) := by omega
        have h3 : ((i + 1 : Nat) : Int) ≤ (s.size : Int) := by omega
        have h4 : (i : Int) ≤ ((i + 1 : Nat) : Int) := by omega
        by_cases hc : s[i] = 32
        · have hbt : ((s[i].toNat : Int) == 32) = true := by rw [hc]; rfl
          have HE2 := Lib.hid (stAt_cut hlt hc HE.out)
          have HPL := Lib.hid hpl
          clear hc hpl
          go_wp2_with (at_builtin; refine wpList_push_str rfl _ _ rfl rfl hown nw rfl HPL.out hsz hb ?_)
          intro v' w1 ho hb'
          clear hown hb
          go_wp2_with fail
          go_roundw
          case rel => exact ⟨i + 1, ps ++ [nw.data.toList], ⟨#[]⟩, by omega, by go_num, rfl, HE2, ho, hb'⟩
          case measure => simp [intOf]; omega
        · have hbt : ((s[i].toNat : Int) == 32) = false := byte_no hc (by decide)
          have HE2 : Hid (stAt s.data.toList (i + 1) = (ps, (nw ++ s.extract i (i + 1)).data.toList)) := Lib.hid (by
            rw [stAt_add hlt hc HE.out, show (nw ++ s.extract i (i + 1)).data.toList = nw.data.toList ++ (s.extract i (i + 1)).data.toList by simp, slice_one hlt])
          clear hc
          go_wp2_with fail
          go_roundw
          case rel => exact ⟨i + 1, ps, nw ++ s.extract i (i + 1), by omega, by go_num, rfl, HE2, hown, hb⟩
          case measure => simp [intOf]; omega
      · obtain rfl : i = s.size := by omega
        have h2 : ¬ (s.size : Int) < (s.size : Int) := by omega
        have HE2 := Lib.hid (stAt_last HE.out)
        have HPL := Lib.hid hpl
        clear hpl
        go_wp2_with (at_builtin; refine wpList_push_str rfl _ _ rfl rfl hown nw rfl HPL.out hsz hb ?_)
        intro v' w1 ho hb'
        clear hown hb
        go_wp2_with fail
        go_roundw
        case rel => exact ⟨s.size + 1, ps ++ [nw.data.toList], ⟨#[]⟩, by omega, by go_num, rfl, HE2, ho, hb'⟩
        case measure => simp [intOf]
    · obtain rfl : i = s.size + 1 := by omega
      have hl1 : Ip.wsp s.data.toList = ps := by
        have h1 := stAt_end s.data.toList
        rw [HSL.out, HE.out] at h1
        injection h1 with h2 _
        exact h2.symm
      have hpos : 0 < ps.length := by rw [← hl1]; unfold Ip.wsp; simp
      have hple : ps.length ≤ 1000001 := by rw [← hl1]; have := wsp_len s.data.toList; rw [HSL.out] at this; omega
      have hwl : ∀ j, (ps.getD j []).length ≤ 1000001 := fun j => by rw [← hl1]; have := wsp_word s.data.toList j; rw [HSL.out] at this; omega
      obtain ⟨b, cap, rfl, hcell⟩ := own_place hown hpos
      obtain ⟨q, hq⟩ : ∃ q, ps.length = q + 1 := ⟨ps.length - 1, by omega⟩
      have hc1 := hcell q (by omega)
      have HW := Lib.hid hwl
      have HL1 := Lib.hid hl1
      have HC := Lib.hid hcell
      obtain ⟨L, hL⟩ : ∃ L, L = ps.length := ⟨_, rfl⟩
      have HQ : Hid (L = q + 1) := Lib.hid (by rw [hL, hq])
      have HPL : Hid (ps.length = L) := Lib.hid hL.symm
      rw [← hL]
      have h1 : ¬ ((s.size + 1 : Nat) : Int) ≤ (s.size : Int) := by omega
      have j1 : IntKind.i64.wrap ((L : Int) - 1) = (q : Int) := by rw [IntWalk.i64_in _ (by omega)]; omega
      have j2 : (q : Int) < (L : Int) := by omega
      have j3 : (0 : Int) ≤ (q : Int) := by omega
      obtain ⟨x, hx, ex⟩ := exists_bytes (ps.getD q [])
      rw [ex] at hc1
      have HX := Lib.hid hx
      have HN : Hid (∀ W, Calls Tryz.prog 112 #[.string x] W fun e w' => e = .returned (.tuple #[.int .i64 (Ip.numV x.data.toList), .bool (Num.numberL x.data.toList).isSome]) ∧ Below W.heap.size W w') := Lib.hid fun W => refNum19 x.data.toList (by rw [hx]; exact hwl q) W
      have HLN : Hid (Ip.lastN s.data.toList = match Num.numberL x.data.toList with | some n => n | none => if 1 < q + 1 then Ip.numV (ps.getD (q - 1) []) else 0) := Lib.hid (by
        unfold Ip.lastN
        rw [hl1, hq, show q + 1 - 1 = q by omega, ← hx, show q + 1 - 2 = q - 1 by omega]
        cases Num.numberL x.data.toList <;> rfl)
      have hL1 : L ≤ 1000001 := by omega
      clear hcell hown hx ex hl1 hwl hq hpos hL hple
      cases hn : Num.numberL x.data.toList with
      | some n =>
        have HV : Hid (Ip.numV x.data.toList = n) := Lib.hid (by unfold Ip.numV; rw [hn]; rfl)
        rw [hn] at HN HLN
        rw [HV.out] at HN
        clear hn
        go_wp2_with fail
        refine (HN.out _).mono ?_
        rintro e w2 ⟨rfl, hb2⟩
        go_wp2_with fail
        go_ret
        exact ⟨by rw [HLN.out]; rfl, hb.trans (hb2.mono hb.size)⟩
      | none =>
        have HV : Hid (Ip.numV x.data.toList = 0) := Lib.hid (by unfold Ip.numV; rw [hn]; rfl)
        rw [hn] at HN HLN
        rw [HV.out] at HN
        clear hn
        by_cases hq0 : q = 0
        · have j4 : ¬ (1 : Int) < (L : Int) := by have := HQ.out; omega
          subst hq0
          go_wp2_with fail
          refine (HN.out _).mono ?_
          rintro e w2 ⟨rfl, hb2⟩
          go_wp2_with fail
          go_ret
          exact ⟨by rw [HLN.out]; rfl, hb.trans (hb2.mono hb.size)⟩
        · obtain ⟨r, hr⟩ : ∃ r, r = q - 1 := ⟨_, rfl⟩
          have hqr : L = r + 2 := by have := HQ.out; omega
          rw [← hr] at HLN
          have j4 : (1 : Int) < (L : Int) := by omega
          have j5 : IntKind.i64.wrap ((L : Int) - 2) = (r : Int) := by rw [IntWalk.i64_in _ (by omega)]; omega
          have j6 : (r : Int) < (L : Int) := by omega
          have j7 : (0 : Int) ≤ (r : Int) := by omega
          have HC2 : Hid (wr.cell? ⟨b, r, none⟩ = some (str (ps.getD r []))) := Lib.hid (HC.out r (by rw [HPL.out]; omega))
          have hbl : b < wr.heap.size := World.block_lt_of_cell? wr ⟨b, q, none⟩ (by rw [hc1])
          have HBL := Lib.hid hbl
          have HLN2 : Hid (Ip.lastN s.data.toList = Ip.numV (ps.getD r [])) := Lib.hid (by rw [HLN.out, if_pos (by omega)])
          obtain ⟨y, hy, ey⟩ := exists_bytes (ps.getD r [])
          have HM : Hid (∀ W, Calls Tryz.prog 112 #[.string y] W fun e w' => e = .returned (.tuple #[.int .i64 (Ip.numV y.data.toList), .bool (Num.numberL y.data.toList).isSome]) ∧ Below W.heap.size W w') := Lib.hid fun W => refNum19 y.data.toList (by rw [hy]; exact HW.out _) W
          rw [ey] at HC2
          rw [← hy] at HLN2
          clear hy ey hbl HLN hr hqr
          go_wp2_with fail
          refine (HN.out _).mono ?_
          rintro e w2 ⟨rfl, hb2⟩
          have hc2 : w2.cell? ⟨b, r, none⟩ = some (.string y) := (hb2.cell (p := ⟨b, r, none⟩) HBL.out).trans HC2.out
          have hb3 := hb.trans (hb2.mono hb.size)
          go_wp2_with fail
          refine (HM.out _).mono ?_
          rintro e w3 ⟨rfl, hb4⟩
          have hb5 := hb3.trans (hb4.mono hb3.size)
          cases hk : (Num.numberL y.data.toList).isSome with
          | true =>
            go_wp2_with fail
            go_ret
            exact ⟨by rw [HLN2.out]; rfl, hb5⟩
          | false =>
            have HZ0 : Hid (Ip.numV y.data.toList = 0) := Lib.hid (by unfold Ip.numV; cases hz : Num.numberL y.data.toList with | none => rfl | some n => rw [hz] at hk; cases hk)
            go_wp2_with fail
            go_ret
            exact ⟨by rw [HLN2.out, HZ0.out]; rfl, hb5⟩
end Go.Proofs.YtkohfomiigcifaaGreatDoor
namespace Go.Proofs.YtkohfomiigcifaaGreatDoor
open Go.RowKit
open Wd (Bs)

theorem refParseM13 (s : ByteArray) (hs : s.size ≤ 1000000) (w : World) :
    Calls Tryz.prog 38 #[.string s] w fun e w' => e = .returned (.tuple #[.agg (cellsF (Fil.parseV s.data.toList) (fsOf (Fil.parseV s.data.toList))), .int .i64 (Fil.parseE s.data.toList)]) ∧ Below w.heap.size w w' := by
  refine (refParse13 s w hs).mono ?_
  rintro e w1 (⟨a, fs, h1, h2, _, _, h5, rfl, hb⟩ | ⟨h1, h2, rfl, hb⟩)
  · refine ⟨?_, hb⟩
    rw [h1, h2, ← fs_eq (f := a.flt) h5]
    rfl
  · refine ⟨?_, hb⟩
    rw [h1, h2]
    rfl
theorem fsOf_le {g : Fil.Flt} (h : g.sub.length ≤ 1000) : (fsOf g).size ≤ maxLen := by unfold fsOf; rw [size_of]; unfold maxLen; omega
theorem mid_len (l : Bs) : (Ip.midS l).length ≤ l.length := by
  unfold Ip.midS
  split
  · simp
  · rw [Wd.slice, List.length_drop, List.length_take]; omega
theorem refTry19 (s : ByteArray) (hs : s.size ≤ 1000000) (on who d n z c : Int) (f : Fil.Flt) (hf : f.sub.length ≤ 1000) (w : World) :
    Calls Tryz.prog 40 #[.string s, .agg (ipG on who (cellsF f (fsOf f)) d n z c)] w fun e w' => e = .returned (.tuple #[.agg (cellsI (Ip.tryV s.data.toList ⟨on, who, f, d, n, z, c⟩)), .bool (Ip.tryB s.data.toList ⟨on, who, f, d, n, z, c⟩)]) ∧ Below w.heap.size w w' :=
  refTryIn19 s on who d n z c f w (Lib.hid fun W _ => refLast19 s hs W) (Lib.hid fun n z c W _ => refIs19 on who d n z c f (fsOf f) (fsOf_sub f) (fsOf_le hf) W) (Lib.hid fun n z c W _ => refTxt19 on who d n z c f (fsOf f) (fsOf_sub f) (fsOf_le hf) W)
theorem refParse19 (s : ByteArray) (hs : s.size ≤ 1000000) (w : World) :
    Calls Tryz.prog 15 #[.string s] w fun e w' => e = .returned (.tuple #[.agg (cellsI (Ip.pV s.data.toList)), .int .i64 (Ip.pE s.data.toList)]) ∧ Below w.heap.size w w' := by
  have hsl : s.data.toList.length = s.size := Array.length_toList
  have hml := mid_len s.data.toList
  have hms : (⟨(Ip.midS s.data.toList).toArray⟩ : ByteArray).size ≤ 1000000 := by rw [size_of]; omega
  have HM : Hid (∀ W, Below w.heap.size w W → _) := Lib.hid fun W _ => below_same (refMid19 s hs W)
  have HF : Hid (∀ W, Below w.heap.size w W → _) := Lib.hid fun W _ => refParseM13 ⟨(Ip.midS s.data.toList).toArray⟩ hms W
  have h0 : (Fil.zero).sub.length ≤ 1000 := by decide
  have HT1 : Hid (∀ (i j k : Nat) W, Below w.heap.size w W → Calls Tryz.prog 40 #[.string s, .agg (ipG (i : Int) (k : Int) cellsZ (j : Int) 0 0 0)] W fun e w' => e = .returned (.tuple #[.agg (cellsI (Ip.tryV s.data.toList (Ip.baseR i j k Fil.zero))), .bool (Ip.tryB s.data.toList (Ip.baseR i j k Fil.zero))]) ∧ Below W.heap.size W w') := Lib.hid fun i j k W _ => refTry19 s hs i k j 0 0 0 Fil.zero h0 W
  rcases Fil.parse_cases (Ip.midS s.data.toList) with ⟨h1, h2⟩ | ⟨g, h1, _, h3, h4⟩
  · exact refPaBad19 s ⟨(Ip.midS s.data.toList).toArray⟩ (Fil.parseV (Ip.midS s.data.toList)) (Fil.parseE (Ip.midS s.data.toList)) w HM HF (by rw [h2]; rfl) (Lib.hid rfl) HT1 (by rw [h1]; exact HT1)
  · have hl : (Fil.parseV (Ip.midS s.data.toList)).sub.length ≤ 1000 := by rw [h3]; exact Nat.le_trans (sub_len (Fil.valid_of h1).sub) (by decide)
    exact refPaOk19 s ⟨(Ip.midS s.data.toList).toArray⟩ (Fil.parseV (Ip.midS s.data.toList)) (Fil.parseE (Ip.midS s.data.toList)) w HM HF (by rw [h4]; rfl) (Lib.hid rfl) HT1 (Lib.hid fun i j k W _ => refTry19 s hs i k j 0 0 0 _ hl W)
end Go.Proofs.YtkohfomiigcifaaGreatDoor
namespace Go.Proofs.YtkohfomiigcifaaGreatDoor
open Go.RowKit
open Wd (Bs)

set_option maxHeartbeats 8000000 in
set_option maxRecDepth 100000 in
theorem paLongI (s : ByteArray) (w : World)
    (HL : Hid (∀ W, Below w.heap.size w W → Calls Tryz.prog 9 #[] W fun e w' => e = .returned (.bool true) ∧ Below W.heap.size W w')) (hl : decide (600 < (s.size : Int)) = true) :
    Calls Tryz.prog 5 #[.string s] w fun e w' => e = .returned (.bool true) ∧ Below w.heap.size w w' := by

  have M := Mm.nil w
  go_enter Tryz.func5, Tryz.ntmps5
  go_upto_region 0 with fail
  refine wp_region_lit ?_
  with_reducible refine rA ?_
  go_upto_region 1 with fail
  refine wp_region_lit ?_
  iterate 3 (with_reducible refine rA ?_)
  go_upto_region 2 with fail
  refine wp_region_lit ?_
  with_reducible refine vC M (HL.out _ M.b) ?_; clear M; intro u M
  with_reducible refine rA ?_
  go_wp2_with fail
  go_ret
  exact ⟨rfl, M.b⟩

set_option maxHeartbeats 8000000 in
set_option maxRecDepth 100000 in
theorem paShortI (s : ByteArray) (er : Int) (on who d n z c : Int) (f : Fil.Flt) (fs : ByteArray) (w : World)
    (HL : Hid (∀ W, Below w.heap.size w W → Calls Tryz.prog 9 #[] W fun e w' => e = .returned (.bool true) ∧ Below W.heap.size W w')) (hl : decide (600 < (s.size : Int)) = false) (HP : Hid (∀ W, Below w.heap.size w W → Calls Tryz.prog 14 #[.string s] W fun e w' => e = .returned (.tuple #[.agg (ipG on who (cellsF f fs) d n z c), .int .i64 er]) ∧ Below W.heap.size W w')) (HR : Hid (∀ W, Below w.heap.size w W → Calls Tryz.prog 15 #[.string s] W fun e w' => e = .returned (.tuple #[.agg (ipG on who (cellsF f fs) d n z c), .int .i64 er]) ∧ Below W.heap.size W w')) (hq : ∀ W : World, (Op.equalIn 10000 27 (.agg (ipG on who (cellsF f fs) d n z c)) (.agg (ipG on who (cellsF f fs) d n z c))).run Tryz.prog W = .ok true W) :
    Calls Tryz.prog 5 #[.string s] w fun e w' => e = .returned (.bool true) ∧ Below w.heap.size w w' := by

  have M := Mm.nil w
  go_enter Tryz.func5, Tryz.ntmps5
  go_upto_region 0 with fail
  refine wp_region_lit ?_
  with_reducible refine rA ?_
  go_upto_region 1 with fail
  refine wp_region_lit ?_
  iterate 3 (with_reducible refine rA ?_)
  go_upto_region 3 with fail
  refine wp_region_lit ?_
  with_reducible refine rA ?_
  with_reducible refine vC M (HP.out _ M.b) ?_; clear M; intro u M
  with_reducible refine rA ?_
  (with_reducible refine rB (.agg (ipG on who (cellsF f fs) d n z c)) ?_ ?_); (· go_simp; (try with_reducible rfl))
  with_reducible refine rA ?_
  with_reducible refine wA (ipG 0 0 cellsZ 0 0 0 0) M ?_; clear M; intro pB3 u M; refine ⟨_, by (simp only [pu, sB, s0, sS]; rfl), ?_⟩
  with_reducible refine wS 0 M (laid_all (ipG_sz (cellsF_size f fs)) (ipG_sz cellsZ_size)) (infoTIp22 (ipG_sz (cellsF_size f fs))) (ipG_one (cellsF_one f fs)) (fit_2 (ipG_sz cellsZ_size) (ipG_sz (cellsF_size f fs)) (by decide)) ?_; clear M; intro u M
  with_reducible refine rA ?_
  go_upto_region 4 with fail
  refine wp_region_lit ?_
  with_reducible refine rA ?_
  with_reducible refine vC M (HR.out _ M.b) ?_; clear M; intro u M
  with_reducible refine rA ?_
  (with_reducible refine rB (.agg (ipG on who (cellsF f fs) d n z c)) ?_ ?_); (· go_simp; (try with_reducible rfl))
  with_reducible refine rA ?_
  with_reducible refine wA (ipG 0 0 cellsZ 0 0 0 0) M ?_; clear M; intro pB5 u M; refine ⟨_, by (simp only [pu, sB, s0, sS]; rfl), ?_⟩
  with_reducible refine wS 1 M (laid_all (ipG_sz (cellsF_size f fs)) (ipG_sz cellsZ_size)) (infoTIp22 (ipG_sz (cellsF_size f fs))) (ipG_one (cellsF_one f fs)) (fit_2 (ipG_sz cellsZ_size) (ipG_sz (cellsF_size f fs)) (by decide)) ?_; clear M; intro u M
  with_reducible refine rA ?_
  go_upto_region 5 with fail
  refine wp_region_lit ?_
  with_reducible refine vC M (HL.out _ M.b) ?_; clear M; intro u M
  with_reducible refine rA ?_
  with_reducible refine wL 0 M whole_part Tryz.underlying27 (infoTIp22 (ipG_sz (cellsF_size f fs))) ?_
  with_reducible refine wL 1 M whole_part Tryz.underlying27 (infoTIp22 (ipG_sz (cellsF_size f fs))) ?_
  iterate 8 (with_reducible refine rA ?_)
  go_wp2_with fail
  go_ret
  exact ⟨rfl, M.b⟩
end Go.Proofs.YtkohfomiigcifaaGreatDoor
namespace Go.Proofs.YtkohfomiigcifaaGreatDoor
open Go.RowKit
open Wd (Bs)

theorem lawInsteadParses (s : ByteArray) (w : World) (hE : EnvI w) :
    Calls Tryz.prog 5 #[.string s] w fun e w' => e = .returned (.bool true) ∧ Below w.heap.size w w' := by
  have HL : Hid (∀ W, Below w.heap.size w W → _) := Lib.hid fun W hb => ipAlive W (hE.below hb)
  cases hl : decide (600 < (s.size : Int)) with
  | true => exact paLongI s w HL hl
  | false =>
    have hle := of_decide_eq_false hl
    obtain ⟨x, hx⟩ : ∃ x, Ip.pV s.data.toList = x := ⟨_, rfl⟩
    obtain ⟨er, he⟩ : ∃ x, Ip.pE s.data.toList = x := ⟨_, rfl⟩
    have HP : Hid (∀ W, Below w.heap.size w W → _) := Lib.hid fun W hb => ipParse s (by omega) W (hE.below hb)
    have HR : Hid (∀ W, Below w.heap.size w W → _) := Lib.hid fun W _ => refParse19 s (by omega) W
    rw [hx, he] at HP HR
    exact paShortI s er x.on x.who x.d x.n x.z x.c x.f (fsOf x.f) w HL hl HP HR (fun W => run_eq_selfI x W)
end Go.Proofs.YtkohfomiigcifaaGreatDoor
