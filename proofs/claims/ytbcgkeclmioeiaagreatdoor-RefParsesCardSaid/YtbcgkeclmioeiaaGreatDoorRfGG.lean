/-
  MERGED: RfRPaW, RfRefP, RfLawP, RfLawsP. By an AI agent.
-/
import Derived.Test.YtbcgkeclmioeiaaGreatDoorRfGC
import Derived.Test.YtbcgkeclmioeiaaGreatDoorRfGA
import Derived.Deep.Cut
import Derived.Test.YtbcgkeclmioeiaaGreatDoorRfGD
import Derived.Test.YtbcgkeclmioeiaaGreatDoorFilRefE
namespace Go.Proofs.YtbcgkeclmioeiaaGreatDoor
open Go.RowKit
open Wd (Bs)

theorem builtR_kf (k : Int) (f : Fil.Flt) (fs : ByteArray) : Tryz.prog.built 27 [(0, .int .i64 k), (2, .agg (cellsF f fs))] = some (rF k 0 (cellsF f fs)) := by kernel_rfl
theorem rfShort {s : ByteArray} (h : s.size < 6) : ∀ m, s.data.toList ≠ Rf.sEach ++ (m ++ [41]) := fun m e => by
  have h1 : s.data.toList.length = s.size := Array.length_toList
  rw [e] at h1
  simp [Rf.sEach] at h1
  omega
theorem ext_list (s : ByteArray) (a b : Nat) : (s.extract a b).data.toList = (s.data.toList.drop a).take (b - a) := by
  rw [ByteArray.data_extract, Array.toList_extract]
theorem rfPre {s : ByteArray} (h : ((s.extract 0 5).toList == [101, 97, 99, 104, 40]) = false) : ∀ m, s.data.toList ≠ Rf.sEach ++ (m ++ [41]) := fun m e => by
  rw [Lib.toList_data, ext_list, e] at h
  simp [Rf.sEach] at h
theorem rfLast {s : ByteArray} (hi : s.size - 1 < s.size) {m : Bs} (e : s.data.toList = Rf.sEach ++ (m ++ [41])) : s[s.size - 1] = 41 := by
  have h1 : s.data.toList.length = s.size := Array.length_toList
  have h2 : s.data.toList[s.size - 1]? = some s[s.size - 1] := by
    rw [List.getElem?_eq_getElem (by omega)]
    rfl
  rw [e] at h1 h2
  rw [← List.append_assoc] at h1 h2
  have h3 : (Rf.sEach ++ m).length = s.size - 1 := by
    rw [List.length_append] at h1
    simp at h1 ⊢
    omega
  have h5 : (Rf.sEach ++ m ++ [41])[s.size - 1]? = some 41 := by rw [List.getElem?_append_right (by omega), show s.size - 1 - (Rf.sEach ++ m).length = 0 by omega]; rfl
  rw [h5] at h2
  simpa using h2.symm
theorem rfEnd {s : ByteArray} (hi : s.size - 1 < s.size) (h : ((s[s.size - 1].toNat : Int) == 41) = false) : ∀ m, s.data.toList ≠ Rf.sEach ++ (m ++ [41]) := fun m e => by
  rw [rfLast hi e] at h
  cases h
theorem rfEach {s : ByteArray} (hi : s.size - 1 < s.size) (h6 : 6 ≤ s.size) (hp : ((s.extract 0 5).toList == [101, 97, 99, 104, 40]) = true) (hb : ((s[s.size - 1].toNat : Int) == 41) = true) : s.data.toList = Rf.sEach ++ ((s.extract 5 (s.size - 1)).data.toList ++ [41]) := by
  have h1 : s.data.toList.length = s.size := Array.length_toList
  rw [beq_iff_eq, Lib.toList_data, ext_list] at hp
  have e41 : s[s.size - 1] = 41 := by
    have h2 : s[s.size - 1].toNat = 41 := by have h3 : (s[s.size - 1].toNat : Int) = 41 := by simpa using hb
                                             omega
    exact UInt8.toNat_inj.1 (by rw [h2]; rfl)
  have h2 : s.data.toList.drop (s.size - 1) = [41] := by
    rw [List.drop_eq_getElem_cons (by omega), List.drop_eq_nil_of_le (by omega)]
    congr 1
  rw [ext_list]
  have h5 : s.data.toList.take 5 = Rf.sEach := by simpa [Rf.sEach] using hp
  have h7 : (s.data.toList.drop 5).take (s.size - 1 - 5) ++ [41] = s.data.toList.drop 5 := by
    rw [← h2]
    have h8 : s.data.toList.drop (s.size - 1) = (s.data.toList.drop 5).drop (s.size - 1 - 5) := by rw [List.drop_drop]; congr 1; omega
    rw [h8, List.take_append_drop]
  rw [h7, ← h5, List.take_append_drop]
theorem rfSize {s m : ByteArray} (h : s.data.toList = Rf.sEach ++ (m.data.toList ++ [41])) (hs : s.size ≤ 1000000) : m.size ≤ 1000000 := by
  have h1 : s.data.toList.length = s.size := Array.length_toList
  have h2 : m.data.toList.length = m.size := Array.length_toList
  rw [h] at h1
  simp at h1
  omega

set_option maxHeartbeats 8000000 in
set_option maxRecDepth 100000 in
theorem refPaIn16 (s : ByteArray) (w : World)
    (hs : s.size ≤ 1000000) (HI : Hid (∀ (k n : Nat) W, k ≤ 8 → n ≤ 4 → Calls Tryz.prog 15 #[.agg (rF (k : Int) (n : Int) cellsZ), .int .i64 4] W fun e w' => e = .returned (.bool (Rf.okB 4 ⟨k, n, Fil.zero⟩)) ∧ Below W.heap.size W w')) (HT : Hid (∀ (k n : Nat) W, k ≤ 8 → n ≤ 4 → Calls Tryz.prog 17 #[.agg (rF (k : Int) (n : Int) cellsZ)] W fun e w' => e = .returned (str (Rf.textR ⟨k, n, Fil.zero⟩)) ∧ Below W.heap.size W w')) (HF : Hid (∀ (m : ByteArray) W, m.size ≤ 1000000 → Calls Tryz.prog 42 #[.string m] W fun e w' => e = .returned (.tuple #[.agg (cellsF (Fil.parseV m.data.toList) (fsOf (Fil.parseV m.data.toList))), .int .i64 (Fil.parseE m.data.toList)]) ∧ Below W.heap.size W w')) :
    Calls Tryz.prog 19 #[.string s] w fun e w' => e = .returned (.tuple #[.agg (cellsR (Rf.pV s.data.toList)), .int .i64 (Rf.pE s.data.toList)]) ∧ Below w.heap.size w w' := by

  have B0 := Lib.hid (Below.refl w.heap.size w)
  go_enter Tryz.func19, Tryz.ntmps19
  go_upto_region 0 with fail
  refine wp_region_lit ?_
  obtain ⟨w1, hw⟩ : ∃ v, v = w.alloc (.cells (rF 0 0 cellsZ) 27) := ⟨_, rfl⟩
  obtain ⟨pR, hp⟩ : ∃ v, v = w.heap.size := ⟨_, rfl⟩
  have B1 : Hid (Below w.heap.size w w1) := Lib.hid (by rw [hw]; exact B0.out.alloc B0.out.size _)
  have LER : Hid (w.heap.size ≤ pR) := Lib.hid (by rw [hp]; exact B0.out.size)
  have KR1 : Hid (Blk w1 pR (rF 0 0 cellsZ) 27) := Lib.hid (by rw [hw, hp]; exact Blk.new _ _ _)
  with_reducible refine wpList_runWV (some 2) (v := .pointer (some ⟨pR, 0, none⟩)) (w' := w1) ?_ ?_ ?_ ?_
  · rfl
  · rfl
  · rw [hw, hp]; (go_simp; (try rfl))
  simp only [pu, sB, s0, sS]
  clear hw hp
  clear B0
  (with_reducible refine rN (v := ?_) ?_ ?_ ?_); rotate_left; (· rfl); (· go_simp; (try with_reducible rfl)); simp only [pu, sB, s0, sS]
  go_upto_region 1 with fail
  refine wp_region_lit ?_
  (with_reducible refine rN (v := ?_) ?_ ?_ ?_); rotate_left; (· rfl); (· go_simp; (try with_reducible rfl)); simp only [pu, sB, s0, sS]
  go_wp2_with fail
  go_loopw [4, 5, 6] (fun kv nv tv wr => ∃ k : Nat, 1 ≤ k ∧ k ≤ 9 ∧ kv = .int .i64 (k : Int) ∧ Hid (Rf.NoC s.data.toList k 0) ∧ Hid (Blk wr pR (rF 0 0 cellsZ) 27) ∧ Hid (Below w.heap.size w wr)) (fun kv _ _ _ => 9 - (intOf kv).toNat)
  case atStart => exact ⟨1, by omega, by omega, rfl, Lib.hid (Rf.NoC.zero _), KR1, B1⟩
  case round =>
    revert wr
    intro w0 hrel
    obtain ⟨k, hk1, hk9, rfl, HN, KR0, B0⟩ := hrel
    by_cases hlt : k ≤ 8
    · have hlt2 : (k : Int) ≤ 8 := by omega
      go_upto_region 2 with fail
      refine wp_region_lit ?_
      (with_reducible refine rN (v := ?_) ?_ ?_ ?_); rotate_left; (· rfl); (· go_simp; (try with_reducible rfl)); simp only [pu, sB, s0, sS]
      (with_reducible refine rN (v := .bool true) ?_ ?_ ?_); (· rfl); (· go_simp; (try with_reducible rfl)); simp only [pu, sB, s0, sS]
      go_upto_region 4 with fail
      refine wp_region_lit ?_
      (with_reducible refine rN (v := ?_) ?_ ?_ ?_); rotate_left; (· rfl); (· go_simp; (try with_reducible rfl)); simp only [pu, sB, s0, sS]
      go_wp2_with fail
      go_loopw [5, 6] (fun nv tv wr => ∃ n : Nat, n ≤ 5 ∧ nv = .int .i64 (n : Int) ∧ Hid (Rf.NoC s.data.toList k n) ∧ Hid (Blk wr pR (rF 0 0 cellsZ) 27) ∧ Hid (Below w.heap.size w wr)) (fun nv _ _ => 5 - (intOf nv).toNat)
      case atStart => exact ⟨0, by omega, rfl, HN, KR0, B0⟩
      case round =>
        clear HN KR0 B0
        obtain ⟨n, hn5, rfl, HN, KR0, B0⟩ := hrel
        by_cases hln : n ≤ 4
        · have hln2 : (n : Int) ≤ 4 := by omega
          go_upto_region 5 with fail
          refine wp_region_lit ?_
          (with_reducible refine rN (v := ?_) ?_ ?_ ?_); rotate_left; (· rfl); (· go_simp; (try with_reducible rfl)); simp only [pu, sB, s0, sS]
          (with_reducible refine rN (v := .bool true) ?_ ?_ ?_); (· rfl); (· go_simp; (try with_reducible rfl)); simp only [pu, sB, s0, sS]
          go_upto_region 7 with fail
          refine wp_region_lit ?_
          iterate 2 ((with_reducible refine rN (v := ?_) ?_ ?_ ?_); rotate_left; (· rfl); (· go_simp; (try with_reducible rfl)); simp only [pu, sB, s0, sS])
          (with_reducible refine rN (v := .agg (rF (k : Int) (n : Int) cellsZ)) ?_ ?_ ?_); (· rfl); (· refine run_buildOp _ [(0, .int .i64 (k : Int)), (1, .int .i64 (n : Int))] rfl ?_ (builtR_kn (k : Int) (n : Int)); rfl); simp only [pu, sB, s0, sS]
          obtain ⟨w1, hw⟩ : ∃ v, v = wr.alloc (.cells (rF 0 0 cellsZ) 27) := ⟨_, rfl⟩
          obtain ⟨pT, hp⟩ : ∃ v, v = wr.heap.size := ⟨_, rfl⟩
          have B1 : Hid (Below w.heap.size w w1) := Lib.hid (by rw [hw]; exact B0.out.alloc B0.out.size _)
          have LET : Hid (w.heap.size ≤ pT) := Lib.hid (by rw [hp]; exact B0.out.size)
          have KR1 := Lib.hid (show Blk w1 pR (rF 0 0 cellsZ) 27 by rw [hw]; exact KR0.out.alloc _)
          have NERT : Hid (pR ≠ pT) := Lib.hid (by rw [hp]; exact Nat.ne_of_lt KR0.out.lt)
          have NETR : Hid (pT ≠ pR) := Lib.hid (Ne.symm NERT.out)
          have KT1 : Hid (Blk w1 pT (rF 0 0 cellsZ) 27) := Lib.hid (by rw [hw, hp]; exact Blk.new _ _ _)
          with_reducible refine wpList_runWV (some 6) (v := .pointer (some ⟨pT, 0, none⟩)) (w' := w1) ?_ ?_ ?_ ?_
          · rfl
          · rfl
          · rw [hw, hp]; (go_simp; (try rfl))
          simp only [pu, sB, s0, sS]
          clear hw hp
          clear B0 KR0
          have KT2 := Lib.hid (KT1.out.stored (o := 0) (vs := (rF (k : Int) (n : Int) cellsZ).toList) (cs' := (rF (k : Int) (n : Int) cellsZ)) (laid_all (rF_sz cellsZ_size) (rF_sz cellsZ_size)))
          have KR2 := Lib.hid (KR1.out.wholeElse ((rF (k : Int) (n : Int) cellsZ).toList) (o := 0) NERT.out)
          have B2 := Lib.hid (below_whole ((rF (k : Int) (n : Int) cellsZ).toList) (o := 0) B1.out LET.out)
          with_reducible refine wpList_storeM (.tmp 6) (.tmp 20) (o := 0) (vs := (rF (k : Int) (n : Int) cellsZ)) ?_ ?_ KT1.out ?_ (infoTRf18 (rF_sz cellsZ_size)) (rF_one cellsZ_one) ?_
          · rfl
          · rfl
          · exact (fit_2 (rF_sz cellsZ_size) (rF_sz cellsZ_size) (by decide))
          (try simp only [Act.put])
          generalize World.setCells _ _ _ _ = w2 at KR2 KT2 B2 ⊢
          clear B1 KR1 KT1
          by_cases hk4 : k = 4
          · have e4 : ((k : Int) == 4) = true := by rw [hk4]; rfl
            have HK4 := Lib.hid hk4
            clear hk4
            go_upto_region 8 with fail
            refine wp_region_lit ?_
            (with_reducible refine rN (v := ?_) ?_ ?_ ?_); rotate_left; (· rfl); (· go_simp; (try with_reducible rfl)); simp only [pu, sB, s0, sS]
            (with_reducible refine rN (v := .bool false) ?_ ?_ ?_); (· rfl); (· go_simp; rw [HK4.out]; rfl); simp only [pu, sB, s0, sS]
            (with_reducible refine rN (v := .bool false) ?_ ?_ ?_); (· rfl); (· go_simp; (try with_reducible rfl)); simp only [pu, sB, s0, sS]
            iterate 2 ((with_reducible refine kN ?_ ?_); (· rfl); simp only [pu, sB, s0, sS])
            iterate 2 ((with_reducible refine rN (v := .bool false) ?_ ?_ ?_); (· rfl); (· go_simp; (try with_reducible rfl)); simp only [pu, sB, s0, sS])
            iterate 4 ((with_reducible refine kN ?_ ?_); (· rfl); simp only [pu, sB, s0, sS])
            (with_reducible refine rN (v := .bool false) ?_ ?_ ?_); (· rfl); (· go_simp; (try with_reducible rfl)); simp only [pu, sB, s0, sS]
            go_upto_region 6 with fail
            refine wp_region_lit ?_
            (with_reducible refine rN (v := ?_) ?_ ?_ ?_); rotate_left; (· rfl); (· go_simp; (try with_reducible rfl)); simp only [pu, sB, s0, sS]
            (with_reducible refine rN (v := .int .i64 ((n + 1 : Nat) : Int)) ?_ ?_ ?_); (· rfl); (· go_simp; (try exact IntWalk.i64_in _ (by omega))); simp only [pu, sB, s0, sS]
            (with_reducible refine rN (v := ?_) ?_ ?_ ?_); rotate_left; (· rfl); (· go_simp; (try with_reducible rfl)); simp only [pu, sB, s0, sS]
            go_wp2_with fail
            go_roundw
            case rel => exact ⟨n + 1, by omega, rfl, Lib.hid (HN.out.next (by unfold Rf.cand; rw [HK4.out]; simp)), KR2, B2⟩
            case measure => simp [intOf]; omega
          · have e4 : ¬ (k : Int) = 4 := by omega
            have HIk := Lib.hid (HI.out k n)
            obtain ⟨v, hv⟩ : ∃ v, Rf.okB 4 ⟨k, n, Fil.zero⟩ = v := ⟨_, rfl⟩
            have HTk := Lib.hid (HT.out k n)
            obtain ⟨t, ht, et⟩ := exists_bytes (Rf.textR ⟨k, n, Fil.zero⟩)
            rw [et] at HTk
            rw [hv] at HIk
            obtain ⟨q, hq⟩ : ∃ q, (Rf.textR ⟨k, n, Fil.zero⟩ == s.data.toList) = q := ⟨_, rfl⟩
            have hq2 : (t.toList == s.toList) = q := by rw [Lib.toList_data, Lib.toList_data, ht]; exact hq
            have HC : Hid (Rf.cand s.data.toList k n = (v && q)) := Lib.hid (by unfold Rf.cand; rw [hv, hq]; simp [hk4])
            clear ht et hq hv hk4
            cases v with
            | false =>
              go_upto_region 8 with fail
              refine wp_region_lit ?_
              (with_reducible refine rN (v := ?_) ?_ ?_ ?_); rotate_left; (· rfl); (· go_simp; (try with_reducible rfl)); simp only [pu, sB, s0, sS]
              iterate 2 ((with_reducible refine rN (v := .bool true) ?_ ?_ ?_); (· rfl); (· go_simp; (try with_reducible rfl)); simp only [pu, sB, s0, sS])
              with_reducible refine wpList_loadS (.tmp 6) ?_ ?_ KT2.out Tryz.underlying27 ?_ (infoTRf18 (rF_sz cellsZ_size)) ?_
              · rfl
              · rfl
              · rfl
              simp only [pu, sB, s0, sS]
              go_wp2_with fail
              refine (HIk.out _ hlt hln).mono ?_
              rintro e w3 ⟨rfl, hb⟩
              have B3 := Lib.hid (B2.out.trans (hb.mono B2.out.size))
              have KR3 := Lib.hid (KR2.out.below hb KR2.out.lt)
              have KT3 := Lib.hid (KT2.out.below hb KT2.out.lt)
              clear hb
              clear B2 KR2 KT2
              go_simp
              rename_i hKK
              refine hKK _ _ ?_
              clear hKK
              try simp only [pu, sB, s0, sS]
              iterate 2 ((with_reducible refine rN (v := .bool false) ?_ ?_ ?_); (· rfl); (· go_simp; (try with_reducible rfl)); simp only [pu, sB, s0, sS])
              iterate 4 ((with_reducible refine kN ?_ ?_); (· rfl); simp only [pu, sB, s0, sS])
              (with_reducible refine rN (v := .bool false) ?_ ?_ ?_); (· rfl); (· go_simp; (try with_reducible rfl)); simp only [pu, sB, s0, sS]
              go_upto_region 6 with fail
              refine wp_region_lit ?_
              (with_reducible refine rN (v := ?_) ?_ ?_ ?_); rotate_left; (· rfl); (· go_simp; (try with_reducible rfl)); simp only [pu, sB, s0, sS]
              (with_reducible refine rN (v := .int .i64 ((n + 1 : Nat) : Int)) ?_ ?_ ?_); (· rfl); (· go_simp; (try exact IntWalk.i64_in _ (by omega))); simp only [pu, sB, s0, sS]
              (with_reducible refine rN (v := ?_) ?_ ?_ ?_); rotate_left; (· rfl); (· go_simp; (try with_reducible rfl)); simp only [pu, sB, s0, sS]
              go_wp2_with fail
              go_roundw
              case rel => exact ⟨n + 1, by omega, rfl, Lib.hid (HN.out.next (HC.out)), KR3, B3⟩
              case measure => simp [intOf]; omega
            | true =>
              cases q with
              | false =>
                go_upto_region 8 with fail
                refine wp_region_lit ?_
                (with_reducible refine rN (v := ?_) ?_ ?_ ?_); rotate_left; (· rfl); (· go_simp; (try with_reducible rfl)); simp only [pu, sB, s0, sS]
                iterate 2 ((with_reducible refine rN (v := .bool true) ?_ ?_ ?_); (· rfl); (· go_simp; (try with_reducible rfl)); simp only [pu, sB, s0, sS])
                with_reducible refine wpList_loadS (.tmp 6) ?_ ?_ KT2.out Tryz.underlying27 ?_ (infoTRf18 (rF_sz cellsZ_size)) ?_
                · rfl
                · rfl
                · rfl
                simp only [pu, sB, s0, sS]
                go_wp2_with fail
                refine (HIk.out _ hlt hln).mono ?_
                rintro e w3 ⟨rfl, hb⟩
                have B3 := Lib.hid (B2.out.trans (hb.mono B2.out.size))
                have KR3 := Lib.hid (KR2.out.below hb KR2.out.lt)
                have KT3 := Lib.hid (KT2.out.below hb KT2.out.lt)
                clear hb
                clear B2 KR2 KT2
                go_simp
                rename_i hKK
                refine hKK _ _ ?_
                clear hKK
                try simp only [pu, sB, s0, sS]
                iterate 2 ((with_reducible refine rN (v := .bool true) ?_ ?_ ?_); (· rfl); (· go_simp; (try with_reducible rfl)); simp only [pu, sB, s0, sS])
                with_reducible refine wpList_loadS (.tmp 6) ?_ ?_ KT3.out Tryz.underlying27 ?_ (infoTRf18 (rF_sz cellsZ_size)) ?_
                · rfl
                · rfl
                · rfl
                simp only [pu, sB, s0, sS]
                go_wp2_with fail
                refine (HTk.out _ hlt hln).mono ?_
                rintro e w4 ⟨rfl, hb⟩
                have B4 := Lib.hid (B3.out.trans (hb.mono B3.out.size))
                have KR4 := Lib.hid (KR3.out.below hb KR3.out.lt)
                have KT4 := Lib.hid (KT3.out.below hb KT3.out.lt)
                clear hb
                clear B3 KR3 KT3
                go_simp
                rename_i hKK
                refine hKK _ _ ?_
                clear hKK
                try simp only [pu, sB, s0, sS]
                (with_reducible refine rN (v := ?_) ?_ ?_ ?_); rotate_left; (· rfl); (· go_simp; (try with_reducible rfl)); simp only [pu, sB, s0, sS]
                iterate 2 ((with_reducible refine rN (v := .bool false) ?_ ?_ ?_); (· rfl); (· go_simp; (try with_reducible rfl)); simp only [pu, sB, s0, sS])
                go_upto_region 6 with fail
                refine wp_region_lit ?_
                (with_reducible refine rN (v := ?_) ?_ ?_ ?_); rotate_left; (· rfl); (· go_simp; (try with_reducible rfl)); simp only [pu, sB, s0, sS]
                (with_reducible refine rN (v := .int .i64 ((n + 1 : Nat) : Int)) ?_ ?_ ?_); (· rfl); (· go_simp; (try exact IntWalk.i64_in _ (by omega))); simp only [pu, sB, s0, sS]
                (with_reducible refine rN (v := ?_) ?_ ?_ ?_); rotate_left; (· rfl); (· go_simp; (try with_reducible rfl)); simp only [pu, sB, s0, sS]
                go_wp2_with fail
                go_roundw
                case rel => exact ⟨n + 1, by omega, rfl, Lib.hid (HN.out.next (HC.out)), KR4, B4⟩
                case measure => simp [intOf]; omega
              | true =>
                go_upto_region 8 with fail
                refine wp_region_lit ?_
                (with_reducible refine rN (v := ?_) ?_ ?_ ?_); rotate_left; (· rfl); (· go_simp; (try with_reducible rfl)); simp only [pu, sB, s0, sS]
                iterate 2 ((with_reducible refine rN (v := .bool true) ?_ ?_ ?_); (· rfl); (· go_simp; (try with_reducible rfl)); simp only [pu, sB, s0, sS])
                with_reducible refine wpList_loadS (.tmp 6) ?_ ?_ KT2.out Tryz.underlying27 ?_ (infoTRf18 (rF_sz cellsZ_size)) ?_
                · rfl
                · rfl
                · rfl
                simp only [pu, sB, s0, sS]
                go_wp2_with fail
                refine (HIk.out _ hlt hln).mono ?_
                rintro e w3 ⟨rfl, hb⟩
                have B3 := Lib.hid (B2.out.trans (hb.mono B2.out.size))
                have KR3 := Lib.hid (KR2.out.below hb KR2.out.lt)
                have KT3 := Lib.hid (KT2.out.below hb KT2.out.lt)
                clear hb
                clear B2 KR2 KT2
                go_simp
                rename_i hKK
                refine hKK _ _ ?_
                clear hKK
                try simp only [pu, sB, s0, sS]
                iterate 2 ((with_reducible refine rN (v := .bool true) ?_ ?_ ?_); (· rfl); (· go_simp; (try with_reducible rfl)); simp only [pu, sB, s0, sS])
                with_reducible refine wpList_loadS (.tmp 6) ?_ ?_ KT3.out Tryz.underlying27 ?_ (infoTRf18 (rF_sz cellsZ_size)) ?_
                · rfl
                · rfl
                · rfl
                simp only [pu, sB, s0, sS]
                go_wp2_with fail
                refine (HTk.out _ hlt hln).mono ?_
                rintro e w4 ⟨rfl, hb⟩
                have B4 := Lib.hid (B3.out.trans (hb.mono B3.out.size))
                have KR4 := Lib.hid (KR3.out.below hb KR3.out.lt)
                have KT4 := Lib.hid (KT3.out.below hb KT3.out.lt)
                clear hb
                clear B3 KR3 KT3
                go_simp
                rename_i hKK
                refine hKK _ _ ?_
                clear hKK
                try simp only [pu, sB, s0, sS]
                (with_reducible refine rN (v := ?_) ?_ ?_ ?_); rotate_left; (· rfl); (· go_simp; (try with_reducible rfl)); simp only [pu, sB, s0, sS]
                iterate 2 ((with_reducible refine rN (v := .bool true) ?_ ?_ ?_); (· rfl); (· go_simp; (try with_reducible rfl)); simp only [pu, sB, s0, sS])
                have HP := Lib.hid (Rf.cand_hit HC.out)
                go_upto_region 9 with fail
                refine wp_region_lit ?_
                with_reducible refine wpList_loadS (.tmp 6) ?_ ?_ KT4.out Tryz.underlying27 ?_ (infoTRf18 (rF_sz cellsZ_size)) ?_
                · rfl
                · rfl
                · rfl
                simp only [pu, sB, s0, sS]
                have KR5 := Lib.hid (KR4.out.stored (o := 0) (vs := (rF (k : Int) (n : Int) cellsZ).toList) (cs' := (rF (k : Int) (n : Int) cellsZ)) (laid_all (rF_sz cellsZ_size) (rF_sz cellsZ_size)))
                have KT5 := Lib.hid (KT4.out.wholeElse ((rF (k : Int) (n : Int) cellsZ).toList) (o := 0) NETR.out)
                have B5 := Lib.hid (below_whole ((rF (k : Int) (n : Int) cellsZ).toList) (o := 0) B4.out LER.out)
                with_reducible refine wpList_storeM (.tmp 2) (.tmp 33) (o := 0) (vs := (rF (k : Int) (n : Int) cellsZ)) ?_ ?_ KR4.out ?_ (infoTRf18 (rF_sz cellsZ_size)) (rF_one cellsZ_one) ?_
                · rfl
                · rfl
                · exact (fit_2 (rF_sz cellsZ_size) (rF_sz cellsZ_size) (by decide))
                (try simp only [Act.put])
                generalize World.setCells _ _ _ _ = w5 at KR5 KT5 B5 ⊢
                clear B4 KR4 KT4
                (with_reducible refine rN (v := ?_) ?_ ?_ ?_); rotate_left; (· rfl); (· go_simp; (try with_reducible rfl)); simp only [pu, sB, s0, sS]
                have hL := KR5.out.readS Tryz.underlying27 rfl (infoTRf18 (rF_sz cellsZ_size))
                go_wp2_with fail
                exact bodyPost_ret (v := .tuple #[.agg (rF (k : Int) (n : Int) cellsZ), .int .i64 0]) (results_cell_tmp Tryz.results19 (by rfl) (by rfl) hL) rfl ⟨(by rw [HP.out.1, HP.out.2]; rfl), B5.out⟩
        · have hgn : ¬ (n : Int) ≤ 4 := by omega
          have hn55 : n = 5 := by omega
          have HN2 : Hid (Rf.NoC s.data.toList (k + 1) 0) := Lib.hid (by have h := HN.out; rw [hn55] at h; exact h.row)
          clear HN hn55
          go_upto_region 5 with fail
          refine wp_region_lit ?_
          (with_reducible refine rN (v := ?_) ?_ ?_ ?_); rotate_left; (· rfl); (· go_simp; (try with_reducible rfl)); simp only [pu, sB, s0, sS]
          (with_reducible refine rN (v := .bool false) ?_ ?_ ?_); (· rfl); (· go_simp; (try with_reducible rfl)); simp only [pu, sB, s0, sS]
          go_upto_region 3 with fail
          refine wp_region_lit ?_
          (with_reducible refine rN (v := ?_) ?_ ?_ ?_); rotate_left; (· rfl); (· go_simp; (try with_reducible rfl)); simp only [pu, sB, s0, sS]
          (with_reducible refine rN (v := .int .i64 ((k + 1 : Nat) : Int)) ?_ ?_ ?_); (· rfl); (· go_simp; (try exact IntWalk.i64_in _ (by omega))); simp only [pu, sB, s0, sS]
          (with_reducible refine rN (v := ?_) ?_ ?_ ?_); rotate_left; (· rfl); (· go_simp; (try with_reducible rfl)); simp only [pu, sB, s0, sS]
          go_wp2_with fail
          go_roundw
          case rel => exact ⟨k + 1, by omega, by omega, rfl, HN2, KR0, B0⟩
          case measure => simp [intOf]; omega
    · have hgk : ¬ (k : Int) ≤ 8 := by omega
      have HN9 : Hid (Rf.NoC s.data.toList 9 0) := Lib.hid (by have h := HN.out; rw [show k = 9 by omega] at h; exact h)
      clear HN
      go_upto_region 2 with fail
      refine wp_region_lit ?_
      (with_reducible refine rN (v := ?_) ?_ ?_ ?_); rotate_left; (· rfl); (· go_simp; (try with_reducible rfl)); simp only [pu, sB, s0, sS]
      (with_reducible refine rN (v := .bool false) ?_ ?_ ?_); (· rfl); (· go_simp; (try with_reducible rfl)); simp only [pu, sB, s0, sS]
      go_upto_region 10 with fail
      refine wp_region_lit ?_
      iterate 3 ((with_reducible refine rN (v := ?_) ?_ ?_ ?_); rotate_left; (· rfl); (· go_simp; (try with_reducible rfl)); simp only [pu, sB, s0, sS])
      have hsl : s.data.toList.length = s.size := Array.length_toList
      by_cases h1 : (s.size : Int) < 6
      · have HE := Lib.hid (Rf.each_no HN9.out (rfShort (by omega)))
        go_upto_region 11 with fail
        refine wp_region_lit ?_
        (with_reducible refine rN (v := ?_) ?_ ?_ ?_); rotate_left; (· rfl); (· go_simp; (try with_reducible rfl)); simp only [pu, sB, s0, sS]
        iterate 2 ((with_reducible refine rN (v := .bool true) ?_ ?_ ?_); (· rfl); (· go_simp; (try with_reducible rfl)); simp only [pu, sB, s0, sS])
        iterate 3 ((with_reducible refine kN ?_ ?_); (· rfl); simp only [pu, sB, s0, sS])
        iterate 2 ((with_reducible refine rN (v := .bool true) ?_ ?_ ?_); (· rfl); (· go_simp; (try with_reducible rfl)); simp only [pu, sB, s0, sS])
        iterate 5 ((with_reducible refine kN ?_ ?_); (· rfl); simp only [pu, sB, s0, sS])
        (with_reducible refine rN (v := .bool true) ?_ ?_ ?_); (· rfl); (· go_simp; (try with_reducible rfl)); simp only [pu, sB, s0, sS]
        go_upto_region 12 with fail
        refine wp_region_lit ?_
        (with_reducible refine rN (v := .agg (rF 0 0 cellsZ)) ?_ ?_ ?_); (· rfl); (· go_simp; rfl); simp only [pu, sB, s0, sS]
        have KR1 := Lib.hid (KR0.out.stored (o := 0) (vs := (rF 0 0 cellsZ).toList) (cs' := (rF 0 0 cellsZ)) (laid_all (rF_sz cellsZ_size) (rF_sz cellsZ_size)))
        have B1 := Lib.hid (below_whole ((rF 0 0 cellsZ).toList) (o := 0) B0.out LER.out)
        with_reducible refine wpList_storeM (.tmp 2) (.tmp 50) (o := 0) (vs := (rF 0 0 cellsZ)) ?_ ?_ KR0.out ?_ (infoTRf18 (rF_sz cellsZ_size)) (rF_one cellsZ_one) ?_
        · rfl
        · rfl
        · exact (fit_2 (rF_sz cellsZ_size) (rF_sz cellsZ_size) (by decide))
        (try simp only [Act.put])
        generalize World.setCells _ _ _ _ = w1 at KR1 B1 ⊢
        clear B0 KR0
        (with_reducible refine rN (v := ?_) ?_ ?_ ?_); rotate_left; (· rfl); (· go_simp; (try with_reducible rfl)); simp only [pu, sB, s0, sS]
        have hL := KR1.out.readS Tryz.underlying27 rfl (infoTRf18 (rF_sz cellsZ_size))
        go_wp2_with fail
        exact bodyPost_ret (v := .tuple #[.agg (rF 0 0 cellsZ), .int .i64 3]) (results_cell_tmp Tryz.results19 (by rfl) (by rfl) hL) rfl ⟨(by rw [HE.out.1, HE.out.2]; rfl), B1.out⟩
      · have h3 : (5 : Int) ≤ (s.size : Int) := by omega
        obtain ⟨hp, ehp⟩ : ∃ b, ((s.extract 0 5).toList == [101, 97, 99, 104, 40]) = b := ⟨_, rfl⟩
        have HP := Lib.hid ehp
        cases hp with
        | false =>
          have HE := Lib.hid (Rf.each_no HN9.out (rfPre HP.out))
          go_upto_region 11 with fail
          refine wp_region_lit ?_
          (with_reducible refine rN (v := ?_) ?_ ?_ ?_); rotate_left; (· rfl); (· go_simp; (try with_reducible rfl)); simp only [pu, sB, s0, sS]
          iterate 2 ((with_reducible refine rN (v := .bool false) ?_ ?_ ?_); (· rfl); (· go_simp; (try with_reducible rfl)); simp only [pu, sB, s0, sS])
          (with_reducible refine rN (v := ?_) ?_ ?_ ?_); rotate_left; (· rfl); (· go_simp; (try with_reducible rfl)); simp only [pu, sB, s0, sS]
          (with_reducible refine rN (v := .string (s.extract 0 5)) ?_ ?_ ?_); (· rfl); (· go_simp; (try with_reducible rfl)); simp only [pu, sB, s0, sS]
          iterate 3 ((with_reducible refine rN (v := .bool true) ?_ ?_ ?_); (· rfl); (· go_simp; (try with_reducible rfl)); simp only [pu, sB, s0, sS])
          iterate 5 ((with_reducible refine kN ?_ ?_); (· rfl); simp only [pu, sB, s0, sS])
          (with_reducible refine rN (v := .bool true) ?_ ?_ ?_); (· rfl); (· go_simp; (try with_reducible rfl)); simp only [pu, sB, s0, sS]
          go_upto_region 12 with fail
          refine wp_region_lit ?_
          (with_reducible refine rN (v := .agg (rF 0 0 cellsZ)) ?_ ?_ ?_); (· rfl); (· go_simp; rfl); simp only [pu, sB, s0, sS]
          have KR1 := Lib.hid (KR0.out.stored (o := 0) (vs := (rF 0 0 cellsZ).toList) (cs' := (rF 0 0 cellsZ)) (laid_all (rF_sz cellsZ_size) (rF_sz cellsZ_size)))
          have B1 := Lib.hid (below_whole ((rF 0 0 cellsZ).toList) (o := 0) B0.out LER.out)
          with_reducible refine wpList_storeM (.tmp 2) (.tmp 50) (o := 0) (vs := (rF 0 0 cellsZ)) ?_ ?_ KR0.out ?_ (infoTRf18 (rF_sz cellsZ_size)) (rF_one cellsZ_one) ?_
          · rfl
          · rfl
          · exact (fit_2 (rF_sz cellsZ_size) (rF_sz cellsZ_size) (by decide))
          (try simp only [Act.put])
          generalize World.setCells _ _ _ _ = w1 at KR1 B1 ⊢
          clear B0 KR0
          (with_reducible refine rN (v := ?_) ?_ ?_ ?_); rotate_left; (· rfl); (· go_simp; (try with_reducible rfl)); simp only [pu, sB, s0, sS]
          have hL := KR1.out.readS Tryz.underlying27 rfl (infoTRf18 (rF_sz cellsZ_size))
          go_wp2_with fail
          exact bodyPost_ret (v := .tuple #[.agg (rF 0 0 cellsZ), .int .i64 3]) (results_cell_tmp Tryz.results19 (by rfl) (by rfl) hL) rfl ⟨(by rw [HE.out.1, HE.out.2]; rfl), B1.out⟩
        | true =>
          have hi : s.size - 1 < s.size := by omega
          have hx : IntKind.i64.wrap ((s.size : Int) - 1) = ((s.size - 1 : Nat) : Int) := by rw [IntWalk.i64_in _ (by omega)]; omega
          obtain ⟨hb, ehb⟩ : ∃ b, ((s[s.size - 1].toNat : Int) == 41) = b := ⟨_, rfl⟩
          have HB := Lib.hid ehb
          cases hb with
          | false =>
            have HE := Lib.hid (Rf.each_no HN9.out (rfEnd hi HB.out))
            go_upto_region 11 with fail
            refine wp_region_lit ?_
            (with_reducible refine rN (v := ?_) ?_ ?_ ?_); rotate_left; (· rfl); (· go_simp; (try with_reducible rfl)); simp only [pu, sB, s0, sS]
            iterate 2 ((with_reducible refine rN (v := .bool false) ?_ ?_ ?_); (· rfl); (· go_simp; (try with_reducible rfl)); simp only [pu, sB, s0, sS])
            (with_reducible refine rN (v := ?_) ?_ ?_ ?_); rotate_left; (· rfl); (· go_simp; (try with_reducible rfl)); simp only [pu, sB, s0, sS]
            (with_reducible refine rN (v := .string (s.extract 0 5)) ?_ ?_ ?_); (· rfl); (· go_simp; (try with_reducible rfl)); simp only [pu, sB, s0, sS]
            iterate 3 ((with_reducible refine rN (v := .bool false) ?_ ?_ ?_); (· rfl); (· go_simp; (try with_reducible rfl)); simp only [pu, sB, s0, sS])
            iterate 2 ((with_reducible refine rN (v := ?_) ?_ ?_ ?_); rotate_left; (· rfl); (· go_simp; (try with_reducible rfl)); simp only [pu, sB, s0, sS])
            (with_reducible refine rN (v := .int .i64 ((s.size - 1 : Nat) : Int)) ?_ ?_ ?_); (· rfl); (· go_simp; (try rw [hx])); simp only [pu, sB, s0, sS]
            (with_reducible refine rN (v := ?_) ?_ ?_ ?_); rotate_left; (· rfl); (· go_simp; (try with_reducible rfl)); simp only [pu, sB, s0, sS]
            (with_reducible refine rN (v := .bool true) ?_ ?_ ?_); (· rfl); (· go_simp; simpa using ehb); simp only [pu, sB, s0, sS]
            (with_reducible refine rN (v := .bool true) ?_ ?_ ?_); (· rfl); (· go_simp; (try with_reducible rfl)); simp only [pu, sB, s0, sS]
            go_upto_region 12 with fail
            refine wp_region_lit ?_
            (with_reducible refine rN (v := .agg (rF 0 0 cellsZ)) ?_ ?_ ?_); (· rfl); (· go_simp; rfl); simp only [pu, sB, s0, sS]
            have KR1 := Lib.hid (KR0.out.stored (o := 0) (vs := (rF 0 0 cellsZ).toList) (cs' := (rF 0 0 cellsZ)) (laid_all (rF_sz cellsZ_size) (rF_sz cellsZ_size)))
            have B1 := Lib.hid (below_whole ((rF 0 0 cellsZ).toList) (o := 0) B0.out LER.out)
            with_reducible refine wpList_storeM (.tmp 2) (.tmp 50) (o := 0) (vs := (rF 0 0 cellsZ)) ?_ ?_ KR0.out ?_ (infoTRf18 (rF_sz cellsZ_size)) (rF_one cellsZ_one) ?_
            · rfl
            · rfl
            · exact (fit_2 (rF_sz cellsZ_size) (rF_sz cellsZ_size) (by decide))
            (try simp only [Act.put])
            generalize World.setCells _ _ _ _ = w1 at KR1 B1 ⊢
            clear B0 KR0
            (with_reducible refine rN (v := ?_) ?_ ?_ ?_); rotate_left; (· rfl); (· go_simp; (try with_reducible rfl)); simp only [pu, sB, s0, sS]
            have hL := KR1.out.readS Tryz.underlying27 rfl (infoTRf18 (rF_sz cellsZ_size))
            go_wp2_with fail
            exact bodyPost_ret (v := .tuple #[.agg (rF 0 0 cellsZ), .int .i64 3]) (results_cell_tmp Tryz.results19 (by rfl) (by rfl) hL) rfl ⟨(by rw [HE.out.1, HE.out.2]; rfl), B1.out⟩
          | true =>
            have h51 : (5 : Int) ≤ ((s.size - 1 : Nat) : Int) := by omega
            obtain ⟨m, hm⟩ : ∃ m, m = s.extract 5 (s.size - 1) := ⟨_, rfl⟩
            have HM : Hid (s.data.toList = Rf.sEach ++ (m.data.toList ++ [41])) := Lib.hid (by rw [hm]; exact rfEach hi (by omega) HP.out HB.out)
            have HMS : Hid (m.size ≤ 1000000) := Lib.hid (rfSize HM.out hs)
            have HMM := Lib.hid hm
            clear hm
            have HFm := Lib.hid (HF.out m)
            obtain ⟨g, eg⟩ : ∃ g, Fil.parseV m.data.toList = g := ⟨_, rfl⟩
            obtain ⟨er, eer⟩ : ∃ x, Fil.parseE m.data.toList = x := ⟨_, rfl⟩
            have HY := Lib.hid (Rf.each_yes (HM.out ▸ HN9.out))
            rw [eg, eer] at HFm
            rw [eg, eer, ← HM.out] at HY
            go_upto_region 11 with fail
            refine wp_region_lit ?_
            (with_reducible refine rN (v := ?_) ?_ ?_ ?_); rotate_left; (· rfl); (· go_simp; (try with_reducible rfl)); simp only [pu, sB, s0, sS]
            iterate 2 ((with_reducible refine rN (v := .bool false) ?_ ?_ ?_); (· rfl); (· go_simp; (try with_reducible rfl)); simp only [pu, sB, s0, sS])
            (with_reducible refine rN (v := ?_) ?_ ?_ ?_); rotate_left; (· rfl); (· go_simp; (try with_reducible rfl)); simp only [pu, sB, s0, sS]
            (with_reducible refine rN (v := .string (s.extract 0 5)) ?_ ?_ ?_); (· rfl); (· go_simp; (try with_reducible rfl)); simp only [pu, sB, s0, sS]
            iterate 3 ((with_reducible refine rN (v := .bool false) ?_ ?_ ?_); (· rfl); (· go_simp; (try with_reducible rfl)); simp only [pu, sB, s0, sS])
            iterate 2 ((with_reducible refine rN (v := ?_) ?_ ?_ ?_); rotate_left; (· rfl); (· go_simp; (try with_reducible rfl)); simp only [pu, sB, s0, sS])
            (with_reducible refine rN (v := .int .i64 ((s.size - 1 : Nat) : Int)) ?_ ?_ ?_); (· rfl); (· go_simp; (try rw [hx])); simp only [pu, sB, s0, sS]
            (with_reducible refine rN (v := ?_) ?_ ?_ ?_); rotate_left; (· rfl); (· go_simp; (try with_reducible rfl)); simp only [pu, sB, s0, sS]
            (with_reducible refine rN (v := .bool false) ?_ ?_ ?_); (· rfl); (· go_simp; simpa using ehb); simp only [pu, sB, s0, sS]
            (with_reducible refine rN (v := .bool false) ?_ ?_ ?_); (· rfl); (· go_simp; (try with_reducible rfl)); simp only [pu, sB, s0, sS]
            go_upto_region 13 with fail
            refine wp_region_lit ?_
            iterate 2 ((with_reducible refine rN (v := ?_) ?_ ?_ ?_); rotate_left; (· rfl); (· go_simp; (try with_reducible rfl)); simp only [pu, sB, s0, sS])
            (with_reducible refine rN (v := .int .i64 ((s.size - 1 : Nat) : Int)) ?_ ?_ ?_); (· rfl); (· go_simp; (try rw [hx])); simp only [pu, sB, s0, sS]
            (with_reducible refine rN (v := .string m) ?_ ?_ ?_); (· rfl); (· rw [HMM.out]; go_simp; (try with_reducible rfl)); simp only [pu, sB, s0, sS]
            go_wp2_with fail
            refine (HFm.out _ HMS.out).mono ?_
            rintro e w1 ⟨rfl, hb⟩
            have B1 := Lib.hid (B0.out.trans (hb.mono B0.out.size))
            have KR1 := Lib.hid (KR0.out.below hb KR0.out.lt)
            clear hb
            clear B0 KR0
            go_simp
            rename_i hKK
            refine hKK _ _ ?_
            clear hKK
            try simp only [pu, sB, s0, sS]
            (with_reducible refine rN (v := ?_) ?_ ?_ ?_); rotate_left; (· rfl); (· go_simp; (try with_reducible rfl)); simp only [pu, sB, s0, sS]
            (with_reducible refine rN (v := .agg (cellsF g (fsOf g))) ?_ ?_ ?_); (· rfl); (· go_simp; (try with_reducible rfl)); simp only [pu, sB, s0, sS]
            (with_reducible refine rN (v := ?_) ?_ ?_ ?_); rotate_left; (· rfl); (· go_simp; (try with_reducible rfl)); simp only [pu, sB, s0, sS]
            obtain ⟨w2, hw⟩ : ∃ v, v = w1.alloc (.cells cellsZ 25) := ⟨_, rfl⟩
            obtain ⟨pF, hp⟩ : ∃ v, v = w1.heap.size := ⟨_, rfl⟩
            have B2 : Hid (Below w.heap.size w w2) := Lib.hid (by rw [hw]; exact B1.out.alloc B1.out.size _)
            have LEF : Hid (w.heap.size ≤ pF) := Lib.hid (by rw [hp]; exact B1.out.size)
            have KR2 := Lib.hid (show Blk w2 pR (rF 0 0 cellsZ) 27 by rw [hw]; exact KR1.out.alloc _)
            have NERF : Hid (pR ≠ pF) := Lib.hid (by rw [hp]; exact Nat.ne_of_lt KR1.out.lt)
            have NEFR : Hid (pF ≠ pR) := Lib.hid (Ne.symm NERF.out)
            have KF2 : Hid (Blk w2 pF cellsZ 25) := Lib.hid (by rw [hw, hp]; exact Blk.new _ _ _)
            with_reducible refine wpList_runWV (some 8) (v := .pointer (some ⟨pF, 0, none⟩)) (w' := w2) ?_ ?_ ?_ ?_
            · rfl
            · rfl
            · rw [hw, hp]; (go_simp; (try rfl))
            simp only [pu, sB, s0, sS]
            clear hw hp
            clear B1 KR1
            have KF3 := Lib.hid (KF2.out.stored (o := 0) (vs := (cellsF g (fsOf g)).toList) (cs' := (cellsF g (fsOf g))) (laid_all (cellsF_size g (fsOf g)) cellsZ_size))
            have KR3 := Lib.hid (KR2.out.wholeElse ((cellsF g (fsOf g)).toList) (o := 0) NERF.out)
            have B3 := Lib.hid (below_whole ((cellsF g (fsOf g)).toList) (o := 0) B2.out LEF.out)
            with_reducible refine wpList_storeM (.tmp 8) (.tmp 57) (o := 0) (vs := (cellsF g (fsOf g))) ?_ ?_ KF2.out ?_ (infoTF16 (cellsF_size g (fsOf g))) (cellsF_one g (fsOf g)) ?_
            · rfl
            · rfl
            · exact (fit_2 cellsZ_size (cellsF_size g (fsOf g)) (by decide))
            (try simp only [Act.put])
            generalize World.setCells _ _ _ _ = w3 at KR3 KF3 B3 ⊢
            clear B2 KR2 KF2
            (with_reducible refine rN (v := ?_) ?_ ?_ ?_); rotate_left; (· rfl); (· go_simp; (try with_reducible rfl)); simp only [pu, sB, s0, sS]
            by_cases he0 : er = 0
            · have e0 : (er == 0) = true := by simpa using he0
              have HG := Lib.hid (HY.out.1 he0)
              go_upto_region 14 with fail
              refine wp_region_lit ?_
              (with_reducible refine rN (v := ?_) ?_ ?_ ?_); rotate_left; (· rfl); (· go_simp; (try with_reducible rfl)); simp only [pu, sB, s0, sS]
              (with_reducible refine rN (v := .bool false) ?_ ?_ ?_); (· rfl); (· go_simp; (try with_reducible rfl)); simp only [pu, sB, s0, sS]
              go_upto_region 16 with fail
              refine wp_region_lit ?_
              with_reducible refine wpList_loadS (.tmp 8) ?_ ?_ KF3.out Tryz.underlying25 ?_ (infoTF16 (cellsF_size g (fsOf g))) ?_
              · rfl
              · rfl
              · rfl
              simp only [pu, sB, s0, sS]
              (with_reducible refine rN (v := .agg (rF 4 0 (cellsF g (fsOf g)))) ?_ ?_ ?_); (· rfl); (· refine run_buildOp _ [(0, .int .i64 4), (2, .agg (cellsF g (fsOf g)))] rfl ?_ (builtR_kf 4 g (fsOf g)); rfl); simp only [pu, sB, s0, sS]
              have KR4 := Lib.hid (KR3.out.stored (o := 0) (vs := (rF 4 0 (cellsF g (fsOf g))).toList) (cs' := (rF 4 0 (cellsF g (fsOf g)))) (laid_all (rF_sz (cellsF_size g (fsOf g))) (rF_sz cellsZ_size)))
              have KF4 := Lib.hid (KF3.out.wholeElse ((rF 4 0 (cellsF g (fsOf g))).toList) (o := 0) NEFR.out)
              have B4 := Lib.hid (below_whole ((rF 4 0 (cellsF g (fsOf g))).toList) (o := 0) B3.out LER.out)
              with_reducible refine wpList_storeM (.tmp 2) (.tmp 64) (o := 0) (vs := (rF 4 0 (cellsF g (fsOf g)))) ?_ ?_ KR3.out ?_ (infoTRf18 (rF_sz (cellsF_size g (fsOf g)))) (rF_one (cellsF_one g (fsOf g))) ?_
              · rfl
              · rfl
              · exact (fit_2 (rF_sz cellsZ_size) (rF_sz (cellsF_size g (fsOf g))) (by decide))
              (try simp only [Act.put])
              generalize World.setCells _ _ _ _ = w4 at KR4 KF4 B4 ⊢
              clear B3 KR3 KF3
              (with_reducible refine rN (v := ?_) ?_ ?_ ?_); rotate_left; (· rfl); (· go_simp; (try with_reducible rfl)); simp only [pu, sB, s0, sS]
              have hL := KR4.out.readS Tryz.underlying27 rfl (infoTRf18 (rF_sz (cellsF_size g (fsOf g))))
              go_wp2_with fail
              exact bodyPost_ret (v := .tuple #[.agg (rF 4 0 (cellsF g (fsOf g))), .int .i64 0]) (results_cell_tmp Tryz.results19 (by rfl) (by rfl) hL) rfl ⟨(by rw [HG.out.1, HG.out.2]; rfl), B4.out⟩
            · have HG := Lib.hid (HY.out.2 he0)
              go_upto_region 14 with fail
              refine wp_region_lit ?_
              (with_reducible refine rN (v := ?_) ?_ ?_ ?_); rotate_left; (· rfl); (· go_simp; (try with_reducible rfl)); simp only [pu, sB, s0, sS]
              (with_reducible refine rN (v := .bool true) ?_ ?_ ?_); (· rfl); (· go_simp; (try with_reducible rfl)); simp only [pu, sB, s0, sS]
              go_upto_region 15 with fail
              refine wp_region_lit ?_
              (with_reducible refine rN (v := .agg (rF 0 0 cellsZ)) ?_ ?_ ?_); (· rfl); (· go_simp; rfl); simp only [pu, sB, s0, sS]
              (with_reducible refine rN (v := ?_) ?_ ?_ ?_); rotate_left; (· rfl); (· go_simp; (try with_reducible rfl)); simp only [pu, sB, s0, sS]
              have KR4 := Lib.hid (KR3.out.stored (o := 0) (vs := (rF 0 0 cellsZ).toList) (cs' := (rF 0 0 cellsZ)) (laid_all (rF_sz cellsZ_size) (rF_sz cellsZ_size)))
              have KF4 := Lib.hid (KF3.out.wholeElse ((rF 0 0 cellsZ).toList) (o := 0) NEFR.out)
              have B4 := Lib.hid (below_whole ((rF 0 0 cellsZ).toList) (o := 0) B3.out LER.out)
              with_reducible refine wpList_storeM (.tmp 2) (.tmp 61) (o := 0) (vs := (rF 0 0 cellsZ)) ?_ ?_ KR3.out ?_ (infoTRf18 (rF_sz cellsZ_size)) (rF_one cellsZ_one) ?_
              · rfl
              · rfl
              · exact (fit_2 (rF_sz cellsZ_size) (rF_sz cellsZ_size) (by decide))
              (try simp only [Act.put])
              generalize World.setCells _ _ _ _ = w4 at KR4 KF4 B4 ⊢
              clear B3 KR3 KF3
              (with_reducible refine rN (v := ?_) ?_ ?_ ?_); rotate_left; (· rfl); (· go_simp; (try with_reducible rfl)); simp only [pu, sB, s0, sS]
              have hL := KR4.out.readS Tryz.underlying27 rfl (infoTRf18 (rF_sz cellsZ_size))
              go_wp2_with fail
              exact bodyPost_ret (v := .tuple #[.agg (rF 0 0 cellsZ), .int .i64 er]) (results_cell_tmp Tryz.results19 (by rfl) (by rfl) hL) rfl ⟨(by rw [HG.out.2.1, HG.out.2.2, HG.out.1]; rfl), B4.out⟩
end Go.Proofs.YtbcgkeclmioeiaaGreatDoor
namespace Go.Proofs.YtbcgkeclmioeiaaGreatDoor
open Go.RowKit
open Wd (Bs)

theorem refParseM13 (s : ByteArray) (hs : s.size ≤ 1000000) (w : World) :
    Calls Tryz.prog 42 #[.string s] w fun e w' => e = .returned (.tuple #[.agg (cellsF (Fil.parseV s.data.toList) (fsOf (Fil.parseV s.data.toList))), .int .i64 (Fil.parseE s.data.toList)]) ∧ Below w.heap.size w w' := by
  refine (refParse13 s w hs).mono ?_
  rintro e w1 (⟨a, fs, h1, h2, _, _, h5, rfl, hb⟩ | ⟨h1, h2, rfl, hb⟩)
  · refine ⟨?_, hb⟩
    rw [h1, h2, ← fs_eq (f := a.flt) h5]
    rfl
  · refine ⟨?_, hb⟩
    rw [h1, h2]
    rfl
theorem refParse16 (s : ByteArray) (hs : s.size ≤ 1000000) (w : World) :
    Calls Tryz.prog 19 #[.string s] w fun e w' => e = .returned (.tuple #[.agg (cellsR (Rf.pV s.data.toList)), .int .i64 (Rf.pE s.data.toList)]) ∧ Below w.heap.size w w' :=
  refPaIn16 s w hs (Lib.hid fun k n W _ _ => refIs16 k n Fil.zero ⟨#[]⟩ rfl (by decide) 4 W) (Lib.hid fun k n W _ _ => refText16 k n Fil.zero ⟨#[]⟩ rfl (by decide) W) (Lib.hid fun m W hm => refParseM13 m hm W)
end Go.Proofs.YtbcgkeclmioeiaaGreatDoor
namespace Go.Proofs.YtbcgkeclmioeiaaGreatDoor
open Go.RowKit
open Wd (Bs)

set_option maxHeartbeats 8000000 in
set_option maxRecDepth 100000 in
theorem parLongR (s : ByteArray) (w : World)
    (HL : Hid (∀ W, Below w.heap.size w W → Calls Tryz.prog 13 #[] W fun e w' => e = .returned (.bool true) ∧ Below W.heap.size W w')) (hl : (600 : Int) < (s.size : Int)) :
    Calls Tryz.prog 5 #[.string s] w fun e w' => e = .returned (.bool true) ∧ Below w.heap.size w w' := by

  have B0 := Lib.hid (Below.refl w.heap.size w)
  go_enter Tryz.func5, Tryz.ntmps5
  go_upto_region 0 with fail
  refine wp_region_lit ?_
  (with_reducible refine rN (v := .bool false) ?_ ?_ ?_); (· rfl); (· go_simp; (try with_reducible rfl)); simp only [pu, sB, s0, sS]
  go_upto_region 1 with fail
  refine wp_region_lit ?_
  iterate 2 ((with_reducible refine rN (v := ?_) ?_ ?_ ?_); rotate_left; (· rfl); (· go_simp; (try with_reducible rfl)); simp only [pu, sB, s0, sS])
  (with_reducible refine rN (v := .bool true) ?_ ?_ ?_); (· rfl); (· go_simp; (try with_reducible rfl)); simp only [pu, sB, s0, sS]
  go_upto_region 2 with fail
  refine wp_region_lit ?_
  go_wp2_with fail
  refine (HL.out _ B0.out).mono ?_
  rintro e w1 ⟨rfl, hb⟩
  have B1 := Lib.hid (B0.out.trans (hb.mono B0.out.size))
  clear hb
  clear B0
  go_simp
  rename_i hKK
  refine hKK _ _ ?_
  clear hKK
  try simp only [pu, sB, s0, sS]
  (with_reducible refine rN (v := ?_) ?_ ?_ ?_); rotate_left; (· rfl); (· go_simp; (try with_reducible rfl)); simp only [pu, sB, s0, sS]
  go_wp2_with fail
  go_ret
  exact ⟨rfl, B1.out⟩

set_option maxHeartbeats 8000000 in
set_option maxRecDepth 100000 in
theorem parShortR (s : ByteArray) (er : Int) (k n : Int) (f : Fil.Flt) (fs : ByteArray) (w : World)
    (HL : Hid (∀ W, Below w.heap.size w W → Calls Tryz.prog 13 #[] W fun e w' => e = .returned (.bool true) ∧ Below W.heap.size W w')) (hl : ¬ (600 : Int) < (s.size : Int)) (HP : Hid (∀ W, Below w.heap.size w W → Calls Tryz.prog 18 #[.string s] W fun e w' => e = .returned (.tuple #[.agg (rF k n (cellsF f fs)), .int .i64 er]) ∧ Below W.heap.size W w')) (HR : Hid (∀ W, Below w.heap.size w W → Calls Tryz.prog 19 #[.string s] W fun e w' => e = .returned (.tuple #[.agg (rF k n (cellsF f fs)), .int .i64 er]) ∧ Below W.heap.size W w')) (hq : ∀ W : World, (Op.equalIn 10000 27 (.agg (rF k n (cellsF f fs))) (.agg (rF k n (cellsF f fs)))).run Tryz.prog W = .ok true W) :
    Calls Tryz.prog 5 #[.string s] w fun e w' => e = .returned (.bool true) ∧ Below w.heap.size w w' := by

  have B0 := Lib.hid (Below.refl w.heap.size w)
  go_enter Tryz.func5, Tryz.ntmps5
  go_upto_region 0 with fail
  refine wp_region_lit ?_
  (with_reducible refine rN (v := .bool false) ?_ ?_ ?_); (· rfl); (· go_simp; (try with_reducible rfl)); simp only [pu, sB, s0, sS]
  go_upto_region 1 with fail
  refine wp_region_lit ?_
  iterate 2 ((with_reducible refine rN (v := ?_) ?_ ?_ ?_); rotate_left; (· rfl); (· go_simp; (try with_reducible rfl)); simp only [pu, sB, s0, sS])
  (with_reducible refine rN (v := .bool false) ?_ ?_ ?_); (· rfl); (· go_simp; (try with_reducible rfl)); simp only [pu, sB, s0, sS]
  have ex : (er == er) = true := by simp
  go_upto_region 3 with fail
  refine wp_region_lit ?_
  (with_reducible refine rN (v := ?_) ?_ ?_ ?_); rotate_left; (· rfl); (· go_simp; (try with_reducible rfl)); simp only [pu, sB, s0, sS]
  go_wp2_with fail
  refine (HP.out _ B0.out).mono ?_
  rintro e w1 ⟨rfl, hb⟩
  have B1 := Lib.hid (B0.out.trans (hb.mono B0.out.size))
  clear hb
  clear B0
  go_simp
  rename_i hKK
  refine hKK _ _ ?_
  clear hKK
  try simp only [pu, sB, s0, sS]
  (with_reducible refine rN (v := ?_) ?_ ?_ ?_); rotate_left; (· rfl); (· go_simp; (try with_reducible rfl)); simp only [pu, sB, s0, sS]
  (with_reducible refine rN (v := .agg (rF k n (cellsF f fs))) ?_ ?_ ?_); (· rfl); (· go_simp; (try with_reducible rfl)); simp only [pu, sB, s0, sS]
  (with_reducible refine rN (v := ?_) ?_ ?_ ?_); rotate_left; (· rfl); (· go_simp; (try with_reducible rfl)); simp only [pu, sB, s0, sS]
  obtain ⟨w2, hw⟩ : ∃ v, v = w1.alloc (.cells (rF 0 0 cellsZ) 27) := ⟨_, rfl⟩
  obtain ⟨pA, hp⟩ : ∃ v, v = w1.heap.size := ⟨_, rfl⟩
  have B2 : Hid (Below w.heap.size w w2) := Lib.hid (by rw [hw]; exact B1.out.alloc B1.out.size _)
  have LEA : Hid (w.heap.size ≤ pA) := Lib.hid (by rw [hp]; exact B1.out.size)
  have KA2 : Hid (Blk w2 pA (rF 0 0 cellsZ) 27) := Lib.hid (by rw [hw, hp]; exact Blk.new _ _ _)
  with_reducible refine wpList_runWV (some 3) (v := .pointer (some ⟨pA, 0, none⟩)) (w' := w2) ?_ ?_ ?_ ?_
  · rfl
  · rfl
  · rw [hw, hp]; (go_simp; (try rfl))
  simp only [pu, sB, s0, sS]
  clear hw hp
  clear B1
  have KA3 := Lib.hid (KA2.out.stored (o := 0) (vs := (rF k n (cellsF f fs)).toList) (cs' := (rF k n (cellsF f fs))) (laid_all (rF_sz (cellsF_size f fs)) (rF_sz cellsZ_size)))
  have B3 := Lib.hid (below_whole ((rF k n (cellsF f fs)).toList) (o := 0) B2.out LEA.out)
  with_reducible refine wpList_storeM (.tmp 3) (.tmp 14) (o := 0) (vs := (rF k n (cellsF f fs))) ?_ ?_ KA2.out ?_ (infoTRf18 (rF_sz (cellsF_size f fs))) (rF_one (cellsF_one f fs)) ?_
  · rfl
  · rfl
  · exact (fit_2 (rF_sz cellsZ_size) (rF_sz (cellsF_size f fs)) (by decide))
  (try simp only [Act.put])
  generalize World.setCells _ _ _ _ = w3 at KA3 B3 ⊢
  clear B2 KA2
  (with_reducible refine rN (v := ?_) ?_ ?_ ?_); rotate_left; (· rfl); (· go_simp; (try with_reducible rfl)); simp only [pu, sB, s0, sS]
  go_upto_region 4 with fail
  refine wp_region_lit ?_
  (with_reducible refine rN (v := ?_) ?_ ?_ ?_); rotate_left; (· rfl); (· go_simp; (try with_reducible rfl)); simp only [pu, sB, s0, sS]
  go_wp2_with fail
  refine (HR.out _ B3.out).mono ?_
  rintro e w4 ⟨rfl, hb⟩
  have B4 := Lib.hid (B3.out.trans (hb.mono B3.out.size))
  have KA4 := Lib.hid (KA3.out.below hb KA3.out.lt)
  clear hb
  clear B3 KA3
  go_simp
  rename_i hKK
  refine hKK _ _ ?_
  clear hKK
  try simp only [pu, sB, s0, sS]
  (with_reducible refine rN (v := ?_) ?_ ?_ ?_); rotate_left; (· rfl); (· go_simp; (try with_reducible rfl)); simp only [pu, sB, s0, sS]
  (with_reducible refine rN (v := .agg (rF k n (cellsF f fs))) ?_ ?_ ?_); (· rfl); (· go_simp; (try with_reducible rfl)); simp only [pu, sB, s0, sS]
  (with_reducible refine rN (v := ?_) ?_ ?_ ?_); rotate_left; (· rfl); (· go_simp; (try with_reducible rfl)); simp only [pu, sB, s0, sS]
  obtain ⟨w5, hw⟩ : ∃ v, v = w4.alloc (.cells (rF 0 0 cellsZ) 27) := ⟨_, rfl⟩
  obtain ⟨pB, hp⟩ : ∃ v, v = w4.heap.size := ⟨_, rfl⟩
  have B5 : Hid (Below w.heap.size w w5) := Lib.hid (by rw [hw]; exact B4.out.alloc B4.out.size _)
  have LEB : Hid (w.heap.size ≤ pB) := Lib.hid (by rw [hp]; exact B4.out.size)
  have KA5 := Lib.hid (show Blk w5 pA (rF k n (cellsF f fs)) 27 by rw [hw]; exact KA4.out.alloc _)
  have NEAB : Hid (pA ≠ pB) := Lib.hid (by rw [hp]; exact Nat.ne_of_lt KA4.out.lt)
  have NEBA : Hid (pB ≠ pA) := Lib.hid (Ne.symm NEAB.out)
  have KB5 : Hid (Blk w5 pB (rF 0 0 cellsZ) 27) := Lib.hid (by rw [hw, hp]; exact Blk.new _ _ _)
  with_reducible refine wpList_runWV (some 5) (v := .pointer (some ⟨pB, 0, none⟩)) (w' := w5) ?_ ?_ ?_ ?_
  · rfl
  · rfl
  · rw [hw, hp]; (go_simp; (try rfl))
  simp only [pu, sB, s0, sS]
  clear hw hp
  clear B4 KA4
  have KB6 := Lib.hid (KB5.out.stored (o := 0) (vs := (rF k n (cellsF f fs)).toList) (cs' := (rF k n (cellsF f fs))) (laid_all (rF_sz (cellsF_size f fs)) (rF_sz cellsZ_size)))
  have KA6 := Lib.hid (KA5.out.wholeElse ((rF k n (cellsF f fs)).toList) (o := 0) NEAB.out)
  have B6 := Lib.hid (below_whole ((rF k n (cellsF f fs)).toList) (o := 0) B5.out LEB.out)
  with_reducible refine wpList_storeM (.tmp 5) (.tmp 19) (o := 0) (vs := (rF k n (cellsF f fs))) ?_ ?_ KB5.out ?_ (infoTRf18 (rF_sz (cellsF_size f fs))) (rF_one (cellsF_one f fs)) ?_
  · rfl
  · rfl
  · exact (fit_2 (rF_sz cellsZ_size) (rF_sz (cellsF_size f fs)) (by decide))
  (try simp only [Act.put])
  generalize World.setCells _ _ _ _ = w6 at KA6 KB6 B6 ⊢
  clear B5 KA5 KB5
  (with_reducible refine rN (v := ?_) ?_ ?_ ?_); rotate_left; (· rfl); (· go_simp; (try with_reducible rfl)); simp only [pu, sB, s0, sS]
  go_upto_region 5 with fail
  refine wp_region_lit ?_
  go_wp2_with fail
  refine (HL.out _ B6.out).mono ?_
  rintro e w7 ⟨rfl, hb⟩
  have B7 := Lib.hid (B6.out.trans (hb.mono B6.out.size))
  have KA7 := Lib.hid (KA6.out.below hb KA6.out.lt)
  have KB7 := Lib.hid (KB6.out.below hb KB6.out.lt)
  clear hb
  clear B6 KA6 KB6
  go_simp
  rename_i hKK
  refine hKK _ _ ?_
  clear hKK
  try simp only [pu, sB, s0, sS]
  (with_reducible refine rN (v := .bool true) ?_ ?_ ?_); (· rfl); (· go_simp; (try with_reducible rfl)); simp only [pu, sB, s0, sS]
  with_reducible refine wpList_loadS (.tmp 3) ?_ ?_ KA7.out Tryz.underlying27 ?_ (infoTRf18 (rF_sz (cellsF_size f fs))) ?_
  · rfl
  · rfl
  · rfl
  simp only [pu, sB, s0, sS]
  with_reducible refine wpList_loadS (.tmp 5) ?_ ?_ KB7.out Tryz.underlying27 ?_ (infoTRf18 (rF_sz (cellsF_size f fs))) ?_
  · rfl
  · rfl
  · rfl
  simp only [pu, sB, s0, sS]
  iterate 3 ((with_reducible refine rN (v := .bool true) ?_ ?_ ?_); (· rfl); (· go_simp; (try with_reducible rfl)); simp only [pu, sB, s0, sS])
  iterate 2 ((with_reducible refine rN (v := ?_) ?_ ?_ ?_); rotate_left; (· rfl); (· go_simp; (try with_reducible rfl)); simp only [pu, sB, s0, sS])
  iterate 3 ((with_reducible refine rN (v := .bool true) ?_ ?_ ?_); (· rfl); (· go_simp; (try with_reducible rfl)); simp only [pu, sB, s0, sS])
  go_wp2_with fail
  go_ret
  exact ⟨rfl, B7.out⟩
end Go.Proofs.YtbcgkeclmioeiaaGreatDoor
namespace Go.Proofs.YtbcgkeclmioeiaaGreatDoor
open Go.RowKit
open Wd (Bs)

theorem lawRefParses (s : ByteArray) (w : World) (hE : Env w) :
    Calls Tryz.prog 5 #[.string s] w fun e w' => e = .returned (.bool true) ∧ Below w.heap.size w w' := by
  have HL : Hid (∀ W, Below w.heap.size w W → Calls Tryz.prog 13 #[] W fun e w' => e = .returned (.bool true) ∧ Below W.heap.size W w') := Lib.hid fun W hb => rfAlive W (hE.below hb)
  by_cases hl : (600 : Int) < (s.size : Int)
  · exact parLongR s w HL hl
  · obtain ⟨x, hx⟩ : ∃ x, Rf.pV s.data.toList = x := ⟨_, rfl⟩
    obtain ⟨er, he⟩ : ∃ x, Rf.pE s.data.toList = x := ⟨_, rfl⟩
    have HP : Hid (∀ W, Below w.heap.size w W → _) := Lib.hid fun W hb => rfParse s (by omega) W (hE.below hb)
    have HR : Hid (∀ W, Below w.heap.size w W → _) := Lib.hid fun W _ => refParse16 s (by omega) W
    rw [hx, he] at HP HR
    exact parShortR s er x.k x.n x.f (fsOf x.f) w HL hl HP HR (fun W => run_eq_selfR x W)
end Go.Proofs.YtbcgkeclmioeiaaGreatDoor
