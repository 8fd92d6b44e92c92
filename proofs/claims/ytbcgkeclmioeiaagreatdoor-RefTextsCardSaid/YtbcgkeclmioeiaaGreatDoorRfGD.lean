/-
  MERGED: FilRText, RfRIsW, RfRTxW, RfRef. By an AI agent.
-/
import Derived.Test.YtbcgkeclmioeiaaGreatDoorFilRefText
import Derived.Test.YtbcgkeclmioeiaaGreatDoorRfGA
import Derived.Test.YtbcgkeclmioeiaaGreatDoorRfGC
import Derived.Deep.Cut
namespace Go.Proofs.YtbcgkeclmioeiaaGreatDoor
open Go.RowKit
open Wd (Bs)

set_option maxRecDepth 100000 in
/-- the reference's Text of any filter -/
theorem refText13 (f : Fil.Flt) (fs : ByteArray) (hf : f.sub = fs.data.toList) (hs : fs.size ≤ maxLen) (w : World) :
    Calls Tryz.prog 40 #[.agg #[.int .i64 f.zone, .int .i64 f.who, .int .i64 f.self, .int .i64 f.types, .int .i64 f.ntypes, .int .i64 f.colors, .int .i64 f.ncolors, .string fs, .int .i64 f.keys, .int .i64 f.tap, .int .i64 f.pow.kind, .int .i64 f.pow.n, .int .i64 f.tough.kind, .int .i64 f.tough.n, .int .i64 f.val.kind, .int .i64 f.val.n]] w fun e w' => e = .returned (str (Fil.textF f)) ∧ Below w.heap.size w w' := by
  cases hvb : Fil.validB f with
  | true =>
    obtain ⟨a, rfl⟩ := acc_of hvb
    exact refTextA a fs hf hvb w
  | false =>
    have HC := Lib.hid (fun W => refIs13 f fs hf hs W)
    have HVB := Lib.hid hvb
    have HT := Lib.hid (Fil.textF_bad hvb)
    have HB : Hid (Below w.heap.size w (w.alloc (.cells #[.int .i64 f.zone, .int .i64 f.who, .int .i64 f.self, .int .i64 f.types, .int .i64 f.ntypes, .int .i64 f.colors, .int .i64 f.ncolors, .string fs, .int .i64 f.keys, .int .i64 f.tap, .int .i64 f.pow.kind, .int .i64 f.pow.n, .int .i64 f.tough.kind, .int .i64 f.tough.n, .int .i64 f.val.kind, .int .i64 f.val.n] 25))) := Lib.hid ((Below.refl _ _).alloc (Nat.le_refl _) _)
    clear hvb hf hs
    go_enter Tryz.func40, Tryz.ntmps40
    go_wp2_with fail
    refine (HC.out _).mono ?_
    rw [HVB.out]
    rintro e w1 ⟨rfl, hb1⟩
    go_wp2_with fail
    go_ret
    exact ⟨by rw [HT.out]; rfl, HB.out.trans (hb1.mono HB.out.size)⟩
end Go.Proofs.YtbcgkeclmioeiaaGreatDoor
namespace Go.Proofs.YtbcgkeclmioeiaaGreatDoor
open Go.RowKit
open Wd (Bs)

set_option maxHeartbeats 8000000 in
set_option maxRecDepth 100000 in
theorem refIsIn16B (k n : Int) (f : Fil.Flt) (fs : ByteArray) (sp : Int) (R kl kh nb b1 b2 v0 v4 vF q : Bool) (w : World)
    (hs : 4 < sp) (hkl : decide (k < 1) = kl) (hkh : decide (8 < k) = kh) (HNB : Hid (∀ W, Below w.heap.size w W → Calls Tryz.prog 34 #[.int .i64 k] W fun e w' => e = .returned (.bool nb) ∧ Below W.heap.size W w')) (hb1 : decide (n < 1) = b1) (hb2 : decide (4 < n) = b2) (h20 : (n == 0) = v0) (h4 : (k == 4) = v4) (HF : Hid (∀ W, Below w.heap.size w W → Calls Tryz.prog 35 #[.agg (cellsF f fs)] W fun e w' => e = .returned (.bool vF) ∧ Below W.heap.size W w')) (hq : ∀ W : World, (Op.equalIn 10000 25 (.agg (cellsF f fs)) (.agg cellsZ)).run Tryz.prog W = .ok q W) (hR : Hid (R = (!kl && (!kh && ((if nb then !b1 && !b2 else v0) && (if v4 then vF else q)))))) :
    Calls Tryz.prog 15 #[.agg (rF k n (cellsF f fs)), .int .i64 sp] w fun e w' => e = .returned (.bool R) ∧ Below w.heap.size w w' := by

  have B0 := Lib.hid (Below.refl w.heap.size w)
  go_enter Tryz.func15, Tryz.ntmps15
  go_upto_region 0 with fail
  refine wp_region_lit ?_
  obtain ⟨w1, hw⟩ : ∃ v, v = w.alloc (.cells (rF k n (cellsF f fs)) 27) := ⟨_, rfl⟩
  obtain ⟨pA, hp⟩ : ∃ v, v = w.heap.size := ⟨_, rfl⟩
  have B1 : Hid (Below w.heap.size w w1) := Lib.hid (by rw [hw]; exact B0.out.alloc B0.out.size _)
  have LEA : Hid (w.heap.size ≤ pA) := Lib.hid (by rw [hp]; exact B0.out.size)
  have KA1 : Hid (Blk w1 pA (rF k n (cellsF f fs)) 27) := Lib.hid (by rw [hw, hp]; exact Blk.new _ _ _)
  with_reducible refine wpList_runWV (some 2) (v := .pointer (some ⟨pA, 0, none⟩)) (w' := w1) ?_ ?_ ?_ ?_
  · rfl
  · rfl
  · rw [hw, hp]; (go_simp; (try rfl))
  simp only [pu, sB, s0, sS]
  clear hw hp
  clear B0
  (with_reducible refine rN (v := .bool false) ?_ ?_ ?_); (· rfl); (· go_simp; (try with_reducible rfl)); simp only [pu, sB, s0, sS]
  go_upto_region 1 with fail
  refine wp_region_lit ?_
  (with_reducible refine rN (v := ?_) ?_ ?_ ?_); rotate_left; (· rfl); (· go_simp; (try with_reducible rfl)); simp only [pu, sB, s0, sS]
  (with_reducible refine rN (v := .bool true) ?_ ?_ ?_); (· rfl); (· go_simp; (try with_reducible rfl)); simp only [pu, sB, s0, sS]
  go_upto_region 2 with fail
  refine wp_region_lit ?_
  (with_reducible refine rN (v := ?_) ?_ ?_ ?_); rotate_left; (· rfl); (· go_simp; (try with_reducible rfl)); simp only [pu, sB, s0, sS]
  cases kl with
  | false =>
    cases kh with
    | false =>
      go_upto_region 3 with fail
      refine wp_region_lit ?_
      (with_reducible refine rN (v := .pointer (some ⟨pA, 0, none⟩)) ?_ ?_ ?_); (· rfl); (· go_simp; (try rfl)); simp only [pu, sB, s0, sS]
      with_reducible refine wpList_loadV (.tmp 7) (j := 0) (v := .int .i64 k) ?_ ?_ KA1.out ?_ Tryz.underlying3 ?_ ?_
      · rfl
      · rfl
      · exact rF_0
      · rfl
      simp only [pu, sB, s0, sS]
      iterate 2 ((with_reducible refine rN (v := .bool false) ?_ ?_ ?_); (· rfl); (· go_simp; (try with_reducible rfl)); simp only [pu, sB, s0, sS])
      (with_reducible refine rN (v := .pointer (some ⟨pA, 0, none⟩)) ?_ ?_ ?_); (· rfl); (· go_simp; (try rfl)); simp only [pu, sB, s0, sS]
      with_reducible refine wpList_loadV (.tmp 11) (j := 0) (v := .int .i64 k) ?_ ?_ KA1.out ?_ Tryz.underlying3 ?_ ?_
      · rfl
      · rfl
      · exact rF_0
      · rfl
      simp only [pu, sB, s0, sS]
      iterate 2 ((with_reducible refine rN (v := .bool false) ?_ ?_ ?_); (· rfl); (· go_simp; (try with_reducible rfl)); simp only [pu, sB, s0, sS])
      cases nb with
      | false =>
        go_upto_region 5 with fail
        refine wp_region_lit ?_
        (with_reducible refine rN (v := .pointer (some ⟨pA, 0, none⟩)) ?_ ?_ ?_); (· rfl); (· go_simp; (try rfl)); simp only [pu, sB, s0, sS]
        with_reducible refine wpList_loadV (.tmp 15) (j := 0) (v := .int .i64 k) ?_ ?_ KA1.out ?_ Tryz.underlying3 ?_ ?_
        · rfl
        · rfl
        · exact rF_0
        · rfl
        simp only [pu, sB, s0, sS]
        go_wp2_with fail
        refine (HNB.out _ B1.out).mono ?_
        rintro e w2 ⟨rfl, hb⟩
        have B2 := Lib.hid (B1.out.trans (hb.mono B1.out.size))
        have KA2 := Lib.hid (KA1.out.below hb KA1.out.lt)
        clear hb
        clear B1 KA1
        go_simp
        rename_i hKK
        refine hKK _ _ ?_
        clear hKK
        try simp only [pu, sB, s0, sS]
        cases v0 with
        | false =>
          have hne : ¬ n = 0 := by simpa using h20
          go_upto_region 8 with fail
          refine wp_region_lit ?_
          (with_reducible refine rN (v := .pointer (some ⟨pA, 1, none⟩)) ?_ ?_ ?_); (· rfl); (· go_simp; (try rfl)); simp only [pu, sB, s0, sS]
          with_reducible refine wpList_loadV (.tmp 27) (j := 1) (v := .int .i64 n) ?_ ?_ KA2.out ?_ Tryz.underlying3 ?_ ?_
          · rfl
          · rfl
          · exact rF_1
          · rfl
          simp only [pu, sB, s0, sS]
          (with_reducible refine rN (v := .bool true) ?_ ?_ ?_); (· rfl); (· go_simp; (try with_reducible rfl)); simp only [pu, sB, s0, sS]
          go_upto_region 9 with fail
          refine wp_region_lit ?_
          (with_reducible refine rN (v := .bool false) ?_ ?_ ?_); (· rfl); (· go_simp; (try with_reducible rfl)); simp only [pu, sB, s0, sS]
          go_wp2_with fail
          go_ret
          exact ⟨by rw [hR.out]; rfl, B2.out⟩
        | true =>
          go_upto_region 8 with fail
          refine wp_region_lit ?_
          (with_reducible refine rN (v := .pointer (some ⟨pA, 1, none⟩)) ?_ ?_ ?_); (· rfl); (· go_simp; (try rfl)); simp only [pu, sB, s0, sS]
          with_reducible refine wpList_loadV (.tmp 27) (j := 1) (v := .int .i64 n) ?_ ?_ KA2.out ?_ Tryz.underlying3 ?_ ?_
          · rfl
          · rfl
          · exact rF_1
          · rfl
          simp only [pu, sB, s0, sS]
          (with_reducible refine rN (v := .bool false) ?_ ?_ ?_); (· rfl); (· go_simp; simpa using h20); simp only [pu, sB, s0, sS]
          cases v4 with
          | false =>
            go_upto_region 10 with fail
            refine wp_region_lit ?_
            (with_reducible refine rN (v := .pointer (some ⟨pA, 0, none⟩)) ?_ ?_ ?_); (· rfl); (· go_simp; (try rfl)); simp only [pu, sB, s0, sS]
            with_reducible refine wpList_loadV (.tmp 30) (j := 0) (v := .int .i64 k) ?_ ?_ KA2.out ?_ Tryz.underlying3 ?_ ?_
            · rfl
            · rfl
            · exact rF_0
            · rfl
            simp only [pu, sB, s0, sS]
            (with_reducible refine rN (v := .bool false) ?_ ?_ ?_); (· rfl); (· go_simp; (try with_reducible rfl)); simp only [pu, sB, s0, sS]
            go_upto_region 12 with fail
            refine wp_region_lit ?_
            (with_reducible refine rN (v := .pointer (some ⟨pA, 2, none⟩)) ?_ ?_ ?_); (· rfl); (· go_simp; (try rfl)); simp only [pu, sB, s0, sS]
            with_reducible refine wpList_loadM (.tmp 36) (o := 2) (xs := (cellsF f fs)) ?_ ?_ KA2.out ?_ Tryz.underlying25 ?_ (infoTF16 (cellsF_size f fs)) ?_
            · rfl
            · rfl
            · exact rF_f
            · rfl
            simp only [pu, sB, s0, sS]
            (with_reducible refine rN (v := .agg cellsZ) ?_ ?_ ?_); (· rfl); (· go_simp; rfl); simp only [pu, sB, s0, sS]
            iterate 2 ((with_reducible refine rN (v := ?_) ?_ ?_ ?_); rotate_left; (· rfl); (· go_simp; (try with_reducible rfl)); simp only [pu, sB, s0, sS])
            go_wp2_with fail
            go_ret
            exact ⟨by rw [hR.out]; rfl, B2.out⟩
          | true =>
            go_upto_region 10 with fail
            refine wp_region_lit ?_
            (with_reducible refine rN (v := .pointer (some ⟨pA, 0, none⟩)) ?_ ?_ ?_); (· rfl); (· go_simp; (try rfl)); simp only [pu, sB, s0, sS]
            with_reducible refine wpList_loadV (.tmp 30) (j := 0) (v := .int .i64 k) ?_ ?_ KA2.out ?_ Tryz.underlying3 ?_ ?_
            · rfl
            · rfl
            · exact rF_0
            · rfl
            simp only [pu, sB, s0, sS]
            (with_reducible refine rN (v := .bool true) ?_ ?_ ?_); (· rfl); (· go_simp; (try with_reducible rfl)); simp only [pu, sB, s0, sS]
            go_upto_region 11 with fail
            refine wp_region_lit ?_
            (with_reducible refine rN (v := .pointer (some ⟨pA, 2, none⟩)) ?_ ?_ ?_); (· rfl); (· go_simp; (try rfl)); simp only [pu, sB, s0, sS]
            with_reducible refine wpList_loadM (.tmp 33) (o := 2) (xs := (cellsF f fs)) ?_ ?_ KA2.out ?_ Tryz.underlying25 ?_ (infoTF16 (cellsF_size f fs)) ?_
            · rfl
            · rfl
            · exact rF_f
            · rfl
            simp only [pu, sB, s0, sS]
            go_wp2_with fail
            refine (HF.out _ B2.out).mono ?_
            rintro e w3 ⟨rfl, hb⟩
            have B3 := Lib.hid (B2.out.trans (hb.mono B2.out.size))
            have KA3 := Lib.hid (KA2.out.below hb KA2.out.lt)
            clear hb
            clear B2 KA2
            go_simp
            rename_i hKK
            refine hKK _ _ ?_
            clear hKK
            try simp only [pu, sB, s0, sS]
            (with_reducible refine rN (v := ?_) ?_ ?_ ?_); rotate_left; (· rfl); (· go_simp; (try with_reducible rfl)); simp only [pu, sB, s0, sS]
            go_wp2_with fail
            go_ret
            exact ⟨by rw [hR.out]; rfl, B3.out⟩
      | true =>
        go_upto_region 5 with fail
        refine wp_region_lit ?_
        (with_reducible refine rN (v := .pointer (some ⟨pA, 0, none⟩)) ?_ ?_ ?_); (· rfl); (· go_simp; (try rfl)); simp only [pu, sB, s0, sS]
        with_reducible refine wpList_loadV (.tmp 15) (j := 0) (v := .int .i64 k) ?_ ?_ KA1.out ?_ Tryz.underlying3 ?_ ?_
        · rfl
        · rfl
        · exact rF_0
        · rfl
        simp only [pu, sB, s0, sS]
        go_wp2_with fail
        refine (HNB.out _ B1.out).mono ?_
        rintro e w2 ⟨rfl, hb⟩
        have B2 := Lib.hid (B1.out.trans (hb.mono B1.out.size))
        have KA2 := Lib.hid (KA1.out.below hb KA1.out.lt)
        clear hb
        clear B1 KA1
        go_simp
        rename_i hKK
        refine hKK _ _ ?_
        clear hKK
        try simp only [pu, sB, s0, sS]
        cases b1 with
        | false =>
          cases b2 with
          | false =>
            go_upto_region 6 with fail
            refine wp_region_lit ?_
            (with_reducible refine rN (v := .pointer (some ⟨pA, 1, none⟩)) ?_ ?_ ?_); (· rfl); (· go_simp; (try rfl)); simp only [pu, sB, s0, sS]
            with_reducible refine wpList_loadV (.tmp 18) (j := 1) (v := .int .i64 n) ?_ ?_ KA2.out ?_ Tryz.underlying3 ?_ ?_
            · rfl
            · rfl
            · exact rF_1
            · rfl
            simp only [pu, sB, s0, sS]
            iterate 2 ((with_reducible refine rN (v := .bool false) ?_ ?_ ?_); (· rfl); (· go_simp; (try with_reducible rfl)); simp only [pu, sB, s0, sS])
            (with_reducible refine rN (v := .pointer (some ⟨pA, 1, none⟩)) ?_ ?_ ?_); (· rfl); (· go_simp; (try rfl)); simp only [pu, sB, s0, sS]
            with_reducible refine wpList_loadV (.tmp 22) (j := 1) (v := .int .i64 n) ?_ ?_ KA2.out ?_ Tryz.underlying3 ?_ ?_
            · rfl
            · rfl
            · exact rF_1
            · rfl
            simp only [pu, sB, s0, sS]
            (with_reducible refine rN (v := ?_) ?_ ?_ ?_); rotate_left; (· rfl); (· go_simp; (try with_reducible rfl)); simp only [pu, sB, s0, sS]
            iterate 2 ((with_reducible refine rN (v := .bool false) ?_ ?_ ?_); (· rfl); (· go_simp; (try with_reducible rfl)); simp only [pu, sB, s0, sS])
            cases v4 with
            | false =>
              go_upto_region 10 with fail
              refine wp_region_lit ?_
              (with_reducible refine rN (v := .pointer (some ⟨pA, 0, none⟩)) ?_ ?_ ?_); (· rfl); (· go_simp; (try rfl)); simp only [pu, sB, s0, sS]
              with_reducible refine wpList_loadV (.tmp 30) (j := 0) (v := .int .i64 k) ?_ ?_ KA2.out ?_ Tryz.underlying3 ?_ ?_
              · rfl
              · rfl
              · exact rF_0
              · rfl
              simp only [pu, sB, s0, sS]
              (with_reducible refine rN (v := .bool false) ?_ ?_ ?_); (· rfl); (· go_simp; (try with_reducible rfl)); simp only [pu, sB, s0, sS]
              go_upto_region 12 with fail
              refine wp_region_lit ?_
              (with_reducible refine rN (v := .pointer (some ⟨pA, 2, none⟩)) ?_ ?_ ?_); (· rfl); (· go_simp; (try rfl)); simp only [pu, sB, s0, sS]
              with_reducible refine wpList_loadM (.tmp 36) (o := 2) (xs := (cellsF f fs)) ?_ ?_ KA2.out ?_ Tryz.underlying25 ?_ (infoTF16 (cellsF_size f fs)) ?_
              · rfl
              · rfl
              · exact rF_f
              · rfl
              simp only [pu, sB, s0, sS]
              (with_reducible refine rN (v := .agg cellsZ) ?_ ?_ ?_); (· rfl); (· go_simp; rfl); simp only [pu, sB, s0, sS]
              iterate 2 ((with_reducible refine rN (v := ?_) ?_ ?_ ?_); rotate_left; (· rfl); (· go_simp; (try with_reducible rfl)); simp only [pu, sB, s0, sS])
              go_wp2_with fail
              go_ret
              exact ⟨by rw [hR.out]; rfl, B2.out⟩
            | true =>
              go_upto_region 10 with fail
              refine wp_region_lit ?_
              (with_reducible refine rN (v := .pointer (some ⟨pA, 0, none⟩)) ?_ ?_ ?_); (· rfl); (· go_simp; (try rfl)); simp only [pu, sB, s0, sS]
              with_reducible refine wpList_loadV (.tmp 30) (j := 0) (v := .int .i64 k) ?_ ?_ KA2.out ?_ Tryz.underlying3 ?_ ?_
              · rfl
              · rfl
              · exact rF_0
              · rfl
              simp only [pu, sB, s0, sS]
              (with_reducible refine rN (v := .bool true) ?_ ?_ ?_); (· rfl); (· go_simp; (try with_reducible rfl)); simp only [pu, sB, s0, sS]
              go_upto_region 11 with fail
              refine wp_region_lit ?_
              (with_reducible refine rN (v := .pointer (some ⟨pA, 2, none⟩)) ?_ ?_ ?_); (· rfl); (· go_simp; (try rfl)); simp only [pu, sB, s0, sS]
              with_reducible refine wpList_loadM (.tmp 33) (o := 2) (xs := (cellsF f fs)) ?_ ?_ KA2.out ?_ Tryz.underlying25 ?_ (infoTF16 (cellsF_size f fs)) ?_
              · rfl
              · rfl
              · exact rF_f
              · rfl
              simp only [pu, sB, s0, sS]
              go_wp2_with fail
              refine (HF.out _ B2.out).mono ?_
              rintro e w3 ⟨rfl, hb⟩
              have B3 := Lib.hid (B2.out.trans (hb.mono B2.out.size))
              have KA3 := Lib.hid (KA2.out.below hb KA2.out.lt)
              clear hb
              clear B2 KA2
              go_simp
              rename_i hKK
              refine hKK _ _ ?_
              clear hKK
              try simp only [pu, sB, s0, sS]
              (with_reducible refine rN (v := ?_) ?_ ?_ ?_); rotate_left; (· rfl); (· go_simp; (try with_reducible rfl)); simp only [pu, sB, s0, sS]
              go_wp2_with fail
              go_ret
              exact ⟨by rw [hR.out]; rfl, B3.out⟩
          | true =>
            go_upto_region 6 with fail
            refine wp_region_lit ?_
            (with_reducible refine rN (v := .pointer (some ⟨pA, 1, none⟩)) ?_ ?_ ?_); (· rfl); (· go_simp; (try rfl)); simp only [pu, sB, s0, sS]
            with_reducible refine wpList_loadV (.tmp 18) (j := 1) (v := .int .i64 n) ?_ ?_ KA2.out ?_ Tryz.underlying3 ?_ ?_
            · rfl
            · rfl
            · exact rF_1
            · rfl
            simp only [pu, sB, s0, sS]
            iterate 2 ((with_reducible refine rN (v := .bool false) ?_ ?_ ?_); (· rfl); (· go_simp; (try with_reducible rfl)); simp only [pu, sB, s0, sS])
            (with_reducible refine rN (v := .pointer (some ⟨pA, 1, none⟩)) ?_ ?_ ?_); (· rfl); (· go_simp; (try rfl)); simp only [pu, sB, s0, sS]
            with_reducible refine wpList_loadV (.tmp 22) (j := 1) (v := .int .i64 n) ?_ ?_ KA2.out ?_ Tryz.underlying3 ?_ ?_
            · rfl
            · rfl
            · exact rF_1
            · rfl
            simp only [pu, sB, s0, sS]
            (with_reducible refine rN (v := ?_) ?_ ?_ ?_); rotate_left; (· rfl); (· go_simp; (try with_reducible rfl)); simp only [pu, sB, s0, sS]
            iterate 2 ((with_reducible refine rN (v := .bool true) ?_ ?_ ?_); (· rfl); (· go_simp; (try with_reducible rfl)); simp only [pu, sB, s0, sS])
            go_upto_region 7 with fail
            refine wp_region_lit ?_
            (with_reducible refine rN (v := .bool false) ?_ ?_ ?_); (· rfl); (· go_simp; (try with_reducible rfl)); simp only [pu, sB, s0, sS]
            go_wp2_with fail
            go_ret
            exact ⟨by rw [hR.out]; rfl, B2.out⟩
        | true =>
          go_upto_region 6 with fail
          refine wp_region_lit ?_
          (with_reducible refine rN (v := .pointer (some ⟨pA, 1, none⟩)) ?_ ?_ ?_); (· rfl); (· go_simp; (try rfl)); simp only [pu, sB, s0, sS]
          with_reducible refine wpList_loadV (.tmp 18) (j := 1) (v := .int .i64 n) ?_ ?_ KA2.out ?_ Tryz.underlying3 ?_ ?_
          · rfl
          · rfl
          · exact rF_1
          · rfl
          simp only [pu, sB, s0, sS]
          iterate 2 ((with_reducible refine rN (v := .bool true) ?_ ?_ ?_); (· rfl); (· go_simp; (try with_reducible rfl)); simp only [pu, sB, s0, sS])
          iterate 4 ((with_reducible refine kN ?_ ?_); (· rfl); simp only [pu, sB, s0, sS])
          (with_reducible refine rN (v := .bool true) ?_ ?_ ?_); (· rfl); (· go_simp; (try with_reducible rfl)); simp only [pu, sB, s0, sS]
          go_upto_region 7 with fail
          refine wp_region_lit ?_
          (with_reducible refine rN (v := .bool false) ?_ ?_ ?_); (· rfl); (· go_simp; (try with_reducible rfl)); simp only [pu, sB, s0, sS]
          go_wp2_with fail
          go_ret
          exact ⟨by rw [hR.out]; rfl, B2.out⟩
    | true =>
      go_upto_region 3 with fail
      refine wp_region_lit ?_
      (with_reducible refine rN (v := .pointer (some ⟨pA, 0, none⟩)) ?_ ?_ ?_); (· rfl); (· go_simp; (try rfl)); simp only [pu, sB, s0, sS]
      with_reducible refine wpList_loadV (.tmp 7) (j := 0) (v := .int .i64 k) ?_ ?_ KA1.out ?_ Tryz.underlying3 ?_ ?_
      · rfl
      · rfl
      · exact rF_0
      · rfl
      simp only [pu, sB, s0, sS]
      iterate 2 ((with_reducible refine rN (v := .bool false) ?_ ?_ ?_); (· rfl); (· go_simp; (try with_reducible rfl)); simp only [pu, sB, s0, sS])
      (with_reducible refine rN (v := .pointer (some ⟨pA, 0, none⟩)) ?_ ?_ ?_); (· rfl); (· go_simp; (try rfl)); simp only [pu, sB, s0, sS]
      with_reducible refine wpList_loadV (.tmp 11) (j := 0) (v := .int .i64 k) ?_ ?_ KA1.out ?_ Tryz.underlying3 ?_ ?_
      · rfl
      · rfl
      · exact rF_0
      · rfl
      simp only [pu, sB, s0, sS]
      iterate 2 ((with_reducible refine rN (v := .bool true) ?_ ?_ ?_); (· rfl); (· go_simp; (try with_reducible rfl)); simp only [pu, sB, s0, sS])
      go_upto_region 4 with fail
      refine wp_region_lit ?_
      (with_reducible refine rN (v := .bool false) ?_ ?_ ?_); (· rfl); (· go_simp; (try with_reducible rfl)); simp only [pu, sB, s0, sS]
      go_wp2_with fail
      go_ret
      exact ⟨by rw [hR.out]; rfl, B1.out⟩
  | true =>
    go_upto_region 3 with fail
    refine wp_region_lit ?_
    (with_reducible refine rN (v := .pointer (some ⟨pA, 0, none⟩)) ?_ ?_ ?_); (· rfl); (· go_simp; (try rfl)); simp only [pu, sB, s0, sS]
    with_reducible refine wpList_loadV (.tmp 7) (j := 0) (v := .int .i64 k) ?_ ?_ KA1.out ?_ Tryz.underlying3 ?_ ?_
    · rfl
    · rfl
    · exact rF_0
    · rfl
    simp only [pu, sB, s0, sS]
    iterate 2 ((with_reducible refine rN (v := .bool true) ?_ ?_ ?_); (· rfl); (· go_simp; (try with_reducible rfl)); simp only [pu, sB, s0, sS])
    iterate 3 ((with_reducible refine kN ?_ ?_); (· rfl); simp only [pu, sB, s0, sS])
    (with_reducible refine rN (v := .bool true) ?_ ?_ ?_); (· rfl); (· go_simp; (try with_reducible rfl)); simp only [pu, sB, s0, sS]
    go_upto_region 4 with fail
    refine wp_region_lit ?_
    (with_reducible refine rN (v := .bool false) ?_ ?_ ?_); (· rfl); (· go_simp; (try with_reducible rfl)); simp only [pu, sB, s0, sS]
    go_wp2_with fail
    go_ret
    exact ⟨by rw [hR.out]; rfl, B1.out⟩

set_option maxHeartbeats 8000000 in
set_option maxRecDepth 100000 in
theorem refIsIn16S (k n : Int) (f : Fil.Flt) (fs : ByteArray) (sp : Int) (R kl kh nb b1 b2 v0 v4 vF q : Bool) (w : World)
    (hs : ¬ 4 < sp) (hkl : decide (k < 1) = kl) (hkh : decide (8 < k) = kh) (HNB : Hid (∀ W, Below w.heap.size w W → Calls Tryz.prog 34 #[.int .i64 k] W fun e w' => e = .returned (.bool nb) ∧ Below W.heap.size W w')) (hb1 : decide (n < 1) = b1) (hb2 : decide (sp < n) = b2) (h20 : (n == 0) = v0) (h4 : (k == 4) = v4) (HF : Hid (∀ W, Below w.heap.size w W → Calls Tryz.prog 35 #[.agg (cellsF f fs)] W fun e w' => e = .returned (.bool vF) ∧ Below W.heap.size W w')) (hq : ∀ W : World, (Op.equalIn 10000 25 (.agg (cellsF f fs)) (.agg cellsZ)).run Tryz.prog W = .ok q W) (hR : Hid (R = (!kl && (!kh && ((if nb then !b1 && !b2 else v0) && (if v4 then vF else q)))))) :
    Calls Tryz.prog 15 #[.agg (rF k n (cellsF f fs)), .int .i64 sp] w fun e w' => e = .returned (.bool R) ∧ Below w.heap.size w w' := by

  have B0 := Lib.hid (Below.refl w.heap.size w)
  go_enter Tryz.func15, Tryz.ntmps15
  go_upto_region 0 with fail
  refine wp_region_lit ?_
  obtain ⟨w1, hw⟩ : ∃ v, v = w.alloc (.cells (rF k n (cellsF f fs)) 27) := ⟨_, rfl⟩
  obtain ⟨pA, hp⟩ : ∃ v, v = w.heap.size := ⟨_, rfl⟩
  have B1 : Hid (Below w.heap.size w w1) := Lib.hid (by rw [hw]; exact B0.out.alloc B0.out.size _)
  have LEA : Hid (w.heap.size ≤ pA) := Lib.hid (by rw [hp]; exact B0.out.size)
  have KA1 : Hid (Blk w1 pA (rF k n (cellsF f fs)) 27) := Lib.hid (by rw [hw, hp]; exact Blk.new _ _ _)
  with_reducible refine wpList_runWV (some 2) (v := .pointer (some ⟨pA, 0, none⟩)) (w' := w1) ?_ ?_ ?_ ?_
  · rfl
  · rfl
  · rw [hw, hp]; (go_simp; (try rfl))
  simp only [pu, sB, s0, sS]
  clear hw hp
  clear B0
  (with_reducible refine rN (v := .bool false) ?_ ?_ ?_); (· rfl); (· go_simp; (try with_reducible rfl)); simp only [pu, sB, s0, sS]
  go_upto_region 1 with fail
  refine wp_region_lit ?_
  (with_reducible refine rN (v := ?_) ?_ ?_ ?_); rotate_left; (· rfl); (· go_simp; (try with_reducible rfl)); simp only [pu, sB, s0, sS]
  (with_reducible refine rN (v := .bool false) ?_ ?_ ?_); (· rfl); (· go_simp; (try with_reducible rfl)); simp only [pu, sB, s0, sS]
  cases kl with
  | false =>
    cases kh with
    | false =>
      go_upto_region 3 with fail
      refine wp_region_lit ?_
      (with_reducible refine rN (v := .pointer (some ⟨pA, 0, none⟩)) ?_ ?_ ?_); (· rfl); (· go_simp; (try rfl)); simp only [pu, sB, s0, sS]
      with_reducible refine wpList_loadV (.tmp 7) (j := 0) (v := .int .i64 k) ?_ ?_ KA1.out ?_ Tryz.underlying3 ?_ ?_
      · rfl
      · rfl
      · exact rF_0
      · rfl
      simp only [pu, sB, s0, sS]
      iterate 2 ((with_reducible refine rN (v := .bool false) ?_ ?_ ?_); (· rfl); (· go_simp; (try with_reducible rfl)); simp only [pu, sB, s0, sS])
      (with_reducible refine rN (v := .pointer (some ⟨pA, 0, none⟩)) ?_ ?_ ?_); (· rfl); (· go_simp; (try rfl)); simp only [pu, sB, s0, sS]
      with_reducible refine wpList_loadV (.tmp 11) (j := 0) (v := .int .i64 k) ?_ ?_ KA1.out ?_ Tryz.underlying3 ?_ ?_
      · rfl
      · rfl
      · exact rF_0
      · rfl
      simp only [pu, sB, s0, sS]
      iterate 2 ((with_reducible refine rN (v := .bool false) ?_ ?_ ?_); (· rfl); (· go_simp; (try with_reducible rfl)); simp only [pu, sB, s0, sS])
      cases nb with
      | false =>
        go_upto_region 5 with fail
        refine wp_region_lit ?_
        (with_reducible refine rN (v := .pointer (some ⟨pA, 0, none⟩)) ?_ ?_ ?_); (· rfl); (· go_simp; (try rfl)); simp only [pu, sB, s0, sS]
        with_reducible refine wpList_loadV (.tmp 15) (j := 0) (v := .int .i64 k) ?_ ?_ KA1.out ?_ Tryz.underlying3 ?_ ?_
        · rfl
        · rfl
        · exact rF_0
        · rfl
        simp only [pu, sB, s0, sS]
        go_wp2_with fail
        refine (HNB.out _ B1.out).mono ?_
        rintro e w2 ⟨rfl, hb⟩
        have B2 := Lib.hid (B1.out.trans (hb.mono B1.out.size))
        have KA2 := Lib.hid (KA1.out.below hb KA1.out.lt)
        clear hb
        clear B1 KA1
        go_simp
        rename_i hKK
        refine hKK _ _ ?_
        clear hKK
        try simp only [pu, sB, s0, sS]
        cases v0 with
        | false =>
          have hne : ¬ n = 0 := by simpa using h20
          go_upto_region 8 with fail
          refine wp_region_lit ?_
          (with_reducible refine rN (v := .pointer (some ⟨pA, 1, none⟩)) ?_ ?_ ?_); (· rfl); (· go_simp; (try rfl)); simp only [pu, sB, s0, sS]
          with_reducible refine wpList_loadV (.tmp 27) (j := 1) (v := .int .i64 n) ?_ ?_ KA2.out ?_ Tryz.underlying3 ?_ ?_
          · rfl
          · rfl
          · exact rF_1
          · rfl
          simp only [pu, sB, s0, sS]
          (with_reducible refine rN (v := .bool true) ?_ ?_ ?_); (· rfl); (· go_simp; (try with_reducible rfl)); simp only [pu, sB, s0, sS]
          go_upto_region 9 with fail
          refine wp_region_lit ?_
          (with_reducible refine rN (v := .bool false) ?_ ?_ ?_); (· rfl); (· go_simp; (try with_reducible rfl)); simp only [pu, sB, s0, sS]
          go_wp2_with fail
          go_ret
          exact ⟨by rw [hR.out]; rfl, B2.out⟩
        | true =>
          go_upto_region 8 with fail
          refine wp_region_lit ?_
          (with_reducible refine rN (v := .pointer (some ⟨pA, 1, none⟩)) ?_ ?_ ?_); (· rfl); (· go_simp; (try rfl)); simp only [pu, sB, s0, sS]
          with_reducible refine wpList_loadV (.tmp 27) (j := 1) (v := .int .i64 n) ?_ ?_ KA2.out ?_ Tryz.underlying3 ?_ ?_
          · rfl
          · rfl
          · exact rF_1
          · rfl
          simp only [pu, sB, s0, sS]
          (with_reducible refine rN (v := .bool false) ?_ ?_ ?_); (· rfl); (· go_simp; simpa using h20); simp only [pu, sB, s0, sS]
          cases v4 with
          | false =>
            go_upto_region 10 with fail
            refine wp_region_lit ?_
            (with_reducible refine rN (v := .pointer (some ⟨pA, 0, none⟩)) ?_ ?_ ?_); (· rfl); (· go_simp; (try rfl)); simp only [pu, sB, s0, sS]
            with_reducible refine wpList_loadV (.tmp 30) (j := 0) (v := .int .i64 k) ?_ ?_ KA2.out ?_ Tryz.underlying3 ?_ ?_
            · rfl
            · rfl
            · exact rF_0
            · rfl
            simp only [pu, sB, s0, sS]
            (with_reducible refine rN (v := .bool false) ?_ ?_ ?_); (· rfl); (· go_simp; (try with_reducible rfl)); simp only [pu, sB, s0, sS]
            go_upto_region 12 with fail
            refine wp_region_lit ?_
            (with_reducible refine rN (v := .pointer (some ⟨pA, 2, none⟩)) ?_ ?_ ?_); (· rfl); (· go_simp; (try rfl)); simp only [pu, sB, s0, sS]
            with_reducible refine wpList_loadM (.tmp 36) (o := 2) (xs := (cellsF f fs)) ?_ ?_ KA2.out ?_ Tryz.underlying25 ?_ (infoTF16 (cellsF_size f fs)) ?_
            · rfl
            · rfl
            · exact rF_f
            · rfl
            simp only [pu, sB, s0, sS]
            (with_reducible refine rN (v := .agg cellsZ) ?_ ?_ ?_); (· rfl); (· go_simp; rfl); simp only [pu, sB, s0, sS]
            iterate 2 ((with_reducible refine rN (v := ?_) ?_ ?_ ?_); rotate_left; (· rfl); (· go_simp; (try with_reducible rfl)); simp only [pu, sB, s0, sS])
            go_wp2_with fail
            go_ret
            exact ⟨by rw [hR.out]; rfl, B2.out⟩
          | true =>
            go_upto_region 10 with fail
            refine wp_region_lit ?_
            (with_reducible refine rN (v := .pointer (some ⟨pA, 0, none⟩)) ?_ ?_ ?_); (· rfl); (· go_simp; (try rfl)); simp only [pu, sB, s0, sS]
            with_reducible refine wpList_loadV (.tmp 30) (j := 0) (v := .int .i64 k) ?_ ?_ KA2.out ?_ Tryz.underlying3 ?_ ?_
            · rfl
            · rfl
            · exact rF_0
            · rfl
            simp only [pu, sB, s0, sS]
            (with_reducible refine rN (v := .bool true) ?_ ?_ ?_); (· rfl); (· go_simp; (try with_reducible rfl)); simp only [pu, sB, s0, sS]
            go_upto_region 11 with fail
            refine wp_region_lit ?_
            (with_reducible refine rN (v := .pointer (some ⟨pA, 2, none⟩)) ?_ ?_ ?_); (· rfl); (· go_simp; (try rfl)); simp only [pu, sB, s0, sS]
            with_reducible refine wpList_loadM (.tmp 33) (o := 2) (xs := (cellsF f fs)) ?_ ?_ KA2.out ?_ Tryz.underlying25 ?_ (infoTF16 (cellsF_size f fs)) ?_
            · rfl
            · rfl
            · exact rF_f
            · rfl
            simp only [pu, sB, s0, sS]
            go_wp2_with fail
            refine (HF.out _ B2.out).mono ?_
            rintro e w3 ⟨rfl, hb⟩
            have B3 := Lib.hid (B2.out.trans (hb.mono B2.out.size))
            have KA3 := Lib.hid (KA2.out.below hb KA2.out.lt)
            clear hb
            clear B2 KA2
            go_simp
            rename_i hKK
            refine hKK _ _ ?_
            clear hKK
            try simp only [pu, sB, s0, sS]
            (with_reducible refine rN (v := ?_) ?_ ?_ ?_); rotate_left; (· rfl); (· go_simp; (try with_reducible rfl)); simp only [pu, sB, s0, sS]
            go_wp2_with fail
            go_ret
            exact ⟨by rw [hR.out]; rfl, B3.out⟩
      | true =>
        go_upto_region 5 with fail
        refine wp_region_lit ?_
        (with_reducible refine rN (v := .pointer (some ⟨pA, 0, none⟩)) ?_ ?_ ?_); (· rfl); (· go_simp; (try rfl)); simp only [pu, sB, s0, sS]
        with_reducible refine wpList_loadV (.tmp 15) (j := 0) (v := .int .i64 k) ?_ ?_ KA1.out ?_ Tryz.underlying3 ?_ ?_
        · rfl
        · rfl
        · exact rF_0
        · rfl
        simp only [pu, sB, s0, sS]
        go_wp2_with fail
        refine (HNB.out _ B1.out).mono ?_
        rintro e w2 ⟨rfl, hb⟩
        have B2 := Lib.hid (B1.out.trans (hb.mono B1.out.size))
        have KA2 := Lib.hid (KA1.out.below hb KA1.out.lt)
        clear hb
        clear B1 KA1
        go_simp
        rename_i hKK
        refine hKK _ _ ?_
        clear hKK
        try simp only [pu, sB, s0, sS]
        cases b1 with
        | false =>
          cases b2 with
          | false =>
            go_upto_region 6 with fail
            refine wp_region_lit ?_
            (with_reducible refine rN (v := .pointer (some ⟨pA, 1, none⟩)) ?_ ?_ ?_); (· rfl); (· go_simp; (try rfl)); simp only [pu, sB, s0, sS]
            with_reducible refine wpList_loadV (.tmp 18) (j := 1) (v := .int .i64 n) ?_ ?_ KA2.out ?_ Tryz.underlying3 ?_ ?_
            · rfl
            · rfl
            · exact rF_1
            · rfl
            simp only [pu, sB, s0, sS]
            iterate 2 ((with_reducible refine rN (v := .bool false) ?_ ?_ ?_); (· rfl); (· go_simp; (try with_reducible rfl)); simp only [pu, sB, s0, sS])
            (with_reducible refine rN (v := .pointer (some ⟨pA, 1, none⟩)) ?_ ?_ ?_); (· rfl); (· go_simp; (try rfl)); simp only [pu, sB, s0, sS]
            with_reducible refine wpList_loadV (.tmp 22) (j := 1) (v := .int .i64 n) ?_ ?_ KA2.out ?_ Tryz.underlying3 ?_ ?_
            · rfl
            · rfl
            · exact rF_1
            · rfl
            simp only [pu, sB, s0, sS]
            (with_reducible refine rN (v := ?_) ?_ ?_ ?_); rotate_left; (· rfl); (· go_simp; (try with_reducible rfl)); simp only [pu, sB, s0, sS]
            iterate 2 ((with_reducible refine rN (v := .bool false) ?_ ?_ ?_); (· rfl); (· go_simp; (try with_reducible rfl)); simp only [pu, sB, s0, sS])
            cases v4 with
            | false =>
              go_upto_region 10 with fail
              refine wp_region_lit ?_
              (with_reducible refine rN (v := .pointer (some ⟨pA, 0, none⟩)) ?_ ?_ ?_); (· rfl); (· go_simp; (try rfl)); simp only [pu, sB, s0, sS]
              with_reducible refine wpList_loadV (.tmp 30) (j := 0) (v := .int .i64 k) ?_ ?_ KA2.out ?_ Tryz.underlying3 ?_ ?_
              · rfl
              · rfl
              · exact rF_0
              · rfl
              simp only [pu, sB, s0, sS]
              (with_reducible refine rN (v := .bool false) ?_ ?_ ?_); (· rfl); (· go_simp; (try with_reducible rfl)); simp only [pu, sB, s0, sS]
              go_upto_region 12 with fail
              refine wp_region_lit ?_
              (with_reducible refine rN (v := .pointer (some ⟨pA, 2, none⟩)) ?_ ?_ ?_); (· rfl); (· go_simp; (try rfl)); simp only [pu, sB, s0, sS]
              with_reducible refine wpList_loadM (.tmp 36) (o := 2) (xs := (cellsF f fs)) ?_ ?_ KA2.out ?_ Tryz.underlying25 ?_ (infoTF16 (cellsF_size f fs)) ?_
              · rfl
              · rfl
              · exact rF_f
              · rfl
              simp only [pu, sB, s0, sS]
              (with_reducible refine rN (v := .agg cellsZ) ?_ ?_ ?_); (· rfl); (· go_simp; rfl); simp only [pu, sB, s0, sS]
              iterate 2 ((with_reducible refine rN (v := ?_) ?_ ?_ ?_); rotate_left; (· rfl); (· go_simp; (try with_reducible rfl)); simp only [pu, sB, s0, sS])
              go_wp2_with fail
              go_ret
              exact ⟨by rw [hR.out]; rfl, B2.out⟩
            | true =>
              go_upto_region 10 with fail
              refine wp_region_lit ?_
              (with_reducible refine rN (v := .pointer (some ⟨pA, 0, none⟩)) ?_ ?_ ?_); (· rfl); (· go_simp; (try rfl)); simp only [pu, sB, s0, sS]
              with_reducible refine wpList_loadV (.tmp 30) (j := 0) (v := .int .i64 k) ?_ ?_ KA2.out ?_ Tryz.underlying3 ?_ ?_
              · rfl
              · rfl
              · exact rF_0
              · rfl
              simp only [pu, sB, s0, sS]
              (with_reducible refine rN (v := .bool true) ?_ ?_ ?_); (· rfl); (· go_simp; (try with_reducible rfl)); simp only [pu, sB, s0, sS]
              go_upto_region 11 with fail
              refine wp_region_lit ?_
              (with_reducible refine rN (v := .pointer (some ⟨pA, 2, none⟩)) ?_ ?_ ?_); (· rfl); (· go_simp; (try rfl)); simp only [pu, sB, s0, sS]
              with_reducible refine wpList_loadM (.tmp 33) (o := 2) (xs := (cellsF f fs)) ?_ ?_ KA2.out ?_ Tryz.underlying25 ?_ (infoTF16 (cellsF_size f fs)) ?_
              · rfl
              · rfl
              · exact rF_f
              · rfl
              simp only [pu, sB, s0, sS]
              go_wp2_with fail
              refine (HF.out _ B2.out).mono ?_
              rintro e w3 ⟨rfl, hb⟩
              have B3 := Lib.hid (B2.out.trans (hb.mono B2.out.size))
              have KA3 := Lib.hid (KA2.out.below hb KA2.out.lt)
              clear hb
              clear B2 KA2
              go_simp
              rename_i hKK
              refine hKK _ _ ?_
              clear hKK
              try simp only [pu, sB, s0, sS]
              (with_reducible refine rN (v := ?_) ?_ ?_ ?_); rotate_left; (· rfl); (· go_simp; (try with_reducible rfl)); simp only [pu, sB, s0, sS]
              go_wp2_with fail
              go_ret
              exact ⟨by rw [hR.out]; rfl, B3.out⟩
          | true =>
            go_upto_region 6 with fail
            refine wp_region_lit ?_
            (with_reducible refine rN (v := .pointer (some ⟨pA, 1, none⟩)) ?_ ?_ ?_); (· rfl); (· go_simp; (try rfl)); simp only [pu, sB, s0, sS]
            with_reducible refine wpList_loadV (.tmp 18) (j := 1) (v := .int .i64 n) ?_ ?_ KA2.out ?_ Tryz.underlying3 ?_ ?_
            · rfl
            · rfl
            · exact rF_1
            · rfl
            simp only [pu, sB, s0, sS]
            iterate 2 ((with_reducible refine rN (v := .bool false) ?_ ?_ ?_); (· rfl); (· go_simp; (try with_reducible rfl)); simp only [pu, sB, s0, sS])
            (with_reducible refine rN (v := .pointer (some ⟨pA, 1, none⟩)) ?_ ?_ ?_); (· rfl); (· go_simp; (try rfl)); simp only [pu, sB, s0, sS]
            with_reducible refine wpList_loadV (.tmp 22) (j := 1) (v := .int .i64 n) ?_ ?_ KA2.out ?_ Tryz.underlying3 ?_ ?_
            · rfl
            · rfl
            · exact rF_1
            · rfl
            simp only [pu, sB, s0, sS]
            (with_reducible refine rN (v := ?_) ?_ ?_ ?_); rotate_left; (· rfl); (· go_simp; (try with_reducible rfl)); simp only [pu, sB, s0, sS]
            iterate 2 ((with_reducible refine rN (v := .bool true) ?_ ?_ ?_); (· rfl); (· go_simp; (try with_reducible rfl)); simp only [pu, sB, s0, sS])
            go_upto_region 7 with fail
            refine wp_region_lit ?_
            (with_reducible refine rN (v := .bool false) ?_ ?_ ?_); (· rfl); (· go_simp; (try with_reducible rfl)); simp only [pu, sB, s0, sS]
            go_wp2_with fail
            go_ret
            exact ⟨by rw [hR.out]; rfl, B2.out⟩
        | true =>
          go_upto_region 6 with fail
          refine wp_region_lit ?_
          (with_reducible refine rN (v := .pointer (some ⟨pA, 1, none⟩)) ?_ ?_ ?_); (· rfl); (· go_simp; (try rfl)); simp only [pu, sB, s0, sS]
          with_reducible refine wpList_loadV (.tmp 18) (j := 1) (v := .int .i64 n) ?_ ?_ KA2.out ?_ Tryz.underlying3 ?_ ?_
          · rfl
          · rfl
          · exact rF_1
          · rfl
          simp only [pu, sB, s0, sS]
          iterate 2 ((with_reducible refine rN (v := .bool true) ?_ ?_ ?_); (· rfl); (· go_simp; (try with_reducible rfl)); simp only [pu, sB, s0, sS])
          iterate 4 ((with_reducible refine kN ?_ ?_); (· rfl); simp only [pu, sB, s0, sS])
          (with_reducible refine rN (v := .bool true) ?_ ?_ ?_); (· rfl); (· go_simp; (try with_reducible rfl)); simp only [pu, sB, s0, sS]
          go_upto_region 7 with fail
          refine wp_region_lit ?_
          (with_reducible refine rN (v := .bool false) ?_ ?_ ?_); (· rfl); (· go_simp; (try with_reducible rfl)); simp only [pu, sB, s0, sS]
          go_wp2_with fail
          go_ret
          exact ⟨by rw [hR.out]; rfl, B2.out⟩
    | true =>
      go_upto_region 3 with fail
      refine wp_region_lit ?_
      (with_reducible refine rN (v := .pointer (some ⟨pA, 0, none⟩)) ?_ ?_ ?_); (· rfl); (· go_simp; (try rfl)); simp only [pu, sB, s0, sS]
      with_reducible refine wpList_loadV (.tmp 7) (j := 0) (v := .int .i64 k) ?_ ?_ KA1.out ?_ Tryz.underlying3 ?_ ?_
      · rfl
      · rfl
      · exact rF_0
      · rfl
      simp only [pu, sB, s0, sS]
      iterate 2 ((with_reducible refine rN (v := .bool false) ?_ ?_ ?_); (· rfl); (· go_simp; (try with_reducible rfl)); simp only [pu, sB, s0, sS])
      (with_reducible refine rN (v := .pointer (some ⟨pA, 0, none⟩)) ?_ ?_ ?_); (· rfl); (· go_simp; (try rfl)); simp only [pu, sB, s0, sS]
      with_reducible refine wpList_loadV (.tmp 11) (j := 0) (v := .int .i64 k) ?_ ?_ KA1.out ?_ Tryz.underlying3 ?_ ?_
      · rfl
      · rfl
      · exact rF_0
      · rfl
      simp only [pu, sB, s0, sS]
      iterate 2 ((with_reducible refine rN (v := .bool true) ?_ ?_ ?_); (· rfl); (· go_simp; (try with_reducible rfl)); simp only [pu, sB, s0, sS])
      go_upto_region 4 with fail
      refine wp_region_lit ?_
      (with_reducible refine rN (v := .bool false) ?_ ?_ ?_); (· rfl); (· go_simp; (try with_reducible rfl)); simp only [pu, sB, s0, sS]
      go_wp2_with fail
      go_ret
      exact ⟨by rw [hR.out]; rfl, B1.out⟩
  | true =>
    go_upto_region 3 with fail
    refine wp_region_lit ?_
    (with_reducible refine rN (v := .pointer (some ⟨pA, 0, none⟩)) ?_ ?_ ?_); (· rfl); (· go_simp; (try rfl)); simp only [pu, sB, s0, sS]
    with_reducible refine wpList_loadV (.tmp 7) (j := 0) (v := .int .i64 k) ?_ ?_ KA1.out ?_ Tryz.underlying3 ?_ ?_
    · rfl
    · rfl
    · exact rF_0
    · rfl
    simp only [pu, sB, s0, sS]
    iterate 2 ((with_reducible refine rN (v := .bool true) ?_ ?_ ?_); (· rfl); (· go_simp; (try with_reducible rfl)); simp only [pu, sB, s0, sS])
    iterate 3 ((with_reducible refine kN ?_ ?_); (· rfl); simp only [pu, sB, s0, sS])
    (with_reducible refine rN (v := .bool true) ?_ ?_ ?_); (· rfl); (· go_simp; (try with_reducible rfl)); simp only [pu, sB, s0, sS]
    go_upto_region 4 with fail
    refine wp_region_lit ?_
    (with_reducible refine rN (v := .bool false) ?_ ?_ ?_); (· rfl); (· go_simp; (try with_reducible rfl)); simp only [pu, sB, s0, sS]
    go_wp2_with fail
    go_ret
    exact ⟨by rw [hR.out]; rfl, B1.out⟩

theorem refNumbered16 (k : Int) (w : World) : Calls Tryz.prog 34 #[.int .i64 k] w fun e w' => e = .returned (.bool (k == 3 || k == 8)) ∧ w = w' := by
  obtain ⟨v1, h1⟩ : ∃ v, (k == 3) = v := ⟨_, rfl⟩
  obtain ⟨v2, h2⟩ : ∃ v, (k == 8) = v := ⟨_, rfl⟩
  rw [h1, h2]
  cases v1 <;> cases v2
  all_goals (
    go_enter Tryz.func34, Tryz.ntmps34
    go_wp2_with fail
    go_ret
    exact ⟨rfl, rfl⟩)
end Go.Proofs.YtbcgkeclmioeiaaGreatDoor
namespace Go.Proofs.YtbcgkeclmioeiaaGreatDoor
open Go.RowKit
open Wd (Bs)

set_option maxHeartbeats 8000000 in
set_option maxRecDepth 100000 in
theorem refTxBad16 (k n : Int) (f : Fil.Flt) (fs : ByteArray) (w : World)
    (HI : Hid (∀ W, Below w.heap.size w W → Calls Tryz.prog 15 #[.agg (rF k n (cellsF f fs)), .int .i64 4] W fun e w' => e = .returned (.bool false) ∧ Below W.heap.size W w')) :
    Calls Tryz.prog 17 #[.agg (rF k n (cellsF f fs))] w fun e w' => e = .returned (.string ⟨#[]⟩) ∧ Below w.heap.size w w' := by

  have B0 := Lib.hid (Below.refl w.heap.size w)
  go_enter Tryz.func17, Tryz.ntmps17
  go_upto_region 0 with fail
  refine wp_region_lit ?_
  obtain ⟨w1, hw⟩ : ∃ v, v = w.alloc (.cells (rF k n (cellsF f fs)) 27) := ⟨_, rfl⟩
  obtain ⟨pA, hp⟩ : ∃ v, v = w.heap.size := ⟨_, rfl⟩
  have B1 : Hid (Below w.heap.size w w1) := Lib.hid (by rw [hw]; exact B0.out.alloc B0.out.size _)
  have LEA : Hid (w.heap.size ≤ pA) := Lib.hid (by rw [hp]; exact B0.out.size)
  have KA1 : Hid (Blk w1 pA (rF k n (cellsF f fs)) 27) := Lib.hid (by rw [hw, hp]; exact Blk.new _ _ _)
  with_reducible refine wpList_runWV (some 1) (v := .pointer (some ⟨pA, 0, none⟩)) (w' := w1) ?_ ?_ ?_ ?_
  · rfl
  · rfl
  · rw [hw, hp]; (go_simp; (try rfl))
  simp only [pu, sB, s0, sS]
  clear hw hp
  clear B0
  (with_reducible refine rN (v := ?_) ?_ ?_ ?_); rotate_left; (· rfl); (· go_simp; (try with_reducible rfl)); simp only [pu, sB, s0, sS]
  go_upto_region 1 with fail
  refine wp_region_lit ?_
  with_reducible refine wpList_loadS (.tmp 1) ?_ ?_ KA1.out Tryz.underlying27 ?_ (infoTRf18 (rF_sz (cellsF_size f fs))) ?_
  · rfl
  · rfl
  · rfl
  simp only [pu, sB, s0, sS]
  go_wp2_with fail
  refine (HI.out _ B1.out).mono ?_
  rintro e w2 ⟨rfl, hb⟩
  have B2 := Lib.hid (B1.out.trans (hb.mono B1.out.size))
  have KA2 := Lib.hid (KA1.out.below hb KA1.out.lt)
  clear hb
  clear B1 KA1
  go_simp
  rename_i hKK
  refine hKK _ _ ?_
  clear hKK
  try simp only [pu, sB, s0, sS]
  (with_reducible refine rN (v := .bool true) ?_ ?_ ?_); (· rfl); (· go_simp; (try with_reducible rfl)); simp only [pu, sB, s0, sS]
  go_upto_region 2 with fail
  refine wp_region_lit ?_
  (with_reducible refine rN (v := ?_) ?_ ?_ ?_); rotate_left; (· rfl); (· go_simp; (try with_reducible rfl)); simp only [pu, sB, s0, sS]
  go_wp2_with fail
  go_ret
  exact ⟨rfl, B2.out⟩

set_option maxHeartbeats 8000000 in
set_option maxRecDepth 100000 in
theorem refTxNum16 (j : Nat) (n : Int) (f : Fil.Flt) (fs : ByteArray) (hd t : ByteArray) (w : World)
    (HI : Hid (∀ W, Below w.heap.size w W → Calls Tryz.prog 15 #[.agg (rF (j : Int) n (cellsF f fs)), .int .i64 4] W fun e w' => e = .returned (.bool true) ∧ Below W.heap.size W w')) (hj : j < 9) (hh : headsRC[j]? = some (.string hd)) (hs : hd.size ≤ 1000) (HNB : Hid (∀ W, Below w.heap.size w W → Calls Tryz.prog 34 #[.int .i64 (j : Int)] W fun e w' => e = .returned (.bool true) ∧ Below W.heap.size W w')) (HT : Hid (∀ W, Below w.heap.size w W → Calls Tryz.prog 39 #[.int .i64 n] W fun e w' => e = .returned (.string t) ∧ Below W.heap.size W w')) (ht : t.size ≤ 1000000) :
    Calls Tryz.prog 17 #[.agg (rF (j : Int) n (cellsF f fs))] w fun e w' => e = .returned (.string (hd ++ t)) ∧ Below w.heap.size w w' := by

  have B0 := Lib.hid (Below.refl w.heap.size w)
  go_enter Tryz.func17, Tryz.ntmps17
  go_upto_region 0 with fail
  refine wp_region_lit ?_
  obtain ⟨w1, hw⟩ : ∃ v, v = w.alloc (.cells (rF (j : Int) n (cellsF f fs)) 27) := ⟨_, rfl⟩
  obtain ⟨pA, hp⟩ : ∃ v, v = w.heap.size := ⟨_, rfl⟩
  have B1 : Hid (Below w.heap.size w w1) := Lib.hid (by rw [hw]; exact B0.out.alloc B0.out.size _)
  have LEA : Hid (w.heap.size ≤ pA) := Lib.hid (by rw [hp]; exact B0.out.size)
  have KA1 : Hid (Blk w1 pA (rF (j : Int) n (cellsF f fs)) 27) := Lib.hid (by rw [hw, hp]; exact Blk.new _ _ _)
  with_reducible refine wpList_runWV (some 1) (v := .pointer (some ⟨pA, 0, none⟩)) (w' := w1) ?_ ?_ ?_ ?_
  · rfl
  · rfl
  · rw [hw, hp]; (go_simp; (try rfl))
  simp only [pu, sB, s0, sS]
  clear hw hp
  clear B0
  (with_reducible refine rN (v := ?_) ?_ ?_ ?_); rotate_left; (· rfl); (· go_simp; (try with_reducible rfl)); simp only [pu, sB, s0, sS]
  go_upto_region 1 with fail
  refine wp_region_lit ?_
  with_reducible refine wpList_loadS (.tmp 1) ?_ ?_ KA1.out Tryz.underlying27 ?_ (infoTRf18 (rF_sz (cellsF_size f fs))) ?_
  · rfl
  · rfl
  · rfl
  simp only [pu, sB, s0, sS]
  go_wp2_with fail
  refine (HI.out _ B1.out).mono ?_
  rintro e w2 ⟨rfl, hb⟩
  have B2 := Lib.hid (B1.out.trans (hb.mono B1.out.size))
  have KA2 := Lib.hid (KA1.out.below hb KA1.out.lt)
  clear hb
  clear B1 KA1
  go_simp
  rename_i hKK
  refine hKK _ _ ?_
  clear hKK
  try simp only [pu, sB, s0, sS]
  (with_reducible refine rN (v := .bool false) ?_ ?_ ?_); (· rfl); (· go_simp; (try with_reducible rfl)); simp only [pu, sB, s0, sS]
  go_upto_region 3 with fail
  refine wp_region_lit ?_
  go_wp2_with fail
  refine (refNames16 _).mono ?_
  rintro e w3 ⟨⟨pN, rfl, hKN⟩, hb⟩
  have B3 := Lib.hid (B2.out.trans (hb.mono B2.out.size))
  have KA3 := Lib.hid (KA2.out.below hb KA2.out.lt)
  have KN3 := Lib.hid hKN
  clear hKN
  clear hb
  clear B2 KA2
  go_simp
  rename_i hKK
  refine hKK _ _ ?_
  clear hKK
  try simp only [pu, sB, s0, sS]
  (with_reducible refine rN (v := ?_) ?_ ?_ ?_); rotate_left; (· rfl); (· go_simp; (try with_reducible rfl)); simp only [pu, sB, s0, sS]
  go_upto_region 4 with fail
  refine wp_region_lit ?_
  (with_reducible refine rN (v := .pointer (some ⟨pA, 0, none⟩)) ?_ ?_ ?_); (· rfl); (· go_simp; (try rfl)); simp only [pu, sB, s0, sS]
  with_reducible refine wpList_loadV (.tmp 8) (j := 0) (v := .int .i64 (j : Int)) ?_ ?_ KA3.out ?_ Tryz.underlying3 ?_ ?_
  · rfl
  · rfl
  · exact rF_0
  · rfl
  simp only [pu, sB, s0, sS]
  go_wp2_with fail
  refine (HNB.out _ B3.out).mono ?_
  rintro e w4 ⟨rfl, hb⟩
  have B4 := Lib.hid (B3.out.trans (hb.mono B3.out.size))
  have KA4 := Lib.hid (KA3.out.below hb KA3.out.lt)
  have KN4 := Lib.hid (KN3.out.below hb KN3.out.lt)
  clear hb
  clear B3 KA3 KN3
  go_simp
  rename_i hKK
  refine hKK _ _ ?_
  clear hKK
  try simp only [pu, sB, s0, sS]
  have h0 : (0 : Int) ≤ (j : Int) := by omega
  have h15 : (j : Int) < 9 := by omega
  go_upto_region 5 with fail
  refine wp_region_held_drew (S := (fun W : World => Blk W pA (rF (j : Int) n (cellsF f fs)) 27 ∧ Blk W pN headsRC 9)) (by kernel_rfl) ?_ (fun hHeld => ?_)
  · exact ⟨KA4.out.drew, KN4.out.drew⟩
  refine take_run 0 (some 11) (v := ?_) rfl rfl (by kernel_rfl) (by kernel_rfl) (by kernel_rfl) (fun _ _ _ h => h) (by rfl) ?_ (by assumption) ?_
  rotate_left
  · (intro W hSw; (try dsimp only at hSw); go_simp; (try with_reducible rfl))
  simp only [pu, sB, s0, sS]
  refine take_run 1 (some 12) (v := .pointer (some ⟨pA, 0, none⟩)) rfl rfl (by kernel_rfl) (by kernel_rfl) (by kernel_rfl) (fun _ _ _ h => h) (by rfl) ?_ (by assumption) ?_
  · (intro W hSw; go_simp; (try rfl))
  simp only [pu, sB, s0, sS]
  refine take_loadV 2 (some 13) rfl rfl (by kernel_rfl) (by kernel_rfl) (by kernel_rfl) (fun _ _ _ h => h) (by rfl) (.tmp 12) rfl (b := pA) (j := 0) (cs := (rF (j : Int) n (cellsF f fs))) (v := .int .i64 (j : Int)) (by rfl) (fun W h => h.1) rF_0 Tryz.underlying3 rfl (by assumption) ?_
  simp only [pu, sB, s0, sS]
  refine take_run 3 (some 14) (v := .pointer (some ⟨pN, j, none⟩)) rfl rfl (by kernel_rfl) (by kernel_rfl) (by kernel_rfl) (fun _ _ _ h => h) (by rfl) ?_ (by assumption) ?_
  · (intro W hSw; go_simp; (try rfl))
  simp only [pu, sB, s0, sS]
  refine take_run 4 (some 15) (v := .string hd) rfl rfl (by kernel_rfl) (by kernel_rfl) (by kernel_rfl) (fun _ _ _ h => h) (by rfl) ?_ (by assumption) ?_
  · (intro W hSw; have hc := (hSw.2.cell j).trans hh; go_simp; (try with_reducible rfl))
  simp only [pu, sB, s0, sS]
  refine take_run 5 (some 16) (v := .pointer (some ⟨pA, 1, none⟩)) rfl rfl (by kernel_rfl) (by kernel_rfl) (by kernel_rfl) (fun _ _ _ h => h) (by rfl) ?_ (by assumption) ?_
  · (intro W hSw; go_simp; (try rfl))
  simp only [pu, sB, s0, sS]
  refine take_loadV 6 (some 17) rfl rfl (by kernel_rfl) (by kernel_rfl) (by kernel_rfl) (fun _ _ _ h => h) (by rfl) (.tmp 16) rfl (b := pA) (j := 1) (cs := (rF (j : Int) n (cellsF f fs))) (v := .int .i64 n) (by rfl) (fun W h => h.1) rF_1 Tryz.underlying3 rfl (by assumption) ?_
  simp only [pu, sB, s0, sS]
  refine wpAnyH_ready (rs := [7]) (by kernel_rfl) (by simp) ?_
  refine AllReadyH.cons rfl (fun K1 hK1 => ?_) AllReadyH.nil
  go_simp
  go_at_call 39
  refine (callBase (C := w4.heap.size) (w0 := w4) (by go_grown) (Nat.le_refl _) (HT.out _ (B4.out.trans (Below.mono ((by go_grown) : Below w4.heap.size w4 _) B4.out.size)))).mono ?_
  rintro e wd1 ⟨rfl, hbd1⟩
  go_simp
  refine hK1.out _ _ ?_ (fun hHd1 => ?_)
  · exact ⟨KA4.out.below hbd1 KA4.out.lt, KN4.out.below hbd1 KN4.out.lt⟩
  clear hK1 K1 hHeld
  try simp only [pu, sB, s0, sS]
  refine take_run 8 (some 19) (v := .string (hd ++ t)) rfl rfl (by kernel_rfl) (by kernel_rfl) (by kernel_rfl) (fun _ _ _ h => h) (by rfl) ?_ (by assumption) ?_
  · (intro W hSw; go_simp; omega)
  simp only [pu, sB, s0, sS]
  refine take_run 9 (some 2) (v := ?_) rfl rfl (by kernel_rfl) (by kernel_rfl) (by kernel_rfl) (fun _ _ _ h => h) (by rfl) ?_ (by assumption) ?_
  rotate_left
  · (intro W hSw; (try dsimp only at hSw); go_simp; (try with_reducible rfl))
  simp only [pu, sB, s0, sS]
  refine wpAnyH_done (by kernel_rfl) ?_ _
  have B5 := Lib.hid (B4.out.trans (hbd1.mono B4.out.size))
  have KA5 := Lib.hid (KA4.out.below hbd1 KA4.out.lt)
  have KN5 := Lib.hid (KN4.out.below hbd1 KN4.out.lt)
  go_wp2_with fail
  go_ret
  exact ⟨rfl, B5.out⟩

set_option maxHeartbeats 8000000 in
set_option maxRecDepth 100000 in
theorem refTxEach16 (j : Nat) (n : Int) (f : Fil.Flt) (fs : ByteArray) (hd t : ByteArray) (w : World)
    (HI : Hid (∀ W, Below w.heap.size w W → Calls Tryz.prog 15 #[.agg (rF (j : Int) n (cellsF f fs)), .int .i64 4] W fun e w' => e = .returned (.bool true) ∧ Below W.heap.size W w')) (hj : j < 9) (hh : headsRC[j]? = some (.string hd)) (hs : hd.size ≤ 1000) (HNB : Hid (∀ W, Below w.heap.size w W → Calls Tryz.prog 34 #[.int .i64 (j : Int)] W fun e w' => e = .returned (.bool false) ∧ Below W.heap.size W w')) (h4 : ((j : Int) == 4) = true) (HT : Hid (∀ W, Below w.heap.size w W → Calls Tryz.prog 40 #[.agg (cellsF f fs)] W fun e w' => e = .returned (.string t) ∧ Below W.heap.size W w')) (ht : t.size ≤ 1000000) :
    Calls Tryz.prog 17 #[.agg (rF (j : Int) n (cellsF f fs))] w fun e w' => e = .returned (.string (hd ++ t ++ ⟨#[41]⟩)) ∧ Below w.heap.size w w' := by

  have B0 := Lib.hid (Below.refl w.heap.size w)
  go_enter Tryz.func17, Tryz.ntmps17
  go_upto_region 0 with fail
  refine wp_region_lit ?_
  obtain ⟨w1, hw⟩ : ∃ v, v = w.alloc (.cells (rF (j : Int) n (cellsF f fs)) 27) := ⟨_, rfl⟩
  obtain ⟨pA, hp⟩ : ∃ v, v = w.heap.size := ⟨_, rfl⟩
  have B1 : Hid (Below w.heap.size w w1) := Lib.hid (by rw [hw]; exact B0.out.alloc B0.out.size _)
  have LEA : Hid (w.heap.size ≤ pA) := Lib.hid (by rw [hp]; exact B0.out.size)
  have KA1 : Hid (Blk w1 pA (rF (j : Int) n (cellsF f fs)) 27) := Lib.hid (by rw [hw, hp]; exact Blk.new _ _ _)
  with_reducible refine wpList_runWV (some 1) (v := .pointer (some ⟨pA, 0, none⟩)) (w' := w1) ?_ ?_ ?_ ?_
  · rfl
  · rfl
  · rw [hw, hp]; (go_simp; (try rfl))
  simp only [pu, sB, s0, sS]
  clear hw hp
  clear B0
  (with_reducible refine rN (v := ?_) ?_ ?_ ?_); rotate_left; (· rfl); (· go_simp; (try with_reducible rfl)); simp only [pu, sB, s0, sS]
  go_upto_region 1 with fail
  refine wp_region_lit ?_
  with_reducible refine wpList_loadS (.tmp 1) ?_ ?_ KA1.out Tryz.underlying27 ?_ (infoTRf18 (rF_sz (cellsF_size f fs))) ?_
  · rfl
  · rfl
  · rfl
  simp only [pu, sB, s0, sS]
  go_wp2_with fail
  refine (HI.out _ B1.out).mono ?_
  rintro e w2 ⟨rfl, hb⟩
  have B2 := Lib.hid (B1.out.trans (hb.mono B1.out.size))
  have KA2 := Lib.hid (KA1.out.below hb KA1.out.lt)
  clear hb
  clear B1 KA1
  go_simp
  rename_i hKK
  refine hKK _ _ ?_
  clear hKK
  try simp only [pu, sB, s0, sS]
  (with_reducible refine rN (v := .bool false) ?_ ?_ ?_); (· rfl); (· go_simp; (try with_reducible rfl)); simp only [pu, sB, s0, sS]
  go_upto_region 3 with fail
  refine wp_region_lit ?_
  go_wp2_with fail
  refine (refNames16 _).mono ?_
  rintro e w3 ⟨⟨pN, rfl, hKN⟩, hb⟩
  have B3 := Lib.hid (B2.out.trans (hb.mono B2.out.size))
  have KA3 := Lib.hid (KA2.out.below hb KA2.out.lt)
  have KN3 := Lib.hid hKN
  clear hKN
  clear hb
  clear B2 KA2
  go_simp
  rename_i hKK
  refine hKK _ _ ?_
  clear hKK
  try simp only [pu, sB, s0, sS]
  (with_reducible refine rN (v := ?_) ?_ ?_ ?_); rotate_left; (· rfl); (· go_simp; (try with_reducible rfl)); simp only [pu, sB, s0, sS]
  go_upto_region 4 with fail
  refine wp_region_lit ?_
  (with_reducible refine rN (v := .pointer (some ⟨pA, 0, none⟩)) ?_ ?_ ?_); (· rfl); (· go_simp; (try rfl)); simp only [pu, sB, s0, sS]
  with_reducible refine wpList_loadV (.tmp 8) (j := 0) (v := .int .i64 (j : Int)) ?_ ?_ KA3.out ?_ Tryz.underlying3 ?_ ?_
  · rfl
  · rfl
  · exact rF_0
  · rfl
  simp only [pu, sB, s0, sS]
  go_wp2_with fail
  refine (HNB.out _ B3.out).mono ?_
  rintro e w4 ⟨rfl, hb⟩
  have B4 := Lib.hid (B3.out.trans (hb.mono B3.out.size))
  have KA4 := Lib.hid (KA3.out.below hb KA3.out.lt)
  have KN4 := Lib.hid (KN3.out.below hb KN3.out.lt)
  clear hb
  clear B3 KA3 KN3
  go_simp
  rename_i hKK
  refine hKK _ _ ?_
  clear hKK
  try simp only [pu, sB, s0, sS]
  go_upto_region 6 with fail
  refine wp_region_lit ?_
  (with_reducible refine rN (v := .pointer (some ⟨pA, 0, none⟩)) ?_ ?_ ?_); (· rfl); (· go_simp; (try rfl)); simp only [pu, sB, s0, sS]
  with_reducible refine wpList_loadV (.tmp 20) (j := 0) (v := .int .i64 (j : Int)) ?_ ?_ KA4.out ?_ Tryz.underlying3 ?_ ?_
  · rfl
  · rfl
  · exact rF_0
  · rfl
  simp only [pu, sB, s0, sS]
  (with_reducible refine rN (v := .bool true) ?_ ?_ ?_); (· rfl); (· go_simp; (try with_reducible rfl)); simp only [pu, sB, s0, sS]
  have h0 : (0 : Int) ≤ (j : Int) := by omega
  have h15 : (j : Int) < 9 := by omega
  go_upto_region 7 with fail
  refine wp_region_held_drew (S := (fun W : World => Blk W pA (rF (j : Int) n (cellsF f fs)) 27 ∧ Blk W pN headsRC 9)) (by kernel_rfl) ?_ (fun hHeld => ?_)
  · exact ⟨KA4.out.drew, KN4.out.drew⟩
  refine take_run 0 (some 23) (v := ?_) rfl rfl (by kernel_rfl) (by kernel_rfl) (by kernel_rfl) (fun _ _ _ h => h) (by rfl) ?_ (by assumption) ?_
  rotate_left
  · (intro W hSw; (try dsimp only at hSw); go_simp; (try with_reducible rfl))
  simp only [pu, sB, s0, sS]
  refine take_run 1 (some 24) (v := .pointer (some ⟨pA, 0, none⟩)) rfl rfl (by kernel_rfl) (by kernel_rfl) (by kernel_rfl) (fun _ _ _ h => h) (by rfl) ?_ (by assumption) ?_
  · (intro W hSw; go_simp; (try rfl))
  simp only [pu, sB, s0, sS]
  refine take_loadV 2 (some 25) rfl rfl (by kernel_rfl) (by kernel_rfl) (by kernel_rfl) (fun _ _ _ h => h) (by rfl) (.tmp 24) rfl (b := pA) (j := 0) (cs := (rF (j : Int) n (cellsF f fs))) (v := .int .i64 (j : Int)) (by rfl) (fun W h => h.1) rF_0 Tryz.underlying3 rfl (by assumption) ?_
  simp only [pu, sB, s0, sS]
  refine take_run 3 (some 26) (v := .pointer (some ⟨pN, j, none⟩)) rfl rfl (by kernel_rfl) (by kernel_rfl) (by kernel_rfl) (fun _ _ _ h => h) (by rfl) ?_ (by assumption) ?_
  · (intro W hSw; go_simp; (try rfl))
  simp only [pu, sB, s0, sS]
  refine take_run 4 (some 27) (v := .string hd) rfl rfl (by kernel_rfl) (by kernel_rfl) (by kernel_rfl) (fun _ _ _ h => h) (by rfl) ?_ (by assumption) ?_
  · (intro W hSw; have hc := (hSw.2.cell j).trans hh; go_simp; (try with_reducible rfl))
  simp only [pu, sB, s0, sS]
  refine take_run 5 (some 28) (v := .pointer (some ⟨pA, 2, none⟩)) rfl rfl (by kernel_rfl) (by kernel_rfl) (by kernel_rfl) (fun _ _ _ h => h) (by rfl) ?_ (by assumption) ?_
  · (intro W hSw; go_simp; (try rfl))
  simp only [pu, sB, s0, sS]
  refine take_loadM 6 (some 29) rfl rfl (by kernel_rfl) (by kernel_rfl) (by kernel_rfl) (fun _ _ _ h => h) (by rfl) (.tmp 28) rfl (b := pA) (o := 2) (cs := (rF (j : Int) n (cellsF f fs))) (xs := (cellsF f fs)) (by rfl) (fun W h => h.1) (by exact rF_f) Tryz.underlying25 rfl (infoTF16 (cellsF_size f fs)) (by assumption) ?_
  simp only [pu, sB, s0, sS]
  refine wpAnyH_ready (rs := [7]) (by kernel_rfl) (by simp) ?_
  refine AllReadyH.cons rfl (fun K1 hK1 => ?_) AllReadyH.nil
  go_simp
  go_at_call 40
  refine (callBase (C := w4.heap.size) (w0 := w4) (by go_grown) (Nat.le_refl _) (HT.out _ (B4.out.trans (Below.mono ((by go_grown) : Below w4.heap.size w4 _) B4.out.size)))).mono ?_
  rintro e wd1 ⟨rfl, hbd1⟩
  go_simp
  refine hK1.out _ _ ?_ (fun hHd1 => ?_)
  · exact ⟨KA4.out.below hbd1 KA4.out.lt, KN4.out.below hbd1 KN4.out.lt⟩
  clear hK1 K1 hHeld
  try simp only [pu, sB, s0, sS]
  refine take_run 8 (some 31) (v := .string (hd ++ t)) rfl rfl (by kernel_rfl) (by kernel_rfl) (by kernel_rfl) (fun _ _ _ h => h) (by rfl) ?_ (by assumption) ?_
  · (intro W hSw; go_simp; omega)
  simp only [pu, sB, s0, sS]
  refine take_run 9 (some 32) (v := .string (hd ++ t ++ ⟨#[41]⟩)) rfl rfl (by kernel_rfl) (by kernel_rfl) (by kernel_rfl) (fun _ _ _ h => h) (by rfl) ?_ (by assumption) ?_
  · (intro W hSw; go_simp; omega)
  simp only [pu, sB, s0, sS]
  refine take_run 10 (some 2) (v := ?_) rfl rfl (by kernel_rfl) (by kernel_rfl) (by kernel_rfl) (fun _ _ _ h => h) (by rfl) ?_ (by assumption) ?_
  rotate_left
  · (intro W hSw; (try dsimp only at hSw); go_simp; (try with_reducible rfl))
  simp only [pu, sB, s0, sS]
  refine wpAnyH_done (by kernel_rfl) ?_ _
  have B5 := Lib.hid (B4.out.trans (hbd1.mono B4.out.size))
  have KA5 := Lib.hid (KA4.out.below hbd1 KA4.out.lt)
  have KN5 := Lib.hid (KN4.out.below hbd1 KN4.out.lt)
  go_wp2_with fail
  go_ret
  exact ⟨rfl, B5.out⟩

set_option maxHeartbeats 8000000 in
set_option maxRecDepth 100000 in
theorem refTxWord16 (j : Nat) (n : Int) (f : Fil.Flt) (fs : ByteArray) (hd : ByteArray) (w : World)
    (HI : Hid (∀ W, Below w.heap.size w W → Calls Tryz.prog 15 #[.agg (rF (j : Int) n (cellsF f fs)), .int .i64 4] W fun e w' => e = .returned (.bool true) ∧ Below W.heap.size W w')) (hj : j < 9) (hh : headsRC[j]? = some (.string hd)) (HNB : Hid (∀ W, Below w.heap.size w W → Calls Tryz.prog 34 #[.int .i64 (j : Int)] W fun e w' => e = .returned (.bool false) ∧ Below W.heap.size W w')) (h4 : ((j : Int) == 4) = false) :
    Calls Tryz.prog 17 #[.agg (rF (j : Int) n (cellsF f fs))] w fun e w' => e = .returned (.string hd) ∧ Below w.heap.size w w' := by

  have B0 := Lib.hid (Below.refl w.heap.size w)
  go_enter Tryz.func17, Tryz.ntmps17
  go_upto_region 0 with fail
  refine wp_region_lit ?_
  obtain ⟨w1, hw⟩ : ∃ v, v = w.alloc (.cells (rF (j : Int) n (cellsF f fs)) 27) := ⟨_, rfl⟩
  obtain ⟨pA, hp⟩ : ∃ v, v = w.heap.size := ⟨_, rfl⟩
  have B1 : Hid (Below w.heap.size w w1) := Lib.hid (by rw [hw]; exact B0.out.alloc B0.out.size _)
  have LEA : Hid (w.heap.size ≤ pA) := Lib.hid (by rw [hp]; exact B0.out.size)
  have KA1 : Hid (Blk w1 pA (rF (j : Int) n (cellsF f fs)) 27) := Lib.hid (by rw [hw, hp]; exact Blk.new _ _ _)
  with_reducible refine wpList_runWV (some 1) (v := .pointer (some ⟨pA, 0, none⟩)) (w' := w1) ?_ ?_ ?_ ?_
  · rfl
  · rfl
  · rw [hw, hp]; (go_simp; (try rfl))
  simp only [pu, sB, s0, sS]
  clear hw hp
  clear B0
  (with_reducible refine rN (v := ?_) ?_ ?_ ?_); rotate_left; (· rfl); (· go_simp; (try with_reducible rfl)); simp only [pu, sB, s0, sS]
  go_upto_region 1 with fail
  refine wp_region_lit ?_
  with_reducible refine wpList_loadS (.tmp 1) ?_ ?_ KA1.out Tryz.underlying27 ?_ (infoTRf18 (rF_sz (cellsF_size f fs))) ?_
  · rfl
  · rfl
  · rfl
  simp only [pu, sB, s0, sS]
  go_wp2_with fail
  refine (HI.out _ B1.out).mono ?_
  rintro e w2 ⟨rfl, hb⟩
  have B2 := Lib.hid (B1.out.trans (hb.mono B1.out.size))
  have KA2 := Lib.hid (KA1.out.below hb KA1.out.lt)
  clear hb
  clear B1 KA1
  go_simp
  rename_i hKK
  refine hKK _ _ ?_
  clear hKK
  try simp only [pu, sB, s0, sS]
  (with_reducible refine rN (v := .bool false) ?_ ?_ ?_); (· rfl); (· go_simp; (try with_reducible rfl)); simp only [pu, sB, s0, sS]
  go_upto_region 3 with fail
  refine wp_region_lit ?_
  go_wp2_with fail
  refine (refNames16 _).mono ?_
  rintro e w3 ⟨⟨pN, rfl, hKN⟩, hb⟩
  have B3 := Lib.hid (B2.out.trans (hb.mono B2.out.size))
  have KA3 := Lib.hid (KA2.out.below hb KA2.out.lt)
  have KN3 := Lib.hid hKN
  clear hKN
  clear hb
  clear B2 KA2
  go_simp
  rename_i hKK
  refine hKK _ _ ?_
  clear hKK
  try simp only [pu, sB, s0, sS]
  (with_reducible refine rN (v := ?_) ?_ ?_ ?_); rotate_left; (· rfl); (· go_simp; (try with_reducible rfl)); simp only [pu, sB, s0, sS]
  go_upto_region 4 with fail
  refine wp_region_lit ?_
  (with_reducible refine rN (v := .pointer (some ⟨pA, 0, none⟩)) ?_ ?_ ?_); (· rfl); (· go_simp; (try rfl)); simp only [pu, sB, s0, sS]
  with_reducible refine wpList_loadV (.tmp 8) (j := 0) (v := .int .i64 (j : Int)) ?_ ?_ KA3.out ?_ Tryz.underlying3 ?_ ?_
  · rfl
  · rfl
  · exact rF_0
  · rfl
  simp only [pu, sB, s0, sS]
  go_wp2_with fail
  refine (HNB.out _ B3.out).mono ?_
  rintro e w4 ⟨rfl, hb⟩
  have B4 := Lib.hid (B3.out.trans (hb.mono B3.out.size))
  have KA4 := Lib.hid (KA3.out.below hb KA3.out.lt)
  have KN4 := Lib.hid (KN3.out.below hb KN3.out.lt)
  clear hb
  clear B3 KA3 KN3
  go_simp
  rename_i hKK
  refine hKK _ _ ?_
  clear hKK
  try simp only [pu, sB, s0, sS]
  go_upto_region 6 with fail
  refine wp_region_lit ?_
  (with_reducible refine rN (v := .pointer (some ⟨pA, 0, none⟩)) ?_ ?_ ?_); (· rfl); (· go_simp; (try rfl)); simp only [pu, sB, s0, sS]
  with_reducible refine wpList_loadV (.tmp 20) (j := 0) (v := .int .i64 (j : Int)) ?_ ?_ KA4.out ?_ Tryz.underlying3 ?_ ?_
  · rfl
  · rfl
  · exact rF_0
  · rfl
  simp only [pu, sB, s0, sS]
  (with_reducible refine rN (v := .bool false) ?_ ?_ ?_); (· rfl); (· go_simp; (try with_reducible rfl)); simp only [pu, sB, s0, sS]
  have h0 : (0 : Int) ≤ (j : Int) := by omega
  have h15 : (j : Int) < 9 := by omega
  go_upto_region 8 with fail
  refine wp_region_lit ?_
  (with_reducible refine rN (v := ?_) ?_ ?_ ?_); rotate_left; (· rfl); (· go_simp; (try with_reducible rfl)); simp only [pu, sB, s0, sS]
  (with_reducible refine rN (v := .pointer (some ⟨pA, 0, none⟩)) ?_ ?_ ?_); (· rfl); (· go_simp; (try rfl)); simp only [pu, sB, s0, sS]
  with_reducible refine wpList_loadV (.tmp 34) (j := 0) (v := .int .i64 (j : Int)) ?_ ?_ KA4.out ?_ Tryz.underlying3 ?_ ?_
  · rfl
  · rfl
  · exact rF_0
  · rfl
  simp only [pu, sB, s0, sS]
  (with_reducible refine rN (v := .pointer (some ⟨pN, j, none⟩)) ?_ ?_ ?_); (· rfl); (· go_simp; (try rfl)); simp only [pu, sB, s0, sS]
  with_reducible refine wpList_loadV (.tmp 36) (j := j) (v := .string hd) ?_ ?_ KN4.out ?_ Tryz.underlying9 ?_ ?_
  · rfl
  · rfl
  · exact hh
  · rfl
  simp only [pu, sB, s0, sS]
  (with_reducible refine rN (v := ?_) ?_ ?_ ?_); rotate_left; (· rfl); (· go_simp; (try with_reducible rfl)); simp only [pu, sB, s0, sS]
  go_wp2_with fail
  go_ret
  exact ⟨rfl, B4.out⟩
end Go.Proofs.YtbcgkeclmioeiaaGreatDoor
namespace Go.Proofs.YtbcgkeclmioeiaaGreatDoor
open Go.RowKit
open Wd (Bs)

theorem rwsame {f : FuncId} {args : Array Value} {v : Value} {w : World} (h : Calls Tryz.prog f args w fun e w' => e = .returned v ∧ w = w') : Calls Tryz.prog f args w fun e w' => e = .returned v ∧ Below w.heap.size w w' :=
  h.mono fun _ _ ⟨he, hw⟩ => ⟨he, hw ▸ Below.refl _ _⟩
theorem run_eq_fl (f g : Fil.Flt) (fs gs : ByteArray) (hf : f.sub = fs.data.toList) (hg : g.sub = gs.data.toList) (W : World) : (Op.equalIn 10000 25 (.agg (cellsF f fs)) (.agg (cellsF g gs))).run Tryz.prog W = .ok (eqF f g) W := run_eq_fltD 9997 f g fs gs hf hg W
set_option maxHeartbeats 1000000 in
theorem refIs16 (k n : Int) (f : Fil.Flt) (fs : ByteArray) (hf : f.sub = fs.data.toList) (hs : fs.size ≤ maxLen) (sp : Int) (w : World) :
    Calls Tryz.prog 15 #[.agg (rF k n (cellsF f fs)), .int .i64 sp] w fun e w' => e = .returned (.bool (Rf.okB sp ⟨k, n, f⟩)) ∧ Below w.heap.size w w' := by
  have hR : Rf.okB sp ⟨k, n, f⟩ = (!(decide (k < 1)) && (!(decide (8 < k)) && ((if (k == 3 || k == 8) then !(decide (n < 1)) && !(decide (min sp 4 < n)) else (n == 0)) && (if (k == 4) then Fil.validB f else eqF f Fil.zero)))) := by
    have he : eqF f Fil.zero = decide (f = Fil.zero) := by rw [Bool.eq_iff_iff, eqF_iff]; simp
    have h0 : (n == 0) = decide (n = 0) := by rw [Bool.eq_iff_iff]; simp
    rw [he, h0]
    unfold Rf.okB
    simp only
    by_cases h4 : k = 4
    · subst h4
      rw [if_pos rfl]
      simp [Bool.and_comm]
    · have e4 : (k == 4) = false := by simpa using h4
      rw [if_neg h4, e4]
      by_cases h3 : k = 3 ∨ k = 8
      · have e3 : (k == 3 || k == 8) = true := by simpa using h3
        have a1 : decide (k < 1) = false := by simp; omega
        have a2 : decide (8 < k) = false := by simp; omega
        rw [if_pos h3, e3, a1, a2]
        have b1 : (!decide (n < 1)) = decide (1 ≤ n) := by rw [Bool.eq_iff_iff]; simp only [Bool.not_eq_true', decide_eq_false_iff_not, decide_eq_true_eq]; omega
        have b2 : (!decide (min sp 4 < n)) = decide (n ≤ min sp 4) := by rw [Bool.eq_iff_iff]; simp only [Bool.not_eq_true', decide_eq_false_iff_not, decide_eq_true_eq]; omega
        rw [b1, b2]
        rfl
      · have e3 : (k == 3 || k == 8) = false := by simpa using h3
        rw [if_neg h3, e3]
        by_cases hr : 1 ≤ k ∧ k ≤ 8
        · have a1 : decide (k < 1) = false := by simp; omega
          have a2 : decide (8 < k) = false := by simp; omega
          rw [if_pos hr, a1, a2]
          rfl
        · rw [if_neg hr]
          by_cases hl : k < 1
          · have a1 : decide (k < 1) = true := by simpa using hl
            rw [a1]; rfl
          · have a1 : decide (k < 1) = false := by simpa using hl
            have a2 : decide (8 < k) = true := by simp; omega
            rw [a1, a2]; rfl
  by_cases hb : 4 < sp
  · have hm : min sp 4 = 4 := by omega
    rw [hm] at hR
    exact refIsIn16B k n f fs sp _ _ _ _ _ _ _ _ _ _ w hb rfl rfl (Lib.hid fun W _ => rwsame (refNumbered16 k W)) rfl rfl rfl rfl (Lib.hid fun W _ => refIs13 f fs hf hs W) (fun W => run_eq_fl f Fil.zero fs ⟨#[]⟩ hf rfl W) (Lib.hid hR)
  · have hm : min sp 4 = sp := by omega
    rw [hm] at hR
    exact refIsIn16S k n f fs sp _ _ _ _ _ _ _ _ _ _ w hb rfl rfl (Lib.hid fun W _ => rwsame (refNumbered16 k W)) rfl rfl rfl rfl (Lib.hid fun W _ => refIs13 f fs hf hs W) (fun W => run_eq_fl f Fil.zero fs ⟨#[]⟩ hf rfl W) (Lib.hid hR)
set_option maxHeartbeats 1000000 in
theorem refText16 (k n : Int) (f : Fil.Flt) (fs : ByteArray) (hf : f.sub = fs.data.toList) (hs : fs.size ≤ maxLen) (w : World) :
    Calls Tryz.prog 17 #[.agg (rF k n (cellsF f fs))] w fun e w' => e = .returned (str (Rf.textR ⟨k, n, f⟩)) ∧ Below w.heap.size w w' := by
  have HI : Hid (∀ W, Below w.heap.size w W → _) := Lib.hid fun W _ => refIs16 k n f fs hf hs 4 W
  cases hv : Rf.okB 4 ⟨k, n, f⟩ with
  | false =>
    rw [hv] at HI
    refine (refTxBad16 k n f fs w HI).mono ?_
    rintro e w1 ⟨rfl, hb⟩
    exact ⟨by rw [Rf.textR_bad hv]; rfl, hb⟩
  | true =>
    rw [hv] at HI
    have hr := Rf.ok_range hv
    simp only at hr
    obtain ⟨j, rfl⟩ : ∃ j : Nat, k = (j : Int) := ⟨k.toNat, by omega⟩
    have hj : j < 9 := by omega
    have hjs := heads_lenR j hj
    have HN : Hid (∀ W, Below w.heap.size w W → _) := Lib.hid fun W _ => rwsame (refNumbered16 (j : Int) W)
    have hraw : Rf.raw ⟨j, n, f⟩ = Rf.headL j ++ Rf.rawT ⟨j, n, f⟩ := rfl
    rw [Rf.textR_ok hv, hraw]
    rcases Rf.ok_cases hv with ⟨hk, hvf, e⟩ | ⟨m, hk, h1, h2, _, e⟩ | ⟨hk, e⟩
    · have hj4 : j = 4 := by simp only at hk; omega
      subst hj4
      have hl := textF_len hvf
      simp only at hl
      refine (refTxEach16 4 n f fs ⟨(Rf.headL 4).toArray⟩ ⟨(Fil.textF f).toArray⟩ w HI hj (headsRC_at hj) (by rw [size_of]; omega) HN rfl (Lib.hid fun W _ => refText13 f fs hf hs W) (by rw [size_of]; omega)).mono ?_
      rintro e w1 ⟨rfl, hb⟩
      exact ⟨by rw [str_of (l := Rf.headL 4 ++ Rf.rawT ⟨(4 : Nat), n, f⟩) (by simp [Rf.rawT])], hb⟩
    · have e2 : n = m := by rw [Rf.Rd.mk.injEq] at e; exact e.2.1
      have hl := rf_four m (by omega)
      have e3 : ((j : Int) == 3 || (j : Int) == 8) = true := by simpa using hk
      rw [e3] at HN
      refine (refTxNum16 j n f fs ⟨(Rf.headL j).toArray⟩ ⟨(Lib.itoa n).toArray⟩ w HI hj (headsRC_at hj) (by rw [size_of]; omega) HN (Lib.hid fun W _ => refText n (by omega) (by omega) W) (by rw [size_of, e2]; omega)).mono ?_
      rintro e w1 ⟨rfl, hb⟩
      refine ⟨?_, hb⟩
      rw [str_of (l := Rf.headL j ++ Rf.rawT ⟨j, n, f⟩)]
      unfold Rf.rawT
      rw [if_pos hk]
      simp
    · simp only at hk
      have e3 : ((j : Int) == 3 || (j : Int) == 8) = false := by simp; omega
      have e4 : ((j : Int) == 4) = false := by simp; omega
      rw [e3] at HN
      refine (refTxWord16 j n f fs ⟨(Rf.headL j).toArray⟩ w HI hj (headsRC_at hj) HN e4).mono ?_
      rintro e w1 ⟨rfl, hb⟩
      refine ⟨?_, hb⟩
      have h0 : Rf.rawT ⟨j, n, f⟩ = [] := by
        unfold Rf.rawT
        rw [if_neg (by simp only; omega), if_neg (by simp only; omega)]
      rw [h0, List.append_nil, str_of (l := Rf.headL j) (by simp)]
end Go.Proofs.YtbcgkeclmioeiaaGreatDoor
