/-
  MERGED: FilRText, TgRTab, TgRIsW, TgRef. By an AI agent.
-/
import Derived.Test.YtfliogahkfimbaaGreatDoorFilRefText
import Derived.Test.YtfliogahkfimbaaGreatDoorTgGA
import Derived.Test.YtfliogahkfimbaaGreatDoorTgGC
import Derived.Deep.Cut
import Derived.Test.YtfliogahkfimbaaGreatDoorFilRefIs
namespace Go.Proofs.YtfliogahkfimbaaGreatDoor
open Go.RowKit
open Wd (Bs)

set_option maxRecDepth 100000 in
/-- the reference's Text of any filter -/
theorem refText13 (f : Fil.Flt) (fs : ByteArray) (hf : f.sub = fs.data.toList) (hs : fs.size ≤ maxLen) (w : World) :
    Calls Tryz.prog 27 #[.agg #[.int .i64 f.zone, .int .i64 f.who, .int .i64 f.self, .int .i64 f.types, .int .i64 f.ntypes, .int .i64 f.colors, .int .i64 f.ncolors, .string fs, .int .i64 f.keys, .int .i64 f.tap, .int .i64 f.pow.kind, .int .i64 f.pow.n, .int .i64 f.tough.kind, .int .i64 f.tough.n, .int .i64 f.val.kind, .int .i64 f.val.n]] w fun e w' => e = .returned (str (Fil.textF f)) ∧ Below w.heap.size w w' := by
  cases hvb : Fil.validB f with
  | true =>
    obtain ⟨a, rfl⟩ := acc_of hvb
    exact refTextA a fs hf hvb w
  | false =>
    have HC := Lib.hid (fun W => refIs13 f fs hf hs W)
    have HVB := Lib.hid hvb
    have HT := Lib.hid (Fil.textF_bad hvb)
    have HB : Hid (Below w.heap.size w (w.alloc (.cells #[.int .i64 f.zone, .int .i64 f.who, .int .i64 f.self, .int .i64 f.types, .int .i64 f.ntypes, .int .i64 f.colors, .int .i64 f.ncolors, .string fs, .int .i64 f.keys, .int .i64 f.tap, .int .i64 f.pow.kind, .int .i64 f.pow.n, .int .i64 f.tough.kind, .int .i64 f.tough.n, .int .i64 f.val.kind, .int .i64 f.val.n] 25))) := Lib.hid ((Below.refl _ _).alloc (Nat.le_refl _) _)
    clear hvb hf hs
    go_enter Tryz.func27, Tryz.ntmps27
    go_wp2_with fail
    refine (HC.out _).mono ?_
    rw [HVB.out]
    rintro e w1 ⟨rfl, hb1⟩
    go_wp2_with fail
    go_ret
    exact ⟨by rw [HT.out]; rfl, HB.out.trans (hb1.mono HB.out.size)⟩
end Go.Proofs.YtfliogahkfimbaaGreatDoor
namespace Go.Proofs.YtfliogahkfimbaaGreatDoor
open Go.RowKit
open Wd (Bs)

def wordT18 (k : Int) : Bs := if 1 ≤ k ∧ k ≤ 14 then Tg.headL k.toNat else []

set_option maxHeartbeats 8000000 in
set_option maxRecDepth 100000 in
theorem refWord18 (k : Int) (w : World) : Calls Tryz.prog 20 #[.int .i64 k] w fun e w' => e = .returned (str (wordT18 k)) ∧ Below w.heap.size w w' := by
  by_cases h : k = 1 ∨ k = 2 ∨ k = 3 ∨ k = 4 ∨ k = 5 ∨ k = 6 ∨ k = 7 ∨ k = 8 ∨ k = 9 ∨ k = 10 ∨ k = 11 ∨ k = 12 ∨ k = 13 ∨ k = 14
  · rcases h with rfl | rfl | rfl | rfl | rfl | rfl | rfl | rfl | rfl | rfl | rfl | rfl | rfl | rfl
    all_goals (
      go_enter Tryz.func20, Tryz.ntmps20
      go_wp2_with fail
      go_ret
      exact ⟨rfl, Below.refl _ _⟩)
  · obtain ⟨R, hR⟩ : ∃ R : Value, (str (wordT18 k)) = R := ⟨_, rfl⟩
    have HR : Hid (((.string ⟨#[]⟩) : Value) = R) := Lib.hid (by rw [← hR]; unfold wordT18; rw [if_neg (by omega)]; rfl)
    rw [hR]
    clear hR
    have n1 : (k == 1) = false := by simp; omega
    have n2 : (k == 2) = false := by simp; omega
    have n3 : (k == 3) = false := by simp; omega
    have n4 : (k == 4) = false := by simp; omega
    have n5 : (k == 5) = false := by simp; omega
    have n6 : (k == 6) = false := by simp; omega
    have n7 : (k == 7) = false := by simp; omega
    have n8 : (k == 8) = false := by simp; omega
    have n9 : (k == 9) = false := by simp; omega
    have n10 : (k == 10) = false := by simp; omega
    have n11 : (k == 11) = false := by simp; omega
    have n12 : (k == 12) = false := by simp; omega
    have n13 : (k == 13) = false := by simp; omega
    have n14 : (k == 14) = false := by simp; omega
    clear h
    go_enter Tryz.func20, Tryz.ntmps20
    go_wp2_with fail
    go_ret
    exact ⟨by rw [← HR.out]; rfl, Below.refl _ _⟩

set_option maxHeartbeats 8000000 in
set_option maxRecDepth 100000 in
theorem refHasWho18 (k : Int) (w : World) : Calls Tryz.prog 21 #[.int .i64 k] w fun e w' => e = .returned (.bool (Tg.usesW k)) ∧ Below w.heap.size w w' := by
  by_cases h : k = 8 ∨ k = 9 ∨ k = 10 ∨ k = 11 ∨ k = 12 ∨ k = 13
  · rcases h with rfl | rfl | rfl | rfl | rfl | rfl
    all_goals (
      go_enter Tryz.func21, Tryz.ntmps21
      go_wp2_with fail
      go_ret
      exact ⟨rfl, Below.refl _ _⟩)
  · obtain ⟨R, hR⟩ : ∃ R : Value, (.bool (Tg.usesW k)) = R := ⟨_, rfl⟩
    have HR : Hid (((.bool false) : Value) = R) := Lib.hid (by rw [← hR]; unfold Tg.usesW; rw [decide_eq_false (show ¬ (8 ≤ k ∧ k ≤ 13) by omega)])
    rw [hR]
    clear hR
    have n8 : (k == 8) = false := by simp; omega
    have n9 : (k == 9) = false := by simp; omega
    have n10 : (k == 10) = false := by simp; omega
    have n11 : (k == 11) = false := by simp; omega
    have n12 : (k == 12) = false := by simp; omega
    have n13 : (k == 13) = false := by simp; omega
    clear h
    go_enter Tryz.func21, Tryz.ntmps21
    go_wp2_with fail
    go_ret
    exact ⟨by rw [← HR.out]; rfl, Below.refl _ _⟩

set_option maxHeartbeats 8000000 in
set_option maxRecDepth 100000 in
theorem refWho18 (n : Int) (w : World) : Calls Tryz.prog 12 #[.int .i64 n] w fun e w' => e = .returned (str (Tg.whoT n)) ∧ Below w.heap.size w w' := by
  by_cases h : n = 0 ∨ n = 1 ∨ n = 2
  · rcases h with rfl | rfl | rfl
    all_goals (
      go_enter Tryz.func12, Tryz.ntmps12
      go_wp2_with fail
      go_ret
      exact ⟨rfl, Below.refl _ _⟩)
  · obtain ⟨R, hR⟩ : ∃ R : Value, (str (Tg.whoT n)) = R := ⟨_, rfl⟩
    have HR : Hid (((.string ⟨#[]⟩) : Value) = R) := Lib.hid (by rw [← hR]; unfold Tg.whoT Tg.whoB; rw [decide_eq_false (show ¬ (0 ≤ n ∧ n ≤ 2) by omega), if_neg (by decide)]; rfl)
    rw [hR]
    clear hR
    have n0 : (n == 0) = false := by simp; omega
    have n1 : (n == 1) = false := by simp; omega
    have n2 : (n == 2) = false := by simp; omega
    clear h
    go_enter Tryz.func12, Tryz.ntmps12
    go_wp2_with fail
    go_ret
    exact ⟨by rw [← HR.out]; rfl, Below.refl _ _⟩

set_option maxHeartbeats 8000000 in
set_option maxRecDepth 100000 in
theorem refHasFilIn18 (k : Int) (wk : ByteArray) (R uW we k9 : Bool) (w : World)
    (HW : Hid (∀ W, Below w.heap.size w W → Calls Tryz.prog 20 #[.int .i64 k] W fun e w' => e = .returned (.string wk) ∧ Below W.heap.size W w')) (HO : Hid (∀ W, Below w.heap.size w W → Calls Tryz.prog 21 #[.int .i64 k] W fun e w' => e = .returned (.bool uW) ∧ Below W.heap.size W w')) (hwe : wk.toList.isEmpty = we) (h9 : (k == 9) = k9) (hR : Hid (R = (!we && (!uW || k9)))) :
    Calls Tryz.prog 22 #[.int .i64 k] w fun e w' => e = .returned (.bool R) ∧ Below w.heap.size w w' := by

  have M := Mm.nil w
  go_enter Tryz.func22, Tryz.ntmps22
  go_upto_region 0 with fail
  refine wp_region_lit ?_
  with_reducible refine rA ?_
  cases we with
  | false =>
    cases uW with
    | false =>
      go_upto_region 1 with fail
      refine wp_region_lit ?_
      with_reducible refine rA ?_
      with_reducible refine wC M (HW.out _ M.b) ?_; clear M; intro u M
      (with_reducible refine rB (.bool true) ?_ ?_); (· first | (go_simp; done) | (go_simp; with_reducible rfl) | (go_simp; simp_all))
      iterate 2 (with_reducible refine rA ?_)
      with_reducible refine wC M (HO.out _ M.b) ?_; clear M; intro u M
      iterate 2 (with_reducible refine rA ?_)
      iterate 2 (with_reducible refine kA ?_)
      iterate 3 (with_reducible refine rA ?_)
      go_wp2_with fail
      go_ret
      exact ⟨by rw [hR.out]; rfl, M.b⟩
    | true =>
      go_upto_region 1 with fail
      refine wp_region_lit ?_
      with_reducible refine rA ?_
      with_reducible refine wC M (HW.out _ M.b) ?_; clear M; intro u M
      (with_reducible refine rB (.bool true) ?_ ?_); (· first | (go_simp; done) | (go_simp; with_reducible rfl) | (go_simp; simp_all))
      iterate 2 (with_reducible refine rA ?_)
      with_reducible refine wC M (HO.out _ M.b) ?_; clear M; intro u M
      iterate 7 (with_reducible refine rA ?_)
      go_wp2_with fail
      go_ret
      exact ⟨by rw [hR.out]; rfl, M.b⟩
  | true =>
    go_upto_region 1 with fail
    refine wp_region_lit ?_
    with_reducible refine rA ?_
    with_reducible refine wC M (HW.out _ M.b) ?_; clear M; intro u M
    (with_reducible refine rB (.bool false) ?_ ?_); (· first | (go_simp; done) | (go_simp; with_reducible rfl) | (go_simp; simp_all))
    with_reducible refine rA ?_
    iterate 7 (with_reducible refine kA ?_)
    iterate 2 (with_reducible refine rA ?_)
    go_wp2_with fail
    go_ret
    exact ⟨by rw [hR.out]; rfl, M.b⟩

theorem Tg.candF_no {s : Bs} {k n : Nat} (h : Tg.usesF k = false) : Tg.candF s k n = Fil.zero := by unfold Tg.candF; rw [h]; rfl
theorem Tg.candF_short {s bg : ByteArray} {k n : Nat} (hb : bg.data.toList = Tg.beginL k n) (h : ¬ bg.size < s.size) : Tg.candF s.data.toList k n = Fil.zero := by
  unfold Tg.candF
  rw [← hb]
  have e : decide (bg.data.toList.length < s.data.toList.length) = false := decide_eq_false (by simpa using h)
  rw [e]
  simp
theorem sz1 : (⟨#[32]⟩ : ByteArray).size = 1 := rfl
theorem sz2 : (⟨#[32, 40]⟩ : ByteArray).size = 2 := rfl
theorem take_bytes (s bg : ByteArray) : ((s.extract 0 bg.size).toList == bg.toList) = (s.data.toList.take bg.data.toList.length == bg.data.toList) := by
  rw [Lib.toList_data, Lib.toList_data, extract_take, show bg.data.toList.length = bg.size by simp]
theorem Tg.candF_pre {s bg : ByteArray} {k n : Nat} (hb : bg.data.toList = Tg.beginL k n) (h : ((s.extract 0 bg.size).toList == bg.toList) = false) : Tg.candF s.data.toList k n = Fil.zero := by
  unfold Tg.candF
  rw [← hb]
  rw [take_bytes] at h
  rw [h]
  simp
theorem Tg.candF_yes {s bg m : ByteArray} {k n : Nat} (hF : Tg.usesF k = true) (hb : bg.data.toList = Tg.beginL k n) (hl : bg.size < s.size) (h : ((s.extract 0 bg.size).toList == bg.toList) = true) (hm : m = s.extract bg.size (s.size - 1)) : Tg.candF s.data.toList k n = Fil.parseV m.data.toList := by
  unfold Tg.candF
  rw [← hb]
  rw [take_bytes] at h
  have e : decide (bg.data.toList.length < s.data.toList.length) = true := decide_eq_true (by simpa using hl)
  rw [hF, e, h, hm, extract_slice, show bg.data.toList.length = bg.size by simp, show s.data.toList.length = s.size by simp]
  rfl
theorem parseV_subT (s : Bs) : (Fil.parseV s).sub.length ≤ 32 := by
  rcases Fil.parse_cases s with ⟨h, _⟩ | ⟨g, h1, _, h3, _⟩
  · rw [h]; decide
  · rw [h3]; exact sub_len (Fil.valid_of h1).sub
end Go.Proofs.YtfliogahkfimbaaGreatDoor
namespace Go.Proofs.YtfliogahkfimbaaGreatDoor
open Go.RowKit
open Wd (Bs)

set_option maxHeartbeats 8000000 in
set_option maxRecDepth 100000 in
theorem refIsIn18 (k n : Int) (f : Fil.Flt) (fs : ByteArray) (wk : ByteArray) (R uW uF we nl ng n0 e0 vF z0 z5 k9 : Bool) (w : World)
    (HW : Hid (∀ W, Below w.heap.size w W → Calls Tryz.prog 20 #[.int .i64 k] W fun e w' => e = .returned (.string wk) ∧ Below W.heap.size W w')) (HO : Hid (∀ W, Below w.heap.size w W → Calls Tryz.prog 21 #[.int .i64 k] W fun e w' => e = .returned (.bool uW) ∧ Below W.heap.size W w')) (HH : Hid (∀ W, Below w.heap.size w W → Calls Tryz.prog 22 #[.int .i64 k] W fun e w' => e = .returned (.bool uF) ∧ Below W.heap.size W w')) (hwe : wk.toList.isEmpty = we) (hnl : decide (n < 0) = nl) (hng : decide (2 < n) = ng) (h0 : (n == 0) = n0) (h9 : (k == 9) = k9) (HE : ∀ W : World, (Op.equalIn 10000 25 (.agg (cellsF f fs)) (.agg cellsZ)).run Tryz.prog W = .ok e0 W) (HF : Hid (∀ W, Below w.heap.size w W → Calls Tryz.prog 23 #[.agg (cellsF f fs)] W fun e w' => e = .returned (.bool vF) ∧ Below W.heap.size W w')) (hz0 : (f.zone == 0) = z0) (hz5 : (f.zone == 5) = z5) (hR : Hid (R = (!(we || (nl || (ng || (!uW && !n0)))) && (if uF then vF && (if k9 then z5 else z0) else e0)))) :
    Calls Tryz.prog 10 #[.agg (tG k n (cellsF f fs))] w fun e w' => e = .returned (.bool R) ∧ Below w.heap.size w w' := by

  have M := Mm.nil w
  go_enter Tryz.func10, Tryz.ntmps10
  go_upto_region 0 with fail
  refine wp_region_lit ?_
  with_reducible refine wA (tG k n (cellsF f fs)) M ?_; clear M; intro pB1 u M; refine ⟨_, by (simp only [pu, sB, s0, sS]; rfl), ?_⟩
  with_reducible refine rA ?_
  cases we with
  | false =>
    cases nl with
    | false =>
      cases ng with
      | false =>
        cases uW with
        | false =>
          go_upto_region 1 with fail
          refine wp_region_lit ?_
          with_reducible refine rA ?_
          with_reducible refine wLv 0 M tG_0 Tryz.underlying3 ?_
          with_reducible refine wC M (HW.out _ M.b) ?_; clear M; intro u M
          iterate 3 (with_reducible refine rA ?_)
          with_reducible refine wLv 0 M tG_1 Tryz.underlying3 ?_
          iterate 4 (with_reducible refine rA ?_)
          with_reducible refine wLv 0 M tG_1 Tryz.underlying3 ?_
          iterate 4 (with_reducible refine rA ?_)
          with_reducible refine wLv 0 M tG_0 Tryz.underlying3 ?_
          with_reducible refine wC M (HO.out _ M.b) ?_; clear M; intro u M
          iterate 3 (with_reducible refine rA ?_)
          with_reducible refine wLv 0 M tG_1 Tryz.underlying3 ?_
          iterate 3 (with_reducible refine rA ?_)
          cases n0 with
          | false =>
            go_upto_region 2 with fail
            refine wp_region_lit ?_
            with_reducible refine rA ?_
            go_wp2_with fail
            go_ret
            exact ⟨by rw [hR.out]; rfl, M.b⟩
          | true =>
            go_upto_region 3 with fail
            refine wp_region_lit ?_
            with_reducible refine rA ?_
            with_reducible refine wLv 0 M tG_0 Tryz.underlying3 ?_
            with_reducible refine wC M (HH.out _ M.b) ?_; clear M; intro u M
            with_reducible refine rA ?_
            cases uF with
            | false =>
              go_upto_region 4 with fail
              refine wp_region_lit ?_
              with_reducible refine rA ?_
              with_reducible refine wL 0 M tG_f Tryz.underlying25 (infoTF16 (cellsF_size f fs)) ?_
              (with_reducible refine rB (.agg cellsZ) ?_ ?_); (· go_simp; rfl)
              iterate 2 (with_reducible refine rA ?_)
              go_wp2_with fail
              go_ret
              exact ⟨by rw [hR.out]; rfl, M.b⟩
            | true =>
              go_upto_region 5 with fail
              refine wp_region_lit ?_
              with_reducible refine rA ?_
              go_upto_region 6 with fail
              refine wp_region_lit ?_
              with_reducible refine rA ?_
              with_reducible refine wLv 0 M tG_0 Tryz.underlying3 ?_
              with_reducible refine rA ?_
              cases k9 with
              | false =>
                cases vF with
                | false =>
                  go_upto_region 8 with fail
                  refine wp_region_lit ?_
                  with_reducible refine rA ?_
                  with_reducible refine wL 0 M tG_f Tryz.underlying25 (infoTF16 (cellsF_size f fs)) ?_
                  with_reducible refine wC M (HF.out _ M.b) ?_; clear M; intro u M
                  with_reducible refine rA ?_
                  iterate 5 (with_reducible refine kA ?_)
                  iterate 2 (with_reducible refine rA ?_)
                  go_wp2_with fail
                  go_ret
                  exact ⟨by rw [hR.out]; rfl, M.b⟩
                | true =>
                  go_upto_region 8 with fail
                  refine wp_region_lit ?_
                  with_reducible refine rA ?_
                  with_reducible refine wL 0 M tG_f Tryz.underlying25 (infoTF16 (cellsF_size f fs)) ?_
                  with_reducible refine wC M (HF.out _ M.b) ?_; clear M; intro u M
                  iterate 3 (with_reducible refine rA ?_)
                  with_reducible refine wLv 0 M (show ((tG k n (cellsF f fs)))[2]? = some (.int .i64 f.zone) from (tG_f 0 _ rfl)) Tryz.underlying3 ?_
                  iterate 4 (with_reducible refine rA ?_)
                  go_wp2_with fail
                  go_ret
                  exact ⟨by rw [hR.out]; rfl, M.b⟩
              | true =>
                go_upto_region 7 with fail
                refine wp_region_lit ?_
                with_reducible refine rA ?_
                cases vF with
                | false =>
                  go_upto_region 8 with fail
                  refine wp_region_lit ?_
                  with_reducible refine rA ?_
                  with_reducible refine wL 0 M tG_f Tryz.underlying25 (infoTF16 (cellsF_size f fs)) ?_
                  with_reducible refine wC M (HF.out _ M.b) ?_; clear M; intro u M
                  with_reducible refine rA ?_
                  iterate 5 (with_reducible refine kA ?_)
                  iterate 2 (with_reducible refine rA ?_)
                  go_wp2_with fail
                  go_ret
                  exact ⟨by rw [hR.out]; rfl, M.b⟩
                | true =>
                  go_upto_region 8 with fail
                  refine wp_region_lit ?_
                  with_reducible refine rA ?_
                  with_reducible refine wL 0 M tG_f Tryz.underlying25 (infoTF16 (cellsF_size f fs)) ?_
                  with_reducible refine wC M (HF.out _ M.b) ?_; clear M; intro u M
                  iterate 3 (with_reducible refine rA ?_)
                  with_reducible refine wLv 0 M (show ((tG k n (cellsF f fs)))[2]? = some (.int .i64 f.zone) from (tG_f 0 _ rfl)) Tryz.underlying3 ?_
                  iterate 4 (with_reducible refine rA ?_)
                  go_wp2_with fail
                  go_ret
                  exact ⟨by rw [hR.out]; rfl, M.b⟩
        | true =>
          go_upto_region 1 with fail
          refine wp_region_lit ?_
          with_reducible refine rA ?_
          with_reducible refine wLv 0 M tG_0 Tryz.underlying3 ?_
          with_reducible refine wC M (HW.out _ M.b) ?_; clear M; intro u M
          iterate 3 (with_reducible refine rA ?_)
          with_reducible refine wLv 0 M tG_1 Tryz.underlying3 ?_
          iterate 4 (with_reducible refine rA ?_)
          with_reducible refine wLv 0 M tG_1 Tryz.underlying3 ?_
          iterate 4 (with_reducible refine rA ?_)
          with_reducible refine wLv 0 M tG_0 Tryz.underlying3 ?_
          with_reducible refine wC M (HO.out _ M.b) ?_; clear M; intro u M
          iterate 2 (with_reducible refine rA ?_)
          iterate 3 (with_reducible refine kA ?_)
          iterate 2 (with_reducible refine rA ?_)
          go_upto_region 3 with fail
          refine wp_region_lit ?_
          with_reducible refine rA ?_
          with_reducible refine wLv 0 M tG_0 Tryz.underlying3 ?_
          with_reducible refine wC M (HH.out _ M.b) ?_; clear M; intro u M
          with_reducible refine rA ?_
          cases uF with
          | false =>
            go_upto_region 4 with fail
            refine wp_region_lit ?_
            with_reducible refine rA ?_
            with_reducible refine wL 0 M tG_f Tryz.underlying25 (infoTF16 (cellsF_size f fs)) ?_
            (with_reducible refine rB (.agg cellsZ) ?_ ?_); (· go_simp; rfl)
            iterate 2 (with_reducible refine rA ?_)
            go_wp2_with fail
            go_ret
            exact ⟨by rw [hR.out]; rfl, M.b⟩
          | true =>
            go_upto_region 5 with fail
            refine wp_region_lit ?_
            with_reducible refine rA ?_
            go_upto_region 6 with fail
            refine wp_region_lit ?_
            with_reducible refine rA ?_
            with_reducible refine wLv 0 M tG_0 Tryz.underlying3 ?_
            with_reducible refine rA ?_
            cases k9 with
            | false =>
              cases vF with
              | false =>
                go_upto_region 8 with fail
                refine wp_region_lit ?_
                with_reducible refine rA ?_
                with_reducible refine wL 0 M tG_f Tryz.underlying25 (infoTF16 (cellsF_size f fs)) ?_
                with_reducible refine wC M (HF.out _ M.b) ?_; clear M; intro u M
                with_reducible refine rA ?_
                iterate 5 (with_reducible refine kA ?_)
                iterate 2 (with_reducible refine rA ?_)
                go_wp2_with fail
                go_ret
                exact ⟨by rw [hR.out]; rfl, M.b⟩
              | true =>
                go_upto_region 8 with fail
                refine wp_region_lit ?_
                with_reducible refine rA ?_
                with_reducible refine wL 0 M tG_f Tryz.underlying25 (infoTF16 (cellsF_size f fs)) ?_
                with_reducible refine wC M (HF.out _ M.b) ?_; clear M; intro u M
                iterate 3 (with_reducible refine rA ?_)
                with_reducible refine wLv 0 M (show ((tG k n (cellsF f fs)))[2]? = some (.int .i64 f.zone) from (tG_f 0 _ rfl)) Tryz.underlying3 ?_
                iterate 4 (with_reducible refine rA ?_)
                go_wp2_with fail
                go_ret
                exact ⟨by rw [hR.out]; rfl, M.b⟩
            | true =>
              go_upto_region 7 with fail
              refine wp_region_lit ?_
              with_reducible refine rA ?_
              cases vF with
              | false =>
                go_upto_region 8 with fail
                refine wp_region_lit ?_
                with_reducible refine rA ?_
                with_reducible refine wL 0 M tG_f Tryz.underlying25 (infoTF16 (cellsF_size f fs)) ?_
                with_reducible refine wC M (HF.out _ M.b) ?_; clear M; intro u M
                with_reducible refine rA ?_
                iterate 5 (with_reducible refine kA ?_)
                iterate 2 (with_reducible refine rA ?_)
                go_wp2_with fail
                go_ret
                exact ⟨by rw [hR.out]; rfl, M.b⟩
              | true =>
                go_upto_region 8 with fail
                refine wp_region_lit ?_
                with_reducible refine rA ?_
                with_reducible refine wL 0 M tG_f Tryz.underlying25 (infoTF16 (cellsF_size f fs)) ?_
                with_reducible refine wC M (HF.out _ M.b) ?_; clear M; intro u M
                iterate 3 (with_reducible refine rA ?_)
                with_reducible refine wLv 0 M (show ((tG k n (cellsF f fs)))[2]? = some (.int .i64 f.zone) from (tG_f 0 _ rfl)) Tryz.underlying3 ?_
                iterate 4 (with_reducible refine rA ?_)
                go_wp2_with fail
                go_ret
                exact ⟨by rw [hR.out]; rfl, M.b⟩
      | true =>
        go_upto_region 1 with fail
        refine wp_region_lit ?_
        with_reducible refine rA ?_
        with_reducible refine wLv 0 M tG_0 Tryz.underlying3 ?_
        with_reducible refine wC M (HW.out _ M.b) ?_; clear M; intro u M
        iterate 3 (with_reducible refine rA ?_)
        with_reducible refine wLv 0 M tG_1 Tryz.underlying3 ?_
        iterate 4 (with_reducible refine rA ?_)
        with_reducible refine wLv 0 M tG_1 Tryz.underlying3 ?_
        iterate 3 (with_reducible refine rA ?_)
        iterate 9 (with_reducible refine kA ?_)
        with_reducible refine rA ?_
        go_upto_region 2 with fail
        refine wp_region_lit ?_
        with_reducible refine rA ?_
        go_wp2_with fail
        go_ret
        exact ⟨by rw [hR.out]; rfl, M.b⟩
    | true =>
      go_upto_region 1 with fail
      refine wp_region_lit ?_
      with_reducible refine rA ?_
      with_reducible refine wLv 0 M tG_0 Tryz.underlying3 ?_
      with_reducible refine wC M (HW.out _ M.b) ?_; clear M; intro u M
      iterate 3 (with_reducible refine rA ?_)
      with_reducible refine wLv 0 M tG_1 Tryz.underlying3 ?_
      iterate 3 (with_reducible refine rA ?_)
      iterate 3 (with_reducible refine kA ?_)
      iterate 2 (with_reducible refine rA ?_)
      iterate 9 (with_reducible refine kA ?_)
      with_reducible refine rA ?_
      go_upto_region 2 with fail
      refine wp_region_lit ?_
      with_reducible refine rA ?_
      go_wp2_with fail
      go_ret
      exact ⟨by rw [hR.out]; rfl, M.b⟩
  | true =>
    go_upto_region 1 with fail
    refine wp_region_lit ?_
    with_reducible refine rA ?_
    with_reducible refine wLv 0 M tG_0 Tryz.underlying3 ?_
    with_reducible refine wC M (HW.out _ M.b) ?_; clear M; intro u M
    iterate 2 (with_reducible refine rA ?_)
    iterate 3 (with_reducible refine kA ?_)
    iterate 2 (with_reducible refine rA ?_)
    iterate 3 (with_reducible refine kA ?_)
    iterate 2 (with_reducible refine rA ?_)
    iterate 9 (with_reducible refine kA ?_)
    with_reducible refine rA ?_
    go_upto_region 2 with fail
    refine wp_region_lit ?_
    with_reducible refine rA ?_
    go_wp2_with fail
    go_ret
    exact ⟨by rw [hR.out]; rfl, M.b⟩

set_option maxHeartbeats 8000000 in
set_option maxRecDepth 100000 in
theorem refTextBad18 (k n : Int) (f : Fil.Flt) (fs : ByteArray) (w : World)
    (HI : Hid (∀ W, Below w.heap.size w W → Calls Tryz.prog 10 #[.agg (tG k n (cellsF f fs))] W fun e w' => e = .returned (.bool false) ∧ Below W.heap.size W w')) :
    Calls Tryz.prog 14 #[.agg (tG k n (cellsF f fs))] w fun e w' => e = .returned (.string ⟨#[]⟩) ∧ Below w.heap.size w w' := by

  have M := Mm.nil w
  go_enter Tryz.func14, Tryz.ntmps14
  go_upto_region 0 with fail
  refine wp_region_lit ?_
  with_reducible refine wA (tG k n (cellsF f fs)) M ?_; clear M; intro pB1 u M; refine ⟨_, by (simp only [pu, sB, s0, sS]; rfl), ?_⟩
  with_reducible refine rA ?_
  go_upto_region 1 with fail
  refine wp_region_lit ?_
  with_reducible refine wL 0 M whole_part Tryz.underlying27 (infoTTg18 (tG_sz (cellsF_size f fs))) ?_
  with_reducible refine wC M (HI.out _ M.b) ?_; clear M; intro u M
  with_reducible refine rA ?_
  go_upto_region 2 with fail
  refine wp_region_lit ?_
  with_reducible refine rA ?_
  go_wp2_with fail
  go_ret
  exact ⟨rfl, M.b⟩

set_option maxHeartbeats 8000000 in
set_option maxRecDepth 100000 in
theorem refTextOk18 (k n : Int) (f : Fil.Flt) (fs : ByteArray) (wk tw tF R : ByteArray) (uW uF : Bool) (w : World)
    (HI : Hid (∀ W, Below w.heap.size w W → Calls Tryz.prog 10 #[.agg (tG k n (cellsF f fs))] W fun e w' => e = .returned (.bool true) ∧ Below W.heap.size W w')) (HW : Hid (∀ W, Below w.heap.size w W → Calls Tryz.prog 20 #[.int .i64 k] W fun e w' => e = .returned (.string wk) ∧ Below W.heap.size W w')) (HO : Hid (∀ W, Below w.heap.size w W → Calls Tryz.prog 21 #[.int .i64 k] W fun e w' => e = .returned (.bool uW) ∧ Below W.heap.size W w')) (HH : Hid (∀ W, Below w.heap.size w W → Calls Tryz.prog 22 #[.int .i64 k] W fun e w' => e = .returned (.bool uF) ∧ Below W.heap.size W w')) (HWT : Hid (∀ W, Below w.heap.size w W → Calls Tryz.prog 12 #[.int .i64 n] W fun e w' => e = .returned (.string tw) ∧ Below W.heap.size W w')) (HT : Hid (∀ W, Below w.heap.size w W → Calls Tryz.prog 27 #[.agg (cellsF f fs)] W fun e w' => e = .returned (.string tF) ∧ Below W.heap.size W w')) (hs : wk.size ≤ 1000) (ht : tw.size ≤ 1000) (he : tF.size ≤ 1000000) (hR : Hid (R = if uW then (if uF then wk ++ ⟨#[32]⟩ ++ tw ++ ⟨#[32, 40]⟩ ++ tF ++ ⟨#[41]⟩ else wk ++ ⟨#[32]⟩ ++ tw) else if uF then wk ++ ⟨#[32, 40]⟩ ++ tF ++ ⟨#[41]⟩ else wk)) :
    Calls Tryz.prog 14 #[.agg (tG k n (cellsF f fs))] w fun e w' => e = .returned (.string R) ∧ Below w.heap.size w w' := by

  have M := Mm.nil w
  go_enter Tryz.func14, Tryz.ntmps14
  go_upto_region 0 with fail
  refine wp_region_lit ?_
  with_reducible refine wA (tG k n (cellsF f fs)) M ?_; clear M; intro pB1 u M; refine ⟨_, by (simp only [pu, sB, s0, sS]; rfl), ?_⟩
  with_reducible refine rA ?_
  go_upto_region 1 with fail
  refine wp_region_lit ?_
  with_reducible refine wL 0 M whole_part Tryz.underlying27 (infoTTg18 (tG_sz (cellsF_size f fs))) ?_
  with_reducible refine wC M (HI.out _ M.b) ?_; clear M; intro u M
  with_reducible refine rA ?_
  go_upto_region 3 with fail
  refine wp_region_lit ?_
  with_reducible refine rA ?_
  with_reducible refine wLv 0 M tG_0 Tryz.underlying3 ?_
  with_reducible refine wC M (HW.out _ M.b) ?_; clear M; intro u M
  with_reducible refine rA ?_
  go_upto_region 4 with fail
  refine wp_region_lit ?_
  with_reducible refine rA ?_
  with_reducible refine wLv 0 M tG_0 Tryz.underlying3 ?_
  with_reducible refine wC M (HO.out _ M.b) ?_; clear M; intro u M
  cases uW with
  | false =>
    go_upto_region 6 with fail
    refine wp_region_lit ?_
    with_reducible refine rA ?_
    with_reducible refine wLv 0 M tG_0 Tryz.underlying3 ?_
    with_reducible refine wC M (HH.out _ M.b) ?_; clear M; intro u M
    cases uF with
    | false =>
      go_upto_region 8 with fail
      refine wp_region_lit ?_
      iterate 2 (with_reducible refine rA ?_)
      go_wp2_with fail
      go_ret
      exact ⟨by rw [hR.out]; rfl, M.b⟩
    | true =>
      go_upto_region 7 with fail
      refine wp_region_lit ?_
      with_reducible refine rA ?_
      (with_reducible refine rB (.string (wk ++ ⟨#[32, 40]⟩)) ?_ ?_); (· go_simp; omega)
      with_reducible refine rA ?_
      with_reducible refine wL 0 M tG_f Tryz.underlying25 (infoTF16 (cellsF_size f fs)) ?_
      with_reducible refine wC M (HT.out _ M.b) ?_; clear M; intro u M
      (with_reducible refine rB (.string ((wk ++ ⟨#[32, 40]⟩) ++ tF)) ?_ ?_); (· go_simp; omega)
      (with_reducible refine rB (.string (((wk ++ ⟨#[32, 40]⟩) ++ tF) ++ ⟨#[41]⟩)) ?_ ?_); (· go_simp; omega)
      with_reducible refine rA ?_
      go_upto_region 8 with fail
      refine wp_region_lit ?_
      iterate 2 (with_reducible refine rA ?_)
      go_wp2_with fail
      go_ret
      exact ⟨by rw [hR.out]; rfl, M.b⟩
  | true =>
    go_upto_region 5 with fail
    refine wp_region_lit ?_
    with_reducible refine rA ?_
    (with_reducible refine rB (.string (wk ++ ⟨#[32]⟩)) ?_ ?_); (· go_simp; omega)
    with_reducible refine rA ?_
    with_reducible refine wLv 0 M tG_1 Tryz.underlying3 ?_
    with_reducible refine wC M (HWT.out _ M.b) ?_; clear M; intro u M
    (with_reducible refine rB (.string ((wk ++ ⟨#[32]⟩) ++ tw)) ?_ ?_); (· go_simp; omega)
    with_reducible refine rA ?_
    go_upto_region 6 with fail
    refine wp_region_lit ?_
    with_reducible refine rA ?_
    with_reducible refine wLv 0 M tG_0 Tryz.underlying3 ?_
    with_reducible refine wC M (HH.out _ M.b) ?_; clear M; intro u M
    cases uF with
    | false =>
      go_upto_region 8 with fail
      refine wp_region_lit ?_
      iterate 2 (with_reducible refine rA ?_)
      go_wp2_with fail
      go_ret
      exact ⟨by rw [hR.out]; rfl, M.b⟩
    | true =>
      go_upto_region 7 with fail
      refine wp_region_lit ?_
      with_reducible refine rA ?_
      (with_reducible refine rB (.string (((wk ++ ⟨#[32]⟩) ++ tw) ++ ⟨#[32, 40]⟩)) ?_ ?_); (· go_simp; omega)
      with_reducible refine rA ?_
      with_reducible refine wL 0 M tG_f Tryz.underlying25 (infoTF16 (cellsF_size f fs)) ?_
      with_reducible refine wC M (HT.out _ M.b) ?_; clear M; intro u M
      (with_reducible refine rB (.string ((((wk ++ ⟨#[32]⟩) ++ tw) ++ ⟨#[32, 40]⟩) ++ tF)) ?_ ?_); (· go_simp; omega)
      (with_reducible refine rB (.string (((((wk ++ ⟨#[32]⟩) ++ tw) ++ ⟨#[32, 40]⟩) ++ tF) ++ ⟨#[41]⟩)) ?_ ?_); (· go_simp; omega)
      with_reducible refine rA ?_
      go_upto_region 8 with fail
      refine wp_region_lit ?_
      iterate 2 (with_reducible refine rA ?_)
      go_wp2_with fail
      go_ret
      exact ⟨by rw [hR.out]; rfl, M.b⟩
end Go.Proofs.YtfliogahkfimbaaGreatDoor
namespace Go.Proofs.YtfliogahkfimbaaGreatDoor
open Go.RowKit
open Wd (Bs)

theorem wordT_empty (k : Int) : (wordT18 k).isEmpty = !(Tg.usesW k || Tg.usesF k) := by
  unfold wordT18
  by_cases h : 1 ≤ k ∧ k ≤ 14
  · rw [if_pos h, Tg.heads_some k.toNat (by omega) (by omega)]
    have hu : (Tg.usesW k || Tg.usesF k) = true := by
      simp only [Tg.usesW, Tg.usesF, Bool.or_eq_true, decide_eq_true_eq]; omega
    rw [hu]
    rfl
  · rw [if_neg h]
    have hu : (Tg.usesW k || Tg.usesF k) = false := by
      rw [Bool.or_eq_false_iff]
      simp only [Tg.usesW, Tg.usesF, decide_eq_false_iff_not]; omega
    rw [hu]
    rfl
theorem refHasFil18 (k : Int) (w : World) : Calls Tryz.prog 22 #[.int .i64 k] w fun e w' => e = .returned (.bool (Tg.usesF k)) ∧ Below w.heap.size w w' := by
  refine refHasFilIn18 k ⟨(wordT18 k).toArray⟩ (Tg.usesF k) (Tg.usesW k) (!(Tg.usesW k || Tg.usesF k)) (decide (k = 9)) w (Lib.hid fun W _ => refWord18 k W) (Lib.hid fun W _ => refHasWho18 k W) (by rw [Lib.toList_data]; exact wordT_empty k) (by rw [Bool.eq_iff_iff]; simp) (Lib.hid ?_)
  rw [Bool.eq_iff_iff]
  simp only [Tg.usesW, Tg.usesF, Bool.not_not, Bool.and_eq_true, Bool.or_eq_true, decide_eq_true_eq, Bool.not_eq_true', decide_eq_false_iff_not]
  omega
theorem refIs18 (k n : Int) (f : Fil.Flt) (fs : ByteArray) (hf : f.sub = fs.data.toList) (hs : fs.size ≤ maxLen) (w : World) :
    Calls Tryz.prog 10 #[.agg (tG k n (cellsF f fs))] w fun e w' => e = .returned (.bool (Tg.okB ⟨k, n, f⟩)) ∧ Below w.heap.size w w' := by
  refine refIsIn18 k n f fs ⟨(wordT18 k).toArray⟩ (Tg.okB ⟨k, n, f⟩) (Tg.usesW k) (Tg.usesF k) (!(Tg.usesW k || Tg.usesF k)) (decide (n < 0)) (decide (2 < n)) (decide (n = 0)) (decide (f = Fil.zero)) (Fil.validB f) (decide (f.zone = 0)) (decide (f.zone = 5)) (decide (k = 9)) w (Lib.hid fun W _ => refWord18 k W) (Lib.hid fun W _ => refHasWho18 k W) (Lib.hid fun W _ => refHasFil18 k W) (by rw [Lib.toList_data]; exact wordT_empty k) rfl rfl (by rw [Bool.eq_iff_iff]; simp) (by rw [Bool.eq_iff_iff]; simp) (eqF_zero f fs hf) (Lib.hid fun W _ => refIs13 f fs hf hs W) (by rw [Bool.eq_iff_iff]; simp) (by rw [Bool.eq_iff_iff]; simp) (Lib.hid ?_)
  unfold Tg.okB Tg.whoB Tg.zoneK
  simp only
  cases Tg.usesW k <;> cases Tg.usesF k <;> by_cases h9 : k = 9 <;> simp [h9] <;> (try (rw [Bool.eq_iff_iff]; simp; try omega))
theorem refText18 (k n : Int) (f : Fil.Flt) (fs : ByteArray) (hf : f.sub = fs.data.toList) (hs : fs.size ≤ maxLen) (w : World) :
    Calls Tryz.prog 14 #[.agg (tG k n (cellsF f fs))] w fun e w' => e = .returned (str (Tg.textT ⟨k, n, f⟩)) ∧ Below w.heap.size w w' := by
  have HI : Hid (∀ W, Below w.heap.size w W → _) := Lib.hid fun W _ => refIs18 k n f fs hf hs W
  cases hv : Tg.okB ⟨k, n, f⟩ with
  | false =>
    rw [hv] at HI
    refine (refTextBad18 k n f fs w HI).mono ?_
    rintro e w1 ⟨rfl, hb⟩
    exact ⟨by rw [Tg.textT_bad hv]; rfl, hb⟩
  | true =>
    rw [hv] at HI
    have hr := Tg.ok_parts hv
    simp only at hr
    obtain ⟨j, rfl⟩ : ∃ j : Nat, k = (j : Int) := ⟨k.toNat, by omega⟩
    have hj : j < 15 := by omega
    have hw : wordT18 (j : Int) = Tg.headL j := by unfold wordT18; rw [if_pos (by omega)]; rfl
    have hl := textF_len4 f
    refine (refTextOk18 j n f fs ⟨(Tg.headL j).toArray⟩ ⟨(Tg.whoT n).toArray⟩ ⟨(Fil.textF f).toArray⟩ _ (Tg.usesW j) (Tg.usesF j) w HI (Lib.hid fun W _ => ?_) (Lib.hid fun W _ => refHasWho18 j W) (Lib.hid fun W _ => refHasFil18 j W) (Lib.hid fun W _ => refWho18 n W) (Lib.hid fun W _ => refText13 f fs hf hs W)
      (by rw [size_of]; have := heads_lenT j hj; omega) (by rw [size_of]; have := whoT_len n; omega) (by rw [size_of]; omega) (Lib.hid rfl)).mono ?_
    · have := refWord18 (j : Int) W
      rw [hw] at this
      exact this
    rintro e w1 ⟨rfl, hb⟩
    refine ⟨?_, hb⟩
    rw [Tg.textT_ok hv]
    refine congrArg Ending.returned (str_of ?_)
    unfold Tg.raw Tg.partF
    cases hW : Tg.usesW j with
    | false =>
      cases hF : Tg.usesF j with
      | false => simp
      | true => simp [(hr.2.2.2.2.2.2 hF).1]
    | true =>
      cases hF : Tg.usesF j with
      | false => simp
      | true => simp [(hr.2.2.2.2.2.2 hF).1]
end Go.Proofs.YtfliogahkfimbaaGreatDoor
