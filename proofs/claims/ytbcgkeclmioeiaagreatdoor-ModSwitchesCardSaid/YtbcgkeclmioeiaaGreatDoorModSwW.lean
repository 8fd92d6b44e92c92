/-
  WALK OF LAYER 15's LAW Switches (mod). By an AI agent.
-/
import Derived.Test.YtbcgkeclmioeiaaGreatDoorSwGH
import Derived.Test.YtbcgkeclmioeiaaGreatDoorSwGA
import Derived.Deep.Cut
namespace Go.Proofs.YtbcgkeclmioeiaaGreatDoor
open Go.RowKit
open Wd (Bs)

theorem trV_12 {x : TrD} {sv av : Value} (h : Part 50 7 x.co) : (trV x sv av)[12]? = some (.int .i64 x.p) := by unfold trV; exact trC_12 h
theorem trV_13 {x : TrD} {sv av : Value} (h : Part 50 7 x.co) : (trV x sv av)[13]? = some (.int .i64 x.t) := by unfold trV; exact trC_13 h

set_option maxHeartbeats 8000000 in
set_option maxRecDepth 100000 in
theorem swFew (x : TrD) (sv av : Value) (k n m : Int) (s : ByteArray) (f : Fil.Flt) (fs : ByteArray) (you cnt : Int) (w : World)
    (ok : Part 50 7 x.co) (HL : Hid (∀ W, Below w.heap.size w W → Calls Tryz.prog 20 #[] W fun e w' => e = .returned (.bool true) ∧ Below W.heap.size W w')) (HFW : Hid (∀ W, Below w.heap.size w W → Calls Tryz.prog 28 #[.agg (trV x sv av)] W fun e w' => e = .returned (.bool false) ∧ Below W.heap.size W w')) :
    Calls Tryz.prog 11 #[.agg (trV x sv av), .agg (mO k n m s (cellsF f fs)), .agg #[.int .i64 you, .int .i64 cnt]] w fun e w' => e = .returned (.bool true) ∧ Below w.heap.size w w' := by

  have M := Mm.nil w
  go_enter Tryz.func11, Tryz.ntmps11
  go_upto_region 0 with fail
  refine wp_region_lit ?_
  with_reducible refine wA (trV x sv av) M ?_; clear M; intro pT u M; refine ⟨_, by (simp only [pu, sB, s0, sS]; rfl), ?_⟩
  with_reducible refine wA (mO k n m s (cellsF f fs)) M ?_; clear M; intro pO u M; refine ⟨_, by (simp only [pu, sB, s0, sS]; rfl), ?_⟩
  with_reducible refine wA #[.int .i64 you, .int .i64 cnt] M ?_; clear M; intro pN u M; refine ⟨_, by (simp only [pu, sB, s0, sS]; rfl), ?_⟩
  with_reducible refine rA ?_
  go_upto_region 1 with fail
  refine wp_region_still_tail 5 (by kernel_rfl) (by kernel_rfl) ?_
  simp only [List.take_succ_cons, List.take_zero, List.drop_succ_cons, List.drop_zero]
  replace M := M.drew
  change wpStill _ _ (World.drew _) (fun a' => wpList _ _ _ _ a' (World.drew _)) _ _
  generalize World.drew _ = u at M ⊢
  (with_reducible refine sBt (.pointer (some ⟨pN, 0, none⟩)) ?_ ?_); (· go_simp; (try rfl))
  with_reducible refine sLv 2 M (show (#[.int .i64 you, .int .i64 cnt])[0]? = some (.int .i64 you) from rfl) Tryz.underlying3 ?_
  (with_reducible refine sBt (.pointer (some ⟨pN, 1, none⟩)) ?_ ?_); (· go_simp; (try rfl))
  with_reducible refine sLv 2 M (show (#[.int .i64 you, .int .i64 cnt])[1]? = some (.int .i64 cnt) from rfl) Tryz.underlying3 ?_
  with_reducible refine sA ?_
  refine sEnd ?_
  show wpList _ _ _ _ _ u
  with_reducible refine rA ?_
  go_upto_region 2 with fail
  refine wp_region_lit ?_
  with_reducible refine wL 0 M whole_part Tryz.underlying56 (szTr (trV_sz ok)) ?_
  with_reducible refine wC M (HFW.out _ M.b) ?_; clear M; intro u M
  iterate 2 (with_reducible refine rA ?_)
  iterate 3 (with_reducible refine kA ?_)
  with_reducible refine rA ?_
  go_upto_region 3 with fail
  refine wp_region_lit ?_
  with_reducible refine wC M (HL.out _ M.b) ?_; clear M; intro u M
  with_reducible refine rA ?_
  go_wp2_with fail
  go_ret
  exact ⟨rfl, M.b⟩

set_option maxHeartbeats 8000000 in
set_option maxRecDepth 100000 in
theorem swShort (x : TrD) (sv av : Value) (k n m : Int) (s : ByteArray) (f : Fil.Flt) (fs : ByteArray) (you cnt : Int) (w : World)
    (ok : Part 50 7 x.co) (HL : Hid (∀ W, Below w.heap.size w W → Calls Tryz.prog 20 #[] W fun e w' => e = .returned (.bool true) ∧ Below W.heap.size W w')) (HFW : Hid (∀ W, Below w.heap.size w W → Calls Tryz.prog 28 #[.agg (trV x sv av)] W fun e w' => e = .returned (.bool true) ∧ Below W.heap.size W w')) (HSH : Hid (∀ W, Below w.heap.size w W → Calls Tryz.prog 23 #[.agg (mO k n m s (cellsF f fs))] W fun e w' => e = .returned (.bool false) ∧ Below W.heap.size W w')) :
    Calls Tryz.prog 11 #[.agg (trV x sv av), .agg (mO k n m s (cellsF f fs)), .agg #[.int .i64 you, .int .i64 cnt]] w fun e w' => e = .returned (.bool true) ∧ Below w.heap.size w w' := by

  have M := Mm.nil w
  go_enter Tryz.func11, Tryz.ntmps11
  go_upto_region 0 with fail
  refine wp_region_lit ?_
  with_reducible refine wA (trV x sv av) M ?_; clear M; intro pT u M; refine ⟨_, by (simp only [pu, sB, s0, sS]; rfl), ?_⟩
  with_reducible refine wA (mO k n m s (cellsF f fs)) M ?_; clear M; intro pO u M; refine ⟨_, by (simp only [pu, sB, s0, sS]; rfl), ?_⟩
  with_reducible refine wA #[.int .i64 you, .int .i64 cnt] M ?_; clear M; intro pN u M; refine ⟨_, by (simp only [pu, sB, s0, sS]; rfl), ?_⟩
  with_reducible refine rA ?_
  go_upto_region 1 with fail
  refine wp_region_still_tail 5 (by kernel_rfl) (by kernel_rfl) ?_
  simp only [List.take_succ_cons, List.take_zero, List.drop_succ_cons, List.drop_zero]
  replace M := M.drew
  change wpStill _ _ (World.drew _) (fun a' => wpList _ _ _ _ a' (World.drew _)) _ _
  generalize World.drew _ = u at M ⊢
  (with_reducible refine sBt (.pointer (some ⟨pN, 0, none⟩)) ?_ ?_); (· go_simp; (try rfl))
  with_reducible refine sLv 2 M (show (#[.int .i64 you, .int .i64 cnt])[0]? = some (.int .i64 you) from rfl) Tryz.underlying3 ?_
  (with_reducible refine sBt (.pointer (some ⟨pN, 1, none⟩)) ?_ ?_); (· go_simp; (try rfl))
  with_reducible refine sLv 2 M (show (#[.int .i64 you, .int .i64 cnt])[1]? = some (.int .i64 cnt) from rfl) Tryz.underlying3 ?_
  with_reducible refine sA ?_
  refine sEnd ?_
  show wpList _ _ _ _ _ u
  with_reducible refine rA ?_
  go_upto_region 2 with fail
  refine wp_region_lit ?_
  with_reducible refine wL 0 M whole_part Tryz.underlying56 (szTr (trV_sz ok)) ?_
  with_reducible refine wC M (HFW.out _ M.b) ?_; clear M; intro u M
  iterate 2 (with_reducible refine rA ?_)
  with_reducible refine wL 1 M whole_part Tryz.underlying39 (infoTMo20 (mO_sz (cellsF_size f fs))) ?_
  with_reducible refine wC M (HSH.out _ M.b) ?_; clear M; intro u M
  iterate 2 (with_reducible refine rA ?_)
  go_upto_region 3 with fail
  refine wp_region_lit ?_
  with_reducible refine wC M (HL.out _ M.b) ?_; clear M; intro u M
  with_reducible refine rA ?_
  go_wp2_with fail
  go_ret
  exact ⟨rfl, M.b⟩

set_option maxHeartbeats 8000000 in
set_option maxRecDepth 100000 in
theorem swBad (x x1 x2 : TrD) (sv av : Value) (k n m : Int) (s : ByteArray) (f : Fil.Flt) (fs : ByteArray) (you cnt : Int) (w : World)
    (ok : Part 50 7 x.co) (ok1 : Part 50 7 x1.co) (ok2 : Part 50 7 x2.co) (HL : Hid (∀ W, Below w.heap.size w W → Calls Tryz.prog 20 #[] W fun e w' => e = .returned (.bool true) ∧ Below W.heap.size W w')) (HFW : Hid (∀ W, Below w.heap.size w W → Calls Tryz.prog 28 #[.agg (trV x sv av)] W fun e w' => e = .returned (.bool true) ∧ Below W.heap.size W w')) (HSH : Hid (∀ W, Below w.heap.size w W → Calls Tryz.prog 23 #[.agg (mO k n m s (cellsF f fs))] W fun e w' => e = .returned (.bool true) ∧ Below W.heap.size W w')) (HA1 : Hid (∀ W, Below w.heap.size w W → Calls Tryz.prog 30 #[.agg (trV x sv av), .agg (mO k n m s (cellsF f fs)), .int .i64 you, .int .i64 cnt] W fun e w' => (∃ s3 a3, e = .returned (.agg (trV x1 s3 a3)) ∧ Strs w' s3 x1.subs ∧ AbRow none w' a3 x1.abs) ∧ Below W.heap.size W w')) (HA2 : Hid (∀ W s2 a2, Below w.heap.size w W → Strs W s2 x1.subs → AbRow none W a2 x1.abs → Calls Tryz.prog 30 #[.agg (trV x1 s2 a2), .agg (mO k n m s (cellsF f fs)), .int .i64 you, .int .i64 cnt] W fun e w' => (∃ s3 a3, e = .returned (.agg (trV x2 s3 a3)) ∧ Strs w' s3 x2.subs ∧ AbRow none w' a3 x2.abs) ∧ Below W.heap.size W w')) (HI : Hid (∀ W, Below w.heap.size w W → Calls Tryz.prog 32 #[.agg (mO k n m s (cellsF f fs))] W fun e w' => e = .returned (.bool false) ∧ Below W.heap.size W w')) (HS : Hid (∀ W s2 a2, Below w.heap.size w W → Strs W s2 x1.subs → AbRow none W a2 x1.abs → Calls Tryz.prog 29 #[.agg (trV x1 s2 a2), .agg (trV x sv av)] W fun e w' => e = .returned (.bool true) ∧ Below W.heap.size W w')) :
    Calls Tryz.prog 11 #[.agg (trV x sv av), .agg (mO k n m s (cellsF f fs)), .agg #[.int .i64 you, .int .i64 cnt]] w fun e w' => e = .returned (.bool true) ∧ Below w.heap.size w w' := by

  have M := Mm.nil w
  go_enter Tryz.func11, Tryz.ntmps11
  go_upto_region 0 with fail
  refine wp_region_lit ?_
  with_reducible refine wA (trV x sv av) M ?_; clear M; intro pT u M; refine ⟨_, by (simp only [pu, sB, s0, sS]; rfl), ?_⟩
  with_reducible refine wA (mO k n m s (cellsF f fs)) M ?_; clear M; intro pO u M; refine ⟨_, by (simp only [pu, sB, s0, sS]; rfl), ?_⟩
  with_reducible refine wA #[.int .i64 you, .int .i64 cnt] M ?_; clear M; intro pN u M; refine ⟨_, by (simp only [pu, sB, s0, sS]; rfl), ?_⟩
  with_reducible refine rA ?_
  go_upto_region 1 with fail
  refine wp_region_still_tail 5 (by kernel_rfl) (by kernel_rfl) ?_
  simp only [List.take_succ_cons, List.take_zero, List.drop_succ_cons, List.drop_zero]
  replace M := M.drew
  change wpStill _ _ (World.drew _) (fun a' => wpList _ _ _ _ a' (World.drew _)) _ _
  generalize World.drew _ = u at M ⊢
  (with_reducible refine sBt (.pointer (some ⟨pN, 0, none⟩)) ?_ ?_); (· go_simp; (try rfl))
  with_reducible refine sLv 2 M (show (#[.int .i64 you, .int .i64 cnt])[0]? = some (.int .i64 you) from rfl) Tryz.underlying3 ?_
  (with_reducible refine sBt (.pointer (some ⟨pN, 1, none⟩)) ?_ ?_); (· go_simp; (try rfl))
  with_reducible refine sLv 2 M (show (#[.int .i64 you, .int .i64 cnt])[1]? = some (.int .i64 cnt) from rfl) Tryz.underlying3 ?_
  with_reducible refine sA ?_
  refine sEnd ?_
  show wpList _ _ _ _ _ u
  with_reducible refine rA ?_
  go_upto_region 2 with fail
  refine wp_region_lit ?_
  with_reducible refine wL 0 M whole_part Tryz.underlying56 (szTr (trV_sz ok)) ?_
  with_reducible refine wC M (HFW.out _ M.b) ?_; clear M; intro u M
  iterate 2 (with_reducible refine rA ?_)
  with_reducible refine wL 1 M whole_part Tryz.underlying39 (infoTMo20 (mO_sz (cellsF_size f fs))) ?_
  with_reducible refine wC M (HSH.out _ M.b) ?_; clear M; intro u M
  iterate 2 (with_reducible refine rA ?_)
  go_upto_region 4 with fail
  refine wp_region_lit ?_
  with_reducible refine wL 0 M whole_part Tryz.underlying56 (szTr (trV_sz ok)) ?_
  with_reducible refine wL 1 M whole_part Tryz.underlying39 (infoTMo20 (mO_sz (cellsF_size f fs))) ?_
  iterate 2 (with_reducible refine rA ?_)
  with_reducible refine wCx M (HA1.out _ M.b) ?_; clear M; rintro e u1 ⟨s2, a2, rfl, hs2, ha2⟩ hb M
  have S2 := Lib.hid hs2
  have A2 := Lib.hid ha2
  have so2 : s2.oneCell' = true := hs2.oneCell
  have ao2 : a2.oneCell' = true := ha2.oneCell
  have N1 := Below.refl u1.heap.size u1
  clear hs2 ha2
  refine ⟨_, _, rfl, by (simp only [pu, sB, s0, sS]; rfl), ?_⟩
  clear hb
  (with_reducible refine wAb zTr.cells (T := 56) M ?_ (hr := ?_)); rotate_left; (· exact run_allocOp rfl infoTr zeroTr); clear M; intro pP u hb hp M; refine ⟨_, by (simp only [pu, sB, s0, sS]; rfl), ?_⟩
  have GN1P := Nat.le_trans N1.size hp
  replace N1 := N1.trans (hb.mono N1.size)
  clear hb
  clear hp
  with_reducible refine wSb 3 M (laid_all (trV_sz ok1) zTr_cells) (szTr (trV_sz ok1)) (trV_one ok1 so2 ao2) (fit_2 zTr_cells (trV_sz ok1) (by decide)) ?_; clear M; intro u hst M
  replace N1 := hst _ _ N1 GN1P
  clear hst
  go_upto_region 5 with fail
  refine wp_region_lit ?_
  with_reducible refine wL 3 M whole_part Tryz.underlying56 (szTr (trV_sz ok1)) ?_
  with_reducible refine wL 1 M whole_part Tryz.underlying39 (infoTMo20 (mO_sz (cellsF_size f fs))) ?_
  iterate 2 (with_reducible refine rA ?_)
  with_reducible refine wCx M (HA2.out _ s2 a2 M.b (S2.out.below N1 (Nat.le_refl _)) (A2.out.below N1 (Nat.le_refl _))) ?_; clear M; rintro e u2 ⟨s3, a3, rfl, hs3, ha3⟩ hb M
  replace N1 := N1.trans (hb.mono N1.size)
  have S3 := Lib.hid hs3
  have A3 := Lib.hid ha3
  have so3 : s3.oneCell' = true := hs3.oneCell
  have ao3 : a3.oneCell' = true := ha3.oneCell
  have N2 := Below.refl u2.heap.size u2
  clear hs3 ha3
  refine ⟨_, _, rfl, by (simp only [pu, sB, s0, sS]; rfl), ?_⟩
  clear hb
  (with_reducible refine wAb zTr.cells (T := 56) M ?_ (hr := ?_)); rotate_left; (· exact run_allocOp rfl infoTr zeroTr); clear M; intro pQ u hb hp M; refine ⟨_, by (simp only [pu, sB, s0, sS]; rfl), ?_⟩
  have GN1Q := Nat.le_trans N1.size hp
  have GN2Q := Nat.le_trans N2.size hp
  replace N1 := N1.trans (hb.mono N1.size)
  replace N2 := N2.trans (hb.mono N2.size)
  clear hb
  clear hp
  with_reducible refine wSb 4 M (laid_all (trV_sz ok2) zTr_cells) (szTr (trV_sz ok2)) (trV_one ok2 so3 ao3) (fit_2 zTr_cells (trV_sz ok2) (by decide)) ?_; clear M; intro u hst M
  replace N1 := hst _ _ N1 GN1Q
  replace N2 := hst _ _ N2 GN2Q
  clear hst
  go_upto_region 6 with fail
  refine wp_region_lit ?_
  with_reducible refine wL 1 M whole_part Tryz.underlying39 (infoTMo20 (mO_sz (cellsF_size f fs))) ?_
  with_reducible refine wCb M (HI.out _ M.b) ?_; clear M; intro u hb M
  replace N1 := N1.trans (hb.mono N1.size)
  replace N2 := N2.trans (hb.mono N2.size)
  clear hb
  with_reducible refine rA ?_
  go_upto_region 7 with fail
  refine wp_region_lit ?_
  with_reducible refine wL 3 M whole_part Tryz.underlying56 (szTr (trV_sz ok1)) ?_
  with_reducible refine wL 0 M whole_part Tryz.underlying56 (szTr (trV_sz ok)) ?_
  with_reducible refine wCb M (HS.out _ s2 a2 M.b (S2.out.below N1 (Nat.le_refl _)) (A2.out.below N1 (Nat.le_refl _))) ?_; clear M; intro u hb M
  replace N1 := N1.trans (hb.mono N1.size)
  replace N2 := N2.trans (hb.mono N2.size)
  clear hb
  with_reducible refine rA ?_
  with_reducible refine wCb M (HL.out _ M.b) ?_; clear M; intro u hb M
  replace N1 := N1.trans (hb.mono N1.size)
  replace N2 := N2.trans (hb.mono N2.size)
  clear hb
  iterate 2 (with_reducible refine rA ?_)
  go_wp2_with fail
  go_ret
  exact ⟨rfl, M.b⟩

set_option maxHeartbeats 8000000 in
set_option maxRecDepth 100000 in
theorem swSwitch (x x1 x2 : TrD) (sv av : Value) (k n m : Int) (s : ByteArray) (f : Fil.Flt) (fs : ByteArray) (you cnt : Int) (w : World)
    (ok : Part 50 7 x.co) (ok1 : Part 50 7 x1.co) (ok2 : Part 50 7 x2.co) (HL : Hid (∀ W, Below w.heap.size w W → Calls Tryz.prog 20 #[] W fun e w' => e = .returned (.bool true) ∧ Below W.heap.size W w')) (HFW : Hid (∀ W, Below w.heap.size w W → Calls Tryz.prog 28 #[.agg (trV x sv av)] W fun e w' => e = .returned (.bool true) ∧ Below W.heap.size W w')) (HSH : Hid (∀ W, Below w.heap.size w W → Calls Tryz.prog 23 #[.agg (mO k n m s (cellsF f fs))] W fun e w' => e = .returned (.bool true) ∧ Below W.heap.size W w')) (HA1 : Hid (∀ W, Below w.heap.size w W → Calls Tryz.prog 30 #[.agg (trV x sv av), .agg (mO k n m s (cellsF f fs)), .int .i64 you, .int .i64 cnt] W fun e w' => (∃ s3 a3, e = .returned (.agg (trV x1 s3 a3)) ∧ Strs w' s3 x1.subs ∧ AbRow none w' a3 x1.abs) ∧ Below W.heap.size W w')) (HA2 : Hid (∀ W s2 a2, Below w.heap.size w W → Strs W s2 x1.subs → AbRow none W a2 x1.abs → Calls Tryz.prog 30 #[.agg (trV x1 s2 a2), .agg (mO k n m s (cellsF f fs)), .int .i64 you, .int .i64 cnt] W fun e w' => (∃ s3 a3, e = .returned (.agg (trV x2 s3 a3)) ∧ Strs w' s3 x2.subs ∧ AbRow none w' a3 x2.abs) ∧ Below W.heap.size W w')) (HI : Hid (∀ W, Below w.heap.size w W → Calls Tryz.prog 32 #[.agg (mO k n m s (cellsF f fs))] W fun e w' => e = .returned (.bool true) ∧ Below W.heap.size W w')) (hk : (k == 14) = true) (hp : (x1.p == x.t) = true) (ht : (x1.t == x.p) = true) (HS : Hid (∀ W s3 a3, Below w.heap.size w W → Strs W s3 x2.subs → AbRow none W a3 x2.abs → Calls Tryz.prog 29 #[.agg (trV x2 s3 a3), .agg (trV x sv av)] W fun e w' => e = .returned (.bool true) ∧ Below W.heap.size W w')) :
    Calls Tryz.prog 11 #[.agg (trV x sv av), .agg (mO k n m s (cellsF f fs)), .agg #[.int .i64 you, .int .i64 cnt]] w fun e w' => e = .returned (.bool true) ∧ Below w.heap.size w w' := by

  have M := Mm.nil w
  go_enter Tryz.func11, Tryz.ntmps11
  go_upto_region 0 with fail
  refine wp_region_lit ?_
  with_reducible refine wA (trV x sv av) M ?_; clear M; intro pT u M; refine ⟨_, by (simp only [pu, sB, s0, sS]; rfl), ?_⟩
  with_reducible refine wA (mO k n m s (cellsF f fs)) M ?_; clear M; intro pO u M; refine ⟨_, by (simp only [pu, sB, s0, sS]; rfl), ?_⟩
  with_reducible refine wA #[.int .i64 you, .int .i64 cnt] M ?_; clear M; intro pN u M; refine ⟨_, by (simp only [pu, sB, s0, sS]; rfl), ?_⟩
  with_reducible refine rA ?_
  go_upto_region 1 with fail
  refine wp_region_still_tail 5 (by kernel_rfl) (by kernel_rfl) ?_
  simp only [List.take_succ_cons, List.take_zero, List.drop_succ_cons, List.drop_zero]
  replace M := M.drew
  change wpStill _ _ (World.drew _) (fun a' => wpList _ _ _ _ a' (World.drew _)) _ _
  generalize World.drew _ = u at M ⊢
  (with_reducible refine sBt (.pointer (some ⟨pN, 0, none⟩)) ?_ ?_); (· go_simp; (try rfl))
  with_reducible refine sLv 2 M (show (#[.int .i64 you, .int .i64 cnt])[0]? = some (.int .i64 you) from rfl) Tryz.underlying3 ?_
  (with_reducible refine sBt (.pointer (some ⟨pN, 1, none⟩)) ?_ ?_); (· go_simp; (try rfl))
  with_reducible refine sLv 2 M (show (#[.int .i64 you, .int .i64 cnt])[1]? = some (.int .i64 cnt) from rfl) Tryz.underlying3 ?_
  with_reducible refine sA ?_
  refine sEnd ?_
  show wpList _ _ _ _ _ u
  with_reducible refine rA ?_
  go_upto_region 2 with fail
  refine wp_region_lit ?_
  with_reducible refine wL 0 M whole_part Tryz.underlying56 (szTr (trV_sz ok)) ?_
  with_reducible refine wC M (HFW.out _ M.b) ?_; clear M; intro u M
  iterate 2 (with_reducible refine rA ?_)
  with_reducible refine wL 1 M whole_part Tryz.underlying39 (infoTMo20 (mO_sz (cellsF_size f fs))) ?_
  with_reducible refine wC M (HSH.out _ M.b) ?_; clear M; intro u M
  iterate 2 (with_reducible refine rA ?_)
  go_upto_region 4 with fail
  refine wp_region_lit ?_
  with_reducible refine wL 0 M whole_part Tryz.underlying56 (szTr (trV_sz ok)) ?_
  with_reducible refine wL 1 M whole_part Tryz.underlying39 (infoTMo20 (mO_sz (cellsF_size f fs))) ?_
  iterate 2 (with_reducible refine rA ?_)
  with_reducible refine wCx M (HA1.out _ M.b) ?_; clear M; rintro e u1 ⟨s2, a2, rfl, hs2, ha2⟩ hb M
  have S2 := Lib.hid hs2
  have A2 := Lib.hid ha2
  have so2 : s2.oneCell' = true := hs2.oneCell
  have ao2 : a2.oneCell' = true := ha2.oneCell
  have N1 := Below.refl u1.heap.size u1
  clear hs2 ha2
  refine ⟨_, _, rfl, by (simp only [pu, sB, s0, sS]; rfl), ?_⟩
  clear hb
  (with_reducible refine wAb zTr.cells (T := 56) M ?_ (hr := ?_)); rotate_left; (· exact run_allocOp rfl infoTr zeroTr); clear M; intro pP u hb hp M; refine ⟨_, by (simp only [pu, sB, s0, sS]; rfl), ?_⟩
  have GN1P := Nat.le_trans N1.size hp
  replace N1 := N1.trans (hb.mono N1.size)
  clear hb
  clear hp
  with_reducible refine wSb 3 M (laid_all (trV_sz ok1) zTr_cells) (szTr (trV_sz ok1)) (trV_one ok1 so2 ao2) (fit_2 zTr_cells (trV_sz ok1) (by decide)) ?_; clear M; intro u hst M
  replace N1 := hst _ _ N1 GN1P
  clear hst
  go_upto_region 5 with fail
  refine wp_region_lit ?_
  with_reducible refine wL 3 M whole_part Tryz.underlying56 (szTr (trV_sz ok1)) ?_
  with_reducible refine wL 1 M whole_part Tryz.underlying39 (infoTMo20 (mO_sz (cellsF_size f fs))) ?_
  iterate 2 (with_reducible refine rA ?_)
  with_reducible refine wCx M (HA2.out _ s2 a2 M.b (S2.out.below N1 (Nat.le_refl _)) (A2.out.below N1 (Nat.le_refl _))) ?_; clear M; rintro e u2 ⟨s3, a3, rfl, hs3, ha3⟩ hb M
  replace N1 := N1.trans (hb.mono N1.size)
  have S3 := Lib.hid hs3
  have A3 := Lib.hid ha3
  have so3 : s3.oneCell' = true := hs3.oneCell
  have ao3 : a3.oneCell' = true := ha3.oneCell
  have N2 := Below.refl u2.heap.size u2
  clear hs3 ha3
  refine ⟨_, _, rfl, by (simp only [pu, sB, s0, sS]; rfl), ?_⟩
  clear hb
  (with_reducible refine wAb zTr.cells (T := 56) M ?_ (hr := ?_)); rotate_left; (· exact run_allocOp rfl infoTr zeroTr); clear M; intro pQ u hb hp M; refine ⟨_, by (simp only [pu, sB, s0, sS]; rfl), ?_⟩
  have GN1Q := Nat.le_trans N1.size hp
  have GN2Q := Nat.le_trans N2.size hp
  replace N1 := N1.trans (hb.mono N1.size)
  replace N2 := N2.trans (hb.mono N2.size)
  clear hb
  clear hp
  with_reducible refine wSb 4 M (laid_all (trV_sz ok2) zTr_cells) (szTr (trV_sz ok2)) (trV_one ok2 so3 ao3) (fit_2 zTr_cells (trV_sz ok2) (by decide)) ?_; clear M; intro u hst M
  replace N1 := hst _ _ N1 GN1Q
  replace N2 := hst _ _ N2 GN2Q
  clear hst
  go_upto_region 6 with fail
  refine wp_region_lit ?_
  with_reducible refine wL 1 M whole_part Tryz.underlying39 (infoTMo20 (mO_sz (cellsF_size f fs))) ?_
  with_reducible refine wCb M (HI.out _ M.b) ?_; clear M; intro u hb M
  replace N1 := N1.trans (hb.mono N1.size)
  replace N2 := N2.trans (hb.mono N2.size)
  clear hb
  with_reducible refine rA ?_
  go_upto_region 8 with fail
  refine wp_region_lit ?_
  with_reducible refine rA ?_
  with_reducible refine wLv 1 M mO_0 Tryz.underlying3 ?_
  with_reducible refine rA ?_
  go_upto_region 9 with fail
  refine wp_region_lit ?_
  with_reducible refine rA ?_
  with_reducible refine wLv 3 M (show ((trV x1 s2 a2))[12]? = some (.int .i64 x1.p) from trV_12 ok1) Tryz.underlying3 ?_
  with_reducible refine rA ?_
  with_reducible refine wLv 0 M (show ((trV x sv av))[13]? = some (.int .i64 x.t) from trV_13 ok) Tryz.underlying3 ?_
  (with_reducible refine rB (.bool true) ?_ ?_); (· go_simp; (try simpa using hp))
  iterate 2 (with_reducible refine rA ?_)
  with_reducible refine wLv 3 M (show ((trV x1 s2 a2))[13]? = some (.int .i64 x1.t) from trV_13 ok1) Tryz.underlying3 ?_
  with_reducible refine rA ?_
  with_reducible refine wLv 0 M (show ((trV x sv av))[12]? = some (.int .i64 x.p) from trV_12 ok) Tryz.underlying3 ?_
  (with_reducible refine rB (.bool true) ?_ ?_); (· go_simp; (try simpa using ht))
  iterate 2 (with_reducible refine rA ?_)
  with_reducible refine wL 4 M whole_part Tryz.underlying56 (szTr (trV_sz ok2)) ?_
  with_reducible refine wL 0 M whole_part Tryz.underlying56 (szTr (trV_sz ok)) ?_
  with_reducible refine wCb M (HS.out _ s3 a3 M.b (S3.out.below N2 (Nat.le_refl _)) (A3.out.below N2 (Nat.le_refl _))) ?_; clear M; intro u hb M
  replace N1 := N1.trans (hb.mono N1.size)
  replace N2 := N2.trans (hb.mono N2.size)
  clear hb
  iterate 2 (with_reducible refine rA ?_)
  with_reducible refine wCb M (HL.out _ M.b) ?_; clear M; intro u hb M
  replace N1 := N1.trans (hb.mono N1.size)
  replace N2 := N2.trans (hb.mono N2.size)
  clear hb
  iterate 2 (with_reducible refine rA ?_)
  go_wp2_with fail
  go_ret
  exact ⟨rfl, M.b⟩

set_option maxHeartbeats 8000000 in
set_option maxRecDepth 100000 in
theorem swAdd (x x1 x2 : TrD) (sv av : Value) (k n m : Int) (s : ByteArray) (f : Fil.Flt) (fs : ByteArray) (you cnt : Int) (w : World)
    (ok : Part 50 7 x.co) (ok1 : Part 50 7 x1.co) (ok2 : Part 50 7 x2.co) (HL : Hid (∀ W, Below w.heap.size w W → Calls Tryz.prog 20 #[] W fun e w' => e = .returned (.bool true) ∧ Below W.heap.size W w')) (HFW : Hid (∀ W, Below w.heap.size w W → Calls Tryz.prog 28 #[.agg (trV x sv av)] W fun e w' => e = .returned (.bool true) ∧ Below W.heap.size W w')) (HSH : Hid (∀ W, Below w.heap.size w W → Calls Tryz.prog 23 #[.agg (mO k n m s (cellsF f fs))] W fun e w' => e = .returned (.bool true) ∧ Below W.heap.size W w')) (HA1 : Hid (∀ W, Below w.heap.size w W → Calls Tryz.prog 30 #[.agg (trV x sv av), .agg (mO k n m s (cellsF f fs)), .int .i64 you, .int .i64 cnt] W fun e w' => (∃ s3 a3, e = .returned (.agg (trV x1 s3 a3)) ∧ Strs w' s3 x1.subs ∧ AbRow none w' a3 x1.abs) ∧ Below W.heap.size W w')) (HA2 : Hid (∀ W s2 a2, Below w.heap.size w W → Strs W s2 x1.subs → AbRow none W a2 x1.abs → Calls Tryz.prog 30 #[.agg (trV x1 s2 a2), .agg (mO k n m s (cellsF f fs)), .int .i64 you, .int .i64 cnt] W fun e w' => (∃ s3 a3, e = .returned (.agg (trV x2 s3 a3)) ∧ Strs w' s3 x2.subs ∧ AbRow none w' a3 x2.abs) ∧ Below W.heap.size W w')) (HI : Hid (∀ W, Below w.heap.size w W → Calls Tryz.prog 32 #[.agg (mO k n m s (cellsF f fs))] W fun e w' => e = .returned (.bool true) ∧ Below W.heap.size W w')) (hk : (k == 14) = false) (hk3 : (k == 13) = true) :
    Calls Tryz.prog 11 #[.agg (trV x sv av), .agg (mO k n m s (cellsF f fs)), .agg #[.int .i64 you, .int .i64 cnt]] w fun e w' => e = .returned (.bool true) ∧ Below w.heap.size w w' := by

  have M := Mm.nil w
  go_enter Tryz.func11, Tryz.ntmps11
  go_upto_region 0 with fail
  refine wp_region_lit ?_
  with_reducible refine wA (trV x sv av) M ?_; clear M; intro pT u M; refine ⟨_, by (simp only [pu, sB, s0, sS]; rfl), ?_⟩
  with_reducible refine wA (mO k n m s (cellsF f fs)) M ?_; clear M; intro pO u M; refine ⟨_, by (simp only [pu, sB, s0, sS]; rfl), ?_⟩
  with_reducible refine wA #[.int .i64 you, .int .i64 cnt] M ?_; clear M; intro pN u M; refine ⟨_, by (simp only [pu, sB, s0, sS]; rfl), ?_⟩
  with_reducible refine rA ?_
  go_upto_region 1 with fail
  refine wp_region_still_tail 5 (by kernel_rfl) (by kernel_rfl) ?_
  simp only [List.take_succ_cons, List.take_zero, List.drop_succ_cons, List.drop_zero]
  replace M := M.drew
  change wpStill _ _ (World.drew _) (fun a' => wpList _ _ _ _ a' (World.drew _)) _ _
  generalize World.drew _ = u at M ⊢
  (with_reducible refine sBt (.pointer (some ⟨pN, 0, none⟩)) ?_ ?_); (· go_simp; (try rfl))
  with_reducible refine sLv 2 M (show (#[.int .i64 you, .int .i64 cnt])[0]? = some (.int .i64 you) from rfl) Tryz.underlying3 ?_
  (with_reducible refine sBt (.pointer (some ⟨pN, 1, none⟩)) ?_ ?_); (· go_simp; (try rfl))
  with_reducible refine sLv 2 M (show (#[.int .i64 you, .int .i64 cnt])[1]? = some (.int .i64 cnt) from rfl) Tryz.underlying3 ?_
  with_reducible refine sA ?_
  refine sEnd ?_
  show wpList _ _ _ _ _ u
  with_reducible refine rA ?_
  go_upto_region 2 with fail
  refine wp_region_lit ?_
  with_reducible refine wL 0 M whole_part Tryz.underlying56 (szTr (trV_sz ok)) ?_
  with_reducible refine wC M (HFW.out _ M.b) ?_; clear M; intro u M
  iterate 2 (with_reducible refine rA ?_)
  with_reducible refine wL 1 M whole_part Tryz.underlying39 (infoTMo20 (mO_sz (cellsF_size f fs))) ?_
  with_reducible refine wC M (HSH.out _ M.b) ?_; clear M; intro u M
  iterate 2 (with_reducible refine rA ?_)
  go_upto_region 4 with fail
  refine wp_region_lit ?_
  with_reducible refine wL 0 M whole_part Tryz.underlying56 (szTr (trV_sz ok)) ?_
  with_reducible refine wL 1 M whole_part Tryz.underlying39 (infoTMo20 (mO_sz (cellsF_size f fs))) ?_
  iterate 2 (with_reducible refine rA ?_)
  with_reducible refine wCx M (HA1.out _ M.b) ?_; clear M; rintro e u1 ⟨s2, a2, rfl, hs2, ha2⟩ hb M
  have S2 := Lib.hid hs2
  have A2 := Lib.hid ha2
  have so2 : s2.oneCell' = true := hs2.oneCell
  have ao2 : a2.oneCell' = true := ha2.oneCell
  have N1 := Below.refl u1.heap.size u1
  clear hs2 ha2
  refine ⟨_, _, rfl, by (simp only [pu, sB, s0, sS]; rfl), ?_⟩
  clear hb
  (with_reducible refine wAb zTr.cells (T := 56) M ?_ (hr := ?_)); rotate_left; (· exact run_allocOp rfl infoTr zeroTr); clear M; intro pP u hb hp M; refine ⟨_, by (simp only [pu, sB, s0, sS]; rfl), ?_⟩
  have GN1P := Nat.le_trans N1.size hp
  replace N1 := N1.trans (hb.mono N1.size)
  clear hb
  clear hp
  with_reducible refine wSb 3 M (laid_all (trV_sz ok1) zTr_cells) (szTr (trV_sz ok1)) (trV_one ok1 so2 ao2) (fit_2 zTr_cells (trV_sz ok1) (by decide)) ?_; clear M; intro u hst M
  replace N1 := hst _ _ N1 GN1P
  clear hst
  go_upto_region 5 with fail
  refine wp_region_lit ?_
  with_reducible refine wL 3 M whole_part Tryz.underlying56 (szTr (trV_sz ok1)) ?_
  with_reducible refine wL 1 M whole_part Tryz.underlying39 (infoTMo20 (mO_sz (cellsF_size f fs))) ?_
  iterate 2 (with_reducible refine rA ?_)
  with_reducible refine wCx M (HA2.out _ s2 a2 M.b (S2.out.below N1 (Nat.le_refl _)) (A2.out.below N1 (Nat.le_refl _))) ?_; clear M; rintro e u2 ⟨s3, a3, rfl, hs3, ha3⟩ hb M
  replace N1 := N1.trans (hb.mono N1.size)
  have S3 := Lib.hid hs3
  have A3 := Lib.hid ha3
  have so3 : s3.oneCell' = true := hs3.oneCell
  have ao3 : a3.oneCell' = true := ha3.oneCell
  have N2 := Below.refl u2.heap.size u2
  clear hs3 ha3
  refine ⟨_, _, rfl, by (simp only [pu, sB, s0, sS]; rfl), ?_⟩
  clear hb
  (with_reducible refine wAb zTr.cells (T := 56) M ?_ (hr := ?_)); rotate_left; (· exact run_allocOp rfl infoTr zeroTr); clear M; intro pQ u hb hp M; refine ⟨_, by (simp only [pu, sB, s0, sS]; rfl), ?_⟩
  have GN1Q := Nat.le_trans N1.size hp
  have GN2Q := Nat.le_trans N2.size hp
  replace N1 := N1.trans (hb.mono N1.size)
  replace N2 := N2.trans (hb.mono N2.size)
  clear hb
  clear hp
  with_reducible refine wSb 4 M (laid_all (trV_sz ok2) zTr_cells) (szTr (trV_sz ok2)) (trV_one ok2 so3 ao3) (fit_2 zTr_cells (trV_sz ok2) (by decide)) ?_; clear M; intro u hst M
  replace N1 := hst _ _ N1 GN1Q
  replace N2 := hst _ _ N2 GN2Q
  clear hst
  go_upto_region 6 with fail
  refine wp_region_lit ?_
  with_reducible refine wL 1 M whole_part Tryz.underlying39 (infoTMo20 (mO_sz (cellsF_size f fs))) ?_
  with_reducible refine wCb M (HI.out _ M.b) ?_; clear M; intro u hb M
  replace N1 := N1.trans (hb.mono N1.size)
  replace N2 := N2.trans (hb.mono N2.size)
  clear hb
  with_reducible refine rA ?_
  go_upto_region 8 with fail
  refine wp_region_lit ?_
  with_reducible refine rA ?_
  with_reducible refine wLv 1 M mO_0 Tryz.underlying3 ?_
  with_reducible refine rA ?_
  go_upto_region 10 with fail
  refine wp_region_lit ?_
  with_reducible refine rA ?_
  with_reducible refine wLv 1 M mO_0 Tryz.underlying3 ?_
  iterate 2 (with_reducible refine rA ?_)
  iterate 3 (with_reducible refine kA ?_)
  iterate 2 (with_reducible refine rA ?_)
  with_reducible refine wCb M (HL.out _ M.b) ?_; clear M; intro u hb M
  replace N1 := N1.trans (hb.mono N1.size)
  replace N2 := N2.trans (hb.mono N2.size)
  clear hb
  iterate 2 (with_reducible refine rA ?_)
  go_wp2_with fail
  go_ret
  exact ⟨rfl, M.b⟩

set_option maxHeartbeats 8000000 in
set_option maxRecDepth 100000 in
theorem swOther (x x1 x2 : TrD) (sv av : Value) (k n m : Int) (s : ByteArray) (f : Fil.Flt) (fs : ByteArray) (you cnt : Int) (w : World)
    (ok : Part 50 7 x.co) (ok1 : Part 50 7 x1.co) (ok2 : Part 50 7 x2.co) (HL : Hid (∀ W, Below w.heap.size w W → Calls Tryz.prog 20 #[] W fun e w' => e = .returned (.bool true) ∧ Below W.heap.size W w')) (HFW : Hid (∀ W, Below w.heap.size w W → Calls Tryz.prog 28 #[.agg (trV x sv av)] W fun e w' => e = .returned (.bool true) ∧ Below W.heap.size W w')) (HSH : Hid (∀ W, Below w.heap.size w W → Calls Tryz.prog 23 #[.agg (mO k n m s (cellsF f fs))] W fun e w' => e = .returned (.bool true) ∧ Below W.heap.size W w')) (HA1 : Hid (∀ W, Below w.heap.size w W → Calls Tryz.prog 30 #[.agg (trV x sv av), .agg (mO k n m s (cellsF f fs)), .int .i64 you, .int .i64 cnt] W fun e w' => (∃ s3 a3, e = .returned (.agg (trV x1 s3 a3)) ∧ Strs w' s3 x1.subs ∧ AbRow none w' a3 x1.abs) ∧ Below W.heap.size W w')) (HA2 : Hid (∀ W s2 a2, Below w.heap.size w W → Strs W s2 x1.subs → AbRow none W a2 x1.abs → Calls Tryz.prog 30 #[.agg (trV x1 s2 a2), .agg (mO k n m s (cellsF f fs)), .int .i64 you, .int .i64 cnt] W fun e w' => (∃ s3 a3, e = .returned (.agg (trV x2 s3 a3)) ∧ Strs w' s3 x2.subs ∧ AbRow none w' a3 x2.abs) ∧ Below W.heap.size W w')) (HI : Hid (∀ W, Below w.heap.size w W → Calls Tryz.prog 32 #[.agg (mO k n m s (cellsF f fs))] W fun e w' => e = .returned (.bool true) ∧ Below W.heap.size W w')) (hk : (k == 14) = false) (hk3 : (k == 13) = false) (HS : Hid (∀ W s2 a2 s3 a3, Below w.heap.size w W → Strs W s2 x1.subs → AbRow none W a2 x1.abs → Strs W s3 x2.subs → AbRow none W a3 x2.abs → Calls Tryz.prog 29 #[.agg (trV x1 s2 a2), .agg (trV x2 s3 a3)] W fun e w' => e = .returned (.bool true) ∧ Below W.heap.size W w')) :
    Calls Tryz.prog 11 #[.agg (trV x sv av), .agg (mO k n m s (cellsF f fs)), .agg #[.int .i64 you, .int .i64 cnt]] w fun e w' => e = .returned (.bool true) ∧ Below w.heap.size w w' := by

  have M := Mm.nil w
  go_enter Tryz.func11, Tryz.ntmps11
  go_upto_region 0 with fail
  refine wp_region_lit ?_
  with_reducible refine wA (trV x sv av) M ?_; clear M; intro pT u M; refine ⟨_, by (simp only [pu, sB, s0, sS]; rfl), ?_⟩
  with_reducible refine wA (mO k n m s (cellsF f fs)) M ?_; clear M; intro pO u M; refine ⟨_, by (simp only [pu, sB, s0, sS]; rfl), ?_⟩
  with_reducible refine wA #[.int .i64 you, .int .i64 cnt] M ?_; clear M; intro pN u M; refine ⟨_, by (simp only [pu, sB, s0, sS]; rfl), ?_⟩
  with_reducible refine rA ?_
  go_upto_region 1 with fail
  refine wp_region_still_tail 5 (by kernel_rfl) (by kernel_rfl) ?_
  simp only [List.take_succ_cons, List.take_zero, List.drop_succ_cons, List.drop_zero]
  replace M := M.drew
  change wpStill _ _ (World.drew _) (fun a' => wpList _ _ _ _ a' (World.drew _)) _ _
  generalize World.drew _ = u at M ⊢
  (with_reducible refine sBt (.pointer (some ⟨pN, 0, none⟩)) ?_ ?_); (· go_simp; (try rfl))
  with_reducible refine sLv 2 M (show (#[.int .i64 you, .int .i64 cnt])[0]? = some (.int .i64 you) from rfl) Tryz.underlying3 ?_
  (with_reducible refine sBt (.pointer (some ⟨pN, 1, none⟩)) ?_ ?_); (· go_simp; (try rfl))
  with_reducible refine sLv 2 M (show (#[.int .i64 you, .int .i64 cnt])[1]? = some (.int .i64 cnt) from rfl) Tryz.underlying3 ?_
  with_reducible refine sA ?_
  refine sEnd ?_
  show wpList _ _ _ _ _ u
  with_reducible refine rA ?_
  go_upto_region 2 with fail
  refine wp_region_lit ?_
  with_reducible refine wL 0 M whole_part Tryz.underlying56 (szTr (trV_sz ok)) ?_
  with_reducible refine wC M (HFW.out _ M.b) ?_; clear M; intro u M
  iterate 2 (with_reducible refine rA ?_)
  with_reducible refine wL 1 M whole_part Tryz.underlying39 (infoTMo20 (mO_sz (cellsF_size f fs))) ?_
  with_reducible refine wC M (HSH.out _ M.b) ?_; clear M; intro u M
  iterate 2 (with_reducible refine rA ?_)
  go_upto_region 4 with fail
  refine wp_region_lit ?_
  with_reducible refine wL 0 M whole_part Tryz.underlying56 (szTr (trV_sz ok)) ?_
  with_reducible refine wL 1 M whole_part Tryz.underlying39 (infoTMo20 (mO_sz (cellsF_size f fs))) ?_
  iterate 2 (with_reducible refine rA ?_)
  with_reducible refine wCx M (HA1.out _ M.b) ?_; clear M; rintro e u1 ⟨s2, a2, rfl, hs2, ha2⟩ hb M
  have S2 := Lib.hid hs2
  have A2 := Lib.hid ha2
  have so2 : s2.oneCell' = true := hs2.oneCell
  have ao2 : a2.oneCell' = true := ha2.oneCell
  have N1 := Below.refl u1.heap.size u1
  clear hs2 ha2
  refine ⟨_, _, rfl, by (simp only [pu, sB, s0, sS]; rfl), ?_⟩
  clear hb
  (with_reducible refine wAb zTr.cells (T := 56) M ?_ (hr := ?_)); rotate_left; (· exact run_allocOp rfl infoTr zeroTr); clear M; intro pP u hb hp M; refine ⟨_, by (simp only [pu, sB, s0, sS]; rfl), ?_⟩
  have GN1P := Nat.le_trans N1.size hp
  replace N1 := N1.trans (hb.mono N1.size)
  clear hb
  clear hp
  with_reducible refine wSb 3 M (laid_all (trV_sz ok1) zTr_cells) (szTr (trV_sz ok1)) (trV_one ok1 so2 ao2) (fit_2 zTr_cells (trV_sz ok1) (by decide)) ?_; clear M; intro u hst M
  replace N1 := hst _ _ N1 GN1P
  clear hst
  go_upto_region 5 with fail
  refine wp_region_lit ?_
  with_reducible refine wL 3 M whole_part Tryz.underlying56 (szTr (trV_sz ok1)) ?_
  with_reducible refine wL 1 M whole_part Tryz.underlying39 (infoTMo20 (mO_sz (cellsF_size f fs))) ?_
  iterate 2 (with_reducible refine rA ?_)
  with_reducible refine wCx M (HA2.out _ s2 a2 M.b (S2.out.below N1 (Nat.le_refl _)) (A2.out.below N1 (Nat.le_refl _))) ?_; clear M; rintro e u2 ⟨s3, a3, rfl, hs3, ha3⟩ hb M
  replace N1 := N1.trans (hb.mono N1.size)
  have S3 := Lib.hid hs3
  have A3 := Lib.hid ha3
  have so3 : s3.oneCell' = true := hs3.oneCell
  have ao3 : a3.oneCell' = true := ha3.oneCell
  have N2 := Below.refl u2.heap.size u2
  clear hs3 ha3
  refine ⟨_, _, rfl, by (simp only [pu, sB, s0, sS]; rfl), ?_⟩
  clear hb
  (with_reducible refine wAb zTr.cells (T := 56) M ?_ (hr := ?_)); rotate_left; (· exact run_allocOp rfl infoTr zeroTr); clear M; intro pQ u hb hp M; refine ⟨_, by (simp only [pu, sB, s0, sS]; rfl), ?_⟩
  have GN1Q := Nat.le_trans N1.size hp
  have GN2Q := Nat.le_trans N2.size hp
  replace N1 := N1.trans (hb.mono N1.size)
  replace N2 := N2.trans (hb.mono N2.size)
  clear hb
  clear hp
  with_reducible refine wSb 4 M (laid_all (trV_sz ok2) zTr_cells) (szTr (trV_sz ok2)) (trV_one ok2 so3 ao3) (fit_2 zTr_cells (trV_sz ok2) (by decide)) ?_; clear M; intro u hst M
  replace N1 := hst _ _ N1 GN1Q
  replace N2 := hst _ _ N2 GN2Q
  clear hst
  go_upto_region 6 with fail
  refine wp_region_lit ?_
  with_reducible refine wL 1 M whole_part Tryz.underlying39 (infoTMo20 (mO_sz (cellsF_size f fs))) ?_
  with_reducible refine wCb M (HI.out _ M.b) ?_; clear M; intro u hb M
  replace N1 := N1.trans (hb.mono N1.size)
  replace N2 := N2.trans (hb.mono N2.size)
  clear hb
  with_reducible refine rA ?_
  go_upto_region 8 with fail
  refine wp_region_lit ?_
  with_reducible refine rA ?_
  with_reducible refine wLv 1 M mO_0 Tryz.underlying3 ?_
  with_reducible refine rA ?_
  go_upto_region 10 with fail
  refine wp_region_lit ?_
  with_reducible refine rA ?_
  with_reducible refine wLv 1 M mO_0 Tryz.underlying3 ?_
  iterate 2 (with_reducible refine rA ?_)
  with_reducible refine wL 3 M whole_part Tryz.underlying56 (szTr (trV_sz ok1)) ?_
  with_reducible refine wL 4 M whole_part Tryz.underlying56 (szTr (trV_sz ok2)) ?_
  with_reducible refine wCb M (HS.out _ s2 a2 s3 a3 M.b (S2.out.below N1 (Nat.le_refl _)) (A2.out.below N1 (Nat.le_refl _)) (S3.out.below N2 (Nat.le_refl _)) (A3.out.below N2 (Nat.le_refl _))) ?_; clear M; intro u hb M
  replace N1 := N1.trans (hb.mono N1.size)
  replace N2 := N2.trans (hb.mono N2.size)
  clear hb
  iterate 2 (with_reducible refine rA ?_)
  with_reducible refine wCb M (HL.out _ M.b) ?_; clear M; intro u hb M
  replace N1 := N1.trans (hb.mono N1.size)
  replace N2 := N2.trans (hb.mono N2.size)
  clear hb
  iterate 2 (with_reducible refine rA ?_)
  go_wp2_with fail
  go_ret
  exact ⟨rfl, M.b⟩
end Go.Proofs.YtbcgkeclmioeiaaGreatDoor
