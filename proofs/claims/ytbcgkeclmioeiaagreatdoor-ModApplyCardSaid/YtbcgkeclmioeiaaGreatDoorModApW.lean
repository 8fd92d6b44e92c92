/-
 WALK OF LAYER 15's LAW Apply (mod). By an AI agent.
-/
import Derived.Test.YtbcgkeclmioeiaaGreatDoorSwGH
import Derived.Test.YtbcgkeclmioeiaaGreatDoorSwGA
import Derived.Deep.Cut
namespace Go.Proofs.YtbcgkeclmioeiaaGreatDoor
open Go.RowKit
open Wd (Bs)

set_option maxHeartbeats 8000000 in
set_option maxRecDepth 100000 in
theorem apFew (x : TrD) (sv av : Value) (k n m : Int) (s : ByteArray) (f : Fil.Flt) (fs : ByteArray) (you cnt : Int) (w : World)
  (ok : Part 50 7 x.co) (HL : Hid (∀ W, Below w.heap.size w W → Calls Tryz.prog 20 #[] W fun e w' => e = .returned (.bool true) ∧ Below W.heap.size W w')) (HFW : Hid (∀ W, Below w.heap.size w W → Calls Tryz.prog 28 #[.agg (trV x sv av)] W fun e w' => e = .returned (.bool false) ∧ Below W.heap.size W w')) :
  Calls Tryz.prog 10 #[.agg (trV x sv av), .agg (mO k n m s (cellsF f fs)), .agg #[.int .i64 you, .int .i64 cnt]] w fun e w' => e = .returned (.bool true) ∧ Below w.heap.size w w' := by

 have M := Mm.nil w
 go_enter Tryz.func10, Tryz.ntmps10
 go_upto_region 0 with fail
 refine wp_region_lit ?_
 with_reducible refine wA (trV x sv av) M ?_; clear M; intro pT u M; refine ⟨_, by (simp only [pu, sB, s0, sS]; rfl), ?_⟩
 with_reducible refine wA (mO k n m s (cellsF f fs)) M ?_; clear M; intro pO u M; refine ⟨_, by (simp only [pu, sB, s0, sS]; rfl), ?_⟩
 with_reducible refine wA #[.int .i64 you, .int .i64 cnt] M ?_; clear M; intro pN u M; refine ⟨_, by (simp only [pu, sB, s0, sS]; rfl), ?_⟩
 with_reducible refine rA ?_
 go_upto_region 1 with fail
 refine wp_region_still_tail 5 (by kernel_rfl) (by kernel_rfl) ?_
 simp only [List.take_succ_cons, List.take_zero, List.drop_succ_cons, List.drop_zero]
 replace M := M.drew
 change wpStill _ _ (World.drew _) (fun a' => wpList _ _ _ _ a' (World.drew _)) _ _
 generalize World.drew _ = u at M ⊢
 (with_reducible refine sBt (.pointer (some ⟨pN, 0, none⟩)) ?_ ?_); (· go_simp; (try rfl))
 with_reducible refine sLv 2 M (show (#[.int .i64 you, .int .i64 cnt])[0]? = some (.int .i64 you) from rfl) Tryz.underlying3 ?_
 (with_reducible refine sBt (.pointer (some ⟨pN, 1, none⟩)) ?_ ?_); (· go_simp; (try rfl))
 with_reducible refine sLv 2 M (show (#[.int .i64 you, .int .i64 cnt])[1]? = some (.int .i64 cnt) from rfl) Tryz.underlying3 ?_
 with_reducible refine sA ?_
 refine sEnd ?_
 show wpList _ _ _ _ _ u
 with_reducible refine rA ?_
 go_upto_region 2 with fail
 refine wp_region_lit ?_
 with_reducible refine wL 0 M whole_part Tryz.underlying56 (szTr (trV_sz ok)) ?_
 with_reducible refine wC M (HFW.out _ M.b) ?_; clear M; intro u M
 iterate 2 (with_reducible refine rA ?_)
 iterate 3 (with_reducible refine kA ?_)
 with_reducible refine rA ?_
 go_upto_region 3 with fail
 refine wp_region_lit ?_
 with_reducible refine wC M (HL.out _ M.b) ?_; clear M; intro u M
 with_reducible refine rA ?_
 go_wp2_with fail
 go_ret
 exact ⟨rfl, M.b⟩

set_option maxHeartbeats 8000000 in
set_option maxRecDepth 100000 in
theorem apShort (x : TrD) (sv av : Value) (k n m : Int) (s : ByteArray) (f : Fil.Flt) (fs : ByteArray) (you cnt : Int) (w : World)
  (ok : Part 50 7 x.co) (HL : Hid (∀ W, Below w.heap.size w W → Calls Tryz.prog 20 #[] W fun e w' => e = .returned (.bool true) ∧ Below W.heap.size W w')) (HFW : Hid (∀ W, Below w.heap.size w W → Calls Tryz.prog 28 #[.agg (trV x sv av)] W fun e w' => e = .returned (.bool true) ∧ Below W.heap.size W w')) (HSH : Hid (∀ W, Below w.heap.size w W → Calls Tryz.prog 23 #[.agg (mO k n m s (cellsF f fs))] W fun e w' => e = .returned (.bool false) ∧ Below W.heap.size W w')) :
  Calls Tryz.prog 10 #[.agg (trV x sv av), .agg (mO k n m s (cellsF f fs)), .agg #[.int .i64 you, .int .i64 cnt]] w fun e w' => e = .returned (.bool true) ∧ Below w.heap.size w w' := by

 have M := Mm.nil w
 go_enter Tryz.func10, Tryz.ntmps10
 go_upto_region 0 with fail
 refine wp_region_lit ?_
 with_reducible refine wA (trV x sv av) M ?_; clear M; intro pT u M; refine ⟨_, by (simp only [pu, sB, s0, sS]; rfl), ?_⟩
 with_reducible refine wA (mO k n m s (cellsF f fs)) M ?_; clear M; intro pO u M; refine ⟨_, by (simp only [pu, sB, s0, sS]; rfl), ?_⟩
 with_reducible refine wA #[.int .i64 you, .int .i64 cnt] M ?_; clear M; intro pN u M; refine ⟨_, by (simp only [pu, sB, s0, sS]; rfl), ?_⟩
 with_reducible refine rA ?_
 go_upto_region 1 with fail
 refine wp_region_still_tail 5 (by kernel_rfl) (by kernel_rfl) ?_
 simp only [List.take_succ_cons, List.take_zero, List.drop_succ_cons, List.drop_zero]
 replace M := M.drew
 change wpStill _ _ (World.drew _) (fun a' => wpList _ _ _ _ a' (World.drew _)) _ _
 generalize World.drew _ = u at M ⊢
 (with_reducible refine sBt (.pointer (some ⟨pN, 0, none⟩)) ?_ ?_); (· go_simp; (try rfl))
 with_reducible refine sLv 2 M (show (#[.int .i64 you, .int .i64 cnt])[0]? = some (.int .i64 you) from rfl) Tryz.underlying3 ?_
 (with_reducible refine sBt (.pointer (some ⟨pN, 1, none⟩)) ?_ ?_); (· go_simp; (try rfl))
 with_reducible refine sLv 2 M (show (#[.int .i64 you, .int .i64 cnt])[1]? = some (.int .i64 cnt) from rfl) Tryz.underlying3 ?_
 with_reducible refine sA ?_
 refine sEnd ?_
 show wpList _ _ _ _ _ u
 with_reducible refine rA ?_
 go_upto_region 2 with fail
 refine wp_region_lit ?_
 with_reducible refine wL 0 M whole_part Tryz.underlying56 (szTr (trV_sz ok)) ?_
 with_reducible refine wC M (HFW.out _ M.b) ?_; clear M; intro u M
 iterate 2 (with_reducible refine rA ?_)
 with_reducible refine wL 1 M whole_part Tryz.underlying39 (infoTMo20 (mO_sz (cellsF_size f fs))) ?_
 with_reducible refine wC M (HSH.out _ M.b) ?_; clear M; intro u M
 iterate 2 (with_reducible refine rA ?_)
 go_upto_region 3 with fail
 refine wp_region_lit ?_
 with_reducible refine wC M (HL.out _ M.b) ?_; clear M; intro u M
 with_reducible refine rA ?_
 go_wp2_with fail
 go_ret
 exact ⟨rfl, M.b⟩

set_option maxHeartbeats 8000000 in
set_option maxRecDepth 100000 in
theorem apGo (x x1 : TrD) (sv av : Value) (k n m : Int) (s : ByteArray) (f : Fil.Flt) (fs : ByteArray) (you cnt : Int) (w : World)
  (ok : Part 50 7 x.co) (HL : Hid (∀ W, Below w.heap.size w W → Calls Tryz.prog 20 #[] W fun e w' => e = .returned (.bool true) ∧ Below W.heap.size W w')) (HFW : Hid (∀ W, Below w.heap.size w W → Calls Tryz.prog 28 #[.agg (trV x sv av)] W fun e w' => e = .returned (.bool true) ∧ Below W.heap.size W w')) (HSH : Hid (∀ W, Below w.heap.size w W → Calls Tryz.prog 23 #[.agg (mO k n m s (cellsF f fs))] W fun e w' => e = .returned (.bool true) ∧ Below W.heap.size W w')) (HA : Hid (∀ W, Below w.heap.size w W → Calls Tryz.prog 30 #[.agg (trV x sv av), .agg (mO k n m s (cellsF f fs)), .int .i64 you, .int .i64 cnt] W fun e w' => (∃ s3 a3, e = .returned (.agg (trV x1 s3 a3)) ∧ Strs w' s3 x1.subs ∧ AbRow none w' a3 x1.abs) ∧ Below W.heap.size W w')) (HB : Hid (∀ W, Below w.heap.size w W → Calls Tryz.prog 31 #[.agg (trV x sv av), .agg (mO k n m s (cellsF f fs)), .int .i64 you, .int .i64 cnt] W fun e w' => (∃ s3 a3, e = .returned (.agg (trV x1 s3 a3)) ∧ Strs w' s3 x1.subs ∧ AbRow none w' a3 x1.abs) ∧ Below W.heap.size W w')) (HS : Hid (∀ W s2 a2 s3 a3, Below w.heap.size w W → Strs W s2 x1.subs → AbRow none W a2 x1.abs → Strs W s3 x1.subs → AbRow none W a3 x1.abs → Calls Tryz.prog 29 #[.agg (trV x1 s2 a2), .agg (trV x1 s3 a3)] W fun e w' => e = .returned (.bool true) ∧ Below W.heap.size W w')) :
  Calls Tryz.prog 10 #[.agg (trV x sv av), .agg (mO k n m s (cellsF f fs)), .agg #[.int .i64 you, .int .i64 cnt]] w fun e w' => e = .returned (.bool true) ∧ Below w.heap.size w w' := by

 have M := Mm.nil w
 go_enter Tryz.func10, Tryz.ntmps10
 go_upto_region 0 with fail
 refine wp_region_lit ?_
 with_reducible refine wA (trV x sv av) M ?_; clear M; intro pT u M; refine ⟨_, by (simp only [pu, sB, s0, sS]; rfl), ?_⟩
 with_reducible refine wA (mO k n m s (cellsF f fs)) M ?_; clear M; intro pO u M; refine ⟨_, by (simp only [pu, sB, s0, sS]; rfl), ?_⟩
 with_reducible refine wA #[.int .i64 you, .int .i64 cnt] M ?_; clear M; intro pN u M; refine ⟨_, by (simp only [pu, sB, s0, sS]; rfl), ?_⟩
 with_reducible refine rA ?_
 go_upto_region 1 with fail
 refine wp_region_still_tail 5 (by kernel_rfl) (by kernel_rfl) ?_
 simp only [List.take_succ_cons, List.take_zero, List.drop_succ_cons, List.drop_zero]
 replace M := M.drew
 change wpStill _ _ (World.drew _) (fun a' => wpList _ _ _ _ a' (World.drew _)) _ _
 generalize World.drew _ = u at M ⊢
 (with_reducible refine sBt (.pointer (some ⟨pN, 0, none⟩)) ?_ ?_); (· go_simp; (try rfl))
 with_reducible refine sLv 2 M (show (#[.int .i64 you, .int .i64 cnt])[0]? = some (.int .i64 you) from rfl) Tryz.underlying3 ?_
 (with_reducible refine sBt (.pointer (some ⟨pN, 1, none⟩)) ?_ ?_); (· go_simp; (try rfl))
 with_reducible refine sLv 2 M (show (#[.int .i64 you, .int .i64 cnt])[1]? = some (.int .i64 cnt) from rfl) Tryz.underlying3 ?_
 with_reducible refine sA ?_
 refine sEnd ?_
 show wpList _ _ _ _ _ u
 with_reducible refine rA ?_
 go_upto_region 2 with fail
 refine wp_region_lit ?_
 with_reducible refine wL 0 M whole_part Tryz.underlying56 (szTr (trV_sz ok)) ?_
 with_reducible refine wC M (HFW.out _ M.b) ?_; clear M; intro u M
 iterate 2 (with_reducible refine rA ?_)
 with_reducible refine wL 1 M whole_part Tryz.underlying39 (infoTMo20 (mO_sz (cellsF_size f fs))) ?_
 with_reducible refine wC M (HSH.out _ M.b) ?_; clear M; intro u M
 iterate 2 (with_reducible refine rA ?_)
 go_upto_region 4 with fail
 refine wp_region_held_drew (S := (fun W : World => Kp [(pT, (trV x sv av), 56), (pO, (mO k n m s (cellsF f fs)), 39), (pN, #[.int .i64 you, .int .i64 cnt], 57)] W)) (by kernel_rfl) ?_ (fun hHeld => ?_)
 ·exact M.drew.k
 refine take_loadS 0 (some 22) rfl rfl (by kernel_rfl) (by kernel_rfl) (by kernel_rfl) (fun _ _ _ h => h) (by rfl) (.tmp 3) rfl (b := pT) (cs := (trV x sv av)) (by rfl) (fun W h => h.at 0 rfl) Tryz.underlying56 rfl (szTr (trV_sz ok)) (by assumption) ?_
 simp only [pu, sB, s0, sS]
 refine take_loadS 1 (some 23) rfl rfl (by kernel_rfl) (by kernel_rfl) (by kernel_rfl) (fun _ _ _ h => h) (by rfl) (.tmp 4) rfl (b := pO) (cs := (mO k n m s (cellsF f fs))) (by rfl) (fun W h => h.at 1 rfl) Tryz.underlying39 rfl (infoTMo20 (mO_sz (cellsF_size f fs))) (by assumption) ?_
 simp only [pu, sB, s0, sS]
 refine take_run 2 (some 24) (v := ?_) rfl rfl (by kernel_rfl) (by kernel_rfl) (by kernel_rfl) (fun _ _ _ h => h) (by rfl) ?_ (by assumption) ?_
 rotate_left
 ·(intro W hSw; (try dsimp only at hSw); go_simp; (try with_reducible rfl))
 simp only [pu, sB, s0, sS]
 refine take_run 3 (some 25) (v := ?_) rfl rfl (by kernel_rfl) (by kernel_rfl) (by kernel_rfl) (fun _ _ _ h => h) (by rfl) ?_ (by assumption) ?_
 rotate_left
 ·(intro W hSw; (try dsimp only at hSw); go_simp; (try with_reducible rfl))
 simp only [pu, sB, s0, sS]
 refine take_loadS 5 (some 27) rfl rfl (by kernel_rfl) (by kernel_rfl) (by kernel_rfl) (fun _ _ _ h => h) (by rfl) (.tmp 3) rfl (b := pT) (cs := (trV x sv av)) (by rfl) (fun W h => h.at 0 rfl) Tryz.underlying56 rfl (szTr (trV_sz ok)) (by assumption) ?_
 simp only [pu, sB, s0, sS]
 refine take_loadS 6 (some 28) rfl rfl (by kernel_rfl) (by kernel_rfl) (by kernel_rfl) (fun _ _ _ h => h) (by rfl) (.tmp 4) rfl (b := pO) (cs := (mO k n m s (cellsF f fs))) (by rfl) (fun W h => h.at 1 rfl) Tryz.underlying39 rfl (infoTMo20 (mO_sz (cellsF_size f fs))) (by assumption) ?_
 simp only [pu, sB, s0, sS]
 refine take_run 7 (some 29) (v := ?_) rfl rfl (by kernel_rfl) (by kernel_rfl) (by kernel_rfl) (fun _ _ _ h => h) (by rfl) ?_ (by assumption) ?_
 rotate_left
 ·(intro W hSw; (try dsimp only at hSw); go_simp; (try with_reducible rfl))
 simp only [pu, sB, s0, sS]
 refine take_run 8 (some 30) (v := ?_) rfl rfl (by kernel_rfl) (by kernel_rfl) (by kernel_rfl) (fun _ _ _ h => h) (by rfl) ?_ (by assumption) ?_
 rotate_left
 ·(intro W hSw; (try dsimp only at hSw); go_simp; (try with_reducible rfl))
 simp only [pu, sB, s0, sS]
 refine wpAnyH_ready (rs := [4]) (by kernel_rfl) (by simp) ?_
 refine AllReadyH.cons rfl (fun K1 hK1 => ?_) AllReadyH.nil
 go_simp
 go_at_call 30
 refine (callBase (C := u.heap.size) (w0 := u) (by go_grown) (Nat.le_refl _) (HA.out _ (M.b.trans (Below.mono ((by go_grown) : Below u.heap.size u _) M.b.size)))).mono ?_
 rintro e wd1 ⟨⟨s2, a2, rfl, hss2, haa2⟩, hbd1⟩
 have Ss2 := Lib.hid hss2
 have Aa2 := Lib.hid haa2
 clear hss2 haa2
 go_simp
 refine hK1.out _ _ ?_ (fun hHd1 => ?_)
 ·exact (M.k.below hbd1)
 clear hK1 K1 hHeld
 try simp only [pu, sB, s0, sS]
 refine wpAnyH_ready (rs := [9]) (by kernel_rfl) (by simp) ?_
 refine AllReadyH.cons rfl (fun K2 hK2 => ?_) AllReadyH.nil
 go_simp
 go_at_call 31
 refine (callBase (C := wd1.heap.size) (w0 := wd1) (Below.refl _ _) (Nat.le_refl _) (HB.out _ (M.b.trans (Below.mono (hbd1 : Below u.heap.size u _) M.b.size)))).mono ?_
 rintro e wd2 ⟨⟨s3, a3, rfl, hss3, haa3⟩, hbs2⟩
 have hbd2 := hbd1.trans (hbs2.mono hbd1.size)
 have Ss3 := Lib.hid hss3
 have Aa3 := Lib.hid haa3
 clear hss3 haa3
 go_simp
 refine hK2.out _ _ ?_ (fun hHd2 => ?_)
 ·exact (M.k.below hbd2)
 clear hK2 K2 hHd1
 try simp only [pu, sB, s0, sS]
 refine wpAnyH_ready (rs := [10]) (by kernel_rfl) (by simp) ?_
 refine AllReadyH.cons rfl (fun K3 hK3 => ?_) AllReadyH.nil
 go_simp
 go_at_call 29
 refine (callBase (C := wd2.heap.size) (w0 := wd2) (Below.refl _ _) (Nat.le_refl _) (HS.out _ s2 a2 s3 a3 (M.b.trans (Below.mono (hbd2 : Below u.heap.size u _) M.b.size)) (Ss2.out.below hbs2 (Nat.le_refl _)) (Aa2.out.below hbs2 (Nat.le_refl _)) Ss3.out Aa3.out)).mono ?_
 rintro e wd3 ⟨rfl, hbs3⟩
 have hbd3 := hbd2.trans (hbs3.mono hbd2.size)
 go_simp
 refine hK3.out _ _ ?_ (fun hHd3 => ?_)
 ·exact (M.k.below hbd3)
 clear hK3 K3 hHd2
 try simp only [pu, sB, s0, sS]
 refine take_run 11 (some 33) (v := .bool true) rfl rfl (by kernel_rfl) (by kernel_rfl) (by kernel_rfl) (fun _ _ _ h => h) (by rfl) ?_ (by assumption) ?_
 ·(intro W hSw; (try dsimp only at hSw); go_simp; (try with_reducible rfl))
 simp only [pu, sB, s0, sS]
 refine wpAnyH_ready (rs := [12]) (by kernel_rfl) (by simp) ?_
 refine AllReadyH.cons rfl (fun K4 hK4 => ?_) AllReadyH.nil
 go_simp
 go_at_call 20
 refine (callBase (C := wd3.heap.size) (w0 := wd3) (Below.refl _ _) (Nat.le_refl _) (HL.out _ (M.b.trans (Below.mono (hbd3 : Below u.heap.size u _) M.b.size)))).mono ?_
 rintro e wd4 ⟨rfl, hbs4⟩
 have hbd4 := hbd3.trans (hbs4.mono hbd3.size)
 go_simp
 refine hK4.out _ _ ?_ (fun hHd4 => ?_)
 ·exact (M.k.below hbd4)
 clear hK4 K4 hHd3
 try simp only [pu, sB, s0, sS]
 refine take_run 13 (some 35) (v := .bool true) rfl rfl (by kernel_rfl) (by kernel_rfl) (by kernel_rfl) (fun _ _ _ h => h) (by rfl) ?_ (by assumption) ?_
 ·(intro W hSw; (try dsimp only at hSw); go_simp; (try with_reducible rfl))
 simp only [pu, sB, s0, sS]
 refine take_run 14 (some 6) (v := .bool true) rfl rfl (by kernel_rfl) (by kernel_rfl) (by kernel_rfl) (fun _ _ _ h => h) (by rfl) ?_ (by assumption) ?_
 ·(intro W hSw; (try dsimp only at hSw); go_simp; (try with_reducible rfl))
 simp only [pu, sB, s0, sS]
 refine wpAnyH_done (by kernel_rfl) ?_ _
 replace M := M.call hbd4
 go_wp2_with fail
 go_ret
 exact ⟨rfl, M.b⟩
end Go.Proofs.YtbcgkeclmioeiaaGreatDoor
