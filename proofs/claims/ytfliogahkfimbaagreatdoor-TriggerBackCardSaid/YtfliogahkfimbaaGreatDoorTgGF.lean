/-
  MERGED: TgLawB, TgLawUA, TgLawUC, TgLawUB, TgLawUD, TgLawUE, TgLawsB. By an AI agent.
-/
import Derived.Test.YtfliogahkfimbaaGreatDoorTgGA
import Derived.Deep.Cut
import Derived.Test.YtfliogahkfimbaaGreatDoorTgGC
namespace Go.Proofs.YtfliogahkfimbaaGreatDoor
open Go.RowKit
open Wd (Bs)

set_option maxHeartbeats 8000000 in
set_option maxRecDepth 100000 in
theorem bkBigT (k n : Int) (f : Fil.Flt) (fs : ByteArray) (s : ByteArray) (w : World)
    (HL : Hid (∀ W, Below w.heap.size w W → Calls Tryz.prog 8 #[] W fun e w' => e = .returned (.bool true) ∧ Below W.heap.size W w')) (hl : decide (100 < (fs.size : Int)) = true) :
    Calls Tryz.prog 5 #[.agg (tG k n (cellsF f fs)), .string s] w fun e w' => e = .returned (.bool true) ∧ Below w.heap.size w w' := by

  have M := Mm.nil w
  go_enter Tryz.func5, Tryz.ntmps5
  go_upto_region 0 with fail
  refine wp_region_lit ?_
  with_reducible refine wA (tG k n (cellsF f fs)) M ?_; clear M; intro pB2 u M; refine ⟨_, by (simp only [pu, sB, s0, sS]; rfl), ?_⟩
  with_reducible refine rA ?_
  go_upto_region 1 with fail
  refine wp_region_lit ?_
  iterate 2 (with_reducible refine rA ?_)
  with_reducible refine wLv 0 M (show ((tG k n (cellsF f fs)))[9]? = some (.string fs) from (tG_f 7 _ rfl)) Tryz.underlying9 ?_
  iterate 3 (with_reducible refine rA ?_)
  iterate 3 (with_reducible refine kA ?_)
  with_reducible refine rA ?_
  go_upto_region 2 with fail
  refine wp_region_lit ?_
  with_reducible refine wC M (HL.out _ M.b) ?_; clear M; intro u M
  with_reducible refine rA ?_
  go_wp2_with fail
  go_ret
  exact ⟨rfl, M.b⟩

set_option maxHeartbeats 8000000 in
set_option maxRecDepth 100000 in
theorem bkLongT (k n : Int) (f : Fil.Flt) (fs : ByteArray) (s : ByteArray) (w : World)
    (HL : Hid (∀ W, Below w.heap.size w W → Calls Tryz.prog 8 #[] W fun e w' => e = .returned (.bool true) ∧ Below W.heap.size W w')) (hl : decide (100 < (fs.size : Int)) = false) (hm : decide (500 < (s.size : Int)) = true) :
    Calls Tryz.prog 5 #[.agg (tG k n (cellsF f fs)), .string s] w fun e w' => e = .returned (.bool true) ∧ Below w.heap.size w w' := by

  have M := Mm.nil w
  go_enter Tryz.func5, Tryz.ntmps5
  go_upto_region 0 with fail
  refine wp_region_lit ?_
  with_reducible refine wA (tG k n (cellsF f fs)) M ?_; clear M; intro pB2 u M; refine ⟨_, by (simp only [pu, sB, s0, sS]; rfl), ?_⟩
  with_reducible refine rA ?_
  go_upto_region 1 with fail
  refine wp_region_lit ?_
  iterate 2 (with_reducible refine rA ?_)
  with_reducible refine wLv 0 M (show ((tG k n (cellsF f fs)))[9]? = some (.string fs) from (tG_f 7 _ rfl)) Tryz.underlying9 ?_
  iterate 7 (with_reducible refine rA ?_)
  go_upto_region 2 with fail
  refine wp_region_lit ?_
  with_reducible refine wC M (HL.out _ M.b) ?_; clear M; intro u M
  with_reducible refine rA ?_
  go_wp2_with fail
  go_ret
  exact ⟨rfl, M.b⟩

set_option maxHeartbeats 8000000 in
set_option maxRecDepth 100000 in
theorem bkPVT (k n : Int) (f : Fil.Flt) (fs : ByteArray) (s u : ByteArray) (k2 n2 : Int) (u2 : ByteArray) (g : Fil.Flt) (gs : ByteArray) (w : World)
    (HL : Hid (∀ W, Below w.heap.size w W → Calls Tryz.prog 8 #[] W fun e w' => e = .returned (.bool true) ∧ Below W.heap.size W w')) (hl : decide (100 < (fs.size : Int)) = false) (hm : decide (500 < (s.size : Int)) = false) (HT : Hid (∀ W, Below w.heap.size w W → Calls Tryz.prog 13 #[.agg (tG k n (cellsF f fs))] W fun e w' => e = .returned (.string u) ∧ Below W.heap.size W w')) (HQ : Hid (∀ W, Below w.heap.size w W → Calls Tryz.prog 15 #[.string u] W fun e w' => e = .returned (.tuple #[.agg (tG k n (cellsF f fs)), .int .i64 0]) ∧ Below W.heap.size W w')) (HI : Hid (∀ W, Below w.heap.size w W → Calls Tryz.prog 9 #[.agg (tG k n (cellsF f fs))] W fun e w' => e = .returned (.bool true) ∧ Below W.heap.size W w')) (HP : Hid (∀ W, Below w.heap.size w W → Calls Tryz.prog 15 #[.string s] W fun e w' => e = .returned (.tuple #[.agg (tG k2 n2 (cellsF g gs)), .int .i64 0]) ∧ Below W.heap.size W w')) (hq : ∀ W : World, (Op.equalIn 10000 27 (.agg (tG k n (cellsF f fs))) (.agg (tG k n (cellsF f fs)))).run Tryz.prog W = .ok true W) (HI2 : Hid (∀ W, Below w.heap.size w W → Calls Tryz.prog 9 #[.agg (tG k2 n2 (cellsF g gs))] W fun e w' => e = .returned (.bool true) ∧ Below W.heap.size W w')) (HT2 : Hid (∀ W, Below w.heap.size w W → Calls Tryz.prog 13 #[.agg (tG k2 n2 (cellsF g gs))] W fun e w' => e = .returned (.string u2) ∧ Below W.heap.size W w')) (hu2 : (u2.toList == s.toList) = true) :
    Calls Tryz.prog 5 #[.agg (tG k n (cellsF f fs)), .string s] w fun e w' => e = .returned (.bool true) ∧ Below w.heap.size w w' := by

  have M := Mm.nil w
  go_enter Tryz.func5, Tryz.ntmps5
  go_upto_region 0 with fail
  refine wp_region_lit ?_
  with_reducible refine wA (tG k n (cellsF f fs)) M ?_; clear M; intro pB2 u M; refine ⟨_, by (simp only [pu, sB, s0, sS]; rfl), ?_⟩
  with_reducible refine rA ?_
  go_upto_region 1 with fail
  refine wp_region_lit ?_
  iterate 2 (with_reducible refine rA ?_)
  with_reducible refine wLv 0 M (show ((tG k n (cellsF f fs)))[9]? = some (.string fs) from (tG_f 7 _ rfl)) Tryz.underlying9 ?_
  iterate 7 (with_reducible refine rA ?_)
  go_upto_region 3 with fail
  refine wp_region_lit ?_
  with_reducible refine rA ?_
  with_reducible refine wC M (HP.out _ M.b) ?_; clear M; intro u M
  with_reducible refine rA ?_
  (with_reducible refine rB (.agg (tG k2 n2 (cellsF g gs))) ?_ ?_); (· go_simp; (try with_reducible rfl))
  with_reducible refine rA ?_
  with_reducible refine wA (tG 0 0 cellsZ) M ?_; clear M; intro pB5 u M; refine ⟨_, by (simp only [pu, sB, s0, sS]; rfl), ?_⟩
  with_reducible refine wS 1 M (laid_all (tG_sz (cellsF_size g gs)) (tG_sz cellsZ_size)) (infoTTg18 (tG_sz (cellsF_size g gs))) (tG_one (cellsF_one g gs)) (fit_2 (tG_sz cellsZ_size) (tG_sz (cellsF_size g gs)) (by decide)) ?_; clear M; intro u M
  with_reducible refine rA ?_
  go_upto_region 4 with fail
  refine wp_region_lit ?_
  iterate 3 (with_reducible refine rA ?_)
  with_reducible refine wL 1 M whole_part Tryz.underlying27 (infoTTg18 (tG_sz (cellsF_size g gs))) ?_
  with_reducible refine wC M (HT2.out _ M.b) ?_; clear M; intro u M
  with_reducible refine rA ?_
  (with_reducible refine rB (.bool false) ?_ ?_); (· first | (go_simp; done) | (go_simp; with_reducible rfl) | (go_simp; simp_all))
  with_reducible refine rA ?_
  with_reducible refine wL 1 M whole_part Tryz.underlying27 (infoTTg18 (tG_sz (cellsF_size g gs))) ?_
  with_reducible refine wC M (HI2.out _ M.b) ?_; clear M; intro u M
  iterate 3 (with_reducible refine rA ?_)
  go_upto_region 6 with fail
  refine wp_region_lit ?_
  with_reducible refine wL 0 M whole_part Tryz.underlying27 (infoTTg18 (tG_sz (cellsF_size f fs))) ?_
  with_reducible refine wC M (HT.out _ M.b) ?_; clear M; intro u M
  with_reducible refine wC M (HQ.out _ M.b) ?_; clear M; intro u M
  with_reducible refine rA ?_
  (with_reducible refine rB (.agg (tG k n (cellsF f fs))) ?_ ?_); (· go_simp; (try with_reducible rfl))
  with_reducible refine rA ?_
  with_reducible refine wA (tG 0 0 cellsZ) M ?_; clear M; intro pB7 u M; refine ⟨_, by (simp only [pu, sB, s0, sS]; rfl), ?_⟩
  with_reducible refine wS 2 M (laid_all (tG_sz (cellsF_size f fs)) (tG_sz cellsZ_size)) (infoTTg18 (tG_sz (cellsF_size f fs))) (tG_one (cellsF_one f fs)) (fit_2 (tG_sz cellsZ_size) (tG_sz (cellsF_size f fs)) (by decide)) ?_; clear M; intro u M
  with_reducible refine rA ?_
  go_upto_region 7 with fail
  refine wp_region_lit ?_
  with_reducible refine wL 0 M whole_part Tryz.underlying27 (infoTTg18 (tG_sz (cellsF_size f fs))) ?_
  with_reducible refine wC M (HI.out _ M.b) ?_; clear M; intro u M
  with_reducible refine rA ?_
  go_upto_region 9 with fail
  refine wp_region_lit ?_
  with_reducible refine wL 2 M whole_part Tryz.underlying27 (infoTTg18 (tG_sz (cellsF_size f fs))) ?_
  with_reducible refine wL 0 M whole_part Tryz.underlying27 (infoTTg18 (tG_sz (cellsF_size f fs))) ?_
  iterate 6 (with_reducible refine rA ?_)
  with_reducible refine wC M (HL.out _ M.b) ?_; clear M; intro u M
  iterate 2 (with_reducible refine rA ?_)
  go_wp2_with fail
  go_ret
  exact ⟨rfl, M.b⟩

set_option maxHeartbeats 8000000 in
set_option maxRecDepth 100000 in
theorem bkPBT (k n : Int) (f : Fil.Flt) (fs : ByteArray) (s u : ByteArray) (k2 n2 : Int) (u2 : ByteArray) (g : Fil.Flt) (gs : ByteArray) (w : World)
    (HL : Hid (∀ W, Below w.heap.size w W → Calls Tryz.prog 8 #[] W fun e w' => e = .returned (.bool true) ∧ Below W.heap.size W w')) (hl : decide (100 < (fs.size : Int)) = false) (hm : decide (500 < (s.size : Int)) = false) (HT : Hid (∀ W, Below w.heap.size w W → Calls Tryz.prog 13 #[.agg (tG k n (cellsF f fs))] W fun e w' => e = .returned (.string u) ∧ Below W.heap.size W w')) (hu : u.toList.isEmpty = true) (HQ : Hid (∀ W, Below w.heap.size w W → Calls Tryz.prog 15 #[.string u] W fun e w' => e = .returned (.tuple #[.agg (tG 0 0 cellsZ), .int .i64 3]) ∧ Below W.heap.size W w')) (HI : Hid (∀ W, Below w.heap.size w W → Calls Tryz.prog 9 #[.agg (tG k n (cellsF f fs))] W fun e w' => e = .returned (.bool false) ∧ Below W.heap.size W w')) (HP : Hid (∀ W, Below w.heap.size w W → Calls Tryz.prog 15 #[.string s] W fun e w' => e = .returned (.tuple #[.agg (tG k2 n2 (cellsF g gs)), .int .i64 0]) ∧ Below W.heap.size W w')) (hz : ∀ W : World, (Op.equalIn 10000 27 (.agg (tG 0 0 cellsZ)) (.agg (tG 0 0 cellsZ))).run Tryz.prog W = .ok true W) (HI2 : Hid (∀ W, Below w.heap.size w W → Calls Tryz.prog 9 #[.agg (tG k2 n2 (cellsF g gs))] W fun e w' => e = .returned (.bool true) ∧ Below W.heap.size W w')) (HT2 : Hid (∀ W, Below w.heap.size w W → Calls Tryz.prog 13 #[.agg (tG k2 n2 (cellsF g gs))] W fun e w' => e = .returned (.string u2) ∧ Below W.heap.size W w')) (hu2 : (u2.toList == s.toList) = true) :
    Calls Tryz.prog 5 #[.agg (tG k n (cellsF f fs)), .string s] w fun e w' => e = .returned (.bool true) ∧ Below w.heap.size w w' := by

  have M := Mm.nil w
  go_enter Tryz.func5, Tryz.ntmps5
  go_upto_region 0 with fail
  refine wp_region_lit ?_
  with_reducible refine wA (tG k n (cellsF f fs)) M ?_; clear M; intro pB2 u M; refine ⟨_, by (simp only [pu, sB, s0, sS]; rfl), ?_⟩
  with_reducible refine rA ?_
  go_upto_region 1 with fail
  refine wp_region_lit ?_
  iterate 2 (with_reducible refine rA ?_)
  with_reducible refine wLv 0 M (show ((tG k n (cellsF f fs)))[9]? = some (.string fs) from (tG_f 7 _ rfl)) Tryz.underlying9 ?_
  iterate 7 (with_reducible refine rA ?_)
  go_upto_region 3 with fail
  refine wp_region_lit ?_
  with_reducible refine rA ?_
  with_reducible refine wC M (HP.out _ M.b) ?_; clear M; intro u M
  with_reducible refine rA ?_
  (with_reducible refine rB (.agg (tG k2 n2 (cellsF g gs))) ?_ ?_); (· go_simp; (try with_reducible rfl))
  with_reducible refine rA ?_
  with_reducible refine wA (tG 0 0 cellsZ) M ?_; clear M; intro pB5 u M; refine ⟨_, by (simp only [pu, sB, s0, sS]; rfl), ?_⟩
  with_reducible refine wS 1 M (laid_all (tG_sz (cellsF_size g gs)) (tG_sz cellsZ_size)) (infoTTg18 (tG_sz (cellsF_size g gs))) (tG_one (cellsF_one g gs)) (fit_2 (tG_sz cellsZ_size) (tG_sz (cellsF_size g gs)) (by decide)) ?_; clear M; intro u M
  with_reducible refine rA ?_
  go_upto_region 4 with fail
  refine wp_region_lit ?_
  iterate 3 (with_reducible refine rA ?_)
  with_reducible refine wL 1 M whole_part Tryz.underlying27 (infoTTg18 (tG_sz (cellsF_size g gs))) ?_
  with_reducible refine wC M (HT2.out _ M.b) ?_; clear M; intro u M
  with_reducible refine rA ?_
  (with_reducible refine rB (.bool false) ?_ ?_); (· first | (go_simp; done) | (go_simp; with_reducible rfl) | (go_simp; simp_all))
  with_reducible refine rA ?_
  with_reducible refine wL 1 M whole_part Tryz.underlying27 (infoTTg18 (tG_sz (cellsF_size g gs))) ?_
  with_reducible refine wC M (HI2.out _ M.b) ?_; clear M; intro u M
  iterate 3 (with_reducible refine rA ?_)
  go_upto_region 6 with fail
  refine wp_region_lit ?_
  with_reducible refine wL 0 M whole_part Tryz.underlying27 (infoTTg18 (tG_sz (cellsF_size f fs))) ?_
  with_reducible refine wC M (HT.out _ M.b) ?_; clear M; intro u M
  with_reducible refine wC M (HQ.out _ M.b) ?_; clear M; intro u M
  with_reducible refine rA ?_
  (with_reducible refine rB (.agg (tG 0 0 cellsZ)) ?_ ?_); (· go_simp; (try with_reducible rfl))
  with_reducible refine rA ?_
  with_reducible refine wA (tG 0 0 cellsZ) M ?_; clear M; intro pB7 u M; refine ⟨_, by (simp only [pu, sB, s0, sS]; rfl), ?_⟩
  with_reducible refine wS 2 M (laid_all (tG_sz cellsZ_size) (tG_sz cellsZ_size)) (infoTTg18 (tG_sz cellsZ_size)) (tG_one cellsZ_one) (fit_2 (tG_sz cellsZ_size) (tG_sz cellsZ_size) (by decide)) ?_; clear M; intro u M
  with_reducible refine rA ?_
  go_upto_region 7 with fail
  refine wp_region_lit ?_
  with_reducible refine wL 0 M whole_part Tryz.underlying27 (infoTTg18 (tG_sz (cellsF_size f fs))) ?_
  with_reducible refine wC M (HI.out _ M.b) ?_; clear M; intro u M
  with_reducible refine rA ?_
  go_upto_region 8 with fail
  refine wp_region_lit ?_
  with_reducible refine wL 0 M whole_part Tryz.underlying27 (infoTTg18 (tG_sz (cellsF_size f fs))) ?_
  with_reducible refine wC M (HT.out _ M.b) ?_; clear M; intro u M
  iterate 2 (with_reducible refine rA ?_)
  with_reducible refine wL 2 M whole_part Tryz.underlying27 (infoTTg18 (tG_sz cellsZ_size)) ?_
  (with_reducible refine rB (.agg (tG 0 0 cellsZ)) ?_ ?_); (· go_simp; rfl)
  iterate 7 (with_reducible refine rA ?_)
  with_reducible refine wC M (HL.out _ M.b) ?_; clear M; intro u M
  iterate 2 (with_reducible refine rA ?_)
  go_wp2_with fail
  go_ret
  exact ⟨rfl, M.b⟩

set_option maxHeartbeats 8000000 in
set_option maxRecDepth 100000 in
theorem bkNVT (k n : Int) (f : Fil.Flt) (fs : ByteArray) (s u : ByteArray) (w : World)
    (HL : Hid (∀ W, Below w.heap.size w W → Calls Tryz.prog 8 #[] W fun e w' => e = .returned (.bool true) ∧ Below W.heap.size W w')) (hl : decide (100 < (fs.size : Int)) = false) (hm : decide (500 < (s.size : Int)) = false) (HT : Hid (∀ W, Below w.heap.size w W → Calls Tryz.prog 13 #[.agg (tG k n (cellsF f fs))] W fun e w' => e = .returned (.string u) ∧ Below W.heap.size W w')) (HQ : Hid (∀ W, Below w.heap.size w W → Calls Tryz.prog 15 #[.string u] W fun e w' => e = .returned (.tuple #[.agg (tG k n (cellsF f fs)), .int .i64 0]) ∧ Below W.heap.size W w')) (HI : Hid (∀ W, Below w.heap.size w W → Calls Tryz.prog 9 #[.agg (tG k n (cellsF f fs))] W fun e w' => e = .returned (.bool true) ∧ Below W.heap.size W w')) (HP : Hid (∀ W, Below w.heap.size w W → Calls Tryz.prog 15 #[.string s] W fun e w' => e = .returned (.tuple #[.agg (tG 0 0 cellsZ), .int .i64 3]) ∧ Below W.heap.size W w')) (hq : ∀ W : World, (Op.equalIn 10000 27 (.agg (tG k n (cellsF f fs))) (.agg (tG k n (cellsF f fs)))).run Tryz.prog W = .ok true W) :
    Calls Tryz.prog 5 #[.agg (tG k n (cellsF f fs)), .string s] w fun e w' => e = .returned (.bool true) ∧ Below w.heap.size w w' := by

  have M := Mm.nil w
  go_enter Tryz.func5, Tryz.ntmps5
  go_upto_region 0 with fail
  refine wp_region_lit ?_
  with_reducible refine wA (tG k n (cellsF f fs)) M ?_; clear M; intro pB2 u M; refine ⟨_, by (simp only [pu, sB, s0, sS]; rfl), ?_⟩
  with_reducible refine rA ?_
  go_upto_region 1 with fail
  refine wp_region_lit ?_
  iterate 2 (with_reducible refine rA ?_)
  with_reducible refine wLv 0 M (show ((tG k n (cellsF f fs)))[9]? = some (.string fs) from (tG_f 7 _ rfl)) Tryz.underlying9 ?_
  iterate 7 (with_reducible refine rA ?_)
  go_upto_region 3 with fail
  refine wp_region_lit ?_
  with_reducible refine rA ?_
  with_reducible refine wC M (HP.out _ M.b) ?_; clear M; intro u M
  with_reducible refine rA ?_
  (with_reducible refine rB (.agg (tG 0 0 cellsZ)) ?_ ?_); (· go_simp; (try with_reducible rfl))
  with_reducible refine rA ?_
  with_reducible refine wA (tG 0 0 cellsZ) M ?_; clear M; intro pB5 u M; refine ⟨_, by (simp only [pu, sB, s0, sS]; rfl), ?_⟩
  with_reducible refine wS 1 M (laid_all (tG_sz cellsZ_size) (tG_sz cellsZ_size)) (infoTTg18 (tG_sz cellsZ_size)) (tG_one cellsZ_one) (fit_2 (tG_sz cellsZ_size) (tG_sz cellsZ_size) (by decide)) ?_; clear M; intro u M
  with_reducible refine rA ?_
  go_upto_region 4 with fail
  refine wp_region_lit ?_
  iterate 3 (with_reducible refine rA ?_)
  iterate 9 (with_reducible refine kA ?_)
  with_reducible refine rA ?_
  go_upto_region 6 with fail
  refine wp_region_lit ?_
  with_reducible refine wL 0 M whole_part Tryz.underlying27 (infoTTg18 (tG_sz (cellsF_size f fs))) ?_
  with_reducible refine wC M (HT.out _ M.b) ?_; clear M; intro u M
  with_reducible refine wC M (HQ.out _ M.b) ?_; clear M; intro u M
  with_reducible refine rA ?_
  (with_reducible refine rB (.agg (tG k n (cellsF f fs))) ?_ ?_); (· go_simp; (try with_reducible rfl))
  with_reducible refine rA ?_
  with_reducible refine wA (tG 0 0 cellsZ) M ?_; clear M; intro pB7 u M; refine ⟨_, by (simp only [pu, sB, s0, sS]; rfl), ?_⟩
  with_reducible refine wS 2 M (laid_all (tG_sz (cellsF_size f fs)) (tG_sz cellsZ_size)) (infoTTg18 (tG_sz (cellsF_size f fs))) (tG_one (cellsF_one f fs)) (fit_2 (tG_sz cellsZ_size) (tG_sz (cellsF_size f fs)) (by decide)) ?_; clear M; intro u M
  with_reducible refine rA ?_
  go_upto_region 7 with fail
  refine wp_region_lit ?_
  with_reducible refine wL 0 M whole_part Tryz.underlying27 (infoTTg18 (tG_sz (cellsF_size f fs))) ?_
  with_reducible refine wC M (HI.out _ M.b) ?_; clear M; intro u M
  with_reducible refine rA ?_
  go_upto_region 9 with fail
  refine wp_region_lit ?_
  with_reducible refine wL 2 M whole_part Tryz.underlying27 (infoTTg18 (tG_sz (cellsF_size f fs))) ?_
  with_reducible refine wL 0 M whole_part Tryz.underlying27 (infoTTg18 (tG_sz (cellsF_size f fs))) ?_
  iterate 6 (with_reducible refine rA ?_)
  with_reducible refine wC M (HL.out _ M.b) ?_; clear M; intro u M
  iterate 2 (with_reducible refine rA ?_)
  go_wp2_with fail
  go_ret
  exact ⟨rfl, M.b⟩

set_option maxHeartbeats 8000000 in
set_option maxRecDepth 100000 in
theorem bkNBT (k n : Int) (f : Fil.Flt) (fs : ByteArray) (s u : ByteArray) (w : World)
    (HL : Hid (∀ W, Below w.heap.size w W → Calls Tryz.prog 8 #[] W fun e w' => e = .returned (.bool true) ∧ Below W.heap.size W w')) (hl : decide (100 < (fs.size : Int)) = false) (hm : decide (500 < (s.size : Int)) = false) (HT : Hid (∀ W, Below w.heap.size w W → Calls Tryz.prog 13 #[.agg (tG k n (cellsF f fs))] W fun e w' => e = .returned (.string u) ∧ Below W.heap.size W w')) (hu : u.toList.isEmpty = true) (HQ : Hid (∀ W, Below w.heap.size w W → Calls Tryz.prog 15 #[.string u] W fun e w' => e = .returned (.tuple #[.agg (tG 0 0 cellsZ), .int .i64 3]) ∧ Below W.heap.size W w')) (HI : Hid (∀ W, Below w.heap.size w W → Calls Tryz.prog 9 #[.agg (tG k n (cellsF f fs))] W fun e w' => e = .returned (.bool false) ∧ Below W.heap.size W w')) (HP : Hid (∀ W, Below w.heap.size w W → Calls Tryz.prog 15 #[.string s] W fun e w' => e = .returned (.tuple #[.agg (tG 0 0 cellsZ), .int .i64 3]) ∧ Below W.heap.size W w')) (hz : ∀ W : World, (Op.equalIn 10000 27 (.agg (tG 0 0 cellsZ)) (.agg (tG 0 0 cellsZ))).run Tryz.prog W = .ok true W) :
    Calls Tryz.prog 5 #[.agg (tG k n (cellsF f fs)), .string s] w fun e w' => e = .returned (.bool true) ∧ Below w.heap.size w w' := by

  have M := Mm.nil w
  go_enter Tryz.func5, Tryz.ntmps5
  go_upto_region 0 with fail
  refine wp_region_lit ?_
  with_reducible refine wA (tG k n (cellsF f fs)) M ?_; clear M; intro pB2 u M; refine ⟨_, by (simp only [pu, sB, s0, sS]; rfl), ?_⟩
  with_reducible refine rA ?_
  go_upto_region 1 with fail
  refine wp_region_lit ?_
  iterate 2 (with_reducible refine rA ?_)
  with_reducible refine wLv 0 M (show ((tG k n (cellsF f fs)))[9]? = some (.string fs) from (tG_f 7 _ rfl)) Tryz.underlying9 ?_
  iterate 7 (with_reducible refine rA ?_)
  go_upto_region 3 with fail
  refine wp_region_lit ?_
  with_reducible refine rA ?_
  with_reducible refine wC M (HP.out _ M.b) ?_; clear M; intro u M
  with_reducible refine rA ?_
  (with_reducible refine rB (.agg (tG 0 0 cellsZ)) ?_ ?_); (· go_simp; (try with_reducible rfl))
  with_reducible refine rA ?_
  with_reducible refine wA (tG 0 0 cellsZ) M ?_; clear M; intro pB5 u M; refine ⟨_, by (simp only [pu, sB, s0, sS]; rfl), ?_⟩
  with_reducible refine wS 1 M (laid_all (tG_sz cellsZ_size) (tG_sz cellsZ_size)) (infoTTg18 (tG_sz cellsZ_size)) (tG_one cellsZ_one) (fit_2 (tG_sz cellsZ_size) (tG_sz cellsZ_size) (by decide)) ?_; clear M; intro u M
  with_reducible refine rA ?_
  go_upto_region 4 with fail
  refine wp_region_lit ?_
  iterate 3 (with_reducible refine rA ?_)
  iterate 9 (with_reducible refine kA ?_)
  with_reducible refine rA ?_
  go_upto_region 6 with fail
  refine wp_region_lit ?_
  with_reducible refine wL 0 M whole_part Tryz.underlying27 (infoTTg18 (tG_sz (cellsF_size f fs))) ?_
  with_reducible refine wC M (HT.out _ M.b) ?_; clear M; intro u M
  with_reducible refine wC M (HQ.out _ M.b) ?_; clear M; intro u M
  with_reducible refine rA ?_
  (with_reducible refine rB (.agg (tG 0 0 cellsZ)) ?_ ?_); (· go_simp; (try with_reducible rfl))
  with_reducible refine rA ?_
  with_reducible refine wA (tG 0 0 cellsZ) M ?_; clear M; intro pB7 u M; refine ⟨_, by (simp only [pu, sB, s0, sS]; rfl), ?_⟩
  with_reducible refine wS 2 M (laid_all (tG_sz cellsZ_size) (tG_sz cellsZ_size)) (infoTTg18 (tG_sz cellsZ_size)) (tG_one cellsZ_one) (fit_2 (tG_sz cellsZ_size) (tG_sz cellsZ_size) (by decide)) ?_; clear M; intro u M
  with_reducible refine rA ?_
  go_upto_region 7 with fail
  refine wp_region_lit ?_
  with_reducible refine wL 0 M whole_part Tryz.underlying27 (infoTTg18 (tG_sz (cellsF_size f fs))) ?_
  with_reducible refine wC M (HI.out _ M.b) ?_; clear M; intro u M
  with_reducible refine rA ?_
  go_upto_region 8 with fail
  refine wp_region_lit ?_
  with_reducible refine wL 0 M whole_part Tryz.underlying27 (infoTTg18 (tG_sz (cellsF_size f fs))) ?_
  with_reducible refine wC M (HT.out _ M.b) ?_; clear M; intro u M
  iterate 2 (with_reducible refine rA ?_)
  with_reducible refine wL 2 M whole_part Tryz.underlying27 (infoTTg18 (tG_sz cellsZ_size)) ?_
  (with_reducible refine rB (.agg (tG 0 0 cellsZ)) ?_ ?_); (· go_simp; rfl)
  iterate 7 (with_reducible refine rA ?_)
  with_reducible refine wC M (HL.out _ M.b) ?_; clear M; intro u M
  iterate 2 (with_reducible refine rA ?_)
  go_wp2_with fail
  go_ret
  exact ⟨rfl, M.b⟩
end Go.Proofs.YtfliogahkfimbaaGreatDoor
namespace Go.Proofs.YtfliogahkfimbaaGreatDoor
open Go.RowKit
open Wd (Bs)

set_option maxHeartbeats 8000000 in
set_option maxRecDepth 100000 in
theorem unBigT (k n : Int) (f : Fil.Flt) (fs : ByteArray) (n0 : Int) (w : World)
    (HL : Hid (∀ W, Below w.heap.size w W → Calls Tryz.prog 8 #[] W fun e w' => e = .returned (.bool true) ∧ Below W.heap.size W w')) (hl : decide (100 < (fs.size : Int)) = true) :
    Calls Tryz.prog 6 #[.agg (tG k n (cellsF f fs)), .int .i64 n0] w fun e w' => e = .returned (.bool true) ∧ Below w.heap.size w w' := by

  have M := Mm.nil w
  go_enter Tryz.func6, Tryz.ntmps6
  go_upto_region 0 with fail
  refine wp_region_lit ?_
  with_reducible refine wA (tG k n (cellsF f fs)) M ?_; clear M; intro pB2 u M; refine ⟨_, by (simp only [pu, sB, s0, sS]; rfl), ?_⟩
  with_reducible refine rA ?_
  go_upto_region 1 with fail
  refine wp_region_lit ?_
  iterate 2 (with_reducible refine rA ?_)
  with_reducible refine wLv 0 M (show ((tG k n (cellsF f fs)))[9]? = some (.string fs) from (tG_f 7 _ rfl)) Tryz.underlying9 ?_
  iterate 3 (with_reducible refine rA ?_)
  iterate 3 (with_reducible refine kA ?_)
  iterate 2 (with_reducible refine rA ?_)
  iterate 2 (with_reducible refine kA ?_)
  with_reducible refine rA ?_
  go_upto_region 2 with fail
  refine wp_region_lit ?_
  with_reducible refine wC M (HL.out _ M.b) ?_; clear M; intro u M
  with_reducible refine rA ?_
  go_wp2_with fail
  go_ret
  exact ⟨rfl, M.b⟩

theorem lay_types (f : Fil.Flt) (fs : ByteArray) (n : Int) : laidAt (cellsF f fs) 3 [.int .i64 n] = cellsF { f with types := n } fs := by
  unfold cellsF
  simp [laidAt]
theorem lay_zone (f : Fil.Flt) (fs : ByteArray) (n : Int) : laidAt (cellsF f fs) 0 [.int .i64 n] = cellsF { f with zone := n } fs := by
  unfold cellsF
  simp [laidAt]
theorem tG_pd {k n : Int} {F G : Array Value} (o : Nat) {v : Value} (e : laidAt F o [v] = G) (h : F.size = 16) (ho : o < 16 := by decide) : laidAt (tG k n F) (2 + o) [v] = tG k n G := by
  unfold tG
  exact cat_deep [#[.int .i64 k], #[.int .i64 n]] F G [] (o := 2) (p := o) (vs := [v]) rfl (by simp; omega) e
section
variable {P : Program} {a : Act} {w : World} {o : Oper}
theorem runSs {T : TypeId} {x : Operand} {b : Nat} {cs : Array Value} {D : TypeDesc} (ho : o.op = .load T x) (hx : a.eval x = .pointer (some ⟨b, 0, none⟩)) (hk : Blk w b cs T) (hu : P.underlying T = some D) (hd : D.isRow = true) (hn : (P.info? T).map (·.size) = some cs.size) : (execOp a.eval o).run P w = .ok (.value (.agg cs)) w := by
  unfold execOp
  simp only [ho, hx, Instr.loadAt, Instr.sureAddr, Sem.run_bind, Sem.run_pure, Result.andThen_ok, hk.readS hu hd hn]
end

set_option maxHeartbeats 8000000 in
set_option maxRecDepth 100000 in
theorem unBadT (k n : Int) (f : Fil.Flt) (fs : ByteArray) (n0 : Int) (w : World)
    (HL : Hid (∀ W, Below w.heap.size w W → Calls Tryz.prog 8 #[] W fun e w' => e = .returned (.bool true) ∧ Below W.heap.size W w')) (hl : decide (100 < (fs.size : Int)) = false) (HI : Hid (∀ W, Below w.heap.size w W → Calls Tryz.prog 9 #[.agg (tG k n (cellsF f fs))] W fun e w' => e = .returned (.bool false) ∧ Below W.heap.size W w')) :
    Calls Tryz.prog 6 #[.agg (tG k n (cellsF f fs)), .int .i64 n0] w fun e w' => e = .returned (.bool true) ∧ Below w.heap.size w w' := by

  have M := Mm.nil w
  go_enter Tryz.func6, Tryz.ntmps6
  go_upto_region 0 with fail
  refine wp_region_lit ?_
  with_reducible refine wA (tG k n (cellsF f fs)) M ?_; clear M; intro pB2 u M; refine ⟨_, by (simp only [pu, sB, s0, sS]; rfl), ?_⟩
  with_reducible refine rA ?_
  go_upto_region 1 with fail
  refine wp_region_lit ?_
  iterate 2 (with_reducible refine rA ?_)
  with_reducible refine wLv 0 M (show ((tG k n (cellsF f fs)))[9]? = some (.string fs) from (tG_f 7 _ rfl)) Tryz.underlying9 ?_
  iterate 3 (with_reducible refine rA ?_)
  with_reducible refine wL 0 M whole_part Tryz.underlying27 (infoTTg18 (tG_sz (cellsF_size f fs))) ?_
  with_reducible refine wC M (HI.out _ M.b) ?_; clear M; intro u M
  iterate 3 (with_reducible refine rA ?_)
  iterate 2 (with_reducible refine kA ?_)
  with_reducible refine rA ?_
  go_upto_region 2 with fail
  refine wp_region_lit ?_
  with_reducible refine wC M (HL.out _ M.b) ?_; clear M; intro u M
  with_reducible refine rA ?_
  go_wp2_with fail
  go_ret
  exact ⟨rfl, M.b⟩
end Go.Proofs.YtfliogahkfimbaaGreatDoor
namespace Go.Proofs.YtfliogahkfimbaaGreatDoor
open Go.RowKit
open Wd (Bs)

set_option maxHeartbeats 8000000 in
set_option maxRecDepth 100000 in
theorem unWhoT (k n : Int) (f : Fil.Flt) (fs : ByteArray) (n0 : Int) (w : World)
    (HL : Hid (∀ W, Below w.heap.size w W → Calls Tryz.prog 8 #[] W fun e w' => e = .returned (.bool true) ∧ Below W.heap.size W w')) (hl : decide (100 < (fs.size : Int)) = false) (HI : Hid (∀ W, Below w.heap.size w W → Calls Tryz.prog 9 #[.agg (tG k n (cellsF f fs))] W fun e w' => e = .returned (.bool true) ∧ Below W.heap.size W w')) (hn : decide (n0 < 1) = false) (HY : Hid (∀ W, Below w.heap.size w W → Calls Tryz.prog 9 #[.agg (tG k n (cellsF { f with types := n0 } fs))] W fun e w' => e = .returned (.bool false) ∧ Below W.heap.size W w')) (hk : k = 8 ∨ k = 10 ∨ k = 11 ∨ k = 12 ∨ k = 13) :
    Calls Tryz.prog 6 #[.agg (tG k n (cellsF f fs)), .int .i64 n0] w fun e w' => e = .returned (.bool true) ∧ Below w.heap.size w w' := by

  rcases hk with rfl | rfl | rfl | rfl | rfl

  · have M := Mm.nil w
    go_enter Tryz.func6, Tryz.ntmps6
    go_upto_region 0 with fail
    refine wp_region_lit ?_
    with_reducible refine wA (tG 8 n (cellsF f fs)) M ?_; clear M; intro pB2 u M; refine ⟨_, by (simp only [pu, sB, s0, sS]; rfl), ?_⟩
    with_reducible refine rA ?_
    go_upto_region 1 with fail
    refine wp_region_lit ?_
    iterate 2 (with_reducible refine rA ?_)
    with_reducible refine wLv 0 M (show ((tG 8 n (cellsF f fs)))[9]? = some (.string fs) from (tG_f 7 _ rfl)) Tryz.underlying9 ?_
    iterate 3 (with_reducible refine rA ?_)
    with_reducible refine wL 0 M whole_part Tryz.underlying27 (infoTTg18 (tG_sz (cellsF_size f fs))) ?_
    with_reducible refine wC M (HI.out _ M.b) ?_; clear M; intro u M
    iterate 6 (with_reducible refine rA ?_)
    go_upto_region 3 with fail
    refine wp_region_held_drew (S := fun W => Mm w W [(pB2, (tG 8 n (cellsF f fs)), 27)]) (by kernel_rfl) M.drew (fun M => ?_)
    generalize World.drew _ = u at M ⊢
    refine tB 0 (some 22) rfl rfl (.agg (tG 8 n (cellsF f fs))) (fun W h => runSs rfl rfl (h.at 0 rfl) Tryz.underlying27 rfl (infoTTg18 (tG_sz (cellsF_size f fs)))) M ?_
    refine tB 1 (some 23) rfl rfl (.agg (tG 8 n (cellsF f fs))) (fun W h => runSs rfl rfl (h.at 0 rfl) Tryz.underlying27 rfl (infoTTg18 (tG_sz (cellsF_size f fs)))) M ?_
    refine wpAnyH_ready (rs := [2, 3]) (by kernel_rfl) (by simp) ?_
    refine rdA (cs := (tG 0 0 cellsZ)) (T := 27) (some 5) rfl rfl rfl M (by go_simp; rfl) (fun pX u M => ⟨_, by (simp only [pu, sB, s0, sS]; rfl), M.take 1, ?_⟩) (rdA (cs := (tG 0 0 cellsZ)) (T := 27) (some 6) rfl rfl rfl M (by go_simp; rfl) (fun pY u M => ⟨_, by (simp only [pu, sB, s0, sS]; rfl), M.take 1, ?_⟩) AllReadyH.nil)
    · refine wpAnyH_ready (rs := [3]) (by kernel_rfl) (by simp) ?_
      refine rdA (cs := (tG 0 0 cellsZ)) (T := 27) (some 6) rfl rfl rfl M (by go_simp; rfl) (fun pY u M => ⟨_, by (simp only [pu, sB, s0, sS]; rfl), M.take 1, ?_⟩) AllReadyH.nil
      refine wpAnyH_ready (rs := [4]) (by kernel_rfl) (by simp) ?_
      refine rdS (k := 1) rfl rfl rfl rfl M rfl rfl rfl (Eq.trans ((tG_sz (cellsF_size f fs))) (Eq.symm ((tG_sz cellsZ_size)))) (infoTTg18 (tG_sz (cellsF_size f fs))) (tG_one (cellsF_one f fs)) (fun u M => ⟨M.take 1, ?_⟩)
      refine wpAnyH_ready (rs := [5]) (by kernel_rfl) (by simp) ?_
      refine rdS (k := 2) rfl rfl rfl rfl M rfl rfl rfl (Eq.trans ((tG_sz (cellsF_size f fs))) (Eq.symm ((tG_sz cellsZ_size)))) (infoTTg18 (tG_sz (cellsF_size f fs))) (tG_one (cellsF_one f fs)) (fun u M => ⟨M.take 1, ?_⟩)
      refine wpAnyH_done (by kernel_rfl) ?_ _
      go_upto_region 4 with fail
      refine wp_region_lit ?_
      iterate 2 (with_reducible refine rA ?_)
      with_reducible refine wV 1 M (tG_p1) (fit_1 (tG_sz (cellsF_size f fs)) (by decide)) ?_; clear M; intro u M
      go_upto_region 5 with fail
      refine wp_region_lit ?_
      iterate 3 (with_reducible refine rA ?_)
      with_reducible refine wV 2 M (tG_pd (F := (cellsF f fs)) (G := (cellsF { f with types := n0 } fs)) (v := .int .i64 n0) 3 (lay_types _ _ _) (cellsF_size f fs)) (fit_1 (tG_sz (cellsF_size f fs)) (by decide)) ?_; clear M; intro u M
      go_upto_region 6 with fail
      refine wp_region_lit ?_
      with_reducible refine rA ?_
      with_reducible refine wLv 0 M tG_0 Tryz.underlying3 ?_
      go_upto_region 7 with fail
      refine wp_region_lit ?_
      iterate 2 (with_reducible refine rA ?_)
      go_upto_region 12 with fail
      refine wp_region_lit ?_
      with_reducible refine wL 2 M whole_part Tryz.underlying27 (infoTTg18 (tG_sz (cellsF_size _ _))) ?_
      with_reducible refine wC M (HY.out _ M.b) ?_; clear M; intro u M
      iterate 2 (with_reducible refine rA ?_)
      with_reducible refine wC M (HL.out _ M.b) ?_; clear M; intro u M
      iterate 2 (with_reducible refine rA ?_)
      go_wp2_with fail
      go_ret
      exact ⟨rfl, M.b⟩
    · refine wpAnyH_ready (rs := [2]) (by kernel_rfl) (by simp) ?_
      refine rdA (cs := (tG 0 0 cellsZ)) (T := 27) (some 5) rfl rfl rfl M (by go_simp; rfl) (fun pX u M => ⟨_, by (simp only [pu, sB, s0, sS]; rfl), M.take 1, ?_⟩) AllReadyH.nil
      refine wpAnyH_ready (rs := [4]) (by kernel_rfl) (by simp) ?_
      refine rdS (k := 2) rfl rfl rfl rfl M rfl rfl rfl (Eq.trans ((tG_sz (cellsF_size f fs))) (Eq.symm ((tG_sz cellsZ_size)))) (infoTTg18 (tG_sz (cellsF_size f fs))) (tG_one (cellsF_one f fs)) (fun u M => ⟨M.take 1, ?_⟩)
      refine wpAnyH_ready (rs := [5]) (by kernel_rfl) (by simp) ?_
      refine rdS (k := 1) rfl rfl rfl rfl M rfl rfl rfl (Eq.trans ((tG_sz (cellsF_size f fs))) (Eq.symm ((tG_sz cellsZ_size)))) (infoTTg18 (tG_sz (cellsF_size f fs))) (tG_one (cellsF_one f fs)) (fun u M => ⟨M.take 1, ?_⟩)
      refine wpAnyH_done (by kernel_rfl) ?_ _
      go_upto_region 4 with fail
      refine wp_region_lit ?_
      iterate 2 (with_reducible refine rA ?_)
      with_reducible refine wV 2 M (tG_p1) (fit_1 (tG_sz (cellsF_size f fs)) (by decide)) ?_; clear M; intro u M
      go_upto_region 5 with fail
      refine wp_region_lit ?_
      iterate 3 (with_reducible refine rA ?_)
      with_reducible refine wV 1 M (tG_pd (F := (cellsF f fs)) (G := (cellsF { f with types := n0 } fs)) (v := .int .i64 n0) 3 (lay_types _ _ _) (cellsF_size f fs)) (fit_1 (tG_sz (cellsF_size f fs)) (by decide)) ?_; clear M; intro u M
      go_upto_region 6 with fail
      refine wp_region_lit ?_
      with_reducible refine rA ?_
      with_reducible refine wLv 0 M tG_0 Tryz.underlying3 ?_
      go_upto_region 7 with fail
      refine wp_region_lit ?_
      iterate 2 (with_reducible refine rA ?_)
      go_upto_region 12 with fail
      refine wp_region_lit ?_
      with_reducible refine wL 1 M whole_part Tryz.underlying27 (infoTTg18 (tG_sz (cellsF_size _ _))) ?_
      with_reducible refine wC M (HY.out _ M.b) ?_; clear M; intro u M
      iterate 2 (with_reducible refine rA ?_)
      with_reducible refine wC M (HL.out _ M.b) ?_; clear M; intro u M
      iterate 2 (with_reducible refine rA ?_)
      go_wp2_with fail
      go_ret
      exact ⟨rfl, M.b⟩

  · have M := Mm.nil w
    go_enter Tryz.func6, Tryz.ntmps6
    go_upto_region 0 with fail
    refine wp_region_lit ?_
    with_reducible refine wA (tG 10 n (cellsF f fs)) M ?_; clear M; intro pB2 u M; refine ⟨_, by (simp only [pu, sB, s0, sS]; rfl), ?_⟩
    with_reducible refine rA ?_
    go_upto_region 1 with fail
    refine wp_region_lit ?_
    iterate 2 (with_reducible refine rA ?_)
    with_reducible refine wLv 0 M (show ((tG 10 n (cellsF f fs)))[9]? = some (.string fs) from (tG_f 7 _ rfl)) Tryz.underlying9 ?_
    iterate 3 (with_reducible refine rA ?_)
    with_reducible refine wL 0 M whole_part Tryz.underlying27 (infoTTg18 (tG_sz (cellsF_size f fs))) ?_
    with_reducible refine wC M (HI.out _ M.b) ?_; clear M; intro u M
    iterate 6 (with_reducible refine rA ?_)
    go_upto_region 3 with fail
    refine wp_region_held_drew (S := fun W => Mm w W [(pB2, (tG 10 n (cellsF f fs)), 27)]) (by kernel_rfl) M.drew (fun M => ?_)
    generalize World.drew _ = u at M ⊢
    refine tB 0 (some 22) rfl rfl (.agg (tG 10 n (cellsF f fs))) (fun W h => runSs rfl rfl (h.at 0 rfl) Tryz.underlying27 rfl (infoTTg18 (tG_sz (cellsF_size f fs)))) M ?_
    refine tB 1 (some 23) rfl rfl (.agg (tG 10 n (cellsF f fs))) (fun W h => runSs rfl rfl (h.at 0 rfl) Tryz.underlying27 rfl (infoTTg18 (tG_sz (cellsF_size f fs)))) M ?_
    refine wpAnyH_ready (rs := [2, 3]) (by kernel_rfl) (by simp) ?_
    refine rdA (cs := (tG 0 0 cellsZ)) (T := 27) (some 5) rfl rfl rfl M (by go_simp; rfl) (fun pX u M => ⟨_, by (simp only [pu, sB, s0, sS]; rfl), M.take 1, ?_⟩) (rdA (cs := (tG 0 0 cellsZ)) (T := 27) (some 6) rfl rfl rfl M (by go_simp; rfl) (fun pY u M => ⟨_, by (simp only [pu, sB, s0, sS]; rfl), M.take 1, ?_⟩) AllReadyH.nil)
    · refine wpAnyH_ready (rs := [3]) (by kernel_rfl) (by simp) ?_
      refine rdA (cs := (tG 0 0 cellsZ)) (T := 27) (some 6) rfl rfl rfl M (by go_simp; rfl) (fun pY u M => ⟨_, by (simp only [pu, sB, s0, sS]; rfl), M.take 1, ?_⟩) AllReadyH.nil
      refine wpAnyH_ready (rs := [4]) (by kernel_rfl) (by simp) ?_
      refine rdS (k := 1) rfl rfl rfl rfl M rfl rfl rfl (Eq.trans ((tG_sz (cellsF_size f fs))) (Eq.symm ((tG_sz cellsZ_size)))) (infoTTg18 (tG_sz (cellsF_size f fs))) (tG_one (cellsF_one f fs)) (fun u M => ⟨M.take 1, ?_⟩)
      refine wpAnyH_ready (rs := [5]) (by kernel_rfl) (by simp) ?_
      refine rdS (k := 2) rfl rfl rfl rfl M rfl rfl rfl (Eq.trans ((tG_sz (cellsF_size f fs))) (Eq.symm ((tG_sz cellsZ_size)))) (infoTTg18 (tG_sz (cellsF_size f fs))) (tG_one (cellsF_one f fs)) (fun u M => ⟨M.take 1, ?_⟩)
      refine wpAnyH_done (by kernel_rfl) ?_ _
      go_upto_region 4 with fail
      refine wp_region_lit ?_
      iterate 2 (with_reducible refine rA ?_)
      with_reducible refine wV 1 M (tG_p1) (fit_1 (tG_sz (cellsF_size f fs)) (by decide)) ?_; clear M; intro u M
      go_upto_region 5 with fail
      refine wp_region_lit ?_
      iterate 3 (with_reducible refine rA ?_)
      with_reducible refine wV 2 M (tG_pd (F := (cellsF f fs)) (G := (cellsF { f with types := n0 } fs)) (v := .int .i64 n0) 3 (lay_types _ _ _) (cellsF_size f fs)) (fit_1 (tG_sz (cellsF_size f fs)) (by decide)) ?_; clear M; intro u M
      go_upto_region 6 with fail
      refine wp_region_lit ?_
      with_reducible refine rA ?_
      with_reducible refine wLv 0 M tG_0 Tryz.underlying3 ?_
      go_upto_region 7 with fail
      refine wp_region_lit ?_
      iterate 2 (with_reducible refine rA ?_)
      go_upto_region 8 with fail
      refine wp_region_lit ?_
      iterate 2 (with_reducible refine rA ?_)
      go_upto_region 12 with fail
      refine wp_region_lit ?_
      with_reducible refine wL 2 M whole_part Tryz.underlying27 (infoTTg18 (tG_sz (cellsF_size _ _))) ?_
      with_reducible refine wC M (HY.out _ M.b) ?_; clear M; intro u M
      iterate 2 (with_reducible refine rA ?_)
      with_reducible refine wC M (HL.out _ M.b) ?_; clear M; intro u M
      iterate 2 (with_reducible refine rA ?_)
      go_wp2_with fail
      go_ret
      exact ⟨rfl, M.b⟩
    · refine wpAnyH_ready (rs := [2]) (by kernel_rfl) (by simp) ?_
      refine rdA (cs := (tG 0 0 cellsZ)) (T := 27) (some 5) rfl rfl rfl M (by go_simp; rfl) (fun pX u M => ⟨_, by (simp only [pu, sB, s0, sS]; rfl), M.take 1, ?_⟩) AllReadyH.nil
      refine wpAnyH_ready (rs := [4]) (by kernel_rfl) (by simp) ?_
      refine rdS (k := 2) rfl rfl rfl rfl M rfl rfl rfl (Eq.trans ((tG_sz (cellsF_size f fs))) (Eq.symm ((tG_sz cellsZ_size)))) (infoTTg18 (tG_sz (cellsF_size f fs))) (tG_one (cellsF_one f fs)) (fun u M => ⟨M.take 1, ?_⟩)
      refine wpAnyH_ready (rs := [5]) (by kernel_rfl) (by simp) ?_
      refine rdS (k := 1) rfl rfl rfl rfl M rfl rfl rfl (Eq.trans ((tG_sz (cellsF_size f fs))) (Eq.symm ((tG_sz cellsZ_size)))) (infoTTg18 (tG_sz (cellsF_size f fs))) (tG_one (cellsF_one f fs)) (fun u M => ⟨M.take 1, ?_⟩)
      refine wpAnyH_done (by kernel_rfl) ?_ _
      go_upto_region 4 with fail
      refine wp_region_lit ?_
      iterate 2 (with_reducible refine rA ?_)
      with_reducible refine wV 2 M (tG_p1) (fit_1 (tG_sz (cellsF_size f fs)) (by decide)) ?_; clear M; intro u M
      go_upto_region 5 with fail
      refine wp_region_lit ?_
      iterate 3 (with_reducible refine rA ?_)
      with_reducible refine wV 1 M (tG_pd (F := (cellsF f fs)) (G := (cellsF { f with types := n0 } fs)) (v := .int .i64 n0) 3 (lay_types _ _ _) (cellsF_size f fs)) (fit_1 (tG_sz (cellsF_size f fs)) (by decide)) ?_; clear M; intro u M
      go_upto_region 6 with fail
      refine wp_region_lit ?_
      with_reducible refine rA ?_
      with_reducible refine wLv 0 M tG_0 Tryz.underlying3 ?_
      go_upto_region 7 with fail
      refine wp_region_lit ?_
      iterate 2 (with_reducible refine rA ?_)
      go_upto_region 8 with fail
      refine wp_region_lit ?_
      iterate 2 (with_reducible refine rA ?_)
      go_upto_region 12 with fail
      refine wp_region_lit ?_
      with_reducible refine wL 1 M whole_part Tryz.underlying27 (infoTTg18 (tG_sz (cellsF_size _ _))) ?_
      with_reducible refine wC M (HY.out _ M.b) ?_; clear M; intro u M
      iterate 2 (with_reducible refine rA ?_)
      with_reducible refine wC M (HL.out _ M.b) ?_; clear M; intro u M
      iterate 2 (with_reducible refine rA ?_)
      go_wp2_with fail
      go_ret
      exact ⟨rfl, M.b⟩

  · have M := Mm.nil w
    go_enter Tryz.func6, Tryz.ntmps6
    go_upto_region 0 with fail
    refine wp_region_lit ?_
    with_reducible refine wA (tG 11 n (cellsF f fs)) M ?_; clear M; intro pB2 u M; refine ⟨_, by (simp only [pu, sB, s0, sS]; rfl), ?_⟩
    with_reducible refine rA ?_
    go_upto_region 1 with fail
    refine wp_region_lit ?_
    iterate 2 (with_reducible refine rA ?_)
    with_reducible refine wLv 0 M (show ((tG 11 n (cellsF f fs)))[9]? = some (.string fs) from (tG_f 7 _ rfl)) Tryz.underlying9 ?_
    iterate 3 (with_reducible refine rA ?_)
    with_reducible refine wL 0 M whole_part Tryz.underlying27 (infoTTg18 (tG_sz (cellsF_size f fs))) ?_
    with_reducible refine wC M (HI.out _ M.b) ?_; clear M; intro u M
    iterate 6 (with_reducible refine rA ?_)
    go_upto_region 3 with fail
    refine wp_region_held_drew (S := fun W => Mm w W [(pB2, (tG 11 n (cellsF f fs)), 27)]) (by kernel_rfl) M.drew (fun M => ?_)
    generalize World.drew _ = u at M ⊢
    refine tB 0 (some 22) rfl rfl (.agg (tG 11 n (cellsF f fs))) (fun W h => runSs rfl rfl (h.at 0 rfl) Tryz.underlying27 rfl (infoTTg18 (tG_sz (cellsF_size f fs)))) M ?_
    refine tB 1 (some 23) rfl rfl (.agg (tG 11 n (cellsF f fs))) (fun W h => runSs rfl rfl (h.at 0 rfl) Tryz.underlying27 rfl (infoTTg18 (tG_sz (cellsF_size f fs)))) M ?_
    refine wpAnyH_ready (rs := [2, 3]) (by kernel_rfl) (by simp) ?_
    refine rdA (cs := (tG 0 0 cellsZ)) (T := 27) (some 5) rfl rfl rfl M (by go_simp; rfl) (fun pX u M => ⟨_, by (simp only [pu, sB, s0, sS]; rfl), M.take 1, ?_⟩) (rdA (cs := (tG 0 0 cellsZ)) (T := 27) (some 6) rfl rfl rfl M (by go_simp; rfl) (fun pY u M => ⟨_, by (simp only [pu, sB, s0, sS]; rfl), M.take 1, ?_⟩) AllReadyH.nil)
    · refine wpAnyH_ready (rs := [3]) (by kernel_rfl) (by simp) ?_
      refine rdA (cs := (tG 0 0 cellsZ)) (T := 27) (some 6) rfl rfl rfl M (by go_simp; rfl) (fun pY u M => ⟨_, by (simp only [pu, sB, s0, sS]; rfl), M.take 1, ?_⟩) AllReadyH.nil
      refine wpAnyH_ready (rs := [4]) (by kernel_rfl) (by simp) ?_
      refine rdS (k := 1) rfl rfl rfl rfl M rfl rfl rfl (Eq.trans ((tG_sz (cellsF_size f fs))) (Eq.symm ((tG_sz cellsZ_size)))) (infoTTg18 (tG_sz (cellsF_size f fs))) (tG_one (cellsF_one f fs)) (fun u M => ⟨M.take 1, ?_⟩)
      refine wpAnyH_ready (rs := [5]) (by kernel_rfl) (by simp) ?_
      refine rdS (k := 2) rfl rfl rfl rfl M rfl rfl rfl (Eq.trans ((tG_sz (cellsF_size f fs))) (Eq.symm ((tG_sz cellsZ_size)))) (infoTTg18 (tG_sz (cellsF_size f fs))) (tG_one (cellsF_one f fs)) (fun u M => ⟨M.take 1, ?_⟩)
      refine wpAnyH_done (by kernel_rfl) ?_ _
      go_upto_region 4 with fail
      refine wp_region_lit ?_
      iterate 2 (with_reducible refine rA ?_)
      with_reducible refine wV 1 M (tG_p1) (fit_1 (tG_sz (cellsF_size f fs)) (by decide)) ?_; clear M; intro u M
      go_upto_region 5 with fail
      refine wp_region_lit ?_
      iterate 3 (with_reducible refine rA ?_)
      with_reducible refine wV 2 M (tG_pd (F := (cellsF f fs)) (G := (cellsF { f with types := n0 } fs)) (v := .int .i64 n0) 3 (lay_types _ _ _) (cellsF_size f fs)) (fit_1 (tG_sz (cellsF_size f fs)) (by decide)) ?_; clear M; intro u M
      go_upto_region 6 with fail
      refine wp_region_lit ?_
      with_reducible refine rA ?_
      with_reducible refine wLv 0 M tG_0 Tryz.underlying3 ?_
      go_upto_region 7 with fail
      refine wp_region_lit ?_
      iterate 2 (with_reducible refine rA ?_)
      go_upto_region 8 with fail
      refine wp_region_lit ?_
      iterate 2 (with_reducible refine rA ?_)
      go_upto_region 9 with fail
      refine wp_region_lit ?_
      iterate 2 (with_reducible refine rA ?_)
      go_upto_region 12 with fail
      refine wp_region_lit ?_
      with_reducible refine wL 2 M whole_part Tryz.underlying27 (infoTTg18 (tG_sz (cellsF_size _ _))) ?_
      with_reducible refine wC M (HY.out _ M.b) ?_; clear M; intro u M
      iterate 2 (with_reducible refine rA ?_)
      with_reducible refine wC M (HL.out _ M.b) ?_; clear M; intro u M
      iterate 2 (with_reducible refine rA ?_)
      go_wp2_with fail
      go_ret
      exact ⟨rfl, M.b⟩
    · refine wpAnyH_ready (rs := [2]) (by kernel_rfl) (by simp) ?_
      refine rdA (cs := (tG 0 0 cellsZ)) (T := 27) (some 5) rfl rfl rfl M (by go_simp; rfl) (fun pX u M => ⟨_, by (simp only [pu, sB, s0, sS]; rfl), M.take 1, ?_⟩) AllReadyH.nil
      refine wpAnyH_ready (rs := [4]) (by kernel_rfl) (by simp) ?_
      refine rdS (k := 2) rfl rfl rfl rfl M rfl rfl rfl (Eq.trans ((tG_sz (cellsF_size f fs))) (Eq.symm ((tG_sz cellsZ_size)))) (infoTTg18 (tG_sz (cellsF_size f fs))) (tG_one (cellsF_one f fs)) (fun u M => ⟨M.take 1, ?_⟩)
      refine wpAnyH_ready (rs := [5]) (by kernel_rfl) (by simp) ?_
      refine rdS (k := 1) rfl rfl rfl rfl M rfl rfl rfl (Eq.trans ((tG_sz (cellsF_size f fs))) (Eq.symm ((tG_sz cellsZ_size)))) (infoTTg18 (tG_sz (cellsF_size f fs))) (tG_one (cellsF_one f fs)) (fun u M => ⟨M.take 1, ?_⟩)
      refine wpAnyH_done (by kernel_rfl) ?_ _
      go_upto_region 4 with fail
      refine wp_region_lit ?_
      iterate 2 (with_reducible refine rA ?_)
      with_reducible refine wV 2 M (tG_p1) (fit_1 (tG_sz (cellsF_size f fs)) (by decide)) ?_; clear M; intro u M
      go_upto_region 5 with fail
      refine wp_region_lit ?_
      iterate 3 (with_reducible refine rA ?_)
      with_reducible refine wV 1 M (tG_pd (F := (cellsF f fs)) (G := (cellsF { f with types := n0 } fs)) (v := .int .i64 n0) 3 (lay_types _ _ _) (cellsF_size f fs)) (fit_1 (tG_sz (cellsF_size f fs)) (by decide)) ?_; clear M; intro u M
      go_upto_region 6 with fail
      refine wp_region_lit ?_
      with_reducible refine rA ?_
      with_reducible refine wLv 0 M tG_0 Tryz.underlying3 ?_
      go_upto_region 7 with fail
      refine wp_region_lit ?_
      iterate 2 (with_reducible refine rA ?_)
      go_upto_region 8 with fail
      refine wp_region_lit ?_
      iterate 2 (with_reducible refine rA ?_)
      go_upto_region 9 with fail
      refine wp_region_lit ?_
      iterate 2 (with_reducible refine rA ?_)
      go_upto_region 12 with fail
      refine wp_region_lit ?_
      with_reducible refine wL 1 M whole_part Tryz.underlying27 (infoTTg18 (tG_sz (cellsF_size _ _))) ?_
      with_reducible refine wC M (HY.out _ M.b) ?_; clear M; intro u M
      iterate 2 (with_reducible refine rA ?_)
      with_reducible refine wC M (HL.out _ M.b) ?_; clear M; intro u M
      iterate 2 (with_reducible refine rA ?_)
      go_wp2_with fail
      go_ret
      exact ⟨rfl, M.b⟩

  · have M := Mm.nil w
    go_enter Tryz.func6, Tryz.ntmps6
    go_upto_region 0 with fail
    refine wp_region_lit ?_
    with_reducible refine wA (tG 12 n (cellsF f fs)) M ?_; clear M; intro pB2 u M; refine ⟨_, by (simp only [pu, sB, s0, sS]; rfl), ?_⟩
    with_reducible refine rA ?_
    go_upto_region 1 with fail
    refine wp_region_lit ?_
    iterate 2 (with_reducible refine rA ?_)
    with_reducible refine wLv 0 M (show ((tG 12 n (cellsF f fs)))[9]? = some (.string fs) from (tG_f 7 _ rfl)) Tryz.underlying9 ?_
    iterate 3 (with_reducible refine rA ?_)
    with_reducible refine wL 0 M whole_part Tryz.underlying27 (infoTTg18 (tG_sz (cellsF_size f fs))) ?_
    with_reducible refine wC M (HI.out _ M.b) ?_; clear M; intro u M
    iterate 6 (with_reducible refine rA ?_)
    go_upto_region 3 with fail
    refine wp_region_held_drew (S := fun W => Mm w W [(pB2, (tG 12 n (cellsF f fs)), 27)]) (by kernel_rfl) M.drew (fun M => ?_)
    generalize World.drew _ = u at M ⊢
    refine tB 0 (some 22) rfl rfl (.agg (tG 12 n (cellsF f fs))) (fun W h => runSs rfl rfl (h.at 0 rfl) Tryz.underlying27 rfl (infoTTg18 (tG_sz (cellsF_size f fs)))) M ?_
    refine tB 1 (some 23) rfl rfl (.agg (tG 12 n (cellsF f fs))) (fun W h => runSs rfl rfl (h.at 0 rfl) Tryz.underlying27 rfl (infoTTg18 (tG_sz (cellsF_size f fs)))) M ?_
    refine wpAnyH_ready (rs := [2, 3]) (by kernel_rfl) (by simp) ?_
    refine rdA (cs := (tG 0 0 cellsZ)) (T := 27) (some 5) rfl rfl rfl M (by go_simp; rfl) (fun pX u M => ⟨_, by (simp only [pu, sB, s0, sS]; rfl), M.take 1, ?_⟩) (rdA (cs := (tG 0 0 cellsZ)) (T := 27) (some 6) rfl rfl rfl M (by go_simp; rfl) (fun pY u M => ⟨_, by (simp only [pu, sB, s0, sS]; rfl), M.take 1, ?_⟩) AllReadyH.nil)
    · refine wpAnyH_ready (rs := [3]) (by kernel_rfl) (by simp) ?_
      refine rdA (cs := (tG 0 0 cellsZ)) (T := 27) (some 6) rfl rfl rfl M (by go_simp; rfl) (fun pY u M => ⟨_, by (simp only [pu, sB, s0, sS]; rfl), M.take 1, ?_⟩) AllReadyH.nil
      refine wpAnyH_ready (rs := [4]) (by kernel_rfl) (by simp) ?_
      refine rdS (k := 1) rfl rfl rfl rfl M rfl rfl rfl (Eq.trans ((tG_sz (cellsF_size f fs))) (Eq.symm ((tG_sz cellsZ_size)))) (infoTTg18 (tG_sz (cellsF_size f fs))) (tG_one (cellsF_one f fs)) (fun u M => ⟨M.take 1, ?_⟩)
      refine wpAnyH_ready (rs := [5]) (by kernel_rfl) (by simp) ?_
      refine rdS (k := 2) rfl rfl rfl rfl M rfl rfl rfl (Eq.trans ((tG_sz (cellsF_size f fs))) (Eq.symm ((tG_sz cellsZ_size)))) (infoTTg18 (tG_sz (cellsF_size f fs))) (tG_one (cellsF_one f fs)) (fun u M => ⟨M.take 1, ?_⟩)
      refine wpAnyH_done (by kernel_rfl) ?_ _
      go_upto_region 4 with fail
      refine wp_region_lit ?_
      iterate 2 (with_reducible refine rA ?_)
      with_reducible refine wV 1 M (tG_p1) (fit_1 (tG_sz (cellsF_size f fs)) (by decide)) ?_; clear M; intro u M
      go_upto_region 5 with fail
      refine wp_region_lit ?_
      iterate 3 (with_reducible refine rA ?_)
      with_reducible refine wV 2 M (tG_pd (F := (cellsF f fs)) (G := (cellsF { f with types := n0 } fs)) (v := .int .i64 n0) 3 (lay_types _ _ _) (cellsF_size f fs)) (fit_1 (tG_sz (cellsF_size f fs)) (by decide)) ?_; clear M; intro u M
      go_upto_region 6 with fail
      refine wp_region_lit ?_
      with_reducible refine rA ?_
      with_reducible refine wLv 0 M tG_0 Tryz.underlying3 ?_
      go_upto_region 7 with fail
      refine wp_region_lit ?_
      iterate 2 (with_reducible refine rA ?_)
      go_upto_region 8 with fail
      refine wp_region_lit ?_
      iterate 2 (with_reducible refine rA ?_)
      go_upto_region 9 with fail
      refine wp_region_lit ?_
      iterate 2 (with_reducible refine rA ?_)
      go_upto_region 10 with fail
      refine wp_region_lit ?_
      iterate 2 (with_reducible refine rA ?_)
      go_upto_region 12 with fail
      refine wp_region_lit ?_
      with_reducible refine wL 2 M whole_part Tryz.underlying27 (infoTTg18 (tG_sz (cellsF_size _ _))) ?_
      with_reducible refine wC M (HY.out _ M.b) ?_; clear M; intro u M
      iterate 2 (with_reducible refine rA ?_)
      with_reducible refine wC M (HL.out _ M.b) ?_; clear M; intro u M
      iterate 2 (with_reducible refine rA ?_)
      go_wp2_with fail
      go_ret
      exact ⟨rfl, M.b⟩
    · refine wpAnyH_ready (rs := [2]) (by kernel_rfl) (by simp) ?_
      refine rdA (cs := (tG 0 0 cellsZ)) (T := 27) (some 5) rfl rfl rfl M (by go_simp; rfl) (fun pX u M => ⟨_, by (simp only [pu, sB, s0, sS]; rfl), M.take 1, ?_⟩) AllReadyH.nil
      refine wpAnyH_ready (rs := [4]) (by kernel_rfl) (by simp) ?_
      refine rdS (k := 2) rfl rfl rfl rfl M rfl rfl rfl (Eq.trans ((tG_sz (cellsF_size f fs))) (Eq.symm ((tG_sz cellsZ_size)))) (infoTTg18 (tG_sz (cellsF_size f fs))) (tG_one (cellsF_one f fs)) (fun u M => ⟨M.take 1, ?_⟩)
      refine wpAnyH_ready (rs := [5]) (by kernel_rfl) (by simp) ?_
      refine rdS (k := 1) rfl rfl rfl rfl M rfl rfl rfl (Eq.trans ((tG_sz (cellsF_size f fs))) (Eq.symm ((tG_sz cellsZ_size)))) (infoTTg18 (tG_sz (cellsF_size f fs))) (tG_one (cellsF_one f fs)) (fun u M => ⟨M.take 1, ?_⟩)
      refine wpAnyH_done (by kernel_rfl) ?_ _
      go_upto_region 4 with fail
      refine wp_region_lit ?_
      iterate 2 (with_reducible refine rA ?_)
      with_reducible refine wV 2 M (tG_p1) (fit_1 (tG_sz (cellsF_size f fs)) (by decide)) ?_; clear M; intro u M
      go_upto_region 5 with fail
      refine wp_region_lit ?_
      iterate 3 (with_reducible refine rA ?_)
      with_reducible refine wV 1 M (tG_pd (F := (cellsF f fs)) (G := (cellsF { f with types := n0 } fs)) (v := .int .i64 n0) 3 (lay_types _ _ _) (cellsF_size f fs)) (fit_1 (tG_sz (cellsF_size f fs)) (by decide)) ?_; clear M; intro u M
      go_upto_region 6 with fail
      refine wp_region_lit ?_
      with_reducible refine rA ?_
      with_reducible refine wLv 0 M tG_0 Tryz.underlying3 ?_
      go_upto_region 7 with fail
      refine wp_region_lit ?_
      iterate 2 (with_reducible refine rA ?_)
      go_upto_region 8 with fail
      refine wp_region_lit ?_
      iterate 2 (with_reducible refine rA ?_)
      go_upto_region 9 with fail
      refine wp_region_lit ?_
      iterate 2 (with_reducible refine rA ?_)
      go_upto_region 10 with fail
      refine wp_region_lit ?_
      iterate 2 (with_reducible refine rA ?_)
      go_upto_region 12 with fail
      refine wp_region_lit ?_
      with_reducible refine wL 1 M whole_part Tryz.underlying27 (infoTTg18 (tG_sz (cellsF_size _ _))) ?_
      with_reducible refine wC M (HY.out _ M.b) ?_; clear M; intro u M
      iterate 2 (with_reducible refine rA ?_)
      with_reducible refine wC M (HL.out _ M.b) ?_; clear M; intro u M
      iterate 2 (with_reducible refine rA ?_)
      go_wp2_with fail
      go_ret
      exact ⟨rfl, M.b⟩

  · have M := Mm.nil w
    go_enter Tryz.func6, Tryz.ntmps6
    go_upto_region 0 with fail
    refine wp_region_lit ?_
    with_reducible refine wA (tG 13 n (cellsF f fs)) M ?_; clear M; intro pB2 u M; refine ⟨_, by (simp only [pu, sB, s0, sS]; rfl), ?_⟩
    with_reducible refine rA ?_
    go_upto_region 1 with fail
    refine wp_region_lit ?_
    iterate 2 (with_reducible refine rA ?_)
    with_reducible refine wLv 0 M (show ((tG 13 n (cellsF f fs)))[9]? = some (.string fs) from (tG_f 7 _ rfl)) Tryz.underlying9 ?_
    iterate 3 (with_reducible refine rA ?_)
    with_reducible refine wL 0 M whole_part Tryz.underlying27 (infoTTg18 (tG_sz (cellsF_size f fs))) ?_
    with_reducible refine wC M (HI.out _ M.b) ?_; clear M; intro u M
    iterate 6 (with_reducible refine rA ?_)
    go_upto_region 3 with fail
    refine wp_region_held_drew (S := fun W => Mm w W [(pB2, (tG 13 n (cellsF f fs)), 27)]) (by kernel_rfl) M.drew (fun M => ?_)
    generalize World.drew _ = u at M ⊢
    refine tB 0 (some 22) rfl rfl (.agg (tG 13 n (cellsF f fs))) (fun W h => runSs rfl rfl (h.at 0 rfl) Tryz.underlying27 rfl (infoTTg18 (tG_sz (cellsF_size f fs)))) M ?_
    refine tB 1 (some 23) rfl rfl (.agg (tG 13 n (cellsF f fs))) (fun W h => runSs rfl rfl (h.at 0 rfl) Tryz.underlying27 rfl (infoTTg18 (tG_sz (cellsF_size f fs)))) M ?_
    refine wpAnyH_ready (rs := [2, 3]) (by kernel_rfl) (by simp) ?_
    refine rdA (cs := (tG 0 0 cellsZ)) (T := 27) (some 5) rfl rfl rfl M (by go_simp; rfl) (fun pX u M => ⟨_, by (simp only [pu, sB, s0, sS]; rfl), M.take 1, ?_⟩) (rdA (cs := (tG 0 0 cellsZ)) (T := 27) (some 6) rfl rfl rfl M (by go_simp; rfl) (fun pY u M => ⟨_, by (simp only [pu, sB, s0, sS]; rfl), M.take 1, ?_⟩) AllReadyH.nil)
    · refine wpAnyH_ready (rs := [3]) (by kernel_rfl) (by simp) ?_
      refine rdA (cs := (tG 0 0 cellsZ)) (T := 27) (some 6) rfl rfl rfl M (by go_simp; rfl) (fun pY u M => ⟨_, by (simp only [pu, sB, s0, sS]; rfl), M.take 1, ?_⟩) AllReadyH.nil
      refine wpAnyH_ready (rs := [4]) (by kernel_rfl) (by simp) ?_
      refine rdS (k := 1) rfl rfl rfl rfl M rfl rfl rfl (Eq.trans ((tG_sz (cellsF_size f fs))) (Eq.symm ((tG_sz cellsZ_size)))) (infoTTg18 (tG_sz (cellsF_size f fs))) (tG_one (cellsF_one f fs)) (fun u M => ⟨M.take 1, ?_⟩)
      refine wpAnyH_ready (rs := [5]) (by kernel_rfl) (by simp) ?_
      refine rdS (k := 2) rfl rfl rfl rfl M rfl rfl rfl (Eq.trans ((tG_sz (cellsF_size f fs))) (Eq.symm ((tG_sz cellsZ_size)))) (infoTTg18 (tG_sz (cellsF_size f fs))) (tG_one (cellsF_one f fs)) (fun u M => ⟨M.take 1, ?_⟩)
      refine wpAnyH_done (by kernel_rfl) ?_ _
      go_upto_region 4 with fail
      refine wp_region_lit ?_
      iterate 2 (with_reducible refine rA ?_)
      with_reducible refine wV 1 M (tG_p1) (fit_1 (tG_sz (cellsF_size f fs)) (by decide)) ?_; clear M; intro u M
      go_upto_region 5 with fail
      refine wp_region_lit ?_
      iterate 3 (with_reducible refine rA ?_)
      with_reducible refine wV 2 M (tG_pd (F := (cellsF f fs)) (G := (cellsF { f with types := n0 } fs)) (v := .int .i64 n0) 3 (lay_types _ _ _) (cellsF_size f fs)) (fit_1 (tG_sz (cellsF_size f fs)) (by decide)) ?_; clear M; intro u M
      go_upto_region 6 with fail
      refine wp_region_lit ?_
      with_reducible refine rA ?_
      with_reducible refine wLv 0 M tG_0 Tryz.underlying3 ?_
      go_upto_region 7 with fail
      refine wp_region_lit ?_
      iterate 2 (with_reducible refine rA ?_)
      go_upto_region 8 with fail
      refine wp_region_lit ?_
      iterate 2 (with_reducible refine rA ?_)
      go_upto_region 9 with fail
      refine wp_region_lit ?_
      iterate 2 (with_reducible refine rA ?_)
      go_upto_region 10 with fail
      refine wp_region_lit ?_
      iterate 2 (with_reducible refine rA ?_)
      go_upto_region 11 with fail
      refine wp_region_lit ?_
      iterate 2 (with_reducible refine rA ?_)
      go_upto_region 12 with fail
      refine wp_region_lit ?_
      with_reducible refine wL 2 M whole_part Tryz.underlying27 (infoTTg18 (tG_sz (cellsF_size _ _))) ?_
      with_reducible refine wC M (HY.out _ M.b) ?_; clear M; intro u M
      iterate 2 (with_reducible refine rA ?_)
      with_reducible refine wC M (HL.out _ M.b) ?_; clear M; intro u M
      iterate 2 (with_reducible refine rA ?_)
      go_wp2_with fail
      go_ret
      exact ⟨rfl, M.b⟩
    · refine wpAnyH_ready (rs := [2]) (by kernel_rfl) (by simp) ?_
      refine rdA (cs := (tG 0 0 cellsZ)) (T := 27) (some 5) rfl rfl rfl M (by go_simp; rfl) (fun pX u M => ⟨_, by (simp only [pu, sB, s0, sS]; rfl), M.take 1, ?_⟩) AllReadyH.nil
      refine wpAnyH_ready (rs := [4]) (by kernel_rfl) (by simp) ?_
      refine rdS (k := 2) rfl rfl rfl rfl M rfl rfl rfl (Eq.trans ((tG_sz (cellsF_size f fs))) (Eq.symm ((tG_sz cellsZ_size)))) (infoTTg18 (tG_sz (cellsF_size f fs))) (tG_one (cellsF_one f fs)) (fun u M => ⟨M.take 1, ?_⟩)
      refine wpAnyH_ready (rs := [5]) (by kernel_rfl) (by simp) ?_
      refine rdS (k := 1) rfl rfl rfl rfl M rfl rfl rfl (Eq.trans ((tG_sz (cellsF_size f fs))) (Eq.symm ((tG_sz cellsZ_size)))) (infoTTg18 (tG_sz (cellsF_size f fs))) (tG_one (cellsF_one f fs)) (fun u M => ⟨M.take 1, ?_⟩)
      refine wpAnyH_done (by kernel_rfl) ?_ _
      go_upto_region 4 with fail
      refine wp_region_lit ?_
      iterate 2 (with_reducible refine rA ?_)
      with_reducible refine wV 2 M (tG_p1) (fit_1 (tG_sz (cellsF_size f fs)) (by decide)) ?_; clear M; intro u M
      go_upto_region 5 with fail
      refine wp_region_lit ?_
      iterate 3 (with_reducible refine rA ?_)
      with_reducible refine wV 1 M (tG_pd (F := (cellsF f fs)) (G := (cellsF { f with types := n0 } fs)) (v := .int .i64 n0) 3 (lay_types _ _ _) (cellsF_size f fs)) (fit_1 (tG_sz (cellsF_size f fs)) (by decide)) ?_; clear M; intro u M
      go_upto_region 6 with fail
      refine wp_region_lit ?_
      with_reducible refine rA ?_
      with_reducible refine wLv 0 M tG_0 Tryz.underlying3 ?_
      go_upto_region 7 with fail
      refine wp_region_lit ?_
      iterate 2 (with_reducible refine rA ?_)
      go_upto_region 8 with fail
      refine wp_region_lit ?_
      iterate 2 (with_reducible refine rA ?_)
      go_upto_region 9 with fail
      refine wp_region_lit ?_
      iterate 2 (with_reducible refine rA ?_)
      go_upto_region 10 with fail
      refine wp_region_lit ?_
      iterate 2 (with_reducible refine rA ?_)
      go_upto_region 11 with fail
      refine wp_region_lit ?_
      iterate 2 (with_reducible refine rA ?_)
      go_upto_region 12 with fail
      refine wp_region_lit ?_
      with_reducible refine wL 1 M whole_part Tryz.underlying27 (infoTTg18 (tG_sz (cellsF_size _ _))) ?_
      with_reducible refine wC M (HY.out _ M.b) ?_; clear M; intro u M
      iterate 2 (with_reducible refine rA ?_)
      with_reducible refine wC M (HL.out _ M.b) ?_; clear M; intro u M
      iterate 2 (with_reducible refine rA ?_)
      go_wp2_with fail
      go_ret
      exact ⟨rfl, M.b⟩
end Go.Proofs.YtfliogahkfimbaaGreatDoor
namespace Go.Proofs.YtfliogahkfimbaaGreatDoor
open Go.RowKit
open Wd (Bs)

set_option maxHeartbeats 8000000 in
set_option maxRecDepth 100000 in
theorem unLessT (k n : Int) (f : Fil.Flt) (fs : ByteArray) (n0 : Int) (w : World)
    (HL : Hid (∀ W, Below w.heap.size w W → Calls Tryz.prog 8 #[] W fun e w' => e = .returned (.bool true) ∧ Below W.heap.size W w')) (hl : decide (100 < (fs.size : Int)) = false) (HI : Hid (∀ W, Below w.heap.size w W → Calls Tryz.prog 9 #[.agg (tG k n (cellsF f fs))] W fun e w' => e = .returned (.bool true) ∧ Below W.heap.size W w')) (hn : decide (n0 < 1) = true) :
    Calls Tryz.prog 6 #[.agg (tG k n (cellsF f fs)), .int .i64 n0] w fun e w' => e = .returned (.bool true) ∧ Below w.heap.size w w' := by

  have M := Mm.nil w
  go_enter Tryz.func6, Tryz.ntmps6
  go_upto_region 0 with fail
  refine wp_region_lit ?_
  with_reducible refine wA (tG k n (cellsF f fs)) M ?_; clear M; intro pB2 u M; refine ⟨_, by (simp only [pu, sB, s0, sS]; rfl), ?_⟩
  with_reducible refine rA ?_
  go_upto_region 1 with fail
  refine wp_region_lit ?_
  iterate 2 (with_reducible refine rA ?_)
  with_reducible refine wLv 0 M (show ((tG k n (cellsF f fs)))[9]? = some (.string fs) from (tG_f 7 _ rfl)) Tryz.underlying9 ?_
  iterate 3 (with_reducible refine rA ?_)
  with_reducible refine wL 0 M whole_part Tryz.underlying27 (infoTTg18 (tG_sz (cellsF_size f fs))) ?_
  with_reducible refine wC M (HI.out _ M.b) ?_; clear M; intro u M
  iterate 6 (with_reducible refine rA ?_)
  go_upto_region 2 with fail
  refine wp_region_lit ?_
  with_reducible refine wC M (HL.out _ M.b) ?_; clear M; intro u M
  with_reducible refine rA ?_
  go_wp2_with fail
  go_ret
  exact ⟨rfl, M.b⟩
end Go.Proofs.YtfliogahkfimbaaGreatDoor
namespace Go.Proofs.YtfliogahkfimbaaGreatDoor
open Go.RowKit
open Wd (Bs)

set_option maxHeartbeats 8000000 in
set_option maxRecDepth 100000 in
theorem unCastT (k n : Int) (f : Fil.Flt) (fs : ByteArray) (n0 : Int) (w : World)
    (HL : Hid (∀ W, Below w.heap.size w W → Calls Tryz.prog 8 #[] W fun e w' => e = .returned (.bool true) ∧ Below W.heap.size W w')) (hl : decide (100 < (fs.size : Int)) = false) (HI : Hid (∀ W, Below w.heap.size w W → Calls Tryz.prog 9 #[.agg (tG k n (cellsF f fs))] W fun e w' => e = .returned (.bool true) ∧ Below W.heap.size W w')) (hn : decide (n0 < 1) = false) (HY : Hid (∀ W, Below w.heap.size w W → Calls Tryz.prog 9 #[.agg (tG k n (cellsF { f with zone := 0 } fs))] W fun e w' => e = .returned (.bool false) ∧ Below W.heap.size W w')) (hk : k = 9) :
    Calls Tryz.prog 6 #[.agg (tG k n (cellsF f fs)), .int .i64 n0] w fun e w' => e = .returned (.bool true) ∧ Below w.heap.size w w' := by

  subst hk

  have M := Mm.nil w
  go_enter Tryz.func6, Tryz.ntmps6
  go_upto_region 0 with fail
  refine wp_region_lit ?_
  with_reducible refine wA (tG 9 n (cellsF f fs)) M ?_; clear M; intro pB2 u M; refine ⟨_, by (simp only [pu, sB, s0, sS]; rfl), ?_⟩
  with_reducible refine rA ?_
  go_upto_region 1 with fail
  refine wp_region_lit ?_
  iterate 2 (with_reducible refine rA ?_)
  with_reducible refine wLv 0 M (show ((tG 9 n (cellsF f fs)))[9]? = some (.string fs) from (tG_f 7 _ rfl)) Tryz.underlying9 ?_
  iterate 3 (with_reducible refine rA ?_)
  with_reducible refine wL 0 M whole_part Tryz.underlying27 (infoTTg18 (tG_sz (cellsF_size f fs))) ?_
  with_reducible refine wC M (HI.out _ M.b) ?_; clear M; intro u M
  iterate 6 (with_reducible refine rA ?_)
  go_upto_region 3 with fail
  refine wp_region_held_drew (S := fun W => Mm w W [(pB2, (tG 9 n (cellsF f fs)), 27)]) (by kernel_rfl) M.drew (fun M => ?_)
  generalize World.drew _ = u at M ⊢
  refine tB 0 (some 22) rfl rfl (.agg (tG 9 n (cellsF f fs))) (fun W h => runSs rfl rfl (h.at 0 rfl) Tryz.underlying27 rfl (infoTTg18 (tG_sz (cellsF_size f fs)))) M ?_
  refine tB 1 (some 23) rfl rfl (.agg (tG 9 n (cellsF f fs))) (fun W h => runSs rfl rfl (h.at 0 rfl) Tryz.underlying27 rfl (infoTTg18 (tG_sz (cellsF_size f fs)))) M ?_
  refine wpAnyH_ready (rs := [2, 3]) (by kernel_rfl) (by simp) ?_
  refine rdA (cs := (tG 0 0 cellsZ)) (T := 27) (some 5) rfl rfl rfl M (by go_simp; rfl) (fun pX u M => ⟨_, by (simp only [pu, sB, s0, sS]; rfl), M.take 1, ?_⟩) (rdA (cs := (tG 0 0 cellsZ)) (T := 27) (some 6) rfl rfl rfl M (by go_simp; rfl) (fun pY u M => ⟨_, by (simp only [pu, sB, s0, sS]; rfl), M.take 1, ?_⟩) AllReadyH.nil)
  · refine wpAnyH_ready (rs := [3]) (by kernel_rfl) (by simp) ?_
    refine rdA (cs := (tG 0 0 cellsZ)) (T := 27) (some 6) rfl rfl rfl M (by go_simp; rfl) (fun pY u M => ⟨_, by (simp only [pu, sB, s0, sS]; rfl), M.take 1, ?_⟩) AllReadyH.nil
    refine wpAnyH_ready (rs := [4]) (by kernel_rfl) (by simp) ?_
    refine rdS (k := 1) rfl rfl rfl rfl M rfl rfl rfl (Eq.trans ((tG_sz (cellsF_size f fs))) (Eq.symm ((tG_sz cellsZ_size)))) (infoTTg18 (tG_sz (cellsF_size f fs))) (tG_one (cellsF_one f fs)) (fun u M => ⟨M.take 1, ?_⟩)
    refine wpAnyH_ready (rs := [5]) (by kernel_rfl) (by simp) ?_
    refine rdS (k := 2) rfl rfl rfl rfl M rfl rfl rfl (Eq.trans ((tG_sz (cellsF_size f fs))) (Eq.symm ((tG_sz cellsZ_size)))) (infoTTg18 (tG_sz (cellsF_size f fs))) (tG_one (cellsF_one f fs)) (fun u M => ⟨M.take 1, ?_⟩)
    refine wpAnyH_done (by kernel_rfl) ?_ _
    go_upto_region 4 with fail
    refine wp_region_lit ?_
    iterate 2 (with_reducible refine rA ?_)
    with_reducible refine wV 1 M (tG_p1) (fit_1 (tG_sz (cellsF_size f fs)) (by decide)) ?_; clear M; intro u M
    go_upto_region 5 with fail
    refine wp_region_lit ?_
    iterate 3 (with_reducible refine rA ?_)
    with_reducible refine wV 2 M (tG_pd (F := (cellsF f fs)) (G := (cellsF { f with types := n0 } fs)) (v := .int .i64 n0) 3 (lay_types _ _ _) (cellsF_size f fs)) (fit_1 (tG_sz (cellsF_size f fs)) (by decide)) ?_; clear M; intro u M
    go_upto_region 6 with fail
    refine wp_region_lit ?_
    with_reducible refine rA ?_
    with_reducible refine wLv 0 M tG_0 Tryz.underlying3 ?_
    go_upto_region 7 with fail
    refine wp_region_lit ?_
    iterate 2 (with_reducible refine rA ?_)
    go_upto_region 8 with fail
    refine wp_region_lit ?_
    iterate 2 (with_reducible refine rA ?_)
    go_upto_region 9 with fail
    refine wp_region_lit ?_
    iterate 2 (with_reducible refine rA ?_)
    go_upto_region 10 with fail
    refine wp_region_lit ?_
    iterate 2 (with_reducible refine rA ?_)
    go_upto_region 11 with fail
    refine wp_region_lit ?_
    iterate 2 (with_reducible refine rA ?_)
    go_upto_region 13 with fail
    refine wp_region_lit ?_
    iterate 2 (with_reducible refine rA ?_)
    go_upto_region 14 with fail
    refine wp_region_lit ?_
    with_reducible refine rA ?_
    with_reducible refine wL 0 M tG_f Tryz.underlying25 (infoTF16 (cellsF_size f fs)) ?_
    with_reducible refine rA ?_
    with_reducible refine wS 2 M (tG_pf (Eq.trans (cellsF_size f fs) (Eq.symm (cellsF_size _ _)))) (infoTF16 (cellsF_size f fs)) (cellsF_one f fs) (fit_2 (tG_sz (cellsF_size _ _)) (cellsF_size f fs) (by decide)) ?_; clear M; intro u M
    go_upto_region 15 with fail
    refine wp_region_lit ?_
    iterate 2 (with_reducible refine rA ?_)
    with_reducible refine wV 2 M (tG_pd (F := (cellsF f fs)) (G := (cellsF { f with zone := 0 } fs)) (v := .int .i64 0) 0 (lay_zone _ _ _) (cellsF_size f fs)) (fit_1 (tG_sz (cellsF_size f fs)) (by decide)) ?_; clear M; intro u M
    go_upto_region 16 with fail
    refine wp_region_lit ?_
    with_reducible refine wL 2 M whole_part Tryz.underlying27 (infoTTg18 (tG_sz (cellsF_size _ _))) ?_
    with_reducible refine wC M (HY.out _ M.b) ?_; clear M; intro u M
    iterate 2 (with_reducible refine rA ?_)
    with_reducible refine wC M (HL.out _ M.b) ?_; clear M; intro u M
    iterate 2 (with_reducible refine rA ?_)
    go_wp2_with fail
    go_ret
    exact ⟨rfl, M.b⟩
  · refine wpAnyH_ready (rs := [2]) (by kernel_rfl) (by simp) ?_
    refine rdA (cs := (tG 0 0 cellsZ)) (T := 27) (some 5) rfl rfl rfl M (by go_simp; rfl) (fun pX u M => ⟨_, by (simp only [pu, sB, s0, sS]; rfl), M.take 1, ?_⟩) AllReadyH.nil
    refine wpAnyH_ready (rs := [4]) (by kernel_rfl) (by simp) ?_
    refine rdS (k := 2) rfl rfl rfl rfl M rfl rfl rfl (Eq.trans ((tG_sz (cellsF_size f fs))) (Eq.symm ((tG_sz cellsZ_size)))) (infoTTg18 (tG_sz (cellsF_size f fs))) (tG_one (cellsF_one f fs)) (fun u M => ⟨M.take 1, ?_⟩)
    refine wpAnyH_ready (rs := [5]) (by kernel_rfl) (by simp) ?_
    refine rdS (k := 1) rfl rfl rfl rfl M rfl rfl rfl (Eq.trans ((tG_sz (cellsF_size f fs))) (Eq.symm ((tG_sz cellsZ_size)))) (infoTTg18 (tG_sz (cellsF_size f fs))) (tG_one (cellsF_one f fs)) (fun u M => ⟨M.take 1, ?_⟩)
    refine wpAnyH_done (by kernel_rfl) ?_ _
    go_upto_region 4 with fail
    refine wp_region_lit ?_
    iterate 2 (with_reducible refine rA ?_)
    with_reducible refine wV 2 M (tG_p1) (fit_1 (tG_sz (cellsF_size f fs)) (by decide)) ?_; clear M; intro u M
    go_upto_region 5 with fail
    refine wp_region_lit ?_
    iterate 3 (with_reducible refine rA ?_)
    with_reducible refine wV 1 M (tG_pd (F := (cellsF f fs)) (G := (cellsF { f with types := n0 } fs)) (v := .int .i64 n0) 3 (lay_types _ _ _) (cellsF_size f fs)) (fit_1 (tG_sz (cellsF_size f fs)) (by decide)) ?_; clear M; intro u M
    go_upto_region 6 with fail
    refine wp_region_lit ?_
    with_reducible refine rA ?_
    with_reducible refine wLv 0 M tG_0 Tryz.underlying3 ?_
    go_upto_region 7 with fail
    refine wp_region_lit ?_
    iterate 2 (with_reducible refine rA ?_)
    go_upto_region 8 with fail
    refine wp_region_lit ?_
    iterate 2 (with_reducible refine rA ?_)
    go_upto_region 9 with fail
    refine wp_region_lit ?_
    iterate 2 (with_reducible refine rA ?_)
    go_upto_region 10 with fail
    refine wp_region_lit ?_
    iterate 2 (with_reducible refine rA ?_)
    go_upto_region 11 with fail
    refine wp_region_lit ?_
    iterate 2 (with_reducible refine rA ?_)
    go_upto_region 13 with fail
    refine wp_region_lit ?_
    iterate 2 (with_reducible refine rA ?_)
    go_upto_region 14 with fail
    refine wp_region_lit ?_
    with_reducible refine rA ?_
    with_reducible refine wL 0 M tG_f Tryz.underlying25 (infoTF16 (cellsF_size f fs)) ?_
    with_reducible refine rA ?_
    with_reducible refine wS 1 M (tG_pf (Eq.trans (cellsF_size f fs) (Eq.symm (cellsF_size _ _)))) (infoTF16 (cellsF_size f fs)) (cellsF_one f fs) (fit_2 (tG_sz (cellsF_size _ _)) (cellsF_size f fs) (by decide)) ?_; clear M; intro u M
    go_upto_region 15 with fail
    refine wp_region_lit ?_
    iterate 2 (with_reducible refine rA ?_)
    with_reducible refine wV 1 M (tG_pd (F := (cellsF f fs)) (G := (cellsF { f with zone := 0 } fs)) (v := .int .i64 0) 0 (lay_zone _ _ _) (cellsF_size f fs)) (fit_1 (tG_sz (cellsF_size f fs)) (by decide)) ?_; clear M; intro u M
    go_upto_region 16 with fail
    refine wp_region_lit ?_
    with_reducible refine wL 1 M whole_part Tryz.underlying27 (infoTTg18 (tG_sz (cellsF_size _ _))) ?_
    with_reducible refine wC M (HY.out _ M.b) ?_; clear M; intro u M
    iterate 2 (with_reducible refine rA ?_)
    with_reducible refine wC M (HL.out _ M.b) ?_; clear M; intro u M
    iterate 2 (with_reducible refine rA ?_)
    go_wp2_with fail
    go_ret
    exact ⟨rfl, M.b⟩
end Go.Proofs.YtfliogahkfimbaaGreatDoor
namespace Go.Proofs.YtfliogahkfimbaaGreatDoor
open Go.RowKit
open Wd (Bs)

set_option maxHeartbeats 8000000 in
set_option maxRecDepth 100000 in
theorem unFilT (k n : Int) (f : Fil.Flt) (fs : ByteArray) (n0 : Int) (w : World)
    (HL : Hid (∀ W, Below w.heap.size w W → Calls Tryz.prog 8 #[] W fun e w' => e = .returned (.bool true) ∧ Below W.heap.size W w')) (hl : decide (100 < (fs.size : Int)) = false) (HI : Hid (∀ W, Below w.heap.size w W → Calls Tryz.prog 9 #[.agg (tG k n (cellsF f fs))] W fun e w' => e = .returned (.bool true) ∧ Below W.heap.size W w')) (hn : decide (n0 < 1) = false) (HX : Hid (∀ W, Below w.heap.size w W → Calls Tryz.prog 9 #[.agg (tG k n0 (cellsF f fs))] W fun e w' => e = .returned (.bool false) ∧ Below W.heap.size W w')) (hk : ¬ (8 ≤ k ∧ k ≤ 13)) :
    Calls Tryz.prog 6 #[.agg (tG k n (cellsF f fs)), .int .i64 n0] w fun e w' => e = .returned (.bool true) ∧ Below w.heap.size w w' := by

  have q8 : (k == 8) = false := by simp; omega
  have q9 : (k == 9) = false := by simp; omega
  have q10 : (k == 10) = false := by simp; omega
  have q11 : (k == 11) = false := by simp; omega
  have q12 : (k == 12) = false := by simp; omega
  have q13 : (k == 13) = false := by simp; omega

  have M := Mm.nil w
  go_enter Tryz.func6, Tryz.ntmps6
  go_upto_region 0 with fail
  refine wp_region_lit ?_
  with_reducible refine wA (tG k n (cellsF f fs)) M ?_; clear M; intro pB2 u M; refine ⟨_, by (simp only [pu, sB, s0, sS]; rfl), ?_⟩
  with_reducible refine rA ?_
  go_upto_region 1 with fail
  refine wp_region_lit ?_
  iterate 2 (with_reducible refine rA ?_)
  with_reducible refine wLv 0 M (show ((tG k n (cellsF f fs)))[9]? = some (.string fs) from (tG_f 7 _ rfl)) Tryz.underlying9 ?_
  iterate 3 (with_reducible refine rA ?_)
  with_reducible refine wL 0 M whole_part Tryz.underlying27 (infoTTg18 (tG_sz (cellsF_size f fs))) ?_
  with_reducible refine wC M (HI.out _ M.b) ?_; clear M; intro u M
  iterate 6 (with_reducible refine rA ?_)
  go_upto_region 3 with fail
  refine wp_region_held_drew (S := fun W => Mm w W [(pB2, (tG k n (cellsF f fs)), 27)]) (by kernel_rfl) M.drew (fun M => ?_)
  generalize World.drew _ = u at M ⊢
  refine tB 0 (some 22) rfl rfl (.agg (tG k n (cellsF f fs))) (fun W h => runSs rfl rfl (h.at 0 rfl) Tryz.underlying27 rfl (infoTTg18 (tG_sz (cellsF_size f fs)))) M ?_
  refine tB 1 (some 23) rfl rfl (.agg (tG k n (cellsF f fs))) (fun W h => runSs rfl rfl (h.at 0 rfl) Tryz.underlying27 rfl (infoTTg18 (tG_sz (cellsF_size f fs)))) M ?_
  refine wpAnyH_ready (rs := [2, 3]) (by kernel_rfl) (by simp) ?_
  refine rdA (cs := (tG 0 0 cellsZ)) (T := 27) (some 5) rfl rfl rfl M (by go_simp; rfl) (fun pX u M => ⟨_, by (simp only [pu, sB, s0, sS]; rfl), M.take 1, ?_⟩) (rdA (cs := (tG 0 0 cellsZ)) (T := 27) (some 6) rfl rfl rfl M (by go_simp; rfl) (fun pY u M => ⟨_, by (simp only [pu, sB, s0, sS]; rfl), M.take 1, ?_⟩) AllReadyH.nil)
  · refine wpAnyH_ready (rs := [3]) (by kernel_rfl) (by simp) ?_
    refine rdA (cs := (tG 0 0 cellsZ)) (T := 27) (some 6) rfl rfl rfl M (by go_simp; rfl) (fun pY u M => ⟨_, by (simp only [pu, sB, s0, sS]; rfl), M.take 1, ?_⟩) AllReadyH.nil
    refine wpAnyH_ready (rs := [4]) (by kernel_rfl) (by simp) ?_
    refine rdS (k := 1) rfl rfl rfl rfl M rfl rfl rfl (Eq.trans ((tG_sz (cellsF_size f fs))) (Eq.symm ((tG_sz cellsZ_size)))) (infoTTg18 (tG_sz (cellsF_size f fs))) (tG_one (cellsF_one f fs)) (fun u M => ⟨M.take 1, ?_⟩)
    refine wpAnyH_ready (rs := [5]) (by kernel_rfl) (by simp) ?_
    refine rdS (k := 2) rfl rfl rfl rfl M rfl rfl rfl (Eq.trans ((tG_sz (cellsF_size f fs))) (Eq.symm ((tG_sz cellsZ_size)))) (infoTTg18 (tG_sz (cellsF_size f fs))) (tG_one (cellsF_one f fs)) (fun u M => ⟨M.take 1, ?_⟩)
    refine wpAnyH_done (by kernel_rfl) ?_ _
    go_upto_region 4 with fail
    refine wp_region_lit ?_
    iterate 2 (with_reducible refine rA ?_)
    with_reducible refine wV 1 M (tG_p1) (fit_1 (tG_sz (cellsF_size f fs)) (by decide)) ?_; clear M; intro u M
    go_upto_region 5 with fail
    refine wp_region_lit ?_
    iterate 3 (with_reducible refine rA ?_)
    with_reducible refine wV 2 M (tG_pd (F := (cellsF f fs)) (G := (cellsF { f with types := n0 } fs)) (v := .int .i64 n0) 3 (lay_types _ _ _) (cellsF_size f fs)) (fit_1 (tG_sz (cellsF_size f fs)) (by decide)) ?_; clear M; intro u M
    go_upto_region 6 with fail
    refine wp_region_lit ?_
    with_reducible refine rA ?_
    with_reducible refine wLv 0 M tG_0 Tryz.underlying3 ?_
    go_upto_region 7 with fail
    refine wp_region_lit ?_
    iterate 2 (with_reducible refine rA ?_)
    go_upto_region 8 with fail
    refine wp_region_lit ?_
    iterate 2 (with_reducible refine rA ?_)
    go_upto_region 9 with fail
    refine wp_region_lit ?_
    iterate 2 (with_reducible refine rA ?_)
    go_upto_region 10 with fail
    refine wp_region_lit ?_
    iterate 2 (with_reducible refine rA ?_)
    go_upto_region 11 with fail
    refine wp_region_lit ?_
    iterate 2 (with_reducible refine rA ?_)
    go_upto_region 13 with fail
    refine wp_region_lit ?_
    iterate 2 (with_reducible refine rA ?_)
    go_upto_region 17 with fail
    refine wp_region_lit ?_
    with_reducible refine wL 1 M whole_part Tryz.underlying27 (infoTTg18 (tG_sz (cellsF_size f fs))) ?_
    with_reducible refine wC M (HX.out _ M.b) ?_; clear M; intro u M
    iterate 2 (with_reducible refine rA ?_)
    with_reducible refine wC M (HL.out _ M.b) ?_; clear M; intro u M
    iterate 2 (with_reducible refine rA ?_)
    go_wp2_with fail
    go_ret
    exact ⟨rfl, M.b⟩
  · refine wpAnyH_ready (rs := [2]) (by kernel_rfl) (by simp) ?_
    refine rdA (cs := (tG 0 0 cellsZ)) (T := 27) (some 5) rfl rfl rfl M (by go_simp; rfl) (fun pX u M => ⟨_, by (simp only [pu, sB, s0, sS]; rfl), M.take 1, ?_⟩) AllReadyH.nil
    refine wpAnyH_ready (rs := [4]) (by kernel_rfl) (by simp) ?_
    refine rdS (k := 2) rfl rfl rfl rfl M rfl rfl rfl (Eq.trans ((tG_sz (cellsF_size f fs))) (Eq.symm ((tG_sz cellsZ_size)))) (infoTTg18 (tG_sz (cellsF_size f fs))) (tG_one (cellsF_one f fs)) (fun u M => ⟨M.take 1, ?_⟩)
    refine wpAnyH_ready (rs := [5]) (by kernel_rfl) (by simp) ?_
    refine rdS (k := 1) rfl rfl rfl rfl M rfl rfl rfl (Eq.trans ((tG_sz (cellsF_size f fs))) (Eq.symm ((tG_sz cellsZ_size)))) (infoTTg18 (tG_sz (cellsF_size f fs))) (tG_one (cellsF_one f fs)) (fun u M => ⟨M.take 1, ?_⟩)
    refine wpAnyH_done (by kernel_rfl) ?_ _
    go_upto_region 4 with fail
    refine wp_region_lit ?_
    iterate 2 (with_reducible refine rA ?_)
    with_reducible refine wV 2 M (tG_p1) (fit_1 (tG_sz (cellsF_size f fs)) (by decide)) ?_; clear M; intro u M
    go_upto_region 5 with fail
    refine wp_region_lit ?_
    iterate 3 (with_reducible refine rA ?_)
    with_reducible refine wV 1 M (tG_pd (F := (cellsF f fs)) (G := (cellsF { f with types := n0 } fs)) (v := .int .i64 n0) 3 (lay_types _ _ _) (cellsF_size f fs)) (fit_1 (tG_sz (cellsF_size f fs)) (by decide)) ?_; clear M; intro u M
    go_upto_region 6 with fail
    refine wp_region_lit ?_
    with_reducible refine rA ?_
    with_reducible refine wLv 0 M tG_0 Tryz.underlying3 ?_
    go_upto_region 7 with fail
    refine wp_region_lit ?_
    iterate 2 (with_reducible refine rA ?_)
    go_upto_region 8 with fail
    refine wp_region_lit ?_
    iterate 2 (with_reducible refine rA ?_)
    go_upto_region 9 with fail
    refine wp_region_lit ?_
    iterate 2 (with_reducible refine rA ?_)
    go_upto_region 10 with fail
    refine wp_region_lit ?_
    iterate 2 (with_reducible refine rA ?_)
    go_upto_region 11 with fail
    refine wp_region_lit ?_
    iterate 2 (with_reducible refine rA ?_)
    go_upto_region 13 with fail
    refine wp_region_lit ?_
    iterate 2 (with_reducible refine rA ?_)
    go_upto_region 17 with fail
    refine wp_region_lit ?_
    with_reducible refine wL 2 M whole_part Tryz.underlying27 (infoTTg18 (tG_sz (cellsF_size f fs))) ?_
    with_reducible refine wC M (HX.out _ M.b) ?_; clear M; intro u M
    iterate 2 (with_reducible refine rA ?_)
    with_reducible refine wC M (HL.out _ M.b) ?_; clear M; intro u M
    iterate 2 (with_reducible refine rA ?_)
    go_wp2_with fail
    go_ret
    exact ⟨rfl, M.b⟩
end Go.Proofs.YtfliogahkfimbaaGreatDoor
namespace Go.Proofs.YtfliogahkfimbaaGreatDoor
open Go.RowKit
open Wd (Bs)

theorem pV_shortT (s : Bs) : (Tg.pV s).f.sub.length ≤ 32 := by
  unfold Tg.pV
  split
  · exact readT_short s
  · decide
theorem textT_len (x : Tg.Td) : (Tg.textT x).length ≤ 6000 := by
  cases hv : Tg.okB x with
  | false => rw [Tg.textT_bad hv]; simp
  | true =>
    have hr := Tg.ok_parts hv
    rw [Tg.textT_ok hv]
    unfold Tg.raw
    have h1 := heads_lenT x.k.toNat (by omega)
    have h2 := whoT_len x.n
    have h3 := partF_len x.f
    rw [List.length_append, List.length_append]
    split <;> split <;> simp <;> omega
theorem lawTriggerBack (k n : Int) (f : Fil.Flt) (fs : ByteArray) (s : ByteArray) (hf : f.sub = fs.data.toList) (hs : fs.size ≤ maxLen) (w : World) (hE : Env w) :
    Calls Tryz.prog 5 #[.agg (tG k n (cellsF f fs)), .string s] w fun e w' => e = .returned (.bool true) ∧ Below w.heap.size w w' := by
  have HL : Hid (∀ W, Below w.heap.size w W → Calls Tryz.prog 8 #[] W fun e w' => e = .returned (.bool true) ∧ Below W.heap.size W w') := Lib.hid fun W hb => tgAlive W (hE.below hb)
  cases hl : decide (100 < (fs.size : Int)) with
  | true => exact bkBigT k n f fs s w HL hl
  | false =>
  cases hm : decide (500 < (s.size : Int)) with
  | true => exact bkLongT k n f fs s w HL hl hm
  | false =>
    have hle := of_decide_eq_false hm
    have HT : Hid (∀ W, Below w.heap.size w W → _) := Lib.hid fun W hb => tgText k n f fs hf hs W (hE.below hb)
    have HI : Hid (∀ W, Below w.heap.size w W → _) := Lib.hid fun W hb => tgIs k n f fs hf hs W (hE.below hb)
    obtain ⟨u, hu, eu⟩ := exists_bytes (Tg.textT ⟨k, n, f⟩)
    rw [eu] at HT
    have hul : u.size ≤ 1000000 := by
      have h1 : u.data.toList.length = u.size := Array.length_toList
      have h2 := textT_len ⟨k, n, f⟩
      rw [hu] at h1
      omega
    have HQ : Hid (∀ W, Below w.heap.size w W → _) := Lib.hid fun W hb => tgParse u hul W (hE.below hb)
    have HP : Hid (∀ W, Below w.heap.size w W → _) := Lib.hid fun W hb => tgParse s (by omega) W (hE.below hb)
    rw [hu] at HQ
    have hq : ∀ W : World, (Op.equalIn 10000 27 (.agg (tG k n (cellsF f fs))) (.agg (tG k n (cellsF f fs)))).run Tryz.prog W = .ok true W := fun W => run_eq_tgS k n f fs hf W
    have hz : ∀ W : World, (Op.equalIn 10000 27 (.agg (tG 0 0 cellsZ)) (.agg (tG 0 0 cellsZ))).run Tryz.prog W = .ok true W := fun W => run_eq_tgS 0 0 Fil.zero ⟨#[]⟩ rfl W
    have hne : Tg.okB ⟨k, n, f⟩ = false → u.toList.isEmpty = true := fun hv => by
      rw [Lib.toList_data, hu, Tg.textT_bad hv]
      rfl
    cases hp : Tg.pB s.data.toList with
    | true =>
      obtain ⟨h1, h2, h3, _⟩ := Tg.p_yes hp
      have hy := pV_shortT s.data.toList
      obtain ⟨y, ey⟩ : ∃ y, Tg.pV s.data.toList = y := ⟨_, rfl⟩
      rw [ey] at h1 h2 hy HP
      rw [h3] at HP
      obtain ⟨u2, hu2, eu2⟩ := exists_bytes (Tg.textT y)
      have HT2 : Hid (∀ W, Below w.heap.size w W → _) := Lib.hid fun W hb => tgTextX y (by omega) W (hE.below hb)
      rw [eu2] at HT2
      have HI2 : Hid (∀ W, Below w.heap.size w W → _) := Lib.hid fun W hb => tgIsX y (by omega) W (hE.below hb)
      rw [h1] at HI2
      have hu3 : (u2.toList == s.toList) = true := by rw [Lib.toList_data, Lib.toList_data, hu2, h2]; simp
      cases hv : Tg.okB ⟨k, n, f⟩ with
      | true =>
        rw [hv] at HI
        rw [(Tg.p_text hv).1, (Tg.p_text hv).2, ← cellsT_of hf] at HQ
        exact bkPVT k n f fs s u y.k y.n u2 y.f (fsOf y.f) w HL hl hm HT HQ HI HP hq HI2 HT2 hu3
      | false =>
        rw [hv] at HI
        rw [Tg.textT_bad hv, (Tg.p_no Tg.p_nil).1, (Tg.p_no Tg.p_nil).2] at HQ
        exact bkPBT k n f fs s u y.k y.n u2 y.f (fsOf y.f) w HL hl hm HT (hne hv) HQ HI HP hz HI2 HT2 hu3
    | false =>
      rw [(Tg.p_no hp).1, (Tg.p_no hp).2] at HP
      cases hv : Tg.okB ⟨k, n, f⟩ with
      | true =>
        rw [hv] at HI
        rw [(Tg.p_text hv).1, (Tg.p_text hv).2, ← cellsT_of hf] at HQ
        exact bkNVT k n f fs s u w HL hl hm HT HQ HI HP hq
      | false =>
        rw [hv] at HI
        rw [Tg.textT_bad hv, (Tg.p_no Tg.p_nil).1, (Tg.p_no Tg.p_nil).2] at HQ
        exact bkNBT k n f fs s u w HL hl hm HT (hne hv) HQ HI HP hz
theorem lawTriggerUnused (k n : Int) (f : Fil.Flt) (fs : ByteArray) (n0 : Int) (hf : f.sub = fs.data.toList) (hs : fs.size ≤ maxLen) (w : World) (hE : Env w) :
    Calls Tryz.prog 6 #[.agg (tG k n (cellsF f fs)), .int .i64 n0] w fun e w' => e = .returned (.bool true) ∧ Below w.heap.size w w' := by
  have HL : Hid (∀ W, Below w.heap.size w W → Calls Tryz.prog 8 #[] W fun e w' => e = .returned (.bool true) ∧ Below W.heap.size W w') := Lib.hid fun W hb => tgAlive W (hE.below hb)
  cases hl : decide (100 < (fs.size : Int)) with
  | true => exact unBigT k n f fs n0 w HL hl
  | false =>
    have HI : Hid (∀ W, Below w.heap.size w W → _) := Lib.hid fun W hb => tgIs k n f fs hf hs W (hE.below hb)
    cases hv : Tg.okB ⟨k, n, f⟩ with
    | false =>
      rw [hv] at HI
      exact unBadT k n f fs n0 w HL hl HI
    | true =>
      rw [hv] at HI
      cases hn : decide (n0 < 1) with
      | true => exact unLessT k n f fs n0 w HL hl HI hn
      | false =>
        have hn1 := of_decide_eq_false hn
        have hr := Tg.ok_parts hv
        simp only at hr
        by_cases h9 : k = 9
        · have hb : Tg.okB ⟨k, n, { f with zone := 0 }⟩ = false := by
            subst h9
            unfold Tg.okB
            simp only
            rw [show decide ((0 : Int) = Tg.zoneK 9) = false from by decide]
            simp [Tg.usesF]
          have HY : Hid (∀ W, Below w.heap.size w W → _) := Lib.hid fun W hb => tgIs k n { f with zone := 0 } fs hf hs W (hE.below hb)
          rw [hb] at HY
          exact unCastT k n f fs n0 w HL hl HI hn HY h9
        · by_cases hw : 8 ≤ k ∧ k ≤ 13
          · have hF : Tg.usesF k = false := by simp only [Tg.usesF, decide_eq_false_iff_not]; omega
            have hb : Tg.okB ⟨k, n, { f with types := n0 }⟩ = false := by
              cases hx : Tg.okB ⟨k, n, { f with types := n0 }⟩ with
              | false => rfl
              | true =>
                have h2 := (Tg.ok_parts hx).2.2.2.2.2.1 hF
                have h3 := congrArg Fil.Flt.types h2
                simp only at h3
                rw [h3] at hn1
                exact absurd (show (Fil.zero.types : Int) < 1 by decide) hn1
            have HY : Hid (∀ W, Below w.heap.size w W → _) := Lib.hid fun W hb => tgIs k n { f with types := n0 } fs hf hs W (hE.below hb)
            rw [hb] at HY
            exact unWhoT k n f fs n0 w HL hl HI hn HY (by omega)
          · have hW : Tg.usesW k = false := by simp only [Tg.usesW, decide_eq_false_iff_not]; exact hw
            have hb : Tg.okB ⟨k, n0, f⟩ = false := by
              cases hx : Tg.okB ⟨k, n0, f⟩ with
              | false => rfl
              | true =>
                have h2 := (Tg.ok_parts hx).2.2.2.2.1 hW
                simp only at h2
                omega
            have HX : Hid (∀ W, Below w.heap.size w W → _) := Lib.hid fun W hb => tgIs k n0 f fs hf hs W (hE.below hb)
            rw [hb] at HX
            exact unFilT k n f fs n0 w HL hl HI hn HX hw
end Go.Proofs.YtfliogahkfimbaaGreatDoor
