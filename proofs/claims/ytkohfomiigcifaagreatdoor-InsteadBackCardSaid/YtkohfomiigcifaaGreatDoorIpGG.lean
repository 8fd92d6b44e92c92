/-
  MERGED: IpLawB, IpLawsB. By an AI agent.
-/
import Derived.Test.YtkohfomiigcifaaGreatDoorIpGC
import Derived.Test.YtkohfomiigcifaaGreatDoorIpGA
import Derived.Deep.Cut
import Derived.Test.YtkohfomiigcifaaGreatDoorIpGD
namespace Go.Proofs.YtkohfomiigcifaaGreatDoor
open Go.RowKit
open Wd (Bs)

set_option maxHeartbeats 8000000 in
set_option maxRecDepth 100000 in
theorem bkLongI (on who d n z c : Int) (f : Fil.Flt) (fs : ByteArray) (s : ByteArray) (w : World)
    (HL : Hid (∀ W, Below w.heap.size w W → Calls Tryz.prog 9 #[] W fun e w' => e = .returned (.bool true) ∧ Below W.heap.size W w')) (hm : decide (600 < (s.size : Int)) = true) :
    Calls Tryz.prog 6 #[.agg (ipG on who (cellsF f fs) d n z c), .string s] w fun e w' => e = .returned (.bool true) ∧ Below w.heap.size w w' := by

  have M := Mm.nil w
  go_enter Tryz.func6, Tryz.ntmps6
  go_upto_region 0 with fail
  refine wp_region_lit ?_
  with_reducible refine wA (ipG on who (cellsF f fs) d n z c) M ?_; clear M; intro pB2 u M; refine ⟨_, by (simp only [pu, sB, s0, sS]; rfl), ?_⟩
  with_reducible refine rA ?_
  go_upto_region 1 with fail
  refine wp_region_lit ?_
  iterate 3 (with_reducible refine rA ?_)
  go_upto_region 2 with fail
  refine wp_region_lit ?_
  with_reducible refine vC M (HL.out _ M.b) ?_; clear M; intro u M
  with_reducible refine rA ?_
  go_wp2_with fail
  go_ret
  exact ⟨rfl, M.b⟩

set_option maxHeartbeats 8000000 in
set_option maxRecDepth 100000 in
theorem bkPVI (on who d n z c : Int) (f : Fil.Flt) (fs : ByteArray) (s u : ByteArray) (on2 who2 d2 n2 z2 c2 : Int) (u2 : ByteArray) (g : Fil.Flt) (gs : ByteArray) (w : World)
    (HL : Hid (∀ W, Below w.heap.size w W → Calls Tryz.prog 9 #[] W fun e w' => e = .returned (.bool true) ∧ Below W.heap.size W w')) (hm : decide (600 < (s.size : Int)) = false) (HT : Hid (∀ W, Below w.heap.size w W → Calls Tryz.prog 12 #[.agg (ipG on who (cellsF f fs) d n z c)] W fun e w' => e = .returned (.string u) ∧ Below W.heap.size W w')) (hu : u.toList.isEmpty = false) (HQ : Hid (∀ W, Below w.heap.size w W → Calls Tryz.prog 14 #[.string u] W fun e w' => e = .returned (.tuple #[.agg (ipG on who (cellsF f fs) d n z c), .int .i64 0]) ∧ Below W.heap.size W w')) (HI : Hid (∀ W, Below w.heap.size w W → Calls Tryz.prog 10 #[.agg (ipG on who (cellsF f fs) d n z c)] W fun e w' => e = .returned (.bool true) ∧ Below W.heap.size W w')) (HP : Hid (∀ W, Below w.heap.size w W → Calls Tryz.prog 14 #[.string s] W fun e w' => e = .returned (.tuple #[.agg (ipG on2 who2 (cellsF g gs) d2 n2 z2 c2), .int .i64 0]) ∧ Below W.heap.size W w')) (hq : ∀ W : World, (Op.equalIn 10000 27 (.agg (ipG on who (cellsF f fs) d n z c)) (.agg (ipG on who (cellsF f fs) d n z c))).run Tryz.prog W = .ok true W) (HI2 : Hid (∀ W, Below w.heap.size w W → Calls Tryz.prog 10 #[.agg (ipG on2 who2 (cellsF g gs) d2 n2 z2 c2)] W fun e w' => e = .returned (.bool true) ∧ Below W.heap.size W w')) (HT2 : Hid (∀ W, Below w.heap.size w W → Calls Tryz.prog 12 #[.agg (ipG on2 who2 (cellsF g gs) d2 n2 z2 c2)] W fun e w' => e = .returned (.string u2) ∧ Below W.heap.size W w')) (hu2 : (u2.toList == s.toList) = true) :
    Calls Tryz.prog 6 #[.agg (ipG on who (cellsF f fs) d n z c), .string s] w fun e w' => e = .returned (.bool true) ∧ Below w.heap.size w w' := by

  have M := Mm.nil w
  go_enter Tryz.func6, Tryz.ntmps6
  go_upto_region 0 with fail
  refine wp_region_lit ?_
  with_reducible refine wA (ipG on who (cellsF f fs) d n z c) M ?_; clear M; intro pB2 u M; refine ⟨_, by (simp only [pu, sB, s0, sS]; rfl), ?_⟩
  with_reducible refine rA ?_
  go_upto_region 1 with fail
  refine wp_region_lit ?_
  iterate 3 (with_reducible refine rA ?_)
  go_upto_region 3 with fail
  refine wp_region_lit ?_
  with_reducible refine wL 0 M whole_part Tryz.underlying27 (infoTIp22 (ipG_sz (cellsF_size f fs))) ?_
  with_reducible refine vC M (HT.out _ M.b) ?_; clear M; intro u M
  with_reducible refine rA ?_
  go_upto_region 4 with fail
  refine wp_region_lit ?_
  with_reducible refine rA ?_
  with_reducible refine vC M (HQ.out _ M.b) ?_; clear M; intro u M
  with_reducible refine rA ?_
  (with_reducible refine rB (.agg (ipG on who (cellsF f fs) d n z c)) ?_ ?_); (· go_simp; (try with_reducible rfl))
  with_reducible refine rA ?_
  with_reducible refine wA (ipG 0 0 cellsZ 0 0 0 0) M ?_; clear M; intro pB6 u M; refine ⟨_, by (simp only [pu, sB, s0, sS]; rfl), ?_⟩
  with_reducible refine wS 1 M (laid_all (ipG_sz (cellsF_size f fs)) (ipG_sz cellsZ_size)) (infoTIp22 (ipG_sz (cellsF_size f fs))) (ipG_one (cellsF_one f fs)) (fit_2 (ipG_sz cellsZ_size) (ipG_sz (cellsF_size f fs)) (by decide)) ?_; clear M; intro u M
  with_reducible refine rA ?_
  go_upto_region 5 with fail
  refine wp_region_lit ?_
  with_reducible refine wL 0 M whole_part Tryz.underlying27 (infoTIp22 (ipG_sz (cellsF_size f fs))) ?_
  with_reducible refine vC M (HI.out _ M.b) ?_; clear M; intro u M
  with_reducible refine rA ?_
  go_upto_region 6 with fail
  refine wp_region_lit ?_
  iterate 2 (with_reducible refine rA ?_)
  (with_reducible refine rB (.bool true) ?_ ?_); (· first | (go_simp; done) | (go_simp; with_reducible rfl) | (go_simp; simp_all))
  (with_reducible refine rB (.bool false) ?_ ?_); (· first | (go_simp; done) | (go_simp; with_reducible rfl) | (go_simp; simp_all))
  iterate 4 (with_reducible refine rA ?_)
  (with_reducible refine rB (.bool false) ?_ ?_); (· first | (go_simp; done) | (go_simp; with_reducible rfl) | (go_simp; simp_all))
  with_reducible refine rA ?_
  with_reducible refine wL 1 M whole_part Tryz.underlying27 (infoTIp22 (ipG_sz (cellsF_size f fs))) ?_
  with_reducible refine wL 0 M whole_part Tryz.underlying27 (infoTIp22 (ipG_sz (cellsF_size f fs))) ?_
  (with_reducible refine rB (.bool false) ?_ ?_); (· first | (go_simp; done) | (go_simp; with_reducible rfl) | (go_simp; simp_all))
  iterate 3 (with_reducible refine rA ?_)
  go_upto_region 8 with fail
  refine wp_region_lit ?_
  with_reducible refine rA ?_
  with_reducible refine vC M (HP.out _ M.b) ?_; clear M; intro u M
  with_reducible refine rA ?_
  (with_reducible refine rB (.agg (ipG on2 who2 (cellsF g gs) d2 n2 z2 c2)) ?_ ?_); (· go_simp; (try with_reducible rfl))
  with_reducible refine rA ?_
  with_reducible refine wA (ipG 0 0 cellsZ 0 0 0 0) M ?_; clear M; intro pB9 u M; refine ⟨_, by (simp only [pu, sB, s0, sS]; rfl), ?_⟩
  with_reducible refine wS 2 M (laid_all (ipG_sz (cellsF_size g gs)) (ipG_sz cellsZ_size)) (infoTIp22 (ipG_sz (cellsF_size g gs))) (ipG_one (cellsF_one g gs)) (fit_2 (ipG_sz cellsZ_size) (ipG_sz (cellsF_size g gs)) (by decide)) ?_; clear M; intro u M
  with_reducible refine rA ?_
  go_upto_region 9 with fail
  refine wp_region_lit ?_
  with_reducible refine vC M (HL.out _ M.b) ?_; clear M; intro u M
  iterate 2 (with_reducible refine rA ?_)
  (with_reducible refine rB (.bool false) ?_ ?_); (· first | (go_simp; done) | (go_simp; with_reducible rfl) | (go_simp; simp_all))
  with_reducible refine rA ?_
  iterate 3 (with_reducible refine kA ?_)
  iterate 5 (with_reducible refine rA ?_)
  with_reducible refine wL 2 M whole_part Tryz.underlying27 (infoTIp22 (ipG_sz (cellsF_size g gs))) ?_
  with_reducible refine vC M (HI2.out _ M.b) ?_; clear M; intro u M
  iterate 2 (with_reducible refine rA ?_)
  with_reducible refine wL 2 M whole_part Tryz.underlying27 (infoTIp22 (ipG_sz (cellsF_size g gs))) ?_
  with_reducible refine vC M (HT2.out _ M.b) ?_; clear M; intro u M
  iterate 6 (with_reducible refine rA ?_)
  go_wp2_with fail
  go_ret
  exact ⟨rfl, M.b⟩

set_option maxHeartbeats 8000000 in
set_option maxRecDepth 100000 in
theorem bkPBI (on who d n z c : Int) (f : Fil.Flt) (fs : ByteArray) (s u : ByteArray) (on2 who2 d2 n2 z2 c2 : Int) (u2 : ByteArray) (g : Fil.Flt) (gs : ByteArray) (w : World)
    (HL : Hid (∀ W, Below w.heap.size w W → Calls Tryz.prog 9 #[] W fun e w' => e = .returned (.bool true) ∧ Below W.heap.size W w')) (hm : decide (600 < (s.size : Int)) = false) (HT : Hid (∀ W, Below w.heap.size w W → Calls Tryz.prog 12 #[.agg (ipG on who (cellsF f fs) d n z c)] W fun e w' => e = .returned (.string u) ∧ Below W.heap.size W w')) (hu : u.toList.isEmpty = true) (HQ : Hid (∀ W, Below w.heap.size w W → Calls Tryz.prog 14 #[.string u] W fun e w' => e = .returned (.tuple #[.agg (ipG 0 0 cellsZ 0 0 0 0), .int .i64 3]) ∧ Below W.heap.size W w')) (HI : Hid (∀ W, Below w.heap.size w W → Calls Tryz.prog 10 #[.agg (ipG on who (cellsF f fs) d n z c)] W fun e w' => e = .returned (.bool false) ∧ Below W.heap.size W w')) (HP : Hid (∀ W, Below w.heap.size w W → Calls Tryz.prog 14 #[.string s] W fun e w' => e = .returned (.tuple #[.agg (ipG on2 who2 (cellsF g gs) d2 n2 z2 c2), .int .i64 0]) ∧ Below W.heap.size W w')) (HI2 : Hid (∀ W, Below w.heap.size w W → Calls Tryz.prog 10 #[.agg (ipG on2 who2 (cellsF g gs) d2 n2 z2 c2)] W fun e w' => e = .returned (.bool true) ∧ Below W.heap.size W w')) (HT2 : Hid (∀ W, Below w.heap.size w W → Calls Tryz.prog 12 #[.agg (ipG on2 who2 (cellsF g gs) d2 n2 z2 c2)] W fun e w' => e = .returned (.string u2) ∧ Below W.heap.size W w')) (hu2 : (u2.toList == s.toList) = true) :
    Calls Tryz.prog 6 #[.agg (ipG on who (cellsF f fs) d n z c), .string s] w fun e w' => e = .returned (.bool true) ∧ Below w.heap.size w w' := by

  have M := Mm.nil w
  go_enter Tryz.func6, Tryz.ntmps6
  go_upto_region 0 with fail
  refine wp_region_lit ?_
  with_reducible refine wA (ipG on who (cellsF f fs) d n z c) M ?_; clear M; intro pB2 u M; refine ⟨_, by (simp only [pu, sB, s0, sS]; rfl), ?_⟩
  with_reducible refine rA ?_
  go_upto_region 1 with fail
  refine wp_region_lit ?_
  iterate 3 (with_reducible refine rA ?_)
  go_upto_region 3 with fail
  refine wp_region_lit ?_
  with_reducible refine wL 0 M whole_part Tryz.underlying27 (infoTIp22 (ipG_sz (cellsF_size f fs))) ?_
  with_reducible refine vC M (HT.out _ M.b) ?_; clear M; intro u M
  with_reducible refine rA ?_
  go_upto_region 4 with fail
  refine wp_region_lit ?_
  with_reducible refine rA ?_
  with_reducible refine vC M (HQ.out _ M.b) ?_; clear M; intro u M
  with_reducible refine rA ?_
  (with_reducible refine rB (.agg (ipG 0 0 cellsZ 0 0 0 0)) ?_ ?_); (· go_simp; (try with_reducible rfl))
  with_reducible refine rA ?_
  with_reducible refine wA (ipG 0 0 cellsZ 0 0 0 0) M ?_; clear M; intro pB6 u M; refine ⟨_, by (simp only [pu, sB, s0, sS]; rfl), ?_⟩
  with_reducible refine wS 1 M (laid_all (ipG_sz cellsZ_size) (ipG_sz cellsZ_size)) (infoTIp22 (ipG_sz cellsZ_size)) (ipG_one cellsZ_one) (fit_2 (ipG_sz cellsZ_size) (ipG_sz cellsZ_size) (by decide)) ?_; clear M; intro u M
  with_reducible refine rA ?_
  go_upto_region 5 with fail
  refine wp_region_lit ?_
  with_reducible refine wL 0 M whole_part Tryz.underlying27 (infoTIp22 (ipG_sz (cellsF_size f fs))) ?_
  with_reducible refine vC M (HI.out _ M.b) ?_; clear M; intro u M
  with_reducible refine rA ?_
  go_upto_region 6 with fail
  refine wp_region_lit ?_
  iterate 2 (with_reducible refine rA ?_)
  (with_reducible refine rB (.bool false) ?_ ?_); (· first | (go_simp; done) | (go_simp; with_reducible rfl) | (go_simp; simp_all))
  (with_reducible refine rB (.bool false) ?_ ?_); (· first | (go_simp; done) | (go_simp; with_reducible rfl) | (go_simp; simp_all))
  iterate 3 (with_reducible refine rA ?_)
  iterate 7 (with_reducible refine kA ?_)
  iterate 2 (with_reducible refine rA ?_)
  go_upto_region 8 with fail
  refine wp_region_lit ?_
  with_reducible refine rA ?_
  with_reducible refine vC M (HP.out _ M.b) ?_; clear M; intro u M
  with_reducible refine rA ?_
  (with_reducible refine rB (.agg (ipG on2 who2 (cellsF g gs) d2 n2 z2 c2)) ?_ ?_); (· go_simp; (try with_reducible rfl))
  with_reducible refine rA ?_
  with_reducible refine wA (ipG 0 0 cellsZ 0 0 0 0) M ?_; clear M; intro pB9 u M; refine ⟨_, by (simp only [pu, sB, s0, sS]; rfl), ?_⟩
  with_reducible refine wS 2 M (laid_all (ipG_sz (cellsF_size g gs)) (ipG_sz cellsZ_size)) (infoTIp22 (ipG_sz (cellsF_size g gs))) (ipG_one (cellsF_one g gs)) (fit_2 (ipG_sz cellsZ_size) (ipG_sz (cellsF_size g gs)) (by decide)) ?_; clear M; intro u M
  with_reducible refine rA ?_
  go_upto_region 9 with fail
  refine wp_region_lit ?_
  with_reducible refine vC M (HL.out _ M.b) ?_; clear M; intro u M
  iterate 2 (with_reducible refine rA ?_)
  (with_reducible refine rB (.bool false) ?_ ?_); (· first | (go_simp; done) | (go_simp; with_reducible rfl) | (go_simp; simp_all))
  with_reducible refine rA ?_
  iterate 3 (with_reducible refine kA ?_)
  iterate 5 (with_reducible refine rA ?_)
  with_reducible refine wL 2 M whole_part Tryz.underlying27 (infoTIp22 (ipG_sz (cellsF_size g gs))) ?_
  with_reducible refine vC M (HI2.out _ M.b) ?_; clear M; intro u M
  iterate 2 (with_reducible refine rA ?_)
  with_reducible refine wL 2 M whole_part Tryz.underlying27 (infoTIp22 (ipG_sz (cellsF_size g gs))) ?_
  with_reducible refine vC M (HT2.out _ M.b) ?_; clear M; intro u M
  iterate 6 (with_reducible refine rA ?_)
  go_wp2_with fail
  go_ret
  exact ⟨rfl, M.b⟩

set_option maxHeartbeats 8000000 in
set_option maxRecDepth 100000 in
theorem bkNVI (on who d n z c : Int) (f : Fil.Flt) (fs : ByteArray) (s u : ByteArray) (w : World)
    (HL : Hid (∀ W, Below w.heap.size w W → Calls Tryz.prog 9 #[] W fun e w' => e = .returned (.bool true) ∧ Below W.heap.size W w')) (hm : decide (600 < (s.size : Int)) = false) (HT : Hid (∀ W, Below w.heap.size w W → Calls Tryz.prog 12 #[.agg (ipG on who (cellsF f fs) d n z c)] W fun e w' => e = .returned (.string u) ∧ Below W.heap.size W w')) (hu : u.toList.isEmpty = false) (HQ : Hid (∀ W, Below w.heap.size w W → Calls Tryz.prog 14 #[.string u] W fun e w' => e = .returned (.tuple #[.agg (ipG on who (cellsF f fs) d n z c), .int .i64 0]) ∧ Below W.heap.size W w')) (HI : Hid (∀ W, Below w.heap.size w W → Calls Tryz.prog 10 #[.agg (ipG on who (cellsF f fs) d n z c)] W fun e w' => e = .returned (.bool true) ∧ Below W.heap.size W w')) (HP : Hid (∀ W, Below w.heap.size w W → Calls Tryz.prog 14 #[.string s] W fun e w' => e = .returned (.tuple #[.agg (ipG 0 0 cellsZ 0 0 0 0), .int .i64 3]) ∧ Below W.heap.size W w')) (hq : ∀ W : World, (Op.equalIn 10000 27 (.agg (ipG on who (cellsF f fs) d n z c)) (.agg (ipG on who (cellsF f fs) d n z c))).run Tryz.prog W = .ok true W) (hz : ∀ W : World, (Op.equalIn 10000 27 (.agg (ipG 0 0 cellsZ 0 0 0 0)) (.agg (ipG 0 0 cellsZ 0 0 0 0))).run Tryz.prog W = .ok true W) :
    Calls Tryz.prog 6 #[.agg (ipG on who (cellsF f fs) d n z c), .string s] w fun e w' => e = .returned (.bool true) ∧ Below w.heap.size w w' := by

  have M := Mm.nil w
  go_enter Tryz.func6, Tryz.ntmps6
  go_upto_region 0 with fail
  refine wp_region_lit ?_
  with_reducible refine wA (ipG on who (cellsF f fs) d n z c) M ?_; clear M; intro pB2 u M; refine ⟨_, by (simp only [pu, sB, s0, sS]; rfl), ?_⟩
  with_reducible refine rA ?_
  go_upto_region 1 with fail
  refine wp_region_lit ?_
  iterate 3 (with_reducible refine rA ?_)
  go_upto_region 3 with fail
  refine wp_region_lit ?_
  with_reducible refine wL 0 M whole_part Tryz.underlying27 (infoTIp22 (ipG_sz (cellsF_size f fs))) ?_
  with_reducible refine vC M (HT.out _ M.b) ?_; clear M; intro u M
  with_reducible refine rA ?_
  go_upto_region 4 with fail
  refine wp_region_lit ?_
  with_reducible refine rA ?_
  with_reducible refine vC M (HQ.out _ M.b) ?_; clear M; intro u M
  with_reducible refine rA ?_
  (with_reducible refine rB (.agg (ipG on who (cellsF f fs) d n z c)) ?_ ?_); (· go_simp; (try with_reducible rfl))
  with_reducible refine rA ?_
  with_reducible refine wA (ipG 0 0 cellsZ 0 0 0 0) M ?_; clear M; intro pB6 u M; refine ⟨_, by (simp only [pu, sB, s0, sS]; rfl), ?_⟩
  with_reducible refine wS 1 M (laid_all (ipG_sz (cellsF_size f fs)) (ipG_sz cellsZ_size)) (infoTIp22 (ipG_sz (cellsF_size f fs))) (ipG_one (cellsF_one f fs)) (fit_2 (ipG_sz cellsZ_size) (ipG_sz (cellsF_size f fs)) (by decide)) ?_; clear M; intro u M
  with_reducible refine rA ?_
  go_upto_region 5 with fail
  refine wp_region_lit ?_
  with_reducible refine wL 0 M whole_part Tryz.underlying27 (infoTIp22 (ipG_sz (cellsF_size f fs))) ?_
  with_reducible refine vC M (HI.out _ M.b) ?_; clear M; intro u M
  with_reducible refine rA ?_
  go_upto_region 6 with fail
  refine wp_region_lit ?_
  iterate 2 (with_reducible refine rA ?_)
  (with_reducible refine rB (.bool true) ?_ ?_); (· first | (go_simp; done) | (go_simp; with_reducible rfl) | (go_simp; simp_all))
  (with_reducible refine rB (.bool false) ?_ ?_); (· first | (go_simp; done) | (go_simp; with_reducible rfl) | (go_simp; simp_all))
  iterate 4 (with_reducible refine rA ?_)
  (with_reducible refine rB (.bool false) ?_ ?_); (· first | (go_simp; done) | (go_simp; with_reducible rfl) | (go_simp; simp_all))
  with_reducible refine rA ?_
  with_reducible refine wL 1 M whole_part Tryz.underlying27 (infoTIp22 (ipG_sz (cellsF_size f fs))) ?_
  with_reducible refine wL 0 M whole_part Tryz.underlying27 (infoTIp22 (ipG_sz (cellsF_size f fs))) ?_
  (with_reducible refine rB (.bool false) ?_ ?_); (· first | (go_simp; done) | (go_simp; with_reducible rfl) | (go_simp; simp_all))
  iterate 3 (with_reducible refine rA ?_)
  go_upto_region 8 with fail
  refine wp_region_lit ?_
  with_reducible refine rA ?_
  with_reducible refine vC M (HP.out _ M.b) ?_; clear M; intro u M
  with_reducible refine rA ?_
  (with_reducible refine rB (.agg (ipG 0 0 cellsZ 0 0 0 0)) ?_ ?_); (· go_simp; (try with_reducible rfl))
  with_reducible refine rA ?_
  with_reducible refine wA (ipG 0 0 cellsZ 0 0 0 0) M ?_; clear M; intro pB9 u M; refine ⟨_, by (simp only [pu, sB, s0, sS]; rfl), ?_⟩
  with_reducible refine wS 2 M (laid_all (ipG_sz cellsZ_size) (ipG_sz cellsZ_size)) (infoTIp22 (ipG_sz cellsZ_size)) (ipG_one cellsZ_one) (fit_2 (ipG_sz cellsZ_size) (ipG_sz cellsZ_size) (by decide)) ?_; clear M; intro u M
  with_reducible refine rA ?_
  go_upto_region 9 with fail
  refine wp_region_lit ?_
  with_reducible refine vC M (HL.out _ M.b) ?_; clear M; intro u M
  iterate 2 (with_reducible refine rA ?_)
  (with_reducible refine rB (.bool true) ?_ ?_); (· first | (go_simp; done) | (go_simp; with_reducible rfl) | (go_simp; simp_all))
  with_reducible refine rA ?_
  with_reducible refine wL 2 M whole_part Tryz.underlying27 (infoTIp22 (ipG_sz cellsZ_size)) ?_
  (with_reducible refine rB (.agg (ipG 0 0 cellsZ 0 0 0 0)) ?_ ?_); (· go_simp; rfl)
  iterate 3 (with_reducible refine rA ?_)
  iterate 12 (with_reducible refine kA ?_)
  iterate 3 (with_reducible refine rA ?_)
  go_wp2_with fail
  go_ret
  exact ⟨rfl, M.b⟩

set_option maxHeartbeats 8000000 in
set_option maxRecDepth 100000 in
theorem bkNBI (on who d n z c : Int) (f : Fil.Flt) (fs : ByteArray) (s u : ByteArray) (w : World)
    (HL : Hid (∀ W, Below w.heap.size w W → Calls Tryz.prog 9 #[] W fun e w' => e = .returned (.bool true) ∧ Below W.heap.size W w')) (hm : decide (600 < (s.size : Int)) = false) (HT : Hid (∀ W, Below w.heap.size w W → Calls Tryz.prog 12 #[.agg (ipG on who (cellsF f fs) d n z c)] W fun e w' => e = .returned (.string u) ∧ Below W.heap.size W w')) (hu : u.toList.isEmpty = true) (HQ : Hid (∀ W, Below w.heap.size w W → Calls Tryz.prog 14 #[.string u] W fun e w' => e = .returned (.tuple #[.agg (ipG 0 0 cellsZ 0 0 0 0), .int .i64 3]) ∧ Below W.heap.size W w')) (HI : Hid (∀ W, Below w.heap.size w W → Calls Tryz.prog 10 #[.agg (ipG on who (cellsF f fs) d n z c)] W fun e w' => e = .returned (.bool false) ∧ Below W.heap.size W w')) (HP : Hid (∀ W, Below w.heap.size w W → Calls Tryz.prog 14 #[.string s] W fun e w' => e = .returned (.tuple #[.agg (ipG 0 0 cellsZ 0 0 0 0), .int .i64 3]) ∧ Below W.heap.size W w')) (hz : ∀ W : World, (Op.equalIn 10000 27 (.agg (ipG 0 0 cellsZ 0 0 0 0)) (.agg (ipG 0 0 cellsZ 0 0 0 0))).run Tryz.prog W = .ok true W) :
    Calls Tryz.prog 6 #[.agg (ipG on who (cellsF f fs) d n z c), .string s] w fun e w' => e = .returned (.bool true) ∧ Below w.heap.size w w' := by

  have M := Mm.nil w
  go_enter Tryz.func6, Tryz.ntmps6
  go_upto_region 0 with fail
  refine wp_region_lit ?_
  with_reducible refine wA (ipG on who (cellsF f fs) d n z c) M ?_; clear M; intro pB2 u M; refine ⟨_, by (simp only [pu, sB, s0, sS]; rfl), ?_⟩
  with_reducible refine rA ?_
  go_upto_region 1 with fail
  refine wp_region_lit ?_
  iterate 3 (with_reducible refine rA ?_)
  go_upto_region 3 with fail
  refine wp_region_lit ?_
  with_reducible refine wL 0 M whole_part Tryz.underlying27 (infoTIp22 (ipG_sz (cellsF_size f fs))) ?_
  with_reducible refine vC M (HT.out _ M.b) ?_; clear M; intro u M
  with_reducible refine rA ?_
  go_upto_region 4 with fail
  refine wp_region_lit ?_
  with_reducible refine rA ?_
  with_reducible refine vC M (HQ.out _ M.b) ?_; clear M; intro u M
  with_reducible refine rA ?_
  (with_reducible refine rB (.agg (ipG 0 0 cellsZ 0 0 0 0)) ?_ ?_); (· go_simp; (try with_reducible rfl))
  with_reducible refine rA ?_
  with_reducible refine wA (ipG 0 0 cellsZ 0 0 0 0) M ?_; clear M; intro pB6 u M; refine ⟨_, by (simp only [pu, sB, s0, sS]; rfl), ?_⟩
  with_reducible refine wS 1 M (laid_all (ipG_sz cellsZ_size) (ipG_sz cellsZ_size)) (infoTIp22 (ipG_sz cellsZ_size)) (ipG_one cellsZ_one) (fit_2 (ipG_sz cellsZ_size) (ipG_sz cellsZ_size) (by decide)) ?_; clear M; intro u M
  with_reducible refine rA ?_
  go_upto_region 5 with fail
  refine wp_region_lit ?_
  with_reducible refine wL 0 M whole_part Tryz.underlying27 (infoTIp22 (ipG_sz (cellsF_size f fs))) ?_
  with_reducible refine vC M (HI.out _ M.b) ?_; clear M; intro u M
  with_reducible refine rA ?_
  go_upto_region 6 with fail
  refine wp_region_lit ?_
  iterate 2 (with_reducible refine rA ?_)
  (with_reducible refine rB (.bool false) ?_ ?_); (· first | (go_simp; done) | (go_simp; with_reducible rfl) | (go_simp; simp_all))
  (with_reducible refine rB (.bool false) ?_ ?_); (· first | (go_simp; done) | (go_simp; with_reducible rfl) | (go_simp; simp_all))
  iterate 3 (with_reducible refine rA ?_)
  iterate 7 (with_reducible refine kA ?_)
  iterate 2 (with_reducible refine rA ?_)
  go_upto_region 8 with fail
  refine wp_region_lit ?_
  with_reducible refine rA ?_
  with_reducible refine vC M (HP.out _ M.b) ?_; clear M; intro u M
  with_reducible refine rA ?_
  (with_reducible refine rB (.agg (ipG 0 0 cellsZ 0 0 0 0)) ?_ ?_); (· go_simp; (try with_reducible rfl))
  with_reducible refine rA ?_
  with_reducible refine wA (ipG 0 0 cellsZ 0 0 0 0) M ?_; clear M; intro pB9 u M; refine ⟨_, by (simp only [pu, sB, s0, sS]; rfl), ?_⟩
  with_reducible refine wS 2 M (laid_all (ipG_sz cellsZ_size) (ipG_sz cellsZ_size)) (infoTIp22 (ipG_sz cellsZ_size)) (ipG_one cellsZ_one) (fit_2 (ipG_sz cellsZ_size) (ipG_sz cellsZ_size) (by decide)) ?_; clear M; intro u M
  with_reducible refine rA ?_
  go_upto_region 9 with fail
  refine wp_region_lit ?_
  with_reducible refine vC M (HL.out _ M.b) ?_; clear M; intro u M
  iterate 2 (with_reducible refine rA ?_)
  (with_reducible refine rB (.bool true) ?_ ?_); (· first | (go_simp; done) | (go_simp; with_reducible rfl) | (go_simp; simp_all))
  with_reducible refine rA ?_
  with_reducible refine wL 2 M whole_part Tryz.underlying27 (infoTIp22 (ipG_sz cellsZ_size)) ?_
  (with_reducible refine rB (.agg (ipG 0 0 cellsZ 0 0 0 0)) ?_ ?_); (· go_simp; rfl)
  iterate 3 (with_reducible refine rA ?_)
  iterate 12 (with_reducible refine kA ?_)
  iterate 3 (with_reducible refine rA ?_)
  go_wp2_with fail
  go_ret
  exact ⟨rfl, M.b⟩
end Go.Proofs.YtkohfomiigcifaaGreatDoor
namespace Go.Proofs.YtkohfomiigcifaaGreatDoor
open Go.RowKit
open Wd (Bs)

theorem pV_shortI (s : Bs) : (Ip.pV s).f.sub.length ≤ 32 := by
  unfold Ip.pV
  split
  · exact readR_short s
  · decide
theorem textT_lenI (x : Ip.Rd) : (Ip.textT x).length ≤ 6000 := by
  cases hv : Ip.okB x with
  | false => rw [Ip.textT_bad hv]; simp
  | true =>
    have o := Ip.ok_parts hv
    have lo := o.lo
    have hi := o.hi
    have ha := Ip.mem_act o.act
    have nY := o.nY
    have nN := o.nN
    have hn : 0 ≤ x.n ∧ x.n ≤ 99 := by
      cases hN : Ip.uN x.d with
      | true => have := nY hN; omega
      | false => have := nN hN; omega
    have h1 := heads19_len (Ip.formI x.on x.who x.d).toNat (by omega)
    have h2 := whoT_len x.who
    have h3 := partF_len x.f
    have h4 := actT_len (d := x.d) (n := x.n) (z := x.z) (c := x.c) (by omega) (by omega) (by omega)
    rw [Ip.textT_ok hv]
    unfold Ip.raw Ip.subj
    split <;> simp <;> omega
theorem lawInsteadBack (on who d n z c : Int) (f : Fil.Flt) (fs : ByteArray) (s : ByteArray) (hf : f.sub = fs.data.toList) (hs : fs.size ≤ maxLen) (w : World) (hE : EnvI w) :
    Calls Tryz.prog 6 #[.agg (ipG on who (cellsF f fs) d n z c), .string s] w fun e w' => e = .returned (.bool true) ∧ Below w.heap.size w w' := by
  have HL : Hid (∀ W, Below w.heap.size w W → _) := Lib.hid fun W hb => ipAlive W (hE.below hb)
  cases hm : decide (600 < (s.size : Int)) with
  | true => exact bkLongI on who d n z c f fs s w HL hm
  | false =>
    have hle := of_decide_eq_false hm
    have HT : Hid (∀ W, Below w.heap.size w W → _) := Lib.hid fun W hb => ipText on who d n z c f fs hf hs W (hE.below hb)
    have HI : Hid (∀ W, Below w.heap.size w W → _) := Lib.hid fun W hb => ipIs on who d n z c f fs hf hs W (hE.below hb)
    obtain ⟨u, hu, eu⟩ := exists_bytes (Ip.textT ⟨on, who, f, d, n, z, c⟩)
    rw [eu] at HT
    have hul : u.size ≤ 1000000 := by
      have h1 : u.data.toList.length = u.size := Array.length_toList
      have h2 := textT_lenI ⟨on, who, f, d, n, z, c⟩
      rw [hu] at h1
      omega
    have HQ : Hid (∀ W, Below w.heap.size w W → _) := Lib.hid fun W hb => ipParse u hul W (hE.below hb)
    have HP : Hid (∀ W, Below w.heap.size w W → _) := Lib.hid fun W hb => ipParse s (by omega) W (hE.below hb)
    rw [hu] at HQ
    have hq : ∀ W : World, (Op.equalIn 10000 27 (.agg (ipG on who (cellsF f fs) d n z c)) (.agg (ipG on who (cellsF f fs) d n z c))).run Tryz.prog W = .ok true W := fun W => run_eq_ipS on who d n z c f fs hf W
    have hz : ∀ W : World, (Op.equalIn 10000 27 (.agg (ipG 0 0 cellsZ 0 0 0 0)) (.agg (ipG 0 0 cellsZ 0 0 0 0))).run Tryz.prog W = .ok true W := fun W => run_eq_ipS 0 0 0 0 0 0 Fil.zero ⟨#[]⟩ rfl W
    have hne : u.toList.isEmpty = !Ip.okB ⟨on, who, f, d, n, z, c⟩ := by
      rw [Lib.toList_data, hu]
      cases hv : Ip.okB ⟨on, who, f, d, n, z, c⟩ with
      | false => rw [Ip.textT_bad hv]; rfl
      | true =>
        cases ht : Ip.textT ⟨on, who, f, d, n, z, c⟩ with
        | nil => rw [Ip.textT_nil, hv] at ht; cases ht
        | cons a l => rfl
    cases hp : Ip.pB s.data.toList with
    | true =>
      obtain ⟨h1, h2, h3, _⟩ := Ip.p_yes hp
      have hy := pV_shortI s.data.toList
      obtain ⟨y, ey⟩ : ∃ y, Ip.pV s.data.toList = y := ⟨_, rfl⟩
      rw [ey] at h1 h2 hy HP
      rw [h3] at HP
      obtain ⟨u2, hu2, eu2⟩ := exists_bytes (Ip.textT y)
      have HT2 : Hid (∀ W, Below w.heap.size w W → _) := Lib.hid fun W hb => ipTextX y (by omega) W (hE.below hb)
      rw [eu2] at HT2
      have HI2 : Hid (∀ W, Below w.heap.size w W → _) := Lib.hid fun W hb => ipIsX y (by omega) W (hE.below hb)
      rw [h1] at HI2
      have hu3 : (u2.toList == s.toList) = true := by rw [Lib.toList_data, Lib.toList_data, hu2, h2]; simp
      cases hv : Ip.okB ⟨on, who, f, d, n, z, c⟩ with
      | true =>
        rw [hv] at HI hne
        rw [(Ip.p_text hv).1, (Ip.p_text hv).2, ← cellsI_of hf] at HQ
        exact bkPVI on who d n z c f fs s u y.on y.who y.d y.n y.z y.c u2 y.f (fsOf y.f) w HL hm HT hne HQ HI HP hq HI2 HT2 hu3
      | false =>
        rw [hv] at HI hne
        rw [Ip.textT_bad hv, (Ip.p_no Ip.p_nil).1, (Ip.p_no Ip.p_nil).2] at HQ
        exact bkPBI on who d n z c f fs s u y.on y.who y.d y.n y.z y.c u2 y.f (fsOf y.f) w HL hm HT hne HQ HI HP HI2 HT2 hu3
    | false =>
      rw [(Ip.p_no hp).1, (Ip.p_no hp).2] at HP
      cases hv : Ip.okB ⟨on, who, f, d, n, z, c⟩ with
      | true =>
        rw [hv] at HI hne
        rw [(Ip.p_text hv).1, (Ip.p_text hv).2, ← cellsI_of hf] at HQ
        exact bkNVI on who d n z c f fs s u w HL hm HT hne HQ HI HP hq hz
      | false =>
        rw [hv] at HI hne
        rw [Ip.textT_bad hv, (Ip.p_no Ip.p_nil).1, (Ip.p_no Ip.p_nil).2] at HQ
        exact bkNBI on who d n z c f fs s u w HL hm HT hne HQ HI HP hz
end Go.Proofs.YtkohfomiigcifaaGreatDoor
