/-
  MERGED: IpLawA, IpLawN, IpLaws. By an AI agent.
-/
import Derived.Test.YtkohfomiigcifaaGreatDoorIpGC
import Derived.Test.YtkohfomiigcifaaGreatDoorIpGA
import Derived.Deep.Cut
import Derived.Test.YtkohfomiigcifaaGreatDoorIpGD
import Derived.Test.YtkohfomiigcifaaGreatDoorIpGE
namespace Go.Proofs.YtkohfomiigcifaaGreatDoor
open Go.RowKit
open Wd (Bs)

set_option maxHeartbeats 8000000 in
set_option maxRecDepth 100000 in
theorem isWalkI (on who d n z c : Int) (f : Fil.Flt) (fs : ByteArray) (v : Bool) (w : World)
    (HL : Hid (∀ W, Below w.heap.size w W → Calls Tryz.prog 9 #[] W fun e w' => e = .returned (.bool true) ∧ Below W.heap.size W w')) (HI : Hid (∀ W, Below w.heap.size w W → Calls Tryz.prog 10 #[.agg (ipG on who (cellsF f fs) d n z c)] W fun e w' => e = .returned (.bool v) ∧ Below W.heap.size W w')) (HJ : Hid (∀ W, Below w.heap.size w W → Calls Tryz.prog 11 #[.agg (ipG on who (cellsF f fs) d n z c)] W fun e w' => e = .returned (.bool v) ∧ Below W.heap.size W w')) :
    Calls Tryz.prog 3 #[.agg (ipG on who (cellsF f fs) d n z c)] w fun e w' => e = .returned (.bool true) ∧ Below w.heap.size w w' := by

  have M := Mm.nil w
  go_enter Tryz.func3, Tryz.ntmps3
  go_upto_region 0 with fail
  refine wp_region_lit ?_
  with_reducible refine wA (ipG on who (cellsF f fs) d n z c) M ?_; clear M; intro pB1 u M; refine ⟨_, by (simp only [pu, sB, s0, sS]; rfl), ?_⟩
  with_reducible refine rA ?_
  go_upto_region 1 with fail
  replace M := M.drew
  refine wp_region_held_drew (S := fun W => Mm w W [(pB1, (ipG on who (cellsF f fs) d n z c), 27)]) (by kernel_rfl) M (fun _ => ?_)
  generalize World.drew _ = u at M ⊢
  refine tC 0 (some 3) rfl rfl (fun _ hb => M.call hb) (HL.out _ M.b) ?_; clear M; intro u _ M
  refine tA 1 (some 4) rfl rfl M ?_
  refine tLm 2 (some 5) rfl rfl (fun W h => h.at 0 rfl) whole_part Tryz.underlying27 (infoTIp22 (ipG_sz (cellsF_size f fs))) M ?_
  refine tLm 4 (some 7) rfl rfl (fun W h => h.at 0 rfl) whole_part Tryz.underlying27 (infoTIp22 (ipG_sz (cellsF_size f fs))) M ?_
  refine tC 3 (some 6) rfl rfl (fun _ hb => M.call hb) (HI.out _ M.b) ?_; clear M; intro u _ M
  refine tC 5 (some 8) rfl rfl (fun _ hb => M.call hb) (HJ.out _ M.b) ?_; clear M; intro u _ M
  cases v with
  | false =>
   refine tB 6 (some 9) rfl rfl (.bool true) (by intro W hSw; (go_simp; (try with_reducible rfl))) M ?_
   refine tA 7 (some 10) rfl rfl M ?_
   refine tA 8 (some 2) rfl rfl M ?_
   refine wpAnyH_done (by kernel_rfl) ?_ _
   go_wp2_with fail
   go_ret
   exact ⟨rfl, M.b⟩
  | true =>
   refine tB 6 (some 9) rfl rfl (.bool true) (by intro W hSw; (go_simp; (try with_reducible rfl))) M ?_
   refine tA 7 (some 10) rfl rfl M ?_
   refine tA 8 (some 2) rfl rfl M ?_
   refine wpAnyH_done (by kernel_rfl) ?_ _
   go_wp2_with fail
   go_ret
   exact ⟨rfl, M.b⟩

set_option maxHeartbeats 8000000 in
set_option maxRecDepth 100000 in
theorem txWalkI (on who d n z c : Int) (f : Fil.Flt) (fs : ByteArray) (t : ByteArray) (w : World)
    (HL : Hid (∀ W, Below w.heap.size w W → Calls Tryz.prog 9 #[] W fun e w' => e = .returned (.bool true) ∧ Below W.heap.size W w')) (HT : Hid (∀ W, Below w.heap.size w W → Calls Tryz.prog 12 #[.agg (ipG on who (cellsF f fs) d n z c)] W fun e w' => e = .returned (.string t) ∧ Below W.heap.size W w')) (HU : Hid (∀ W, Below w.heap.size w W → Calls Tryz.prog 13 #[.agg (ipG on who (cellsF f fs) d n z c)] W fun e w' => e = .returned (.string t) ∧ Below W.heap.size W w')) :
    Calls Tryz.prog 4 #[.agg (ipG on who (cellsF f fs) d n z c)] w fun e w' => e = .returned (.bool true) ∧ Below w.heap.size w w' := by

  have M := Mm.nil w
  go_enter Tryz.func4, Tryz.ntmps4
  go_upto_region 0 with fail
  refine wp_region_lit ?_
  with_reducible refine wA (ipG on who (cellsF f fs) d n z c) M ?_; clear M; intro pB1 u M; refine ⟨_, by (simp only [pu, sB, s0, sS]; rfl), ?_⟩
  with_reducible refine rA ?_
  go_upto_region 1 with fail
  replace M := M.drew
  refine wp_region_held_drew (S := fun W => Mm w W [(pB1, (ipG on who (cellsF f fs) d n z c), 27)]) (by kernel_rfl) M (fun _ => ?_)
  generalize World.drew _ = u at M ⊢
  refine tC 0 (some 3) rfl rfl (fun _ hb => M.call hb) (HL.out _ M.b) ?_; clear M; intro u _ M
  refine tA 1 (some 4) rfl rfl M ?_
  refine tLm 2 (some 5) rfl rfl (fun W h => h.at 0 rfl) whole_part Tryz.underlying27 (infoTIp22 (ipG_sz (cellsF_size f fs))) M ?_
  refine tLm 4 (some 7) rfl rfl (fun W h => h.at 0 rfl) whole_part Tryz.underlying27 (infoTIp22 (ipG_sz (cellsF_size f fs))) M ?_
  refine tC 3 (some 6) rfl rfl (fun _ hb => M.call hb) (HT.out _ M.b) ?_; clear M; intro u _ M
  refine tC 5 (some 8) rfl rfl (fun _ hb => M.call hb) (HU.out _ M.b) ?_; clear M; intro u _ M
  refine tB 6 (some 9) rfl rfl (.bool true) (by intro W hSw; (go_simp; (try with_reducible rfl))) M ?_
  refine tA 7 (some 10) rfl rfl M ?_
  refine tA 8 (some 2) rfl rfl M ?_
  refine wpAnyH_done (by kernel_rfl) ?_ _
  go_wp2_with fail
  go_ret
  exact ⟨rfl, M.b⟩

set_option maxHeartbeats 8000000 in
set_option maxRecDepth 100000 in
theorem apNoI (on who d n z c : Int) (f : Fil.Flt) (fs : ByteArray) (on2 who2 d2 n2 z2 c2 : Int) (f2 : Fil.Flt) (fs2 : ByteArray) (v v2 : Bool) (w : World)
    (HL : Hid (∀ W, Below w.heap.size w W → Calls Tryz.prog 9 #[] W fun e w' => e = .returned (.bool true) ∧ Below W.heap.size W w')) (HI : Hid (∀ W, Below w.heap.size w W → Calls Tryz.prog 10 #[.agg (ipG on who (cellsF f fs) d n z c)] W fun e w' => e = .returned (.bool v) ∧ Below W.heap.size W w')) (HJ : Hid (∀ W, Below w.heap.size w W → Calls Tryz.prog 10 #[.agg (ipG on2 who2 (cellsF f2 fs2) d2 n2 z2 c2)] W fun e w' => e = .returned (.bool v2) ∧ Below W.heap.size W w')) (hv : Hid ((v && v2) = false)) :
    Calls Tryz.prog 8 #[.agg (ipG on who (cellsF f fs) d n z c), .agg (ipG on2 who2 (cellsF f2 fs2) d2 n2 z2 c2)] w fun e w' => e = .returned (.bool true) ∧ Below w.heap.size w w' := by

  have M := Mm.nil w
  go_enter Tryz.func8, Tryz.ntmps8
  go_upto_region 0 with fail
  refine wp_region_lit ?_
  with_reducible refine wA (ipG on who (cellsF f fs) d n z c) M ?_; clear M; intro pB2 u M; refine ⟨_, by (simp only [pu, sB, s0, sS]; rfl), ?_⟩
  with_reducible refine wA (ipG on2 who2 (cellsF f2 fs2) d2 n2 z2 c2) M ?_; clear M; intro pB3 u M; refine ⟨_, by (simp only [pu, sB, s0, sS]; rfl), ?_⟩
  with_reducible refine rA ?_
  go_upto_region 1 with fail
  refine wp_region_lit ?_
  with_reducible refine wL 0 M whole_part Tryz.underlying27 (infoTIp22 (ipG_sz (cellsF_size f fs))) ?_
  with_reducible refine vC M (HI.out _ M.b) ?_; clear M; intro u M
  iterate 2 (with_reducible refine rA ?_)
  cases v with
  | false =>
   iterate 3 (with_reducible refine kA ?_)
   with_reducible refine rA ?_
   go_upto_region 2 with fail
   refine wp_region_lit ?_
   with_reducible refine vC M (HL.out _ M.b) ?_; clear M; intro u M
   with_reducible refine rA ?_
   go_wp2_with fail
   go_ret
   exact ⟨rfl, M.b⟩
  | true =>
   with_reducible refine wL 1 M whole_part Tryz.underlying27 (infoTIp22 (ipG_sz (cellsF_size f2 fs2))) ?_
   with_reducible refine vC M (HJ.out _ M.b) ?_; clear M; intro u M
   iterate 2 (with_reducible refine rA ?_)
   cases v2 with
   | false =>
    go_upto_region 2 with fail
    refine wp_region_lit ?_
    with_reducible refine vC M (HL.out _ M.b) ?_; clear M; intro u M
    with_reducible refine rA ?_
    go_wp2_with fail
    go_ret
    exact ⟨rfl, M.b⟩
   | true =>
    exact absurd hv.out (by decide)

set_option maxHeartbeats 8000000 in
set_option maxRecDepth 100000 in
theorem apYesI (on who d n z c : Int) (f : Fil.Flt) (fs : ByteArray) (on2 who2 d2 n2 z2 c2 : Int) (f2 : Fil.Flt) (fs2 : ByteArray) (t t2 : ByteArray) (q : Bool) (w : World)
    (HL : Hid (∀ W, Below w.heap.size w W → Calls Tryz.prog 9 #[] W fun e w' => e = .returned (.bool true) ∧ Below W.heap.size W w')) (HI : Hid (∀ W, Below w.heap.size w W → Calls Tryz.prog 10 #[.agg (ipG on who (cellsF f fs) d n z c)] W fun e w' => e = .returned (.bool true) ∧ Below W.heap.size W w')) (HJ : Hid (∀ W, Below w.heap.size w W → Calls Tryz.prog 10 #[.agg (ipG on2 who2 (cellsF f2 fs2) d2 n2 z2 c2)] W fun e w' => e = .returned (.bool true) ∧ Below W.heap.size W w')) (HT : Hid (∀ W, Below w.heap.size w W → Calls Tryz.prog 12 #[.agg (ipG on who (cellsF f fs) d n z c)] W fun e w' => e = .returned (.string t) ∧ Below W.heap.size W w')) (HU : Hid (∀ W, Below w.heap.size w W → Calls Tryz.prog 12 #[.agg (ipG on2 who2 (cellsF f2 fs2) d2 n2 z2 c2)] W fun e w' => e = .returned (.string t2) ∧ Below W.heap.size W w')) (hq : (t.toList == t2.toList) = q) (he : ∀ W : World, (Op.equalIn 10000 27 (.agg (ipG on who (cellsF f fs) d n z c)) (.agg (ipG on2 who2 (cellsF f2 fs2) d2 n2 z2 c2))).run Tryz.prog W = .ok q W) :
    Calls Tryz.prog 8 #[.agg (ipG on who (cellsF f fs) d n z c), .agg (ipG on2 who2 (cellsF f2 fs2) d2 n2 z2 c2)] w fun e w' => e = .returned (.bool true) ∧ Below w.heap.size w w' := by

  have M := Mm.nil w
  go_enter Tryz.func8, Tryz.ntmps8
  go_upto_region 0 with fail
  refine wp_region_lit ?_
  with_reducible refine wA (ipG on who (cellsF f fs) d n z c) M ?_; clear M; intro pB2 u M; refine ⟨_, by (simp only [pu, sB, s0, sS]; rfl), ?_⟩
  with_reducible refine wA (ipG on2 who2 (cellsF f2 fs2) d2 n2 z2 c2) M ?_; clear M; intro pB3 u M; refine ⟨_, by (simp only [pu, sB, s0, sS]; rfl), ?_⟩
  with_reducible refine rA ?_
  go_upto_region 1 with fail
  refine wp_region_lit ?_
  with_reducible refine wL 0 M whole_part Tryz.underlying27 (infoTIp22 (ipG_sz (cellsF_size f fs))) ?_
  with_reducible refine vC M (HI.out _ M.b) ?_; clear M; intro u M
  iterate 2 (with_reducible refine rA ?_)
  with_reducible refine wL 1 M whole_part Tryz.underlying27 (infoTIp22 (ipG_sz (cellsF_size f2 fs2))) ?_
  with_reducible refine vC M (HJ.out _ M.b) ?_; clear M; intro u M
  iterate 2 (with_reducible refine rA ?_)
  go_upto_region 3 with fail
  replace M := M.drew
  refine wp_region_held_drew (S := fun W => Mm w W [(pB2, (ipG on who (cellsF f fs) d n z c), 27), (pB3, (ipG on2 who2 (cellsF f2 fs2) d2 n2 z2 c2), 27)]) (by kernel_rfl) M (fun _ => ?_)
  generalize World.drew _ = u at M ⊢
  refine tC 0 (some 14) rfl rfl (fun _ hb => M.call hb) (HL.out _ M.b) ?_; clear M; intro u _ M
  refine tA 1 (some 15) rfl rfl M ?_
  refine tLm 2 (some 16) rfl rfl (fun W h => h.at 0 rfl) whole_part Tryz.underlying27 (infoTIp22 (ipG_sz (cellsF_size f fs))) M ?_
  refine tLm 4 (some 18) rfl rfl (fun W h => h.at 1 rfl) whole_part Tryz.underlying27 (infoTIp22 (ipG_sz (cellsF_size f2 fs2))) M ?_
  refine tLm 7 (some 21) rfl rfl (fun W h => h.at 0 rfl) whole_part Tryz.underlying27 (infoTIp22 (ipG_sz (cellsF_size f fs))) M ?_
  refine tLm 8 (some 22) rfl rfl (fun W h => h.at 1 rfl) whole_part Tryz.underlying27 (infoTIp22 (ipG_sz (cellsF_size f2 fs2))) M ?_
  refine tB 9 (some 23) rfl rfl (.bool q) (by intro W hSw; (go_simp; (try with_reducible rfl))) M ?_
  refine tC 3 (some 17) rfl rfl (fun _ hb => M.call hb) (HT.out _ M.b) ?_; clear M; intro u _ M
  refine tC 5 (some 19) rfl rfl (fun _ hb => M.call hb) (HU.out _ M.b) ?_; clear M; intro u _ M
  refine tB 6 (some 20) rfl rfl (.bool q) (by intro W hSw; (go_simp; (try with_reducible rfl))) M ?_
  cases q with
  | false =>
   refine tB 10 (some 24) rfl rfl (.bool true) (by intro W hSw; (go_simp; (try with_reducible rfl))) M ?_
   refine tA 11 (some 25) rfl rfl M ?_
   refine tA 12 (some 4) rfl rfl M ?_
   refine wpAnyH_done (by kernel_rfl) ?_ _
   go_wp2_with fail
   go_ret
   exact ⟨rfl, M.b⟩
  | true =>
   refine tB 10 (some 24) rfl rfl (.bool true) (by intro W hSw; (go_simp; (try with_reducible rfl))) M ?_
   refine tA 11 (some 25) rfl rfl M ?_
   refine tA 12 (some 4) rfl rfl M ?_
   refine wpAnyH_done (by kernel_rfl) ?_ _
   go_wp2_with fail
   go_ret
   exact ⟨rfl, M.b⟩
end Go.Proofs.YtkohfomiigcifaaGreatDoor
namespace Go.Proofs.YtkohfomiigcifaaGreatDoor
open Go.RowKit
open Wd (Bs)

set_option maxHeartbeats 8000000 in
set_option maxRecDepth 100000 in
theorem nuNoI (on who d n z c : Int) (f : Fil.Flt) (fs : ByteArray) (n0 : Int) (w : World)
    (HL : Hid (∀ W, Below w.heap.size w W → Calls Tryz.prog 9 #[] W fun e w' => e = .returned (.bool true) ∧ Below W.heap.size W w')) (HI : Hid (∀ W, Below w.heap.size w W → Calls Tryz.prog 10 #[.agg (ipG on who (cellsF f fs) d n z c)] W fun e w' => e = .returned (.bool false) ∧ Below W.heap.size W w')) :
    Calls Tryz.prog 7 #[.agg (ipG on who (cellsF f fs) d n z c), .int .i64 n0] w fun e w' => e = .returned (.bool true) ∧ Below w.heap.size w w' := by

  have M := Mm.nil w
  go_enter Tryz.func7, Tryz.ntmps7
  go_upto_region 0 with fail
  refine wp_region_lit ?_
  with_reducible refine wA (ipG on who (cellsF f fs) d n z c) M ?_; clear M; intro pB2 u M; refine ⟨_, by (simp only [pu, sB, s0, sS]; rfl), ?_⟩
  with_reducible refine rA ?_
  go_upto_region 1 with fail
  refine wp_region_lit ?_
  with_reducible refine wL 0 M whole_part Tryz.underlying27 (infoTIp22 (ipG_sz (cellsF_size f fs))) ?_
  with_reducible refine vC M (HI.out _ M.b) ?_; clear M; intro u M
  with_reducible refine rA ?_
  go_upto_region 2 with fail
  refine wp_region_lit ?_
  with_reducible refine vC M (HL.out _ M.b) ?_; clear M; intro u M
  with_reducible refine rA ?_
  go_wp2_with fail
  go_ret
  exact ⟨rfl, M.b⟩

set_option maxHeartbeats 8000000 in
set_option maxRecDepth 100000 in
theorem nuYesI (on who d n z c : Int) (f : Fil.Flt) (fs : ByteArray) (n0 : Int) (vy d2 d4 d7 n1 n9 nz gp : Bool) (w : World)
    (HL : Hid (∀ W, Below w.heap.size w W → Calls Tryz.prog 9 #[] W fun e w' => e = .returned (.bool true) ∧ Below W.heap.size W w')) (HI : Hid (∀ W, Below w.heap.size w W → Calls Tryz.prog 10 #[.agg (ipG on who (cellsF f fs) d n z c)] W fun e w' => e = .returned (.bool true) ∧ Below W.heap.size W w')) (HY : Hid (∀ W, Below w.heap.size w W → Calls Tryz.prog 10 #[.agg (ipG on who (cellsF f fs) d n0 z c)] W fun e w' => e = .returned (.bool vy) ∧ Below W.heap.size W w')) (h2 : (d == 2) = d2) (h4 : (d == 4) = d4) (h7 : (d == 7) = d7) (h1 : decide (1 ≤ n0) = n1) (h9 : decide (n0 ≤ 99) = n9) (h0 : (n0 == 0) = nz) (hg : decide (0 < n) = gp) (hR : Hid (((vy == (((d2 || (d4 || d7)) && (n1 && n9)) || (!(d2 || (d4 || d7)) && nz))) && (gp == (d2 || (d4 || d7)))) = true)) :
    Calls Tryz.prog 7 #[.agg (ipG on who (cellsF f fs) d n z c), .int .i64 n0] w fun e w' => e = .returned (.bool true) ∧ Below w.heap.size w w' := by

  have M := Mm.nil w
  go_enter Tryz.func7, Tryz.ntmps7
  go_upto_region 0 with fail
  refine wp_region_lit ?_
  with_reducible refine wA (ipG on who (cellsF f fs) d n z c) M ?_; clear M; intro pB2 u M; refine ⟨_, by (simp only [pu, sB, s0, sS]; rfl), ?_⟩
  with_reducible refine rA ?_
  go_upto_region 1 with fail
  refine wp_region_lit ?_
  with_reducible refine wL 0 M whole_part Tryz.underlying27 (infoTIp22 (ipG_sz (cellsF_size f fs))) ?_
  with_reducible refine vC M (HI.out _ M.b) ?_; clear M; intro u M
  with_reducible refine rA ?_
  go_upto_region 3 with fail
  refine wp_region_lit ?_
  with_reducible refine wL 0 M whole_part Tryz.underlying27 (infoTIp22 (ipG_sz (cellsF_size f fs))) ?_
  with_reducible refine wA (ipG 0 0 cellsZ 0 0 0 0) M ?_; clear M; intro pB5 u M; refine ⟨_, by (simp only [pu, sB, s0, sS]; rfl), ?_⟩
  with_reducible refine wS 1 M (laid_all (ipG_sz (cellsF_size f fs)) (ipG_sz cellsZ_size)) (infoTIp22 (ipG_sz (cellsF_size f fs))) (ipG_one (cellsF_one f fs)) (fit_2 (ipG_sz cellsZ_size) (ipG_sz (cellsF_size f fs)) (by decide)) ?_; clear M; intro u M
  go_upto_region 4 with fail
  refine wp_region_lit ?_
  iterate 2 (with_reducible refine rA ?_)
  with_reducible refine wV 1 M (ipG_p19 (cellsF_size f fs)) (fit_1 (ipG_sz (cellsF_size f fs)) (by decide)) ?_; clear M; intro u M
  go_upto_region 5 with fail
  refine wp_region_lit ?_
  with_reducible refine rA ?_
  with_reducible refine wLv 0 M (ipG_18 (cellsF_size f fs)) Tryz.underlying3 ?_
  iterate 2 (with_reducible refine rA ?_)
  cases d2 with
  | false =>
   with_reducible refine rA ?_
   with_reducible refine wLv 0 M (ipG_18 (cellsF_size f fs)) Tryz.underlying3 ?_
   iterate 3 (with_reducible refine rA ?_)
   cases d4 with
   | false =>
    with_reducible refine rA ?_
    with_reducible refine wLv 0 M (ipG_18 (cellsF_size f fs)) Tryz.underlying3 ?_
    iterate 3 (with_reducible refine rA ?_)
    go_upto_region 6 with fail
    refine wp_region_lit ?_
    with_reducible refine vC M (HL.out _ M.b) ?_; clear M; intro u M
    with_reducible refine rA ?_
    with_reducible refine wL 1 M whole_part Tryz.underlying27 (infoTIp22 (ipG_sz (cellsF_size f fs))) ?_
    with_reducible refine vC M (HY.out _ M.b) ?_; clear M; intro u M
    iterate 2 (with_reducible refine rA ?_)
    cases d7 with
    | false =>
     iterate 2 (with_reducible refine kA ?_)
     iterate 2 (with_reducible refine rA ?_)
     iterate 2 (with_reducible refine kA ?_)
     iterate 9 (with_reducible refine rA ?_)
     cases vy with
     | false =>
      cases nz with
      | false =>
       iterate 4 (with_reducible refine rA ?_)
       with_reducible refine wLv 0 M (ipG_19 (cellsF_size f fs)) Tryz.underlying3 ?_
       iterate 2 (with_reducible refine rA ?_)
       cases gp with
       | false =>
        iterate 3 (with_reducible refine rA ?_)
        go_wp2_with fail
        go_ret
        exact ⟨rfl, M.b⟩
       | true =>
        iterate 3 (with_reducible refine rA ?_)
        go_wp2_with fail
        go_ret
        exact ⟨absurd hR.out (by simp), M.b⟩
      | true =>
       iterate 3 (with_reducible refine rA ?_)
       iterate 5 (with_reducible refine kA ?_)
       iterate 2 (with_reducible refine rA ?_)
       go_wp2_with fail
       go_ret
       exact ⟨absurd hR.out (by simp), M.b⟩
     | true =>
      cases nz with
      | false =>
       iterate 3 (with_reducible refine rA ?_)
       iterate 5 (with_reducible refine kA ?_)
       iterate 2 (with_reducible refine rA ?_)
       go_wp2_with fail
       go_ret
       exact ⟨absurd hR.out (by simp), M.b⟩
      | true =>
       iterate 4 (with_reducible refine rA ?_)
       with_reducible refine wLv 0 M (ipG_19 (cellsF_size f fs)) Tryz.underlying3 ?_
       iterate 2 (with_reducible refine rA ?_)
       cases gp with
       | false =>
        iterate 3 (with_reducible refine rA ?_)
        go_wp2_with fail
        go_ret
        exact ⟨rfl, M.b⟩
       | true =>
        iterate 3 (with_reducible refine rA ?_)
        go_wp2_with fail
        go_ret
        exact ⟨absurd hR.out (by simp), M.b⟩
    | true =>
     iterate 4 (with_reducible refine rA ?_)
     cases n1 with
     | false =>
      iterate 2 (with_reducible refine kA ?_)
      iterate 5 (with_reducible refine rA ?_)
      iterate 2 (with_reducible refine kA ?_)
      iterate 2 (with_reducible refine rA ?_)
      cases vy with
      | false =>
       iterate 4 (with_reducible refine rA ?_)
       with_reducible refine wLv 0 M (ipG_19 (cellsF_size f fs)) Tryz.underlying3 ?_
       iterate 2 (with_reducible refine rA ?_)
       cases gp with
       | false =>
        iterate 3 (with_reducible refine rA ?_)
        go_wp2_with fail
        go_ret
        exact ⟨absurd hR.out (by simp), M.b⟩
       | true =>
        iterate 3 (with_reducible refine rA ?_)
        go_wp2_with fail
        go_ret
        exact ⟨rfl, M.b⟩
      | true =>
       iterate 3 (with_reducible refine rA ?_)
       iterate 5 (with_reducible refine kA ?_)
       iterate 2 (with_reducible refine rA ?_)
       go_wp2_with fail
       go_ret
       exact ⟨absurd hR.out (by simp), M.b⟩
     | true =>
      iterate 4 (with_reducible refine rA ?_)
      cases n9 with
      | false =>
       iterate 3 (with_reducible refine rA ?_)
       iterate 2 (with_reducible refine kA ?_)
       iterate 2 (with_reducible refine rA ?_)
       cases vy with
       | false =>
        iterate 4 (with_reducible refine rA ?_)
        with_reducible refine wLv 0 M (ipG_19 (cellsF_size f fs)) Tryz.underlying3 ?_
        iterate 2 (with_reducible refine rA ?_)
        cases gp with
        | false =>
         iterate 3 (with_reducible refine rA ?_)
         go_wp2_with fail
         go_ret
         exact ⟨absurd hR.out (by simp), M.b⟩
        | true =>
         iterate 3 (with_reducible refine rA ?_)
         go_wp2_with fail
         go_ret
         exact ⟨rfl, M.b⟩
       | true =>
        iterate 3 (with_reducible refine rA ?_)
        iterate 5 (with_reducible refine kA ?_)
        iterate 2 (with_reducible refine rA ?_)
        go_wp2_with fail
        go_ret
        exact ⟨absurd hR.out (by simp), M.b⟩
      | true =>
       iterate 6 (with_reducible refine kA ?_)
       with_reducible refine rA ?_
       cases vy with
       | false =>
        iterate 3 (with_reducible refine rA ?_)
        iterate 5 (with_reducible refine kA ?_)
        iterate 2 (with_reducible refine rA ?_)
        go_wp2_with fail
        go_ret
        exact ⟨absurd hR.out (by simp), M.b⟩
       | true =>
        iterate 4 (with_reducible refine rA ?_)
        with_reducible refine wLv 0 M (ipG_19 (cellsF_size f fs)) Tryz.underlying3 ?_
        iterate 2 (with_reducible refine rA ?_)
        cases gp with
        | false =>
         iterate 3 (with_reducible refine rA ?_)
         go_wp2_with fail
         go_ret
         exact ⟨absurd hR.out (by simp), M.b⟩
        | true =>
         iterate 3 (with_reducible refine rA ?_)
         go_wp2_with fail
         go_ret
         exact ⟨rfl, M.b⟩
   | true =>
    iterate 3 (with_reducible refine kA ?_)
    iterate 2 (with_reducible refine rA ?_)
    go_upto_region 6 with fail
    refine wp_region_lit ?_
    with_reducible refine vC M (HL.out _ M.b) ?_; clear M; intro u M
    with_reducible refine rA ?_
    with_reducible refine wL 1 M whole_part Tryz.underlying27 (infoTIp22 (ipG_sz (cellsF_size f fs))) ?_
    with_reducible refine vC M (HY.out _ M.b) ?_; clear M; intro u M
    iterate 6 (with_reducible refine rA ?_)
    cases n1 with
    | false =>
     iterate 2 (with_reducible refine kA ?_)
     iterate 5 (with_reducible refine rA ?_)
     iterate 2 (with_reducible refine kA ?_)
     iterate 2 (with_reducible refine rA ?_)
     cases vy with
     | false =>
      iterate 4 (with_reducible refine rA ?_)
      with_reducible refine wLv 0 M (ipG_19 (cellsF_size f fs)) Tryz.underlying3 ?_
      iterate 2 (with_reducible refine rA ?_)
      cases gp with
      | false =>
       iterate 3 (with_reducible refine rA ?_)
       go_wp2_with fail
       go_ret
       exact ⟨absurd hR.out (by simp), M.b⟩
      | true =>
       iterate 3 (with_reducible refine rA ?_)
       go_wp2_with fail
       go_ret
       exact ⟨rfl, M.b⟩
     | true =>
      iterate 3 (with_reducible refine rA ?_)
      iterate 5 (with_reducible refine kA ?_)
      iterate 2 (with_reducible refine rA ?_)
      go_wp2_with fail
      go_ret
      exact ⟨absurd hR.out (by simp), M.b⟩
    | true =>
     iterate 4 (with_reducible refine rA ?_)
     cases n9 with
     | false =>
      iterate 3 (with_reducible refine rA ?_)
      iterate 2 (with_reducible refine kA ?_)
      iterate 2 (with_reducible refine rA ?_)
      cases vy with
      | false =>
       iterate 4 (with_reducible refine rA ?_)
       with_reducible refine wLv 0 M (ipG_19 (cellsF_size f fs)) Tryz.underlying3 ?_
       iterate 2 (with_reducible refine rA ?_)
       cases gp with
       | false =>
        iterate 3 (with_reducible refine rA ?_)
        go_wp2_with fail
        go_ret
        exact ⟨absurd hR.out (by simp), M.b⟩
       | true =>
        iterate 3 (with_reducible refine rA ?_)
        go_wp2_with fail
        go_ret
        exact ⟨rfl, M.b⟩
      | true =>
       iterate 3 (with_reducible refine rA ?_)
       iterate 5 (with_reducible refine kA ?_)
       iterate 2 (with_reducible refine rA ?_)
       go_wp2_with fail
       go_ret
       exact ⟨absurd hR.out (by simp), M.b⟩
     | true =>
      iterate 6 (with_reducible refine kA ?_)
      with_reducible refine rA ?_
      cases vy with
      | false =>
       iterate 3 (with_reducible refine rA ?_)
       iterate 5 (with_reducible refine kA ?_)
       iterate 2 (with_reducible refine rA ?_)
       go_wp2_with fail
       go_ret
       exact ⟨absurd hR.out (by simp), M.b⟩
      | true =>
       iterate 4 (with_reducible refine rA ?_)
       with_reducible refine wLv 0 M (ipG_19 (cellsF_size f fs)) Tryz.underlying3 ?_
       iterate 2 (with_reducible refine rA ?_)
       cases gp with
       | false =>
        iterate 3 (with_reducible refine rA ?_)
        go_wp2_with fail
        go_ret
        exact ⟨absurd hR.out (by simp), M.b⟩
       | true =>
        iterate 3 (with_reducible refine rA ?_)
        go_wp2_with fail
        go_ret
        exact ⟨rfl, M.b⟩
  | true =>
   iterate 3 (with_reducible refine kA ?_)
   iterate 2 (with_reducible refine rA ?_)
   iterate 3 (with_reducible refine kA ?_)
   iterate 2 (with_reducible refine rA ?_)
   go_upto_region 6 with fail
   refine wp_region_lit ?_
   with_reducible refine vC M (HL.out _ M.b) ?_; clear M; intro u M
   with_reducible refine rA ?_
   with_reducible refine wL 1 M whole_part Tryz.underlying27 (infoTIp22 (ipG_sz (cellsF_size f fs))) ?_
   with_reducible refine vC M (HY.out _ M.b) ?_; clear M; intro u M
   iterate 6 (with_reducible refine rA ?_)
   cases n1 with
   | false =>
    iterate 2 (with_reducible refine kA ?_)
    iterate 5 (with_reducible refine rA ?_)
    iterate 2 (with_reducible refine kA ?_)
    iterate 2 (with_reducible refine rA ?_)
    cases vy with
    | false =>
     iterate 4 (with_reducible refine rA ?_)
     with_reducible refine wLv 0 M (ipG_19 (cellsF_size f fs)) Tryz.underlying3 ?_
     iterate 2 (with_reducible refine rA ?_)
     cases gp with
     | false =>
      iterate 3 (with_reducible refine rA ?_)
      go_wp2_with fail
      go_ret
      exact ⟨absurd hR.out (by simp), M.b⟩
     | true =>
      iterate 3 (with_reducible refine rA ?_)
      go_wp2_with fail
      go_ret
      exact ⟨rfl, M.b⟩
    | true =>
     iterate 3 (with_reducible refine rA ?_)
     iterate 5 (with_reducible refine kA ?_)
     iterate 2 (with_reducible refine rA ?_)
     go_wp2_with fail
     go_ret
     exact ⟨absurd hR.out (by simp), M.b⟩
   | true =>
    iterate 4 (with_reducible refine rA ?_)
    cases n9 with
    | false =>
     iterate 3 (with_reducible refine rA ?_)
     iterate 2 (with_reducible refine kA ?_)
     iterate 2 (with_reducible refine rA ?_)
     cases vy with
     | false =>
      iterate 4 (with_reducible refine rA ?_)
      with_reducible refine wLv 0 M (ipG_19 (cellsF_size f fs)) Tryz.underlying3 ?_
      iterate 2 (with_reducible refine rA ?_)
      cases gp with
      | false =>
       iterate 3 (with_reducible refine rA ?_)
       go_wp2_with fail
       go_ret
       exact ⟨absurd hR.out (by simp), M.b⟩
      | true =>
       iterate 3 (with_reducible refine rA ?_)
       go_wp2_with fail
       go_ret
       exact ⟨rfl, M.b⟩
     | true =>
      iterate 3 (with_reducible refine rA ?_)
      iterate 5 (with_reducible refine kA ?_)
      iterate 2 (with_reducible refine rA ?_)
      go_wp2_with fail
      go_ret
      exact ⟨absurd hR.out (by simp), M.b⟩
    | true =>
     iterate 6 (with_reducible refine kA ?_)
     with_reducible refine rA ?_
     cases vy with
     | false =>
      iterate 3 (with_reducible refine rA ?_)
      iterate 5 (with_reducible refine kA ?_)
      iterate 2 (with_reducible refine rA ?_)
      go_wp2_with fail
      go_ret
      exact ⟨absurd hR.out (by simp), M.b⟩
     | true =>
      iterate 4 (with_reducible refine rA ?_)
      with_reducible refine wLv 0 M (ipG_19 (cellsF_size f fs)) Tryz.underlying3 ?_
      iterate 2 (with_reducible refine rA ?_)
      cases gp with
      | false =>
       iterate 3 (with_reducible refine rA ?_)
       go_wp2_with fail
       go_ret
       exact ⟨absurd hR.out (by simp), M.b⟩
      | true =>
       iterate 3 (with_reducible refine rA ?_)
       go_wp2_with fail
       go_ret
       exact ⟨rfl, M.b⟩
end Go.Proofs.YtkohfomiigcifaaGreatDoor
namespace Go.Proofs.YtkohfomiigcifaaGreatDoor
open Go.RowKit
open Wd (Bs)

section
variable (on who d n z c : Int) (f : Fil.Flt) (fs : ByteArray)
theorem lawInsteadIs (hf : f.sub = fs.data.toList) (hs : fs.size ≤ maxLen) (w : World) (hE : EnvI w) :
    Calls Tryz.prog 3 #[.agg (ipG on who (cellsF f fs) d n z c)] w fun e w' => e = .returned (.bool true) ∧ Below w.heap.size w w' :=
  isWalkI on who d n z c f fs (Ip.okB ⟨on, who, f, d, n, z, c⟩) w (Lib.hid fun W hb => ipAlive W (hE.below hb)) (Lib.hid fun W hb => ipIs on who d n z c f fs hf hs W (hE.below hb)) (Lib.hid fun W _ => refIs19 on who d n z c f fs hf hs W)
theorem lawInsteadTexts (hf : f.sub = fs.data.toList) (hs : fs.size ≤ maxLen) (w : World) (hE : EnvI w) :
    Calls Tryz.prog 4 #[.agg (ipG on who (cellsF f fs) d n z c)] w fun e w' => e = .returned (.bool true) ∧ Below w.heap.size w w' :=
  txWalkI on who d n z c f fs ⟨(Ip.textT ⟨on, who, f, d, n, z, c⟩).toArray⟩ w (Lib.hid fun W hb => ipAlive W (hE.below hb)) (Lib.hid fun W hb => ipText on who d n z c f fs hf hs W (hE.below hb)) (Lib.hid fun W _ => refTxt19 on who d n z c f fs hf hs W)
theorem ok_number {x : Ip.Rd} (h : Ip.okB x = true) (n0 : Int) : Ip.okB { x with n := n0 } = (if Ip.uN x.d then decide (1 ≤ n0) && decide (n0 ≤ 99) else decide (n0 = 0)) := by
  unfold Ip.okB at *
  simp only [Bool.and_eq_true] at h
  obtain ⟨h1, h2, h3, _, h5, h6⟩ := h
  simp only
  rw [h1, h2, h3, h5, h6]
  simp
theorem lawInsteadNumbers (n0 : Int) (hf : f.sub = fs.data.toList) (hs : fs.size ≤ maxLen) (w : World) (hE : EnvI w) :
    Calls Tryz.prog 7 #[.agg (ipG on who (cellsF f fs) d n z c), .int .i64 n0] w fun e w' => e = .returned (.bool true) ∧ Below w.heap.size w w' := by
  have HL : Hid (∀ W, Below w.heap.size w W → _) := Lib.hid fun W hb => ipAlive W (hE.below hb)
  have HI : Hid (∀ W, Below w.heap.size w W → _) := Lib.hid fun W hb => ipIs on who d n z c f fs hf hs W (hE.below hb)
  cases hv : Ip.okB ⟨on, who, f, d, n, z, c⟩ with
  | false =>
    rw [hv] at HI
    exact nuNoI on who d n z c f fs n0 w HL HI
  | true =>
    rw [hv] at HI
    have hy := ok_number hv n0
    simp only at hy
    have o := Ip.ok_parts hv
    have nY := o.nY
    have nN := o.nN
    simp only at nY nN
    have hu : ((d == 2) || ((d == 4) || (d == 7))) = Ip.uN d := by
      unfold Ip.uN
      rw [Bool.eq_iff_iff]
      simp
      omega
    refine nuYesI on who d n z c f fs n0 (Ip.okB ⟨on, who, f, d, n0, z, c⟩) (d == 2) (d == 4) (d == 7) (decide (1 ≤ n0)) (decide (n0 ≤ 99)) (n0 == 0) (decide (0 < n)) w HL HI (Lib.hid fun W hb => ipIs on who d n0 z c f fs hf hs W (hE.below hb)) rfl rfl rfl rfl rfl rfl rfl (Lib.hid ?_)
    rw [hu, hy, show (n0 == 0) = decide (n0 = 0) by rw [Bool.eq_iff_iff]; simp]
    cases hN : Ip.uN d with
    | true =>
      have hn := nY hN
      rw [show decide (0 < n) = true from decide_eq_true (by omega)]
      simp
    | false =>
      have hn := nN hN
      rw [show decide (0 < n) = false from decide_eq_false (by omega)]
      simp
theorem lawInsteadApart (on2 who2 d2 n2 z2 c2 : Int) (f2 : Fil.Flt) (fs2 : ByteArray) (hf : f.sub = fs.data.toList) (hs : fs.size ≤ maxLen) (hf2 : f2.sub = fs2.data.toList) (hs2 : fs2.size ≤ maxLen) (w : World) (hE : EnvI w) :
    Calls Tryz.prog 8 #[.agg (ipG on who (cellsF f fs) d n z c), .agg (ipG on2 who2 (cellsF f2 fs2) d2 n2 z2 c2)] w fun e w' => e = .returned (.bool true) ∧ Below w.heap.size w w' := by
  have HL : Hid (∀ W, Below w.heap.size w W → _) := Lib.hid fun W hb => ipAlive W (hE.below hb)
  have HI : Hid (∀ W, Below w.heap.size w W → _) := Lib.hid fun W hb => ipIs on who d n z c f fs hf hs W (hE.below hb)
  have HJ : Hid (∀ W, Below w.heap.size w W → _) := Lib.hid fun W hb => ipIs on2 who2 d2 n2 z2 c2 f2 fs2 hf2 hs2 W (hE.below hb)
  cases hv : Ip.okB ⟨on, who, f, d, n, z, c⟩ && Ip.okB ⟨on2, who2, f2, d2, n2, z2, c2⟩ with
  | false => exact apNoI on who d n z c f fs on2 who2 d2 n2 z2 c2 f2 fs2 _ _ w HL HI HJ (Lib.hid hv)
  | true =>
    obtain ⟨h1, h2⟩ := Bool.and_eq_true_iff.1 hv
    rw [h1] at HI
    rw [h2] at HJ
    refine apYesI on who d n z c f fs on2 who2 d2 n2 z2 c2 f2 fs2 ⟨(Ip.textT ⟨on, who, f, d, n, z, c⟩).toArray⟩ ⟨(Ip.textT ⟨on2, who2, f2, d2, n2, z2, c2⟩).toArray⟩ (decide ((⟨on, who, f, d, n, z, c⟩ : Ip.Rd) = ⟨on2, who2, f2, d2, n2, z2, c2⟩)) w HL HI HJ (Lib.hid fun W hb => ipText on who d n z c f fs hf hs W (hE.below hb)) (Lib.hid fun W hb => ipText on2 who2 d2 n2 z2 c2 f2 fs2 hf2 hs2 W (hE.below hb)) ?_ (fun W => ?_)
    · rw [Lib.toList_data, Lib.toList_data, Bool.eq_iff_iff, decide_eq_true_iff]
      constructor
      · intro h
        exact Ip.textT_inj h1 h2 (by simpa using h)
      · intro h
        rw [h]
        simp
    · have := run_eq_ip on who d n z c on2 who2 d2 n2 z2 c2 f f2 fs fs2 hf hf2 W
      have e : eqIp ⟨on, who, f, d, n, z, c⟩ ⟨on2, who2, f2, d2, n2, z2, c2⟩ = decide ((⟨on, who, f, d, n, z, c⟩ : Ip.Rd) = ⟨on2, who2, f2, d2, n2, z2, c2⟩) := Bool.eq_iff_iff.2 (eqIp_iff.trans (by rw [decide_eq_true_iff]))
      rw [e] at this
      exact this
end
end Go.Proofs.YtkohfomiigcifaaGreatDoor
