/-
  MERGED: IpFoW, IpTxW, IpRdW, IpIsW, IpProg, IpAlvW, IpAlive. By an AI agent.
-/
import Derived.Test.YtkohfomiigcifaaGreatDoorIpGC
import Derived.Test.YtkohfomiigcifaaGreatDoorIpGA
import Derived.Deep.Cut
namespace Go.Proofs.YtkohfomiigcifaaGreatDoor
open Go.RowKit
open Wd (Bs)

set_option maxHeartbeats 8000000 in
set_option maxRecDepth 100000 in
theorem ipFormIn (on who d n z c : Int) (f : Fil.Flt) (fs : ByteArray) (R : Int) (o1 w0 o2 d5 : Bool) (w : World)
    (h1 : (on == 1) = o1) (h2 : (who == 0) = w0) (h3 : (on == 2) = o2) (h5 : (d == 5) = d5) (hR : Hid (R = if (o1 && !w0) = true then 2 else if (o2 && !d5) = true then 4 else Ip.evI on)) :
    Calls Tryz.prog 16 #[.agg (ipG on who (cellsF f fs) d n z c)] w fun e w' => e = .returned (.int .i64 R) ∧ Below w.heap.size w w' := by

  have M := Mm.nil w
  go_enter Tryz.func16, Tryz.ntmps16
  go_upto_region 0 with fail
  refine wp_region_lit ?_
  with_reducible refine wA (ipG on who (cellsF f fs) d n z c) M ?_; clear M; intro pB1 u M; refine ⟨_, by (simp only [pu, sB, s0, sS]; rfl), ?_⟩
  with_reducible refine rA ?_
  go_upto_region 1 with fail
  refine wp_region_lit ?_
  with_reducible refine rA ?_
  with_reducible refine wLv 0 M ipG_0 Tryz.underlying3 ?_
  iterate 2 (with_reducible refine rA ?_)
  cases o1 with
  | false =>
   iterate 3 (with_reducible refine kA ?_)
   iterate 2 (with_reducible refine rA ?_)
   go_upto_region 3 with fail
   refine wp_region_lit ?_
   with_reducible refine rA ?_
   with_reducible refine wLv 0 M ipG_0 Tryz.underlying3 ?_
   iterate 2 (with_reducible refine rA ?_)
   cases o2 with
   | false =>
    iterate 3 (with_reducible refine kA ?_)
    iterate 2 (with_reducible refine rA ?_)
    go_upto_region 5 with fail
    replace M := M.drew
    refine wp_region_held_drew (S := fun W => Mm w W [(pB1, (ipG on who (cellsF f fs) d n z c), 27)]) (by kernel_rfl) M (fun _ => ?_)
    generalize World.drew _ = u at M ⊢
    refine tA 1 (some 22) rfl rfl M ?_
    refine tLv 2 (some 23) rfl rfl (fun W h => h.at 0 rfl) ipG_0 Tryz.underlying3 M ?_
    refine tCx 0 (some 21) rfl rfl (fun _ hb => M.call hb) (ipEvents _) ?_; clear M; rintro e u ⟨b, rfl, hbk, -⟩ hb M
    clear hb
    refine ⟨_, _, rfl, by (simp only [pu, sB, s0, sS]; rfl), ?_⟩
    refine tC 3 (some 24) rfl rfl (fun _ hb => M.call hb) (evsIndex b on _ hbk) ?_; clear M; intro u _ M
    refine tA 4 (some 2) rfl rfl M ?_
    refine wpAnyH_done (by kernel_rfl) ?_ _
    go_wp2_with fail
    go_ret
    exact ⟨by rw [hR.out]; try rfl, M.b⟩
   | true =>
    with_reducible refine rA ?_
    with_reducible refine wLv 0 M (ipG_18 (cellsF_size f fs)) Tryz.underlying3 ?_
    (with_reducible refine rB (.bool (!d5)) ?_ ?_); (· go_simp; (try simp only [bne, h5]))
    iterate 2 (with_reducible refine rA ?_)
    cases d5 with
    | false =>
     go_upto_region 4 with fail
     refine wp_region_lit ?_
     with_reducible refine rA ?_
     go_wp2_with fail
     go_ret
     exact ⟨by rw [hR.out]; try rfl, M.b⟩
    | true =>
     go_upto_region 5 with fail
     replace M := M.drew
     refine wp_region_held_drew (S := fun W => Mm w W [(pB1, (ipG on who (cellsF f fs) d n z c), 27)]) (by kernel_rfl) M (fun _ => ?_)
     generalize World.drew _ = u at M ⊢
     refine tA 1 (some 22) rfl rfl M ?_
     refine tLv 2 (some 23) rfl rfl (fun W h => h.at 0 rfl) ipG_0 Tryz.underlying3 M ?_
     refine tCx 0 (some 21) rfl rfl (fun _ hb => M.call hb) (ipEvents _) ?_; clear M; rintro e u ⟨b, rfl, hbk, -⟩ hb M
     clear hb
     refine ⟨_, _, rfl, by (simp only [pu, sB, s0, sS]; rfl), ?_⟩
     refine tC 3 (some 24) rfl rfl (fun _ hb => M.call hb) (evsIndex b on _ hbk) ?_; clear M; intro u _ M
     refine tA 4 (some 2) rfl rfl M ?_
     refine wpAnyH_done (by kernel_rfl) ?_ _
     go_wp2_with fail
     go_ret
     exact ⟨by rw [hR.out]; try rfl, M.b⟩
  | true =>
   with_reducible refine rA ?_
   with_reducible refine wLv 0 M ipG_1 Tryz.underlying3 ?_
   (with_reducible refine rB (.bool (!w0)) ?_ ?_); (· go_simp; (try simp only [bne, h2]))
   iterate 2 (with_reducible refine rA ?_)
   cases w0 with
   | false =>
    go_upto_region 2 with fail
    refine wp_region_lit ?_
    with_reducible refine rA ?_
    go_wp2_with fail
    go_ret
    exact ⟨by rw [hR.out]; try rfl, M.b⟩
   | true =>
    go_upto_region 3 with fail
    refine wp_region_lit ?_
    with_reducible refine rA ?_
    with_reducible refine wLv 0 M ipG_0 Tryz.underlying3 ?_
    iterate 2 (with_reducible refine rA ?_)
    cases o2 with
    | false =>
     iterate 3 (with_reducible refine kA ?_)
     iterate 2 (with_reducible refine rA ?_)
     go_upto_region 5 with fail
     replace M := M.drew
     refine wp_region_held_drew (S := fun W => Mm w W [(pB1, (ipG on who (cellsF f fs) d n z c), 27)]) (by kernel_rfl) M (fun _ => ?_)
     generalize World.drew _ = u at M ⊢
     refine tA 1 (some 22) rfl rfl M ?_
     refine tLv 2 (some 23) rfl rfl (fun W h => h.at 0 rfl) ipG_0 Tryz.underlying3 M ?_
     refine tCx 0 (some 21) rfl rfl (fun _ hb => M.call hb) (ipEvents _) ?_; clear M; rintro e u ⟨b, rfl, hbk, -⟩ hb M
     clear hb
     refine ⟨_, _, rfl, by (simp only [pu, sB, s0, sS]; rfl), ?_⟩
     refine tC 3 (some 24) rfl rfl (fun _ hb => M.call hb) (evsIndex b on _ hbk) ?_; clear M; intro u _ M
     refine tA 4 (some 2) rfl rfl M ?_
     refine wpAnyH_done (by kernel_rfl) ?_ _
     go_wp2_with fail
     go_ret
     exact ⟨by rw [hR.out]; try rfl, M.b⟩
    | true =>
     exfalso; simp only [beq_iff_eq] at h1 h3; omega
end Go.Proofs.YtkohfomiigcifaaGreatDoor
namespace Go.Proofs.YtkohfomiigcifaaGreatDoor
open Go.RowKit
open Wd (Bs)

set_option maxHeartbeats 8000000 in
set_option maxRecDepth 100000 in
theorem ipActIn (on who n z c : Int) (k : Nat) (f : Fil.Flt) (fs hd zt nt cn R : ByteArray) (uN uZ uC : Bool) (w : World)
    (h9 : k < 9) (hh : ipActsT[k]? = some (.string hd)) (HU : Hid (∀ W, Below w.heap.size w W → Calls Tryz.prog 17 #[.int .i64 (k : Int)] W fun e w' => e = .returned (.tuple #[.bool uN, .bool uZ, .bool uC]) ∧ Below W.heap.size W w')) (HZ : Hid (∀ W, Below w.heap.size w W → Calls Tryz.prog 52 #[.int .i64 z] W fun e w' => e = .returned (.string zt) ∧ Below W.heap.size W w')) (HN : Hid (∀ W, Below w.heap.size w W → Calls Tryz.prog 54 #[.int .i64 n] W fun e w' => e = .returned (.string nt) ∧ Below W.heap.size W w')) (HC : Hid (∀ W, Below w.heap.size w W → Calls Tryz.prog 25 #[.int .i64 c] W fun e w' => e = .returned (.string cn) ∧ Below W.heap.size W w')) (hs : hd.size ≤ 1000) (hn : nt.size ≤ 1000) (hc : cn.size ≤ 1000) (hR : Hid (R = if uZ = true then zt else if uN = true then (if uC = true then hd ++ (⟨#[32]⟩ ++ nt) ++ (⟨#[32]⟩ ++ cn) else hd ++ (⟨#[32]⟩ ++ nt)) else if uC = true then hd ++ (⟨#[32]⟩ ++ cn) else hd)) :
    Calls Tryz.prog 31 #[.agg (ipG on who (cellsF f fs) (k : Int) n z c)] w fun e w' => e = .returned (.string R) ∧ Below w.heap.size w w' := by

  have M := Mm.nil w
  go_enter Tryz.func31, Tryz.ntmps31
  go_upto_region 0 with fail
  refine wp_region_lit ?_
  with_reducible refine wA (ipG on who (cellsF f fs) (k : Int) n z c) M ?_; clear M; intro pB1 u M; refine ⟨_, by (simp only [pu, sB, s0, sS]; rfl), ?_⟩
  with_reducible refine rA ?_
  go_upto_region 1 with fail
  refine wp_region_lit ?_
  with_reducible refine rA ?_
  with_reducible refine wLv 0 M (ipG_18 (cellsF_size f fs)) Tryz.underlying3 ?_
  with_reducible refine vC M (HU.out _ M.b) ?_; clear M; intro u M
  iterate 7 (with_reducible refine rA ?_)
  go_upto_region 2 with fail
  refine wp_region_lit ?_
  with_reducible refine rA ?_
  cases uZ with
  | false =>
   have h9i : (k : Int) < 9 := by omega
   have h0i : (0 : Int) ≤ (k : Int) := by omega
   go_upto_region 4 with fail
   replace M := M.drew
   refine wp_region_held_drew (S := fun W => Mm w W [(pB1, (ipG on who (cellsF f fs) (k : Int) n z c), 27)]) (by kernel_rfl) M (fun _ => ?_)
   generalize World.drew _ = u at M ⊢
   refine tA 1 (some 19) rfl rfl M ?_
   refine tLv 2 (some 20) rfl rfl (fun W h => h.at 0 rfl) (ipG_18 (cellsF_size f fs)) Tryz.underlying3 M ?_
   refine tCx 0 (some 18) rfl rfl (fun _ hb => M.call hb) (ipActions _) ?_; rintro e u ⟨pT, rfl, hk, hg⟩ hb -; replace M := M.fresh hb hk hg; clear hk hg
   clear hb
   refine ⟨_, _, rfl, by (simp only [pu, sB, s0, sS]; rfl), wpAnyH_more (S' := fun W => Mm w W [(pB1, (ipG on who (cellsF f fs) (k : Int) n z c), 27), (pT, ipActsT, 9)]) (fun W h => h.take 1) _ _ _ _ ?_⟩
   refine tB 3 (some 21) rfl rfl (.pointer (some ⟨pT, k, none⟩)) (by intro W hSw; (go_simp; (try rfl))) M ?_
   refine tLv 4 (some 22) rfl rfl (fun W h => h.at 1 rfl) hh Tryz.underlying9 M ?_
   refine tA 5 (some 6) rfl rfl M ?_
   refine wpAnyH_done (by kernel_rfl) ?_ _
   go_upto_region 5 with fail
   refine wp_region_lit ?_
   with_reducible refine rA ?_
   cases uN with
   | false =>
    go_upto_region 7 with fail
    refine wp_region_lit ?_
    with_reducible refine rA ?_
    cases uC with
    | false =>
     go_upto_region 9 with fail
     refine wp_region_lit ?_
     iterate 2 (with_reducible refine rA ?_)
     go_wp2_with fail
     go_ret
     exact ⟨by rw [hR.out]; rfl, M.b⟩
    | true =>
     go_upto_region 8 with fail
     refine wp_region_lit ?_
     iterate 2 (with_reducible refine rA ?_)
     with_reducible refine wLv 0 M (ipG_21 (cellsF_size f fs)) Tryz.underlying3 ?_
     with_reducible refine vC M (HC.out _ M.b) ?_; clear M; intro u M
     (with_reducible refine rB (.string (⟨#[32]⟩ ++ cn)) ?_ ?_); (· go_simp; omega)
     (with_reducible refine rB (.string (hd ++ (⟨#[32]⟩ ++ cn))) ?_ ?_); (· go_simp; omega)
     with_reducible refine rA ?_
     go_upto_region 9 with fail
     refine wp_region_lit ?_
     iterate 2 (with_reducible refine rA ?_)
     go_wp2_with fail
     go_ret
     exact ⟨by rw [hR.out]; rfl, M.b⟩
   | true =>
    go_upto_region 6 with fail
    refine wp_region_lit ?_
    iterate 2 (with_reducible refine rA ?_)
    with_reducible refine wLv 0 M (ipG_19 (cellsF_size f fs)) Tryz.underlying3 ?_
    with_reducible refine vC M (HN.out _ M.b) ?_; clear M; intro u M
    (with_reducible refine rB (.string (⟨#[32]⟩ ++ nt)) ?_ ?_); (· go_simp; omega)
    (with_reducible refine rB (.string (hd ++ (⟨#[32]⟩ ++ nt))) ?_ ?_); (· go_simp; omega)
    with_reducible refine rA ?_
    go_upto_region 7 with fail
    refine wp_region_lit ?_
    with_reducible refine rA ?_
    cases uC with
    | false =>
     go_upto_region 9 with fail
     refine wp_region_lit ?_
     iterate 2 (with_reducible refine rA ?_)
     go_wp2_with fail
     go_ret
     exact ⟨by rw [hR.out]; rfl, M.b⟩
    | true =>
     go_upto_region 8 with fail
     refine wp_region_lit ?_
     iterate 2 (with_reducible refine rA ?_)
     with_reducible refine wLv 0 M (ipG_21 (cellsF_size f fs)) Tryz.underlying3 ?_
     with_reducible refine vC M (HC.out _ M.b) ?_; clear M; intro u M
     (with_reducible refine rB (.string (⟨#[32]⟩ ++ cn)) ?_ ?_); (· go_simp; omega)
     (with_reducible refine rB (.string ((hd ++ (⟨#[32]⟩ ++ nt)) ++ (⟨#[32]⟩ ++ cn))) ?_ ?_); (· go_simp; omega)
     with_reducible refine rA ?_
     go_upto_region 9 with fail
     refine wp_region_lit ?_
     iterate 2 (with_reducible refine rA ?_)
     go_wp2_with fail
     go_ret
     exact ⟨by rw [hR.out]; rfl, M.b⟩
  | true =>
   go_upto_region 3 with fail
   refine wp_region_lit ?_
   with_reducible refine rA ?_
   with_reducible refine wLv 0 M (ipG_20 (cellsF_size f fs)) Tryz.underlying3 ?_
   with_reducible refine vC M (HZ.out _ M.b) ?_; clear M; intro u M
   with_reducible refine rA ?_
   go_wp2_with fail
   go_ret
   exact ⟨by rw [hR.out]; rfl, M.b⟩

set_option maxHeartbeats 8000000 in
set_option maxRecDepth 100000 in
theorem ipTextBad (on who d n z c : Int) (f : Fil.Flt) (fs : ByteArray) (w : World)
    (HI : Hid (∀ W, Below w.heap.size w W → Calls Tryz.prog 10 #[.agg (ipG on who (cellsF f fs) d n z c)] W fun e w' => e = .returned (.bool false) ∧ Below W.heap.size W w')) :
    Calls Tryz.prog 12 #[.agg (ipG on who (cellsF f fs) d n z c)] w fun e w' => e = .returned (.string ⟨#[]⟩) ∧ Below w.heap.size w w' := by

  have M := Mm.nil w
  go_enter Tryz.func12, Tryz.ntmps12
  go_upto_region 0 with fail
  refine wp_region_lit ?_
  with_reducible refine wA (ipG on who (cellsF f fs) d n z c) M ?_; clear M; intro pB1 u M; refine ⟨_, by (simp only [pu, sB, s0, sS]; rfl), ?_⟩
  with_reducible refine rA ?_
  go_upto_region 1 with fail
  refine wp_region_lit ?_
  with_reducible refine wL 0 M whole_part Tryz.underlying27 (infoTIp22 (ipG_sz (cellsF_size f fs))) ?_
  with_reducible refine vC M (HI.out _ M.b) ?_; clear M; intro u M
  with_reducible refine rA ?_
  go_upto_region 2 with fail
  refine wp_region_lit ?_
  with_reducible refine rA ?_
  go_wp2_with fail
  go_ret
  exact ⟨rfl, M.b⟩

set_option maxHeartbeats 8000000 in
set_option maxRecDepth 100000 in
theorem ipTextOk (on who d n z c : Int) (f : Fil.Flt) (fs : ByteArray) (j : Nat) (hd te tw ta R : ByteArray) (pW : Bool) (w : World)
    (HI : Hid (∀ W, Below w.heap.size w W → Calls Tryz.prog 10 #[.agg (ipG on who (cellsF f fs) d n z c)] W fun e w' => e = .returned (.bool true) ∧ Below W.heap.size W w')) (HFO : Hid (∀ W, Below w.heap.size w W → Calls Tryz.prog 16 #[.agg (ipG on who (cellsF f fs) d n z c)] W fun e w' => e = .returned (.int .i64 (j : Int)) ∧ Below W.heap.size W w')) (h10 : j < 10) (hh : ipNamesT[j]? = some (.string hd)) (HE : Hid (∀ W, Below w.heap.size w W → Calls Tryz.prog 29 #[.agg (cellsF f fs)] W fun e w' => e = .returned (.string te) ∧ Below W.heap.size W w')) (HP : Hid (∀ W, Below w.heap.size w W → Calls Tryz.prog 18 #[.int .i64 (j : Int)] W fun e w' => e = .returned (.bool pW) ∧ Below W.heap.size W w')) (HW : Hid (∀ W, Below w.heap.size w W → Calls Tryz.prog 22 #[.int .i64 who] W fun e w' => e = .returned (.string tw) ∧ Below W.heap.size W w')) (HA : Hid (∀ W, Below w.heap.size w W → Calls Tryz.prog 31 #[.agg (ipG on who (cellsF f fs) d n z c)] W fun e w' => e = .returned (.string ta) ∧ Below W.heap.size W w')) (hs : hd.size ≤ 1000) (ht : tw.size ≤ 1000) (he : te.size ≤ 1000000) (ha : ta.size ≤ 1000000) (hR : Hid (R = (if pW = true then hd ++ ⟨#[32]⟩ ++ tw ++ ⟨#[32]⟩ ++ ta else hd ++ ⟨#[32]⟩ ++ te ++ ⟨#[32]⟩ ++ ta))) :
    Calls Tryz.prog 12 #[.agg (ipG on who (cellsF f fs) d n z c)] w fun e w' => e = .returned (.string R) ∧ Below w.heap.size w w' := by

  have M := Mm.nil w
  go_enter Tryz.func12, Tryz.ntmps12
  go_upto_region 0 with fail
  refine wp_region_lit ?_
  with_reducible refine wA (ipG on who (cellsF f fs) d n z c) M ?_; clear M; intro pB1 u M; refine ⟨_, by (simp only [pu, sB, s0, sS]; rfl), ?_⟩
  with_reducible refine rA ?_
  go_upto_region 1 with fail
  refine wp_region_lit ?_
  with_reducible refine wL 0 M whole_part Tryz.underlying27 (infoTIp22 (ipG_sz (cellsF_size f fs))) ?_
  with_reducible refine vC M (HI.out _ M.b) ?_; clear M; intro u M
  with_reducible refine rA ?_
  go_upto_region 3 with fail
  refine wp_region_lit ?_
  with_reducible refine wL 0 M whole_part Tryz.underlying27 (infoTIp22 (ipG_sz (cellsF_size f fs))) ?_
  with_reducible refine vC M (HFO.out _ M.b) ?_; clear M; intro u M
  with_reducible refine rA ?_
  go_upto_region 4 with fail
  refine wp_region_lit ?_
  with_reducible refine rA ?_
  with_reducible refine wL 0 M ipG_f Tryz.underlying25 (infoTF16 (cellsF_size f fs)) ?_
  with_reducible refine vC M (HE.out _ M.b) ?_; clear M; intro u M
  with_reducible refine rA ?_
  go_upto_region 5 with fail
  refine wp_region_lit ?_
  with_reducible refine rA ?_
  with_reducible refine vC M (HP.out _ M.b) ?_; clear M; intro u M
  cases pW with
  | false =>
   have h9i : (j : Int) < 10 := by omega
   have h0i : (0 : Int) ≤ (j : Int) := by omega
   go_upto_region 7 with fail
   replace M := M.drew
   refine wp_region_held_drew (S := fun W => Mm w W [(pB1, (ipG on who (cellsF f fs) d n z c), 27)]) (by kernel_rfl) M (fun _ => ?_)
   generalize World.drew _ = u at M ⊢
   refine tA 1 (some 19) rfl rfl M ?_
   refine tA 5 (some 23) rfl rfl M ?_
   refine tLm 8 (some 26) rfl rfl (fun W h => h.at 0 rfl) whole_part Tryz.underlying27 (infoTIp22 (ipG_sz (cellsF_size f fs))) M ?_
   refine tCx 0 (some 18) rfl rfl (fun _ hb => M.call hb) (ipNames _) ?_; rintro e u ⟨pT, rfl, hk, hg⟩ hb -; replace M := M.fresh hb hk hg; clear hk hg
   clear hb
   refine ⟨_, _, rfl, by (simp only [pu, sB, s0, sS]; rfl), wpAnyH_more (S' := fun W => Mm w W [(pB1, (ipG on who (cellsF f fs) d n z c), 27), (pT, ipNamesT, 9)]) (fun W h => h.take 1) _ _ _ _ ?_⟩
   refine tB 2 (some 20) rfl rfl (.pointer (some ⟨pT, j, none⟩)) (by intro W hSw; (go_simp; (try rfl))) M ?_
   refine tLv 3 (some 21) rfl rfl (fun W h => h.at 1 rfl) hh Tryz.underlying9 M ?_
   refine tB 4 (some 22) rfl rfl (.string (hd ++ ⟨#[32]⟩)) (by intro W hSw; (go_simp; omega)) M ?_
   refine tB 6 (some 24) rfl rfl (.string ((hd ++ ⟨#[32]⟩) ++ te)) (by intro W hSw; (go_simp; omega)) M ?_
   refine tB 7 (some 25) rfl rfl (.string (((hd ++ ⟨#[32]⟩) ++ te) ++ ⟨#[32]⟩)) (by intro W hSw; (go_simp; omega)) M ?_
   refine tC 9 (some 27) rfl rfl (fun _ hb => M.call hb) (HA.out _ M.b) ?_; clear M; intro u _ M
   refine tB 10 (some 28) rfl rfl (.string ((((hd ++ ⟨#[32]⟩) ++ te) ++ ⟨#[32]⟩) ++ ta)) (by intro W hSw; (go_simp; omega)) M ?_
   refine tA 11 (some 2) rfl rfl M ?_
   refine wpAnyH_done (by kernel_rfl) ?_ _
   go_wp2_with fail
   go_ret
   exact ⟨by rw [hR.out]; rfl, M.b⟩
  | true =>
   go_upto_region 6 with fail
   refine wp_region_lit ?_
   with_reducible refine rA ?_
   with_reducible refine wLv 0 M ipG_1 Tryz.underlying3 ?_
   with_reducible refine vC M (HW.out _ M.b) ?_; clear M; intro u M
   with_reducible refine rA ?_
   have h9i : (j : Int) < 10 := by omega
   have h0i : (0 : Int) ≤ (j : Int) := by omega
   go_upto_region 7 with fail
   replace M := M.drew
   refine wp_region_held_drew (S := fun W => Mm w W [(pB1, (ipG on who (cellsF f fs) d n z c), 27)]) (by kernel_rfl) M (fun _ => ?_)
   generalize World.drew _ = u at M ⊢
   refine tA 1 (some 19) rfl rfl M ?_
   refine tA 5 (some 23) rfl rfl M ?_
   refine tLm 8 (some 26) rfl rfl (fun W h => h.at 0 rfl) whole_part Tryz.underlying27 (infoTIp22 (ipG_sz (cellsF_size f fs))) M ?_
   refine tCx 0 (some 18) rfl rfl (fun _ hb => M.call hb) (ipNames _) ?_; rintro e u ⟨pT, rfl, hk, hg⟩ hb -; replace M := M.fresh hb hk hg; clear hk hg
   clear hb
   refine ⟨_, _, rfl, by (simp only [pu, sB, s0, sS]; rfl), wpAnyH_more (S' := fun W => Mm w W [(pB1, (ipG on who (cellsF f fs) d n z c), 27), (pT, ipNamesT, 9)]) (fun W h => h.take 1) _ _ _ _ ?_⟩
   refine tB 2 (some 20) rfl rfl (.pointer (some ⟨pT, j, none⟩)) (by intro W hSw; (go_simp; (try rfl))) M ?_
   refine tLv 3 (some 21) rfl rfl (fun W h => h.at 1 rfl) hh Tryz.underlying9 M ?_
   refine tB 4 (some 22) rfl rfl (.string (hd ++ ⟨#[32]⟩)) (by intro W hSw; (go_simp; omega)) M ?_
   refine tB 6 (some 24) rfl rfl (.string ((hd ++ ⟨#[32]⟩) ++ tw)) (by intro W hSw; (go_simp; omega)) M ?_
   refine tB 7 (some 25) rfl rfl (.string (((hd ++ ⟨#[32]⟩) ++ tw) ++ ⟨#[32]⟩)) (by intro W hSw; (go_simp; omega)) M ?_
   refine tC 9 (some 27) rfl rfl (fun _ hb => M.call hb) (HA.out _ M.b) ?_; clear M; intro u _ M
   refine tB 10 (some 28) rfl rfl (.string ((((hd ++ ⟨#[32]⟩) ++ tw) ++ ⟨#[32]⟩) ++ ta)) (by intro W hSw; (go_simp; omega)) M ?_
   refine tA 11 (some 2) rfl rfl M ?_
   refine wpAnyH_done (by kernel_rfl) ?_ _
   go_wp2_with fail
   go_ret
   exact ⟨by rw [hR.out]; rfl, M.b⟩
end Go.Proofs.YtkohfomiigcifaaGreatDoor
namespace Go.Proofs.YtkohfomiigcifaaGreatDoor
open Go.RowKit
open Wd (Bs)

set_option maxHeartbeats 8000000 in
set_option maxRecDepth 100000 in
theorem ipRaDies (s : ByteArray) (w : World)
     :
    Calls Tryz.prog 71 #[.int .i64 3, .string s] w fun e w' => e = .returned (.agg (ipG 0 0 cellsZ 5 0 (Ip.wn s.data.toList Ip.zoneT [1, 2, 4]) 0)) ∧ Below w.heap.size w w' := by

  have M := Mm.nil w
  go_enter Tryz.func71, Tryz.ntmps71
  go_upto_region 0 with fail
  refine wp_region_lit ?_
  with_reducible refine wA (ipG 0 0 cellsZ 0 0 0 0) M ?_; clear M; intro pB4 u M; refine ⟨_, by (simp only [pu, sB, s0, sS]; rfl), ?_⟩
  go_upto_region 1 with fail
  refine wp_region_lit ?_
  iterate 2 (with_reducible refine rA ?_)
  go_upto_region 2 with fail
  refine wp_region_lit ?_
  with_reducible refine rA ?_
  with_reducible refine vCx M (ipZones _) ?_; clear M; rintro e u ⟨va, rfl, hIa⟩ hb M
  clear hb
  refine ⟨_, _, rfl, by (simp only [pu, sB, s0, sS]; rfl), ?_⟩
  with_reducible refine vC M (ipWithZone s va [1, 2, 4] rfl _ hIa) ?_; clear M; intro u M
  (with_reducible refine rB (.agg (ipG 0 0 cellsZ 5 0 (Ip.wn s.data.toList Ip.zoneT [1, 2, 4]) 0)) ?_ ?_); (· refine run_buildOp _ [(3, .int .i64 5), (5, .int .i64 (Ip.wn s.data.toList Ip.zoneT [1, 2, 4]))] rfl ?_ (builtI_dz 5 (Ip.wn s.data.toList Ip.zoneT [1, 2, 4])); rfl)
  with_reducible refine wS 0 M (laid_all (ipG_sz cellsZ_size) (ipG_sz cellsZ_size)) (infoTIp22 (ipG_sz cellsZ_size)) (ipG_one cellsZ_one) (fit_2 (ipG_sz cellsZ_size) (ipG_sz cellsZ_size) (by decide)) ?_; clear M; intro u M
  have hL := M.read 0 Tryz.underlying27 (infoTIp22 (ipG_sz cellsZ_size)) rfl rfl
  go_wp2_with fail
  exact bodyPost_ret (v := .agg (ipG 0 0 cellsZ 5 0 (Ip.wn s.data.toList Ip.zoneT [1, 2, 4]) 0)) (results_cell Tryz.results71 (by rfl) hL) rfl ⟨rfl, M.b⟩

set_option maxHeartbeats 8000000 in
set_option maxRecDepth 100000 in
theorem ipRaIn (k : Int) (s p1 r1 p2 r2 : ByteArray) (d n c1 c2 : Int) (o1 o2 ob oc1 oc2 uN uZ uC : Bool) (w : World)
    (hk : (k == 3) = false) (HC1 : Hid (∀ W, Below w.heap.size w W → Calls Tryz.prog 69 #[.string s, .string ⟨#[32]⟩] W fun e w' => e = .returned (.tuple #[.string p1, .string r1, .bool o1]) ∧ Below W.heap.size W w')) (HX : Hid (∀ W b, Below w.heap.size w W → Blk W b ipActsT 9 → Calls Tryz.prog 70 #[.slice (some ⟨b, 0, none⟩) 9 9, .string p1] W fun e w' => e = .returned (.int .i64 d) ∧ Below W.heap.size W w')) (HU : Hid (∀ W, Below w.heap.size w W → Calls Tryz.prog 17 #[.int .i64 d] W fun e w' => e = .returned (.tuple #[.bool uN, .bool uZ, .bool uC]) ∧ Below W.heap.size W w')) (HC2 : Hid (∀ W, Below w.heap.size w W → Calls Tryz.prog 69 #[.string r1, .string ⟨#[32]⟩] W fun e w' => e = .returned (.tuple #[.string p2, .string r2, .bool o2]) ∧ Below W.heap.size W w')) (HN : Hid (∀ W, Below w.heap.size w W → Calls Tryz.prog 102 #[.string p2] W fun e w' => e = .returned (.tuple #[.int .i64 n, .bool ob]) ∧ Below W.heap.size W w')) (HK1 : Hid (∀ W, Below w.heap.size w W → Calls Tryz.prog 103 #[.string r1] W fun e w' => e = .returned (.tuple #[.int .i64 c1, .bool oc1]) ∧ Below W.heap.size W w')) (HK2 : Hid (∀ W, Below w.heap.size w W → Calls Tryz.prog 103 #[.string r2] W fun e w' => e = .returned (.tuple #[.int .i64 c2, .bool oc2]) ∧ Below W.heap.size W w')) :
    Calls Tryz.prog 71 #[.int .i64 k, .string s] w fun e w' => e = .returned (.agg (if uN = true then (if uC = true then (ipG 0 0 cellsZ d n 0 c2) else (ipG 0 0 cellsZ d n 0 0)) else if uC = true then (ipG 0 0 cellsZ d 0 0 c1) else (ipG 0 0 cellsZ d 0 0 0))) ∧ Below w.heap.size w w' := by

  have M := Mm.nil w
  go_enter Tryz.func71, Tryz.ntmps71
  go_upto_region 0 with fail
  refine wp_region_lit ?_
  with_reducible refine wA (ipG 0 0 cellsZ 0 0 0 0) M ?_; clear M; intro pB4 u M; refine ⟨_, by (simp only [pu, sB, s0, sS]; rfl), ?_⟩
  go_upto_region 1 with fail
  refine wp_region_lit ?_
  iterate 2 (with_reducible refine rA ?_)
  go_upto_region 3 with fail
  refine wp_region_lit ?_
  with_reducible refine rA ?_
  with_reducible refine vC M (HC1.out _ M.b) ?_; clear M; intro u M
  iterate 7 (with_reducible refine rA ?_)
  go_upto_region 4 with fail
  refine wp_region_lit ?_
  with_reducible refine vCn M (ipActions _) ?_; clear M; intro pT u M; refine ⟨_, by (simp only [pu, sB, s0, sS]; rfl), ?_⟩
  with_reducible refine rA ?_
  with_reducible refine vC M (HX.out _ _ M.b (M.at 1 rfl)) ?_; clear M; intro u M
  (with_reducible refine rB (.agg (ipG 0 0 cellsZ d 0 0 0)) ?_ ?_); (· refine run_buildOp _ [(3, .int .i64 d)] rfl ?_ (builtI_d d); rfl)
  with_reducible refine wA (ipG 0 0 cellsZ 0 0 0 0) M ?_; clear M; intro pB8 u M; refine ⟨_, by (simp only [pu, sB, s0, sS]; rfl), ?_⟩
  with_reducible refine wS 2 M (laid_all (ipG_sz cellsZ_size) (ipG_sz cellsZ_size)) (infoTIp22 (ipG_sz cellsZ_size)) (ipG_one cellsZ_one) (fit_2 (ipG_sz cellsZ_size) (ipG_sz cellsZ_size) (by decide)) ?_; clear M; intro u M
  go_upto_region 5 with fail
  refine wp_region_lit ?_
  with_reducible refine rA ?_
  with_reducible refine wLv 2 M (ipG_18 cellsZ_size) Tryz.underlying3 ?_
  with_reducible refine vC M (HU.out _ M.b) ?_; clear M; intro u M
  iterate 7 (with_reducible refine rA ?_)
  go_upto_region 6 with fail
  refine wp_region_lit ?_
  with_reducible refine rA ?_
  cases uN with
  | false =>
   go_upto_region 9 with fail
   refine wp_region_lit ?_
   with_reducible refine rA ?_
   cases uC with
   | false =>
    go_upto_region 11 with fail
    refine wp_region_lit ?_
    with_reducible refine wL 2 M whole_part Tryz.underlying27 (infoTIp22 (ipG_sz cellsZ_size)) ?_
    with_reducible refine wS 0 M (laid_all (ipG_sz cellsZ_size) (ipG_sz cellsZ_size)) (infoTIp22 (ipG_sz cellsZ_size)) (ipG_one cellsZ_one) (fit_2 (ipG_sz cellsZ_size) (ipG_sz cellsZ_size) (by decide)) ?_; clear M; intro u M
    have hL := M.read 0 Tryz.underlying27 (infoTIp22 (ipG_sz cellsZ_size)) rfl rfl
    go_wp2_with fail
    exact bodyPost_ret (v := .agg (ipG 0 0 cellsZ d 0 0 0)) (results_cell Tryz.results71 (by rfl) hL) rfl ⟨rfl, M.b⟩
   | true =>
    go_upto_region 10 with fail
    refine wp_region_lit ?_
    with_reducible refine rA ?_
    with_reducible refine vC M (HK1.out _ M.b) ?_; clear M; intro u M
    iterate 4 (with_reducible refine rA ?_)
    with_reducible refine wV 2 M (ipG_p21 cellsZ_size) (fit_1 (ipG_sz cellsZ_size) (by decide)) ?_; clear M; intro u M
    go_upto_region 11 with fail
    refine wp_region_lit ?_
    with_reducible refine wL 2 M whole_part Tryz.underlying27 (infoTIp22 (ipG_sz cellsZ_size)) ?_
    with_reducible refine wS 0 M (laid_all (ipG_sz cellsZ_size) (ipG_sz cellsZ_size)) (infoTIp22 (ipG_sz cellsZ_size)) (ipG_one cellsZ_one) (fit_2 (ipG_sz cellsZ_size) (ipG_sz cellsZ_size) (by decide)) ?_; clear M; intro u M
    have hL := M.read 0 Tryz.underlying27 (infoTIp22 (ipG_sz cellsZ_size)) rfl rfl
    go_wp2_with fail
    exact bodyPost_ret (v := .agg (ipG 0 0 cellsZ d 0 0 c1)) (results_cell Tryz.results71 (by rfl) hL) rfl ⟨rfl, M.b⟩
  | true =>
   go_upto_region 7 with fail
   refine wp_region_lit ?_
   with_reducible refine rA ?_
   with_reducible refine vC M (HC2.out _ M.b) ?_; clear M; intro u M
   iterate 6 (with_reducible refine rA ?_)
   go_upto_region 8 with fail
   refine wp_region_lit ?_
   with_reducible refine rA ?_
   with_reducible refine vC M (HN.out _ M.b) ?_; clear M; intro u M
   iterate 4 (with_reducible refine rA ?_)
   with_reducible refine wV 2 M (ipG_p19 cellsZ_size) (fit_1 (ipG_sz cellsZ_size) (by decide)) ?_; clear M; intro u M
   go_upto_region 9 with fail
   refine wp_region_lit ?_
   with_reducible refine rA ?_
   cases uC with
   | false =>
    go_upto_region 11 with fail
    refine wp_region_lit ?_
    with_reducible refine wL 2 M whole_part Tryz.underlying27 (infoTIp22 (ipG_sz cellsZ_size)) ?_
    with_reducible refine wS 0 M (laid_all (ipG_sz cellsZ_size) (ipG_sz cellsZ_size)) (infoTIp22 (ipG_sz cellsZ_size)) (ipG_one cellsZ_one) (fit_2 (ipG_sz cellsZ_size) (ipG_sz cellsZ_size) (by decide)) ?_; clear M; intro u M
    have hL := M.read 0 Tryz.underlying27 (infoTIp22 (ipG_sz cellsZ_size)) rfl rfl
    go_wp2_with fail
    exact bodyPost_ret (v := .agg (ipG 0 0 cellsZ d n 0 0)) (results_cell Tryz.results71 (by rfl) hL) rfl ⟨rfl, M.b⟩
   | true =>
    go_upto_region 10 with fail
    refine wp_region_lit ?_
    with_reducible refine rA ?_
    with_reducible refine vC M (HK2.out _ M.b) ?_; clear M; intro u M
    iterate 4 (with_reducible refine rA ?_)
    with_reducible refine wV 2 M (ipG_p21 cellsZ_size) (fit_1 (ipG_sz cellsZ_size) (by decide)) ?_; clear M; intro u M
    go_upto_region 11 with fail
    refine wp_region_lit ?_
    with_reducible refine wL 2 M whole_part Tryz.underlying27 (infoTIp22 (ipG_sz cellsZ_size)) ?_
    with_reducible refine wS 0 M (laid_all (ipG_sz cellsZ_size) (ipG_sz cellsZ_size)) (infoTIp22 (ipG_sz cellsZ_size)) (ipG_one cellsZ_one) (fit_2 (ipG_sz cellsZ_size) (ipG_sz cellsZ_size) (by decide)) ?_; clear M; intro u M
    have hL := M.read 0 Tryz.underlying27 (infoTIp22 (ipG_sz cellsZ_size)) rfl rfl
    go_wp2_with fail
    exact bodyPost_ret (v := .agg (ipG 0 0 cellsZ d n 0 c2)) (results_cell Tryz.results71 (by rfl) hL) rfl ⟨rfl, M.b⟩

set_option maxHeartbeats 8000000 in
set_option maxRecDepth 100000 in
theorem ipRdNeg (s p1 r1 p2 r2 : ByteArray) (k : Int) (o1 o2 : Bool) (w : World)
    (HC1 : Hid (∀ W, Below w.heap.size w W → Calls Tryz.prog 69 #[.string s, .string ⟨#[32]⟩] W fun e w' => e = .returned (.tuple #[.string p1, .string r1, .bool o1]) ∧ Below W.heap.size W w')) (HC2 : Hid (∀ W, Below w.heap.size w W → Calls Tryz.prog 69 #[.string r1, .string ⟨#[32]⟩] W fun e w' => e = .returned (.tuple #[.string p2, .string r2, .bool o2]) ∧ Below W.heap.size W w')) (HX : Hid (∀ W b, Below w.heap.size w W → Blk W b ipNamesT 9 → Calls Tryz.prog 70 #[.slice (some ⟨b, 0, none⟩) 10 10, .string p1] W fun e w' => e = .returned (.int .i64 k) ∧ Below W.heap.size W w')) (hk : decide (k < 0) = true) :
    Calls Tryz.prog 37 #[.string s] w fun e w' => e = .returned (.agg (ipG 0 0 cellsZ 0 0 0 0)) ∧ Below w.heap.size w w' := by

  have M := Mm.nil w
  go_enter Tryz.func37, Tryz.ntmps37
  go_upto_region 0 with fail
  refine wp_region_lit ?_
  with_reducible refine wA (ipG 0 0 cellsZ 0 0 0 0) M ?_; clear M; intro pB2 u M; refine ⟨_, by (simp only [pu, sB, s0, sS]; rfl), ?_⟩
  go_upto_region 1 with fail
  refine wp_region_lit ?_
  with_reducible refine rA ?_
  with_reducible refine vC M (HC1.out _ M.b) ?_; clear M; intro u M
  iterate 7 (with_reducible refine rA ?_)
  go_upto_region 2 with fail
  refine wp_region_lit ?_
  with_reducible refine rA ?_
  with_reducible refine vC M (HC2.out _ M.b) ?_; clear M; intro u M
  iterate 7 (with_reducible refine rA ?_)
  go_upto_region 3 with fail
  refine wp_region_lit ?_
  with_reducible refine vCn M (ipNames _) ?_; clear M; intro pT u M; refine ⟨_, by (simp only [pu, sB, s0, sS]; rfl), ?_⟩
  with_reducible refine rA ?_
  with_reducible refine vC M (HX.out _ _ M.b (M.at 1 rfl)) ?_; clear M; intro u M
  with_reducible refine rA ?_
  go_upto_region 4 with fail
  refine wp_region_lit ?_
  iterate 2 (with_reducible refine rA ?_)
  go_upto_region 5 with fail
  refine wp_region_lit ?_
  (with_reducible refine rB (.agg (ipG 0 0 cellsZ 0 0 0 0)) ?_ ?_); (· go_simp; rfl)
  with_reducible refine wS 0 M (laid_all (ipG_sz cellsZ_size) (ipG_sz cellsZ_size)) (infoTIp22 (ipG_sz cellsZ_size)) (ipG_one cellsZ_one) (fit_2 (ipG_sz cellsZ_size) (ipG_sz cellsZ_size) (by decide)) ?_; clear M; intro u M
  have hL := M.read 0 Tryz.underlying27 (infoTIp22 (ipG_sz cellsZ_size)) rfl rfl
  go_wp2_with fail
  exact bodyPost_ret (v := .agg (ipG 0 0 cellsZ 0 0 0 0)) (results_cell Tryz.results37 (by rfl) hL) rfl ⟨rfl, M.b⟩

set_option maxHeartbeats 8000000 in
set_option maxRecDepth 100000 in
theorem ipRdIn (s p1 r1 p2 r2 : ByteArray) (k : Nat) (d n z c e1 : Int) (g : Fil.Flt) (o1 o2 pW : Bool) (w : World)
    (HC1 : Hid (∀ W, Below w.heap.size w W → Calls Tryz.prog 69 #[.string s, .string ⟨#[32]⟩] W fun e w' => e = .returned (.tuple #[.string p1, .string r1, .bool o1]) ∧ Below W.heap.size W w')) (HC2 : Hid (∀ W, Below w.heap.size w W → Calls Tryz.prog 69 #[.string r1, .string ⟨#[32]⟩] W fun e w' => e = .returned (.tuple #[.string p2, .string r2, .bool o2]) ∧ Below W.heap.size W w')) (HX : Hid (∀ W b, Below w.heap.size w W → Blk W b ipNamesT 9 → Calls Tryz.prog 70 #[.slice (some ⟨b, 0, none⟩) 10 10, .string p1] W fun e w' => e = .returned (.int .i64 (k : Int)) ∧ Below W.heap.size W w')) (h10 : k < 10) (hk : decide ((k : Int) < 0) = false) (HR : Hid (∀ W, Below w.heap.size w W → Calls Tryz.prog 71 #[.int .i64 (k : Int), .string r2] W fun e w' => e = .returned (.agg (ipG 0 0 cellsZ d n z c)) ∧ Below W.heap.size W w')) (HP : Hid (∀ W, Below w.heap.size w W → Calls Tryz.prog 18 #[.int .i64 (k : Int)] W fun e w' => e = .returned (.bool pW) ∧ Below W.heap.size W w')) (HE : Hid (∀ W, Below w.heap.size w W → Calls Tryz.prog 73 #[.string p2] W fun e w' => e = .returned (.tuple #[.agg (cellsF g (fsOf g)), .int .i64 e1]) ∧ Below W.heap.size W w')) :
    Calls Tryz.prog 37 #[.string s] w fun e w' => e = .returned (.agg (if pW = true then (ipG (Ip.evOf k) (Ip.wn p2.data.toList Tg.whoT [0, 1, 2]) cellsZ d n z c) else (ipG (Ip.evOf k) 0 (cellsF g (fsOf g)) d n z c))) ∧ Below w.heap.size w w' := by

  have M := Mm.nil w
  go_enter Tryz.func37, Tryz.ntmps37
  go_upto_region 0 with fail
  refine wp_region_lit ?_
  with_reducible refine wA (ipG 0 0 cellsZ 0 0 0 0) M ?_; clear M; intro pB2 u M; refine ⟨_, by (simp only [pu, sB, s0, sS]; rfl), ?_⟩
  go_upto_region 1 with fail
  refine wp_region_lit ?_
  with_reducible refine rA ?_
  with_reducible refine vC M (HC1.out _ M.b) ?_; clear M; intro u M
  iterate 7 (with_reducible refine rA ?_)
  go_upto_region 2 with fail
  refine wp_region_lit ?_
  with_reducible refine rA ?_
  with_reducible refine vC M (HC2.out _ M.b) ?_; clear M; intro u M
  iterate 7 (with_reducible refine rA ?_)
  go_upto_region 3 with fail
  refine wp_region_lit ?_
  with_reducible refine vCn M (ipNames _) ?_; clear M; intro pT u M; refine ⟨_, by (simp only [pu, sB, s0, sS]; rfl), ?_⟩
  with_reducible refine rA ?_
  with_reducible refine vC M (HX.out _ _ M.b (M.at 1 rfl)) ?_; clear M; intro u M
  with_reducible refine rA ?_
  go_upto_region 4 with fail
  refine wp_region_lit ?_
  iterate 2 (with_reducible refine rA ?_)
  go_upto_region 6 with fail
  refine wp_region_lit ?_
  iterate 2 (with_reducible refine rA ?_)
  with_reducible refine vC M (HR.out _ M.b) ?_; clear M; intro u M
  with_reducible refine wA (ipG 0 0 cellsZ 0 0 0 0) M ?_; clear M; intro pB10 u M; refine ⟨_, by (simp only [pu, sB, s0, sS]; rfl), ?_⟩
  with_reducible refine wS 2 M (laid_all (ipG_sz cellsZ_size) (ipG_sz cellsZ_size)) (infoTIp22 (ipG_sz cellsZ_size)) (ipG_one cellsZ_one) (fit_2 (ipG_sz cellsZ_size) (ipG_sz cellsZ_size) (by decide)) ?_; clear M; intro u M
  have h9i : (k : Int) < 10 := by omega
  have h0i : (0 : Int) ≤ (k : Int) := by omega
  go_upto_region 7 with fail
  refine wp_region_lit ?_
  with_reducible refine vCn M (ipEvents _) ?_; clear M; intro pE u M; refine ⟨_, by (simp only [pu, sB, s0, sS]; rfl), ?_⟩
  iterate 2 (with_reducible refine rA ?_)
  with_reducible refine wLv 3 M (show (ipEvT)[k]? = some (.int .i64 (Ip.evOf k)) from (ipEvT_at h10)) Tryz.underlying3 ?_
  with_reducible refine rA ?_
  with_reducible refine wV 2 M (ipG_p0) (fit_1 (ipG_sz cellsZ_size) (by decide)) ?_; clear M; intro u M
  go_upto_region 8 with fail
  refine wp_region_lit ?_
  with_reducible refine rA ?_
  with_reducible refine vC M (HP.out _ M.b) ?_; clear M; intro u M
  cases pW with
  | false =>
   go_upto_region 10 with fail
   refine wp_region_lit ?_
   with_reducible refine rA ?_
   with_reducible refine vC M (HE.out _ M.b) ?_; clear M; intro u M
   with_reducible refine rA ?_
   (with_reducible refine rB (.agg (cellsF g (fsOf g))) ?_ ?_); (· go_simp; (try with_reducible rfl))
   iterate 2 (with_reducible refine rA ?_)
   with_reducible refine wS 2 M (ipG_pf (Eq.trans (cellsF_size g (fsOf g)) (Eq.symm cellsZ_size))) (infoTF16 (cellsF_size g (fsOf g))) (cellsF_one g (fsOf g)) (fit_2 (ipG_sz cellsZ_size) (cellsF_size g (fsOf g)) (by decide)) ?_; clear M; intro u M
   go_upto_region 11 with fail
   refine wp_region_lit ?_
   with_reducible refine wL 2 M whole_part Tryz.underlying27 (infoTIp22 (ipG_sz (cellsF_size g (fsOf g)))) ?_
   with_reducible refine wS 0 M (laid_all (ipG_sz (cellsF_size g (fsOf g))) (ipG_sz cellsZ_size)) (infoTIp22 (ipG_sz (cellsF_size g (fsOf g)))) (ipG_one (cellsF_one g (fsOf g))) (fit_2 (ipG_sz cellsZ_size) (ipG_sz (cellsF_size g (fsOf g))) (by decide)) ?_; clear M; intro u M
   have hL := M.read 0 Tryz.underlying27 (infoTIp22 (ipG_sz (cellsF_size g (fsOf g)))) rfl rfl
   go_wp2_with fail
   exact bodyPost_ret (v := .agg (ipG (Ip.evOf k) 0 (cellsF g (fsOf g)) d n z c)) (results_cell Tryz.results37 (by rfl) hL) rfl ⟨rfl, M.b⟩
  | true =>
   go_upto_region 9 with fail
   refine wp_region_lit ?_
   with_reducible refine rA ?_
   with_reducible refine wAs ipWho3T (T := 3) 3 M ?_; clear M; intro pS u M; refine ⟨_, by (simp only [pu, sB, s0, sS]; rfl), ?_⟩
   with_reducible refine vC M (ipWithWho p2 _ [0, 1, 2] rfl _ (who3_ints (M.at 4 rfl))) ?_; clear M; intro u M
   with_reducible refine rA ?_
   with_reducible refine wV 2 M (ipG_p1) (fit_1 (ipG_sz cellsZ_size) (by decide)) ?_; clear M; intro u M
   go_upto_region 11 with fail
   refine wp_region_lit ?_
   with_reducible refine wL 2 M whole_part Tryz.underlying27 (infoTIp22 (ipG_sz cellsZ_size)) ?_
   with_reducible refine wS 0 M (laid_all (ipG_sz cellsZ_size) (ipG_sz cellsZ_size)) (infoTIp22 (ipG_sz cellsZ_size)) (ipG_one cellsZ_one) (fit_2 (ipG_sz cellsZ_size) (ipG_sz cellsZ_size) (by decide)) ?_; clear M; intro u M
   have hL := M.read 0 Tryz.underlying27 (infoTIp22 (ipG_sz cellsZ_size)) rfl rfl
   go_wp2_with fail
   exact bodyPost_ret (v := .agg (ipG (Ip.evOf k) (Ip.wn p2.data.toList Tg.whoT [0, 1, 2]) cellsZ d n z c)) (results_cell Tryz.results37 (by rfl) hL) rfl ⟨rfl, M.b⟩

set_option maxHeartbeats 8000000 in
set_option maxRecDepth 100000 in
theorem ipPaIn (t u : ByteArray) (on who d n z c : Int) (f : Fil.Flt) (fs : ByteArray) (v q : Bool) (w : World)
    (HR : Hid (∀ W, Below w.heap.size w W → Calls Tryz.prog 37 #[.string t] W fun e w' => e = .returned (.agg (ipG on who (cellsF f fs) d n z c)) ∧ Below W.heap.size W w')) (HI : Hid (∀ W, Below w.heap.size w W → Calls Tryz.prog 10 #[.agg (ipG on who (cellsF f fs) d n z c)] W fun e w' => e = .returned (.bool v) ∧ Below W.heap.size W w')) (HT : Hid (∀ W, Below w.heap.size w W → Calls Tryz.prog 12 #[.agg (ipG on who (cellsF f fs) d n z c)] W fun e w' => e = .returned (.string u) ∧ Below W.heap.size W w')) (hq : (u.toList == t.toList) = q) :
    Calls Tryz.prog 14 #[.string t] w fun e w' => e = .returned (if (v && q) = true then .tuple #[.agg (ipG on who (cellsF f fs) d n z c), .int .i64 0] else .tuple #[.agg (ipG 0 0 cellsZ 0 0 0 0), .int .i64 3]) ∧ Below w.heap.size w w' := by

  have M := Mm.nil w
  go_enter Tryz.func14, Tryz.ntmps14
  go_upto_region 0 with fail
  refine wp_region_lit ?_
  with_reducible refine wA (ipG 0 0 cellsZ 0 0 0 0) M ?_; clear M; intro pB2 u M; refine ⟨_, by (simp only [pu, sB, s0, sS]; rfl), ?_⟩
  with_reducible refine rA ?_
  go_upto_region 1 with fail
  refine wp_region_lit ?_
  with_reducible refine rA ?_
  with_reducible refine vC M (HR.out _ M.b) ?_; clear M; intro u M
  with_reducible refine wA (ipG 0 0 cellsZ 0 0 0 0) M ?_; clear M; intro pB4 u M; refine ⟨_, by (simp only [pu, sB, s0, sS]; rfl), ?_⟩
  with_reducible refine wS 1 M (laid_all (ipG_sz (cellsF_size f fs)) (ipG_sz cellsZ_size)) (infoTIp22 (ipG_sz (cellsF_size f fs))) (ipG_one (cellsF_one f fs)) (fit_2 (ipG_sz cellsZ_size) (ipG_sz (cellsF_size f fs)) (by decide)) ?_; clear M; intro u M
  go_upto_region 2 with fail
  refine wp_region_lit ?_
  with_reducible refine wL 1 M whole_part Tryz.underlying27 (infoTIp22 (ipG_sz (cellsF_size f fs))) ?_
  with_reducible refine vC M (HI.out _ M.b) ?_; clear M; intro u M
  iterate 2 (with_reducible refine rA ?_)
  cases v with
  | false =>
   iterate 4 (with_reducible refine kA ?_)
   with_reducible refine rA ?_
   go_upto_region 3 with fail
   refine wp_region_lit ?_
   (with_reducible refine rB (.agg (ipG 0 0 cellsZ 0 0 0 0)) ?_ ?_); (· go_simp; rfl)
   with_reducible refine wS 0 M (laid_all (ipG_sz cellsZ_size) (ipG_sz cellsZ_size)) (infoTIp22 (ipG_sz cellsZ_size)) (ipG_one cellsZ_one) (fit_2 (ipG_sz cellsZ_size) (ipG_sz cellsZ_size) (by decide)) ?_; clear M; intro u M
   with_reducible refine rA ?_
   have hL := M.read 0 Tryz.underlying27 (infoTIp22 (ipG_sz cellsZ_size)) rfl rfl
   go_wp2_with fail
   exact bodyPost_ret (v := .tuple #[.agg (ipG 0 0 cellsZ 0 0 0 0), .int .i64 3]) (results_cell_tmp Tryz.results14 (by rfl) (by rfl) hL) rfl ⟨rfl, M.b⟩
  | true =>
   with_reducible refine wL 1 M whole_part Tryz.underlying27 (infoTIp22 (ipG_sz (cellsF_size f fs))) ?_
   with_reducible refine vC M (HT.out _ M.b) ?_; clear M; intro u M
   with_reducible refine rA ?_
   (with_reducible refine rB (.bool (!q)) ?_ ?_); (· go_simp; (try simp only [bne, hq]))
   with_reducible refine rA ?_
   cases q with
   | false =>
    go_upto_region 3 with fail
    refine wp_region_lit ?_
    (with_reducible refine rB (.agg (ipG 0 0 cellsZ 0 0 0 0)) ?_ ?_); (· go_simp; rfl)
    with_reducible refine wS 0 M (laid_all (ipG_sz cellsZ_size) (ipG_sz cellsZ_size)) (infoTIp22 (ipG_sz cellsZ_size)) (ipG_one cellsZ_one) (fit_2 (ipG_sz cellsZ_size) (ipG_sz cellsZ_size) (by decide)) ?_; clear M; intro u M
    with_reducible refine rA ?_
    have hL := M.read 0 Tryz.underlying27 (infoTIp22 (ipG_sz cellsZ_size)) rfl rfl
    go_wp2_with fail
    exact bodyPost_ret (v := .tuple #[.agg (ipG 0 0 cellsZ 0 0 0 0), .int .i64 3]) (results_cell_tmp Tryz.results14 (by rfl) (by rfl) hL) rfl ⟨rfl, M.b⟩
   | true =>
    go_upto_region 4 with fail
    refine wp_region_lit ?_
    with_reducible refine wL 1 M whole_part Tryz.underlying27 (infoTIp22 (ipG_sz (cellsF_size f fs))) ?_
    with_reducible refine wS 0 M (laid_all (ipG_sz (cellsF_size f fs)) (ipG_sz cellsZ_size)) (infoTIp22 (ipG_sz (cellsF_size f fs))) (ipG_one (cellsF_one f fs)) (fit_2 (ipG_sz cellsZ_size) (ipG_sz (cellsF_size f fs)) (by decide)) ?_; clear M; intro u M
    with_reducible refine rA ?_
    have hL := M.read 0 Tryz.underlying27 (infoTIp22 (ipG_sz (cellsF_size f fs))) rfl rfl
    go_wp2_with fail
    exact bodyPost_ret (v := .tuple #[.agg (ipG on who (cellsF f fs) d n z c), .int .i64 0]) (results_cell_tmp Tryz.results14 (by rfl) (by rfl) hL) rfl ⟨rfl, M.b⟩
end Go.Proofs.YtkohfomiigcifaaGreatDoor
namespace Go.Proofs.YtkohfomiigcifaaGreatDoor
open Go.RowKit
open Wd (Bs)

set_option maxHeartbeats 8000000 in
set_option maxRecDepth 100000 in
theorem ipIsIn (on who d n z c : Int) (f : Fil.Flt) (fs : ByteArray) (F : Int) (LA : List Int) (wt cn : ByteArray) (R cA cZ pW uN uZ uC nz cz w0 vF z0 e0 n1 n2 n0 zz c0 : Bool) (w : World)
    (HFO : Hid (∀ W, Below w.heap.size w W → Calls Tryz.prog 16 #[.agg (ipG on who (cellsF f fs) d n z c)] W fun e w' => e = .returned (.int .i64 F) ∧ Below W.heap.size W w')) (HU : Hid (∀ W, Below w.heap.size w W → Calls Tryz.prog 17 #[.int .i64 d] W fun e w' => e = .returned (.tuple #[.bool uN, .bool uZ, .bool uC]) ∧ Below W.heap.size W w')) (HP : Hid (∀ W, Below w.heap.size w W → Calls Tryz.prog 18 #[.int .i64 F] W fun e w' => e = .returned (.bool pW) ∧ Below W.heap.size W w')) (HA : Hid (∀ W, Below w.heap.size w W → Calls Tryz.prog 20 #[.int .i64 F] W fun e w' => (∃ v, e = .returned v ∧ Ints w' v LA) ∧ Below W.heap.size W w')) (hcA : decide (d ∈ LA) = cA) (hcZ : decide (z ∈ ([1, 2, 4] : List Int)) = cZ) (HW : Hid (∀ W, Below w.heap.size w W → Calls Tryz.prog 22 #[.int .i64 who] W fun e w' => e = .returned (.string wt) ∧ Below W.heap.size W w')) (hwt : wt.toList.isEmpty = nz) (hw0 : (who == 0) = w0) (HF : Hid (∀ W, Below w.heap.size w W → Calls Tryz.prog 23 #[.agg (cellsF f fs)] W fun e w' => e = .returned (.bool vF) ∧ Below W.heap.size W w')) (hz0 : (f.zone == 0) = z0) (HE : ∀ W : World, (Op.equalIn 10000 25 (.agg (cellsF f fs)) (.agg cellsZ)).run Tryz.prog W = .ok e0 W) (h1 : decide (1 ≤ n) = n1) (h2 : decide (n ≤ 99) = n2) (h0 : (n == 0) = n0) (hzz : (z == 0) = zz) (HC : Hid (∀ W, Below w.heap.size w W → Calls Tryz.prog 25 #[.int .i64 c] W fun e w' => e = .returned (.string cn) ∧ Below W.heap.size W w')) (hcn : cn.toList.isEmpty = cz) (hc0 : (c == 0) = c0) (hR : Hid (R = (cA && (fitB pW (!nz) w0 && (fitB (!pW) (vF && z0) e0 && (fitB uN (n1 && n2) n0 && (fitB uZ cZ zz && fitB uC (!cz) c0))))))) :
    Calls Tryz.prog 10 #[.agg (ipG on who (cellsF f fs) d n z c)] w fun e w' => e = .returned (.bool R) ∧ Below w.heap.size w w' := by

  have M := Mm.nil w
  go_enter Tryz.func10, Tryz.ntmps10
  go_upto_region 0 with fail
  refine wp_region_lit ?_
  with_reducible refine wA (ipG on who (cellsF f fs) d n z c) M ?_; clear M; intro pB1 u M; refine ⟨_, by (simp only [pu, sB, s0, sS]; rfl), ?_⟩
  with_reducible refine rA ?_
  go_upto_region 1 with fail
  refine wp_region_lit ?_
  with_reducible refine wL 0 M whole_part Tryz.underlying27 (infoTIp22 (ipG_sz (cellsF_size f fs))) ?_
  with_reducible refine vC M (HFO.out _ M.b) ?_; clear M; intro u M
  with_reducible refine rA ?_
  go_upto_region 2 with fail
  refine wp_region_lit ?_
  with_reducible refine rA ?_
  with_reducible refine wLv 0 M (ipG_18 (cellsF_size f fs)) Tryz.underlying3 ?_
  with_reducible refine vC M (HU.out _ M.b) ?_; clear M; intro u M
  iterate 7 (with_reducible refine rA ?_)
  go_upto_region 3 with fail
  refine wp_region_lit ?_
  with_reducible refine rA ?_
  with_reducible refine vC M (HP.out _ M.b) ?_; clear M; intro u M
  with_reducible refine rA ?_
  go_upto_region 4 with fail
  replace M := M.drew
  refine wp_region_held_drew (S := fun W => Mm w W [(pB1, (ipG on who (cellsF f fs) d n z c), 27)]) (by kernel_rfl) M (fun _ => ?_)
  generalize World.drew _ = u at M ⊢
  refine tA 0 (some 19) rfl rfl M ?_
  refine tA 2 (some 21) rfl rfl M ?_
  refine tLv 3 (some 22) rfl rfl (fun W h => h.at 0 rfl) (ipG_18 (cellsF_size f fs)) Tryz.underlying3 M ?_
  refine tCx 1 (some 20) rfl rfl (fun _ hb => M.call hb) (HA.out _ M.b) ?_; clear M; rintro e u ⟨va, rfl, hIa⟩ hb M
  clear hb
  refine ⟨_, _, rfl, by (simp only [pu, sB, s0, sS]; rfl), ?_⟩
  refine tC 4 (some 23) rfl rfl (fun _ hb => M.call hb) (intsContains va LA d _ hcA _ hIa) ?_; clear M; intro u _ M
  refine tB 5 (some 24) rfl rfl (.bool cA) (by intro W hSw; (go_simp; (try with_reducible rfl))) M ?_
  cases cA with
  | false =>
   refine tK 6 (some 25) rfl rfl M ?_
   refine tK 7 (some 26) rfl rfl M ?_
   refine tK 8 (some 27) rfl rfl M ?_
   refine tK 11 (some 30) rfl rfl M ?_
   refine tK 12 (some 31) rfl rfl M ?_
   refine tK 13 (some 32) rfl rfl M ?_
   refine tK 9 (some 28) rfl rfl M ?_
   refine tK 10 (some 29) rfl rfl M ?_
   refine tK 14 (some 33) rfl rfl M ?_
   refine tA 15 (some 34) rfl rfl M ?_
   refine tA 16 (some 35) rfl rfl M ?_
   refine tK 17 (some 36) rfl rfl M ?_
   refine tK 18 (some 37) rfl rfl M ?_
   refine tK 19 (some 38) rfl rfl M ?_
   refine tK 20 (some 39) rfl rfl M ?_
   refine tK 28 (some 47) rfl rfl M ?_
   refine tK 29 (some 48) rfl rfl M ?_
   refine tK 30 (some 49) rfl rfl M ?_
   refine tK 31 (some 50) rfl rfl M ?_
   refine tK 21 (some 40) rfl rfl M ?_
   refine tK 22 (some 41) rfl rfl M ?_
   refine tK 23 (some 42) rfl rfl M ?_
   refine tK 24 (some 43) rfl rfl M ?_
   refine tK 25 (some 44) rfl rfl M ?_
   refine tK 26 (some 45) rfl rfl M ?_
   refine tK 27 (some 46) rfl rfl M ?_
   refine tK 32 (some 51) rfl rfl M ?_
   refine tA 33 (some 52) rfl rfl M ?_
   refine tA 34 (some 53) rfl rfl M ?_
   refine tK 35 (some 54) rfl rfl M ?_
   refine tK 36 (some 55) rfl rfl M ?_
   refine tK 37 (some 56) rfl rfl M ?_
   refine tK 38 (some 57) rfl rfl M ?_
   refine tK 39 (some 58) rfl rfl M ?_
   refine tK 40 (some 59) rfl rfl M ?_
   refine tK 41 (some 60) rfl rfl M ?_
   refine tK 42 (some 61) rfl rfl M ?_
   refine tK 43 (some 62) rfl rfl M ?_
   refine tK 44 (some 63) rfl rfl M ?_
   refine tK 45 (some 64) rfl rfl M ?_
   refine tK 46 (some 65) rfl rfl M ?_
   refine tK 47 (some 66) rfl rfl M ?_
   refine tA 48 (some 67) rfl rfl M ?_
   refine tA 49 (some 68) rfl rfl M ?_
   refine tK 50 (some 69) rfl rfl M ?_
   refine tK 52 (some 71) rfl rfl M ?_
   refine tK 53 (some 72) rfl rfl M ?_
   refine tK 55 (some 74) rfl rfl M ?_
   refine tK 56 (some 75) rfl rfl M ?_
   refine tK 57 (some 76) rfl rfl M ?_
   refine tK 51 (some 70) rfl rfl M ?_
   refine tK 54 (some 73) rfl rfl M ?_
   refine tK 58 (some 77) rfl rfl M ?_
   refine tA 59 (some 78) rfl rfl M ?_
   refine tA 60 (some 79) rfl rfl M ?_
   refine tK 61 (some 80) rfl rfl M ?_
   refine tK 62 (some 81) rfl rfl M ?_
   refine tK 63 (some 82) rfl rfl M ?_
   refine tK 66 (some 85) rfl rfl M ?_
   refine tK 67 (some 86) rfl rfl M ?_
   refine tK 68 (some 87) rfl rfl M ?_
   refine tK 64 (some 83) rfl rfl M ?_
   refine tK 65 (some 84) rfl rfl M ?_
   refine tK 69 (some 88) rfl rfl M ?_
   refine tA 70 (some 89) rfl rfl M ?_
   refine tA 71 (some 2) rfl rfl M ?_
   refine wpAnyH_done (by kernel_rfl) ?_ _
   go_wp2_with fail
   go_ret
   exact ⟨by rw [hR.out]; rfl, M.b⟩
  | true =>
   refine tB 6 (some 25) rfl rfl (.bool pW) (by intro W hSw; (go_simp; (try with_reducible rfl))) M ?_
   refine tA 7 (some 26) rfl rfl M ?_
   refine tLv 8 (some 27) rfl rfl (fun W h => h.at 0 rfl) ipG_1 Tryz.underlying3 M ?_
   refine tA 11 (some 30) rfl rfl M ?_
   refine tLv 12 (some 31) rfl rfl (fun W h => h.at 0 rfl) ipG_1 Tryz.underlying3 M ?_
   refine tB 13 (some 32) rfl rfl (.bool w0) (by intro W hSw; (go_simp; (try with_reducible rfl))) M ?_
   refine tC 9 (some 28) rfl rfl (fun _ hb => M.call hb) (HW.out _ M.b) ?_; clear M; intro u _ M
   refine tB 10 (some 29) rfl rfl (.bool (!nz)) (by intro W hSw; (go_simp; (try simp only [bne, hwt]))) M ?_
   obtain ⟨b1, hb1⟩ : ∃ b, fitB pW (!nz) w0 = b := ⟨_, rfl⟩
   refine tC 14 (some 33) rfl rfl (fun _ hb => M.call hb) (ipFits pW (!nz) w0 _ hb1 _) ?_; clear M; intro u _ M
   refine tB 15 (some 34) rfl rfl (.bool b1) (by intro W hSw; (go_simp; (try with_reducible rfl))) M ?_
   refine tB 16 (some 35) rfl rfl (.bool b1) (by intro W hSw; (go_simp; (try with_reducible rfl))) M ?_
   cases b1 with
   | false =>
    refine tK 17 (some 36) rfl rfl M ?_
    refine tK 18 (some 37) rfl rfl M ?_
    refine tK 19 (some 38) rfl rfl M ?_
    refine tK 20 (some 39) rfl rfl M ?_
    refine tK 28 (some 47) rfl rfl M ?_
    refine tK 29 (some 48) rfl rfl M ?_
    refine tK 30 (some 49) rfl rfl M ?_
    refine tK 31 (some 50) rfl rfl M ?_
    refine tK 21 (some 40) rfl rfl M ?_
    refine tK 22 (some 41) rfl rfl M ?_
    refine tK 23 (some 42) rfl rfl M ?_
    refine tK 24 (some 43) rfl rfl M ?_
    refine tK 25 (some 44) rfl rfl M ?_
    refine tK 26 (some 45) rfl rfl M ?_
    refine tK 27 (some 46) rfl rfl M ?_
    refine tK 32 (some 51) rfl rfl M ?_
    refine tA 33 (some 52) rfl rfl M ?_
    refine tA 34 (some 53) rfl rfl M ?_
    refine tK 35 (some 54) rfl rfl M ?_
    refine tK 36 (some 55) rfl rfl M ?_
    refine tK 37 (some 56) rfl rfl M ?_
    refine tK 38 (some 57) rfl rfl M ?_
    refine tK 39 (some 58) rfl rfl M ?_
    refine tK 40 (some 59) rfl rfl M ?_
    refine tK 41 (some 60) rfl rfl M ?_
    refine tK 42 (some 61) rfl rfl M ?_
    refine tK 43 (some 62) rfl rfl M ?_
    refine tK 44 (some 63) rfl rfl M ?_
    refine tK 45 (some 64) rfl rfl M ?_
    refine tK 46 (some 65) rfl rfl M ?_
    refine tK 47 (some 66) rfl rfl M ?_
    refine tA 48 (some 67) rfl rfl M ?_
    refine tA 49 (some 68) rfl rfl M ?_
    refine tK 50 (some 69) rfl rfl M ?_
    refine tK 52 (some 71) rfl rfl M ?_
    refine tK 53 (some 72) rfl rfl M ?_
    refine tK 55 (some 74) rfl rfl M ?_
    refine tK 56 (some 75) rfl rfl M ?_
    refine tK 57 (some 76) rfl rfl M ?_
    refine tK 51 (some 70) rfl rfl M ?_
    refine tK 54 (some 73) rfl rfl M ?_
    refine tK 58 (some 77) rfl rfl M ?_
    refine tA 59 (some 78) rfl rfl M ?_
    refine tA 60 (some 79) rfl rfl M ?_
    refine tK 61 (some 80) rfl rfl M ?_
    refine tK 62 (some 81) rfl rfl M ?_
    refine tK 63 (some 82) rfl rfl M ?_
    refine tK 66 (some 85) rfl rfl M ?_
    refine tK 67 (some 86) rfl rfl M ?_
    refine tK 68 (some 87) rfl rfl M ?_
    refine tK 64 (some 83) rfl rfl M ?_
    refine tK 65 (some 84) rfl rfl M ?_
    refine tK 69 (some 88) rfl rfl M ?_
    refine tA 70 (some 89) rfl rfl M ?_
    refine tA 71 (some 2) rfl rfl M ?_
    refine wpAnyH_done (by kernel_rfl) ?_ _
    go_wp2_with fail
    go_ret
    exact ⟨by rw [hR.out]; simp [hb1], M.b⟩
   | true =>
    refine tB 17 (some 36) rfl rfl (.bool pW) (by intro W hSw; (go_simp; (try with_reducible rfl))) M ?_
    refine tB 18 (some 37) rfl rfl (.bool (!pW)) (by intro W hSw; (go_simp; (try with_reducible rfl))) M ?_
    refine tA 19 (some 38) rfl rfl M ?_
    refine tLm 20 (some 39) rfl rfl (fun W h => h.at 0 rfl) ipG_f Tryz.underlying25 (infoTF16 (cellsF_size f fs)) M ?_
    refine tA 28 (some 47) rfl rfl M ?_
    refine tLm 29 (some 48) rfl rfl (fun W h => h.at 0 rfl) ipG_f Tryz.underlying25 (infoTF16 (cellsF_size f fs)) M ?_
    refine tB 30 (some 49) rfl rfl (.agg cellsZ) (by intro W hSw; (go_simp; rfl)) M ?_
    refine tB 31 (some 50) rfl rfl (.bool e0) (by intro W hSw; (go_simp; (try with_reducible rfl))) M ?_
    refine tC 21 (some 40) rfl rfl (fun _ hb => M.call hb) (HF.out _ M.b) ?_; clear M; intro u _ M
    refine tB 22 (some 41) rfl rfl (.bool vF) (by intro W hSw; (go_simp; (try with_reducible rfl))) M ?_
    cases vF with
    | false =>
     refine tK 23 (some 42) rfl rfl M ?_
     refine tK 24 (some 43) rfl rfl M ?_
     refine tK 25 (some 44) rfl rfl M ?_
     refine tK 26 (some 45) rfl rfl M ?_
     refine tA 27 (some 46) rfl rfl M ?_
     obtain ⟨b2, hb2⟩ : ∃ b, fitB (!pW) false e0 = b := ⟨_, rfl⟩
     refine tC 32 (some 51) rfl rfl (fun _ hb => M.call hb) (ipFits (!pW) false e0 _ hb2 _) ?_; clear M; intro u _ M
     refine tB 33 (some 52) rfl rfl (.bool b2) (by intro W hSw; (go_simp; (try with_reducible rfl))) M ?_
     refine tB 34 (some 53) rfl rfl (.bool b2) (by intro W hSw; (go_simp; (try with_reducible rfl))) M ?_
     cases b2 with
     | false =>
      refine tK 35 (some 54) rfl rfl M ?_
      refine tK 36 (some 55) rfl rfl M ?_
      refine tK 37 (some 56) rfl rfl M ?_
      refine tK 38 (some 57) rfl rfl M ?_
      refine tK 39 (some 58) rfl rfl M ?_
      refine tK 40 (some 59) rfl rfl M ?_
      refine tK 41 (some 60) rfl rfl M ?_
      refine tK 42 (some 61) rfl rfl M ?_
      refine tK 43 (some 62) rfl rfl M ?_
      refine tK 44 (some 63) rfl rfl M ?_
      refine tK 45 (some 64) rfl rfl M ?_
      refine tK 46 (some 65) rfl rfl M ?_
      refine tK 47 (some 66) rfl rfl M ?_
      refine tA 48 (some 67) rfl rfl M ?_
      refine tA 49 (some 68) rfl rfl M ?_
      refine tK 50 (some 69) rfl rfl M ?_
      refine tK 52 (some 71) rfl rfl M ?_
      refine tK 53 (some 72) rfl rfl M ?_
      refine tK 55 (some 74) rfl rfl M ?_
      refine tK 56 (some 75) rfl rfl M ?_
      refine tK 57 (some 76) rfl rfl M ?_
      refine tK 51 (some 70) rfl rfl M ?_
      refine tK 54 (some 73) rfl rfl M ?_
      refine tK 58 (some 77) rfl rfl M ?_
      refine tA 59 (some 78) rfl rfl M ?_
      refine tA 60 (some 79) rfl rfl M ?_
      refine tK 61 (some 80) rfl rfl M ?_
      refine tK 62 (some 81) rfl rfl M ?_
      refine tK 63 (some 82) rfl rfl M ?_
      refine tK 66 (some 85) rfl rfl M ?_
      refine tK 67 (some 86) rfl rfl M ?_
      refine tK 68 (some 87) rfl rfl M ?_
      refine tK 64 (some 83) rfl rfl M ?_
      refine tK 65 (some 84) rfl rfl M ?_
      refine tK 69 (some 88) rfl rfl M ?_
      refine tA 70 (some 89) rfl rfl M ?_
      refine tA 71 (some 2) rfl rfl M ?_
      refine wpAnyH_done (by kernel_rfl) ?_ _
      go_wp2_with fail
      go_ret
      exact ⟨by rw [hR.out]; simp [hb1, hb2], M.b⟩
     | true =>
      refine tB 35 (some 54) rfl rfl (.bool uN) (by intro W hSw; (go_simp; (try with_reducible rfl))) M ?_
      refine tA 36 (some 55) rfl rfl M ?_
      refine tLv 37 (some 56) rfl rfl (fun W h => h.at 0 rfl) (ipG_19 (cellsF_size f fs)) Tryz.underlying3 M ?_
      refine tB 38 (some 57) rfl rfl (.bool n1) (by intro W hSw; (go_simp; (try with_reducible rfl))) M ?_
      refine tB 39 (some 58) rfl rfl (.bool n1) (by intro W hSw; (go_simp; (try with_reducible rfl))) M ?_
      cases n1 with
      | false =>
       refine tK 40 (some 59) rfl rfl M ?_
       refine tK 41 (some 60) rfl rfl M ?_
       refine tK 42 (some 61) rfl rfl M ?_
       refine tA 43 (some 62) rfl rfl M ?_
       refine tA 44 (some 63) rfl rfl M ?_
       refine tLv 45 (some 64) rfl rfl (fun W h => h.at 0 rfl) (ipG_19 (cellsF_size f fs)) Tryz.underlying3 M ?_
       refine tB 46 (some 65) rfl rfl (.bool n0) (by intro W hSw; (go_simp; (try with_reducible rfl))) M ?_
       obtain ⟨b3, hb3⟩ : ∃ b, fitB uN false n0 = b := ⟨_, rfl⟩
       refine tC 47 (some 66) rfl rfl (fun _ hb => M.call hb) (ipFits uN false n0 _ hb3 _) ?_; clear M; intro u _ M
       refine tB 48 (some 67) rfl rfl (.bool b3) (by intro W hSw; (go_simp; (try with_reducible rfl))) M ?_
       refine tB 49 (some 68) rfl rfl (.bool b3) (by intro W hSw; (go_simp; (try with_reducible rfl))) M ?_
       cases b3 with
       | false =>
        refine tK 50 (some 69) rfl rfl M ?_
        refine tK 52 (some 71) rfl rfl M ?_
        refine tK 53 (some 72) rfl rfl M ?_
        refine tK 55 (some 74) rfl rfl M ?_
        refine tK 56 (some 75) rfl rfl M ?_
        refine tK 57 (some 76) rfl rfl M ?_
        refine tK 51 (some 70) rfl rfl M ?_
        refine tK 54 (some 73) rfl rfl M ?_
        refine tK 58 (some 77) rfl rfl M ?_
        refine tA 59 (some 78) rfl rfl M ?_
        refine tA 60 (some 79) rfl rfl M ?_
        refine tK 61 (some 80) rfl rfl M ?_
        refine tK 62 (some 81) rfl rfl M ?_
        refine tK 63 (some 82) rfl rfl M ?_
        refine tK 66 (some 85) rfl rfl M ?_
        refine tK 67 (some 86) rfl rfl M ?_
        refine tK 68 (some 87) rfl rfl M ?_
        refine tK 64 (some 83) rfl rfl M ?_
        refine tK 65 (some 84) rfl rfl M ?_
        refine tK 69 (some 88) rfl rfl M ?_
        refine tA 70 (some 89) rfl rfl M ?_
        refine tA 71 (some 2) rfl rfl M ?_
        refine wpAnyH_done (by kernel_rfl) ?_ _
        go_wp2_with fail
        go_ret
        exact ⟨by rw [hR.out]; simp [hb1, hb2, hb3], M.b⟩
       | true =>
        refine tB 50 (some 69) rfl rfl (.bool uZ) (by intro W hSw; (go_simp; (try with_reducible rfl))) M ?_
        refine tA 52 (some 71) rfl rfl M ?_
        refine tLv 53 (some 72) rfl rfl (fun W h => h.at 0 rfl) (ipG_20 (cellsF_size f fs)) Tryz.underlying3 M ?_
        refine tA 55 (some 74) rfl rfl M ?_
        refine tLv 56 (some 75) rfl rfl (fun W h => h.at 0 rfl) (ipG_20 (cellsF_size f fs)) Tryz.underlying3 M ?_
        refine tB 57 (some 76) rfl rfl (.bool zz) (by intro W hSw; (go_simp; (try with_reducible rfl))) M ?_
        refine tCx 51 (some 70) rfl rfl (fun _ hb => M.call hb) (ipZones _) ?_; clear M; rintro e u ⟨vz, rfl, hIz⟩ hb M
        clear hb
        refine ⟨_, _, rfl, by (simp only [pu, sB, s0, sS]; rfl), ?_⟩
        refine tC 54 (some 73) rfl rfl (fun _ hb => M.call hb) (intsContains vz [1, 2, 4] z _ hcZ _ hIz) ?_; clear M; intro u _ M
        obtain ⟨b4, hb4⟩ : ∃ b, fitB uZ cZ zz = b := ⟨_, rfl⟩
        refine tC 58 (some 77) rfl rfl (fun _ hb => M.call hb) (ipFits uZ cZ zz _ hb4 _) ?_; clear M; intro u _ M
        refine tB 59 (some 78) rfl rfl (.bool b4) (by intro W hSw; (go_simp; (try with_reducible rfl))) M ?_
        refine tB 60 (some 79) rfl rfl (.bool b4) (by intro W hSw; (go_simp; (try with_reducible rfl))) M ?_
        cases b4 with
        | false =>
         refine tK 61 (some 80) rfl rfl M ?_
         refine tK 62 (some 81) rfl rfl M ?_
         refine tK 63 (some 82) rfl rfl M ?_
         refine tK 66 (some 85) rfl rfl M ?_
         refine tK 67 (some 86) rfl rfl M ?_
         refine tK 68 (some 87) rfl rfl M ?_
         refine tK 64 (some 83) rfl rfl M ?_
         refine tK 65 (some 84) rfl rfl M ?_
         refine tK 69 (some 88) rfl rfl M ?_
         refine tA 70 (some 89) rfl rfl M ?_
         refine tA 71 (some 2) rfl rfl M ?_
         refine wpAnyH_done (by kernel_rfl) ?_ _
         go_wp2_with fail
         go_ret
         exact ⟨by rw [hR.out]; simp [hb1, hb2, hb3, hb4], M.b⟩
        | true =>
         refine tB 61 (some 80) rfl rfl (.bool uC) (by intro W hSw; (go_simp; (try with_reducible rfl))) M ?_
         refine tA 62 (some 81) rfl rfl M ?_
         refine tLv 63 (some 82) rfl rfl (fun W h => h.at 0 rfl) (ipG_21 (cellsF_size f fs)) Tryz.underlying3 M ?_
         refine tA 66 (some 85) rfl rfl M ?_
         refine tLv 67 (some 86) rfl rfl (fun W h => h.at 0 rfl) (ipG_21 (cellsF_size f fs)) Tryz.underlying3 M ?_
         refine tB 68 (some 87) rfl rfl (.bool c0) (by intro W hSw; (go_simp; (try with_reducible rfl))) M ?_
         refine tC 64 (some 83) rfl rfl (fun _ hb => M.call hb) (HC.out _ M.b) ?_; clear M; intro u _ M
         refine tB 65 (some 84) rfl rfl (.bool (!cz)) (by intro W hSw; (go_simp; (try simp only [bne, hcn]))) M ?_
         obtain ⟨b5, hb5⟩ : ∃ b, fitB uC (!cz) c0 = b := ⟨_, rfl⟩
         refine tC 69 (some 88) rfl rfl (fun _ hb => M.call hb) (ipFits uC (!cz) c0 _ hb5 _) ?_; clear M; intro u _ M
         refine tB 70 (some 89) rfl rfl (.bool b5) (by intro W hSw; (go_simp; (try with_reducible rfl))) M ?_
         refine tB 71 (some 2) rfl rfl (.bool b5) (by intro W hSw; (go_simp; (try with_reducible rfl))) M ?_
         refine wpAnyH_done (by kernel_rfl) ?_ _
         go_wp2_with fail
         go_ret
         exact ⟨by rw [hR.out]; simp [hb1, hb2, hb3, hb4, hb5], M.b⟩
      | true =>
       refine tA 40 (some 59) rfl rfl M ?_
       refine tLv 41 (some 60) rfl rfl (fun W h => h.at 0 rfl) (ipG_19 (cellsF_size f fs)) Tryz.underlying3 M ?_
       refine tB 42 (some 61) rfl rfl (.bool n2) (by intro W hSw; (go_simp; (try with_reducible rfl))) M ?_
       refine tB 43 (some 62) rfl rfl (.bool n2) (by intro W hSw; (go_simp; (try with_reducible rfl))) M ?_
       refine tA 44 (some 63) rfl rfl M ?_
       refine tLv 45 (some 64) rfl rfl (fun W h => h.at 0 rfl) (ipG_19 (cellsF_size f fs)) Tryz.underlying3 M ?_
       refine tB 46 (some 65) rfl rfl (.bool n0) (by intro W hSw; (go_simp; (try with_reducible rfl))) M ?_
       obtain ⟨b6, hb6⟩ : ∃ b, fitB uN n2 n0 = b := ⟨_, rfl⟩
       refine tC 47 (some 66) rfl rfl (fun _ hb => M.call hb) (ipFits uN n2 n0 _ hb6 _) ?_; clear M; intro u _ M
       refine tB 48 (some 67) rfl rfl (.bool b6) (by intro W hSw; (go_simp; (try with_reducible rfl))) M ?_
       refine tB 49 (some 68) rfl rfl (.bool b6) (by intro W hSw; (go_simp; (try with_reducible rfl))) M ?_
       cases b6 with
       | false =>
        refine tK 50 (some 69) rfl rfl M ?_
        refine tK 52 (some 71) rfl rfl M ?_
        refine tK 53 (some 72) rfl rfl M ?_
        refine tK 55 (some 74) rfl rfl M ?_
        refine tK 56 (some 75) rfl rfl M ?_
        refine tK 57 (some 76) rfl rfl M ?_
        refine tK 51 (some 70) rfl rfl M ?_
        refine tK 54 (some 73) rfl rfl M ?_
        refine tK 58 (some 77) rfl rfl M ?_
        refine tA 59 (some 78) rfl rfl M ?_
        refine tA 60 (some 79) rfl rfl M ?_
        refine tK 61 (some 80) rfl rfl M ?_
        refine tK 62 (some 81) rfl rfl M ?_
        refine tK 63 (some 82) rfl rfl M ?_
        refine tK 66 (some 85) rfl rfl M ?_
        refine tK 67 (some 86) rfl rfl M ?_
        refine tK 68 (some 87) rfl rfl M ?_
        refine tK 64 (some 83) rfl rfl M ?_
        refine tK 65 (some 84) rfl rfl M ?_
        refine tK 69 (some 88) rfl rfl M ?_
        refine tA 70 (some 89) rfl rfl M ?_
        refine tA 71 (some 2) rfl rfl M ?_
        refine wpAnyH_done (by kernel_rfl) ?_ _
        go_wp2_with fail
        go_ret
        exact ⟨by rw [hR.out]; simp [hb1, hb2, hb6], M.b⟩
       | true =>
        refine tB 50 (some 69) rfl rfl (.bool uZ) (by intro W hSw; (go_simp; (try with_reducible rfl))) M ?_
        refine tA 52 (some 71) rfl rfl M ?_
        refine tLv 53 (some 72) rfl rfl (fun W h => h.at 0 rfl) (ipG_20 (cellsF_size f fs)) Tryz.underlying3 M ?_
        refine tA 55 (some 74) rfl rfl M ?_
        refine tLv 56 (some 75) rfl rfl (fun W h => h.at 0 rfl) (ipG_20 (cellsF_size f fs)) Tryz.underlying3 M ?_
        refine tB 57 (some 76) rfl rfl (.bool zz) (by intro W hSw; (go_simp; (try with_reducible rfl))) M ?_
        refine tCx 51 (some 70) rfl rfl (fun _ hb => M.call hb) (ipZones _) ?_; clear M; rintro e u ⟨vz, rfl, hIz⟩ hb M
        clear hb
        refine ⟨_, _, rfl, by (simp only [pu, sB, s0, sS]; rfl), ?_⟩
        refine tC 54 (some 73) rfl rfl (fun _ hb => M.call hb) (intsContains vz [1, 2, 4] z _ hcZ _ hIz) ?_; clear M; intro u _ M
        obtain ⟨b7, hb7⟩ : ∃ b, fitB uZ cZ zz = b := ⟨_, rfl⟩
        refine tC 58 (some 77) rfl rfl (fun _ hb => M.call hb) (ipFits uZ cZ zz _ hb7 _) ?_; clear M; intro u _ M
        refine tB 59 (some 78) rfl rfl (.bool b7) (by intro W hSw; (go_simp; (try with_reducible rfl))) M ?_
        refine tB 60 (some 79) rfl rfl (.bool b7) (by intro W hSw; (go_simp; (try with_reducible rfl))) M ?_
        cases b7 with
        | false =>
         refine tK 61 (some 80) rfl rfl M ?_
         refine tK 62 (some 81) rfl rfl M ?_
         refine tK 63 (some 82) rfl rfl M ?_
         refine tK 66 (some 85) rfl rfl M ?_
         refine tK 67 (some 86) rfl rfl M ?_
         refine tK 68 (some 87) rfl rfl M ?_
         refine tK 64 (some 83) rfl rfl M ?_
         refine tK 65 (some 84) rfl rfl M ?_
         refine tK 69 (some 88) rfl rfl M ?_
         refine tA 70 (some 89) rfl rfl M ?_
         refine tA 71 (some 2) rfl rfl M ?_
         refine wpAnyH_done (by kernel_rfl) ?_ _
         go_wp2_with fail
         go_ret
         exact ⟨by rw [hR.out]; simp [hb1, hb2, hb6, hb7], M.b⟩
        | true =>
         refine tB 61 (some 80) rfl rfl (.bool uC) (by intro W hSw; (go_simp; (try with_reducible rfl))) M ?_
         refine tA 62 (some 81) rfl rfl M ?_
         refine tLv 63 (some 82) rfl rfl (fun W h => h.at 0 rfl) (ipG_21 (cellsF_size f fs)) Tryz.underlying3 M ?_
         refine tA 66 (some 85) rfl rfl M ?_
         refine tLv 67 (some 86) rfl rfl (fun W h => h.at 0 rfl) (ipG_21 (cellsF_size f fs)) Tryz.underlying3 M ?_
         refine tB 68 (some 87) rfl rfl (.bool c0) (by intro W hSw; (go_simp; (try with_reducible rfl))) M ?_
         refine tC 64 (some 83) rfl rfl (fun _ hb => M.call hb) (HC.out _ M.b) ?_; clear M; intro u _ M
         refine tB 65 (some 84) rfl rfl (.bool (!cz)) (by intro W hSw; (go_simp; (try simp only [bne, hcn]))) M ?_
         obtain ⟨b8, hb8⟩ : ∃ b, fitB uC (!cz) c0 = b := ⟨_, rfl⟩
         refine tC 69 (some 88) rfl rfl (fun _ hb => M.call hb) (ipFits uC (!cz) c0 _ hb8 _) ?_; clear M; intro u _ M
         refine tB 70 (some 89) rfl rfl (.bool b8) (by intro W hSw; (go_simp; (try with_reducible rfl))) M ?_
         refine tB 71 (some 2) rfl rfl (.bool b8) (by intro W hSw; (go_simp; (try with_reducible rfl))) M ?_
         refine wpAnyH_done (by kernel_rfl) ?_ _
         go_wp2_with fail
         go_ret
         exact ⟨by rw [hR.out]; simp [hb1, hb2, hb6, hb7, hb8], M.b⟩
    | true =>
     refine tA 23 (some 42) rfl rfl M ?_
     refine tA 24 (some 43) rfl rfl M ?_
     refine tLv 25 (some 44) rfl rfl (fun W h => h.at 0 rfl) (show ((ipG on who (cellsF f fs) d n z c))[2]? = some (.int .i64 f.zone) from (ipG_f 0 _ rfl)) Tryz.underlying3 M ?_
     refine tB 26 (some 45) rfl rfl (.bool z0) (by intro W hSw; (go_simp; (try with_reducible rfl))) M ?_
     refine tB 27 (some 46) rfl rfl (.bool z0) (by intro W hSw; (go_simp; (try with_reducible rfl))) M ?_
     obtain ⟨b9, hb9⟩ : ∃ b, fitB (!pW) z0 e0 = b := ⟨_, rfl⟩
     refine tC 32 (some 51) rfl rfl (fun _ hb => M.call hb) (ipFits (!pW) z0 e0 _ hb9 _) ?_; clear M; intro u _ M
     refine tB 33 (some 52) rfl rfl (.bool b9) (by intro W hSw; (go_simp; (try with_reducible rfl))) M ?_
     refine tB 34 (some 53) rfl rfl (.bool b9) (by intro W hSw; (go_simp; (try with_reducible rfl))) M ?_
     cases b9 with
     | false =>
      refine tK 35 (some 54) rfl rfl M ?_
      refine tK 36 (some 55) rfl rfl M ?_
      refine tK 37 (some 56) rfl rfl M ?_
      refine tK 38 (some 57) rfl rfl M ?_
      refine tK 39 (some 58) rfl rfl M ?_
      refine tK 40 (some 59) rfl rfl M ?_
      refine tK 41 (some 60) rfl rfl M ?_
      refine tK 42 (some 61) rfl rfl M ?_
      refine tK 43 (some 62) rfl rfl M ?_
      refine tK 44 (some 63) rfl rfl M ?_
      refine tK 45 (some 64) rfl rfl M ?_
      refine tK 46 (some 65) rfl rfl M ?_
      refine tK 47 (some 66) rfl rfl M ?_
      refine tA 48 (some 67) rfl rfl M ?_
      refine tA 49 (some 68) rfl rfl M ?_
      refine tK 50 (some 69) rfl rfl M ?_
      refine tK 52 (some 71) rfl rfl M ?_
      refine tK 53 (some 72) rfl rfl M ?_
      refine tK 55 (some 74) rfl rfl M ?_
      refine tK 56 (some 75) rfl rfl M ?_
      refine tK 57 (some 76) rfl rfl M ?_
      refine tK 51 (some 70) rfl rfl M ?_
      refine tK 54 (some 73) rfl rfl M ?_
      refine tK 58 (some 77) rfl rfl M ?_
      refine tA 59 (some 78) rfl rfl M ?_
      refine tA 60 (some 79) rfl rfl M ?_
      refine tK 61 (some 80) rfl rfl M ?_
      refine tK 62 (some 81) rfl rfl M ?_
      refine tK 63 (some 82) rfl rfl M ?_
      refine tK 66 (some 85) rfl rfl M ?_
      refine tK 67 (some 86) rfl rfl M ?_
      refine tK 68 (some 87) rfl rfl M ?_
      refine tK 64 (some 83) rfl rfl M ?_
      refine tK 65 (some 84) rfl rfl M ?_
      refine tK 69 (some 88) rfl rfl M ?_
      refine tA 70 (some 89) rfl rfl M ?_
      refine tA 71 (some 2) rfl rfl M ?_
      refine wpAnyH_done (by kernel_rfl) ?_ _
      go_wp2_with fail
      go_ret
      exact ⟨by rw [hR.out]; simp [hb1, hb9], M.b⟩
     | true =>
      refine tB 35 (some 54) rfl rfl (.bool uN) (by intro W hSw; (go_simp; (try with_reducible rfl))) M ?_
      refine tA 36 (some 55) rfl rfl M ?_
      refine tLv 37 (some 56) rfl rfl (fun W h => h.at 0 rfl) (ipG_19 (cellsF_size f fs)) Tryz.underlying3 M ?_
      refine tB 38 (some 57) rfl rfl (.bool n1) (by intro W hSw; (go_simp; (try with_reducible rfl))) M ?_
      refine tB 39 (some 58) rfl rfl (.bool n1) (by intro W hSw; (go_simp; (try with_reducible rfl))) M ?_
      cases n1 with
      | false =>
       refine tK 40 (some 59) rfl rfl M ?_
       refine tK 41 (some 60) rfl rfl M ?_
       refine tK 42 (some 61) rfl rfl M ?_
       refine tA 43 (some 62) rfl rfl M ?_
       refine tA 44 (some 63) rfl rfl M ?_
       refine tLv 45 (some 64) rfl rfl (fun W h => h.at 0 rfl) (ipG_19 (cellsF_size f fs)) Tryz.underlying3 M ?_
       refine tB 46 (some 65) rfl rfl (.bool n0) (by intro W hSw; (go_simp; (try with_reducible rfl))) M ?_
       obtain ⟨b10, hb10⟩ : ∃ b, fitB uN false n0 = b := ⟨_, rfl⟩
       refine tC 47 (some 66) rfl rfl (fun _ hb => M.call hb) (ipFits uN false n0 _ hb10 _) ?_; clear M; intro u _ M
       refine tB 48 (some 67) rfl rfl (.bool b10) (by intro W hSw; (go_simp; (try with_reducible rfl))) M ?_
       refine tB 49 (some 68) rfl rfl (.bool b10) (by intro W hSw; (go_simp; (try with_reducible rfl))) M ?_
       cases b10 with
       | false =>
        refine tK 50 (some 69) rfl rfl M ?_
        refine tK 52 (some 71) rfl rfl M ?_
        refine tK 53 (some 72) rfl rfl M ?_
        refine tK 55 (some 74) rfl rfl M ?_
        refine tK 56 (some 75) rfl rfl M ?_
        refine tK 57 (some 76) rfl rfl M ?_
        refine tK 51 (some 70) rfl rfl M ?_
        refine tK 54 (some 73) rfl rfl M ?_
        refine tK 58 (some 77) rfl rfl M ?_
        refine tA 59 (some 78) rfl rfl M ?_
        refine tA 60 (some 79) rfl rfl M ?_
        refine tK 61 (some 80) rfl rfl M ?_
        refine tK 62 (some 81) rfl rfl M ?_
        refine tK 63 (some 82) rfl rfl M ?_
        refine tK 66 (some 85) rfl rfl M ?_
        refine tK 67 (some 86) rfl rfl M ?_
        refine tK 68 (some 87) rfl rfl M ?_
        refine tK 64 (some 83) rfl rfl M ?_
        refine tK 65 (some 84) rfl rfl M ?_
        refine tK 69 (some 88) rfl rfl M ?_
        refine tA 70 (some 89) rfl rfl M ?_
        refine tA 71 (some 2) rfl rfl M ?_
        refine wpAnyH_done (by kernel_rfl) ?_ _
        go_wp2_with fail
        go_ret
        exact ⟨by rw [hR.out]; simp [hb1, hb9, hb10], M.b⟩
       | true =>
        refine tB 50 (some 69) rfl rfl (.bool uZ) (by intro W hSw; (go_simp; (try with_reducible rfl))) M ?_
        refine tA 52 (some 71) rfl rfl M ?_
        refine tLv 53 (some 72) rfl rfl (fun W h => h.at 0 rfl) (ipG_20 (cellsF_size f fs)) Tryz.underlying3 M ?_
        refine tA 55 (some 74) rfl rfl M ?_
        refine tLv 56 (some 75) rfl rfl (fun W h => h.at 0 rfl) (ipG_20 (cellsF_size f fs)) Tryz.underlying3 M ?_
        refine tB 57 (some 76) rfl rfl (.bool zz) (by intro W hSw; (go_simp; (try with_reducible rfl))) M ?_
        refine tCx 51 (some 70) rfl rfl (fun _ hb => M.call hb) (ipZones _) ?_; clear M; rintro e u ⟨vz, rfl, hIz⟩ hb M
        clear hb
        refine ⟨_, _, rfl, by (simp only [pu, sB, s0, sS]; rfl), ?_⟩
        refine tC 54 (some 73) rfl rfl (fun _ hb => M.call hb) (intsContains vz [1, 2, 4] z _ hcZ _ hIz) ?_; clear M; intro u _ M
        obtain ⟨b11, hb11⟩ : ∃ b, fitB uZ cZ zz = b := ⟨_, rfl⟩
        refine tC 58 (some 77) rfl rfl (fun _ hb => M.call hb) (ipFits uZ cZ zz _ hb11 _) ?_; clear M; intro u _ M
        refine tB 59 (some 78) rfl rfl (.bool b11) (by intro W hSw; (go_simp; (try with_reducible rfl))) M ?_
        refine tB 60 (some 79) rfl rfl (.bool b11) (by intro W hSw; (go_simp; (try with_reducible rfl))) M ?_
        cases b11 with
        | false =>
         refine tK 61 (some 80) rfl rfl M ?_
         refine tK 62 (some 81) rfl rfl M ?_
         refine tK 63 (some 82) rfl rfl M ?_
         refine tK 66 (some 85) rfl rfl M ?_
         refine tK 67 (some 86) rfl rfl M ?_
         refine tK 68 (some 87) rfl rfl M ?_
         refine tK 64 (some 83) rfl rfl M ?_
         refine tK 65 (some 84) rfl rfl M ?_
         refine tK 69 (some 88) rfl rfl M ?_
         refine tA 70 (some 89) rfl rfl M ?_
         refine tA 71 (some 2) rfl rfl M ?_
         refine wpAnyH_done (by kernel_rfl) ?_ _
         go_wp2_with fail
         go_ret
         exact ⟨by rw [hR.out]; simp [hb1, hb9, hb10, hb11], M.b⟩
        | true =>
         refine tB 61 (some 80) rfl rfl (.bool uC) (by intro W hSw; (go_simp; (try with_reducible rfl))) M ?_
         refine tA 62 (some 81) rfl rfl M ?_
         refine tLv 63 (some 82) rfl rfl (fun W h => h.at 0 rfl) (ipG_21 (cellsF_size f fs)) Tryz.underlying3 M ?_
         refine tA 66 (some 85) rfl rfl M ?_
         refine tLv 67 (some 86) rfl rfl (fun W h => h.at 0 rfl) (ipG_21 (cellsF_size f fs)) Tryz.underlying3 M ?_
         refine tB 68 (some 87) rfl rfl (.bool c0) (by intro W hSw; (go_simp; (try with_reducible rfl))) M ?_
         refine tC 64 (some 83) rfl rfl (fun _ hb => M.call hb) (HC.out _ M.b) ?_; clear M; intro u _ M
         refine tB 65 (some 84) rfl rfl (.bool (!cz)) (by intro W hSw; (go_simp; (try simp only [bne, hcn]))) M ?_
         obtain ⟨b12, hb12⟩ : ∃ b, fitB uC (!cz) c0 = b := ⟨_, rfl⟩
         refine tC 69 (some 88) rfl rfl (fun _ hb => M.call hb) (ipFits uC (!cz) c0 _ hb12 _) ?_; clear M; intro u _ M
         refine tB 70 (some 89) rfl rfl (.bool b12) (by intro W hSw; (go_simp; (try with_reducible rfl))) M ?_
         refine tB 71 (some 2) rfl rfl (.bool b12) (by intro W hSw; (go_simp; (try with_reducible rfl))) M ?_
         refine wpAnyH_done (by kernel_rfl) ?_ _
         go_wp2_with fail
         go_ret
         exact ⟨by rw [hR.out]; simp [hb1, hb9, hb10, hb11, hb12], M.b⟩
      | true =>
       refine tA 40 (some 59) rfl rfl M ?_
       refine tLv 41 (some 60) rfl rfl (fun W h => h.at 0 rfl) (ipG_19 (cellsF_size f fs)) Tryz.underlying3 M ?_
       refine tB 42 (some 61) rfl rfl (.bool n2) (by intro W hSw; (go_simp; (try with_reducible rfl))) M ?_
       refine tB 43 (some 62) rfl rfl (.bool n2) (by intro W hSw; (go_simp; (try with_reducible rfl))) M ?_
       refine tA 44 (some 63) rfl rfl M ?_
       refine tLv 45 (some 64) rfl rfl (fun W h => h.at 0 rfl) (ipG_19 (cellsF_size f fs)) Tryz.underlying3 M ?_
       refine tB 46 (some 65) rfl rfl (.bool n0) (by intro W hSw; (go_simp; (try with_reducible rfl))) M ?_
       obtain ⟨b13, hb13⟩ : ∃ b, fitB uN n2 n0 = b := ⟨_, rfl⟩
       refine tC 47 (some 66) rfl rfl (fun _ hb => M.call hb) (ipFits uN n2 n0 _ hb13 _) ?_; clear M; intro u _ M
       refine tB 48 (some 67) rfl rfl (.bool b13) (by intro W hSw; (go_simp; (try with_reducible rfl))) M ?_
       refine tB 49 (some 68) rfl rfl (.bool b13) (by intro W hSw; (go_simp; (try with_reducible rfl))) M ?_
       cases b13 with
       | false =>
        refine tK 50 (some 69) rfl rfl M ?_
        refine tK 52 (some 71) rfl rfl M ?_
        refine tK 53 (some 72) rfl rfl M ?_
        refine tK 55 (some 74) rfl rfl M ?_
        refine tK 56 (some 75) rfl rfl M ?_
        refine tK 57 (some 76) rfl rfl M ?_
        refine tK 51 (some 70) rfl rfl M ?_
        refine tK 54 (some 73) rfl rfl M ?_
        refine tK 58 (some 77) rfl rfl M ?_
        refine tA 59 (some 78) rfl rfl M ?_
        refine tA 60 (some 79) rfl rfl M ?_
        refine tK 61 (some 80) rfl rfl M ?_
        refine tK 62 (some 81) rfl rfl M ?_
        refine tK 63 (some 82) rfl rfl M ?_
        refine tK 66 (some 85) rfl rfl M ?_
        refine tK 67 (some 86) rfl rfl M ?_
        refine tK 68 (some 87) rfl rfl M ?_
        refine tK 64 (some 83) rfl rfl M ?_
        refine tK 65 (some 84) rfl rfl M ?_
        refine tK 69 (some 88) rfl rfl M ?_
        refine tA 70 (some 89) rfl rfl M ?_
        refine tA 71 (some 2) rfl rfl M ?_
        refine wpAnyH_done (by kernel_rfl) ?_ _
        go_wp2_with fail
        go_ret
        exact ⟨by rw [hR.out]; simp [hb1, hb9, hb13], M.b⟩
       | true =>
        refine tB 50 (some 69) rfl rfl (.bool uZ) (by intro W hSw; (go_simp; (try with_reducible rfl))) M ?_
        refine tA 52 (some 71) rfl rfl M ?_
        refine tLv 53 (some 72) rfl rfl (fun W h => h.at 0 rfl) (ipG_20 (cellsF_size f fs)) Tryz.underlying3 M ?_
        refine tA 55 (some 74) rfl rfl M ?_
        refine tLv 56 (some 75) rfl rfl (fun W h => h.at 0 rfl) (ipG_20 (cellsF_size f fs)) Tryz.underlying3 M ?_
        refine tB 57 (some 76) rfl rfl (.bool zz) (by intro W hSw; (go_simp; (try with_reducible rfl))) M ?_
        refine tCx 51 (some 70) rfl rfl (fun _ hb => M.call hb) (ipZones _) ?_; clear M; rintro e u ⟨vz, rfl, hIz⟩ hb M
        clear hb
        refine ⟨_, _, rfl, by (simp only [pu, sB, s0, sS]; rfl), ?_⟩
        refine tC 54 (some 73) rfl rfl (fun _ hb => M.call hb) (intsContains vz [1, 2, 4] z _ hcZ _ hIz) ?_; clear M; intro u _ M
        obtain ⟨b14, hb14⟩ : ∃ b, fitB uZ cZ zz = b := ⟨_, rfl⟩
        refine tC 58 (some 77) rfl rfl (fun _ hb => M.call hb) (ipFits uZ cZ zz _ hb14 _) ?_; clear M; intro u _ M
        refine tB 59 (some 78) rfl rfl (.bool b14) (by intro W hSw; (go_simp; (try with_reducible rfl))) M ?_
        refine tB 60 (some 79) rfl rfl (.bool b14) (by intro W hSw; (go_simp; (try with_reducible rfl))) M ?_
        cases b14 with
        | false =>
         refine tK 61 (some 80) rfl rfl M ?_
         refine tK 62 (some 81) rfl rfl M ?_
         refine tK 63 (some 82) rfl rfl M ?_
         refine tK 66 (some 85) rfl rfl M ?_
         refine tK 67 (some 86) rfl rfl M ?_
         refine tK 68 (some 87) rfl rfl M ?_
         refine tK 64 (some 83) rfl rfl M ?_
         refine tK 65 (some 84) rfl rfl M ?_
         refine tK 69 (some 88) rfl rfl M ?_
         refine tA 70 (some 89) rfl rfl M ?_
         refine tA 71 (some 2) rfl rfl M ?_
         refine wpAnyH_done (by kernel_rfl) ?_ _
         go_wp2_with fail
         go_ret
         exact ⟨by rw [hR.out]; simp [hb1, hb9, hb13, hb14], M.b⟩
        | true =>
         refine tB 61 (some 80) rfl rfl (.bool uC) (by intro W hSw; (go_simp; (try with_reducible rfl))) M ?_
         refine tA 62 (some 81) rfl rfl M ?_
         refine tLv 63 (some 82) rfl rfl (fun W h => h.at 0 rfl) (ipG_21 (cellsF_size f fs)) Tryz.underlying3 M ?_
         refine tA 66 (some 85) rfl rfl M ?_
         refine tLv 67 (some 86) rfl rfl (fun W h => h.at 0 rfl) (ipG_21 (cellsF_size f fs)) Tryz.underlying3 M ?_
         refine tB 68 (some 87) rfl rfl (.bool c0) (by intro W hSw; (go_simp; (try with_reducible rfl))) M ?_
         refine tC 64 (some 83) rfl rfl (fun _ hb => M.call hb) (HC.out _ M.b) ?_; clear M; intro u _ M
         refine tB 65 (some 84) rfl rfl (.bool (!cz)) (by intro W hSw; (go_simp; (try simp only [bne, hcn]))) M ?_
         obtain ⟨b15, hb15⟩ : ∃ b, fitB uC (!cz) c0 = b := ⟨_, rfl⟩
         refine tC 69 (some 88) rfl rfl (fun _ hb => M.call hb) (ipFits uC (!cz) c0 _ hb15 _) ?_; clear M; intro u _ M
         refine tB 70 (some 89) rfl rfl (.bool b15) (by intro W hSw; (go_simp; (try with_reducible rfl))) M ?_
         refine tB 71 (some 2) rfl rfl (.bool b15) (by intro W hSw; (go_simp; (try with_reducible rfl))) M ?_
         refine wpAnyH_done (by kernel_rfl) ?_ _
         go_wp2_with fail
         go_ret
         exact ⟨by rw [hR.out]; simp [hb1, hb9, hb13, hb14, hb15], M.b⟩
end Go.Proofs.YtkohfomiigcifaaGreatDoor
namespace Go.Proofs.YtkohfomiigcifaaGreatDoor
open Go.RowKit
open Wd (Bs)

/-- what the listed variables give -/
structure EnvI (w : World) : Prop where
  fil : Env w
  ctr : EnvK w
theorem EnvI.below {w w' : World} (h : EnvI w) (hb : Below w.heap.size w w') : EnvI w' := ⟨h.fil.below hb, h.ctr.below hb⟩
theorem ipForm (on who d n z c : Int) (f : Fil.Flt) (fs : ByteArray) (w : World) : Calls Tryz.prog 16 #[.agg (ipG on who (cellsF f fs) d n z c)] w fun e w' => e = .returned (.int .i64 (Ip.formI on who d)) ∧ Below w.heap.size w w' := by
  refine ipFormIn on who d n z c f fs (Ip.formI on who d) (on == 1) (who == 0) (on == 2) (d == 5) w rfl rfl rfl rfl (Lib.hid ?_)
  unfold Ip.formI
  simp
theorem ctr_empty (c : Int) : (Ctr.nameI c).isEmpty = !(decide (0 ≤ c) && decide (c < 3)) := by
  by_cases h : c < 0 ∨ 3 ≤ c
  · rw [Ctr.nameI_out h, show (decide (0 ≤ c) && decide (c < 3)) = false by simp; omega]
    rfl
  · have e : c = ((c.toNat : Nat) : Int) := by omega
    rw [show (decide (0 ≤ c) && decide (c < 3)) = true by simp; omega, e, Ctr.nameI_nat]
    have key : ∀ k, k < 3 → (Ctr.name k).isEmpty = !true := by decide
    exact key _ (by omega)
theorem ipIs (on who d n z c : Int) (f : Fil.Flt) (fs : ByteArray) (hf : f.sub = fs.data.toList) (hs : fs.size ≤ maxLen) (w : World) (hE : EnvI w) :
    Calls Tryz.prog 10 #[.agg (ipG on who (cellsF f fs) d n z c)] w fun e w' => e = .returned (.bool (Ip.okB ⟨on, who, f, d, n, z, c⟩)) ∧ Below w.heap.size w w' := by
  refine ipIsIn on who d n z c f fs (Ip.formI on who d) (Ip.actL (Ip.formI on who d)) ⟨(Tg.whoT who).toArray⟩ ⟨(Ctr.nameI c).toArray⟩ (Ip.okB ⟨on, who, f, d, n, z, c⟩) (decide (d ∈ Ip.actL (Ip.formI on who d))) (decide (z ∈ ([1, 2, 4] : List Int))) (Ip.plW (Ip.formI on who d)) (Ip.uN d) (Ip.uZ d) (Ip.uC d) (!Tg.whoB who) (!(decide (0 ≤ c) && decide (c < 3))) (who == 0) (Fil.validB f) (f.zone == 0) (decide (f = Fil.zero)) (decide (1 ≤ n)) (decide (n ≤ 99)) (n == 0) (z == 0) (c == 0) w
    (Lib.hid fun W _ => ipForm on who d n z c f fs W) (Lib.hid fun W _ => ipUses d W) (Lib.hid fun W _ => ipOf _ W) (Lib.hid fun W _ => ipActs _ W) rfl rfl (Lib.hid fun W _ => tgWho who W) (by rw [Lib.toList_data]; exact Tg.whoT_nil who) rfl (Lib.hid fun W hb => filIs f fs hf hs W (hE.fil.below hb)) rfl (eqF_zero f fs hf) rfl rfl rfl rfl (Lib.hid fun W hb => below_same (counterName c W (hE.ctr.below hb))) (by rw [Lib.toList_data]; exact ctr_empty c) rfl (Lib.hid ?_)
  unfold Ip.okB fitB
  have e : ∀ a b : Int, (a == b) = decide (a = b) := fun a b => by rw [Bool.eq_iff_iff]; simp
  simp only [e, Bool.not_not]
  cases Ip.plW (Ip.formI on who d) <;> rfl
theorem acts_len : ∀ k, k < 9 → (Ip.actN k).length ≤ 8 := by decide
theorem heads19_len : ∀ k, k < 10 → (Ip.headL k).length ≤ 8 := by decide
theorem zones_len : ∀ k, k < 6 → (Ip.zoneN k).length ≤ 11 := by decide
theorem ctr_len (c : Int) : (Ctr.nameI c).length ≤ 6 := by
  by_cases h : c < 0 ∨ 3 ≤ c
  · rw [Ctr.nameI_out h]; decide
  · have e : c = ((c.toNat : Nat) : Int) := by omega
    rw [e, Ctr.nameI_nat]
    have key : ∀ k, k < 3 → (Ctr.name k).length ≤ 6 := by decide
    exact key _ (by omega)
theorem zoneT_len (z : Int) : (Ip.zoneT z).length ≤ 11 := by
  unfold Ip.zoneT
  split
  · exact zones_len _ (by omega)
  · decide
theorem actT_len {d n z c : Int} (hd : 0 ≤ d ∧ d ≤ 8) (h0 : -9223372036854775808 ≤ n) (h1 : n ≤ 9223372036854775807) : (Ip.actT d n z c).length ≤ 100 := by
  have a := zoneT_len z
  have b := acts_len d.toNat (by omega)
  have e := Num.itoa_len h0 h1
  have g := ctr_len c
  unfold Ip.actT
  split
  · omega
  · split <;> split <;> simp <;> omega
theorem ipAct (on who d n z c : Int) (f : Fil.Flt) (fs : ByteArray) (hd : 0 ≤ d ∧ d ≤ 8) (h0 : -9223372036854775808 ≤ n) (h1 : n ≤ 9223372036854775807) (w : World) (hE : EnvI w) :
    Calls Tryz.prog 31 #[.agg (ipG on who (cellsF f fs) d n z c)] w fun e w' => e = .returned (str (Ip.actT d n z c)) ∧ Below w.heap.size w w' := by
  obtain ⟨k, rfl⟩ : ∃ k : Nat, d = (k : Int) := ⟨d.toNat, by omega⟩
  have hk : k < 9 := by omega
  have b := acts_len k hk
  have e := Num.itoa_len h0 h1
  have g := ctr_len c
  refine (ipActIn on who n z c k f fs ⟨(Ip.actN k).toArray⟩ ⟨(Ip.zoneT z).toArray⟩ ⟨(Lib.itoa n).toArray⟩ ⟨(Ctr.nameI c).toArray⟩ _ (Ip.uN k) (Ip.uZ k) (Ip.uC k) w hk (ipActsT_at hk) (Lib.hid fun W _ => ipUses _ W) (Lib.hid fun W _ => ipZone z W) (Lib.hid fun W hb => numText n h0 h1 W (hE.fil.num.below hb)) (Lib.hid fun W hb => below_same (counterName c W (hE.ctr.below hb)))
    (by rw [size_of]; omega) (by rw [size_of]; omega) (by rw [size_of]; omega) (Lib.hid rfl)).mono ?_
  rintro e w1 ⟨rfl, hb⟩
  refine ⟨congrArg Ending.returned (str_of ?_), hb⟩
  unfold Ip.actT
  rw [show ((k : Int)).toNat = k by omega]
  cases Ip.uZ (k : Int) <;> cases Ip.uN (k : Int) <;> cases Ip.uC (k : Int) <;> simp
theorem ipText (on who d n z c : Int) (f : Fil.Flt) (fs : ByteArray) (hf : f.sub = fs.data.toList) (hs : fs.size ≤ maxLen) (w : World) (hE : EnvI w) :
    Calls Tryz.prog 12 #[.agg (ipG on who (cellsF f fs) d n z c)] w fun e w' => e = .returned (str (Ip.textT ⟨on, who, f, d, n, z, c⟩)) ∧ Below w.heap.size w w' := by
  have HI : Hid (∀ W, Below w.heap.size w W → _) := Lib.hid fun W hb => ipIs on who d n z c f fs hf hs W (hE.below hb)
  cases hv : Ip.okB ⟨on, who, f, d, n, z, c⟩ with
  | false =>
    rw [hv] at HI
    refine (ipTextBad on who d n z c f fs w HI).mono ?_
    rintro e w1 ⟨rfl, hb⟩
    exact ⟨by rw [Ip.textT_bad hv]; rfl, hb⟩
  | true =>
    rw [hv] at HI
    have o := Ip.ok_parts hv
    have lo := o.lo
    have hi := o.hi
    have ha := Ip.mem_act o.act
    have nY := o.nY
    have nN := o.nN
    simp only at lo hi ha nY nN
    have hn : 0 ≤ n ∧ n ≤ 99 := by
      cases hN : Ip.uN d with
      | true => have := nY hN; omega
      | false => have := nN hN; omega
    obtain ⟨j, hj⟩ : ∃ j : Nat, Ip.formI on who d = (j : Int) := ⟨(Ip.formI on who d).toNat, by omega⟩
    have hj10 : j < 10 := by omega
    have b := heads19_len j hj10
    have e := partF_len f
    have g := whoT_len who
    have h := actT_len (d := d) (n := n) (z := z) (c := c) (by omega) (by omega) (by omega)
    have HFO : Hid (∀ W, Below w.heap.size w W → _) := Lib.hid fun W _ => ipForm on who d n z c f fs W
    rw [hj] at HFO
    refine (ipTextOk on who d n z c f fs j ⟨(Ip.headL j).toArray⟩ ⟨(Tg.partF f).toArray⟩ ⟨(Tg.whoT who).toArray⟩ ⟨(Ip.actT d n z c).toArray⟩ _ (Ip.plW j) w HI HFO hj10 (ipNamesT_at hj10) (Lib.hid fun W hb => encText f fs hf hs W (hE.fil.below hb)) (Lib.hid fun W _ => ipOf _ W) (Lib.hid fun W _ => tgWho who W) (Lib.hid fun W hb => ipAct on who d n z c f fs (by omega) (by omega) (by omega) W (hE.below hb))
      (by rw [size_of]; omega) (by rw [size_of]; omega) (by rw [size_of]; omega) (by rw [size_of]; omega) (Lib.hid rfl)).mono ?_
    rintro e w1 ⟨rfl, hb⟩
    refine ⟨?_, hb⟩
    rw [Ip.textT_ok hv]
    refine congrArg Ending.returned (str_of ?_)
    unfold Ip.raw Ip.subj
    simp only
    rw [hj, show ((j : Int)).toNat = j by omega]
    cases Ip.plW (j : Int) <;> simp
/-! Parse -/
theorem numN (s : ByteArray) (hs : s.size ≤ 1000000) (w : World) (hE : EnvI w) : Calls Tryz.prog 102 #[.string s] w fun e w' => e = .returned (.tuple #[.int .i64 (Ip.numV s.data.toList), .bool (Num.numberL s.data.toList).isSome]) ∧ Below w.heap.size w w' :=
  numNumber s (by omega) w hE.fil.num
theorem ipRa (F : Int) (s : ByteArray) (hs : s.size ≤ 1000000) (w : World) (hE : EnvI w) :
    Calls Tryz.prog 71 #[.int .i64 F, .string s] w fun e w' => e = .returned (.agg (ipG 0 0 cellsZ (Ip.readA F s.data.toList).d (Ip.readA F s.data.toList).n (Ip.readA F s.data.toList).z (Ip.readA F s.data.toList).c)) ∧ Below w.heap.size w w' := by
  by_cases h3 : F = 3
  · subst h3
    refine (ipRaDies s w).mono ?_
    rintro e w1 ⟨rfl, hb⟩
    exact ⟨by unfold Ip.readA; rw [if_pos rfl], hb⟩
  · have hsl : s.data.toList.length = s.size := Array.length_toList
    obtain ⟨l, hl⟩ : ∃ l, s.data.toList = l := ⟨_, rfl⟩
    rw [hl] at hsl
    have h1 := hd_len l
    have h2 := hd_len (Tg.tl l)
    refine (ipRaIn F s ⟨(Tg.hd l).toArray⟩ ⟨(Tg.tl l).toArray⟩ ⟨(Tg.hd (Tg.tl l)).toArray⟩ ⟨(Tg.tl (Tg.tl l)).toArray⟩ (idx Ip.actsL (Tg.hd l)) (Ip.numV (Tg.hd (Tg.tl l))) (Ctr.kindI (Tg.tl l)) (Ctr.kindI (Tg.tl (Tg.tl l))) (Wd.cut l [32]).2.2 (Wd.cut (Tg.tl l) [32]).2.2 (Num.numberL (Tg.hd (Tg.tl l))).isSome (Ctr.kindB (Tg.tl l)) (Ctr.kindB (Tg.tl (Tg.tl l))) (Ip.uN (idx Ip.actsL (Tg.hd l))) (Ip.uZ (idx Ip.actsL (Tg.hd l))) (Ip.uC (idx Ip.actsL (Tg.hd l))) w (by simpa using h3)
      (Lib.hid fun W _ => ?_) (Lib.hid fun W b _ hk => below_same (wordIndex _ _ _ _ (ipActsT_strs hk))) (Lib.hid fun W _ => ipUses _ W) (Lib.hid fun W _ => cutT ⟨(Tg.tl l).toArray⟩ (by rw [size_of]; omega) W) (Lib.hid fun W hb => numN ⟨(Tg.hd (Tg.tl l)).toArray⟩ (by rw [size_of]; omega) W (hE.below hb))
      (Lib.hid fun W hb => below_same (counterKind ⟨(Tg.tl l).toArray⟩ W (hE.ctr.below hb))) (Lib.hid fun W hb => below_same (counterKind ⟨(Tg.tl (Tg.tl l)).toArray⟩ W (hE.ctr.below hb)))).mono ?_
    · rw [← hl]
      exact cutT s hs W
    · rintro e w1 ⟨rfl, hb⟩
      refine ⟨?_, hb⟩
      rw [hl]
      unfold Ip.readA
      rw [if_neg h3]
      unfold Ip.acOf
      cases Ip.uN (idx Ip.actsL (Tg.hd l)) <;> cases Ip.uC (idx Ip.actsL (Tg.hd l)) <;> rfl
theorem readF_lt {s : Bs} (h : 0 ≤ Ip.readF s) : Ip.readF s < 10 := by
  unfold Ip.readF at *
  have hm := idx_mem.1 h
  obtain ⟨k, hk, e⟩ := List.getElem_of_mem hm
  have hk' : k < 10 := hk
  have e2 : Ip.headL k = Tg.hd s := by
    unfold Ip.headL
    rw [List.getD, List.getElem?_eq_getElem hk]
    exact e
  rw [← e2, Ip.idx_heads k hk']
  omega
theorem readR_short (s : Bs) : (Ip.readR s).f.sub.length ≤ 32 := by
  unfold Ip.readR
  split
  · decide
  · unfold Ip.mkR
    simp only
    split
    · decide
    · exact encV_sub _
theorem ipRead (t : ByteArray) (hs : t.size ≤ 1000000) (w : World) (hE : EnvI w) :
    Calls Tryz.prog 37 #[.string t] w fun e w' => e = .returned (.agg (cellsI (Ip.readR t.data.toList))) ∧ Below w.heap.size w w' := by
  have hsl : t.data.toList.length = t.size := Array.length_toList
  obtain ⟨s, hs0⟩ : ∃ s, t.data.toList = s := ⟨_, rfl⟩
  rw [hs0] at hsl
  have h1 := hd_len s
  have h2 := hd_len (Tg.tl s)
  have HC1 : Hid (∀ W, Below w.heap.size w W → Calls Tryz.prog 69 #[.string t, .string ⟨#[32]⟩] W fun e w' => e = .returned (.tuple #[.string ⟨(Tg.hd s).toArray⟩, .string ⟨(Tg.tl s).toArray⟩, .bool (Wd.cut s [32]).2.2]) ∧ Below W.heap.size W w') := Lib.hid fun W _ => by rw [← hs0]; exact cutT t hs W
  have HC2 : Hid (∀ W, Below w.heap.size w W → _) := Lib.hid fun W _ => cutT ⟨(Tg.tl s).toArray⟩ (by rw [size_of]; omega) W
  rw [hs0]
  by_cases hn : Ip.readF s < 0
  · refine (ipRdNeg t ⟨(Tg.hd s).toArray⟩ ⟨(Tg.tl s).toArray⟩ ⟨(Tg.hd (Tg.tl s)).toArray⟩ ⟨(Tg.tl (Tg.tl s)).toArray⟩ (Ip.readF s) (Wd.cut s [32]).2.2 (Wd.cut (Tg.tl s) [32]).2.2 w HC1 HC2 (Lib.hid fun W b _ hk => below_same (wordIndex _ _ _ _ (ipNamesT_strs hk))) (decide_eq_true hn)).mono ?_
    rintro e w1 ⟨rfl, hb⟩
    refine ⟨?_, hb⟩
    unfold Ip.readR
    rw [if_pos hn]
    rfl
  · obtain ⟨k, hk⟩ : ∃ k : Nat, Ip.readF s = (k : Int) := ⟨(Ip.readF s).toNat, by omega⟩
    have hk10 : k < 10 := by have := readF_lt (s := s) (by omega); omega
    refine (ipRdIn t ⟨(Tg.hd s).toArray⟩ ⟨(Tg.tl s).toArray⟩ ⟨(Tg.hd (Tg.tl s)).toArray⟩ ⟨(Tg.tl (Tg.tl s)).toArray⟩ k _ _ _ _ (Tg.encE (Tg.hd (Tg.tl s))) (Tg.encV (Tg.hd (Tg.tl s))) (Wd.cut s [32]).2.2 (Wd.cut (Tg.tl s) [32]).2.2 (Ip.plW k) w HC1 HC2 (Lib.hid fun W b _ hk2 => ?_) hk10 (decide_eq_false (by omega)) (Lib.hid fun W hb => ipRa k ⟨(Tg.tl (Tg.tl s)).toArray⟩ (by rw [size_of]; omega) W (hE.below hb)) (Lib.hid fun W _ => ipOf _ W)
      (Lib.hid fun W hb => encParse ⟨(Tg.hd (Tg.tl s)).toArray⟩ (by rw [size_of]; omega) W (hE.fil.below hb))).mono ?_
    · rw [← hk]
      exact below_same (wordIndex _ _ _ _ (ipNamesT_strs hk2))
    · rintro e w1 ⟨rfl, hb⟩
      refine ⟨?_, hb⟩
      unfold Ip.readR
      rw [if_neg hn, hk, show ((k : Int)).toNat = k by omega]
      unfold Ip.mkR cellsI
      simp only
      cases Ip.plW (k : Int) <;> rfl
theorem ipIsX (x : Ip.Rd) (h : x.f.sub.length ≤ 1000000) (w : World) (hE : EnvI w) : Calls Tryz.prog 10 #[.agg (cellsI x)] w fun e w' => e = .returned (.bool (Ip.okB x)) ∧ Below w.heap.size w w' :=
  ipIs x.on x.who x.d x.n x.z x.c x.f (fsOf x.f) (fsOf_sub x.f) (by unfold fsOf; rw [size_of]; unfold maxLen; omega) w hE
theorem ipTextX (x : Ip.Rd) (h : x.f.sub.length ≤ 1000000) (w : World) (hE : EnvI w) : Calls Tryz.prog 12 #[.agg (cellsI x)] w fun e w' => e = .returned (str (Ip.textT x)) ∧ Below w.heap.size w w' :=
  ipText x.on x.who x.d x.n x.z x.c x.f (fsOf x.f) (fsOf_sub x.f) (by unfold fsOf; rw [size_of]; unfold maxLen; omega) w hE
theorem ipParse (t : ByteArray) (hs : t.size ≤ 1000000) (w : World) (hE : EnvI w) :
    Calls Tryz.prog 14 #[.string t] w fun e w' => e = .returned (.tuple #[.agg (cellsI (Ip.pV t.data.toList)), .int .i64 (Ip.pE t.data.toList)]) ∧ Below w.heap.size w w' := by
  obtain ⟨x, hx⟩ : ∃ x, Ip.readR t.data.toList = x := ⟨_, rfl⟩
  have hl := readR_short t.data.toList
  rw [hx] at hl
  have HR : Hid (∀ W, Below w.heap.size w W → _) := Lib.hid fun W hb => ipRead t hs W (hE.below hb)
  obtain ⟨u, hu, eu⟩ := exists_bytes (Ip.textT x)
  rw [hx] at HR
  have HT : Hid (∀ W, Below w.heap.size w W → _) := Lib.hid fun W hb => ipTextX x (by omega) W (hE.below hb)
  rw [eu] at HT
  have HI : Hid (∀ W, Below w.heap.size w W → _) := Lib.hid fun W hb => ipIsX x (by omega) W (hE.below hb)
  refine (ipPaIn t u x.on x.who x.d x.n x.z x.c x.f (fsOf x.f) (Ip.okB x) (Ip.textT x == t.data.toList) w HR HI HT (by rw [Lib.toList_data, Lib.toList_data, hu])).mono ?_
  rintro e w1 ⟨rfl, hb⟩
  refine ⟨?_, hb⟩
  have hp : (Ip.okB x && (Ip.textT x == t.data.toList)) = Ip.pB t.data.toList := by unfold Ip.pB; rw [hx]
  rw [hp]
  cases hB : Ip.pB t.data.toList with
  | true =>
    rw [if_pos rfl, (Ip.p_yes hB).2.2.1, (Ip.p_yes hB).2.2.2, hx]
    rfl
  | false =>
    rw [if_neg (by decide), (Ip.p_no hB).1, (Ip.p_no hB).2]
    rfl
end Go.Proofs.YtkohfomiigcifaaGreatDoor
namespace Go.Proofs.YtkohfomiigcifaaGreatDoor
open Go.RowKit
open Wd (Bs)

def sFlt : Fil.Flt := { Fil.zero with self := 1 }

set_option maxHeartbeats 8000000 in
set_option maxRecDepth 100000 in
theorem aliveWalkI (w : World)
    (H1 : Hid (∀ W, Below w.heap.size w W → Calls Tryz.prog 14 #[.string ⟨#[104, 117, 114, 116, 32, 121, 111, 117, 32, 112, 114, 101, 118, 101, 110, 116]⟩] W fun e w' => e = .returned (.tuple #[.agg (ipG 1 1 cellsZ 1 0 0 0), .int .i64 0]) ∧ Below W.heap.size W w')) (H2 : Hid (∀ W, Below w.heap.size w W → Calls Tryz.prog 14 #[.string ⟨#[101, 110, 116, 101, 114, 115, 32, 40, 115, 101, 108, 102, 41, 32, 119, 105, 116, 104, 32, 51, 32, 112, 108, 117, 115]⟩] W fun e w' => e = .returned (.tuple #[.agg (ipG 2 0 (cellsF sFlt ⟨#[]⟩) 7 3 0 0), .int .i64 0]) ∧ Below W.heap.size W w')) (H3 : Hid (∀ W, Below w.heap.size w W → Calls Tryz.prog 14 #[.string ⟨#[100, 114, 97, 119, 32, 121, 111, 117, 32, 100, 111, 117, 98, 108, 101]⟩] W fun e w' => e = .returned (.tuple #[.agg (ipG 0 0 cellsZ 0 0 0 0), .int .i64 3]) ∧ Below W.heap.size W w')) (HT : Hid (∀ W, Below w.heap.size w W → Calls Tryz.prog 12 #[.agg (ipG 2 0 (cellsF sFlt ⟨#[]⟩) 7 3 0 0)] W fun e w' => e = .returned (.string ⟨#[101, 110, 116, 101, 114, 115, 32, 40, 115, 101, 108, 102, 41, 32, 119, 105, 116, 104, 32, 51, 32, 112, 108, 117, 115]⟩) ∧ Below W.heap.size W w')) (HI : Hid (∀ W, Below w.heap.size w W → Calls Tryz.prog 10 #[.agg (ipG 0 0 cellsZ 0 0 0 0)] W fun e w' => e = .returned (.bool false) ∧ Below W.heap.size W w')) (hq : ∀ W : World, (Op.equalIn 10000 27 (.agg (ipG 1 1 cellsZ 1 0 0 0)) (.agg (ipG 1 1 cellsZ 1 0 0 0))).run Tryz.prog W = .ok true W) :
    Calls Tryz.prog 9 #[] w fun e w' => e = .returned (.bool true) ∧ Below w.heap.size w w' := by

  have M := Mm.nil w
  go_enter Tryz.func9, Tryz.ntmps9
  go_upto_region 0 with fail
  refine wp_region_lit ?_
  with_reducible refine rA ?_
  go_upto_region 1 with fail
  refine wp_region_lit ?_
  with_reducible refine vC M (H1.out _ M.b) ?_; clear M; intro u M
  with_reducible refine rA ?_
  (with_reducible refine rB (.agg (ipG 1 1 cellsZ 1 0 0 0)) ?_ ?_); (· go_simp; (try with_reducible rfl))
  with_reducible refine rA ?_
  with_reducible refine wA (ipG 0 0 cellsZ 0 0 0 0) M ?_; clear M; intro pB1 u M; refine ⟨_, by (simp only [pu, sB, s0, sS]; rfl), ?_⟩
  with_reducible refine wS 0 M (laid_all (ipG_sz cellsZ_size) (ipG_sz cellsZ_size)) (infoTIp22 (ipG_sz cellsZ_size)) (ipG_one cellsZ_one) (fit_2 (ipG_sz cellsZ_size) (ipG_sz cellsZ_size) (by decide)) ?_; clear M; intro u M
  with_reducible refine rA ?_
  go_upto_region 2 with fail
  refine wp_region_lit ?_
  with_reducible refine vC M (H2.out _ M.b) ?_; clear M; intro u M
  with_reducible refine rA ?_
  (with_reducible refine rB (.agg (ipG 2 0 (cellsF sFlt ⟨#[]⟩) 7 3 0 0)) ?_ ?_); (· go_simp; (try with_reducible rfl))
  with_reducible refine rA ?_
  with_reducible refine wA (ipG 0 0 cellsZ 0 0 0 0) M ?_; clear M; intro pB3 u M; refine ⟨_, by (simp only [pu, sB, s0, sS]; rfl), ?_⟩
  with_reducible refine wS 1 M (laid_all (ipG_sz (cellsF_size _ _)) (ipG_sz cellsZ_size)) (infoTIp22 (ipG_sz (cellsF_size _ _))) (ipG_one (cellsF_one _ _)) (fit_2 (ipG_sz cellsZ_size) (ipG_sz (cellsF_size _ _)) (by decide)) ?_; clear M; intro u M
  with_reducible refine rA ?_
  go_upto_region 3 with fail
  refine wp_region_lit ?_
  with_reducible refine vC M (H3.out _ M.b) ?_; clear M; intro u M
  with_reducible refine rA ?_
  (with_reducible refine rB (.agg (ipG 0 0 cellsZ 0 0 0 0)) ?_ ?_); (· go_simp; (try with_reducible rfl))
  with_reducible refine rA ?_
  with_reducible refine wA (ipG 0 0 cellsZ 0 0 0 0) M ?_; clear M; intro pB5 u M; refine ⟨_, by (simp only [pu, sB, s0, sS]; rfl), ?_⟩
  with_reducible refine wS 2 M (laid_all (ipG_sz cellsZ_size) (ipG_sz cellsZ_size)) (infoTIp22 (ipG_sz cellsZ_size)) (ipG_one cellsZ_one) (fit_2 (ipG_sz cellsZ_size) (ipG_sz cellsZ_size) (by decide)) ?_; clear M; intro u M
  with_reducible refine rA ?_
  go_upto_region 4 with fail
  refine wp_region_lit ?_
  iterate 3 (with_reducible refine rA ?_)
  with_reducible refine wL 0 M whole_part Tryz.underlying27 (infoTIp22 (ipG_sz cellsZ_size)) ?_
  (with_reducible refine rB (.agg (ipG 1 1 cellsZ 1 0 0 0)) ?_ ?_); (· refine run_buildOp _ [(0, .int .i64 1), (1, .int .i64 1), (3, .int .i64 1)] rfl ?_ (builtI_owd 1 1 1); rfl)
  iterate 8 (with_reducible refine rA ?_)
  with_reducible refine wLv 1 M (ipG_18 (cellsF_size _ _)) Tryz.underlying3 ?_
  iterate 4 (with_reducible refine rA ?_)
  with_reducible refine wLv 1 M (ipG_19 (cellsF_size _ _)) Tryz.underlying3 ?_
  iterate 5 (with_reducible refine rA ?_)
  with_reducible refine wLv 1 M (show ((ipG 2 0 (cellsF sFlt ⟨#[]⟩) 7 3 0 0))[4]? = some (.int .i64 1) from (ipG_f 2 _ rfl)) Tryz.underlying3 ?_
  iterate 7 (with_reducible refine rA ?_)
  with_reducible refine wL 1 M whole_part Tryz.underlying27 (infoTIp22 (ipG_sz (cellsF_size _ _))) ?_
  with_reducible refine vC M (HT.out _ M.b) ?_; clear M; intro u M
  iterate 3 (with_reducible refine rA ?_)
  (with_reducible refine rB (.agg (ipG 0 0 cellsZ 0 0 0 0)) ?_ ?_); (· go_simp; rfl)
  with_reducible refine vC M (HI.out _ M.b) ?_; clear M; intro u M
  iterate 3 (with_reducible refine rA ?_)
  go_wp2_with fail
  go_ret
  exact ⟨rfl, M.b⟩
end Go.Proofs.YtkohfomiigcifaaGreatDoor
namespace Go.Proofs.YtkohfomiigcifaaGreatDoor
open Go.RowKit
open Wd (Bs)

theorem valid_sFlt : Fil.validB sFlt = true := by
  unfold Fil.validB
  rw [show Fil.subB sFlt.sub = true from sub_nil]
  decide +kernel
theorem text_sFlt : Fil.textF sFlt = [115, 101, 108, 102] := by
  rw [Fil.textF_valid valid_sFlt]
  decide +kernel
theorem iok1 : Ip.okB ⟨1, 1, Fil.zero, 1, 0, 0, 0⟩ = true := by
  unfold Ip.okB
  rfl
theorem iok2 : Ip.okB ⟨2, 0, sFlt, 7, 3, 0, 0⟩ = true := by
  unfold Ip.okB
  simp only
  rw [valid_sFlt]
  rfl
theorem iok0 : Ip.okB ⟨0, 0, Fil.zero, 0, 0, 0, 0⟩ = false := by
  unfold Ip.okB
  rfl
theorem itext1 : Ip.textT ⟨1, 1, Fil.zero, 1, 0, 0, 0⟩ = [104, 117, 114, 116, 32, 121, 111, 117, 32, 112, 114, 101, 118, 101, 110, 116] := by
  rw [Ip.textT_ok iok1]
  rfl
theorem itext2 : Ip.textT ⟨2, 0, sFlt, 7, 3, 0, 0⟩ = [101, 110, 116, 101, 114, 115, 32, 40, 115, 101, 108, 102, 41, 32, 119, 105, 116, 104, 32, 51, 32, 112, 108, 117, 115] := by
  rw [Ip.textT_ok iok2]
  unfold Ip.raw Ip.subj Tg.partF
  simp only
  rw [valid_sFlt, text_sFlt]
  decide +kernel
theorem iread3 : Ip.readR [100, 114, 97, 119, 32, 121, 111, 117, 32, 100, 111, 117, 98, 108, 101] = ⟨3, 1, Fil.zero, 3, 0, 0, 0⟩ := by kernel_rfl
theorem ino3 : Ip.pB [100, 114, 97, 119, 32, 121, 111, 117, 32, 100, 111, 117, 98, 108, 101] = false := by
  unfold Ip.pB
  rw [iread3, show Ip.okB ⟨3, 1, Fil.zero, 3, 0, 0, 0⟩ = false by unfold Ip.okB; rfl]
  rfl
theorem ipAlive (w : World) (hE : EnvI w) : Calls Tryz.prog 9 #[] w fun e w' => e = .returned (.bool true) ∧ Below w.heap.size w w' := by
  have P1 := Ip.p_text iok1
  rw [itext1] at P1
  have P2 := Ip.p_text iok2
  rw [itext2] at P2
  have P3 := Ip.p_no ino3
  refine aliveWalkI w (Lib.hid fun W hb => ?_) (Lib.hid fun W hb => ?_) (Lib.hid fun W hb => ?_) (Lib.hid fun W hb => ?_) (Lib.hid fun W hb => ?_) (fun W => run_eq_ipS 1 1 1 0 0 0 Fil.zero ⟨#[]⟩ rfl W)
  · have h := ipParse ⟨#[104, 117, 114, 116, 32, 121, 111, 117, 32, 112, 114, 101, 118, 101, 110, 116]⟩ (by decide) W (hE.below hb)
    rw [P1.1, P1.2] at h
    exact h
  · have h := ipParse ⟨#[101, 110, 116, 101, 114, 115, 32, 40, 115, 101, 108, 102, 41, 32, 119, 105, 116, 104, 32, 51, 32, 112, 108, 117, 115]⟩ (by decide) W (hE.below hb)
    rw [P2.1, P2.2] at h
    exact h
  · have h := ipParse ⟨#[100, 114, 97, 119, 32, 121, 111, 117, 32, 100, 111, 117, 98, 108, 101]⟩ (by decide) W (hE.below hb)
    rw [P3.1, P3.2] at h
    exact h
  · have h := ipText 2 0 7 3 0 0 sFlt ⟨#[]⟩ rfl (by decide) W (hE.below hb)
    rw [itext2] at h
    exact h
  · have h := ipIs 0 0 0 0 0 0 Fil.zero ⟨#[]⟩ rfl (by decide) W (hE.below hb)
    rw [iok0] at h
    exact h
end Go.Proofs.YtkohfomiigcifaaGreatDoor
