/-
  MERGED: FWordI, TgTab, TgIsW, TgTxW, TgRdW, TgProg, TgAlvW, TgAlive. By an AI agent.
-/
import Derived.Test.YtfliogahkfimbaaGreatDoorFWord
import Derived.Test.YtfliogahkfimbaaGreatDoorShelfI
import Derived.Test.YtfliogahkfimbaaGreatDoorTgGA
import Derived.Deep.Cut
namespace Go.Proofs.YtfliogahkfimbaaGreatDoor
open Go.RowKit
open Wd (Bs)

set_option maxRecDepth 100000 in
theorem wordIndex (v : Value) (l : List Bs) (s : ByteArray) (w : World) (hv : Strs w v l) :
    Calls Tryz.prog 51 #[v, .string s] w fun e w' => e = .returned (.int .i64 (idx l s.data.toList)) ∧ w = w' := by
  rcases hv.shape with ⟨b, k, rfl, rfl⟩ | ⟨b, o, k, rfl, p, q, n1, m1, d⟩
  · go_enter Tryz.func51, Tryz.ntmps51
    go_wp2_with fail
    refine (Tryz.slices_Index_string_empty _ _ _ _).mono ?_
    rintro e w1 ⟨rfl, rfl⟩
    go_wp2_with fail
    go_ret
    exact ⟨rfl, rfl⟩
  · unfold maxLen at m1
    have D := Lib.hid d
    clear d hv
    go_enter Tryz.func51, Tryz.ntmps51
    go_wp2_with fail
    refine (Tryz.slices_Index_string b o l.length k (l.map ba) s _ (by simp) (by omega) (fun j hj => ?_)).mono ?_
    · have hj' : j < l.length := by simpa using hj
      rw [ba_getD l j hj']
      exact D.out j l[j] (List.getElem?_eq_getElem hj')
    rintro e w1 ⟨rfl, rfl⟩
    go_wp2_with fail
    go_ret
    exact ⟨ret_int (by rw [List.take_of_length_le (by simp)]; rfl), rfl⟩
end Go.Proofs.YtfliogahkfimbaaGreatDoor
namespace Go.Proofs.YtfliogahkfimbaaGreatDoor
open Go.RowKit
open Wd (Bs)

def namesT : Array Value := #[str [], str [101, 110, 116, 101, 114, 115], str [108, 101, 97, 118, 101, 115], str [100, 105, 101, 115], str [97, 116, 116, 97, 99, 107, 115], str [98, 108, 111, 99, 107, 115], str [100, 101, 97, 108, 115], str [100, 101, 97, 108, 116], str [100, 114, 97, 119, 115], str [99, 97, 115, 116, 115], str [117, 112, 107, 101, 101, 112], str [101, 110, 100], str [103, 97, 105, 110, 115], str [108, 111, 115, 101, 115], str [112, 108, 97, 99, 101, 100]]
theorem namesT_at {k : Nat} (hk : k < 15) : namesT[k]? = some (.string ⟨(Tg.headL k).toArray⟩) := by
  have h : namesT = (Tg.headsL.map str).toArray := rfl
  have hl : k < Tg.headsL.length := hk
  rw [h, List.getElem?_toArray, List.getElem?_map, List.getElem?_eq_getElem hl]
  unfold Tg.headL
  rw [List.getD, List.getElem?_eq_getElem hl]
  rfl

def playersT : Array Value := #[str [97, 110, 121], str [121, 111, 117], str [111, 112, 112, 111, 110, 101, 110, 116, 115]]
theorem playersT_at {k : Nat} (hk : k < 3) : playersT[k]? = some (.string ⟨(Tg.whoL k).toArray⟩) := by
  have h : playersT = (Tg.playersL.map str).toArray := rfl
  have hl : k < Tg.playersL.length := hk
  rw [h, List.getElem?_toArray, List.getElem?_map, List.getElem?_eq_getElem hl]
  unfold Tg.whoL
  rw [List.getD, List.getElem?_eq_getElem hl]
  rfl

set_option maxRecDepth 100000 in
theorem tgNames (w : World) : Calls Tryz.prog 25 #[] w fun e w' => (∃ b, e = .returned (.slice (some ⟨b, 0, none⟩) 15 15) ∧ Blk w' b namesT 9 ∧ w.heap.size ≤ b) ∧ Below w.heap.size w w' := by
  go_enter Tryz.func25, Tryz.ntmps25
  go_wp2_with fail
  go_ret
  exact ⟨⟨_, rfl, Blk.new _ _ _, Nat.le_refl _⟩, (Below.refl _ _).alloc (Nat.le_refl _) _⟩

set_option maxRecDepth 100000 in
theorem tgPlayers (w : World) : Calls Tryz.prog 24 #[] w fun e w' => (∃ b, e = .returned (.slice (some ⟨b, 0, none⟩) 3 3) ∧ Blk w' b playersT 9 ∧ w.heap.size ≤ b) ∧ Below w.heap.size w w' := by
  go_enter Tryz.func24, Tryz.ntmps24
  go_wp2_with fail
  go_ret
  exact ⟨⟨_, rfl, Blk.new _ _ _, Nat.le_refl _⟩, (Below.refl _ _).alloc (Nat.le_refl _) _⟩

theorem namesT_strs {w : World} {b : Nat} (h : Blk w b namesT 9) : Strs w (.slice (some ⟨b, 0, none⟩) 15 15) Tg.headsL := by
  refine Strs.of_cells (l := Tg.headsL) (by decide) (by decide) h.lt ?_
  intro i x hx
  rw [h.cell, Nat.zero_add]
  have he : namesT = (Tg.headsL.map str).toArray := rfl
  rw [he, List.getElem?_toArray, List.getElem?_map, hx]
  rfl

theorem playersT_strs {w : World} {b : Nat} (h : Blk w b playersT 9) : Strs w (.slice (some ⟨b, 0, none⟩) 3 3) Tg.playersL := by
  refine Strs.of_cells (l := Tg.playersL) (by decide) (by decide) h.lt ?_
  intro i x hx
  rw [h.cell, Nat.zero_add]
  have he : playersT = (Tg.playersL.map str).toArray := rfl
  rw [he, List.getElem?_toArray, List.getElem?_map, hx]
  rfl

set_option maxHeartbeats 8000000 in
set_option maxRecDepth 100000 in
theorem tgUses (k : Int) (w : World) : Calls Tryz.prog 17 #[.int .i64 k] w fun e w' => e = .returned (.tuple #[.bool (Tg.usesW k), .bool (Tg.usesF k)]) ∧ Below w.heap.size w w' := by
  by_cases h : k = 9 ∨ k = 1 ∨ k = 2 ∨ k = 3 ∨ k = 4 ∨ k = 5 ∨ k = 6 ∨ k = 7 ∨ k = 14 ∨ k = 8 ∨ k = 10 ∨ k = 11 ∨ k = 12 ∨ k = 13
  · rcases h with rfl | rfl | rfl | rfl | rfl | rfl | rfl | rfl | rfl | rfl | rfl | rfl | rfl | rfl
    all_goals (
      go_enter Tryz.func17, Tryz.ntmps17
      go_wp2_with fail
      go_ret2
      exact ⟨rfl, Below.refl _ _⟩)
  · obtain ⟨R, hR⟩ : ∃ R : Value, (.tuple #[.bool (Tg.usesW k), .bool (Tg.usesF k)]) = R := ⟨_, rfl⟩
    have HR : Hid (((.tuple #[.bool false, .bool false]) : Value) = R) := Lib.hid (by rw [← hR]; unfold Tg.usesW Tg.usesF; rw [decide_eq_false (show ¬ (8 ≤ k ∧ k ≤ 13) by omega), decide_eq_false (show ¬ (1 ≤ k ∧ k ≤ 7 ∨ k = 9 ∨ k = 14) by omega)])
    rw [hR]
    clear hR
    have n9 : (k == 9) = false := by simp; omega
    have n1 : (k == 1) = false := by simp; omega
    have n2 : (k == 2) = false := by simp; omega
    have n3 : (k == 3) = false := by simp; omega
    have n4 : (k == 4) = false := by simp; omega
    have n5 : (k == 5) = false := by simp; omega
    have n6 : (k == 6) = false := by simp; omega
    have n7 : (k == 7) = false := by simp; omega
    have n14 : (k == 14) = false := by simp; omega
    have n8 : (k == 8) = false := by simp; omega
    have n10 : (k == 10) = false := by simp; omega
    have n11 : (k == 11) = false := by simp; omega
    have n12 : (k == 12) = false := by simp; omega
    have n13 : (k == 13) = false := by simp; omega
    clear h
    go_enter Tryz.func17, Tryz.ntmps17
    go_wp2_with fail
    go_ret2
    exact ⟨by rw [← HR.out]; rfl, Below.refl _ _⟩

set_option maxHeartbeats 8000000 in
set_option maxRecDepth 100000 in
theorem tgZone (k : Int) (w : World) : Calls Tryz.prog 19 #[.int .i64 k] w fun e w' => e = .returned (.int .i64 (Tg.zoneK k)) ∧ Below w.heap.size w w' := by
  by_cases h : k = 9
  · rcases h with rfl
    all_goals (
      go_enter Tryz.func19, Tryz.ntmps19
      go_wp2_with fail
      go_ret
      exact ⟨rfl, Below.refl _ _⟩)
  · obtain ⟨R, hR⟩ : ∃ R : Value, (.int .i64 (Tg.zoneK k)) = R := ⟨_, rfl⟩
    have HR : Hid (((.int .i64 0) : Value) = R) := Lib.hid (by rw [← hR]; unfold Tg.zoneK; rw [if_neg h])
    rw [hR]
    clear hR
    have n9 : (k == 9) = false := by simp; omega
    clear h
    go_enter Tryz.func19, Tryz.ntmps19
    go_wp2_with fail
    go_ret
    exact ⟨by rw [← HR.out]; rfl, Below.refl _ _⟩

set_option maxHeartbeats 8000000 in
set_option maxRecDepth 100000 in
theorem tgWho (n : Int) (w : World) : Calls Tryz.prog 11 #[.int .i64 n] w fun e w' => e = .returned (str (Tg.whoT n)) ∧ Below w.heap.size w w' := by
  by_cases h : 0 ≤ n ∧ n ≤ 2
  · obtain ⟨j, rfl⟩ : ∃ j : Nat, n = (j : Int) := ⟨n.toNat, by omega⟩
    have hj : j < 3 := by omega
    have e : Tg.whoT (j : Int) = Tg.whoL j := by
      unfold Tg.whoT Tg.whoB
      rw [decide_eq_true h, if_pos rfl]
      rfl
    rw [e]
    have h1 : decide ((j : Int) < 0) = false := decide_eq_false (by omega)
    have h2 : decide ((3 : Int) ≤ (j : Int)) = false := decide_eq_false (by omega)
    have h3 : ¬ (j : Int) < 0 := by omega
    have h4 : (j : Int) < 3 := by omega
    have h0 : (0 : Int) ≤ (j : Int) := by omega
    clear h
    go_enter Tryz.func11, Tryz.ntmps11
    go_wp2_with fail
    refine (tgPlayers _).mono ?_
    rintro e w1 ⟨⟨b, rfl, hb1, -⟩, hb⟩
    go_wp2_with fail
    refine (tgPlayers _).mono ?_
    rintro e w2 ⟨⟨b2, rfl, hb2, -⟩, hb3⟩
    have hc := (hb2.cell j).trans (playersT_at hj)
    go_wp2_with fail
    go_ret
    exact ⟨rfl, hb.trans (hb3.mono hb.size)⟩
  · have e : Tg.whoT n = [] := by
      unfold Tg.whoT Tg.whoB
      rw [decide_eq_false h, if_neg (by decide)]
    rw [e]
    by_cases hn : n < 0
    · have h1 : decide (n < 0) = true := decide_eq_true (by omega)
      clear h
      go_enter Tryz.func11, Tryz.ntmps11
      go_wp2_with fail
      go_ret
      exact ⟨rfl, Below.refl _ _⟩
    · have h1 : decide (n < 0) = false := decide_eq_false (by omega)
      have h2 : decide (3 ≤ n) = true := decide_eq_true (by omega)
      have h3 : (3 : Int) ≤ n := by omega
      clear h
      go_enter Tryz.func11, Tryz.ntmps11
      go_wp2_with fail
      refine (tgPlayers _).mono ?_
      rintro e w1 ⟨⟨b, rfl, hb1, -⟩, hb⟩
      go_wp2_with fail
      go_ret
      exact ⟨rfl, hb⟩
end Go.Proofs.YtfliogahkfimbaaGreatDoor
namespace Go.Proofs.YtfliogahkfimbaaGreatDoor
open Go.RowKit
open Wd (Bs)

set_option maxHeartbeats 8000000 in
set_option maxRecDepth 100000 in
theorem tgIsIn (k n : Int) (f : Fil.Flt) (fs : ByteArray) (z : Int) (wt : ByteArray) (R uW uF nz n0 e0 vF zb : Bool) (w : World)
    (HU : Hid (∀ W, Below w.heap.size w W → Calls Tryz.prog 17 #[.int .i64 k] W fun e w' => e = .returned (.tuple #[.bool uW, .bool uF]) ∧ Below W.heap.size W w')) (h0 : (n == 0) = n0) (HE : ∀ W : World, (Op.equalIn 10000 25 (.agg (cellsF f fs)) (.agg cellsZ)).run Tryz.prog W = .ok e0 W) (HW : Hid (∀ W, Below w.heap.size w W → Calls Tryz.prog 11 #[.int .i64 n] W fun e w' => e = .returned (.string wt) ∧ Below W.heap.size W w')) (hwt : wt.toList.isEmpty = nz) (HF : Hid (∀ W, Below w.heap.size w W → Calls Tryz.prog 18 #[.agg (cellsF f fs)] W fun e w' => e = .returned (.bool vF) ∧ Below W.heap.size W w')) (HZ : Hid (∀ W, Below w.heap.size w W → Calls Tryz.prog 19 #[.int .i64 k] W fun e w' => e = .returned (.int .i64 z) ∧ Below W.heap.size W w')) (hz : (f.zone == z) = zb) (hR : Hid (R = ((uW || uF) && ((if uW then !nz else n0) && (if uF then vF && zb else e0))))) :
    Calls Tryz.prog 9 #[.agg (tG k n (cellsF f fs))] w fun e w' => e = .returned (.bool R) ∧ Below w.heap.size w w' := by

  have M := Mm.nil w
  go_enter Tryz.func9, Tryz.ntmps9
  go_upto_region 0 with fail
  refine wp_region_lit ?_
  with_reducible refine wA (tG k n (cellsF f fs)) M ?_; clear M; intro pB1 u M; refine ⟨_, by (simp only [pu, sB, s0, sS]; rfl), ?_⟩
  with_reducible refine rA ?_
  go_upto_region 1 with fail
  refine wp_region_lit ?_
  with_reducible refine rA ?_
  with_reducible refine wLv 0 M tG_0 Tryz.underlying3 ?_
  with_reducible refine wC M (HU.out _ M.b) ?_; clear M; intro u M
  iterate 5 (with_reducible refine rA ?_)
  cases uW with
  | false =>
    go_upto_region 2 with fail
    refine wp_region_lit ?_
    iterate 6 (with_reducible refine rA ?_)
    cases uF with
    | false =>
      go_upto_region 3 with fail
      refine wp_region_lit ?_
      with_reducible refine rA ?_
      go_wp2_with fail
      go_ret
      exact ⟨by rw [hR.out]; rfl, M.b⟩
    | true =>
      go_upto_region 4 with fail
      refine wp_region_held_drew (S := (fun W : World => Kp [(pB1, (tG k n (cellsF f fs)), 27)] W)) (by kernel_rfl) ?_ (fun hHeld => ?_)
      · exact M.drew.k
      refine take_run 0 (some 19) (v := .pointer (some ⟨pB1, 1, none⟩)) rfl rfl (by kernel_rfl) (by kernel_rfl) (by kernel_rfl) (fun _ _ _ h => h) (by rfl) ?_ (by assumption) ?_
      · (intro W hSw; go_simp; (try rfl))
      simp only [pu, sB, s0, sS]
      refine take_loadV 1 (some 20) rfl rfl (by kernel_rfl) (by kernel_rfl) (by kernel_rfl) (fun _ _ _ h => h) (by rfl) (.tmp 19) rfl (b := pB1) (j := 1) (cs := (tG k n (cellsF f fs))) (v := .int .i64 n) (by rfl) (fun W h => h.at 0 rfl) tG_1 Tryz.underlying3 rfl (by assumption) ?_
      simp only [pu, sB, s0, sS]
      refine take_run 2 (some 21) (v := .bool n0) rfl rfl (by kernel_rfl) (by kernel_rfl) (by kernel_rfl) (fun _ _ _ h => h) (by rfl) ?_ (by assumption) ?_
      · (intro W hSw; go_simp; (try with_reducible rfl))
      simp only [pu, sB, s0, sS]
      refine take_run 3 (some 22) (v := .pointer (some ⟨pB1, 2, none⟩)) rfl rfl (by kernel_rfl) (by kernel_rfl) (by kernel_rfl) (fun _ _ _ h => h) (by rfl) ?_ (by assumption) ?_
      · (intro W hSw; go_simp; (try rfl))
      simp only [pu, sB, s0, sS]
      refine take_loadM 4 (some 23) rfl rfl (by kernel_rfl) (by kernel_rfl) (by kernel_rfl) (fun _ _ _ h => h) (by rfl) (.tmp 22) rfl (b := pB1) (o := 2) (cs := (tG k n (cellsF f fs))) (xs := (cellsF f fs)) (by rfl) (fun W h => h.at 0 rfl) (by exact tG_f) Tryz.underlying25 rfl (infoTF16 (cellsF_size f fs)) (by assumption) ?_
      simp only [pu, sB, s0, sS]
      refine take_run 5 (some 24) (v := .agg cellsZ) rfl rfl (by kernel_rfl) (by kernel_rfl) (by kernel_rfl) (fun _ _ _ h => h) (by rfl) ?_ (by assumption) ?_
      · (intro W hSw; go_simp; rfl)
      simp only [pu, sB, s0, sS]
      refine take_run 6 (some 25) (v := .bool e0) rfl rfl (by kernel_rfl) (by kernel_rfl) (by kernel_rfl) (fun _ _ _ h => h) (by rfl) ?_ (by assumption) ?_
      · (intro W hSw; go_simp; (try with_reducible rfl))
      simp only [pu, sB, s0, sS]
      refine take_run 7 (some 5) (v := .bool n0) rfl rfl (by kernel_rfl) (by kernel_rfl) (by kernel_rfl) (fun _ _ _ h => h) (by rfl) ?_ (by assumption) ?_
      · (intro W hSw; go_simp; (try with_reducible rfl))
      simp only [pu, sB, s0, sS]
      refine take_run 8 (some 6) (v := .bool e0) rfl rfl (by kernel_rfl) (by kernel_rfl) (by kernel_rfl) (fun _ _ _ h => h) (by rfl) ?_ (by assumption) ?_
      · (intro W hSw; go_simp; (try with_reducible rfl))
      simp only [pu, sB, s0, sS]
      refine wpAnyH_done (by kernel_rfl) ?_ _
      replace M := M.drew
      generalize World.drew _ = u at M ⊢
      go_upto_region 5 with fail
      refine wp_region_lit ?_
      with_reducible refine rA ?_
      go_upto_region 7 with fail
      refine wp_region_lit ?_
      with_reducible refine rA ?_
      cases vF with
      | false =>
        go_upto_region 8 with fail
        refine wp_region_held_drew (S := (fun W : World => Kp [(pB1, (tG k n (cellsF f fs)), 27)] W)) (by kernel_rfl) ?_ (fun hHeld => ?_)
        · exact M.drew.k
        refine take_run 0 (some 32) (v := .pointer (some ⟨pB1, 2, none⟩)) rfl rfl (by kernel_rfl) (by kernel_rfl) (by kernel_rfl) (fun _ _ _ h => h) (by rfl) ?_ (by assumption) ?_
        · (intro W hSw; go_simp; (try rfl))
        simp only [pu, sB, s0, sS]
        refine take_loadM 1 (some 33) rfl rfl (by kernel_rfl) (by kernel_rfl) (by kernel_rfl) (fun _ _ _ h => h) (by rfl) (.tmp 32) rfl (b := pB1) (o := 2) (cs := (tG k n (cellsF f fs))) (xs := (cellsF f fs)) (by rfl) (fun W h => h.at 0 rfl) (by exact tG_f) Tryz.underlying25 rfl (infoTF16 (cellsF_size f fs)) (by assumption) ?_
        simp only [pu, sB, s0, sS]
        refine wpAnyH_ready (rs := [2]) (by kernel_rfl) (by simp) ?_
        refine AllReadyH.cons rfl (fun K1 hK1 => ?_) AllReadyH.nil
        go_simp
        go_at_call 18
        refine (callBase (C := u.heap.size) (w0 := u) (by go_grown) (Nat.le_refl _) (HF.out _ (M.b.trans (Below.mono ((by go_grown) : Below u.heap.size u _) M.b.size)))).mono ?_
        rintro e wd1 ⟨rfl, hbd1⟩
        go_simp
        refine hK1.out _ _ ?_ (fun hHd1 => ?_)
        · exact (M.k.below hbd1)
        clear hK1 K1 hHeld
        try simp only [pu, sB, s0, sS]
        refine take_run 3 (some 35) (v := .bool false) rfl rfl (by kernel_rfl) (by kernel_rfl) (by kernel_rfl) (fun _ _ _ h => h) (by rfl) ?_ (by assumption) ?_
        · (intro W hSw; (try dsimp only at hSw); first | (go_simp; done) | (go_simp; with_reducible rfl) | (go_simp; simp_all))
        simp only [pu, sB, s0, sS]
        refine take_skip 4 (some 36) rfl rfl (by kernel_rfl) (by kernel_rfl) (by kernel_rfl) (fun _ _ _ h => h) (by rfl) (by assumption) ?_
        simp only [pu, sB, s0, sS]
        refine take_skip 5 (some 37) rfl rfl (by kernel_rfl) (by kernel_rfl) (by kernel_rfl) (fun _ _ _ h => h) (by rfl) (by assumption) ?_
        simp only [pu, sB, s0, sS]
        refine take_skip 6 (some 38) rfl rfl (by kernel_rfl) (by kernel_rfl) (by kernel_rfl) (fun _ _ _ h => h) (by rfl) (by assumption) ?_
        simp only [pu, sB, s0, sS]
        refine take_skip 7 (some 39) rfl rfl (by kernel_rfl) (by kernel_rfl) (by kernel_rfl) (fun _ _ _ h => h) (by rfl) (by assumption) ?_
        simp only [pu, sB, s0, sS]
        refine take_skip 8 (some 40) rfl rfl (by kernel_rfl) (by kernel_rfl) (by kernel_rfl) (fun _ _ _ h => h) (by rfl) (by assumption) ?_
        simp only [pu, sB, s0, sS]
        refine take_skip 9 (some 41) rfl rfl (by kernel_rfl) (by kernel_rfl) (by kernel_rfl) (fun _ _ _ h => h) (by rfl) (by assumption) ?_
        simp only [pu, sB, s0, sS]
        refine take_skip 10 (some 42) rfl rfl (by kernel_rfl) (by kernel_rfl) (by kernel_rfl) (fun _ _ _ h => h) (by rfl) (by assumption) ?_
        simp only [pu, sB, s0, sS]
        refine take_run 11 (some 43) (v := .bool false) rfl rfl (by kernel_rfl) (by kernel_rfl) (by kernel_rfl) (fun _ _ _ h => h) (by rfl) ?_ (by assumption) ?_
        · (intro W hSw; (try dsimp only at hSw); first | (go_simp; done) | (go_simp; with_reducible rfl) | (go_simp; simp_all))
        simp only [pu, sB, s0, sS]
        refine take_run 12 (some 6) (v := .bool false) rfl rfl (by kernel_rfl) (by kernel_rfl) (by kernel_rfl) (fun _ _ _ h => h) (by rfl) ?_ (by assumption) ?_
        · (intro W hSw; (try dsimp only at hSw); first | (go_simp; done) | (go_simp; with_reducible rfl) | (go_simp; simp_all))
        simp only [pu, sB, s0, sS]
        refine wpAnyH_done (by kernel_rfl) ?_ _
        replace M := M.call hbd1
        cases n0 with
        | false =>
          go_upto_region 9 with fail
          refine wp_region_lit ?_
          iterate 2 (with_reducible refine rA ?_)
          with_reducible refine kA ?_
          iterate 2 (with_reducible refine rA ?_)
          go_wp2_with fail
          go_ret
          exact ⟨by rw [hR.out]; rfl, M.b⟩
        | true =>
          go_upto_region 9 with fail
          refine wp_region_lit ?_
          iterate 5 (with_reducible refine rA ?_)
          go_wp2_with fail
          go_ret
          exact ⟨by rw [hR.out]; rfl, M.b⟩
      | true =>
        go_upto_region 8 with fail
        refine wp_region_held_drew (S := (fun W : World => Kp [(pB1, (tG k n (cellsF f fs)), 27)] W)) (by kernel_rfl) ?_ (fun hHeld => ?_)
        · exact M.drew.k
        refine take_run 0 (some 32) (v := .pointer (some ⟨pB1, 2, none⟩)) rfl rfl (by kernel_rfl) (by kernel_rfl) (by kernel_rfl) (fun _ _ _ h => h) (by rfl) ?_ (by assumption) ?_
        · (intro W hSw; go_simp; (try rfl))
        simp only [pu, sB, s0, sS]
        refine take_loadM 1 (some 33) rfl rfl (by kernel_rfl) (by kernel_rfl) (by kernel_rfl) (fun _ _ _ h => h) (by rfl) (.tmp 32) rfl (b := pB1) (o := 2) (cs := (tG k n (cellsF f fs))) (xs := (cellsF f fs)) (by rfl) (fun W h => h.at 0 rfl) (by exact tG_f) Tryz.underlying25 rfl (infoTF16 (cellsF_size f fs)) (by assumption) ?_
        simp only [pu, sB, s0, sS]
        refine wpAnyH_ready (rs := [2]) (by kernel_rfl) (by simp) ?_
        refine AllReadyH.cons rfl (fun K1 hK1 => ?_) AllReadyH.nil
        go_simp
        go_at_call 18
        refine (callBase (C := u.heap.size) (w0 := u) (by go_grown) (Nat.le_refl _) (HF.out _ (M.b.trans (Below.mono ((by go_grown) : Below u.heap.size u _) M.b.size)))).mono ?_
        rintro e wd1 ⟨rfl, hbd1⟩
        go_simp
        refine hK1.out _ _ ?_ (fun hHd1 => ?_)
        · exact (M.k.below hbd1)
        clear hK1 K1 hHeld
        try simp only [pu, sB, s0, sS]
        refine take_run 3 (some 35) (v := .bool true) rfl rfl (by kernel_rfl) (by kernel_rfl) (by kernel_rfl) (fun _ _ _ h => h) (by rfl) ?_ (by assumption) ?_
        · (intro W hSw; (try dsimp only at hSw); first | (go_simp; done) | (go_simp; with_reducible rfl) | (go_simp; simp_all))
        simp only [pu, sB, s0, sS]
        refine take_run 4 (some 36) (v := .pointer (some ⟨pB1, 2, none⟩)) rfl rfl (by kernel_rfl) (by kernel_rfl) (by kernel_rfl) (fun _ _ _ h => h) (by rfl) ?_ (by assumption) ?_
        · (intro W hSw; go_simp; (try rfl))
        simp only [pu, sB, s0, sS]
        refine take_run 5 (some 37) (v := .pointer (some ⟨pB1, 2, none⟩)) rfl rfl (by kernel_rfl) (by kernel_rfl) (by kernel_rfl) (fun _ _ _ h => h) (by rfl) ?_ (by assumption) ?_
        · (intro W hSw; go_simp; (try rfl))
        simp only [pu, sB, s0, sS]
        refine take_loadV 6 (some 38) rfl rfl (by kernel_rfl) (by kernel_rfl) (by kernel_rfl) (fun _ _ _ h => h) (by rfl) (.tmp 37) rfl (b := pB1) (j := 2) (cs := (tG k n (cellsF f fs))) (v := .int .i64 f.zone) (by rfl) (fun W h => h.at 0 rfl) (tG_f 0 _ rfl) Tryz.underlying3 rfl (by assumption) ?_
        simp only [pu, sB, s0, sS]
        refine take_run 7 (some 39) (v := .pointer (some ⟨pB1, 0, none⟩)) rfl rfl (by kernel_rfl) (by kernel_rfl) (by kernel_rfl) (fun _ _ _ h => h) (by rfl) ?_ (by assumption) ?_
        · (intro W hSw; go_simp; (try rfl))
        simp only [pu, sB, s0, sS]
        refine take_loadV 8 (some 40) rfl rfl (by kernel_rfl) (by kernel_rfl) (by kernel_rfl) (fun _ _ _ h => h) (by rfl) (.tmp 39) rfl (b := pB1) (j := 0) (cs := (tG k n (cellsF f fs))) (v := .int .i64 k) (by rfl) (fun W h => h.at 0 rfl) tG_0 Tryz.underlying3 rfl (by assumption) ?_
        simp only [pu, sB, s0, sS]
        refine wpAnyH_ready (rs := [9]) (by kernel_rfl) (by simp) ?_
        refine AllReadyH.cons rfl (fun K2 hK2 => ?_) AllReadyH.nil
        go_simp
        go_at_call 19
        refine (callBase (C := wd1.heap.size) (w0 := wd1) (Below.refl _ _) (Nat.le_refl _) (HZ.out _ (M.b.trans (Below.mono (hbd1 : Below u.heap.size u _) M.b.size)))).mono ?_
        rintro e wd2 ⟨rfl, hbs2⟩
        have hbd2 := hbd1.trans (hbs2.mono hbd1.size)
        go_simp
        refine hK2.out _ _ ?_ (fun hHd2 => ?_)
        · exact (M.k.below hbd2)
        clear hK2 K2 hHd1
        try simp only [pu, sB, s0, sS]
        refine take_run 10 (some 42) (v := .bool zb) rfl rfl (by kernel_rfl) (by kernel_rfl) (by kernel_rfl) (fun _ _ _ h => h) (by rfl) ?_ (by assumption) ?_
        · (intro W hSw; go_simp; (try with_reducible rfl))
        simp only [pu, sB, s0, sS]
        refine take_run 11 (some 43) (v := .bool zb) rfl rfl (by kernel_rfl) (by kernel_rfl) (by kernel_rfl) (fun _ _ _ h => h) (by rfl) ?_ (by assumption) ?_
        · (intro W hSw; go_simp; (try with_reducible rfl))
        simp only [pu, sB, s0, sS]
        refine take_run 12 (some 6) (v := .bool zb) rfl rfl (by kernel_rfl) (by kernel_rfl) (by kernel_rfl) (fun _ _ _ h => h) (by rfl) ?_ (by assumption) ?_
        · (intro W hSw; go_simp; (try with_reducible rfl))
        simp only [pu, sB, s0, sS]
        refine wpAnyH_done (by kernel_rfl) ?_ _
        replace M := M.call hbd2
        cases n0 with
        | false =>
          go_upto_region 9 with fail
          refine wp_region_lit ?_
          iterate 2 (with_reducible refine rA ?_)
          with_reducible refine kA ?_
          iterate 2 (with_reducible refine rA ?_)
          go_wp2_with fail
          go_ret
          exact ⟨by rw [hR.out]; rfl, M.b⟩
        | true =>
          go_upto_region 9 with fail
          refine wp_region_lit ?_
          iterate 5 (with_reducible refine rA ?_)
          go_wp2_with fail
          go_ret
          exact ⟨by rw [hR.out]; rfl, M.b⟩
  | true =>
    go_upto_region 2 with fail
    refine wp_region_lit ?_
    iterate 3 (with_reducible refine rA ?_)
    iterate 2 (with_reducible refine kA ?_)
    with_reducible refine rA ?_
    go_upto_region 4 with fail
    refine wp_region_held_drew (S := (fun W : World => Kp [(pB1, (tG k n (cellsF f fs)), 27)] W)) (by kernel_rfl) ?_ (fun hHeld => ?_)
    · exact M.drew.k
    refine take_run 0 (some 19) (v := .pointer (some ⟨pB1, 1, none⟩)) rfl rfl (by kernel_rfl) (by kernel_rfl) (by kernel_rfl) (fun _ _ _ h => h) (by rfl) ?_ (by assumption) ?_
    · (intro W hSw; go_simp; (try rfl))
    simp only [pu, sB, s0, sS]
    refine take_loadV 1 (some 20) rfl rfl (by kernel_rfl) (by kernel_rfl) (by kernel_rfl) (fun _ _ _ h => h) (by rfl) (.tmp 19) rfl (b := pB1) (j := 1) (cs := (tG k n (cellsF f fs))) (v := .int .i64 n) (by rfl) (fun W h => h.at 0 rfl) tG_1 Tryz.underlying3 rfl (by assumption) ?_
    simp only [pu, sB, s0, sS]
    refine take_run 2 (some 21) (v := .bool n0) rfl rfl (by kernel_rfl) (by kernel_rfl) (by kernel_rfl) (fun _ _ _ h => h) (by rfl) ?_ (by assumption) ?_
    · (intro W hSw; go_simp; (try with_reducible rfl))
    simp only [pu, sB, s0, sS]
    refine take_run 3 (some 22) (v := .pointer (some ⟨pB1, 2, none⟩)) rfl rfl (by kernel_rfl) (by kernel_rfl) (by kernel_rfl) (fun _ _ _ h => h) (by rfl) ?_ (by assumption) ?_
    · (intro W hSw; go_simp; (try rfl))
    simp only [pu, sB, s0, sS]
    refine take_loadM 4 (some 23) rfl rfl (by kernel_rfl) (by kernel_rfl) (by kernel_rfl) (fun _ _ _ h => h) (by rfl) (.tmp 22) rfl (b := pB1) (o := 2) (cs := (tG k n (cellsF f fs))) (xs := (cellsF f fs)) (by rfl) (fun W h => h.at 0 rfl) (by exact tG_f) Tryz.underlying25 rfl (infoTF16 (cellsF_size f fs)) (by assumption) ?_
    simp only [pu, sB, s0, sS]
    refine take_run 5 (some 24) (v := .agg cellsZ) rfl rfl (by kernel_rfl) (by kernel_rfl) (by kernel_rfl) (fun _ _ _ h => h) (by rfl) ?_ (by assumption) ?_
    · (intro W hSw; go_simp; rfl)
    simp only [pu, sB, s0, sS]
    refine take_run 6 (some 25) (v := .bool e0) rfl rfl (by kernel_rfl) (by kernel_rfl) (by kernel_rfl) (fun _ _ _ h => h) (by rfl) ?_ (by assumption) ?_
    · (intro W hSw; go_simp; (try with_reducible rfl))
    simp only [pu, sB, s0, sS]
    refine take_run 7 (some 5) (v := .bool n0) rfl rfl (by kernel_rfl) (by kernel_rfl) (by kernel_rfl) (fun _ _ _ h => h) (by rfl) ?_ (by assumption) ?_
    · (intro W hSw; go_simp; (try with_reducible rfl))
    simp only [pu, sB, s0, sS]
    refine take_run 8 (some 6) (v := .bool e0) rfl rfl (by kernel_rfl) (by kernel_rfl) (by kernel_rfl) (fun _ _ _ h => h) (by rfl) ?_ (by assumption) ?_
    · (intro W hSw; go_simp; (try with_reducible rfl))
    simp only [pu, sB, s0, sS]
    refine wpAnyH_done (by kernel_rfl) ?_ _
    replace M := M.drew
    generalize World.drew _ = u at M ⊢
    go_upto_region 5 with fail
    refine wp_region_lit ?_
    with_reducible refine rA ?_
    go_upto_region 6 with fail
    refine wp_region_lit ?_
    with_reducible refine rA ?_
    with_reducible refine wLv 0 M tG_1 Tryz.underlying3 ?_
    with_reducible refine wC M (HW.out _ M.b) ?_; clear M; intro u M
    iterate 2 (with_reducible refine rA ?_)
    go_upto_region 7 with fail
    refine wp_region_lit ?_
    with_reducible refine rA ?_
    cases uF with
    | false =>
      cases nz with
      | false =>
        go_upto_region 9 with fail
        refine wp_region_lit ?_
        iterate 5 (with_reducible refine rA ?_)
        go_wp2_with fail
        go_ret
        exact ⟨by rw [hR.out]; rfl, M.b⟩
      | true =>
        go_upto_region 9 with fail
        refine wp_region_lit ?_
        iterate 2 (with_reducible refine rA ?_)
        with_reducible refine kA ?_
        iterate 2 (with_reducible refine rA ?_)
        go_wp2_with fail
        go_ret
        exact ⟨by rw [hR.out]; rfl, M.b⟩
    | true =>
      cases vF with
      | false =>
        go_upto_region 8 with fail
        refine wp_region_held_drew (S := (fun W : World => Kp [(pB1, (tG k n (cellsF f fs)), 27)] W)) (by kernel_rfl) ?_ (fun hHeld => ?_)
        · exact M.drew.k
        refine take_run 0 (some 32) (v := .pointer (some ⟨pB1, 2, none⟩)) rfl rfl (by kernel_rfl) (by kernel_rfl) (by kernel_rfl) (fun _ _ _ h => h) (by rfl) ?_ (by assumption) ?_
        · (intro W hSw; go_simp; (try rfl))
        simp only [pu, sB, s0, sS]
        refine take_loadM 1 (some 33) rfl rfl (by kernel_rfl) (by kernel_rfl) (by kernel_rfl) (fun _ _ _ h => h) (by rfl) (.tmp 32) rfl (b := pB1) (o := 2) (cs := (tG k n (cellsF f fs))) (xs := (cellsF f fs)) (by rfl) (fun W h => h.at 0 rfl) (by exact tG_f) Tryz.underlying25 rfl (infoTF16 (cellsF_size f fs)) (by assumption) ?_
        simp only [pu, sB, s0, sS]
        refine wpAnyH_ready (rs := [2]) (by kernel_rfl) (by simp) ?_
        refine AllReadyH.cons rfl (fun K1 hK1 => ?_) AllReadyH.nil
        go_simp
        go_at_call 18
        refine (callBase (C := u.heap.size) (w0 := u) (by go_grown) (Nat.le_refl _) (HF.out _ (M.b.trans (Below.mono ((by go_grown) : Below u.heap.size u _) M.b.size)))).mono ?_
        rintro e wd1 ⟨rfl, hbd1⟩
        go_simp
        refine hK1.out _ _ ?_ (fun hHd1 => ?_)
        · exact (M.k.below hbd1)
        clear hK1 K1 hHeld
        try simp only [pu, sB, s0, sS]
        refine take_run 3 (some 35) (v := .bool false) rfl rfl (by kernel_rfl) (by kernel_rfl) (by kernel_rfl) (fun _ _ _ h => h) (by rfl) ?_ (by assumption) ?_
        · (intro W hSw; (try dsimp only at hSw); first | (go_simp; done) | (go_simp; with_reducible rfl) | (go_simp; simp_all))
        simp only [pu, sB, s0, sS]
        refine take_skip 4 (some 36) rfl rfl (by kernel_rfl) (by kernel_rfl) (by kernel_rfl) (fun _ _ _ h => h) (by rfl) (by assumption) ?_
        simp only [pu, sB, s0, sS]
        refine take_skip 5 (some 37) rfl rfl (by kernel_rfl) (by kernel_rfl) (by kernel_rfl) (fun _ _ _ h => h) (by rfl) (by assumption) ?_
        simp only [pu, sB, s0, sS]
        refine take_skip 6 (some 38) rfl rfl (by kernel_rfl) (by kernel_rfl) (by kernel_rfl) (fun _ _ _ h => h) (by rfl) (by assumption) ?_
        simp only [pu, sB, s0, sS]
        refine take_skip 7 (some 39) rfl rfl (by kernel_rfl) (by kernel_rfl) (by kernel_rfl) (fun _ _ _ h => h) (by rfl) (by assumption) ?_
        simp only [pu, sB, s0, sS]
        refine take_skip 8 (some 40) rfl rfl (by kernel_rfl) (by kernel_rfl) (by kernel_rfl) (fun _ _ _ h => h) (by rfl) (by assumption) ?_
        simp only [pu, sB, s0, sS]
        refine take_skip 9 (some 41) rfl rfl (by kernel_rfl) (by kernel_rfl) (by kernel_rfl) (fun _ _ _ h => h) (by rfl) (by assumption) ?_
        simp only [pu, sB, s0, sS]
        refine take_skip 10 (some 42) rfl rfl (by kernel_rfl) (by kernel_rfl) (by kernel_rfl) (fun _ _ _ h => h) (by rfl) (by assumption) ?_
        simp only [pu, sB, s0, sS]
        refine take_run 11 (some 43) (v := .bool false) rfl rfl (by kernel_rfl) (by kernel_rfl) (by kernel_rfl) (fun _ _ _ h => h) (by rfl) ?_ (by assumption) ?_
        · (intro W hSw; (try dsimp only at hSw); first | (go_simp; done) | (go_simp; with_reducible rfl) | (go_simp; simp_all))
        simp only [pu, sB, s0, sS]
        refine take_run 12 (some 6) (v := .bool false) rfl rfl (by kernel_rfl) (by kernel_rfl) (by kernel_rfl) (fun _ _ _ h => h) (by rfl) ?_ (by assumption) ?_
        · (intro W hSw; (try dsimp only at hSw); first | (go_simp; done) | (go_simp; with_reducible rfl) | (go_simp; simp_all))
        simp only [pu, sB, s0, sS]
        refine wpAnyH_done (by kernel_rfl) ?_ _
        replace M := M.call hbd1
        cases nz with
        | false =>
          go_upto_region 9 with fail
          refine wp_region_lit ?_
          iterate 5 (with_reducible refine rA ?_)
          go_wp2_with fail
          go_ret
          exact ⟨by rw [hR.out]; rfl, M.b⟩
        | true =>
          go_upto_region 9 with fail
          refine wp_region_lit ?_
          iterate 2 (with_reducible refine rA ?_)
          with_reducible refine kA ?_
          iterate 2 (with_reducible refine rA ?_)
          go_wp2_with fail
          go_ret
          exact ⟨by rw [hR.out]; rfl, M.b⟩
      | true =>
        go_upto_region 8 with fail
        refine wp_region_held_drew (S := (fun W : World => Kp [(pB1, (tG k n (cellsF f fs)), 27)] W)) (by kernel_rfl) ?_ (fun hHeld => ?_)
        · exact M.drew.k
        refine take_run 0 (some 32) (v := .pointer (some ⟨pB1, 2, none⟩)) rfl rfl (by kernel_rfl) (by kernel_rfl) (by kernel_rfl) (fun _ _ _ h => h) (by rfl) ?_ (by assumption) ?_
        · (intro W hSw; go_simp; (try rfl))
        simp only [pu, sB, s0, sS]
        refine take_loadM 1 (some 33) rfl rfl (by kernel_rfl) (by kernel_rfl) (by kernel_rfl) (fun _ _ _ h => h) (by rfl) (.tmp 32) rfl (b := pB1) (o := 2) (cs := (tG k n (cellsF f fs))) (xs := (cellsF f fs)) (by rfl) (fun W h => h.at 0 rfl) (by exact tG_f) Tryz.underlying25 rfl (infoTF16 (cellsF_size f fs)) (by assumption) ?_
        simp only [pu, sB, s0, sS]
        refine wpAnyH_ready (rs := [2]) (by kernel_rfl) (by simp) ?_
        refine AllReadyH.cons rfl (fun K1 hK1 => ?_) AllReadyH.nil
        go_simp
        go_at_call 18
        refine (callBase (C := u.heap.size) (w0 := u) (by go_grown) (Nat.le_refl _) (HF.out _ (M.b.trans (Below.mono ((by go_grown) : Below u.heap.size u _) M.b.size)))).mono ?_
        rintro e wd1 ⟨rfl, hbd1⟩
        go_simp
        refine hK1.out _ _ ?_ (fun hHd1 => ?_)
        · exact (M.k.below hbd1)
        clear hK1 K1 hHeld
        try simp only [pu, sB, s0, sS]
        refine take_run 3 (some 35) (v := .bool true) rfl rfl (by kernel_rfl) (by kernel_rfl) (by kernel_rfl) (fun _ _ _ h => h) (by rfl) ?_ (by assumption) ?_
        · (intro W hSw; (try dsimp only at hSw); first | (go_simp; done) | (go_simp; with_reducible rfl) | (go_simp; simp_all))
        simp only [pu, sB, s0, sS]
        refine take_run 4 (some 36) (v := .pointer (some ⟨pB1, 2, none⟩)) rfl rfl (by kernel_rfl) (by kernel_rfl) (by kernel_rfl) (fun _ _ _ h => h) (by rfl) ?_ (by assumption) ?_
        · (intro W hSw; go_simp; (try rfl))
        simp only [pu, sB, s0, sS]
        refine take_run 5 (some 37) (v := .pointer (some ⟨pB1, 2, none⟩)) rfl rfl (by kernel_rfl) (by kernel_rfl) (by kernel_rfl) (fun _ _ _ h => h) (by rfl) ?_ (by assumption) ?_
        · (intro W hSw; go_simp; (try rfl))
        simp only [pu, sB, s0, sS]
        refine take_loadV 6 (some 38) rfl rfl (by kernel_rfl) (by kernel_rfl) (by kernel_rfl) (fun _ _ _ h => h) (by rfl) (.tmp 37) rfl (b := pB1) (j := 2) (cs := (tG k n (cellsF f fs))) (v := .int .i64 f.zone) (by rfl) (fun W h => h.at 0 rfl) (tG_f 0 _ rfl) Tryz.underlying3 rfl (by assumption) ?_
        simp only [pu, sB, s0, sS]
        refine take_run 7 (some 39) (v := .pointer (some ⟨pB1, 0, none⟩)) rfl rfl (by kernel_rfl) (by kernel_rfl) (by kernel_rfl) (fun _ _ _ h => h) (by rfl) ?_ (by assumption) ?_
        · (intro W hSw; go_simp; (try rfl))
        simp only [pu, sB, s0, sS]
        refine take_loadV 8 (some 40) rfl rfl (by kernel_rfl) (by kernel_rfl) (by kernel_rfl) (fun _ _ _ h => h) (by rfl) (.tmp 39) rfl (b := pB1) (j := 0) (cs := (tG k n (cellsF f fs))) (v := .int .i64 k) (by rfl) (fun W h => h.at 0 rfl) tG_0 Tryz.underlying3 rfl (by assumption) ?_
        simp only [pu, sB, s0, sS]
        refine wpAnyH_ready (rs := [9]) (by kernel_rfl) (by simp) ?_
        refine AllReadyH.cons rfl (fun K2 hK2 => ?_) AllReadyH.nil
        go_simp
        go_at_call 19
        refine (callBase (C := wd1.heap.size) (w0 := wd1) (Below.refl _ _) (Nat.le_refl _) (HZ.out _ (M.b.trans (Below.mono (hbd1 : Below u.heap.size u _) M.b.size)))).mono ?_
        rintro e wd2 ⟨rfl, hbs2⟩
        have hbd2 := hbd1.trans (hbs2.mono hbd1.size)
        go_simp
        refine hK2.out _ _ ?_ (fun hHd2 => ?_)
        · exact (M.k.below hbd2)
        clear hK2 K2 hHd1
        try simp only [pu, sB, s0, sS]
        refine take_run 10 (some 42) (v := .bool zb) rfl rfl (by kernel_rfl) (by kernel_rfl) (by kernel_rfl) (fun _ _ _ h => h) (by rfl) ?_ (by assumption) ?_
        · (intro W hSw; go_simp; (try with_reducible rfl))
        simp only [pu, sB, s0, sS]
        refine take_run 11 (some 43) (v := .bool zb) rfl rfl (by kernel_rfl) (by kernel_rfl) (by kernel_rfl) (fun _ _ _ h => h) (by rfl) ?_ (by assumption) ?_
        · (intro W hSw; go_simp; (try with_reducible rfl))
        simp only [pu, sB, s0, sS]
        refine take_run 12 (some 6) (v := .bool zb) rfl rfl (by kernel_rfl) (by kernel_rfl) (by kernel_rfl) (fun _ _ _ h => h) (by rfl) ?_ (by assumption) ?_
        · (intro W hSw; go_simp; (try with_reducible rfl))
        simp only [pu, sB, s0, sS]
        refine wpAnyH_done (by kernel_rfl) ?_ _
        replace M := M.call hbd2
        cases nz with
        | false =>
          go_upto_region 9 with fail
          refine wp_region_lit ?_
          iterate 5 (with_reducible refine rA ?_)
          go_wp2_with fail
          go_ret
          exact ⟨by rw [hR.out]; rfl, M.b⟩
        | true =>
          go_upto_region 9 with fail
          refine wp_region_lit ?_
          iterate 2 (with_reducible refine rA ?_)
          with_reducible refine kA ?_
          iterate 2 (with_reducible refine rA ?_)
          go_wp2_with fail
          go_ret
          exact ⟨by rw [hR.out]; rfl, M.b⟩
end Go.Proofs.YtfliogahkfimbaaGreatDoor
namespace Go.Proofs.YtfliogahkfimbaaGreatDoor
open Go.RowKit
open Wd (Bs)

set_option maxHeartbeats 8000000 in
set_option maxRecDepth 100000 in
theorem tgTextBad (k n : Int) (f : Fil.Flt) (fs : ByteArray) (w : World)
    (HI : Hid (∀ W, Below w.heap.size w W → Calls Tryz.prog 9 #[.agg (tG k n (cellsF f fs))] W fun e w' => e = .returned (.bool false) ∧ Below W.heap.size W w')) :
    Calls Tryz.prog 13 #[.agg (tG k n (cellsF f fs))] w fun e w' => e = .returned (.string ⟨#[]⟩) ∧ Below w.heap.size w w' := by

  have M := Mm.nil w
  go_enter Tryz.func13, Tryz.ntmps13
  go_upto_region 0 with fail
  refine wp_region_lit ?_
  with_reducible refine wA (tG k n (cellsF f fs)) M ?_; clear M; intro pB1 u M; refine ⟨_, by (simp only [pu, sB, s0, sS]; rfl), ?_⟩
  with_reducible refine rA ?_
  go_upto_region 1 with fail
  refine wp_region_lit ?_
  with_reducible refine wL 0 M whole_part Tryz.underlying27 (infoTTg18 (tG_sz (cellsF_size f fs))) ?_
  with_reducible refine wC M (HI.out _ M.b) ?_; clear M; intro u M
  with_reducible refine rA ?_
  go_upto_region 2 with fail
  refine wp_region_lit ?_
  with_reducible refine rA ?_
  go_wp2_with fail
  go_ret
  exact ⟨rfl, M.b⟩

set_option maxHeartbeats 8000000 in
set_option maxRecDepth 100000 in
theorem tgTextOk (j : Nat) (n : Int) (f : Fil.Flt) (fs hd tw te R : ByteArray) (uW uF : Bool) (w : World)
    (HI : Hid (∀ W, Below w.heap.size w W → Calls Tryz.prog 9 #[.agg (tG (j : Int) n (cellsF f fs))] W fun e w' => e = .returned (.bool true) ∧ Below W.heap.size W w')) (h15 : (j : Int) < 15) (h0 : (0 : Int) ≤ (j : Int)) (hh : namesT[j]? = some (.string hd)) (HU : Hid (∀ W, Below w.heap.size w W → Calls Tryz.prog 17 #[.int .i64 (j : Int)] W fun e w' => e = .returned (.tuple #[.bool uW, .bool uF]) ∧ Below W.heap.size W w')) (HW : Hid (∀ W, Below w.heap.size w W → Calls Tryz.prog 11 #[.int .i64 n] W fun e w' => e = .returned (.string tw) ∧ Below W.heap.size W w')) (HE : Hid (∀ W, Below w.heap.size w W → Calls Tryz.prog 26 #[.agg (cellsF f fs)] W fun e w' => e = .returned (.string te) ∧ Below W.heap.size W w')) (hs : hd.size ≤ 1000) (ht : tw.size ≤ 1000) (he : te.size ≤ 1000000) (hR : Hid (R = if uW then (if uF then hd ++ (⟨#[32]⟩ ++ tw) ++ (⟨#[32]⟩ ++ te) else hd ++ (⟨#[32]⟩ ++ tw)) else if uF then hd ++ (⟨#[32]⟩ ++ te) else hd)) :
    Calls Tryz.prog 13 #[.agg (tG (j : Int) n (cellsF f fs))] w fun e w' => e = .returned (.string R) ∧ Below w.heap.size w w' := by

  have M := Mm.nil w
  go_enter Tryz.func13, Tryz.ntmps13
  go_upto_region 0 with fail
  refine wp_region_lit ?_
  with_reducible refine wA (tG (j : Int) n (cellsF f fs)) M ?_; clear M; intro pB1 u M; refine ⟨_, by (simp only [pu, sB, s0, sS]; rfl), ?_⟩
  with_reducible refine rA ?_
  go_upto_region 1 with fail
  refine wp_region_lit ?_
  with_reducible refine wL 0 M whole_part Tryz.underlying27 (infoTTg18 (tG_sz (cellsF_size f fs))) ?_
  with_reducible refine wC M (HI.out _ M.b) ?_; clear M; intro u M
  with_reducible refine rA ?_
  go_upto_region 3 with fail
  refine wp_region_lit ?_
  with_reducible refine rA ?_
  with_reducible refine wLv 0 M tG_0 Tryz.underlying3 ?_
  with_reducible refine wC M (HU.out _ M.b) ?_; clear M; intro u M
  iterate 5 (with_reducible refine rA ?_)
  go_upto_region 4 with fail
  refine wp_region_held_drew (S := (fun W : World => Kp [(pB1, (tG (j : Int) n (cellsF f fs)), 27)] W)) (by kernel_rfl) ?_ (fun hHeld => ?_)
  · exact M.drew.k
  refine take_run 1 (some 16) (v := .pointer (some ⟨pB1, 0, none⟩)) rfl rfl (by kernel_rfl) (by kernel_rfl) (by kernel_rfl) (fun _ _ _ h => h) (by rfl) ?_ (by assumption) ?_
  · (intro W hSw; go_simp; (try rfl))
  simp only [pu, sB, s0, sS]
  refine take_loadV 2 (some 17) rfl rfl (by kernel_rfl) (by kernel_rfl) (by kernel_rfl) (fun _ _ _ h => h) (by rfl) (.tmp 16) rfl (b := pB1) (j := 0) (cs := (tG (j : Int) n (cellsF f fs))) (v := .int .i64 (j : Int)) (by rfl) (fun W h => h.at 0 rfl) tG_0 Tryz.underlying3 rfl (by assumption) ?_
  simp only [pu, sB, s0, sS]
  refine wpAnyH_ready (rs := [0]) (by kernel_rfl) (by simp) ?_
  refine AllReadyH.cons rfl (fun K1 hK1 => ?_) AllReadyH.nil
  go_simp
  go_at_call 25
  refine (callBase (C := u.heap.size) (w0 := u) (by go_grown) (Nat.le_refl _) (tgNames _)).mono ?_
  rintro e wd1 ⟨⟨b, rfl, hbk, -⟩, hbd1⟩
  go_simp
  refine hK1.out _ _ ?_ (fun hHd1 => ?_)
  · exact (M.k.below hbd1)
  clear hK1 K1 hHeld
  have hHd1x : (fun W : World => Kp [(pB1, (tG (j : Int) n (cellsF f fs)), 27)] W ∧ W.cell? ⟨b, j, none⟩ = some (.string hd)) _ := ⟨(M.k.below hbd1), ((hbk.cell j).trans hh)⟩
  refine wpAnyH_more (S' := (fun W : World => Kp [(pB1, (tG (j : Int) n (cellsF f fs)), 27)] W ∧ W.cell? ⟨b, j, none⟩ = some (.string hd))) (fun W h => h.1) _ _ _ _ ?_
  clear hHd1
  try simp only [pu, sB, s0, sS]
  refine take_run 3 (some 18) (v := .pointer (some ⟨b, j, none⟩)) rfl rfl (by kernel_rfl) (by kernel_rfl) (by kernel_rfl) (fun _ _ _ h => h) (by rfl) ?_ (by assumption) ?_
  · (intro W hSw; go_simp; (try rfl))
  simp only [pu, sB, s0, sS]
  refine take_run 4 (some 19) (v := .string hd) rfl rfl (by kernel_rfl) (by kernel_rfl) (by kernel_rfl) (fun _ _ _ h => h) (by rfl) ?_ (by assumption) ?_
  · (intro W hSw; have hc := hSw.2; go_simp; (try with_reducible rfl))
  simp only [pu, sB, s0, sS]
  refine take_run 5 (some 5) (v := ?_) rfl rfl (by kernel_rfl) (by kernel_rfl) (by kernel_rfl) (fun _ _ _ h => h) (by rfl) ?_ (by assumption) ?_
  rotate_left
  · (intro W hSw; (try dsimp only at hSw); go_simp; (try with_reducible rfl))
  simp only [pu, sB, s0, sS]
  refine wpAnyH_done (by kernel_rfl) ?_ _
  replace M := M.call hbd1
  go_upto_region 5 with fail
  refine wp_region_lit ?_
  with_reducible refine rA ?_
  cases uW with
  | false =>
    go_upto_region 7 with fail
    refine wp_region_lit ?_
    with_reducible refine rA ?_
    cases uF with
    | false =>
      go_upto_region 9 with fail
      refine wp_region_lit ?_
      iterate 2 (with_reducible refine rA ?_)
      go_wp2_with fail
      go_ret
      exact ⟨by rw [hR.out]; rfl, M.b⟩
    | true =>
      go_upto_region 8 with fail
      refine wp_region_lit ?_
      iterate 2 (with_reducible refine rA ?_)
      with_reducible refine wL 0 M tG_f Tryz.underlying25 (infoTF16 (cellsF_size f fs)) ?_
      with_reducible refine wC M (HE.out _ M.b) ?_; clear M; intro u M
      (with_reducible refine rB (.string (⟨#[32]⟩ ++ te)) ?_ ?_); (· go_simp; omega)
      (with_reducible refine rB (.string (hd ++ (⟨#[32]⟩ ++ te))) ?_ ?_); (· go_simp; omega)
      with_reducible refine rA ?_
      go_upto_region 9 with fail
      refine wp_region_lit ?_
      iterate 2 (with_reducible refine rA ?_)
      go_wp2_with fail
      go_ret
      exact ⟨by rw [hR.out]; rfl, M.b⟩
  | true =>
    go_upto_region 6 with fail
    refine wp_region_lit ?_
    iterate 2 (with_reducible refine rA ?_)
    with_reducible refine wLv 0 M tG_1 Tryz.underlying3 ?_
    with_reducible refine wC M (HW.out _ M.b) ?_; clear M; intro u M
    (with_reducible refine rB (.string (⟨#[32]⟩ ++ tw)) ?_ ?_); (· go_simp; omega)
    (with_reducible refine rB (.string (hd ++ (⟨#[32]⟩ ++ tw))) ?_ ?_); (· go_simp; omega)
    with_reducible refine rA ?_
    go_upto_region 7 with fail
    refine wp_region_lit ?_
    with_reducible refine rA ?_
    cases uF with
    | false =>
      go_upto_region 9 with fail
      refine wp_region_lit ?_
      iterate 2 (with_reducible refine rA ?_)
      go_wp2_with fail
      go_ret
      exact ⟨by rw [hR.out]; rfl, M.b⟩
    | true =>
      go_upto_region 8 with fail
      refine wp_region_lit ?_
      iterate 2 (with_reducible refine rA ?_)
      with_reducible refine wL 0 M tG_f Tryz.underlying25 (infoTF16 (cellsF_size f fs)) ?_
      with_reducible refine wC M (HE.out _ M.b) ?_; clear M; intro u M
      (with_reducible refine rB (.string (⟨#[32]⟩ ++ te)) ?_ ?_); (· go_simp; omega)
      (with_reducible refine rB (.string ((hd ++ (⟨#[32]⟩ ++ tw)) ++ (⟨#[32]⟩ ++ te))) ?_ ?_); (· go_simp; omega)
      with_reducible refine rA ?_
      go_upto_region 9 with fail
      refine wp_region_lit ?_
      iterate 2 (with_reducible refine rA ?_)
      go_wp2_with fail
      go_ret
      exact ⟨by rw [hR.out]; rfl, M.b⟩

theorem liteCutSuffix (s p : ByteArray) (w : World) (hs : s.size ≤ 1000000000) :
    Calls Tryz.prog 102 #[.string s, .string p] w fun e w' => e = .returned (.tuple #[if Lib.hasSuffix s.data.toList p.data.toList then str (s.data.toList.take (s.data.toList.length - p.data.toList.length)) else .string s, .bool (Lib.hasSuffix s.data.toList p.data.toList)]) ∧ w = w' := by
  have HP := Lib.hid (Tryz.stringslite_HasSuffix s p w (by omega))
  cases h : Lib.hasSuffix s.data.toList p.data.toList with
  | false =>
    have HQ : Hid (Lib.hasSuffix s.data.toList p.data.toList = false) := Lib.hid h
    clear h
    go_enter Tryz.func102, Tryz.ntmps102
    go_wp2_with fail
    refine HP.out.mono ?_
    rw [HQ.out]
    rintro e w1 ⟨rfl, rfl⟩
    go_wp2_with fail
    go_ret2
    exact ⟨rfl, rfl⟩
  | true =>
    have HQ : Hid (Lib.hasSuffix s.data.toList p.data.toList = true) := Lib.hid h
    have hl : p.size ≤ s.size := by
      unfold Lib.hasSuffix at h
      have h2 : p.data.toList.length ≤ s.data.toList.length := by
        exact (List.isSuffixOf_iff_suffix.1 h).length_le
      simpa using h2
    have hl1 : (p.size : Int) ≤ (s.size : Int) := by omega
    have hsub : IntKind.i64.wrap ((s.size : Int) - (p.size : Int)) = ((s.size - p.size : Nat) : Int) := by rw [IntWalk.i64_in _ (by omega)]; omega
    have hle : ((s.size - p.size : Nat) : Int) ≤ (s.size : Int) := by omega
    have hle2 : (0 : Int) ≤ ((s.size - p.size : Nat) : Int) := by omega
    obtain ⟨x, hx⟩ : ∃ x, x = str (s.data.toList.take (s.data.toList.length - p.data.toList.length)) := ⟨_, rfl⟩
    rw [if_pos rfl, ← hx]
    have HD : Hid (Value.string (s.extract 0 (s.size - p.size)) = x) := Lib.hid (by
      rw [hx, show p.data.toList.length = p.size by simp, show s.data.toList.length = s.size by simp, ← extract_take]; rfl)
    clear h hx
    obtain ⟨m, hm⟩ : ∃ m, m = s.size - p.size := ⟨_, rfl⟩
    rw [← hm] at hsub hle hle2 HD
    have hms : m ≤ s.size := by omega
    clear hm
    go_enter Tryz.func102, Tryz.ntmps102
    go_wp2_with fail
    refine HP.out.mono ?_
    rw [HQ.out]
    rintro e w1 ⟨rfl, rfl⟩
    go_wp2_with fail
    go_ret2
    exact ⟨by rw [← HD.out]; rfl, rfl⟩
theorem strCutSuffix (s p : ByteArray) (w : World) (hs : s.size ≤ 1000000000) :
    Calls Tryz.prog 80 #[.string s, .string p] w fun e w' => e = .returned (.tuple #[if Lib.hasSuffix s.data.toList p.data.toList then str (s.data.toList.take (s.data.toList.length - p.data.toList.length)) else .string s, .bool (Lib.hasSuffix s.data.toList p.data.toList)]) ∧ w = w' := by
  have HP := Lib.hid (liteCutSuffix s p w hs)
  generalize (if Lib.hasSuffix s.data.toList p.data.toList then str (s.data.toList.take (s.data.toList.length - p.data.toList.length)) else .string s) = x at *
  generalize Lib.hasSuffix s.data.toList p.data.toList = y at *
  go_enter Tryz.func80, Tryz.ntmps80
  go_wp2_with fail
  refine HP.out.mono ?_
  rintro e w1 ⟨rfl, rfl⟩
  go_wp2_with fail
  go_ret2
  exact ⟨rfl, rfl⟩
theorem cutSuf (s p : ByteArray) (w : World) (hs : s.size ≤ 1000000000) : Calls Tryz.prog 80 #[.string s, .string p] w fun e w' => e = .returned (.tuple #[.string ⟨(if Lib.hasSuffix s.data.toList p.data.toList then s.data.toList.take (s.data.toList.length - p.data.toList.length) else s.data.toList).toArray⟩, .bool (Lib.hasSuffix s.data.toList p.data.toList)]) ∧ Below w.heap.size w w' := by
  refine (below_same (strCutSuffix s p w hs)).mono ?_
  rintro e w1 ⟨rfl, hb⟩
  refine ⟨?_, hb⟩
  split
  · rfl
  · rfl

set_option maxHeartbeats 8000000 in
set_option maxRecDepth 100000 in
theorem encTextIn (f : Fil.Flt) (fs tF : ByteArray) (vF : Bool) (w : World)
    (HF : Hid (∀ W, Below w.heap.size w W → Calls Tryz.prog 18 #[.agg (cellsF f fs)] W fun e w' => e = .returned (.bool vF) ∧ Below W.heap.size W w')) (HT : Hid (∀ W, Below w.heap.size w W → Calls Tryz.prog 38 #[.agg (cellsF f fs)] W fun e w' => e = .returned (.string tF) ∧ Below W.heap.size W w')) (ht : tF.size ≤ 1000000) :
    Calls Tryz.prog 26 #[.agg (cellsF f fs)] w fun e w' => e = .returned (.string (if vF then ⟨#[40]⟩ ++ tF ++ ⟨#[41]⟩ else ⟨#[]⟩)) ∧ Below w.heap.size w w' := by

  have M := Mm.nil w
  go_enter Tryz.func26, Tryz.ntmps26
  go_upto_region 0 with fail
  refine wp_region_lit ?_
  with_reducible refine wA (cellsF f fs) M ?_; clear M; intro pB1 u M; refine ⟨_, by (simp only [pu, sB, s0, sS]; rfl), ?_⟩
  with_reducible refine rA ?_
  go_upto_region 1 with fail
  refine wp_region_lit ?_
  with_reducible refine wL 0 M whole_part Tryz.underlying25 (infoTF16 (cellsF_size f fs)) ?_
  with_reducible refine wC M (HF.out _ M.b) ?_; clear M; intro u M
  with_reducible refine rA ?_
  cases vF with
  | false =>
    go_upto_region 2 with fail
    refine wp_region_lit ?_
    with_reducible refine rA ?_
    go_wp2_with fail
    go_ret
    exact ⟨rfl, M.b⟩
  | true =>
    go_upto_region 3 with fail
    refine wp_region_lit ?_
    with_reducible refine wL 0 M whole_part Tryz.underlying25 (infoTF16 (cellsF_size f fs)) ?_
    with_reducible refine wC M (HT.out _ M.b) ?_; clear M; intro u M
    (with_reducible refine rB (.string (⟨#[40]⟩ ++ tF)) ?_ ?_); (· go_simp; omega)
    (with_reducible refine rB (.string ((⟨#[40]⟩ ++ tF) ++ ⟨#[41]⟩)) ?_ ?_); (· go_simp; omega)
    with_reducible refine rA ?_
    go_wp2_with fail
    go_ret
    exact ⟨rfl, M.b⟩

set_option maxHeartbeats 8000000 in
set_option maxRecDepth 100000 in
theorem encParseIn (t r1 r2 : ByteArray) (b1 b2 : Bool) (f : Fil.Flt) (e2 : Int) (w : World)
    (HP : Hid (∀ W, Below w.heap.size w W → Calls Tryz.prog 79 #[.string t, .string ⟨#[40]⟩] W fun e w' => e = .returned (.tuple #[.string r1, .bool b1]) ∧ Below W.heap.size W w')) (HS : Hid (∀ W, Below w.heap.size w W → Calls Tryz.prog 80 #[.string r1, .string ⟨#[41]⟩] W fun e w' => e = .returned (.tuple #[.string r2, .bool b2]) ∧ Below W.heap.size W w')) (HF : Hid (∀ W, Below w.heap.size w W → Calls Tryz.prog 81 #[.string r2] W fun e w' => e = .returned (.tuple #[.agg (cellsF f (fsOf f)), .int .i64 e2]) ∧ Below W.heap.size W w')) :
    Calls Tryz.prog 52 #[.string t] w fun e w' => e = .returned (if (b1 && b2) = true then .tuple #[.agg (cellsF f (fsOf f)), .int .i64 e2] else .tuple #[.agg cellsZ, .int .i64 3]) ∧ Below w.heap.size w w' := by

  have M := Mm.nil w
  go_enter Tryz.func52, Tryz.ntmps52
  go_upto_region 0 with fail
  refine wp_region_lit ?_
  with_reducible refine wA cellsZ M ?_; clear M; intro pB2 u M; refine ⟨_, by (simp only [pu, sB, s0, sS]; rfl), ?_⟩
  with_reducible refine rA ?_
  go_upto_region 1 with fail
  refine wp_region_lit ?_
  with_reducible refine rA ?_
  with_reducible refine wC M (HP.out _ M.b) ?_; clear M; intro u M
  iterate 5 (with_reducible refine rA ?_)
  go_upto_region 2 with fail
  refine wp_region_lit ?_
  with_reducible refine rA ?_
  with_reducible refine wC M (HS.out _ M.b) ?_; clear M; intro u M
  iterate 5 (with_reducible refine rA ?_)
  cases b1 with
  | false =>
    go_upto_region 3 with fail
    refine wp_region_lit ?_
    iterate 3 (with_reducible refine rA ?_)
    iterate 2 (with_reducible refine kA ?_)
    with_reducible refine rA ?_
    go_upto_region 4 with fail
    refine wp_region_lit ?_
    (with_reducible refine rB (.agg cellsZ) ?_ ?_); (· go_simp; rfl)
    with_reducible refine wS 0 M (laid_all cellsZ_size cellsZ_size) (infoTF16 cellsZ_size) cellsZ_one (fit_2 cellsZ_size cellsZ_size (by decide)) ?_; clear M; intro u M
    with_reducible refine rA ?_
    have hL := M.read 0 Tryz.underlying25 (infoTF16 cellsZ_size) rfl rfl
    go_wp2_with fail
    exact bodyPost_ret (v := .tuple #[.agg cellsZ, .int .i64 3]) (results_cell_tmp Tryz.results52 (by rfl) (by rfl) hL) rfl ⟨rfl, M.b⟩
  | true =>
    go_upto_region 3 with fail
    refine wp_region_lit ?_
    iterate 6 (with_reducible refine rA ?_)
    cases b2 with
    | false =>
      go_upto_region 4 with fail
      refine wp_region_lit ?_
      (with_reducible refine rB (.agg cellsZ) ?_ ?_); (· go_simp; rfl)
      with_reducible refine wS 0 M (laid_all cellsZ_size cellsZ_size) (infoTF16 cellsZ_size) cellsZ_one (fit_2 cellsZ_size cellsZ_size (by decide)) ?_; clear M; intro u M
      with_reducible refine rA ?_
      have hL := M.read 0 Tryz.underlying25 (infoTF16 cellsZ_size) rfl rfl
      go_wp2_with fail
      exact bodyPost_ret (v := .tuple #[.agg cellsZ, .int .i64 3]) (results_cell_tmp Tryz.results52 (by rfl) (by rfl) hL) rfl ⟨rfl, M.b⟩
    | true =>
      go_upto_region 5 with fail
      refine wp_region_lit ?_
      with_reducible refine rA ?_
      with_reducible refine wC M (HF.out _ M.b) ?_; clear M; intro u M
      (with_reducible refine rB (.agg (cellsF f (fsOf f))) ?_ ?_); (· go_simp; (try with_reducible rfl))
      with_reducible refine rA ?_
      with_reducible refine wS 0 M (laid_all (cellsF_size f (fsOf f)) cellsZ_size) (infoTF16 (cellsF_size f (fsOf f))) (cellsF_one f (fsOf f)) (fit_2 cellsZ_size (cellsF_size f (fsOf f)) (by decide)) ?_; clear M; intro u M
      with_reducible refine rA ?_
      have hL := M.read 0 Tryz.underlying25 (infoTF16 (cellsF_size f (fsOf f))) rfl rfl
      go_wp2_with fail
      exact bodyPost_ret (v := .tuple #[.agg (cellsF f (fsOf f)), .int .i64 e2]) (results_cell_tmp Tryz.results52 (by rfl) (by rfl) hL) rfl ⟨rfl, M.b⟩
end Go.Proofs.YtfliogahkfimbaaGreatDoor
namespace Go.Proofs.YtfliogahkfimbaaGreatDoor
open Go.RowKit
open Wd (Bs)

set_option maxHeartbeats 8000000 in
set_option maxRecDepth 100000 in
theorem tgReadIn (t p1 r1 p2 r2 : ByteArray) (o1 o2 uW uF : Bool) (k n e1 e2 : Int) (f1 f2 : Fil.Flt) (w : World)
    (HC1 : Hid (∀ W, Below w.heap.size w W → Calls Tryz.prog 50 #[.string t, .string ⟨#[32]⟩] W fun e w' => e = .returned (.tuple #[.string p1, .string r1, .bool o1]) ∧ Below W.heap.size W w')) (HC2 : Hid (∀ W, Below w.heap.size w W → Calls Tryz.prog 50 #[.string r1, .string ⟨#[32]⟩] W fun e w' => e = .returned (.tuple #[.string p2, .string r2, .bool o2]) ∧ Below W.heap.size W w')) (HX1 : Hid (∀ W b, Below w.heap.size w W → Blk W b namesT 9 → Calls Tryz.prog 51 #[.slice (some ⟨b, 0, none⟩) 15 15, .string p1] W fun e w' => e = .returned (.int .i64 k) ∧ Below W.heap.size W w')) (HX2 : Hid (∀ W b, Below w.heap.size w W → Blk W b playersT 9 → Calls Tryz.prog 51 #[.slice (some ⟨b, 0, none⟩) 3 3, .string p2] W fun e w' => e = .returned (.int .i64 n) ∧ Below W.heap.size W w')) (HU : Hid (∀ W, Below w.heap.size w W → Calls Tryz.prog 17 #[.int .i64 k] W fun e w' => e = .returned (.tuple #[.bool uW, .bool uF]) ∧ Below W.heap.size W w')) (HE1 : Hid (∀ W, Below w.heap.size w W → Calls Tryz.prog 52 #[.string r1] W fun e w' => e = .returned (.tuple #[.agg (cellsF f1 (fsOf f1)), .int .i64 e1]) ∧ Below W.heap.size W w')) (HE2 : Hid (∀ W, Below w.heap.size w W → Calls Tryz.prog 52 #[.string r2] W fun e w' => e = .returned (.tuple #[.agg (cellsF f2 (fsOf f2)), .int .i64 e2]) ∧ Below W.heap.size W w')) :
    Calls Tryz.prog 28 #[.string t] w fun e w' => e = .returned (.agg (if uW then (if uF then (tG k n (cellsF f2 (fsOf f2))) else (tG k n cellsZ)) else if uF then (tG k 0 (cellsF f1 (fsOf f1))) else (tG k 0 cellsZ))) ∧ Below w.heap.size w w' := by

  have M := Mm.nil w
  go_enter Tryz.func28, Tryz.ntmps28
  go_upto_region 0 with fail
  refine wp_region_lit ?_
  with_reducible refine wA (tG 0 0 cellsZ) M ?_; clear M; intro pB2 u M; refine ⟨_, by (simp only [pu, sB, s0, sS]; rfl), ?_⟩
  go_upto_region 1 with fail
  refine wp_region_lit ?_
  with_reducible refine rA ?_
  with_reducible refine wC M (HC1.out _ M.b) ?_; clear M; intro u M
  iterate 7 (with_reducible refine rA ?_)
  go_upto_region 2 with fail
  refine wp_region_lit ?_
  with_reducible refine wCn M (tgNames _) ?_; clear M; intro pN u M; refine ⟨_, by (simp only [pu, sB, s0, sS]; rfl), ?_⟩
  with_reducible refine rA ?_
  with_reducible refine wC M (HX1.out _ _ M.b (M.at 1 rfl)) ?_; clear M; intro u M
  (with_reducible refine rB (.agg (tG k 0 cellsZ)) ?_ ?_); (· refine run_buildOp _ [(0, .int .i64 k)] rfl ?_ (builtT_kind k); rfl)
  with_reducible refine wA (tG 0 0 cellsZ) M ?_; clear M; intro pB6 u M; refine ⟨_, by (simp only [pu, sB, s0, sS]; rfl), ?_⟩
  with_reducible refine wS 2 M (laid_all (tG_sz cellsZ_size) (tG_sz cellsZ_size)) (infoTTg18 (tG_sz cellsZ_size)) (tG_one cellsZ_one) (fit_2 (tG_sz cellsZ_size) (tG_sz cellsZ_size) (by decide)) ?_; clear M; intro u M
  go_upto_region 3 with fail
  refine wp_region_lit ?_
  with_reducible refine rA ?_
  with_reducible refine wLv 2 M tG_0 Tryz.underlying3 ?_
  with_reducible refine wC M (HU.out _ M.b) ?_; clear M; intro u M
  iterate 5 (with_reducible refine rA ?_)
  go_upto_region 4 with fail
  refine wp_region_lit ?_
  with_reducible refine rA ?_
  cases uW with
  | false =>
    go_upto_region 7 with fail
    refine wp_region_lit ?_
    with_reducible refine rA ?_
    cases uF with
    | false =>
      go_upto_region 9 with fail
      refine wp_region_lit ?_
      with_reducible refine wL 2 M whole_part Tryz.underlying27 (infoTTg18 (tG_sz cellsZ_size)) ?_
      with_reducible refine wS 0 M (laid_all (tG_sz cellsZ_size) (tG_sz cellsZ_size)) (infoTTg18 (tG_sz cellsZ_size)) (tG_one cellsZ_one) (fit_2 (tG_sz cellsZ_size) (tG_sz cellsZ_size) (by decide)) ?_; clear M; intro u M
      have hL := M.read 0 Tryz.underlying27 (infoTTg18 (tG_sz cellsZ_size)) rfl rfl
      go_wp2_with fail
      exact bodyPost_ret (v := .agg (tG k 0 cellsZ)) (results_cell Tryz.results28 (by rfl) hL) rfl ⟨rfl, M.b⟩
    | true =>
      go_upto_region 8 with fail
      refine wp_region_lit ?_
      with_reducible refine rA ?_
      with_reducible refine wC M (HE1.out _ M.b) ?_; clear M; intro u M
      with_reducible refine rA ?_
      (with_reducible refine rB (.agg (cellsF f1 (fsOf f1))) ?_ ?_); (· go_simp; (try with_reducible rfl))
      iterate 2 (with_reducible refine rA ?_)
      with_reducible refine wS 2 M (tG_pf (Eq.trans (cellsF_size f1 (fsOf f1)) (Eq.symm cellsZ_size))) (infoTF16 (cellsF_size f1 (fsOf f1))) (cellsF_one f1 (fsOf f1)) (fit_2 (tG_sz cellsZ_size) (cellsF_size f1 (fsOf f1)) (by decide)) ?_; clear M; intro u M
      go_upto_region 9 with fail
      refine wp_region_lit ?_
      with_reducible refine wL 2 M whole_part Tryz.underlying27 (infoTTg18 (tG_sz (cellsF_size f1 (fsOf f1)))) ?_
      with_reducible refine wS 0 M (laid_all (tG_sz (cellsF_size f1 (fsOf f1))) (tG_sz cellsZ_size)) (infoTTg18 (tG_sz (cellsF_size f1 (fsOf f1)))) (tG_one (cellsF_one f1 (fsOf f1))) (fit_2 (tG_sz cellsZ_size) (tG_sz (cellsF_size f1 (fsOf f1))) (by decide)) ?_; clear M; intro u M
      have hL := M.read 0 Tryz.underlying27 (infoTTg18 (tG_sz (cellsF_size f1 (fsOf f1)))) rfl rfl
      go_wp2_with fail
      exact bodyPost_ret (v := .agg (tG k 0 (cellsF f1 (fsOf f1)))) (results_cell Tryz.results28 (by rfl) hL) rfl ⟨rfl, M.b⟩
  | true =>
    go_upto_region 5 with fail
    refine wp_region_lit ?_
    with_reducible refine rA ?_
    with_reducible refine wC M (HC2.out _ M.b) ?_; clear M; intro u M
    iterate 6 (with_reducible refine rA ?_)
    go_upto_region 6 with fail
    refine wp_region_lit ?_
    with_reducible refine wCn M (tgPlayers _) ?_; clear M; intro pP u M; refine ⟨_, by (simp only [pu, sB, s0, sS]; rfl), ?_⟩
    with_reducible refine rA ?_
    with_reducible refine wC M (HX2.out _ _ M.b (M.at 3 rfl)) ?_; clear M; intro u M
    with_reducible refine rA ?_
    with_reducible refine wV 2 M (tG_p1) (fit_1 (tG_sz cellsZ_size) (by decide)) ?_; clear M; intro u M
    go_upto_region 7 with fail
    refine wp_region_lit ?_
    with_reducible refine rA ?_
    cases uF with
    | false =>
      go_upto_region 9 with fail
      refine wp_region_lit ?_
      with_reducible refine wL 2 M whole_part Tryz.underlying27 (infoTTg18 (tG_sz cellsZ_size)) ?_
      with_reducible refine wS 0 M (laid_all (tG_sz cellsZ_size) (tG_sz cellsZ_size)) (infoTTg18 (tG_sz cellsZ_size)) (tG_one cellsZ_one) (fit_2 (tG_sz cellsZ_size) (tG_sz cellsZ_size) (by decide)) ?_; clear M; intro u M
      have hL := M.read 0 Tryz.underlying27 (infoTTg18 (tG_sz cellsZ_size)) rfl rfl
      go_wp2_with fail
      exact bodyPost_ret (v := .agg (tG k n cellsZ)) (results_cell Tryz.results28 (by rfl) hL) rfl ⟨rfl, M.b⟩
    | true =>
      go_upto_region 8 with fail
      refine wp_region_lit ?_
      with_reducible refine rA ?_
      with_reducible refine wC M (HE2.out _ M.b) ?_; clear M; intro u M
      with_reducible refine rA ?_
      (with_reducible refine rB (.agg (cellsF f2 (fsOf f2))) ?_ ?_); (· go_simp; (try with_reducible rfl))
      iterate 2 (with_reducible refine rA ?_)
      with_reducible refine wS 2 M (tG_pf (Eq.trans (cellsF_size f2 (fsOf f2)) (Eq.symm cellsZ_size))) (infoTF16 (cellsF_size f2 (fsOf f2))) (cellsF_one f2 (fsOf f2)) (fit_2 (tG_sz cellsZ_size) (cellsF_size f2 (fsOf f2)) (by decide)) ?_; clear M; intro u M
      go_upto_region 9 with fail
      refine wp_region_lit ?_
      with_reducible refine wL 2 M whole_part Tryz.underlying27 (infoTTg18 (tG_sz (cellsF_size f2 (fsOf f2)))) ?_
      with_reducible refine wS 0 M (laid_all (tG_sz (cellsF_size f2 (fsOf f2))) (tG_sz cellsZ_size)) (infoTTg18 (tG_sz (cellsF_size f2 (fsOf f2)))) (tG_one (cellsF_one f2 (fsOf f2))) (fit_2 (tG_sz cellsZ_size) (tG_sz (cellsF_size f2 (fsOf f2))) (by decide)) ?_; clear M; intro u M
      have hL := M.read 0 Tryz.underlying27 (infoTTg18 (tG_sz (cellsF_size f2 (fsOf f2)))) rfl rfl
      go_wp2_with fail
      exact bodyPost_ret (v := .agg (tG k n (cellsF f2 (fsOf f2)))) (results_cell Tryz.results28 (by rfl) hL) rfl ⟨rfl, M.b⟩

set_option maxHeartbeats 8000000 in
set_option maxRecDepth 100000 in
theorem tgParseIn (t u : ByteArray) (k n : Int) (f : Fil.Flt) (fs : ByteArray) (v q : Bool) (w : World)
    (HR : Hid (∀ W, Below w.heap.size w W → Calls Tryz.prog 28 #[.string t] W fun e w' => e = .returned (.agg (tG k n (cellsF f fs))) ∧ Below W.heap.size W w')) (HI : Hid (∀ W, Below w.heap.size w W → Calls Tryz.prog 9 #[.agg (tG k n (cellsF f fs))] W fun e w' => e = .returned (.bool v) ∧ Below W.heap.size W w')) (HT : Hid (∀ W, Below w.heap.size w W → Calls Tryz.prog 13 #[.agg (tG k n (cellsF f fs))] W fun e w' => e = .returned (.string u) ∧ Below W.heap.size W w')) (hq : (u.toList == t.toList) = q) :
    Calls Tryz.prog 15 #[.string t] w fun e w' => e = .returned (if (v && q) = true then .tuple #[.agg (tG k n (cellsF f fs)), .int .i64 0] else .tuple #[.agg (tG 0 0 cellsZ), .int .i64 3]) ∧ Below w.heap.size w w' := by

  have M := Mm.nil w
  go_enter Tryz.func15, Tryz.ntmps15
  go_upto_region 0 with fail
  refine wp_region_lit ?_
  with_reducible refine wA (tG 0 0 cellsZ) M ?_; clear M; intro pB2 u M; refine ⟨_, by (simp only [pu, sB, s0, sS]; rfl), ?_⟩
  with_reducible refine rA ?_
  go_upto_region 1 with fail
  refine wp_region_lit ?_
  with_reducible refine rA ?_
  with_reducible refine wC M (HR.out _ M.b) ?_; clear M; intro u M
  with_reducible refine wA (tG 0 0 cellsZ) M ?_; clear M; intro pB4 u M; refine ⟨_, by (simp only [pu, sB, s0, sS]; rfl), ?_⟩
  with_reducible refine wS 1 M (laid_all (tG_sz (cellsF_size f fs)) (tG_sz cellsZ_size)) (infoTTg18 (tG_sz (cellsF_size f fs))) (tG_one (cellsF_one f fs)) (fit_2 (tG_sz cellsZ_size) (tG_sz (cellsF_size f fs)) (by decide)) ?_; clear M; intro u M
  cases v with
  | false =>
    go_upto_region 2 with fail
    refine wp_region_lit ?_
    with_reducible refine wL 1 M whole_part Tryz.underlying27 (infoTTg18 (tG_sz (cellsF_size f fs))) ?_
    with_reducible refine wC M (HI.out _ M.b) ?_; clear M; intro u M
    iterate 2 (with_reducible refine rA ?_)
    iterate 4 (with_reducible refine kA ?_)
    with_reducible refine rA ?_
    go_upto_region 3 with fail
    refine wp_region_lit ?_
    (with_reducible refine rB (.agg (tG 0 0 cellsZ)) ?_ ?_); (· go_simp; rfl)
    with_reducible refine wS 0 M (laid_all (tG_sz cellsZ_size) (tG_sz cellsZ_size)) (infoTTg18 (tG_sz cellsZ_size)) (tG_one cellsZ_one) (fit_2 (tG_sz cellsZ_size) (tG_sz cellsZ_size) (by decide)) ?_; clear M; intro u M
    with_reducible refine rA ?_
    have hL := M.read 0 Tryz.underlying27 (infoTTg18 (tG_sz cellsZ_size)) rfl rfl
    go_wp2_with fail
    exact bodyPost_ret (v := .tuple #[.agg (tG 0 0 cellsZ), .int .i64 3]) (results_cell_tmp Tryz.results15 (by rfl) (by rfl) hL) rfl ⟨rfl, M.b⟩
  | true =>
    go_upto_region 2 with fail
    refine wp_region_lit ?_
    with_reducible refine wL 1 M whole_part Tryz.underlying27 (infoTTg18 (tG_sz (cellsF_size f fs))) ?_
    with_reducible refine wC M (HI.out _ M.b) ?_; clear M; intro u M
    iterate 2 (with_reducible refine rA ?_)
    with_reducible refine wL 1 M whole_part Tryz.underlying27 (infoTTg18 (tG_sz (cellsF_size f fs))) ?_
    with_reducible refine wC M (HT.out _ M.b) ?_; clear M; intro u M
    iterate 3 (with_reducible refine rA ?_)
    cases q with
    | false =>
      go_upto_region 3 with fail
      refine wp_region_lit ?_
      (with_reducible refine rB (.agg (tG 0 0 cellsZ)) ?_ ?_); (· go_simp; rfl)
      with_reducible refine wS 0 M (laid_all (tG_sz cellsZ_size) (tG_sz cellsZ_size)) (infoTTg18 (tG_sz cellsZ_size)) (tG_one cellsZ_one) (fit_2 (tG_sz cellsZ_size) (tG_sz cellsZ_size) (by decide)) ?_; clear M; intro u M
      with_reducible refine rA ?_
      have hL := M.read 0 Tryz.underlying27 (infoTTg18 (tG_sz cellsZ_size)) rfl rfl
      go_wp2_with fail
      exact bodyPost_ret (v := .tuple #[.agg (tG 0 0 cellsZ), .int .i64 3]) (results_cell_tmp Tryz.results15 (by rfl) (by rfl) hL) rfl ⟨rfl, M.b⟩
    | true =>
      go_upto_region 4 with fail
      refine wp_region_lit ?_
      with_reducible refine wL 1 M whole_part Tryz.underlying27 (infoTTg18 (tG_sz (cellsF_size f fs))) ?_
      with_reducible refine wS 0 M (laid_all (tG_sz (cellsF_size f fs)) (tG_sz cellsZ_size)) (infoTTg18 (tG_sz (cellsF_size f fs))) (tG_one (cellsF_one f fs)) (fit_2 (tG_sz cellsZ_size) (tG_sz (cellsF_size f fs)) (by decide)) ?_; clear M; intro u M
      with_reducible refine rA ?_
      have hL := M.read 0 Tryz.underlying27 (infoTTg18 (tG_sz (cellsF_size f fs))) rfl rfl
      go_wp2_with fail
      exact bodyPost_ret (v := .tuple #[.agg (tG k n (cellsF f fs)), .int .i64 0]) (results_cell_tmp Tryz.results15 (by rfl) (by rfl) hL) rfl ⟨rfl, M.b⟩
end Go.Proofs.YtfliogahkfimbaaGreatDoor
namespace Go.Proofs.YtfliogahkfimbaaGreatDoor
open Go.RowKit
open Wd (Bs)

theorem eqF_zero (f : Fil.Flt) (fs : ByteArray) (hf : f.sub = fs.data.toList) (W : World) : (Op.equalIn 10000 25 (.agg (cellsF f fs)) (.agg cellsZ)).run Tryz.prog W = .ok (decide (f = Fil.zero)) W := by
  have h := run_eq_fltD 9997 f Fil.zero fs ⟨#[]⟩ hf rfl W
  rw [show eqF f Fil.zero = decide (f = Fil.zero) by rw [Bool.eq_iff_iff, eqF_iff]; simp] at h
  exact h
theorem tgIs (k n : Int) (f : Fil.Flt) (fs : ByteArray) (hf : f.sub = fs.data.toList) (hs : fs.size ≤ maxLen) (w : World) (hE : Env w) :
    Calls Tryz.prog 9 #[.agg (tG k n (cellsF f fs))] w fun e w' => e = .returned (.bool (Tg.okB ⟨k, n, f⟩)) ∧ Below w.heap.size w w' := by
  refine tgIsIn k n f fs (Tg.zoneK k) ⟨(Tg.whoT n).toArray⟩ (Tg.okB ⟨k, n, f⟩) (Tg.usesW k) (Tg.usesF k) (!Tg.whoB n) (decide (n = 0)) (decide (f = Fil.zero)) (Fil.validB f) (decide (f.zone = Tg.zoneK k)) w (Lib.hid fun W _ => tgUses k W) (by rw [Bool.eq_iff_iff]; simp) (eqF_zero f fs hf) (Lib.hid fun W _ => tgWho n W) ?_ (Lib.hid fun W hb => filIs f fs hf hs W (hE.below hb)) (Lib.hid fun W _ => tgZone k W) (by rw [Bool.eq_iff_iff]; simp) (Lib.hid ?_)
  · rw [Lib.toList_data]
    exact Tg.whoT_nil n
  · unfold Tg.okB
    simp
theorem heads_lenT : ∀ j, j < 15 → (Tg.headL j).length ≤ 9 := by decide
theorem whos_lenT : ∀ j, j < 3 → (Tg.whoL j).length ≤ 9 := by decide
theorem whoT_len (n : Int) : (Tg.whoT n).length ≤ 9 := by
  unfold Tg.whoT
  split
  · rename_i h
    unfold Tg.whoB at h
    simp only [decide_eq_true_eq] at h
    exact whos_lenT _ (by omega)
  · simp
theorem textF_len4 (f : Fil.Flt) : (Fil.textF f).length ≤ 4000 := by
  cases hv : Fil.validB f with
  | true => exact textF_len hv
  | false => unfold Fil.textF; rw [hv]; simp
theorem partF_len (f : Fil.Flt) : (Tg.partF f).length ≤ 4002 := by
  have := textF_len4 f
  unfold Tg.partF
  split
  · simp; omega
  · simp
theorem encText (f : Fil.Flt) (fs : ByteArray) (hf : f.sub = fs.data.toList) (hs : fs.size ≤ maxLen) (w : World) (hE : Env w) :
    Calls Tryz.prog 26 #[.agg (cellsF f fs)] w fun e w' => e = .returned (str (Tg.partF f)) ∧ Below w.heap.size w w' := by
  have hl := textF_len4 f
  refine (encTextIn f fs ⟨(Fil.textF f).toArray⟩ (Fil.validB f) w (Lib.hid fun W hb => filIs f fs hf hs W (hE.below hb)) (Lib.hid fun W hb => filText f fs hf hs W (hE.below hb)) (by rw [size_of]; omega)).mono ?_
  rintro e w1 ⟨rfl, hb⟩
  refine ⟨?_, hb⟩
  unfold Tg.partF
  cases Fil.validB f with
  | false => rfl
  | true => exact congrArg Ending.returned (str_of (by simp))
theorem tgText (k n : Int) (f : Fil.Flt) (fs : ByteArray) (hf : f.sub = fs.data.toList) (hs : fs.size ≤ maxLen) (w : World) (hE : Env w) :
    Calls Tryz.prog 13 #[.agg (tG k n (cellsF f fs))] w fun e w' => e = .returned (str (Tg.textT ⟨k, n, f⟩)) ∧ Below w.heap.size w w' := by
  have HI : Hid (∀ W, Below w.heap.size w W → _) := Lib.hid fun W hb => tgIs k n f fs hf hs W (hE.below hb)
  cases hv : Tg.okB ⟨k, n, f⟩ with
  | false =>
    rw [hv] at HI
    refine (tgTextBad k n f fs w HI).mono ?_
    rintro e w1 ⟨rfl, hb⟩
    exact ⟨by rw [Tg.textT_bad hv]; rfl, hb⟩
  | true =>
    rw [hv] at HI
    have hr := Tg.ok_parts hv
    simp only at hr
    obtain ⟨j, rfl⟩ : ∃ j : Nat, k = (j : Int) := ⟨k.toNat, by omega⟩
    have hj : j < 15 := by omega
    refine (tgTextOk j n f fs ⟨(Tg.headL j).toArray⟩ ⟨(Tg.whoT n).toArray⟩ ⟨(Tg.partF f).toArray⟩ _ (Tg.usesW j) (Tg.usesF j) w HI (by omega) (by omega) (namesT_at hj) (Lib.hid fun W _ => tgUses j W) (Lib.hid fun W _ => tgWho n W) (Lib.hid fun W hb => encText f fs hf hs W (hE.below hb))
      (by rw [size_of]; have := heads_lenT j hj; omega) (by rw [size_of]; have := whoT_len n; omega) (by rw [size_of]; have := partF_len f; omega) (Lib.hid rfl)).mono ?_
    rintro e w1 ⟨rfl, hb⟩
    refine ⟨?_, hb⟩
    rw [Tg.textT_ok hv]
    refine congrArg Ending.returned (str_of ?_)
    unfold Tg.raw
    cases Tg.usesW j <;> cases Tg.usesF j <;> simp
/-! Parse -/
theorem encParse (t : ByteArray) (hs : t.size ≤ 1000000) (w : World) (hE : Env w) :
    Calls Tryz.prog 52 #[.string t] w fun e w' => e = .returned (.tuple #[.agg (cellsF (Tg.encV t.data.toList) (fsOf (Tg.encV t.data.toList))), .int .i64 (Tg.encE t.data.toList)]) ∧ Below w.heap.size w w' := by
  have hsl : t.data.toList.length = t.size := Array.length_toList
  obtain ⟨r1, h1⟩ : ∃ r : Bs, r = if [40].isPrefixOf t.data.toList then t.data.toList.drop 1 else t.data.toList := ⟨_, rfl⟩
  have hl1 : r1.length ≤ t.size := by
    rw [h1]
    split
    · rw [List.length_drop]; omega
    · omega
  obtain ⟨r2, h2⟩ : ∃ r : Bs, r = if Lib.hasSuffix r1 [41] then r1.take (r1.length - 1) else r1 := ⟨_, rfl⟩
  have hl2 : r2.length ≤ t.size := by
    rw [h2]
    split
    · rw [List.length_take]; omega
    · omega
  refine (encParseIn t ⟨r1.toArray⟩ ⟨r2.toArray⟩ ([40].isPrefixOf t.data.toList) (Lib.hasSuffix r1 [41]) (Fil.parseV r2) (Fil.parseE r2) w (Lib.hid fun W _ => ?_) (Lib.hid fun W _ => ?_) (Lib.hid fun W hb => filParseM ⟨r2.toArray⟩ (by rw [size_of]; omega) W (hE.below hb))).mono ?_
  · rw [h1]
    exact cutPre t ⟨#[40]⟩ W
  · rw [h2]
    exact cutSuf ⟨r1.toArray⟩ ⟨#[41]⟩ W (by rw [size_of]; omega)
  · rintro e w1 ⟨rfl, hb⟩
    refine ⟨?_, hb⟩
    unfold Tg.encV Tg.encE Tg.inside
    cases hb1 : [40].isPrefixOf t.data.toList with
    | false => rfl
    | true =>
      rw [hb1, if_pos rfl] at h1
      rw [← h1]
      cases hb2 : Lib.hasSuffix r1 [41] with
      | false => rfl
      | true =>
        rw [hb2, if_pos rfl] at h2
        rw [← h2]
        rfl
theorem encV_sub (s : Bs) : (Tg.encV s).sub.length ≤ 32 := by
  have hz : Fil.zero.sub.length ≤ 32 := by decide
  unfold Tg.encV
  split
  · rename_i m _
    rcases Fil.parse_cases m with ⟨h, _⟩ | ⟨g, h1, _, h3, _⟩
    · rw [h]; exact hz
    · rw [h3]; exact sub_len (Fil.valid_of h1).sub
  · exact hz
theorem readT_short (s : Bs) : (Tg.readT s).f.sub.length ≤ 32 := by
  unfold Tg.readT
  simp only
  split
  · exact encV_sub _
  · decide
theorem cutT (s : ByteArray) (hs : s.size ≤ 1000000) (W : World) : Calls Tryz.prog 50 #[.string s, .string ⟨#[32]⟩] W fun e w' => e = .returned (.tuple #[.string ⟨(Tg.hd s.data.toList).toArray⟩, .string ⟨(Tg.tl s.data.toList).toArray⟩, .bool (Wd.cut s.data.toList [32]).2.2]) ∧ Below W.heap.size W w' := by
  refine (wordCutFar s ⟨#[32]⟩ W (by omega) (by decide)).mono ?_
  rintro e w1 ⟨rfl, hb⟩
  exact ⟨rfl, hb⟩
theorem hd_len (s : Bs) : (Tg.hd s).length ≤ s.length ∧ (Tg.tl s).length ≤ s.length := cut_le s [32]
theorem tgRead (t : ByteArray) (hs : t.size ≤ 1000000) (w : World) (hE : Env w) :
    Calls Tryz.prog 28 #[.string t] w fun e w' => e = .returned (.agg (cellsT (Tg.readT t.data.toList))) ∧ Below w.heap.size w w' := by
  have hsl : t.data.toList.length = t.size := Array.length_toList
  obtain ⟨s, hs0⟩ : ∃ s, t.data.toList = s := ⟨_, rfl⟩
  rw [hs0] at hsl
  have h1 := hd_len s
  have h2 := hd_len (Tg.tl s)
  refine (tgReadIn t ⟨(Tg.hd s).toArray⟩ ⟨(Tg.tl s).toArray⟩ ⟨(Tg.hd (Tg.tl s)).toArray⟩ ⟨(Tg.tl (Tg.tl s)).toArray⟩ (Wd.cut s [32]).2.2 (Wd.cut (Tg.tl s) [32]).2.2 (Tg.usesW (Tg.readK s)) (Tg.usesF (Tg.readK s)) (Tg.readK s) (idx Tg.playersL (Tg.hd (Tg.tl s))) (Tg.encE (Tg.tl s)) (Tg.encE (Tg.tl (Tg.tl s))) (Tg.encV (Tg.tl s)) (Tg.encV (Tg.tl (Tg.tl s))) w
    (Lib.hid fun W _ => ?_) (Lib.hid fun W _ => cutT ⟨(Tg.tl s).toArray⟩ (by rw [size_of]; omega) W) (Lib.hid fun W b _ hk => below_same (wordIndex _ _ _ _ (namesT_strs hk))) (Lib.hid fun W b _ hk => below_same (wordIndex _ _ _ _ (playersT_strs hk))) (Lib.hid fun W _ => tgUses _ W)
    (Lib.hid fun W hb => encParse ⟨(Tg.tl s).toArray⟩ (by rw [size_of]; omega) W (hE.below hb)) (Lib.hid fun W hb => encParse ⟨(Tg.tl (Tg.tl s)).toArray⟩ (by rw [size_of]; omega) W (hE.below hb))).mono ?_
  · rw [← hs0]
    exact cutT t hs W
  · rintro e w1 ⟨rfl, hb⟩
    refine ⟨?_, hb⟩
    rw [hs0]
    unfold Tg.readT cellsT Tg.restK
    cases Tg.usesW (Tg.readK s) <;> cases Tg.usesF (Tg.readK s) <;> rfl
theorem tgIsX (x : Tg.Td) (h : x.f.sub.length ≤ 1000000) (w : World) (hE : Env w) : Calls Tryz.prog 9 #[.agg (cellsT x)] w fun e w' => e = .returned (.bool (Tg.okB x)) ∧ Below w.heap.size w w' :=
  tgIs x.k x.n x.f (fsOf x.f) (fsOf_sub x.f) (by unfold fsOf; rw [size_of]; unfold maxLen; omega) w hE
theorem tgTextX (x : Tg.Td) (h : x.f.sub.length ≤ 1000000) (w : World) (hE : Env w) : Calls Tryz.prog 13 #[.agg (cellsT x)] w fun e w' => e = .returned (str (Tg.textT x)) ∧ Below w.heap.size w w' :=
  tgText x.k x.n x.f (fsOf x.f) (fsOf_sub x.f) (by unfold fsOf; rw [size_of]; unfold maxLen; omega) w hE
theorem tgParse (t : ByteArray) (hs : t.size ≤ 1000000) (w : World) (hE : Env w) :
    Calls Tryz.prog 15 #[.string t] w fun e w' => e = .returned (.tuple #[.agg (cellsT (Tg.pV t.data.toList)), .int .i64 (Tg.pE t.data.toList)]) ∧ Below w.heap.size w w' := by
  obtain ⟨x, hx⟩ : ∃ x, Tg.readT t.data.toList = x := ⟨_, rfl⟩
  have hl := readT_short t.data.toList
  rw [hx] at hl
  have HR : Hid (∀ W, Below w.heap.size w W → _) := Lib.hid fun W hb => tgRead t hs W (hE.below hb)
  obtain ⟨u, hu, eu⟩ := exists_bytes (Tg.textT x)
  rw [hx] at HR
  have HT : Hid (∀ W, Below w.heap.size w W → _) := Lib.hid fun W hb => tgTextX x (by omega) W (hE.below hb)
  rw [eu] at HT
  have HI : Hid (∀ W, Below w.heap.size w W → _) := Lib.hid fun W hb => tgIsX x (by omega) W (hE.below hb)
  refine (tgParseIn t u x.k x.n x.f (fsOf x.f) (Tg.okB x) (Tg.textT x == t.data.toList) w HR HI HT (by rw [Lib.toList_data, Lib.toList_data, hu])).mono ?_
  rintro e w1 ⟨rfl, hb⟩
  refine ⟨?_, hb⟩
  have hp : (Tg.okB x && (Tg.textT x == t.data.toList)) = Tg.pB t.data.toList := by unfold Tg.pB; rw [hx]
  rw [hp]
  cases hB : Tg.pB t.data.toList with
  | true =>
    rw [if_pos rfl, (Tg.p_yes hB).2.2.1, (Tg.p_yes hB).2.2.2, hx]
    rfl
  | false =>
    rw [if_neg (by decide), (Tg.p_no hB).1, (Tg.p_no hB).2]
    rfl
end Go.Proofs.YtfliogahkfimbaaGreatDoor
namespace Go.Proofs.YtfliogahkfimbaaGreatDoor
open Go.RowKit
open Wd (Bs)

def aFlt : Fil.Flt := { Fil.zero with self := 2, types := 1 }
theorem builtF_a : Tryz.prog.built 25 [(2, .int .i64 2), (3, .int .i64 1)] = some (cellsF aFlt ⟨#[]⟩) := by kernel_rfl
theorem builtT_a : Tryz.prog.built 27 [(0, .int .i64 3), (2, .agg (cellsF aFlt ⟨#[]⟩))] = some (tG 3 0 (cellsF aFlt ⟨#[]⟩)) := by kernel_rfl

set_option maxHeartbeats 8000000 in
set_option maxRecDepth 100000 in
theorem aliveWalkT (w : World)
    (H1 : Hid (∀ W, Below w.heap.size w W → Calls Tryz.prog 15 #[.string ⟨#[100, 105, 101, 115, 32, 40, 111, 116, 104, 101, 114, 32, 99, 114, 101, 97, 116, 117, 114, 101, 41]⟩] W fun e w' => e = .returned (.tuple #[.agg (tG 3 0 (cellsF aFlt ⟨#[]⟩)), .int .i64 0]) ∧ Below W.heap.size W w')) (H2 : Hid (∀ W, Below w.heap.size w W → Calls Tryz.prog 15 #[.string ⟨#[117, 112, 107, 101, 101, 112, 32, 121, 111, 117]⟩] W fun e w' => e = .returned (.tuple #[.agg (tG 10 1 cellsZ), .int .i64 0]) ∧ Below W.heap.size W w')) (HT : Hid (∀ W, Below w.heap.size w W → Calls Tryz.prog 13 #[.agg (tG 10 1 cellsZ)] W fun e w' => e = .returned (.string ⟨#[117, 112, 107, 101, 101, 112, 32, 121, 111, 117]⟩) ∧ Below W.heap.size W w')) (HI : Hid (∀ W, Below w.heap.size w W → Calls Tryz.prog 9 #[.agg (tG 3 0 (cellsF aFlt ⟨#[]⟩))] W fun e w' => e = .returned (.bool true) ∧ Below W.heap.size W w')) (HW : Hid (∀ W, Below w.heap.size w W → Calls Tryz.prog 11 #[.int .i64 2] W fun e w' => e = .returned (.string ⟨#[111, 112, 112, 111, 110, 101, 110, 116, 115]⟩) ∧ Below W.heap.size W w')) (hq3 : ∀ W : World, (Op.equalIn 10000 27 (.agg (tG 3 0 (cellsF aFlt ⟨#[]⟩))) (.agg (tG 3 0 (cellsF aFlt ⟨#[]⟩)))).run Tryz.prog W = .ok true W) (hq10 : ∀ W : World, (Op.equalIn 10000 27 (.agg (tG 10 1 cellsZ)) (.agg (tG 10 1 cellsZ))).run Tryz.prog W = .ok true W) :
    Calls Tryz.prog 8 #[] w fun e w' => e = .returned (.bool true) ∧ Below w.heap.size w w' := by

  have M := Mm.nil w
  go_enter Tryz.func8, Tryz.ntmps8
  go_upto_region 0 with fail
  refine wp_region_lit ?_
  with_reducible refine rA ?_
  go_upto_region 1 with fail
  refine wp_region_lit ?_
  with_reducible refine wC M (H1.out _ M.b) ?_; clear M; intro u M
  with_reducible refine rA ?_
  (with_reducible refine rB (.agg (tG 3 0 (cellsF aFlt ⟨#[]⟩))) ?_ ?_); (· go_simp; (try with_reducible rfl))
  with_reducible refine rA ?_
  with_reducible refine wA (tG 0 0 cellsZ) M ?_; clear M; intro pB1 u M; refine ⟨_, by (simp only [pu, sB, s0, sS]; rfl), ?_⟩
  with_reducible refine wS 0 M (laid_all (tG_sz (cellsF_size _ _)) (tG_sz cellsZ_size)) (infoTTg18 (tG_sz (cellsF_size _ _))) (tG_one (cellsF_one _ _)) (fit_2 (tG_sz cellsZ_size) (tG_sz (cellsF_size _ _)) (by decide)) ?_; clear M; intro u M
  with_reducible refine rA ?_
  go_upto_region 2 with fail
  refine wp_region_lit ?_
  with_reducible refine wC M (H2.out _ M.b) ?_; clear M; intro u M
  with_reducible refine rA ?_
  (with_reducible refine rB (.agg (tG 10 1 cellsZ)) ?_ ?_); (· go_simp; (try with_reducible rfl))
  with_reducible refine rA ?_
  with_reducible refine wA (tG 0 0 cellsZ) M ?_; clear M; intro pB3 u M; refine ⟨_, by (simp only [pu, sB, s0, sS]; rfl), ?_⟩
  with_reducible refine wS 1 M (laid_all (tG_sz cellsZ_size) (tG_sz cellsZ_size)) (infoTTg18 (tG_sz cellsZ_size)) (tG_one cellsZ_one) (fit_2 (tG_sz cellsZ_size) (tG_sz cellsZ_size) (by decide)) ?_; clear M; intro u M
  with_reducible refine rA ?_
  go_upto_region 3 with fail
  refine wp_region_lit ?_
  iterate 3 (with_reducible refine rA ?_)
  with_reducible refine wL 0 M whole_part Tryz.underlying27 (infoTTg18 (tG_sz (cellsF_size _ _))) ?_
  (with_reducible refine rB (.agg (cellsF aFlt ⟨#[]⟩)) ?_ ?_); (· refine run_buildOp _ [(2, .int .i64 2), (3, .int .i64 1)] rfl ?_ builtF_a; rfl)
  (with_reducible refine rB (.agg (tG 3 0 (cellsF aFlt ⟨#[]⟩))) ?_ ?_); (· refine run_buildOp _ [(0, .int .i64 3), (2, .agg (cellsF aFlt ⟨#[]⟩))] rfl ?_ builtT_a; rfl)
  iterate 7 (with_reducible refine rA ?_)
  with_reducible refine wL 1 M whole_part Tryz.underlying27 (infoTTg18 (tG_sz cellsZ_size)) ?_
  (with_reducible refine rB (.agg (tG 10 1 cellsZ)) ?_ ?_); (· refine run_buildOp _ [(0, .int .i64 10), (1, .int .i64 1)] rfl ?_ (builtT_kn 10 1); rfl)
  iterate 3 (with_reducible refine rA ?_)
  with_reducible refine wL 1 M whole_part Tryz.underlying27 (infoTTg18 (tG_sz cellsZ_size)) ?_
  with_reducible refine wC M (HT.out _ M.b) ?_; clear M; intro u M
  iterate 3 (with_reducible refine rA ?_)
  with_reducible refine wL 0 M whole_part Tryz.underlying27 (infoTTg18 (tG_sz (cellsF_size _ _))) ?_
  with_reducible refine wC M (HI.out _ M.b) ?_; clear M; intro u M
  iterate 2 (with_reducible refine rA ?_)
  with_reducible refine wC M (HW.out _ M.b) ?_; clear M; intro u M
  iterate 3 (with_reducible refine rA ?_)
  go_wp2_with fail
  go_ret
  exact ⟨rfl, M.b⟩
end Go.Proofs.YtfliogahkfimbaaGreatDoor
namespace Go.Proofs.YtfliogahkfimbaaGreatDoor
open Go.RowKit
open Wd (Bs)

theorem valid_aFlt : Fil.validB aFlt = true := by
  unfold Fil.validB
  rw [show Fil.subB aFlt.sub = true from sub_nil]
  decide +kernel
theorem text_aFlt : Fil.textF aFlt = [111, 116, 104, 101, 114, 32, 99, 114, 101, 97, 116, 117, 114, 101] := by
  rw [Fil.textF_valid valid_aFlt]
  decide +kernel
theorem tok3 : Tg.okB ⟨3, 0, aFlt⟩ = true := by
  unfold Tg.okB
  simp only
  rw [valid_aFlt]
  rfl
theorem tok10 : Tg.okB ⟨10, 1, Fil.zero⟩ = true := by
  unfold Tg.okB
  rfl
theorem ttext3 : Tg.textT ⟨3, 0, aFlt⟩ = [100, 105, 101, 115, 32, 40, 111, 116, 104, 101, 114, 32, 99, 114, 101, 97, 116, 117, 114, 101, 41] := by
  rw [Tg.textT_ok tok3]
  unfold Tg.raw Tg.partF
  simp only
  rw [valid_aFlt, text_aFlt]
  rfl
theorem ttext10 : Tg.textT ⟨10, 1, Fil.zero⟩ = [117, 112, 107, 101, 101, 112, 32, 121, 111, 117] := by
  rw [Tg.textT_ok tok10]
  rfl
theorem tgAlive (w : World) (hE : Env w) : Calls Tryz.prog 8 #[] w fun e w' => e = .returned (.bool true) ∧ Below w.heap.size w w' := by
  have P1 := Tg.p_text tok3
  rw [ttext3] at P1
  have P2 := Tg.p_text tok10
  rw [ttext10] at P2
  refine aliveWalkT w (Lib.hid fun W hb => ?_) (Lib.hid fun W hb => ?_) (Lib.hid fun W hb => ?_) (Lib.hid fun W hb => ?_) (Lib.hid fun W _ => ?_) (fun W => run_eq_tgS 3 0 aFlt ⟨#[]⟩ rfl W) (fun W => run_eq_tgS 10 1 Fil.zero ⟨#[]⟩ rfl W)
  · have h := tgParse ⟨#[100, 105, 101, 115, 32, 40, 111, 116, 104, 101, 114, 32, 99, 114, 101, 97, 116, 117, 114, 101, 41]⟩ (by decide) W (hE.below hb)
    rw [P1.1, P1.2] at h
    exact h
  · have h := tgParse ⟨#[117, 112, 107, 101, 101, 112, 32, 121, 111, 117]⟩ (by decide) W (hE.below hb)
    rw [P2.1, P2.2] at h
    exact h
  · have h := tgText 10 1 Fil.zero ⟨#[]⟩ rfl (by decide) W (hE.below hb)
    rw [ttext10] at h
    exact h
  · have h := tgIs 3 0 aFlt ⟨#[]⟩ rfl (by decide) W (hE.below hb)
    rw [tok3] at h
    exact h
  · exact tgWho 2 W
end Go.Proofs.YtfliogahkfimbaaGreatDoor
