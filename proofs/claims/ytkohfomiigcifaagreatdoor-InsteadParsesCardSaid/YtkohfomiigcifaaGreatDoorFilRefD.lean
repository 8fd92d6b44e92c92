/-
  CONTRACT OF LAYER 13's REFERENCE: word. By an AI agent.
-/
import Derived.Test.YtkohfomiigcifaaGreatDoorFilRefC
import Derived.Deep.Cut
import Derived.Deep.CutRange
import Derived.Deep.DeepCutAuto
namespace Go.Proofs.YtkohfomiigcifaaGreatDoor
open Go.RowKit
open Wd (Bs)

theorem ne_zonesL : ∀ k y, 0 < k → Fil.zonesL[k]? = some y → y ≠ [] := by
  intro k y h0 h
  match k, h0, h with
  | 1, _, h => injection h with h; rw [← h]; decide
  | 2, _, h => injection h with h; rw [← h]; decide
  | 3, _, h => injection h with h; rw [← h]; decide
  | 4, _, h => injection h with h; rw [← h]; decide
  | 5, _, h => injection h with h; rw [← h]; decide
  | k + 6, _, h => cases h
theorem ne_whoL : ∀ k y, 0 < k → Fil.whoL[k]? = some y → y ≠ [] := by
  intro k y h0 h
  match k, h0, h with
  | 1, _, h => injection h with h; rw [← h]; decide
  | 2, _, h => injection h with h; rw [← h]; decide
  | k + 3, _, h => cases h
theorem ne_selfL : ∀ k y, 0 < k → Fil.selfL[k]? = some y → y ≠ [] := by
  intro k y h0 h
  match k, h0, h with
  | 1, _, h => injection h with h; rw [← h]; decide
  | 2, _, h => injection h with h; rw [← h]; decide
  | k + 3, _, h => cases h
theorem ne_tapL : ∀ k y, 0 < k → Fil.tapL[k]? = some y → y ≠ [] := by
  intro k y h0 h
  match k, h0, h with
  | 1, _, h => injection h with h; rw [← h]; decide
  | 2, _, h => injection h with h; rw [← h]; decide
  | k + 3, _, h => cases h
theorem fieldB (x y : Int) (w : World) : (Instr.field 23 (.agg #[.int .i64 x, .int .i64 y]) 0).run Tryz.prog w = .ok (.int .i64 x) w := by kernel_rfl
set_option maxHeartbeats 16000000 in
set_option maxRecDepth 100000 in
theorem refWord13 (a : Fil.Acc) (fs x : ByteArray) (hok : Fil.Ok a) (hs : a.sub = fs.data.toList) (hx : x.size ≤ 1000000) (w : World) :
    Calls Tryz.prog 75 #[.agg #[.int .i64 (a.zone : Int), .int .i64 (a.who : Int), .int .i64 (a.self : Int), .int .i64 (a.types : Int), .int .i64 (a.ntypes : Int), .int .i64 (a.colors : Int), .int .i64 (a.ncolors : Int), .string fs, .int .i64 (a.keys : Int), .int .i64 (a.tap : Int), .int .i64 a.pow.kind, .int .i64 a.pow.n, .int .i64 a.tough.kind, .int .i64 a.tough.n, .int .i64 a.val.kind, .int .i64 a.val.n], .string x] w fun e w' => ∃ gs : ByteArray, gs.data.toList = (Fil.wordN a x.data.toList).sub ∧ e = .returned (.agg #[.int .i64 ((Fil.wordN a x.data.toList).zone : Int), .int .i64 ((Fil.wordN a x.data.toList).who : Int), .int .i64 ((Fil.wordN a x.data.toList).self : Int), .int .i64 ((Fil.wordN a x.data.toList).types : Int), .int .i64 ((Fil.wordN a x.data.toList).ntypes : Int), .int .i64 ((Fil.wordN a x.data.toList).colors : Int), .int .i64 ((Fil.wordN a x.data.toList).ncolors : Int), .string gs, .int .i64 ((Fil.wordN a x.data.toList).keys : Int), .int .i64 ((Fil.wordN a x.data.toList).tap : Int), .int .i64 (Fil.wordN a x.data.toList).pow.kind, .int .i64 (Fil.wordN a x.data.toList).pow.n, .int .i64 (Fil.wordN a x.data.toList).tough.kind, .int .i64 (Fil.wordN a x.data.toList).tough.n, .int .i64 (Fil.wordN a x.data.toList).val.kind, .int .i64 (Fil.wordN a x.data.toList).val.n]) ∧ Below w.heap.size w w' := by
  obtain ⟨x0, hx0⟩ : ∃ x0, x0 = x.data.toList := ⟨_, rfl⟩
  rw [← hx0]
  obtain ⟨w0, hw0⟩ : ∃ w0, w0 = (w.alloc (.cells #[.int .i64 (a.zone : Int), .int .i64 (a.who : Int), .int .i64 (a.self : Int), .int .i64 (a.types : Int), .int .i64 (a.ntypes : Int), .int .i64 (a.colors : Int), .int .i64 (a.ncolors : Int), .string fs, .int .i64 (a.keys : Int), .int .i64 (a.tap : Int), .int .i64 a.pow.kind, .int .i64 a.pow.n, .int .i64 a.tough.kind, .int .i64 a.tough.n, .int .i64 a.val.kind, .int .i64 a.val.n] 25)).alloc (.cells #[.int .i64 0, .int .i64 0, .int .i64 0, .int .i64 0, .int .i64 0, .int .i64 0, .int .i64 0, .string ⟨#[]⟩, .int .i64 0, .int .i64 0, .int .i64 0, .int .i64 0, .int .i64 0, .int .i64 0, .int .i64 0, .int .i64 0] 25) := ⟨_, rfl⟩
  obtain ⟨R, hR⟩ : ∃ R, R = w.heap.size + 1 := ⟨_, rfl⟩
  have k0 : Blk w0 w.heap.size #[.int .i64 (a.zone : Int), .int .i64 (a.who : Int), .int .i64 (a.self : Int), .int .i64 (a.types : Int), .int .i64 (a.ntypes : Int), .int .i64 (a.colors : Int), .int .i64 (a.ncolors : Int), .string fs, .int .i64 (a.keys : Int), .int .i64 (a.tap : Int), .int .i64 a.pow.kind, .int .i64 a.pow.n, .int .i64 a.tough.kind, .int .i64 a.tough.n, .int .i64 a.val.kind, .int .i64 a.val.n] 25 := by rw [hw0]; exact (Blk.new w _ _).alloc _
  have r0 : Blk w0 R #[.int .i64 0, .int .i64 0, .int .i64 0, .int .i64 0, .int .i64 0, .int .i64 0, .int .i64 0, .string ⟨#[]⟩, .int .i64 0, .int .i64 0, .int .i64 0, .int .i64 0, .int .i64 0, .int .i64 0, .int .i64 0, .int .i64 0] 25 := by
    have h := Blk.new (w.alloc (.cells #[.int .i64 (a.zone : Int), .int .i64 (a.who : Int), .int .i64 (a.self : Int), .int .i64 (a.types : Int), .int .i64 (a.ntypes : Int), .int .i64 (a.colors : Int), .int .i64 (a.ncolors : Int), .string fs, .int .i64 (a.keys : Int), .int .i64 (a.tap : Int), .int .i64 a.pow.kind, .int .i64 a.pow.n, .int .i64 a.tough.kind, .int .i64 a.tough.n, .int .i64 a.val.kind, .int .i64 a.val.n] 25)) #[.int .i64 0, .int .i64 0, .int .i64 0, .int .i64 0, .int .i64 0, .int .i64 0, .int .i64 0, .string ⟨#[]⟩, .int .i64 0, .int .i64 0, .int .i64 0, .int .i64 0, .int .i64 0, .int .i64 0, .int .i64 0, .int .i64 0] 25
    rw [hw0, hR]; simpa using h
  have b0 : Below w.heap.size w w0 := by rw [hw0]; exact ((Below.refl _ _).alloc (Nat.le_refl _) _).alloc (by simp) _
  have HRn : Hid (w.heap.size ≠ R) := Lib.hid (by omega)
  have HRl : Hid (w.heap.size ≤ R) := Lib.hid (by omega)
  have K0 := Lib.hid k0
  have R0 := Lib.hid r0
  have B0 := Lib.hid b0
  have HX := Lib.hid hx0
  have HS := Lib.hid hs
  have HOK := Lib.hid hok
  have HDPow : Hid (∀ W, Calls Tryz.prog 110 #[.string x, .string ⟨#[112, 111, 119, 101, 114]⟩] W fun e w' => e = .returned (.agg #[.int .i64 (Fil.rdB Fil.sPow x0).kind, .int .i64 (Fil.rdB Fil.sPow x0).n]) ∧ Below W.heap.size W w') := Lib.hid fun W => by
    have h := refRead13 x ⟨#[112, 111, 119, 101, 114]⟩ W hx (by decide)
    rw [← hx0] at h; exact h
  have HDTough : Hid (∀ W, Calls Tryz.prog 110 #[.string x, .string ⟨#[116, 111, 117, 103, 104]⟩] W fun e w' => e = .returned (.agg #[.int .i64 (Fil.rdB Fil.sTough x0).kind, .int .i64 (Fil.rdB Fil.sTough x0).n]) ∧ Below W.heap.size W w') := Lib.hid fun W => by
    have h := refRead13 x ⟨#[116, 111, 117, 103, 104]⟩ W hx (by decide)
    rw [← hx0] at h; exact h
  have HDVal : Hid (∀ W, Calls Tryz.prog 110 #[.string x, .string ⟨#[118, 97, 108, 117, 101]⟩] W fun e w' => e = .returned (.agg #[.int .i64 (Fil.rdB Fil.sVal x0).kind, .int .i64 (Fil.rdB Fil.sVal x0).n]) ∧ Below W.heap.size W w') := Lib.hid fun W => by
    have h := refRead13 x ⟨#[118, 97, 108, 117, 101]⟩ W hx (by decide)
    rw [← hx0] at h; exact h
  clear k0 r0 b0 hok hx0 hs
  have hfd := fieldB
  go_enter Tryz.func75, Tryz.ntmps75
  go_wp2_with fail
  rw [← hw0, ← hR]
  clear hw0 hR
  generalize Value.agg #[.int .i64 (a.zone : Int), .int .i64 (a.who : Int), .int .i64 (a.self : Int), .int .i64 (a.types : Int), .int .i64 (a.ntypes : Int), .int .i64 (a.colors : Int), .int .i64 (a.ncolors : Int), .string fs, .int .i64 (a.keys : Int), .int .i64 (a.tap : Int), .int .i64 a.pow.kind, .int .i64 a.pow.n, .int .i64 a.tough.kind, .int .i64 a.tough.n, .int .i64 a.val.kind, .int .i64 a.val.n] = vA
  obtain ⟨hzone, hhh⟩ : ∃ n : Nat, n = Fil.hitAt Fil.zonesL x0 := ⟨_, rfl⟩
  have HHhzone := Lib.hid hhh
  clear hhh
  refine (rtab_zonesL w0).mono ?_
  rintro e wt0a ⟨rfl, hwt⟩
  have hbt : Below w0.heap.size w0 wt0a := by rw [hwt]; exact (Below.refl _ _).alloc (Nat.le_refl _) _
  have HT : Hid (Blk wt0a w0.heap.size (Fil.zonesL.map str).toArray 9) := Lib.hid (by rw [hwt]; exact Blk.new w0 _ _)
  have K0a := Lib.hid (K0.out.below hbt K0.out.lt)
  have R0a := Lib.hid (R0.out.below hbt R0.out.lt)
  have B0a := Lib.hid (B0.out.trans (hbt.mono B0.out.size))
  have HI : Hid (Calls Tryz.prog 108 #[.slice (some ⟨w0.heap.size, 0, none⟩) 6 6, .string x] wt0a fun e w' => e = .returned (.int .i64 (hzone : Int)) ∧ wt0a = w') := Lib.hid (by
    have h := refIndex13 w0.heap.size 6 Fil.zonesL x wt0a rfl (by omega) (by omega) rfl ne_zonesL (fun k y hy => by rw [HT.out.cell k]; simp [hy])
    rw [← HX.out, ← HHhzone.out] at h; exact h)
  clear hbt hwt HT
  go_wp2_with fail
  refine HI.out.mono ?_
  rintro e wu0a ⟨rfl, rfl⟩
  clear HI
  go_upto_if 10 with fail
  go_cut [] (fun wx => ∃ zzone : Nat, Hid (zzone = Fil.oneOf Fil.zonesL a.zone x0) ∧ Hid (Blk wx w.heap.size #[.int .i64 (zzone : Int), .int .i64 (a.who : Int), .int .i64 (a.self : Int), .int .i64 (a.types : Int), .int .i64 (a.ntypes : Int), .int .i64 (a.colors : Int), .int .i64 (a.ncolors : Int), .string fs, .int .i64 (a.keys : Int), .int .i64 (a.tap : Int), .int .i64 a.pow.kind, .int .i64 a.pow.n, .int .i64 a.tough.kind, .int .i64 a.tough.n, .int .i64 a.val.kind, .int .i64 a.val.n] 25) ∧ Hid (Blk wx R #[.int .i64 0, .int .i64 0, .int .i64 0, .int .i64 0, .int .i64 0, .int .i64 0, .int .i64 0, .string ⟨#[]⟩, .int .i64 0, .int .i64 0, .int .i64 0, .int .i64 0, .int .i64 0, .int .i64 0, .int .i64 0, .int .i64 0] 25) ∧ Hid (Below w.heap.size w wx))
  case first =>
    by_cases hh : 0 < hzone
    · have hh1 : (0 : Int) < (hzone : Int) := by omega
      have HF : Hid (hzone = Fil.oneOf Fil.zonesL a.zone x0) := Lib.hid (by unfold Fil.oneOf; rw [← HHhzone.out, if_pos hh])
      go_wp2_with fail
      refine (rtab_zonesL wt0a).mono ?_
      rintro e wt0ab ⟨rfl, hwt⟩
      have hbt : Below wt0a.heap.size wt0a wt0ab := by rw [hwt]; exact (Below.refl _ _).alloc (Nat.le_refl _) _
      have HT : Hid (Blk wt0ab wt0a.heap.size (Fil.zonesL.map str).toArray 9) := Lib.hid (by rw [hwt]; exact Blk.new wt0a _ _)
      have K0ab := Lib.hid (K0a.out.below hbt K0a.out.lt)
      have R0ab := Lib.hid (R0a.out.below hbt R0a.out.lt)
      have B0ab := Lib.hid (B0a.out.trans (hbt.mono B0a.out.size))
      have HI : Hid (Calls Tryz.prog 108 #[.slice (some ⟨wt0a.heap.size, 0, none⟩) 6 6, .string x] wt0ab fun e w' => e = .returned (.int .i64 (hzone : Int)) ∧ wt0ab = w') := Lib.hid (by
        have h := refIndex13 wt0a.heap.size 6 Fil.zonesL x wt0ab rfl (by omega) (by omega) rfl ne_zonesL (fun k y hy => by rw [HT.out.cell k]; simp [hy])
        rw [← HX.out, ← HHhzone.out] at h; exact h)
      clear hbt hwt HT
      go_wp2_with fail
      refine HI.out.mono ?_
      rintro e wu0ab ⟨rfl, rfl⟩
      clear HI
      have zz := K0ab.out.free 0
      have yy : wt0ab.cell? ⟨w.heap.size, 0, none⟩ = some (.int .i64 (a.zone : Int)) := K0ab.out.cell 0
      go_wp2_with fail
      go_meet
      exact ⟨hzone, HF, Lib.hid (K0ab.out.set 0 _), Lib.hid (R0ab.out.other HRn.out.symm _ _), Lib.hid (B0ab.out.setCell (by exact Nat.le_refl _) _)⟩
    · have hh1 : ¬ (0 : Int) < (hzone : Int) := by omega
      have HF : Hid (a.zone = Fil.oneOf Fil.zonesL a.zone x0) := Lib.hid (by unfold Fil.oneOf; rw [← HHhzone.out, if_neg hh])
      go_wp2_with fail
      go_meet
      exact ⟨a.zone, HF, K0a, R0a, B0a⟩
  case rest =>
  obtain ⟨zzone, Fzone, K1, R1, B1⟩ := hcut
  clear K0 R0 B0 K0a R0a B0a HHhzone
  obtain ⟨w1, ew⟩ : ∃ v, v = wc := ⟨_, rfl⟩
  rw [← ew] at K1 R1 B1 ⊢
  clear ew
  go_wp2_with fail
  obtain ⟨hwho, hhh⟩ : ∃ n : Nat, n = Fil.hitAt Fil.whoL x0 := ⟨_, rfl⟩
  have HHhwho := Lib.hid hhh
  clear hhh
  refine (rtab_whoL w1).mono ?_
  rintro e wt1a ⟨rfl, hwt⟩
  have hbt : Below w1.heap.size w1 wt1a := by rw [hwt]; exact (Below.refl _ _).alloc (Nat.le_refl _) _
  have HT : Hid (Blk wt1a w1.heap.size (Fil.whoL.map str).toArray 9) := Lib.hid (by rw [hwt]; exact Blk.new w1 _ _)
  have K1a := Lib.hid (K1.out.below hbt K1.out.lt)
  have R1a := Lib.hid (R1.out.below hbt R1.out.lt)
  have B1a := Lib.hid (B1.out.trans (hbt.mono B1.out.size))
  have HI : Hid (Calls Tryz.prog 108 #[.slice (some ⟨w1.heap.size, 0, none⟩) 3 3, .string x] wt1a fun e w' => e = .returned (.int .i64 (hwho : Int)) ∧ wt1a = w') := Lib.hid (by
    have h := refIndex13 w1.heap.size 3 Fil.whoL x wt1a rfl (by omega) (by omega) rfl ne_whoL (fun k y hy => by rw [HT.out.cell k]; simp [hy])
    rw [← HX.out, ← HHhwho.out] at h; exact h)
  clear hbt hwt HT
  go_wp2_with fail
  refine HI.out.mono ?_
  rintro e wu1a ⟨rfl, rfl⟩
  clear HI
  go_upto_if 18 with fail
  go_cut [] (fun wx => ∃ zwho : Nat, Hid (zwho = Fil.oneOf Fil.whoL a.who x0) ∧ Hid (Blk wx w.heap.size #[.int .i64 (zzone : Int), .int .i64 (zwho : Int), .int .i64 (a.self : Int), .int .i64 (a.types : Int), .int .i64 (a.ntypes : Int), .int .i64 (a.colors : Int), .int .i64 (a.ncolors : Int), .string fs, .int .i64 (a.keys : Int), .int .i64 (a.tap : Int), .int .i64 a.pow.kind, .int .i64 a.pow.n, .int .i64 a.tough.kind, .int .i64 a.tough.n, .int .i64 a.val.kind, .int .i64 a.val.n] 25) ∧ Hid (Blk wx R #[.int .i64 0, .int .i64 0, .int .i64 0, .int .i64 0, .int .i64 0, .int .i64 0, .int .i64 0, .string ⟨#[]⟩, .int .i64 0, .int .i64 0, .int .i64 0, .int .i64 0, .int .i64 0, .int .i64 0, .int .i64 0, .int .i64 0] 25) ∧ Hid (Below w.heap.size w wx))
  case first =>
    by_cases hh : 0 < hwho
    · have hh1 : (0 : Int) < (hwho : Int) := by omega
      have HF : Hid (hwho = Fil.oneOf Fil.whoL a.who x0) := Lib.hid (by unfold Fil.oneOf; rw [← HHhwho.out, if_pos hh])
      go_wp2_with fail
      refine (rtab_whoL wt1a).mono ?_
      rintro e wt1ab ⟨rfl, hwt⟩
      have hbt : Below wt1a.heap.size wt1a wt1ab := by rw [hwt]; exact (Below.refl _ _).alloc (Nat.le_refl _) _
      have HT : Hid (Blk wt1ab wt1a.heap.size (Fil.whoL.map str).toArray 9) := Lib.hid (by rw [hwt]; exact Blk.new wt1a _ _)
      have K1ab := Lib.hid (K1a.out.below hbt K1a.out.lt)
      have R1ab := Lib.hid (R1a.out.below hbt R1a.out.lt)
      have B1ab := Lib.hid (B1a.out.trans (hbt.mono B1a.out.size))
      have HI : Hid (Calls Tryz.prog 108 #[.slice (some ⟨wt1a.heap.size, 0, none⟩) 3 3, .string x] wt1ab fun e w' => e = .returned (.int .i64 (hwho : Int)) ∧ wt1ab = w') := Lib.hid (by
        have h := refIndex13 wt1a.heap.size 3 Fil.whoL x wt1ab rfl (by omega) (by omega) rfl ne_whoL (fun k y hy => by rw [HT.out.cell k]; simp [hy])
        rw [← HX.out, ← HHhwho.out] at h; exact h)
      clear hbt hwt HT
      go_wp2_with fail
      refine HI.out.mono ?_
      rintro e wu1ab ⟨rfl, rfl⟩
      clear HI
      have zz := K1ab.out.free 1
      have yy : wt1ab.cell? ⟨w.heap.size, 1, none⟩ = some (.int .i64 (a.who : Int)) := K1ab.out.cell 1
      go_wp2_with fail
      go_meet
      exact ⟨hwho, HF, Lib.hid (K1ab.out.set 1 _), Lib.hid (R1ab.out.other HRn.out.symm _ _), Lib.hid (B1ab.out.setCell (by exact Nat.le_refl _) _)⟩
    · have hh1 : ¬ (0 : Int) < (hwho : Int) := by omega
      have HF : Hid (a.who = Fil.oneOf Fil.whoL a.who x0) := Lib.hid (by unfold Fil.oneOf; rw [← HHhwho.out, if_neg hh])
      go_wp2_with fail
      go_meet
      exact ⟨a.who, HF, K1a, R1a, B1a⟩
  case rest =>
  obtain ⟨zwho, Fwho, K2, R2, B2⟩ := hcut
  clear K1 R1 B1 K1a R1a B1a HHhwho
  obtain ⟨w2, ew⟩ : ∃ v, v = wc := ⟨_, rfl⟩
  rw [← ew] at K2 R2 B2 ⊢
  clear ew
  go_wp2_with fail
  obtain ⟨hself, hhh⟩ : ∃ n : Nat, n = Fil.hitAt Fil.selfL x0 := ⟨_, rfl⟩
  have HHhself := Lib.hid hhh
  clear hhh
  refine (rtab_selfL w2).mono ?_
  rintro e wt2a ⟨rfl, hwt⟩
  have hbt : Below w2.heap.size w2 wt2a := by rw [hwt]; exact (Below.refl _ _).alloc (Nat.le_refl _) _
  have HT : Hid (Blk wt2a w2.heap.size (Fil.selfL.map str).toArray 9) := Lib.hid (by rw [hwt]; exact Blk.new w2 _ _)
  have K2a := Lib.hid (K2.out.below hbt K2.out.lt)
  have R2a := Lib.hid (R2.out.below hbt R2.out.lt)
  have B2a := Lib.hid (B2.out.trans (hbt.mono B2.out.size))
  have HI : Hid (Calls Tryz.prog 108 #[.slice (some ⟨w2.heap.size, 0, none⟩) 3 3, .string x] wt2a fun e w' => e = .returned (.int .i64 (hself : Int)) ∧ wt2a = w') := Lib.hid (by
    have h := refIndex13 w2.heap.size 3 Fil.selfL x wt2a rfl (by omega) (by omega) rfl ne_selfL (fun k y hy => by rw [HT.out.cell k]; simp [hy])
    rw [← HX.out, ← HHhself.out] at h; exact h)
  clear hbt hwt HT
  go_wp2_with fail
  refine HI.out.mono ?_
  rintro e wu2a ⟨rfl, rfl⟩
  clear HI
  go_upto_if 26 with fail
  go_cut [] (fun wx => ∃ zself : Nat, Hid (zself = Fil.oneOf Fil.selfL a.self x0) ∧ Hid (Blk wx w.heap.size #[.int .i64 (zzone : Int), .int .i64 (zwho : Int), .int .i64 (zself : Int), .int .i64 (a.types : Int), .int .i64 (a.ntypes : Int), .int .i64 (a.colors : Int), .int .i64 (a.ncolors : Int), .string fs, .int .i64 (a.keys : Int), .int .i64 (a.tap : Int), .int .i64 a.pow.kind, .int .i64 a.pow.n, .int .i64 a.tough.kind, .int .i64 a.tough.n, .int .i64 a.val.kind, .int .i64 a.val.n] 25) ∧ Hid (Blk wx R #[.int .i64 0, .int .i64 0, .int .i64 0, .int .i64 0, .int .i64 0, .int .i64 0, .int .i64 0, .string ⟨#[]⟩, .int .i64 0, .int .i64 0, .int .i64 0, .int .i64 0, .int .i64 0, .int .i64 0, .int .i64 0, .int .i64 0] 25) ∧ Hid (Below w.heap.size w wx))
  case first =>
    by_cases hh : 0 < hself
    · have hh1 : (0 : Int) < (hself : Int) := by omega
      have HF : Hid (hself = Fil.oneOf Fil.selfL a.self x0) := Lib.hid (by unfold Fil.oneOf; rw [← HHhself.out, if_pos hh])
      go_wp2_with fail
      refine (rtab_selfL wt2a).mono ?_
      rintro e wt2ab ⟨rfl, hwt⟩
      have hbt : Below wt2a.heap.size wt2a wt2ab := by rw [hwt]; exact (Below.refl _ _).alloc (Nat.le_refl _) _
      have HT : Hid (Blk wt2ab wt2a.heap.size (Fil.selfL.map str).toArray 9) := Lib.hid (by rw [hwt]; exact Blk.new wt2a _ _)
      have K2ab := Lib.hid (K2a.out.below hbt K2a.out.lt)
      have R2ab := Lib.hid (R2a.out.below hbt R2a.out.lt)
      have B2ab := Lib.hid (B2a.out.trans (hbt.mono B2a.out.size))
      have HI : Hid (Calls Tryz.prog 108 #[.slice (some ⟨wt2a.heap.size, 0, none⟩) 3 3, .string x] wt2ab fun e w' => e = .returned (.int .i64 (hself : Int)) ∧ wt2ab = w') := Lib.hid (by
        have h := refIndex13 wt2a.heap.size 3 Fil.selfL x wt2ab rfl (by omega) (by omega) rfl ne_selfL (fun k y hy => by rw [HT.out.cell k]; simp [hy])
        rw [← HX.out, ← HHhself.out] at h; exact h)
      clear hbt hwt HT
      go_wp2_with fail
      refine HI.out.mono ?_
      rintro e wu2ab ⟨rfl, rfl⟩
      clear HI
      have zz := K2ab.out.free 2
      have yy : wt2ab.cell? ⟨w.heap.size, 2, none⟩ = some (.int .i64 (a.self : Int)) := K2ab.out.cell 2
      go_wp2_with fail
      go_meet
      exact ⟨hself, HF, Lib.hid (K2ab.out.set 2 _), Lib.hid (R2ab.out.other HRn.out.symm _ _), Lib.hid (B2ab.out.setCell (by exact Nat.le_refl _) _)⟩
    · have hh1 : ¬ (0 : Int) < (hself : Int) := by omega
      have HF : Hid (a.self = Fil.oneOf Fil.selfL a.self x0) := Lib.hid (by unfold Fil.oneOf; rw [← HHhself.out, if_neg hh])
      go_wp2_with fail
      go_meet
      exact ⟨a.self, HF, K2a, R2a, B2a⟩
  case rest =>
  obtain ⟨zself, Fself, K3, R3, B3⟩ := hcut
  clear K2 R2 B2 K2a R2a B2a HHhself
  obtain ⟨w3, ew⟩ : ∃ v, v = wc := ⟨_, rfl⟩
  rw [← ew] at K3 R3 B3 ⊢
  clear ew
  go_wp2_with fail
  obtain ⟨htap, hhh⟩ : ∃ n : Nat, n = Fil.hitAt Fil.tapL x0 := ⟨_, rfl⟩
  have HHhtap := Lib.hid hhh
  clear hhh
  refine (rtab_tapL w3).mono ?_
  rintro e wt3a ⟨rfl, hwt⟩
  have hbt : Below w3.heap.size w3 wt3a := by rw [hwt]; exact (Below.refl _ _).alloc (Nat.le_refl _) _
  have HT : Hid (Blk wt3a w3.heap.size (Fil.tapL.map str).toArray 9) := Lib.hid (by rw [hwt]; exact Blk.new w3 _ _)
  have K3a := Lib.hid (K3.out.below hbt K3.out.lt)
  have R3a := Lib.hid (R3.out.below hbt R3.out.lt)
  have B3a := Lib.hid (B3.out.trans (hbt.mono B3.out.size))
  have HI : Hid (Calls Tryz.prog 108 #[.slice (some ⟨w3.heap.size, 0, none⟩) 3 3, .string x] wt3a fun e w' => e = .returned (.int .i64 (htap : Int)) ∧ wt3a = w') := Lib.hid (by
    have h := refIndex13 w3.heap.size 3 Fil.tapL x wt3a rfl (by omega) (by omega) rfl ne_tapL (fun k y hy => by rw [HT.out.cell k]; simp [hy])
    rw [← HX.out, ← HHhtap.out] at h; exact h)
  clear hbt hwt HT
  go_wp2_with fail
  refine HI.out.mono ?_
  rintro e wu3a ⟨rfl, rfl⟩
  clear HI
  go_upto_if 34 with fail
  go_cut [] (fun wx => ∃ ztap : Nat, Hid (ztap = Fil.oneOf Fil.tapL a.tap x0) ∧ Hid (Blk wx w.heap.size #[.int .i64 (zzone : Int), .int .i64 (zwho : Int), .int .i64 (zself : Int), .int .i64 (a.types : Int), .int .i64 (a.ntypes : Int), .int .i64 (a.colors : Int), .int .i64 (a.ncolors : Int), .string fs, .int .i64 (a.keys : Int), .int .i64 (ztap : Int), .int .i64 a.pow.kind, .int .i64 a.pow.n, .int .i64 a.tough.kind, .int .i64 a.tough.n, .int .i64 a.val.kind, .int .i64 a.val.n] 25) ∧ Hid (Blk wx R #[.int .i64 0, .int .i64 0, .int .i64 0, .int .i64 0, .int .i64 0, .int .i64 0, .int .i64 0, .string ⟨#[]⟩, .int .i64 0, .int .i64 0, .int .i64 0, .int .i64 0, .int .i64 0, .int .i64 0, .int .i64 0, .int .i64 0] 25) ∧ Hid (Below w.heap.size w wx))
  case first =>
    by_cases hh : 0 < htap
    · have hh1 : (0 : Int) < (htap : Int) := by omega
      have HF : Hid (htap = Fil.oneOf Fil.tapL a.tap x0) := Lib.hid (by unfold Fil.oneOf; rw [← HHhtap.out, if_pos hh])
      go_wp2_with fail
      refine (rtab_tapL wt3a).mono ?_
      rintro e wt3ab ⟨rfl, hwt⟩
      have hbt : Below wt3a.heap.size wt3a wt3ab := by rw [hwt]; exact (Below.refl _ _).alloc (Nat.le_refl _) _
      have HT : Hid (Blk wt3ab wt3a.heap.size (Fil.tapL.map str).toArray 9) := Lib.hid (by rw [hwt]; exact Blk.new wt3a _ _)
      have K3ab := Lib.hid (K3a.out.below hbt K3a.out.lt)
      have R3ab := Lib.hid (R3a.out.below hbt R3a.out.lt)
      have B3ab := Lib.hid (B3a.out.trans (hbt.mono B3a.out.size))
      have HI : Hid (Calls Tryz.prog 108 #[.slice (some ⟨wt3a.heap.size, 0, none⟩) 3 3, .string x] wt3ab fun e w' => e = .returned (.int .i64 (htap : Int)) ∧ wt3ab = w') := Lib.hid (by
        have h := refIndex13 wt3a.heap.size 3 Fil.tapL x wt3ab rfl (by omega) (by omega) rfl ne_tapL (fun k y hy => by rw [HT.out.cell k]; simp [hy])
        rw [← HX.out, ← HHhtap.out] at h; exact h)
      clear hbt hwt HT
      go_wp2_with fail
      refine HI.out.mono ?_
      rintro e wu3ab ⟨rfl, rfl⟩
      clear HI
      have zz := K3ab.out.free 9
      have yy : wt3ab.cell? ⟨w.heap.size, 9, none⟩ = some (.int .i64 (a.tap : Int)) := K3ab.out.cell 9
      go_wp2_with fail
      go_meet
      exact ⟨htap, HF, Lib.hid (K3ab.out.set 9 _), Lib.hid (R3ab.out.other HRn.out.symm _ _), Lib.hid (B3ab.out.setCell (by exact Nat.le_refl _) _)⟩
    · have hh1 : ¬ (0 : Int) < (htap : Int) := by omega
      have HF : Hid (a.tap = Fil.oneOf Fil.tapL a.tap x0) := Lib.hid (by unfold Fil.oneOf; rw [← HHhtap.out, if_neg hh])
      go_wp2_with fail
      go_meet
      exact ⟨a.tap, HF, K3a, R3a, B3a⟩
  case rest =>
  obtain ⟨ztap, Ftap, K4, R4, B4⟩ := hcut
  clear K3 R3 B3 K3a R3a B3a HHhtap
  obtain ⟨w4, ew⟩ : ∃ v, v = wc := ⟨_, rfl⟩
  rw [← ew] at K4 R4 B4 ⊢
  clear ew
  go_wp2_with fail
  obtain ⟨ok, hok⟩ : ∃ ok, ok = Fil.sSub.isPrefixOf x0 := ⟨_, rfl⟩
  obtain ⟨dd, hdd, ed⟩ := exists_bytes (if ok = true then x0.drop 4 else [])
  have HA : Hid (∀ W, Calls Tryz.prog 109 #[.string x, .string ⟨#[115, 117, 98, 58]⟩] W fun e w' => e = .returned (.tuple #[.string dd, .bool ok]) ∧ W = w') := Lib.hid fun W => by
    have h := refAfter13 x ⟨#[115, 117, 98, 58]⟩ W
    rw [← HX.out, show (⟨#[115, 117, 98, 58]⟩ : ByteArray).data.toList = Fil.sSub from rfl, ← hok, show Fil.sSub.length = 4 from rfl, ed] at h; exact h
  have HOKK := Lib.hid hok
  have HDD := Lib.hid hdd
  clear hok hdd ed
  refine (HA.out _).mono ?_
  rintro e wq ⟨rfl, hwq⟩
  rw [← hwq]; clear hwq HA
  go_upto_if 44 with fail
  go_cut [5, 6] (fun sv ov wx => ∃ gs : ByteArray, Hid (gs.data.toList = Fil.subOf a.sub x0) ∧ Hid (Blk wx w.heap.size #[.int .i64 (zzone : Int), .int .i64 (zwho : Int), .int .i64 (zself : Int), .int .i64 (a.types : Int), .int .i64 (a.ntypes : Int), .int .i64 (a.colors : Int), .int .i64 (a.ncolors : Int), .string gs, .int .i64 (a.keys : Int), .int .i64 (ztap : Int), .int .i64 a.pow.kind, .int .i64 a.pow.n, .int .i64 a.tough.kind, .int .i64 a.tough.n, .int .i64 a.val.kind, .int .i64 a.val.n] 25) ∧ Hid (Blk wx R #[.int .i64 0, .int .i64 0, .int .i64 0, .int .i64 0, .int .i64 0, .int .i64 0, .int .i64 0, .string ⟨#[]⟩, .int .i64 0, .int .i64 0, .int .i64 0, .int .i64 0, .int .i64 0, .int .i64 0, .int .i64 0, .int .i64 0] 25) ∧ Hid (Below w.heap.size w wx))
  case first =>
    cases ok with
    | true =>
      have HF : Hid (dd.data.toList = Fil.subOf a.sub x0) := Lib.hid (by unfold Fil.subOf; rw [if_pos HOKK.out.symm, HDD.out, if_pos rfl])
      have zz := K4.out.free 7
      have yy : w4.cell? ⟨w.heap.size, 7, none⟩ = some (.string fs) := K4.out.cell 7
      go_wp2_with fail
      go_meet
      exact ⟨dd, HF, Lib.hid (K4.out.set 7 _), Lib.hid (R4.out.other HRn.out.symm _ _), Lib.hid (B4.out.setCell (by exact Nat.le_refl _) _)⟩
    | false =>
      have HF : Hid (fs.data.toList = Fil.subOf a.sub x0) := Lib.hid (by unfold Fil.subOf; rw [if_neg (by rw [← HOKK.out]; simp), HS.out])
      go_wp2_with fail
      go_meet
      exact ⟨fs, HF, K4, R4, B4⟩
  case rest =>
  obtain ⟨gs, Fsub, K5, R5, B5⟩ := hcut
  clear K4 R4 B4 HOKK HDD
  obtain ⟨w5, ew⟩ : ∃ v, v = wc := ⟨_, rfl⟩
  rw [← ew] at K5 R5 B5 ⊢
  clear ew
  go_wp2_with fail
  obtain ⟨rk, rn, hrd⟩ : ∃ rk rn, Fil.rdB Fil.sPow x0 = ⟨rk, rn⟩ := ⟨_, _, rfl⟩
  have HRD := Lib.hid hrd
  have HDX := HDPow
  rw [hrd] at HDX
  clear hrd HDPow
  refine (HDX.out _).mono ?_
  rintro e wa ⟨rfl, hb⟩
  have K5a := Lib.hid (K5.out.below hb K5.out.lt)
  have R5a := Lib.hid (R5.out.below hb R5.out.lt)
  have B5a := Lib.hid (B5.out.trans (hb.mono B5.out.size))
  clear hb
  go_upto_if 50 with fail
  go_cut [] (fun wx => ∃ q5 : Fil.Bd, Hid (q5 = Fil.bdOf Fil.sPow a.pow x0) ∧ Hid (Blk wx w.heap.size #[.int .i64 (zzone : Int), .int .i64 (zwho : Int), .int .i64 (zself : Int), .int .i64 (a.types : Int), .int .i64 (a.ntypes : Int), .int .i64 (a.colors : Int), .int .i64 (a.ncolors : Int), .string gs, .int .i64 (a.keys : Int), .int .i64 (ztap : Int), .int .i64 q5.kind, .int .i64 q5.n, .int .i64 a.tough.kind, .int .i64 a.tough.n, .int .i64 a.val.kind, .int .i64 a.val.n] 25) ∧ Hid (Blk wx R #[.int .i64 0, .int .i64 0, .int .i64 0, .int .i64 0, .int .i64 0, .int .i64 0, .int .i64 0, .string ⟨#[]⟩, .int .i64 0, .int .i64 0, .int .i64 0, .int .i64 0, .int .i64 0, .int .i64 0, .int .i64 0, .int .i64 0] 25) ∧ Hid (Below w.heap.size w wx))
  case first =>
    by_cases hh : 0 < rk
    · have HF : Hid ((⟨rk, rn⟩ : Fil.Bd) = Fil.bdOf Fil.sPow a.pow x0) := Lib.hid (by unfold Fil.bdOf; rw [HRD.out]; exact (if_pos hh).symm)
      go_wp2_with fail
      refine (HDX.out _).mono ?_
      rintro e wb ⟨rfl, hb⟩
      have K5ab := Lib.hid (K5a.out.below hb K5a.out.lt)
      have R5ab := Lib.hid (R5a.out.below hb R5a.out.lt)
      have B5ab := Lib.hid (B5a.out.trans (hb.mono B5a.out.size))
      clear hb
      have zz0 := K5ab.out.free 10
      have zz1 := K5ab.out.free 11
      have yy0 : wb.cell? ⟨w.heap.size, 10, none⟩ = some (.int .i64 a.pow.kind) := K5ab.out.cell 10
      have yy1 : wb.cell? ⟨w.heap.size, 11, none⟩ = some (.int .i64 a.pow.n) := K5ab.out.cell 11
      go_wp2_with fail
      go_meet
      exact ⟨⟨rk, rn⟩, HF, Lib.hid ((K5ab.out.set 10 _).set 11 _), Lib.hid ((R5ab.out.other HRn.out.symm _ _).other HRn.out.symm _ _), Lib.hid ((B5ab.out.setCell (by exact Nat.le_refl _) _).setCell (by exact Nat.le_refl _) _)⟩
    · have HF : Hid (a.pow = Fil.bdOf Fil.sPow a.pow x0) := Lib.hid (by unfold Fil.bdOf; rw [HRD.out]; exact (if_neg hh).symm)
      go_wp2_with fail
      go_meet
      exact ⟨a.pow, HF, K5a, R5a, B5a⟩
  case rest =>
  obtain ⟨q5, Fpow, K6, R6, B6⟩ := hcut
  clear K5 R5 B5 K5a R5a B5a HRD HDX
  obtain ⟨w6, ew⟩ : ∃ v, v = wc := ⟨_, rfl⟩
  rw [← ew] at K6 R6 B6 ⊢
  clear ew
  go_wp2_with fail
  obtain ⟨rk, rn, hrd⟩ : ∃ rk rn, Fil.rdB Fil.sTough x0 = ⟨rk, rn⟩ := ⟨_, _, rfl⟩
  have HRD := Lib.hid hrd
  have HDX := HDTough
  rw [hrd] at HDX
  clear hrd HDTough
  refine (HDX.out _).mono ?_
  rintro e wa ⟨rfl, hb⟩
  have K6a := Lib.hid (K6.out.below hb K6.out.lt)
  have R6a := Lib.hid (R6.out.below hb R6.out.lt)
  have B6a := Lib.hid (B6.out.trans (hb.mono B6.out.size))
  clear hb
  go_upto_if 57 with fail
  go_cut [] (fun wx => ∃ q6 : Fil.Bd, Hid (q6 = Fil.bdOf Fil.sTough a.tough x0) ∧ Hid (Blk wx w.heap.size #[.int .i64 (zzone : Int), .int .i64 (zwho : Int), .int .i64 (zself : Int), .int .i64 (a.types : Int), .int .i64 (a.ntypes : Int), .int .i64 (a.colors : Int), .int .i64 (a.ncolors : Int), .string gs, .int .i64 (a.keys : Int), .int .i64 (ztap : Int), .int .i64 q5.kind, .int .i64 q5.n, .int .i64 q6.kind, .int .i64 q6.n, .int .i64 a.val.kind, .int .i64 a.val.n] 25) ∧ Hid (Blk wx R #[.int .i64 0, .int .i64 0, .int .i64 0, .int .i64 0, .int .i64 0, .int .i64 0, .int .i64 0, .string ⟨#[]⟩, .int .i64 0, .int .i64 0, .int .i64 0, .int .i64 0, .int .i64 0, .int .i64 0, .int .i64 0, .int .i64 0] 25) ∧ Hid (Below w.heap.size w wx))
  case first =>
    by_cases hh : 0 < rk
    · have HF : Hid ((⟨rk, rn⟩ : Fil.Bd) = Fil.bdOf Fil.sTough a.tough x0) := Lib.hid (by unfold Fil.bdOf; rw [HRD.out]; exact (if_pos hh).symm)
      go_wp2_with fail
      refine (HDX.out _).mono ?_
      rintro e wb ⟨rfl, hb⟩
      have K6ab := Lib.hid (K6a.out.below hb K6a.out.lt)
      have R6ab := Lib.hid (R6a.out.below hb R6a.out.lt)
      have B6ab := Lib.hid (B6a.out.trans (hb.mono B6a.out.size))
      clear hb
      have zz0 := K6ab.out.free 12
      have zz1 := K6ab.out.free 13
      have yy0 : wb.cell? ⟨w.heap.size, 12, none⟩ = some (.int .i64 a.tough.kind) := K6ab.out.cell 12
      have yy1 : wb.cell? ⟨w.heap.size, 13, none⟩ = some (.int .i64 a.tough.n) := K6ab.out.cell 13
      go_wp2_with fail
      go_meet
      exact ⟨⟨rk, rn⟩, HF, Lib.hid ((K6ab.out.set 12 _).set 13 _), Lib.hid ((R6ab.out.other HRn.out.symm _ _).other HRn.out.symm _ _), Lib.hid ((B6ab.out.setCell (by exact Nat.le_refl _) _).setCell (by exact Nat.le_refl _) _)⟩
    · have HF : Hid (a.tough = Fil.bdOf Fil.sTough a.tough x0) := Lib.hid (by unfold Fil.bdOf; rw [HRD.out]; exact (if_neg hh).symm)
      go_wp2_with fail
      go_meet
      exact ⟨a.tough, HF, K6a, R6a, B6a⟩
  case rest =>
  obtain ⟨q6, Ftough, K7, R7, B7⟩ := hcut
  clear K6 R6 B6 K6a R6a B6a HRD HDX
  obtain ⟨w7, ew⟩ : ∃ v, v = wc := ⟨_, rfl⟩
  rw [← ew] at K7 R7 B7 ⊢
  clear ew
  go_wp2_with fail
  obtain ⟨rk, rn, hrd⟩ : ∃ rk rn, Fil.rdB Fil.sVal x0 = ⟨rk, rn⟩ := ⟨_, _, rfl⟩
  have HRD := Lib.hid hrd
  have HDX := HDVal
  rw [hrd] at HDX
  clear hrd HDVal
  refine (HDX.out _).mono ?_
  rintro e wa ⟨rfl, hb⟩
  have K7a := Lib.hid (K7.out.below hb K7.out.lt)
  have R7a := Lib.hid (R7.out.below hb R7.out.lt)
  have B7a := Lib.hid (B7.out.trans (hb.mono B7.out.size))
  clear hb
  go_upto_if 64 with fail
  go_cut [] (fun wx => ∃ q7 : Fil.Bd, Hid (q7 = Fil.bdOf Fil.sVal a.val x0) ∧ Hid (Blk wx w.heap.size #[.int .i64 (zzone : Int), .int .i64 (zwho : Int), .int .i64 (zself : Int), .int .i64 (a.types : Int), .int .i64 (a.ntypes : Int), .int .i64 (a.colors : Int), .int .i64 (a.ncolors : Int), .string gs, .int .i64 (a.keys : Int), .int .i64 (ztap : Int), .int .i64 q5.kind, .int .i64 q5.n, .int .i64 q6.kind, .int .i64 q6.n, .int .i64 q7.kind, .int .i64 q7.n] 25) ∧ Hid (Blk wx R #[.int .i64 0, .int .i64 0, .int .i64 0, .int .i64 0, .int .i64 0, .int .i64 0, .int .i64 0, .string ⟨#[]⟩, .int .i64 0, .int .i64 0, .int .i64 0, .int .i64 0, .int .i64 0, .int .i64 0, .int .i64 0, .int .i64 0] 25) ∧ Hid (Below w.heap.size w wx))
  case first =>
    by_cases hh : 0 < rk
    · have HF : Hid ((⟨rk, rn⟩ : Fil.Bd) = Fil.bdOf Fil.sVal a.val x0) := Lib.hid (by unfold Fil.bdOf; rw [HRD.out]; exact (if_pos hh).symm)
      go_wp2_with fail
      refine (HDX.out _).mono ?_
      rintro e wb ⟨rfl, hb⟩
      have K7ab := Lib.hid (K7a.out.below hb K7a.out.lt)
      have R7ab := Lib.hid (R7a.out.below hb R7a.out.lt)
      have B7ab := Lib.hid (B7a.out.trans (hb.mono B7a.out.size))
      clear hb
      have zz0 := K7ab.out.free 14
      have zz1 := K7ab.out.free 15
      have yy0 : wb.cell? ⟨w.heap.size, 14, none⟩ = some (.int .i64 a.val.kind) := K7ab.out.cell 14
      have yy1 : wb.cell? ⟨w.heap.size, 15, none⟩ = some (.int .i64 a.val.n) := K7ab.out.cell 15
      go_wp2_with fail
      go_meet
      exact ⟨⟨rk, rn⟩, HF, Lib.hid ((K7ab.out.set 14 _).set 15 _), Lib.hid ((R7ab.out.other HRn.out.symm _ _).other HRn.out.symm _ _), Lib.hid ((B7ab.out.setCell (by exact Nat.le_refl _) _).setCell (by exact Nat.le_refl _) _)⟩
    · have HF : Hid (a.val = Fil.bdOf Fil.sVal a.val x0) := Lib.hid (by unfold Fil.bdOf; rw [HRD.out]; exact (if_neg hh).symm)
      go_wp2_with fail
      go_meet
      exact ⟨a.val, HF, K7a, R7a, B7a⟩
  case rest =>
  obtain ⟨q7, Fval, K8, R8, B8⟩ := hcut
  clear K7 R7 B7 K7a R7a B7a HRD HDX
  obtain ⟨w8, ew⟩ : ∃ v, v = wc := ⟨_, rfl⟩
  rw [← ew] at K8 R8 B8 ⊢
  clear ew
  obtain ⟨b, hb⟩ : ∃ b : Fil.Acc, b = ⟨zzone, zwho, zself, a.types, a.ntypes, a.colors, a.ncolors, gs.data.toList, a.keys, ztap, q5, q6, q7⟩ := ⟨_, rfl⟩
  have hrest : b = Fil.restN a x0 := by rw [hb, Fzone.out, Fwho.out, Fself.out, Ftap.out, Fsub.out, Fpow.out, Ftough.out, Fval.out]; rfl
  have hn : ∀ W, Calls Tryz.prog 111 #[.agg #[.int .i64 (zzone : Int), .int .i64 (zwho : Int), .int .i64 (zself : Int), .int .i64 (a.types : Int), .int .i64 (a.ntypes : Int), .int .i64 (a.colors : Int), .int .i64 (a.ncolors : Int), .string gs, .int .i64 (a.keys : Int), .int .i64 (ztap : Int), .int .i64 q5.kind, .int .i64 q5.n, .int .i64 q6.kind, .int .i64 q6.n, .int .i64 q7.kind, .int .i64 q7.n], .string x] W fun e w' => e = .returned (.agg #[.int .i64 ((Fil.wordN a x0).zone : Int), .int .i64 ((Fil.wordN a x0).who : Int), .int .i64 ((Fil.wordN a x0).self : Int), .int .i64 ((Fil.wordN a x0).types : Int), .int .i64 ((Fil.wordN a x0).ntypes : Int), .int .i64 ((Fil.wordN a x0).colors : Int), .int .i64 ((Fil.wordN a x0).ncolors : Int), .string gs, .int .i64 ((Fil.wordN a x0).keys : Int), .int .i64 ((Fil.wordN a x0).tap : Int), .int .i64 (Fil.wordN a x0).pow.kind, .int .i64 (Fil.wordN a x0).pow.n, .int .i64 (Fil.wordN a x0).tough.kind, .int .i64 (Fil.wordN a x0).tough.n, .int .i64 (Fil.wordN a x0).val.kind, .int .i64 (Fil.wordN a x0).val.n]) ∧ Below W.heap.size W w' := fun W => by
    have h := refNamed13 b gs x (by rw [hrest]; exact ⟨HOK.out.types, HOK.out.ntypes, HOK.out.colors, HOK.out.ncolors, HOK.out.keys⟩) W
    rw [← HX.out, hrest, ← Fil.wordN_two, ← hrest, hb] at h; exact h
  have hgs : gs.data.toList = (Fil.wordN a x0).sub := Fsub.out
  have HGS := Lib.hid hgs
  have HN := Lib.hid hn
  clear hn hgs hb hrest
  generalize hcc : Fil.wordN a x0 = c at HN HGS
  have HCC := Lib.hid hcc
  clear hcc
  go_upto_region 18 with fail
  refine wp_region_lit (wpList_load_row rfl 25 (.tmp 2) rfl w.heap.size rfl 25 #[.int .i64 (zzone : Int), .int .i64 (zwho : Int), .int .i64 (zself : Int), .int .i64 (a.types : Int), .int .i64 (a.ntypes : Int), .int .i64 (a.colors : Int), .int .i64 (a.ncolors : Int), .string gs, .int .i64 (a.keys : Int), .int .i64 (ztap : Int), .int .i64 q5.kind, .int .i64 q5.n, .int .i64 q6.kind, .int .i64 q6.n, .int .i64 q7.kind, .int .i64 q7.n] (0, 0) _ K8.out Tryz.underlying25 rfl (by rw [sizeTF]; rfl) ?_)
  go_wp2_with fail
  refine (HN.out _).mono ?_
  rintro e wn ⟨rfl, hbn⟩
  have RN := Lib.hid (R8.out.below hbn R8.out.lt)
  have BN := Lib.hid (B8.out.trans (hbn.mono B8.out.size))
  clear hbn
  go_simp
  rename_i hKK
  refine hKK _ _ ?_
  refine wpList_store_mid rfl 25 (.tmp 4) (.tmp 70) rfl R 0 #[.int .i64 (c.zone : Int), .int .i64 (c.who : Int), .int .i64 (c.self : Int), .int .i64 (c.types : Int), .int .i64 (c.ntypes : Int), .int .i64 (c.colors : Int), .int .i64 (c.ncolors : Int), .string gs, .int .i64 (c.keys : Int), .int .i64 (c.tap : Int), .int .i64 c.pow.kind, .int .i64 c.pow.n, .int .i64 c.tough.kind, .int .i64 c.tough.n, .int .i64 c.val.kind, .int .i64 c.val.n] rfl rfl RN.out.there (by rw [sizeTF]; rfl) (by simp [Value.oneCell']) ?_
  change wpList _ _ _ _ _ (set16 wn R c gs)
  have hB : Blk (set16 wn R c gs) R #[.int .i64 (c.zone : Int), .int .i64 (c.who : Int), .int .i64 (c.self : Int), .int .i64 (c.types : Int), .int .i64 (c.ntypes : Int), .int .i64 (c.colors : Int), .int .i64 (c.ncolors : Int), .string gs, .int .i64 (c.keys : Int), .int .i64 (c.tap : Int), .int .i64 c.pow.kind, .int .i64 c.pow.n, .int .i64 c.tough.kind, .int .i64 c.tough.n, .int .i64 c.val.kind, .int .i64 c.val.n] 25 := Blk.set16 (a := Fil.zeroA) (fs := ⟨#[]⟩) RN.out c gs
  have hBel : Hid (Below w.heap.size w (set16 wn R c gs)) := Lib.hid (below16 BN.out HRl.out)
  generalize set16 wn R c gs = wf at hB hBel ⊢
  have g0 : wf.cell? ⟨R, 0, none⟩ = some (.int .i64 (c.zone : Int)) := hB.cell 0
  have g1 : wf.cell? ⟨R, 1, none⟩ = some (.int .i64 (c.who : Int)) := hB.cell 1
  have g2 : wf.cell? ⟨R, 2, none⟩ = some (.int .i64 (c.self : Int)) := hB.cell 2
  have g3 : wf.cell? ⟨R, 3, none⟩ = some (.int .i64 (c.types : Int)) := hB.cell 3
  have g4 : wf.cell? ⟨R, 4, none⟩ = some (.int .i64 (c.ntypes : Int)) := hB.cell 4
  have g5 : wf.cell? ⟨R, 5, none⟩ = some (.int .i64 (c.colors : Int)) := hB.cell 5
  have g6 : wf.cell? ⟨R, 6, none⟩ = some (.int .i64 (c.ncolors : Int)) := hB.cell 6
  have g7 : wf.cell? ⟨R, 7, none⟩ = some (.string gs) := hB.cell 7
  have g8 : wf.cell? ⟨R, 8, none⟩ = some (.int .i64 (c.keys : Int)) := hB.cell 8
  have g9 : wf.cell? ⟨R, 9, none⟩ = some (.int .i64 (c.tap : Int)) := hB.cell 9
  have g10 : wf.cell? ⟨R, 10, none⟩ = some (.int .i64 c.pow.kind) := hB.cell 10
  have g11 : wf.cell? ⟨R, 11, none⟩ = some (.int .i64 c.pow.n) := hB.cell 11
  have g12 : wf.cell? ⟨R, 12, none⟩ = some (.int .i64 c.tough.kind) := hB.cell 12
  have g13 : wf.cell? ⟨R, 13, none⟩ = some (.int .i64 c.tough.n) := hB.cell 13
  have g14 : wf.cell? ⟨R, 14, none⟩ = some (.int .i64 c.val.kind) := hB.cell 14
  have g15 : wf.cell? ⟨R, 15, none⟩ = some (.int .i64 c.val.n) := hB.cell 15
  go_wp2_with fail
  exact bodyPost_ret (v := .agg #[.int .i64 (c.zone : Int), .int .i64 (c.who : Int), .int .i64 (c.self : Int), .int .i64 (c.types : Int), .int .i64 (c.ntypes : Int), .int .i64 (c.colors : Int), .int .i64 (c.ncolors : Int), .string gs, .int .i64 (c.keys : Int), .int .i64 (c.tap : Int), .int .i64 c.pow.kind, .int .i64 c.pow.n, .int .i64 c.tough.kind, .int .i64 c.tough.n, .int .i64 c.val.kind, .int .i64 c.val.n]) (by simp [results, Tryz.results75, go_sem, g0, g1, g2, g3, g4, g5, g6, g7, g8, g9, g10, g11, g12, g13, g14, g15]) rfl (by rw [HCC.out]; exact ⟨gs, HGS.out, rfl, hBel.out⟩)
end Go.Proofs.YtkohfomiigcifaaGreatDoor
