/-
  CONTRACT OF LAYER 13's REFERENCE: named. By an AI agent.
-/
import Derived.Test.YtkohfomiigcifaaGreatDoorFilRefB
import Derived.Test.YtkohfomiigcifaaGreatDoorFilOk
import Derived.Test.YtkohfomiigcifaaGreatDoorIpGA
import Derived.Deep.Cut
namespace Go.Proofs.YtkohfomiigcifaaGreatDoor
open Go.RowKit
open Wd (Bs)

set_option maxHeartbeats 16000000 in
set_option maxRecDepth 100000 in
theorem refNamed13 (a : Fil.Acc) (fs x : ByteArray) (hok : Fil.Ok a) (w : World) :
    Calls Tryz.prog 111 #[.agg #[.int .i64 (a.zone : Int), .int .i64 (a.who : Int), .int .i64 (a.self : Int), .int .i64 (a.types : Int), .int .i64 (a.ntypes : Int), .int .i64 (a.colors : Int), .int .i64 (a.ncolors : Int), .string fs, .int .i64 (a.keys : Int), .int .i64 (a.tap : Int), .int .i64 a.pow.kind, .int .i64 a.pow.n, .int .i64 a.tough.kind, .int .i64 a.tough.n, .int .i64 a.val.kind, .int .i64 a.val.n], .string x] w fun e w' => e = .returned (.agg #[.int .i64 ((Fil.namedN a x.data.toList).zone : Int), .int .i64 ((Fil.namedN a x.data.toList).who : Int), .int .i64 ((Fil.namedN a x.data.toList).self : Int), .int .i64 ((Fil.namedN a x.data.toList).types : Int), .int .i64 ((Fil.namedN a x.data.toList).ntypes : Int), .int .i64 ((Fil.namedN a x.data.toList).colors : Int), .int .i64 ((Fil.namedN a x.data.toList).ncolors : Int), .string fs, .int .i64 ((Fil.namedN a x.data.toList).keys : Int), .int .i64 ((Fil.namedN a x.data.toList).tap : Int), .int .i64 (Fil.namedN a x.data.toList).pow.kind, .int .i64 (Fil.namedN a x.data.toList).pow.n, .int .i64 (Fil.namedN a x.data.toList).tough.kind, .int .i64 (Fil.namedN a x.data.toList).tough.n, .int .i64 (Fil.namedN a x.data.toList).val.kind, .int .i64 (Fil.namedN a x.data.toList).val.n]) ∧ Below w.heap.size w w' := by
  obtain ⟨x0, hx0⟩ : ∃ x0, x0 = x.data.toList := ⟨_, rfl⟩
  rw [← hx0]
  obtain ⟨w0, hw0⟩ : ∃ w0, w0 = (w.alloc (.cells #[.int .i64 (a.zone : Int), .int .i64 (a.who : Int), .int .i64 (a.self : Int), .int .i64 (a.types : Int), .int .i64 (a.ntypes : Int), .int .i64 (a.colors : Int), .int .i64 (a.ncolors : Int), .string fs, .int .i64 (a.keys : Int), .int .i64 (a.tap : Int), .int .i64 a.pow.kind, .int .i64 a.pow.n, .int .i64 a.tough.kind, .int .i64 a.tough.n, .int .i64 a.val.kind, .int .i64 a.val.n] 25)).alloc (.cells #[.int .i64 0, .int .i64 0, .int .i64 0, .int .i64 0, .int .i64 0, .int .i64 0, .int .i64 0, .string ⟨#[]⟩, .int .i64 0, .int .i64 0, .int .i64 0, .int .i64 0, .int .i64 0, .int .i64 0, .int .i64 0, .int .i64 0] 25) := ⟨_, rfl⟩
  obtain ⟨R, hR⟩ : ∃ R, R = w.heap.size + 1 := ⟨_, rfl⟩
  have k0 : Blk w0 w.heap.size #[.int .i64 (a.zone : Int), .int .i64 (a.who : Int), .int .i64 (a.self : Int), .int .i64 (a.types : Int), .int .i64 (a.ntypes : Int), .int .i64 (a.colors : Int), .int .i64 (a.ncolors : Int), .string fs, .int .i64 (a.keys : Int), .int .i64 (a.tap : Int), .int .i64 a.pow.kind, .int .i64 a.pow.n, .int .i64 a.tough.kind, .int .i64 a.tough.n, .int .i64 a.val.kind, .int .i64 a.val.n] 25 := by rw [hw0]; exact (Blk.new w _ _).alloc _
  have r0 : Blk w0 R #[.int .i64 0, .int .i64 0, .int .i64 0, .int .i64 0, .int .i64 0, .int .i64 0, .int .i64 0, .string ⟨#[]⟩, .int .i64 0, .int .i64 0, .int .i64 0, .int .i64 0, .int .i64 0, .int .i64 0, .int .i64 0, .int .i64 0] 25 := by
    have h := Blk.new (w.alloc (.cells #[.int .i64 (a.zone : Int), .int .i64 (a.who : Int), .int .i64 (a.self : Int), .int .i64 (a.types : Int), .int .i64 (a.ntypes : Int), .int .i64 (a.colors : Int), .int .i64 (a.ncolors : Int), .string fs, .int .i64 (a.keys : Int), .int .i64 (a.tap : Int), .int .i64 a.pow.kind, .int .i64 a.pow.n, .int .i64 a.tough.kind, .int .i64 a.tough.n, .int .i64 a.val.kind, .int .i64 a.val.n] 25)) #[.int .i64 0, .int .i64 0, .int .i64 0, .int .i64 0, .int .i64 0, .int .i64 0, .int .i64 0, .string ⟨#[]⟩, .int .i64 0, .int .i64 0, .int .i64 0, .int .i64 0, .int .i64 0, .int .i64 0, .int .i64 0, .int .i64 0] 25
    rw [hw0, hR]; simpa using h
  have b0 : Below w.heap.size w w0 := by rw [hw0]; exact ((Below.refl _ _).alloc (Nat.le_refl _) _).alloc (by simp) _
  have HRn : Hid (w.heap.size ≠ R) := Lib.hid (by omega)
  have HRl : Hid (w.heap.size ≤ R) := Lib.hid (by omega)
  have HK0 := Lib.hid k0
  have HR0 := Lib.hid r0
  have HB0 := Lib.hid b0
  have HX := Lib.hid hx0
  have HOK := Lib.hid hok
  clear k0 r0 b0 hok hx0
  go_enter Tryz.func111, Tryz.ntmps111
  go_wp2_with fail
  rw [← hw0, ← hR]
  clear hw0 hR
  go_loopw [5] (fun iv wr => ∃ (k0 t0 u0 : Nat), k0 ≤ 6 ∧ iv = .int .i64 (k0 : Int) ∧ Hid (t0 = Fil.orTo Fil.typeW [] x0 a.types k0 ∧ t0 < 64 ∧ u0 = Fil.orTo Fil.typeW Fil.sNon x0 a.ntypes k0 ∧ u0 < 64) ∧ Hid (Blk wr w.heap.size #[.int .i64 (a.zone : Int), .int .i64 (a.who : Int), .int .i64 (a.self : Int), .int .i64 (t0 : Int), .int .i64 (u0 : Int), .int .i64 (a.colors : Int), .int .i64 (a.ncolors : Int), .string fs, .int .i64 (a.keys : Int), .int .i64 (a.tap : Int), .int .i64 a.pow.kind, .int .i64 a.pow.n, .int .i64 a.tough.kind, .int .i64 a.tough.n, .int .i64 a.val.kind, .int .i64 a.val.n] 25) ∧ Hid (Blk wr R #[.int .i64 0, .int .i64 0, .int .i64 0, .int .i64 0, .int .i64 0, .int .i64 0, .int .i64 0, .string ⟨#[]⟩, .int .i64 0, .int .i64 0, .int .i64 0, .int .i64 0, .int .i64 0, .int .i64 0, .int .i64 0, .int .i64 0] 25) ∧ Hid (Below w.heap.size w wr)) (fun iv _ => 6 - (intOf iv).toNat)
  case atStart => exact ⟨0, a.types, a.ntypes, by omega, rfl, Lib.hid ⟨rfl, by have := HOK.out.types; omega, rfl, by have := HOK.out.ntypes; omega⟩, HK0, HR0, HB0⟩
  case round =>
    obtain ⟨k0, t0, u0, hk0, rfl, HQ0, HKW, HRW, HBW⟩ := hrel
    by_cases hl0 : k0 < 6
    · obtain ⟨sx, hsx, ex⟩ := exists_bytes (Fil.typeW k0)
      have HCX : Hid (∀ W, Calls Tryz.prog 61 #[.int .i64 (k0 : Int)] W fun e w' => e = .returned (.string sx) ∧ Below W.heap.size W w') := Lib.hid fun W => by rw [← ex]; exact refTypeWord13 k0 (by omega) W
      have hl1 : sx.size ≤ 1000 := by have := name_type k0; rw [← hsx] at this; simpa using this
      have hcat : ∀ W : World, (Op.stringOp .add ⟨#[110, 111, 110, 45]⟩ sx).run Tryz.prog W = .ok (.string (⟨#[110, 111, 110, 45]⟩ ++ sx)) W := fun W => run_string_add_sum W _ _ (by have : (⟨#[110, 111, 110, 45]⟩ : ByteArray).size = 4 := rfl; omega)
      by_cases het : x0 = [] ++ Fil.typeW k0
      · have htt : (x.toList == sx.toList) = true := bytes_eq (by rw [← HX.out, het, hsx]; rfl)
        have HWt := Lib.hid het
        clear het
        by_cases heu : x0 = Fil.sNon ++ Fil.typeW k0
        · have htu : (x.toList == (⟨#[110, 111, 110, 45]⟩ ++ sx).toList) = true := bytes_eq (by rw [← HX.out, heu, cat_bytes, hsx]; rfl)
          have HWu := Lib.hid heu
          clear heu
          obtain ⟨tn, etn⟩ : ∃ z, z = Fil.setB t0 k0 := ⟨_, rfl⟩
          have HM0 : Hid (∀ W, Calls Tryz.prog 134 #[.int .i64 (t0 : Int), .int .i64 (k0 : Int)] W fun e w' => e = .returned (.int .i64 (tn : Int)) ∧ W = w') := Lib.hid fun W => by rw [etn]; exact refMask13 t0 k0 W (by have := HQ0.out.2.1; omega) (by omega)
          obtain ⟨un, eun⟩ : ∃ z, z = Fil.setB u0 k0 := ⟨_, rfl⟩
          have HM1 : Hid (∀ W, Calls Tryz.prog 134 #[.int .i64 (u0 : Int), .int .i64 (k0 : Int)] W fun e w' => e = .returned (.int .i64 (un : Int)) ∧ W = w') := Lib.hid fun W => by rw [eun]; exact refMask13 u0 k0 W (by have := HQ0.out.2.2.2; omega) (by omega)
          have HQN : Hid (tn = Fil.orTo Fil.typeW [] x0 a.types (k0 + 1) ∧ tn < 64 ∧ un = Fil.orTo Fil.typeW Fil.sNon x0 a.ntypes (k0 + 1) ∧ un < 64) := Lib.hid ⟨by rw [etn, HQ0.out.1, Fil.orTo_yes (by rw [HWt.out])], by rw [etn]; exact Fil.setB_lt (n := 6) HQ0.out.2.1 (by omega), by rw [eun, HQ0.out.2.2.1, Fil.orTo_yes (by rw [HWu.out])], by rw [eun]; exact Fil.setB_lt (n := 6) HQ0.out.2.2.2 (by omega)⟩
          clear etn
          clear eun
          clear hsx ex
          go_wp2_with fail
          refine (HCX.out _).mono ?_
          rintro e wc0 ⟨rfl, hb⟩
          have KC0 := Lib.hid (HKW.out.below hb HKW.out.lt)
          have RC0 := Lib.hid (HRW.out.below hb HRW.out.lt)
          have BC0 := Lib.hid (HBW.out.trans (hb.mono HBW.out.size))
          clear hb
          have yy : wc0.cell? ⟨w.heap.size, 3, none⟩ = some (.int .i64 (t0 : Int)) := KC0.out.cell 3
          have zz := KC0.out.free 3
          go_wp2_with fail
          refine (HM0.out _).mono ?_
          rintro e m0 ⟨rfl, rfl⟩
          obtain ⟨s0, hs0⟩ : ∃ s, s = wc0.setCell ⟨w.heap.size, 3, none⟩ (.int .i64 (tn : Int)) := ⟨_, rfl⟩
          have KS0 : Hid (Blk s0 w.heap.size #[.int .i64 (a.zone : Int), .int .i64 (a.who : Int), .int .i64 (a.self : Int), .int .i64 (tn : Int), .int .i64 (u0 : Int), .int .i64 (a.colors : Int), .int .i64 (a.ncolors : Int), .string fs, .int .i64 (a.keys : Int), .int .i64 (a.tap : Int), .int .i64 a.pow.kind, .int .i64 a.pow.n, .int .i64 a.tough.kind, .int .i64 a.tough.n, .int .i64 a.val.kind, .int .i64 a.val.n] 25) := Lib.hid (by rw [hs0]; exact KC0.out.set 3 _)
          have RS0 : Hid (Blk s0 R #[.int .i64 0, .int .i64 0, .int .i64 0, .int .i64 0, .int .i64 0, .int .i64 0, .int .i64 0, .string ⟨#[]⟩, .int .i64 0, .int .i64 0, .int .i64 0, .int .i64 0, .int .i64 0, .int .i64 0, .int .i64 0, .int .i64 0] 25) := Lib.hid (by rw [hs0]; exact RC0.out.other HRn.out.symm _ _)
          have BS0 : Hid (Below w.heap.size w s0) := Lib.hid (by rw [hs0]; exact BC0.out.setCell (by exact Nat.le_refl _) _)
          go_wp2_with fail
          rw [← hs0]
          clear hs0 yy zz
          refine (HCX.out _).mono ?_
          rintro e wc1 ⟨rfl, hb⟩
          have KC1 := Lib.hid (KS0.out.below hb KS0.out.lt)
          have RC1 := Lib.hid (RS0.out.below hb RS0.out.lt)
          have BC1 := Lib.hid (BS0.out.trans (hb.mono BS0.out.size))
          clear hb
          have yy : wc1.cell? ⟨w.heap.size, 4, none⟩ = some (.int .i64 (u0 : Int)) := KC1.out.cell 4
          have zz := KC1.out.free 4
          go_wp2_with fail
          refine (HM1.out _).mono ?_
          rintro e m1 ⟨rfl, rfl⟩
          obtain ⟨s1, hs1⟩ : ∃ s, s = wc1.setCell ⟨w.heap.size, 4, none⟩ (.int .i64 (un : Int)) := ⟨_, rfl⟩
          have KS1 : Hid (Blk s1 w.heap.size #[.int .i64 (a.zone : Int), .int .i64 (a.who : Int), .int .i64 (a.self : Int), .int .i64 (tn : Int), .int .i64 (un : Int), .int .i64 (a.colors : Int), .int .i64 (a.ncolors : Int), .string fs, .int .i64 (a.keys : Int), .int .i64 (a.tap : Int), .int .i64 a.pow.kind, .int .i64 a.pow.n, .int .i64 a.tough.kind, .int .i64 a.tough.n, .int .i64 a.val.kind, .int .i64 a.val.n] 25) := Lib.hid (by rw [hs1]; exact KC1.out.set 4 _)
          have RS1 : Hid (Blk s1 R #[.int .i64 0, .int .i64 0, .int .i64 0, .int .i64 0, .int .i64 0, .int .i64 0, .int .i64 0, .string ⟨#[]⟩, .int .i64 0, .int .i64 0, .int .i64 0, .int .i64 0, .int .i64 0, .int .i64 0, .int .i64 0, .int .i64 0] 25) := Lib.hid (by rw [hs1]; exact RC1.out.other HRn.out.symm _ _)
          have BS1 : Hid (Below w.heap.size w s1) := Lib.hid (by rw [hs1]; exact BC1.out.setCell (by exact Nat.le_refl _) _)
          go_wp2_with fail
          rw [← hs1]
          clear hs1 yy zz
          go_roundw
          case rel => exact ⟨k0 + 1, tn, un, by omega, by go_num, HQN, KS1, RS1, BS1⟩
          case measure => simp [intOf]; omega
        · have htu : (x.toList == (⟨#[110, 111, 110, 45]⟩ ++ sx).toList) = false := bytes_ne (by rw [← HX.out, cat_bytes, hsx]; exact heu)
          have HNu := Lib.hid heu
          clear heu
          obtain ⟨tn, etn⟩ : ∃ z, z = Fil.setB t0 k0 := ⟨_, rfl⟩
          have HM0 : Hid (∀ W, Calls Tryz.prog 134 #[.int .i64 (t0 : Int), .int .i64 (k0 : Int)] W fun e w' => e = .returned (.int .i64 (tn : Int)) ∧ W = w') := Lib.hid fun W => by rw [etn]; exact refMask13 t0 k0 W (by have := HQ0.out.2.1; omega) (by omega)
          have HQN : Hid (tn = Fil.orTo Fil.typeW [] x0 a.types (k0 + 1) ∧ tn < 64 ∧ u0 = Fil.orTo Fil.typeW Fil.sNon x0 a.ntypes (k0 + 1) ∧ u0 < 64) := Lib.hid ⟨by rw [etn, HQ0.out.1, Fil.orTo_yes (by rw [HWt.out])], by rw [etn]; exact Fil.setB_lt (n := 6) HQ0.out.2.1 (by omega), by rw [HQ0.out.2.2.1]; exact (Fil.orTo_no HNu.out).symm, HQ0.out.2.2.2⟩
          clear etn
          clear hsx ex
          go_wp2_with fail
          refine (HCX.out _).mono ?_
          rintro e wc0 ⟨rfl, hb⟩
          have KC0 := Lib.hid (HKW.out.below hb HKW.out.lt)
          have RC0 := Lib.hid (HRW.out.below hb HRW.out.lt)
          have BC0 := Lib.hid (HBW.out.trans (hb.mono HBW.out.size))
          clear hb
          have yy : wc0.cell? ⟨w.heap.size, 3, none⟩ = some (.int .i64 (t0 : Int)) := KC0.out.cell 3
          have zz := KC0.out.free 3
          go_wp2_with fail
          refine (HM0.out _).mono ?_
          rintro e m0 ⟨rfl, rfl⟩
          obtain ⟨s0, hs0⟩ : ∃ s, s = wc0.setCell ⟨w.heap.size, 3, none⟩ (.int .i64 (tn : Int)) := ⟨_, rfl⟩
          have KS0 : Hid (Blk s0 w.heap.size #[.int .i64 (a.zone : Int), .int .i64 (a.who : Int), .int .i64 (a.self : Int), .int .i64 (tn : Int), .int .i64 (u0 : Int), .int .i64 (a.colors : Int), .int .i64 (a.ncolors : Int), .string fs, .int .i64 (a.keys : Int), .int .i64 (a.tap : Int), .int .i64 a.pow.kind, .int .i64 a.pow.n, .int .i64 a.tough.kind, .int .i64 a.tough.n, .int .i64 a.val.kind, .int .i64 a.val.n] 25) := Lib.hid (by rw [hs0]; exact KC0.out.set 3 _)
          have RS0 : Hid (Blk s0 R #[.int .i64 0, .int .i64 0, .int .i64 0, .int .i64 0, .int .i64 0, .int .i64 0, .int .i64 0, .string ⟨#[]⟩, .int .i64 0, .int .i64 0, .int .i64 0, .int .i64 0, .int .i64 0, .int .i64 0, .int .i64 0, .int .i64 0] 25) := Lib.hid (by rw [hs0]; exact RC0.out.other HRn.out.symm _ _)
          have BS0 : Hid (Below w.heap.size w s0) := Lib.hid (by rw [hs0]; exact BC0.out.setCell (by exact Nat.le_refl _) _)
          go_wp2_with fail
          rw [← hs0]
          clear hs0 yy zz
          refine (HCX.out _).mono ?_
          rintro e wc1 ⟨rfl, hb⟩
          have KC1 := Lib.hid (KS0.out.below hb KS0.out.lt)
          have RC1 := Lib.hid (RS0.out.below hb RS0.out.lt)
          have BC1 := Lib.hid (BS0.out.trans (hb.mono BS0.out.size))
          clear hb
          go_wp2_with fail
          go_roundw
          case rel => exact ⟨k0 + 1, tn, u0, by omega, by go_num, HQN, KC1, RC1, BC1⟩
          case measure => simp [intOf]; omega
      · have htt : (x.toList == sx.toList) = false := bytes_ne (by rw [← HX.out, hsx]; exact het)
        have HNt := Lib.hid het
        clear het
        by_cases heu : x0 = Fil.sNon ++ Fil.typeW k0
        · have htu : (x.toList == (⟨#[110, 111, 110, 45]⟩ ++ sx).toList) = true := bytes_eq (by rw [← HX.out, heu, cat_bytes, hsx]; rfl)
          have HWu := Lib.hid heu
          clear heu
          obtain ⟨un, eun⟩ : ∃ z, z = Fil.setB u0 k0 := ⟨_, rfl⟩
          have HM1 : Hid (∀ W, Calls Tryz.prog 134 #[.int .i64 (u0 : Int), .int .i64 (k0 : Int)] W fun e w' => e = .returned (.int .i64 (un : Int)) ∧ W = w') := Lib.hid fun W => by rw [eun]; exact refMask13 u0 k0 W (by have := HQ0.out.2.2.2; omega) (by omega)
          have HQN : Hid (t0 = Fil.orTo Fil.typeW [] x0 a.types (k0 + 1) ∧ t0 < 64 ∧ un = Fil.orTo Fil.typeW Fil.sNon x0 a.ntypes (k0 + 1) ∧ un < 64) := Lib.hid ⟨by rw [HQ0.out.1]; exact (Fil.orTo_no HNt.out).symm, HQ0.out.2.1, by rw [eun, HQ0.out.2.2.1, Fil.orTo_yes (by rw [HWu.out])], by rw [eun]; exact Fil.setB_lt (n := 6) HQ0.out.2.2.2 (by omega)⟩
          clear eun
          clear hsx ex
          go_wp2_with fail
          refine (HCX.out _).mono ?_
          rintro e wc0 ⟨rfl, hb⟩
          have KC0 := Lib.hid (HKW.out.below hb HKW.out.lt)
          have RC0 := Lib.hid (HRW.out.below hb HRW.out.lt)
          have BC0 := Lib.hid (HBW.out.trans (hb.mono HBW.out.size))
          clear hb
          go_wp2_with fail
          refine (HCX.out _).mono ?_
          rintro e wc1 ⟨rfl, hb⟩
          have KC1 := Lib.hid (KC0.out.below hb KC0.out.lt)
          have RC1 := Lib.hid (RC0.out.below hb RC0.out.lt)
          have BC1 := Lib.hid (BC0.out.trans (hb.mono BC0.out.size))
          clear hb
          have yy : wc1.cell? ⟨w.heap.size, 4, none⟩ = some (.int .i64 (u0 : Int)) := KC1.out.cell 4
          have zz := KC1.out.free 4
          go_wp2_with fail
          refine (HM1.out _).mono ?_
          rintro e m1 ⟨rfl, rfl⟩
          obtain ⟨s1, hs1⟩ : ∃ s, s = wc1.setCell ⟨w.heap.size, 4, none⟩ (.int .i64 (un : Int)) := ⟨_, rfl⟩
          have KS1 : Hid (Blk s1 w.heap.size #[.int .i64 (a.zone : Int), .int .i64 (a.who : Int), .int .i64 (a.self : Int), .int .i64 (t0 : Int), .int .i64 (un : Int), .int .i64 (a.colors : Int), .int .i64 (a.ncolors : Int), .string fs, .int .i64 (a.keys : Int), .int .i64 (a.tap : Int), .int .i64 a.pow.kind, .int .i64 a.pow.n, .int .i64 a.tough.kind, .int .i64 a.tough.n, .int .i64 a.val.kind, .int .i64 a.val.n] 25) := Lib.hid (by rw [hs1]; exact KC1.out.set 4 _)
          have RS1 : Hid (Blk s1 R #[.int .i64 0, .int .i64 0, .int .i64 0, .int .i64 0, .int .i64 0, .int .i64 0, .int .i64 0, .string ⟨#[]⟩, .int .i64 0, .int .i64 0, .int .i64 0, .int .i64 0, .int .i64 0, .int .i64 0, .int .i64 0, .int .i64 0] 25) := Lib.hid (by rw [hs1]; exact RC1.out.other HRn.out.symm _ _)
          have BS1 : Hid (Below w.heap.size w s1) := Lib.hid (by rw [hs1]; exact BC1.out.setCell (by exact Nat.le_refl _) _)
          go_wp2_with fail
          rw [← hs1]
          clear hs1 yy zz
          go_roundw
          case rel => exact ⟨k0 + 1, t0, un, by omega, by go_num, HQN, KS1, RS1, BS1⟩
          case measure => simp [intOf]; omega
        · have htu : (x.toList == (⟨#[110, 111, 110, 45]⟩ ++ sx).toList) = false := bytes_ne (by rw [← HX.out, cat_bytes, hsx]; exact heu)
          have HNu := Lib.hid heu
          clear heu
          have HQN : Hid (t0 = Fil.orTo Fil.typeW [] x0 a.types (k0 + 1) ∧ t0 < 64 ∧ u0 = Fil.orTo Fil.typeW Fil.sNon x0 a.ntypes (k0 + 1) ∧ u0 < 64) := Lib.hid ⟨by rw [HQ0.out.1]; exact (Fil.orTo_no HNt.out).symm, HQ0.out.2.1, by rw [HQ0.out.2.2.1]; exact (Fil.orTo_no HNu.out).symm, HQ0.out.2.2.2⟩
          clear hsx ex
          go_wp2_with fail
          refine (HCX.out _).mono ?_
          rintro e wc0 ⟨rfl, hb⟩
          have KC0 := Lib.hid (HKW.out.below hb HKW.out.lt)
          have RC0 := Lib.hid (HRW.out.below hb HRW.out.lt)
          have BC0 := Lib.hid (HBW.out.trans (hb.mono HBW.out.size))
          clear hb
          go_wp2_with fail
          refine (HCX.out _).mono ?_
          rintro e wc1 ⟨rfl, hb⟩
          have KC1 := Lib.hid (KC0.out.below hb KC0.out.lt)
          have RC1 := Lib.hid (RC0.out.below hb RC0.out.lt)
          have BC1 := Lib.hid (BC0.out.trans (hb.mono BC0.out.size))
          clear hb
          go_wp2_with fail
          go_roundw
          case rel => exact ⟨k0 + 1, t0, u0, by omega, by go_num, HQN, KC1, RC1, BC1⟩
          case measure => simp [intOf]; omega
    · have hke0 : k0 = 6 := by omega
      rw [hke0] at HQ0
      clear hke0
      have HK1 := HKW
      have HR1 := HRW
      have HB1 := HBW
      clear HKW HRW HBW
      go_wp2_with fail
      go_loopw [6] (fun iv wr => ∃ (k1 c1 d1 : Nat), k1 ≤ 5 ∧ iv = .int .i64 (k1 : Int) ∧ Hid (c1 = Fil.orTo Col.name [] x0 a.colors k1 ∧ c1 < 32 ∧ d1 = Fil.orTo Col.name Fil.sNon x0 a.ncolors k1 ∧ d1 < 32) ∧ Hid (Blk wr w.heap.size #[.int .i64 (a.zone : Int), .int .i64 (a.who : Int), .int .i64 (a.self : Int), .int .i64 (t0 : Int), .int .i64 (u0 : Int), .int .i64 (c1 : Int), .int .i64 (d1 : Int), .string fs, .int .i64 (a.keys : Int), .int .i64 (a.tap : Int), .int .i64 a.pow.kind, .int .i64 a.pow.n, .int .i64 a.tough.kind, .int .i64 a.tough.n, .int .i64 a.val.kind, .int .i64 a.val.n] 25) ∧ Hid (Blk wr R #[.int .i64 0, .int .i64 0, .int .i64 0, .int .i64 0, .int .i64 0, .int .i64 0, .int .i64 0, .string ⟨#[]⟩, .int .i64 0, .int .i64 0, .int .i64 0, .int .i64 0, .int .i64 0, .int .i64 0, .int .i64 0, .int .i64 0] 25) ∧ Hid (Below w.heap.size w wr)) (fun iv _ => 5 - (intOf iv).toNat)
      case atStart => exact ⟨0, a.colors, a.ncolors, by omega, rfl, Lib.hid ⟨rfl, by have := HOK.out.colors; omega, rfl, by have := HOK.out.ncolors; omega⟩, HK1, HR1, HB1⟩
      case round =>
        obtain ⟨k1, c1, d1, hk1, rfl, HQ1, HKW, HRW, HBW⟩ := hrel
        by_cases hl1 : k1 < 5
        · obtain ⟨sx, hsx, ex⟩ := exists_bytes (Col.name k1)
          have HCX : Hid (∀ W, Calls Tryz.prog 62 #[.int .i64 (k1 : Int)] W fun e w' => e = .returned (.string sx) ∧ Below W.heap.size W w') := Lib.hid fun W => by rw [← ex]; exact refNameC k1 W
          have hl1 : sx.size ≤ 1000 := by have := name_col k1; rw [← hsx] at this; simpa using this
          have hcat : ∀ W : World, (Op.stringOp .add ⟨#[110, 111, 110, 45]⟩ sx).run Tryz.prog W = .ok (.string (⟨#[110, 111, 110, 45]⟩ ++ sx)) W := fun W => run_string_add_sum W _ _ (by have : (⟨#[110, 111, 110, 45]⟩ : ByteArray).size = 4 := rfl; omega)
          by_cases hec : x0 = [] ++ Col.name k1
          · have htc : (x.toList == sx.toList) = true := bytes_eq (by rw [← HX.out, hec, hsx]; rfl)
            have HWc := Lib.hid hec
            clear hec
            by_cases hed : x0 = Fil.sNon ++ Col.name k1
            · have htd : (x.toList == (⟨#[110, 111, 110, 45]⟩ ++ sx).toList) = true := bytes_eq (by rw [← HX.out, hed, cat_bytes, hsx]; rfl)
              have HWd := Lib.hid hed
              clear hed
              obtain ⟨cn, ecn⟩ : ∃ z, z = Fil.setB c1 k1 := ⟨_, rfl⟩
              have HM0 : Hid (∀ W, Calls Tryz.prog 134 #[.int .i64 (c1 : Int), .int .i64 (k1 : Int)] W fun e w' => e = .returned (.int .i64 (cn : Int)) ∧ W = w') := Lib.hid fun W => by rw [ecn]; exact refMask13 c1 k1 W (by have := HQ1.out.2.1; omega) (by omega)
              obtain ⟨dn, edn⟩ : ∃ z, z = Fil.setB d1 k1 := ⟨_, rfl⟩
              have HM1 : Hid (∀ W, Calls Tryz.prog 134 #[.int .i64 (d1 : Int), .int .i64 (k1 : Int)] W fun e w' => e = .returned (.int .i64 (dn : Int)) ∧ W = w') := Lib.hid fun W => by rw [edn]; exact refMask13 d1 k1 W (by have := HQ1.out.2.2.2; omega) (by omega)
              have HQN : Hid (cn = Fil.orTo Col.name [] x0 a.colors (k1 + 1) ∧ cn < 32 ∧ dn = Fil.orTo Col.name Fil.sNon x0 a.ncolors (k1 + 1) ∧ dn < 32) := Lib.hid ⟨by rw [ecn, HQ1.out.1, Fil.orTo_yes (by rw [HWc.out])], by rw [ecn]; exact Fil.setB_lt (n := 5) HQ1.out.2.1 (by omega), by rw [edn, HQ1.out.2.2.1, Fil.orTo_yes (by rw [HWd.out])], by rw [edn]; exact Fil.setB_lt (n := 5) HQ1.out.2.2.2 (by omega)⟩
              clear ecn
              clear edn
              clear hsx ex
              go_wp2_with fail
              refine (HCX.out _).mono ?_
              rintro e wc0 ⟨rfl, hb⟩
              have KC0 := Lib.hid (HKW.out.below hb HKW.out.lt)
              have RC0 := Lib.hid (HRW.out.below hb HRW.out.lt)
              have BC0 := Lib.hid (HBW.out.trans (hb.mono HBW.out.size))
              clear hb
              have yy : wc0.cell? ⟨w.heap.size, 5, none⟩ = some (.int .i64 (c1 : Int)) := KC0.out.cell 5
              have zz := KC0.out.free 5
              go_wp2_with fail
              refine (HM0.out _).mono ?_
              rintro e m0 ⟨rfl, rfl⟩
              obtain ⟨s0, hs0⟩ : ∃ s, s = wc0.setCell ⟨w.heap.size, 5, none⟩ (.int .i64 (cn : Int)) := ⟨_, rfl⟩
              have KS0 : Hid (Blk s0 w.heap.size #[.int .i64 (a.zone : Int), .int .i64 (a.who : Int), .int .i64 (a.self : Int), .int .i64 (t0 : Int), .int .i64 (u0 : Int), .int .i64 (cn : Int), .int .i64 (d1 : Int), .string fs, .int .i64 (a.keys : Int), .int .i64 (a.tap : Int), .int .i64 a.pow.kind, .int .i64 a.pow.n, .int .i64 a.tough.kind, .int .i64 a.tough.n, .int .i64 a.val.kind, .int .i64 a.val.n] 25) := Lib.hid (by rw [hs0]; exact KC0.out.set 5 _)
              have RS0 : Hid (Blk s0 R #[.int .i64 0, .int .i64 0, .int .i64 0, .int .i64 0, .int .i64 0, .int .i64 0, .int .i64 0, .string ⟨#[]⟩, .int .i64 0, .int .i64 0, .int .i64 0, .int .i64 0, .int .i64 0, .int .i64 0, .int .i64 0, .int .i64 0] 25) := Lib.hid (by rw [hs0]; exact RC0.out.other HRn.out.symm _ _)
              have BS0 : Hid (Below w.heap.size w s0) := Lib.hid (by rw [hs0]; exact BC0.out.setCell (by exact Nat.le_refl _) _)
              go_wp2_with fail
              rw [← hs0]
              clear hs0 yy zz
              refine (HCX.out _).mono ?_
              rintro e wc1 ⟨rfl, hb⟩
              have KC1 := Lib.hid (KS0.out.below hb KS0.out.lt)
              have RC1 := Lib.hid (RS0.out.below hb RS0.out.lt)
              have BC1 := Lib.hid (BS0.out.trans (hb.mono BS0.out.size))
              clear hb
              have yy : wc1.cell? ⟨w.heap.size, 6, none⟩ = some (.int .i64 (d1 : Int)) := KC1.out.cell 6
              have zz := KC1.out.free 6
              go_wp2_with fail
              refine (HM1.out _).mono ?_
              rintro e m1 ⟨rfl, rfl⟩
              obtain ⟨s1, hs1⟩ : ∃ s, s = wc1.setCell ⟨w.heap.size, 6, none⟩ (.int .i64 (dn : Int)) := ⟨_, rfl⟩
              have KS1 : Hid (Blk s1 w.heap.size #[.int .i64 (a.zone : Int), .int .i64 (a.who : Int), .int .i64 (a.self : Int), .int .i64 (t0 : Int), .int .i64 (u0 : Int), .int .i64 (cn : Int), .int .i64 (dn : Int), .string fs, .int .i64 (a.keys : Int), .int .i64 (a.tap : Int), .int .i64 a.pow.kind, .int .i64 a.pow.n, .int .i64 a.tough.kind, .int .i64 a.tough.n, .int .i64 a.val.kind, .int .i64 a.val.n] 25) := Lib.hid (by rw [hs1]; exact KC1.out.set 6 _)
              have RS1 : Hid (Blk s1 R #[.int .i64 0, .int .i64 0, .int .i64 0, .int .i64 0, .int .i64 0, .int .i64 0, .int .i64 0, .string ⟨#[]⟩, .int .i64 0, .int .i64 0, .int .i64 0, .int .i64 0, .int .i64 0, .int .i64 0, .int .i64 0, .int .i64 0] 25) := Lib.hid (by rw [hs1]; exact RC1.out.other HRn.out.symm _ _)
              have BS1 : Hid (Below w.heap.size w s1) := Lib.hid (by rw [hs1]; exact BC1.out.setCell (by exact Nat.le_refl _) _)
              go_wp2_with fail
              rw [← hs1]
              clear hs1 yy zz
              go_roundw
              case rel => exact ⟨k1 + 1, cn, dn, by omega, by go_num, HQN, KS1, RS1, BS1⟩
              case measure => simp [intOf]; omega
            · have htd : (x.toList == (⟨#[110, 111, 110, 45]⟩ ++ sx).toList) = false := bytes_ne (by rw [← HX.out, cat_bytes, hsx]; exact hed)
              have HNd := Lib.hid hed
              clear hed
              obtain ⟨cn, ecn⟩ : ∃ z, z = Fil.setB c1 k1 := ⟨_, rfl⟩
              have HM0 : Hid (∀ W, Calls Tryz.prog 134 #[.int .i64 (c1 : Int), .int .i64 (k1 : Int)] W fun e w' => e = .returned (.int .i64 (cn : Int)) ∧ W = w') := Lib.hid fun W => by rw [ecn]; exact refMask13 c1 k1 W (by have := HQ1.out.2.1; omega) (by omega)
              have HQN : Hid (cn = Fil.orTo Col.name [] x0 a.colors (k1 + 1) ∧ cn < 32 ∧ d1 = Fil.orTo Col.name Fil.sNon x0 a.ncolors (k1 + 1) ∧ d1 < 32) := Lib.hid ⟨by rw [ecn, HQ1.out.1, Fil.orTo_yes (by rw [HWc.out])], by rw [ecn]; exact Fil.setB_lt (n := 5) HQ1.out.2.1 (by omega), by rw [HQ1.out.2.2.1]; exact (Fil.orTo_no HNd.out).symm, HQ1.out.2.2.2⟩
              clear ecn
              clear hsx ex
              go_wp2_with fail
              refine (HCX.out _).mono ?_
              rintro e wc0 ⟨rfl, hb⟩
              have KC0 := Lib.hid (HKW.out.below hb HKW.out.lt)
              have RC0 := Lib.hid (HRW.out.below hb HRW.out.lt)
              have BC0 := Lib.hid (HBW.out.trans (hb.mono HBW.out.size))
              clear hb
              have yy : wc0.cell? ⟨w.heap.size, 5, none⟩ = some (.int .i64 (c1 : Int)) := KC0.out.cell 5
              have zz := KC0.out.free 5
              go_wp2_with fail
              refine (HM0.out _).mono ?_
              rintro e m0 ⟨rfl, rfl⟩
              obtain ⟨s0, hs0⟩ : ∃ s, s = wc0.setCell ⟨w.heap.size, 5, none⟩ (.int .i64 (cn : Int)) := ⟨_, rfl⟩
              have KS0 : Hid (Blk s0 w.heap.size #[.int .i64 (a.zone : Int), .int .i64 (a.who : Int), .int .i64 (a.self : Int), .int .i64 (t0 : Int), .int .i64 (u0 : Int), .int .i64 (cn : Int), .int .i64 (d1 : Int), .string fs, .int .i64 (a.keys : Int), .int .i64 (a.tap : Int), .int .i64 a.pow.kind, .int .i64 a.pow.n, .int .i64 a.tough.kind, .int .i64 a.tough.n, .int .i64 a.val.kind, .int .i64 a.val.n] 25) := Lib.hid (by rw [hs0]; exact KC0.out.set 5 _)
              have RS0 : Hid (Blk s0 R #[.int .i64 0, .int .i64 0, .int .i64 0, .int .i64 0, .int .i64 0, .int .i64 0, .int .i64 0, .string ⟨#[]⟩, .int .i64 0, .int .i64 0, .int .i64 0, .int .i64 0, .int .i64 0, .int .i64 0, .int .i64 0, .int .i64 0] 25) := Lib.hid (by rw [hs0]; exact RC0.out.other HRn.out.symm _ _)
              have BS0 : Hid (Below w.heap.size w s0) := Lib.hid (by rw [hs0]; exact BC0.out.setCell (by exact Nat.le_refl _) _)
              go_wp2_with fail
              rw [← hs0]
              clear hs0 yy zz
              refine (HCX.out _).mono ?_
              rintro e wc1 ⟨rfl, hb⟩
              have KC1 := Lib.hid (KS0.out.below hb KS0.out.lt)
              have RC1 := Lib.hid (RS0.out.below hb RS0.out.lt)
              have BC1 := Lib.hid (BS0.out.trans (hb.mono BS0.out.size))
              clear hb
              go_wp2_with fail
              go_roundw
              case rel => exact ⟨k1 + 1, cn, d1, by omega, by go_num, HQN, KC1, RC1, BC1⟩
              case measure => simp [intOf]; omega
          · have htc : (x.toList == sx.toList) = false := bytes_ne (by rw [← HX.out, hsx]; exact hec)
            have HNc := Lib.hid hec
            clear hec
            by_cases hed : x0 = Fil.sNon ++ Col.name k1
            · have htd : (x.toList == (⟨#[110, 111, 110, 45]⟩ ++ sx).toList) = true := bytes_eq (by rw [← HX.out, hed, cat_bytes, hsx]; rfl)
              have HWd := Lib.hid hed
              clear hed
              obtain ⟨dn, edn⟩ : ∃ z, z = Fil.setB d1 k1 := ⟨_, rfl⟩
              have HM1 : Hid (∀ W, Calls Tryz.prog 134 #[.int .i64 (d1 : Int), .int .i64 (k1 : Int)] W fun e w' => e = .returned (.int .i64 (dn : Int)) ∧ W = w') := Lib.hid fun W => by rw [edn]; exact refMask13 d1 k1 W (by have := HQ1.out.2.2.2; omega) (by omega)
              have HQN : Hid (c1 = Fil.orTo Col.name [] x0 a.colors (k1 + 1) ∧ c1 < 32 ∧ dn = Fil.orTo Col.name Fil.sNon x0 a.ncolors (k1 + 1) ∧ dn < 32) := Lib.hid ⟨by rw [HQ1.out.1]; exact (Fil.orTo_no HNc.out).symm, HQ1.out.2.1, by rw [edn, HQ1.out.2.2.1, Fil.orTo_yes (by rw [HWd.out])], by rw [edn]; exact Fil.setB_lt (n := 5) HQ1.out.2.2.2 (by omega)⟩
              clear edn
              clear hsx ex
              go_wp2_with fail
              refine (HCX.out _).mono ?_
              rintro e wc0 ⟨rfl, hb⟩
              have KC0 := Lib.hid (HKW.out.below hb HKW.out.lt)
              have RC0 := Lib.hid (HRW.out.below hb HRW.out.lt)
              have BC0 := Lib.hid (HBW.out.trans (hb.mono HBW.out.size))
              clear hb
              go_wp2_with fail
              refine (HCX.out _).mono ?_
              rintro e wc1 ⟨rfl, hb⟩
              have KC1 := Lib.hid (KC0.out.below hb KC0.out.lt)
              have RC1 := Lib.hid (RC0.out.below hb RC0.out.lt)
              have BC1 := Lib.hid (BC0.out.trans (hb.mono BC0.out.size))
              clear hb
              have yy : wc1.cell? ⟨w.heap.size, 6, none⟩ = some (.int .i64 (d1 : Int)) := KC1.out.cell 6
              have zz := KC1.out.free 6
              go_wp2_with fail
              refine (HM1.out _).mono ?_
              rintro e m1 ⟨rfl, rfl⟩
              obtain ⟨s1, hs1⟩ : ∃ s, s = wc1.setCell ⟨w.heap.size, 6, none⟩ (.int .i64 (dn : Int)) := ⟨_, rfl⟩
              have KS1 : Hid (Blk s1 w.heap.size #[.int .i64 (a.zone : Int), .int .i64 (a.who : Int), .int .i64 (a.self : Int), .int .i64 (t0 : Int), .int .i64 (u0 : Int), .int .i64 (c1 : Int), .int .i64 (dn : Int), .string fs, .int .i64 (a.keys : Int), .int .i64 (a.tap : Int), .int .i64 a.pow.kind, .int .i64 a.pow.n, .int .i64 a.tough.kind, .int .i64 a.tough.n, .int .i64 a.val.kind, .int .i64 a.val.n] 25) := Lib.hid (by rw [hs1]; exact KC1.out.set 6 _)
              have RS1 : Hid (Blk s1 R #[.int .i64 0, .int .i64 0, .int .i64 0, .int .i64 0, .int .i64 0, .int .i64 0, .int .i64 0, .string ⟨#[]⟩, .int .i64 0, .int .i64 0, .int .i64 0, .int .i64 0, .int .i64 0, .int .i64 0, .int .i64 0, .int .i64 0] 25) := Lib.hid (by rw [hs1]; exact RC1.out.other HRn.out.symm _ _)
              have BS1 : Hid (Below w.heap.size w s1) := Lib.hid (by rw [hs1]; exact BC1.out.setCell (by exact Nat.le_refl _) _)
              go_wp2_with fail
              rw [← hs1]
              clear hs1 yy zz
              go_roundw
              case rel => exact ⟨k1 + 1, c1, dn, by omega, by go_num, HQN, KS1, RS1, BS1⟩
              case measure => simp [intOf]; omega
            · have htd : (x.toList == (⟨#[110, 111, 110, 45]⟩ ++ sx).toList) = false := bytes_ne (by rw [← HX.out, cat_bytes, hsx]; exact hed)
              have HNd := Lib.hid hed
              clear hed
              have HQN : Hid (c1 = Fil.orTo Col.name [] x0 a.colors (k1 + 1) ∧ c1 < 32 ∧ d1 = Fil.orTo Col.name Fil.sNon x0 a.ncolors (k1 + 1) ∧ d1 < 32) := Lib.hid ⟨by rw [HQ1.out.1]; exact (Fil.orTo_no HNc.out).symm, HQ1.out.2.1, by rw [HQ1.out.2.2.1]; exact (Fil.orTo_no HNd.out).symm, HQ1.out.2.2.2⟩
              clear hsx ex
              go_wp2_with fail
              refine (HCX.out _).mono ?_
              rintro e wc0 ⟨rfl, hb⟩
              have KC0 := Lib.hid (HKW.out.below hb HKW.out.lt)
              have RC0 := Lib.hid (HRW.out.below hb HRW.out.lt)
              have BC0 := Lib.hid (HBW.out.trans (hb.mono HBW.out.size))
              clear hb
              go_wp2_with fail
              refine (HCX.out _).mono ?_
              rintro e wc1 ⟨rfl, hb⟩
              have KC1 := Lib.hid (KC0.out.below hb KC0.out.lt)
              have RC1 := Lib.hid (RC0.out.below hb RC0.out.lt)
              have BC1 := Lib.hid (BC0.out.trans (hb.mono BC0.out.size))
              clear hb
              go_wp2_with fail
              go_roundw
              case rel => exact ⟨k1 + 1, c1, d1, by omega, by go_num, HQN, KC1, RC1, BC1⟩
              case measure => simp [intOf]; omega
        · have hke1 : k1 = 5 := by omega
          rw [hke1] at HQ1
          clear hke1
          have HK2 := HKW
          have HR2 := HRW
          have HB2 := HBW
          clear HKW HRW HBW
          go_wp2_with fail
          go_loopw [7] (fun iv wr => ∃ (k2 q2 : Nat), k2 ≤ 17 ∧ iv = .int .i64 (k2 : Int) ∧ Hid (q2 = Fil.orTo Kw.name Fil.sWith x0 a.keys k2 ∧ q2 < 131072) ∧ Hid (Blk wr w.heap.size #[.int .i64 (a.zone : Int), .int .i64 (a.who : Int), .int .i64 (a.self : Int), .int .i64 (t0 : Int), .int .i64 (u0 : Int), .int .i64 (c1 : Int), .int .i64 (d1 : Int), .string fs, .int .i64 (q2 : Int), .int .i64 (a.tap : Int), .int .i64 a.pow.kind, .int .i64 a.pow.n, .int .i64 a.tough.kind, .int .i64 a.tough.n, .int .i64 a.val.kind, .int .i64 a.val.n] 25) ∧ Hid (Blk wr R #[.int .i64 0, .int .i64 0, .int .i64 0, .int .i64 0, .int .i64 0, .int .i64 0, .int .i64 0, .string ⟨#[]⟩, .int .i64 0, .int .i64 0, .int .i64 0, .int .i64 0, .int .i64 0, .int .i64 0, .int .i64 0, .int .i64 0] 25) ∧ Hid (Below w.heap.size w wr)) (fun iv _ => 17 - (intOf iv).toNat)
          case atStart => exact ⟨0, a.keys, by omega, rfl, Lib.hid ⟨rfl, by have := HOK.out.keys; omega⟩, HK2, HR2, HB2⟩
          case round =>
            obtain ⟨k2, q2, hk2, rfl, HQ2, HKW, HRW, HBW⟩ := hrel
            by_cases hl2 : k2 < 17
            · obtain ⟨sx, hsx, ex⟩ := exists_bytes (Kw.name k2)
              have HCX : Hid (∀ W, Calls Tryz.prog 63 #[.int .i64 (k2 : Int)] W fun e w' => e = .returned (.string sx) ∧ Below W.heap.size W w') := Lib.hid fun W => by rw [← ex]; exact refNameK k2 W
              have hl1 : sx.size ≤ 1000 := by have := name_key k2; rw [← hsx] at this; simpa using this
              have hcat : ∀ W : World, (Op.stringOp .add ⟨#[119, 105, 116, 104, 58]⟩ sx).run Tryz.prog W = .ok (.string (⟨#[119, 105, 116, 104, 58]⟩ ++ sx)) W := fun W => run_string_add_sum W _ _ (by have : (⟨#[119, 105, 116, 104, 58]⟩ : ByteArray).size = 5 := rfl; omega)
              by_cases heq : x0 = Fil.sWith ++ Kw.name k2
              · have htq : (x.toList == (⟨#[119, 105, 116, 104, 58]⟩ ++ sx).toList) = true := bytes_eq (by rw [← HX.out, heq, cat_bytes, hsx]; rfl)
                have HWq := Lib.hid heq
                clear heq
                obtain ⟨qn, eqn⟩ : ∃ z, z = Fil.setB q2 k2 := ⟨_, rfl⟩
                have HM0 : Hid (∀ W, Calls Tryz.prog 134 #[.int .i64 (q2 : Int), .int .i64 (k2 : Int)] W fun e w' => e = .returned (.int .i64 (qn : Int)) ∧ W = w') := Lib.hid fun W => by rw [eqn]; exact refMask13 q2 k2 W (by have := HQ2.out.2; omega) (by omega)
                have HQN : Hid (qn = Fil.orTo Kw.name Fil.sWith x0 a.keys (k2 + 1) ∧ qn < 131072) := Lib.hid ⟨by rw [eqn, HQ2.out.1, Fil.orTo_yes (by rw [HWq.out])], by rw [eqn]; exact Fil.setB_lt (n := 17) HQ2.out.2 (by omega)⟩
                clear eqn
                clear hsx ex
                go_wp2_with fail
                refine (HCX.out _).mono ?_
                rintro e wc0 ⟨rfl, hb⟩
                have KC0 := Lib.hid (HKW.out.below hb HKW.out.lt)
                have RC0 := Lib.hid (HRW.out.below hb HRW.out.lt)
                have BC0 := Lib.hid (HBW.out.trans (hb.mono HBW.out.size))
                clear hb
                have yy : wc0.cell? ⟨w.heap.size, 8, none⟩ = some (.int .i64 (q2 : Int)) := KC0.out.cell 8
                have zz := KC0.out.free 8
                go_wp2_with fail
                refine (HM0.out _).mono ?_
                rintro e m0 ⟨rfl, rfl⟩
                obtain ⟨s0, hs0⟩ : ∃ s, s = wc0.setCell ⟨w.heap.size, 8, none⟩ (.int .i64 (qn : Int)) := ⟨_, rfl⟩
                have KS0 : Hid (Blk s0 w.heap.size #[.int .i64 (a.zone : Int), .int .i64 (a.who : Int), .int .i64 (a.self : Int), .int .i64 (t0 : Int), .int .i64 (u0 : Int), .int .i64 (c1 : Int), .int .i64 (d1 : Int), .string fs, .int .i64 (qn : Int), .int .i64 (a.tap : Int), .int .i64 a.pow.kind, .int .i64 a.pow.n, .int .i64 a.tough.kind, .int .i64 a.tough.n, .int .i64 a.val.kind, .int .i64 a.val.n] 25) := Lib.hid (by rw [hs0]; exact KC0.out.set 8 _)
                have RS0 : Hid (Blk s0 R #[.int .i64 0, .int .i64 0, .int .i64 0, .int .i64 0, .int .i64 0, .int .i64 0, .int .i64 0, .string ⟨#[]⟩, .int .i64 0, .int .i64 0, .int .i64 0, .int .i64 0, .int .i64 0, .int .i64 0, .int .i64 0, .int .i64 0] 25) := Lib.hid (by rw [hs0]; exact RC0.out.other HRn.out.symm _ _)
                have BS0 : Hid (Below w.heap.size w s0) := Lib.hid (by rw [hs0]; exact BC0.out.setCell (by exact Nat.le_refl _) _)
                go_wp2_with fail
                rw [← hs0]
                clear hs0 yy zz
                go_roundw
                case rel => exact ⟨k2 + 1, qn, by omega, by go_num, HQN, KS0, RS0, BS0⟩
                case measure => simp [intOf]; omega
              · have htq : (x.toList == (⟨#[119, 105, 116, 104, 58]⟩ ++ sx).toList) = false := bytes_ne (by rw [← HX.out, cat_bytes, hsx]; exact heq)
                have HNq := Lib.hid heq
                clear heq
                have HQN : Hid (q2 = Fil.orTo Kw.name Fil.sWith x0 a.keys (k2 + 1) ∧ q2 < 131072) := Lib.hid ⟨by rw [HQ2.out.1]; exact (Fil.orTo_no HNq.out).symm, HQ2.out.2⟩
                clear hsx ex
                go_wp2_with fail
                refine (HCX.out _).mono ?_
                rintro e wc0 ⟨rfl, hb⟩
                have KC0 := Lib.hid (HKW.out.below hb HKW.out.lt)
                have RC0 := Lib.hid (HRW.out.below hb HRW.out.lt)
                have BC0 := Lib.hid (HBW.out.trans (hb.mono HBW.out.size))
                clear hb
                go_wp2_with fail
                go_roundw
                case rel => exact ⟨k2 + 1, q2, by omega, by go_num, HQN, KC0, RC0, BC0⟩
                case measure => simp [intOf]; omega
            · have hke2 : k2 = 17 := by omega
              rw [hke2] at HQ2
              clear hke2
              have HF : Hid ((⟨a.zone, a.who, a.self, t0, u0, c1, d1, a.sub, q2, a.tap, a.pow, a.tough, a.val⟩ : Fil.Acc) = Fil.namedN a x0) := Lib.hid (by rw [HQ0.out.1, HQ0.out.2.2.1, HQ1.out.1, HQ1.out.2.2.1, HQ2.out.1]; rfl)
              go_upto_region 20 with fail
              refine wp_region_lit (wpList_load_row rfl 25 (.tmp 2) rfl w.heap.size rfl 25 #[.int .i64 (a.zone : Int), .int .i64 (a.who : Int), .int .i64 (a.self : Int), .int .i64 (t0 : Int), .int .i64 (u0 : Int), .int .i64 (c1 : Int), .int .i64 (d1 : Int), .string fs, .int .i64 (q2 : Int), .int .i64 (a.tap : Int), .int .i64 a.pow.kind, .int .i64 a.pow.n, .int .i64 a.tough.kind, .int .i64 a.tough.n, .int .i64 a.val.kind, .int .i64 a.val.n] (0, 0) _ HKW.out Tryz.underlying25 rfl (by rw [sizeTF]; rfl) ?_)
              refine wpList_store_mid rfl 25 (.tmp 4) (.tmp 68) rfl R 0 #[.int .i64 (a.zone : Int), .int .i64 (a.who : Int), .int .i64 (a.self : Int), .int .i64 (t0 : Int), .int .i64 (u0 : Int), .int .i64 (c1 : Int), .int .i64 (d1 : Int), .string fs, .int .i64 (q2 : Int), .int .i64 (a.tap : Int), .int .i64 a.pow.kind, .int .i64 a.pow.n, .int .i64 a.tough.kind, .int .i64 a.tough.n, .int .i64 a.val.kind, .int .i64 a.val.n] rfl rfl HRW.out.there (by rw [sizeTF]; rfl) (by simp [Value.oneCell']) ?_
              change wpList _ _ _ _ _ (set16 wr R ⟨a.zone, a.who, a.self, t0, u0, c1, d1, a.sub, q2, a.tap, a.pow, a.tough, a.val⟩ fs)
              have hB : Blk (set16 wr R ⟨a.zone, a.who, a.self, t0, u0, c1, d1, a.sub, q2, a.tap, a.pow, a.tough, a.val⟩ fs) R #[.int .i64 (a.zone : Int), .int .i64 (a.who : Int), .int .i64 (a.self : Int), .int .i64 (t0 : Int), .int .i64 (u0 : Int), .int .i64 (c1 : Int), .int .i64 (d1 : Int), .string fs, .int .i64 (q2 : Int), .int .i64 (a.tap : Int), .int .i64 a.pow.kind, .int .i64 a.pow.n, .int .i64 a.tough.kind, .int .i64 a.tough.n, .int .i64 a.val.kind, .int .i64 a.val.n] 25 := Blk.set16 (a := Fil.zeroA) (fs := ⟨#[]⟩) HRW.out ⟨a.zone, a.who, a.self, t0, u0, c1, d1, a.sub, q2, a.tap, a.pow, a.tough, a.val⟩ fs
              have hBel : Hid (Below w.heap.size w (set16 wr R ⟨a.zone, a.who, a.self, t0, u0, c1, d1, a.sub, q2, a.tap, a.pow, a.tough, a.val⟩ fs)) := Lib.hid (below16 HBW.out HRl.out)
              generalize set16 wr R ⟨a.zone, a.who, a.self, t0, u0, c1, d1, a.sub, q2, a.tap, a.pow, a.tough, a.val⟩ fs = wf at hB hBel ⊢
              have g0 : wf.cell? ⟨R, 0, none⟩ = some (.int .i64 (a.zone : Int)) := hB.cell 0
              have g1 : wf.cell? ⟨R, 1, none⟩ = some (.int .i64 (a.who : Int)) := hB.cell 1
              have g2 : wf.cell? ⟨R, 2, none⟩ = some (.int .i64 (a.self : Int)) := hB.cell 2
              have g3 : wf.cell? ⟨R, 3, none⟩ = some (.int .i64 (t0 : Int)) := hB.cell 3
              have g4 : wf.cell? ⟨R, 4, none⟩ = some (.int .i64 (u0 : Int)) := hB.cell 4
              have g5 : wf.cell? ⟨R, 5, none⟩ = some (.int .i64 (c1 : Int)) := hB.cell 5
              have g6 : wf.cell? ⟨R, 6, none⟩ = some (.int .i64 (d1 : Int)) := hB.cell 6
              have g7 : wf.cell? ⟨R, 7, none⟩ = some (.string fs) := hB.cell 7
              have g8 : wf.cell? ⟨R, 8, none⟩ = some (.int .i64 (q2 : Int)) := hB.cell 8
              have g9 : wf.cell? ⟨R, 9, none⟩ = some (.int .i64 (a.tap : Int)) := hB.cell 9
              have g10 : wf.cell? ⟨R, 10, none⟩ = some (.int .i64 a.pow.kind) := hB.cell 10
              have g11 : wf.cell? ⟨R, 11, none⟩ = some (.int .i64 a.pow.n) := hB.cell 11
              have g12 : wf.cell? ⟨R, 12, none⟩ = some (.int .i64 a.tough.kind) := hB.cell 12
              have g13 : wf.cell? ⟨R, 13, none⟩ = some (.int .i64 a.tough.n) := hB.cell 13
              have g14 : wf.cell? ⟨R, 14, none⟩ = some (.int .i64 a.val.kind) := hB.cell 14
              have g15 : wf.cell? ⟨R, 15, none⟩ = some (.int .i64 a.val.n) := hB.cell 15
              go_wp2_with fail
              exact bodyPost_ret (v := .agg #[.int .i64 (a.zone : Int), .int .i64 (a.who : Int), .int .i64 (a.self : Int), .int .i64 (t0 : Int), .int .i64 (u0 : Int), .int .i64 (c1 : Int), .int .i64 (d1 : Int), .string fs, .int .i64 (q2 : Int), .int .i64 (a.tap : Int), .int .i64 a.pow.kind, .int .i64 a.pow.n, .int .i64 a.tough.kind, .int .i64 a.tough.n, .int .i64 a.val.kind, .int .i64 a.val.n]) (by simp [results, Tryz.results111, go_sem, g0, g1, g2, g3, g4, g5, g6, g7, g8, g9, g10, g11, g12, g13, g14, g15]) rfl ⟨by rw [← HF.out], hBel.out⟩
end Go.Proofs.YtkohfomiigcifaaGreatDoor
