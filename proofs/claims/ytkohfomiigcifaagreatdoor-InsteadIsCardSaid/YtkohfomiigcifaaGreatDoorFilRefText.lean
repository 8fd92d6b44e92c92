/-
  CONTRACT OF LAYER 13's REFERENCE: Text. By an AI agent.
-/
import Derived.Test.YtkohfomiigcifaaGreatDoorFilRefIs
import Derived.Test.YtkohfomiigcifaaGreatDoorFilRefTab
import Derived.Test.YtkohfomiigcifaaGreatDoorFilText
namespace Go.Proofs.YtkohfomiigcifaaGreatDoor
open Go.RowKit
open Wd (Bs)

theorem parts_left {a : Fil.Acc} : (((((((((((([] ++ Fil.one (Fil.tbl Fil.zonesL a.zone)) ++ Fil.one (Fil.tbl Fil.whoL a.who)) ++ Fil.one (Fil.tbl Fil.selfL a.self)) ++ Fil.maskW Fil.typeW [] a.types 6) ++ Fil.maskW Fil.typeW Fil.sNon a.ntypes 6) ++ Fil.maskW Col.name [] a.colors 5) ++
    Fil.maskW Col.name Fil.sNon a.ncolors 5) ++ Fil.one (Fil.subW a.sub)) ++ Fil.maskW Kw.name Fil.sWith a.keys 17) ++ Fil.one (Fil.tbl Fil.tapL a.tap)) ++ Fil.one (Fil.bdW Fil.sPow a.pow)) ++ Fil.one (Fil.bdW Fil.sTough a.tough)) ++ Fil.one (Fil.bdW Fil.sVal a.val) = Fil.parts a.flt := by
  simp only [List.append_assoc, List.nil_append]
  show _ = Fil.one (Fil.tbl Fil.zonesL a.zone) ++ (Fil.one (Fil.tbl Fil.whoL a.who) ++ (Fil.one (Fil.tbl Fil.selfL a.self) ++ (Fil.maskW Fil.typeW [] a.types 6 ++ (Fil.maskW Fil.typeW Fil.sNon a.ntypes 6 ++ (Fil.maskW Col.name [] a.colors 5 ++ (Fil.maskW Col.name Fil.sNon a.ncolors 5 ++
    (Fil.one (Fil.subW a.sub) ++ (Fil.maskW Kw.name Fil.sWith a.keys 17 ++ (Fil.one (Fil.tbl Fil.tapL a.tap) ++ (Fil.one (Fil.bdW Fil.sPow a.pow) ++ (Fil.one (Fil.bdW Fil.sTough a.tough) ++ (Fil.one (Fil.bdW Fil.sVal a.val) ++ []))))))))))))
  rw [List.append_nil]
theorem one_len1 (x : Bs) : (Fil.one x).length ≤ 1 := one_len x
set_option maxHeartbeats 16000000 in
set_option maxRecDepth 100000 in
theorem refTextA (a : Fil.Acc) (fs : ByteArray) (hf : a.sub = fs.data.toList) (hvb : Fil.validB a.flt = true) (w : World) :
    Calls Tryz.prog 34 #[.agg #[.int .i64 (a.zone : Int), .int .i64 (a.who : Int), .int .i64 (a.self : Int), .int .i64 (a.types : Int), .int .i64 (a.ntypes : Int), .int .i64 (a.colors : Int), .int .i64 (a.ncolors : Int), .string fs, .int .i64 (a.keys : Int), .int .i64 (a.tap : Int), .int .i64 a.pow.kind, .int .i64 a.pow.n, .int .i64 a.tough.kind, .int .i64 a.tough.n, .int .i64 a.val.kind, .int .i64 a.val.n]] w fun e w' => e = .returned (str (Fil.textF a.flt)) ∧ Below w.heap.size w w' := by
  have hV := Fil.valid_of hvb
  have hfl : fs.size ≤ 32 := by have := sub_len hV.sub; change a.sub.length ≤ 32 at this; rw [hf] at this; simpa using this
  obtain ⟨w0, hw0⟩ : ∃ w0, w0 = w.alloc (.cells #[.int .i64 (a.zone : Int), .int .i64 (a.who : Int), .int .i64 (a.self : Int), .int .i64 (a.types : Int), .int .i64 (a.ntypes : Int), .int .i64 (a.colors : Int), .int .i64 (a.ncolors : Int), .string fs, .int .i64 (a.keys : Int), .int .i64 (a.tap : Int), .int .i64 a.pow.kind, .int .i64 a.pow.n, .int .i64 a.tough.kind, .int .i64 a.tough.n, .int .i64 a.val.kind, .int .i64 a.val.n] 25) := ⟨_, rfl⟩
  have hb0 : Below w.heap.size w w0 := by rw [hw0]; exact (Below.refl _ _).alloc (Nat.le_refl _) _
  have hloc : w.heap.size < w0.heap.size := by rw [hw0]; simp
  have BX : Hid (Box w0 w.heap.size a fs) := Lib.hid (by rw [hw0]; exact Box.new w a fs)
  have HC := Lib.hid (refIs13 a.flt fs hf (by unfold maxLen; omega) w0)
  rw [hvb] at HC
  have HB := Lib.hid hb0
  have b_zone : (a.zone : Int) < 6 := by have := hV.zone.2; change (a.zone : Int) ≤ 5 at this; omega
  have z_zone : (0 : Int) ≤ (a.zone : Int) := by omega
  have n_zone : a.zone < 6 := by omega
  have b_who : (a.who : Int) < 3 := by have := hV.who.2; change (a.who : Int) ≤ 2 at this; omega
  have z_who : (0 : Int) ≤ (a.who : Int) := by omega
  have n_who : a.who < 3 := by omega
  have b_self : (a.self : Int) < 3 := by have := hV.self.2; change (a.self : Int) ≤ 2 at this; omega
  have z_self : (0 : Int) ≤ (a.self : Int) := by omega
  have n_self : a.self < 3 := by omega
  have b_tap : (a.tap : Int) < 3 := by have := hV.tap.2; change (a.tap : Int) ≤ 2 at this; omega
  have z_tap : (0 : Int) ≤ (a.tap : Int) := by omega
  have n_tap : a.tap < 3 := by omega
  have m_types : Hid ((a.types : Int) ≤ 9223372036854775807) := Lib.hid (by have := hV.types.2; change (a.types : Int) ≤ 63 at this; omega)
  have m_ntypes : Hid ((a.ntypes : Int) ≤ 9223372036854775807) := Lib.hid (by have := hV.ntypes.2; change (a.ntypes : Int) ≤ 63 at this; omega)
  have m_colors : Hid ((a.colors : Int) ≤ 9223372036854775807) := Lib.hid (by have := hV.colors.2; change (a.colors : Int) ≤ 31 at this; omega)
  have m_ncolors : Hid ((a.ncolors : Int) ≤ 9223372036854775807) := Lib.hid (by have := hV.ncolors.2; change (a.ncolors : Int) ≤ 31 at this; omega)
  have m_keys : Hid ((a.keys : Int) ≤ 9223372036854775807) := Lib.hid (by have := hV.keys.2; change (a.keys : Int) ≤ 131071 at this; omega)
  obtain ⟨s0, hs0, es0⟩ := exists_bytes (Fil.tbl Fil.zonesL a.zone)
  obtain ⟨s1, hs1, es1⟩ := exists_bytes (Fil.tbl Fil.whoL a.who)
  obtain ⟨s2, hs2, es2⟩ := exists_bytes (Fil.tbl Fil.selfL a.self)
  obtain ⟨s9, hs9, es9⟩ := exists_bytes (Fil.tbl Fil.tapL a.tap)
  obtain ⟨sp, hsp, esp⟩ := exists_bytes (Fil.bdW Fil.sPow a.pow)
  obtain ⟨st, hst, est⟩ := exists_bytes (Fil.bdW Fil.sTough a.tough)
  obtain ⟨sv, hsv, esv⟩ := exists_bytes (Fil.bdW Fil.sVal a.val)
  have X0 := Lib.hid (show Fil.zonesL[a.zone]? = some s0.data.toList by rw [hs0]; exact zone_at (by omega))
  have X1 := Lib.hid (show Fil.whoL[a.who]? = some s1.data.toList by rw [hs1]; exact who_at (by omega))
  have X2 := Lib.hid (show Fil.selfL[a.self]? = some s2.data.toList by rw [hs2]; exact self_at (by omega))
  have X9 := Lib.hid (show Fil.tapL[a.tap]? = some s9.data.toList by rw [hs9]; exact tap_at (by omega))
  have Pp : Hid (∀ W, Calls Tryz.prog 64 #[.string ⟨#[112, 111, 119, 101, 114]⟩, .agg #[.int .i64 a.pow.kind, .int .i64 a.pow.n]] W fun e w' => e = .returned (.string sp) ∧ Below W.heap.size W w') := Lib.hid fun W => by rw [← esp]; exact refBoundWord _ a.pow W (by decide) hV.pow
  have Pt : Hid (∀ W, Calls Tryz.prog 64 #[.string ⟨#[116, 111, 117, 103, 104]⟩, .agg #[.int .i64 a.tough.kind, .int .i64 a.tough.n]] W fun e w' => e = .returned (.string st) ∧ Below W.heap.size W w') := Lib.hid fun W => by rw [← est]; exact refBoundWord _ a.tough W (by decide) hV.tough
  have Pv : Hid (∀ W, Calls Tryz.prog 64 #[.string ⟨#[118, 97, 108, 117, 101]⟩, .agg #[.int .i64 a.val.kind, .int .i64 a.val.n]] W fun e w' => e = .returned (.string sv) ∧ Below W.heap.size W w') := Lib.hid fun W => by rw [← esv]; exact refBoundWord _ a.val W (by decide) hV.val
  obtain ⟨ps, hps⟩ : ∃ ps, ps = Fil.parts a.flt := ⟨_, rfl⟩
  have HT : Hid (Fil.textF a.flt = Fil.textP ps) := Lib.hid (by rw [hps]; exact Fil.textF_valid hvb)
  have HZ : Hid ((Lib.join ps [32]).length ≤ 4000) := Lib.hid (by rw [hps]; exact text_len hV)
  have HPE := Lib.hid (parts_left (a := a))
  rw [← hps, ← hs0, ← hs1, ← hs2, ← hs9, ← hsp, ← hst, ← hsv, hf] at HPE
  have HL := Lib.hid hloc
  clear hps hvb hV hb0 hs0 hs1 hs2 hs9 hsp hst hsv es0 es1 es2 es9 esp est esv hf
  go_enter Tryz.func34, Tryz.ntmps34
  go_wp2_with fail
  rw [← hw0]
  clear hw0
  refine HC.out.mono ?_
  rintro e w1 ⟨rfl, hb1⟩
  have B1 := Lib.hid hb1
  clear hb1
  go_wp2_with fail
  refine (rtab_zonesL _).mono ?_
  rintro e u0 ⟨rfl, hu⟩
  have hbu : Below w1.heap.size w1 u0 := by rw [hu]; exact (Below.refl _ _).alloc (Nat.le_refl _) _
  have BU0 := Lib.hid (B1.out.trans (hbu.mono B1.out.size))
  have KT0 : Hid (u0.cell? ⟨w1.heap.size, a.zone, none⟩ = some (.string s0) ∧ w1.heap.size < u0.heap.size) := Lib.hid ⟨by rw [hu]; simp [X0.out]; rfl, by rw [hu]; simp⟩
  clear hu hbu
  go_wp2_with fail
  refine (rtab_whoL _).mono ?_
  rintro e u1 ⟨rfl, hu⟩
  have hbu : Below u0.heap.size u0 u1 := by rw [hu]; exact (Below.refl _ _).alloc (Nat.le_refl _) _
  have BU1 := Lib.hid (BU0.out.trans (hbu.mono BU0.out.size))
  have KT1 : Hid (u1.cell? ⟨u0.heap.size, a.who, none⟩ = some (.string s1) ∧ u0.heap.size < u1.heap.size) := Lib.hid ⟨by rw [hu]; simp [X1.out]; rfl, by rw [hu]; simp⟩
  have KT0 : Hid (u1.cell? ⟨w1.heap.size, a.zone, none⟩ = some (.string s0) ∧ w1.heap.size < u1.heap.size) := Lib.hid ⟨(hbu.cell (p := ⟨w1.heap.size, a.zone, none⟩) KT0.out.2).trans KT0.out.1, Nat.lt_of_lt_of_le KT0.out.2 hbu.size⟩
  clear hu hbu
  go_wp2_with fail
  refine (rtab_selfL _).mono ?_
  rintro e u2 ⟨rfl, hu⟩
  have hbu : Below u1.heap.size u1 u2 := by rw [hu]; exact (Below.refl _ _).alloc (Nat.le_refl _) _
  have BU2 := Lib.hid (BU1.out.trans (hbu.mono BU1.out.size))
  have KT2 : Hid (u2.cell? ⟨u1.heap.size, a.self, none⟩ = some (.string s2) ∧ u1.heap.size < u2.heap.size) := Lib.hid ⟨by rw [hu]; simp [X2.out]; rfl, by rw [hu]; simp⟩
  have KT0 : Hid (u2.cell? ⟨w1.heap.size, a.zone, none⟩ = some (.string s0) ∧ w1.heap.size < u2.heap.size) := Lib.hid ⟨(hbu.cell (p := ⟨w1.heap.size, a.zone, none⟩) KT0.out.2).trans KT0.out.1, Nat.lt_of_lt_of_le KT0.out.2 hbu.size⟩
  have KT1 : Hid (u2.cell? ⟨u0.heap.size, a.who, none⟩ = some (.string s1) ∧ u0.heap.size < u2.heap.size) := Lib.hid ⟨(hbu.cell (p := ⟨u0.heap.size, a.who, none⟩) KT1.out.2).trans KT1.out.1, Nat.lt_of_lt_of_le KT1.out.2 hbu.size⟩
  clear hu hbu
  go_wp2_with fail
  refine (rtab_tapL _).mono ?_
  rintro e u3 ⟨rfl, hu⟩
  have hbu : Below u2.heap.size u2 u3 := by rw [hu]; exact (Below.refl _ _).alloc (Nat.le_refl _) _
  have BU3 := Lib.hid (BU2.out.trans (hbu.mono BU2.out.size))
  have KT3 : Hid (u3.cell? ⟨u2.heap.size, a.tap, none⟩ = some (.string s9) ∧ u2.heap.size < u3.heap.size) := Lib.hid ⟨by rw [hu]; simp [X9.out]; rfl, by rw [hu]; simp⟩
  have KT0 : Hid (u3.cell? ⟨w1.heap.size, a.zone, none⟩ = some (.string s0) ∧ w1.heap.size < u3.heap.size) := Lib.hid ⟨(hbu.cell (p := ⟨w1.heap.size, a.zone, none⟩) KT0.out.2).trans KT0.out.1, Nat.lt_of_lt_of_le KT0.out.2 hbu.size⟩
  have KT1 : Hid (u3.cell? ⟨u0.heap.size, a.who, none⟩ = some (.string s1) ∧ u0.heap.size < u3.heap.size) := Lib.hid ⟨(hbu.cell (p := ⟨u0.heap.size, a.who, none⟩) KT1.out.2).trans KT1.out.1, Nat.lt_of_lt_of_le KT1.out.2 hbu.size⟩
  have KT2 : Hid (u3.cell? ⟨u1.heap.size, a.self, none⟩ = some (.string s2) ∧ u1.heap.size < u3.heap.size) := Lib.hid ⟨(hbu.cell (p := ⟨u1.heap.size, a.self, none⟩) KT2.out.2).trans KT2.out.1, Nat.lt_of_lt_of_le KT2.out.2 hbu.size⟩
  clear hu hbu
  have BXT := Lib.hid (BX.out.below BU3.out HL.out)
  have HLT : Hid (w.heap.size < u3.heap.size) := Lib.hid (Nat.lt_of_lt_of_le HL.out BU3.out.size)
  clear BX B1 BU0 BU1 BU2
  obtain ⟨l0, hl0⟩ : ∃ l : List Bs, l = [] := ⟨_, rfl⟩
  have E0 := Lib.hid hl0
  have N0 : Hid (l0.length ≤ 0) := Lib.hid (by rw [hl0]; simp)
  have HO : Hid (OwnStrs u3.heap.size u3 (.slice none 0 0) l0) := Lib.hid (by rw [hl0]; exact OwnStrs.nil _ _)
  have BW : Hid (Below u3.heap.size u3 u3) := Lib.hid (Below.refl _ _)
  clear hl0
  have c0 : u3.cell? ⟨w.heap.size, 0, none⟩ = some (.int .i64 (a.zone : Int)) := (BW.out.cell (p := ⟨w.heap.size, 0, none⟩) HLT.out).trans BXT.out.c0
  have d0 : u3.cell? ⟨w1.heap.size, a.zone, none⟩ = some (.string s0) := (BW.out.cell (p := ⟨w1.heap.size, a.zone, none⟩) KT0.out.2).trans KT0.out.1
  have HA := Lib.hid (fun v (hv : OwnStrs u3.heap.size u3 v l0) => refAdd13 s0 hv BW.out (by have := N0.out; omega) BW.out.size)
  go_wp2_with fail
  refine (HA.out _ HO.out).mono ?_
  rintro e w2 ⟨v2, rfl, ho, hb⟩
  clear c0 d0 HA HO BW
  obtain ⟨l1, hl⟩ : ∃ l : List Bs, l = l0 ++ Fil.one s0.data.toList := ⟨_, rfl⟩
  rw [← hl] at ho
  have E1 := Lib.hid hl
  have N1 : Hid (l1.length ≤ 1) := Lib.hid (by rw [hl, List.length_append]; have := N0.out; have := one_len1 s0.data.toList; omega)
  clear hl
  have HO := Lib.hid ho
  have BW := Lib.hid hb
  clear ho hb
  have c1 : w2.cell? ⟨w.heap.size, 1, none⟩ = some (.int .i64 (a.who : Int)) := (BW.out.cell (p := ⟨w.heap.size, 1, none⟩) HLT.out).trans BXT.out.c1
  have d1 : w2.cell? ⟨u0.heap.size, a.who, none⟩ = some (.string s1) := (BW.out.cell (p := ⟨u0.heap.size, a.who, none⟩) KT1.out.2).trans KT1.out.1
  have HA := Lib.hid (fun v (hv : OwnStrs u3.heap.size w2 v l1) => refAdd13 s1 hv BW.out (by have := N1.out; omega) BW.out.size)
  go_wp2_with fail
  refine (HA.out _ HO.out).mono ?_
  rintro e w3 ⟨v3, rfl, ho, hb⟩
  clear c1 d1 HA HO BW
  obtain ⟨l2, hl⟩ : ∃ l : List Bs, l = l1 ++ Fil.one s1.data.toList := ⟨_, rfl⟩
  rw [← hl] at ho
  have E2 := Lib.hid hl
  have N2 : Hid (l2.length ≤ 2) := Lib.hid (by rw [hl, List.length_append]; have := N1.out; have := one_len1 s1.data.toList; omega)
  clear hl
  have HO := Lib.hid ho
  have BW := Lib.hid hb
  clear ho hb
  have c2 : w3.cell? ⟨w.heap.size, 2, none⟩ = some (.int .i64 (a.self : Int)) := (BW.out.cell (p := ⟨w.heap.size, 2, none⟩) HLT.out).trans BXT.out.c2
  have d2 : w3.cell? ⟨u1.heap.size, a.self, none⟩ = some (.string s2) := (BW.out.cell (p := ⟨u1.heap.size, a.self, none⟩) KT2.out.2).trans KT2.out.1
  have HA := Lib.hid (fun v (hv : OwnStrs u3.heap.size w3 v l2) => refAdd13 s2 hv BW.out (by have := N2.out; omega) BW.out.size)
  go_wp2_with fail
  refine (HA.out _ HO.out).mono ?_
  rintro e w4 ⟨v4, rfl, ho, hb⟩
  clear c2 d2 HA HO BW
  obtain ⟨l3, hl⟩ : ∃ l : List Bs, l = l2 ++ Fil.one s2.data.toList := ⟨_, rfl⟩
  rw [← hl] at ho
  have E3 := Lib.hid hl
  have N3 : Hid (l3.length ≤ 3) := Lib.hid (by rw [hl, List.length_append]; have := N2.out; have := one_len1 s2.data.toList; omega)
  clear hl
  have HO := Lib.hid ho
  have BW := Lib.hid hb
  clear ho hb
  have HM := Lib.hid (fun k (hk : k ≤ 6) W => refBit13 a.types k W m_types.out (by omega))
  go_wp2_with fail
  go_loopw [7, 8] (fun pv iv wr => ∃ k : Nat, k ≤ 6 ∧ iv = .int .i64 (k : Int) ∧ OwnStrs u3.heap.size wr pv (l3 ++ Fil.maskW Fil.typeW [] a.types k) ∧ Below u3.heap.size u3 wr) (fun _ iv _ => 6 - (intOf iv).toNat)
  case atStart => exact ⟨0, by omega, rfl, by show OwnStrs _ _ _ (l3 ++ []); rw [List.append_nil]; exact HO.out, BW.out⟩
  case round =>
    obtain ⟨k1, hk, rfl, ho, hb⟩ := hrel
    have cc : wr.cell? ⟨w.heap.size, 3, none⟩ = some (.int .i64 (a.types : Int)) := (hb.cell (p := ⟨w.heap.size, 3, none⟩) HLT.out).trans BXT.out.c3
    have HOR := Lib.hid ho
    have BR := Lib.hid hb
    clear ho hb
    by_cases h1 : k1 < 6
    · cases hbit : Num.bitB a.types k1 with
      | false =>
        have HBIT := Lib.hid hbit
        have HN := Lib.hid (Fil.maskW_no (nm := Fil.typeW) (pre := []) hbit)
        clear hbit
        go_wp2_with fail
        refine (HM.out k1 hk _).mono ?_
        rw [HBIT.out]
        rintro e wx ⟨rfl, rfl⟩
        go_wp2_with fail
        go_roundw
        case rel => exact ⟨k1 + 1, by omega, by go_num, by rw [HN.out]; exact HOR.out, BR.out⟩
        case measure => simp [intOf]; omega
      | true =>
        have HBIT := Lib.hid hbit
        have HN := Lib.hid (Fil.maskW_yes (nm := Fil.typeW) (pre := []) hbit)
        clear hbit
        obtain ⟨sx, hsx, ex⟩ := exists_bytes (Fil.typeW k1)
        have HCX : Hid (∀ W, Calls Tryz.prog 61 #[.int .i64 (k1 : Int)] W fun e w' => e = .returned (.string sx) ∧ Below W.heap.size W w') := Lib.hid fun W => by rw [← ex]; exact refTypeWord13 k1 (by omega) W
        have HSX := Lib.hid hsx
        clear hsx ex
        go_wp2_with fail
        refine (HM.out k1 hk _).mono ?_
        rw [HBIT.out]
        rintro e wx ⟨rfl, rfl⟩
        go_wp2_with fail
        refine (HCX.out _).mono ?_
        rintro e wy ⟨rfl, hby⟩
        have HOY := Lib.hid (HOR.out.below hby (Nat.le_refl _))
        have BY := Lib.hid (BR.out.trans (hby.mono BR.out.size))
        have HLY : Hid ((l3 ++ Fil.maskW Fil.typeW [] a.types k1).length ≤ 1000000000000) := Lib.hid (by rw [List.length_append]; have := N3.out; have := maskW_len Fil.typeW [] a.types k1; omega)
        have hszy := BY.out.size
        clear hby HOR BR cc
        obtain ⟨sy, hsy⟩ : ∃ sy, sy = sx := ⟨_, rfl⟩
        have HSY : Hid (sy.data.toList = [] ++ Fil.typeW k1) := Lib.hid (by rw [hsy, HSX.out]; rfl)
        rw [← hsy]
        clear hsy
        go_wp2_with (at_builtin; refine wpList_push_str rfl _ _ rfl rfl HOY.out sy rfl HLY.out hszy BY.out ?_)
        intro v' wz ho hb
        have ho' : OwnStrs u3.heap.size wz v' (l3 ++ Fil.maskW Fil.typeW [] a.types (k1 + 1)) := by rw [HN.out, ← List.append_assoc, ← HSY.out]; first | exact ho | (rw [List.append_assoc]; exact ho)
        have HOZ := Lib.hid ho'
        have BZ := Lib.hid hb
        clear ho ho' hb
        go_wp2_with fail
        go_roundw
        case rel => exact ⟨k1 + 1, by omega, by go_num, HOZ.out, BZ.out⟩
        case measure => simp [intOf]; omega
    · have hke : k1 = 6 := by omega
      clear cc HM HO BW
      have ho := HOR.out
      rw [hke] at ho
      clear hke
      have hb := BR.out
      clear HOR BR hk
      obtain ⟨l4, hl⟩ : ∃ l : List Bs, l = l3 ++ Fil.maskW Fil.typeW [] a.types 6 := ⟨_, rfl⟩
      rw [← hl] at ho
      have E4 := Lib.hid hl
      have N4 : Hid (l4.length ≤ 9) := Lib.hid (by rw [hl, List.length_append]; have := N3.out; have := maskW_len Fil.typeW [] a.types 6; omega)
      clear hl
      have HO := Lib.hid ho
      have BW := Lib.hid hb
      clear ho hb
      have HM := Lib.hid (fun k (hk : k ≤ 6) W => refBit13 a.ntypes k W m_ntypes.out (by omega))
      go_wp2_with fail
      go_loopw [7, 9] (fun pv iv wr => ∃ k : Nat, k ≤ 6 ∧ iv = .int .i64 (k : Int) ∧ OwnStrs u3.heap.size wr pv (l4 ++ Fil.maskW Fil.typeW Fil.sNon a.ntypes k) ∧ Below u3.heap.size u3 wr) (fun _ iv _ => 6 - (intOf iv).toNat)
      case atStart => exact ⟨0, by omega, rfl, by show OwnStrs _ _ _ (l4 ++ []); rw [List.append_nil]; exact HO.out, BW.out⟩
      case round =>
        obtain ⟨k2, hk, rfl, ho, hb⟩ := hrel
        have cc : wr.cell? ⟨w.heap.size, 4, none⟩ = some (.int .i64 (a.ntypes : Int)) := (hb.cell (p := ⟨w.heap.size, 4, none⟩) HLT.out).trans BXT.out.c4
        have HOR := Lib.hid ho
        have BR := Lib.hid hb
        clear ho hb
        by_cases h2 : k2 < 6
        · cases hbit : Num.bitB a.ntypes k2 with
          | false =>
            have HBIT := Lib.hid hbit
            have HN := Lib.hid (Fil.maskW_no (nm := Fil.typeW) (pre := Fil.sNon) hbit)
            clear hbit
            go_wp2_with fail
            refine (HM.out k2 hk _).mono ?_
            rw [HBIT.out]
            rintro e wx ⟨rfl, rfl⟩
            go_wp2_with fail
            go_roundw
            case rel => exact ⟨k2 + 1, by omega, by go_num, by rw [HN.out]; exact HOR.out, BR.out⟩
            case measure => simp [intOf]; omega
          | true =>
            have HBIT := Lib.hid hbit
            have HN := Lib.hid (Fil.maskW_yes (nm := Fil.typeW) (pre := Fil.sNon) hbit)
            clear hbit
            obtain ⟨sx, hsx, ex⟩ := exists_bytes (Fil.typeW k2)
            have HCX : Hid (∀ W, Calls Tryz.prog 61 #[.int .i64 (k2 : Int)] W fun e w' => e = .returned (.string sx) ∧ Below W.heap.size W w') := Lib.hid fun W => by rw [← ex]; exact refTypeWord13 k2 (by omega) W
            have HSX := Lib.hid hsx
            have hl1 : sx.size ≤ 1000 := by have := name_type k2; rw [← hsx] at this; simpa using this
            have hcat : ∀ W : World, (Op.stringOp .add ⟨#[110, 111, 110, 45]⟩ sx).run Tryz.prog W = .ok (.string (⟨#[110, 111, 110, 45]⟩ ++ sx)) W := fun W => run_string_add_sum W _ _ (by have : (⟨#[110, 111, 110, 45]⟩ : ByteArray).size = 4 := rfl; omega)
            clear hsx ex
            go_wp2_with fail
            refine (HM.out k2 hk _).mono ?_
            rw [HBIT.out]
            rintro e wx ⟨rfl, rfl⟩
            go_wp2_with fail
            refine (HCX.out _).mono ?_
            rintro e wy ⟨rfl, hby⟩
            have HOY := Lib.hid (HOR.out.below hby (Nat.le_refl _))
            have BY := Lib.hid (BR.out.trans (hby.mono BR.out.size))
            have HLY : Hid ((l4 ++ Fil.maskW Fil.typeW Fil.sNon a.ntypes k2).length ≤ 1000000000000) := Lib.hid (by rw [List.length_append]; have := N4.out; have := maskW_len Fil.typeW Fil.sNon a.ntypes k2; omega)
            have hszy := BY.out.size
            clear hby HOR BR cc
            obtain ⟨sy, hsy⟩ : ∃ sy, sy = (⟨#[110, 111, 110, 45]⟩ ++ sx) := ⟨_, rfl⟩
            have HSY : Hid (sy.data.toList = Fil.sNon ++ Fil.typeW k2) := Lib.hid (by rw [hsy, cat_bytes, HSX.out]; rfl)
            rw [← hsy] at hcat
            clear hsy
            go_wp2_with (at_builtin; refine wpList_push_str rfl _ _ rfl rfl HOY.out sy rfl HLY.out hszy BY.out ?_)
            intro v' wz ho hb
            have ho' : OwnStrs u3.heap.size wz v' (l4 ++ Fil.maskW Fil.typeW Fil.sNon a.ntypes (k2 + 1)) := by rw [HN.out, ← List.append_assoc, ← HSY.out]; first | exact ho | (rw [List.append_assoc]; exact ho)
            have HOZ := Lib.hid ho'
            have BZ := Lib.hid hb
            clear ho ho' hb
            go_wp2_with fail
            go_roundw
            case rel => exact ⟨k2 + 1, by omega, by go_num, HOZ.out, BZ.out⟩
            case measure => simp [intOf]; omega
        · have hke : k2 = 6 := by omega
          clear cc HM HO BW
          have ho := HOR.out
          rw [hke] at ho
          clear hke
          have hb := BR.out
          clear HOR BR hk
          obtain ⟨l5, hl⟩ : ∃ l : List Bs, l = l4 ++ Fil.maskW Fil.typeW Fil.sNon a.ntypes 6 := ⟨_, rfl⟩
          rw [← hl] at ho
          have E5 := Lib.hid hl
          have N5 : Hid (l5.length ≤ 15) := Lib.hid (by rw [hl, List.length_append]; have := N4.out; have := maskW_len Fil.typeW Fil.sNon a.ntypes 6; omega)
          clear hl
          have HO := Lib.hid ho
          have BW := Lib.hid hb
          clear ho hb
          have HM := Lib.hid (fun k (hk : k ≤ 5) W => refBit13 a.colors k W m_colors.out (by omega))
          go_wp2_with fail
          go_loopw [7, 10] (fun pv iv wr => ∃ k : Nat, k ≤ 5 ∧ iv = .int .i64 (k : Int) ∧ OwnStrs u3.heap.size wr pv (l5 ++ Fil.maskW Col.name [] a.colors k) ∧ Below u3.heap.size u3 wr) (fun _ iv _ => 5 - (intOf iv).toNat)
          case atStart => exact ⟨0, by omega, rfl, by show OwnStrs _ _ _ (l5 ++ []); rw [List.append_nil]; exact HO.out, BW.out⟩
          case round =>
            obtain ⟨k3, hk, rfl, ho, hb⟩ := hrel
            have cc : wr.cell? ⟨w.heap.size, 5, none⟩ = some (.int .i64 (a.colors : Int)) := (hb.cell (p := ⟨w.heap.size, 5, none⟩) HLT.out).trans BXT.out.c5
            have HOR := Lib.hid ho
            have BR := Lib.hid hb
            clear ho hb
            by_cases h3 : k3 < 5
            · cases hbit : Num.bitB a.colors k3 with
              | false =>
                have HBIT := Lib.hid hbit
                have HN := Lib.hid (Fil.maskW_no (nm := Col.name) (pre := []) hbit)
                clear hbit
                go_wp2_with fail
                refine (HM.out k3 hk _).mono ?_
                rw [HBIT.out]
                rintro e wx ⟨rfl, rfl⟩
                go_wp2_with fail
                go_roundw
                case rel => exact ⟨k3 + 1, by omega, by go_num, by rw [HN.out]; exact HOR.out, BR.out⟩
                case measure => simp [intOf]; omega
              | true =>
                have HBIT := Lib.hid hbit
                have HN := Lib.hid (Fil.maskW_yes (nm := Col.name) (pre := []) hbit)
                clear hbit
                obtain ⟨sx, hsx, ex⟩ := exists_bytes (Col.name k3)
                have HCX : Hid (∀ W, Calls Tryz.prog 62 #[.int .i64 (k3 : Int)] W fun e w' => e = .returned (.string sx) ∧ Below W.heap.size W w') := Lib.hid fun W => by rw [← ex]; exact refNameC k3 W
                have HSX := Lib.hid hsx
                clear hsx ex
                go_wp2_with fail
                refine (HM.out k3 hk _).mono ?_
                rw [HBIT.out]
                rintro e wx ⟨rfl, rfl⟩
                go_wp2_with fail
                refine (HCX.out _).mono ?_
                rintro e wy ⟨rfl, hby⟩
                have HOY := Lib.hid (HOR.out.below hby (Nat.le_refl _))
                have BY := Lib.hid (BR.out.trans (hby.mono BR.out.size))
                have HLY : Hid ((l5 ++ Fil.maskW Col.name [] a.colors k3).length ≤ 1000000000000) := Lib.hid (by rw [List.length_append]; have := N5.out; have := maskW_len Col.name [] a.colors k3; omega)
                have hszy := BY.out.size
                clear hby HOR BR cc
                obtain ⟨sy, hsy⟩ : ∃ sy, sy = sx := ⟨_, rfl⟩
                have HSY : Hid (sy.data.toList = [] ++ Col.name k3) := Lib.hid (by rw [hsy, HSX.out]; rfl)
                rw [← hsy]
                clear hsy
                go_wp2_with (at_builtin; refine wpList_push_str rfl _ _ rfl rfl HOY.out sy rfl HLY.out hszy BY.out ?_)
                intro v' wz ho hb
                have ho' : OwnStrs u3.heap.size wz v' (l5 ++ Fil.maskW Col.name [] a.colors (k3 + 1)) := by rw [HN.out, ← List.append_assoc, ← HSY.out]; first | exact ho | (rw [List.append_assoc]; exact ho)
                have HOZ := Lib.hid ho'
                have BZ := Lib.hid hb
                clear ho ho' hb
                go_wp2_with fail
                go_roundw
                case rel => exact ⟨k3 + 1, by omega, by go_num, HOZ.out, BZ.out⟩
                case measure => simp [intOf]; omega
            · have hke : k3 = 5 := by omega
              clear cc HM HO BW
              have ho := HOR.out
              rw [hke] at ho
              clear hke
              have hb := BR.out
              clear HOR BR hk
              obtain ⟨l6, hl⟩ : ∃ l : List Bs, l = l5 ++ Fil.maskW Col.name [] a.colors 5 := ⟨_, rfl⟩
              rw [← hl] at ho
              have E6 := Lib.hid hl
              have N6 : Hid (l6.length ≤ 20) := Lib.hid (by rw [hl, List.length_append]; have := N5.out; have := maskW_len Col.name [] a.colors 5; omega)
              clear hl
              have HO := Lib.hid ho
              have BW := Lib.hid hb
              clear ho hb
              have HM := Lib.hid (fun k (hk : k ≤ 5) W => refBit13 a.ncolors k W m_ncolors.out (by omega))
              go_wp2_with fail
              go_loopw [7, 11] (fun pv iv wr => ∃ k : Nat, k ≤ 5 ∧ iv = .int .i64 (k : Int) ∧ OwnStrs u3.heap.size wr pv (l6 ++ Fil.maskW Col.name Fil.sNon a.ncolors k) ∧ Below u3.heap.size u3 wr) (fun _ iv _ => 5 - (intOf iv).toNat)
              case atStart => exact ⟨0, by omega, rfl, by show OwnStrs _ _ _ (l6 ++ []); rw [List.append_nil]; exact HO.out, BW.out⟩
              case round =>
                obtain ⟨k4, hk, rfl, ho, hb⟩ := hrel
                have cc : wr.cell? ⟨w.heap.size, 6, none⟩ = some (.int .i64 (a.ncolors : Int)) := (hb.cell (p := ⟨w.heap.size, 6, none⟩) HLT.out).trans BXT.out.c6
                have HOR := Lib.hid ho
                have BR := Lib.hid hb
                clear ho hb
                by_cases h4 : k4 < 5
                · cases hbit : Num.bitB a.ncolors k4 with
                  | false =>
                    have HBIT := Lib.hid hbit
                    have HN := Lib.hid (Fil.maskW_no (nm := Col.name) (pre := Fil.sNon) hbit)
                    clear hbit
                    go_wp2_with fail
                    refine (HM.out k4 hk _).mono ?_
                    rw [HBIT.out]
                    rintro e wx ⟨rfl, rfl⟩
                    go_wp2_with fail
                    go_roundw
                    case rel => exact ⟨k4 + 1, by omega, by go_num, by rw [HN.out]; exact HOR.out, BR.out⟩
                    case measure => simp [intOf]; omega
                  | true =>
                    have HBIT := Lib.hid hbit
                    have HN := Lib.hid (Fil.maskW_yes (nm := Col.name) (pre := Fil.sNon) hbit)
                    clear hbit
                    obtain ⟨sx, hsx, ex⟩ := exists_bytes (Col.name k4)
                    have HCX : Hid (∀ W, Calls Tryz.prog 62 #[.int .i64 (k4 : Int)] W fun e w' => e = .returned (.string sx) ∧ Below W.heap.size W w') := Lib.hid fun W => by rw [← ex]; exact refNameC k4 W
                    have HSX := Lib.hid hsx
                    have hl1 : sx.size ≤ 1000 := by have := name_col k4; rw [← hsx] at this; simpa using this
                    have hcat : ∀ W : World, (Op.stringOp .add ⟨#[110, 111, 110, 45]⟩ sx).run Tryz.prog W = .ok (.string (⟨#[110, 111, 110, 45]⟩ ++ sx)) W := fun W => run_string_add_sum W _ _ (by have : (⟨#[110, 111, 110, 45]⟩ : ByteArray).size = 4 := rfl; omega)
                    clear hsx ex
                    go_wp2_with fail
                    refine (HM.out k4 hk _).mono ?_
                    rw [HBIT.out]
                    rintro e wx ⟨rfl, rfl⟩
                    go_wp2_with fail
                    refine (HCX.out _).mono ?_
                    rintro e wy ⟨rfl, hby⟩
                    have HOY := Lib.hid (HOR.out.below hby (Nat.le_refl _))
                    have BY := Lib.hid (BR.out.trans (hby.mono BR.out.size))
                    have HLY : Hid ((l6 ++ Fil.maskW Col.name Fil.sNon a.ncolors k4).length ≤ 1000000000000) := Lib.hid (by rw [List.length_append]; have := N6.out; have := maskW_len Col.name Fil.sNon a.ncolors k4; omega)
                    have hszy := BY.out.size
                    clear hby HOR BR cc
                    obtain ⟨sy, hsy⟩ : ∃ sy, sy = (⟨#[110, 111, 110, 45]⟩ ++ sx) := ⟨_, rfl⟩
                    have HSY : Hid (sy.data.toList = Fil.sNon ++ Col.name k4) := Lib.hid (by rw [hsy, cat_bytes, HSX.out]; rfl)
                    rw [← hsy] at hcat
                    clear hsy
                    go_wp2_with (at_builtin; refine wpList_push_str rfl _ _ rfl rfl HOY.out sy rfl HLY.out hszy BY.out ?_)
                    intro v' wz ho hb
                    have ho' : OwnStrs u3.heap.size wz v' (l6 ++ Fil.maskW Col.name Fil.sNon a.ncolors (k4 + 1)) := by rw [HN.out, ← List.append_assoc, ← HSY.out]; first | exact ho | (rw [List.append_assoc]; exact ho)
                    have HOZ := Lib.hid ho'
                    have BZ := Lib.hid hb
                    clear ho ho' hb
                    go_wp2_with fail
                    go_roundw
                    case rel => exact ⟨k4 + 1, by omega, by go_num, HOZ.out, BZ.out⟩
                    case measure => simp [intOf]; omega
                · have hke : k4 = 5 := by omega
                  clear cc HM HO BW
                  have ho := HOR.out
                  rw [hke] at ho
                  clear hke
                  have hb := BR.out
                  clear HOR BR hk
                  obtain ⟨l7, hl⟩ : ∃ l : List Bs, l = l6 ++ Fil.maskW Col.name Fil.sNon a.ncolors 5 := ⟨_, rfl⟩
                  rw [← hl] at ho
                  have E7 := Lib.hid hl
                  have N7 : Hid (l7.length ≤ 25) := Lib.hid (by rw [hl, List.length_append]; have := N6.out; have := maskW_len Col.name Fil.sNon a.ncolors 5; omega)
                  clear hl
                  have HO := Lib.hid ho
                  have BW := Lib.hid hb
                  clear ho hb
                  rcases sub_cases fs with ⟨t1, hsub⟩ | ⟨t1, hsub⟩
                  · have c7 : wr.cell? ⟨w.heap.size, 7, none⟩ = some (.string fs) := (BW.out.cell (p := ⟨w.heap.size, 7, none⟩) HLT.out).trans BXT.out.c7
                    have HQ : Hid (Fil.one (Fil.subW fs.data.toList) = []) := Lib.hid (by rw [hsub]; rfl)
                    clear hsub
                    have ho := HO.out
                    have hb := BW.out
                    rw [← List.append_nil l7, ← HQ.out] at ho
                    clear HO BW
                    obtain ⟨l8, hl⟩ : ∃ l : List Bs, l = l7 ++ Fil.one (Fil.subW fs.data.toList) := ⟨_, rfl⟩
                    rw [← hl] at ho
                    have E8 := Lib.hid hl
                    have N8 : Hid (l8.length ≤ 26) := Lib.hid (by rw [hl, List.length_append]; have := N7.out; have := one_len1 (Fil.subW fs.data.toList); omega)
                    clear hl
                    have HO := Lib.hid ho
                    have BW := Lib.hid hb
                    clear ho hb
                    have HM := Lib.hid (fun k (hk : k ≤ 17) W => refBit13 a.keys k W m_keys.out (by omega))
                    go_wp2_with fail
                    go_loopw [7, 12] (fun pv iv wr => ∃ k : Nat, k ≤ 17 ∧ iv = .int .i64 (k : Int) ∧ OwnStrs u3.heap.size wr pv (l8 ++ Fil.maskW Kw.name Fil.sWith a.keys k) ∧ Below u3.heap.size u3 wr) (fun _ iv _ => 17 - (intOf iv).toNat)
                    case atStart => exact ⟨0, by omega, rfl, by show OwnStrs _ _ _ (l8 ++ []); rw [List.append_nil]; exact HO.out, BW.out⟩
                    case round =>
                      obtain ⟨k5, hk, rfl, ho, hb⟩ := hrel
                      have cc : wr.cell? ⟨w.heap.size, 8, none⟩ = some (.int .i64 (a.keys : Int)) := (hb.cell (p := ⟨w.heap.size, 8, none⟩) HLT.out).trans BXT.out.c8
                      have HOR := Lib.hid ho
                      have BR := Lib.hid hb
                      clear ho hb
                      by_cases h5 : k5 < 17
                      · cases hbit : Num.bitB a.keys k5 with
                        | false =>
                          have HBIT := Lib.hid hbit
                          have HN := Lib.hid (Fil.maskW_no (nm := Kw.name) (pre := Fil.sWith) hbit)
                          clear hbit
                          go_wp2_with fail
                          refine (HM.out k5 hk _).mono ?_
                          rw [HBIT.out]
                          rintro e wx ⟨rfl, rfl⟩
                          go_wp2_with fail
                          go_roundw
                          case rel => exact ⟨k5 + 1, by omega, by go_num, by rw [HN.out]; exact HOR.out, BR.out⟩
                          case measure => simp [intOf]; omega
                        | true =>
                          have HBIT := Lib.hid hbit
                          have HN := Lib.hid (Fil.maskW_yes (nm := Kw.name) (pre := Fil.sWith) hbit)
                          clear hbit
                          obtain ⟨sx, hsx, ex⟩ := exists_bytes (Kw.name k5)
                          have HCX : Hid (∀ W, Calls Tryz.prog 63 #[.int .i64 (k5 : Int)] W fun e w' => e = .returned (.string sx) ∧ Below W.heap.size W w') := Lib.hid fun W => by rw [← ex]; exact refNameK k5 W
                          have HSX := Lib.hid hsx
                          have hl1 : sx.size ≤ 1000 := by have := name_key k5; rw [← hsx] at this; simpa using this
                          have hcat : ∀ W : World, (Op.stringOp .add ⟨#[119, 105, 116, 104, 58]⟩ sx).run Tryz.prog W = .ok (.string (⟨#[119, 105, 116, 104, 58]⟩ ++ sx)) W := fun W => run_string_add_sum W _ _ (by have : (⟨#[119, 105, 116, 104, 58]⟩ : ByteArray).size = 5 := rfl; omega)
                          clear hsx ex
                          go_wp2_with fail
                          refine (HM.out k5 hk _).mono ?_
                          rw [HBIT.out]
                          rintro e wx ⟨rfl, rfl⟩
                          go_wp2_with fail
                          refine (HCX.out _).mono ?_
                          rintro e wy ⟨rfl, hby⟩
                          have HOY := Lib.hid (HOR.out.below hby (Nat.le_refl _))
                          have BY := Lib.hid (BR.out.trans (hby.mono BR.out.size))
                          have HLY : Hid ((l8 ++ Fil.maskW Kw.name Fil.sWith a.keys k5).length ≤ 1000000000000) := Lib.hid (by rw [List.length_append]; have := N8.out; have := maskW_len Kw.name Fil.sWith a.keys k5; omega)
                          have hszy := BY.out.size
                          clear hby HOR BR cc
                          obtain ⟨sy, hsy⟩ : ∃ sy, sy = (⟨#[119, 105, 116, 104, 58]⟩ ++ sx) := ⟨_, rfl⟩
                          have HSY : Hid (sy.data.toList = Fil.sWith ++ Kw.name k5) := Lib.hid (by rw [hsy, cat_bytes, HSX.out]; rfl)
                          rw [← hsy] at hcat
                          clear hsy
                          go_wp2_with (at_builtin; refine wpList_push_str rfl _ _ rfl rfl HOY.out sy rfl HLY.out hszy BY.out ?_)
                          intro v' wz ho hb
                          have ho' : OwnStrs u3.heap.size wz v' (l8 ++ Fil.maskW Kw.name Fil.sWith a.keys (k5 + 1)) := by rw [HN.out, ← List.append_assoc, ← HSY.out]; first | exact ho | (rw [List.append_assoc]; exact ho)
                          have HOZ := Lib.hid ho'
                          have BZ := Lib.hid hb
                          clear ho ho' hb
                          go_wp2_with fail
                          go_roundw
                          case rel => exact ⟨k5 + 1, by omega, by go_num, HOZ.out, BZ.out⟩
                          case measure => simp [intOf]; omega
                      · have hke : k5 = 17 := by omega
                        clear cc HM HO BW
                        have ho := HOR.out
                        rw [hke] at ho
                        clear hke
                        have hb := BR.out
                        clear HOR BR hk
                        obtain ⟨l9, hl⟩ : ∃ l : List Bs, l = l8 ++ Fil.maskW Kw.name Fil.sWith a.keys 17 := ⟨_, rfl⟩
                        rw [← hl] at ho
                        have E9 := Lib.hid hl
                        have N9 : Hid (l9.length ≤ 43) := Lib.hid (by rw [hl, List.length_append]; have := N8.out; have := maskW_len Kw.name Fil.sWith a.keys 17; omega)
                        clear hl
                        have HO := Lib.hid ho
                        have BW := Lib.hid hb
                        clear ho hb
                        have c3 : wr.cell? ⟨w.heap.size, 9, none⟩ = some (.int .i64 (a.tap : Int)) := (BW.out.cell (p := ⟨w.heap.size, 9, none⟩) HLT.out).trans BXT.out.c9
                        have d3 : wr.cell? ⟨u2.heap.size, a.tap, none⟩ = some (.string s9) := (BW.out.cell (p := ⟨u2.heap.size, a.tap, none⟩) KT3.out.2).trans KT3.out.1
                        have HA := Lib.hid (fun v (hv : OwnStrs u3.heap.size wr v l9) => refAdd13 s9 hv BW.out (by have := N9.out; omega) BW.out.size)
                        go_wp2_with fail
                        refine (HA.out _ HO.out).mono ?_
                        rintro e w11 ⟨v11, rfl, ho, hb⟩
                        clear c3 d3 HA HO BW
                        obtain ⟨l10, hl⟩ : ∃ l : List Bs, l = l9 ++ Fil.one s9.data.toList := ⟨_, rfl⟩
                        rw [← hl] at ho
                        have E10 := Lib.hid hl
                        have N10 : Hid (l10.length ≤ 44) := Lib.hid (by rw [hl, List.length_append]; have := N9.out; have := one_len1 s9.data.toList; omega)
                        clear hl
                        have HO := Lib.hid ho
                        have BW := Lib.hid hb
                        clear ho hb
                        have c0 : w11.cell? ⟨w.heap.size, 10, none⟩ = some (.int .i64 a.pow.kind) := (BW.out.cell (p := ⟨w.heap.size, 10, none⟩) HLT.out).trans BXT.out.c10
                        have c1 : w11.cell? ⟨w.heap.size, 11, none⟩ = some (.int .i64 a.pow.n) := (BW.out.cell (p := ⟨w.heap.size, 11, none⟩) HLT.out).trans BXT.out.c11
                        go_wp2_with fail
                        refine (Pp.out _).mono ?_
                        rintro e yp ⟨rfl, hby⟩
                        have HA := Lib.hid (fun v (hv : OwnStrs u3.heap.size w11 v l10) => refAdd13 sp (hv.below hby (Nat.le_refl _)) (BW.out.trans (hby.mono BW.out.size)) (by have := N10.out; omega) (Nat.le_trans BW.out.size hby.size))
                        clear hby c0 c1
                        go_wp2_with fail
                        refine (HA.out _ HO.out).mono ?_
                        rintro e w12 ⟨v12, rfl, ho, hb⟩
                        clear HA HO BW
                        obtain ⟨l11, hl⟩ : ∃ l : List Bs, l = l10 ++ Fil.one sp.data.toList := ⟨_, rfl⟩
                        rw [← hl] at ho
                        have E11 := Lib.hid hl
                        have N11 : Hid (l11.length ≤ 45) := Lib.hid (by rw [hl, List.length_append]; have := N10.out; have := one_len1 sp.data.toList; omega)
                        clear hl
                        have HO := Lib.hid ho
                        have BW := Lib.hid hb
                        clear ho hb
                        have c0 : w12.cell? ⟨w.heap.size, 12, none⟩ = some (.int .i64 a.tough.kind) := (BW.out.cell (p := ⟨w.heap.size, 12, none⟩) HLT.out).trans BXT.out.c12
                        have c1 : w12.cell? ⟨w.heap.size, 13, none⟩ = some (.int .i64 a.tough.n) := (BW.out.cell (p := ⟨w.heap.size, 13, none⟩) HLT.out).trans BXT.out.c13
                        go_wp2_with fail
                        refine (Pt.out _).mono ?_
                        rintro e yt ⟨rfl, hby⟩
                        have HA := Lib.hid (fun v (hv : OwnStrs u3.heap.size w12 v l11) => refAdd13 st (hv.below hby (Nat.le_refl _)) (BW.out.trans (hby.mono BW.out.size)) (by have := N11.out; omega) (Nat.le_trans BW.out.size hby.size))
                        clear hby c0 c1
                        go_wp2_with fail
                        refine (HA.out _ HO.out).mono ?_
                        rintro e w13 ⟨v13, rfl, ho, hb⟩
                        clear HA HO BW
                        obtain ⟨l12, hl⟩ : ∃ l : List Bs, l = l11 ++ Fil.one st.data.toList := ⟨_, rfl⟩
                        rw [← hl] at ho
                        have E12 := Lib.hid hl
                        have N12 : Hid (l12.length ≤ 46) := Lib.hid (by rw [hl, List.length_append]; have := N11.out; have := one_len1 st.data.toList; omega)
                        clear hl
                        have HO := Lib.hid ho
                        have BW := Lib.hid hb
                        clear ho hb
                        have c0 : w13.cell? ⟨w.heap.size, 14, none⟩ = some (.int .i64 a.val.kind) := (BW.out.cell (p := ⟨w.heap.size, 14, none⟩) HLT.out).trans BXT.out.c14
                        have c1 : w13.cell? ⟨w.heap.size, 15, none⟩ = some (.int .i64 a.val.n) := (BW.out.cell (p := ⟨w.heap.size, 15, none⟩) HLT.out).trans BXT.out.c15
                        go_wp2_with fail
                        refine (Pv.out _).mono ?_
                        rintro e yv ⟨rfl, hby⟩
                        have HA := Lib.hid (fun v (hv : OwnStrs u3.heap.size w13 v l12) => refAdd13 sv (hv.below hby (Nat.le_refl _)) (BW.out.trans (hby.mono BW.out.size)) (by have := N12.out; omega) (Nat.le_trans BW.out.size hby.size))
                        clear hby c0 c1
                        go_wp2_with fail
                        refine (HA.out _ HO.out).mono ?_
                        rintro e w14 ⟨v14, rfl, ho, hb⟩
                        clear HA HO BW
                        obtain ⟨l13, hl⟩ : ∃ l : List Bs, l = l12 ++ Fil.one sv.data.toList := ⟨_, rfl⟩
                        rw [← hl] at ho
                        have E13 := Lib.hid hl
                        have N13 : Hid (l13.length ≤ 47) := Lib.hid (by rw [hl, List.length_append]; have := N12.out; have := one_len1 sv.data.toList; omega)
                        clear hl
                        have HO := Lib.hid ho
                        have BW := Lib.hid hb
                        clear ho hb
                        have hpe := HPE.out
                        rw [← E0.out, ← E1.out, ← E2.out, ← E3.out, ← E4.out, ← E5.out, ← E6.out, ← E7.out, ← E8.out, ← E9.out, ← E10.out, ← E11.out, ← E12.out, ← E13.out] at hpe
                        have hoG := HO.out
                        rw [hpe] at hoG
                        have HN9 : Hid (ps.length ≤ 47) := Lib.hid (by rw [← hpe]; exact N13.out)
                        have BG : Hid (Below w.heap.size w w14) := Lib.hid (HB.out.trans ((BU3.out.trans (BW.out.mono BU3.out.size)).mono HB.out.size))
                        clear hpe HPE HO BW
                        rcases hoG.shape with ⟨rfl, hnil⟩ | ⟨g, cap, rfl, -, -, -, -, -⟩
                        · have HN := Lib.hid hnil
                          clear hoG hnil
                          go_wp2_with fail
                          go_ret
                          exact ⟨by rw [HT.out, HN.out]; rfl, BG.out⟩
                        · by_cases h0 : ps = []
                          · have e0 : ps.length = 0 := by rw [h0]; rfl
                            have HN := Lib.hid h0
                            clear hoG h0
                            go_wp2_with fail
                            go_ret
                            exact ⟨by rw [HT.out, HN.out]; rfl, BG.out⟩
                          · have e0 : ¬ ps.length = 0 := fun h => h0 (List.eq_nil_of_length_eq_zero h)
                            have HJ := Lib.hid (refJoin (.slice (some ⟨g, 0, none⟩) ps.length cap) ps ⟨#[32]⟩ w14 hoG.strs (by have := HZ.out; show (Lib.join ps [32]).length ≤ _; omega))
                            have HN : Hid (Fil.textP ps = Lib.join ps [32]) := Lib.hid (by unfold Fil.textP; rw [if_neg h0])
                            clear hoG h0
                            go_wp2_with fail
                            refine HJ.out.mono ?_
                            rintro e wH ⟨rfl, rfl⟩
                            go_wp2_with fail
                            go_ret
                            exact ⟨by rw [HT.out, HN.out]; rfl, BG.out⟩
                  · have c7 : wr.cell? ⟨w.heap.size, 7, none⟩ = some (.string fs) := (BW.out.cell (p := ⟨w.heap.size, 7, none⟩) HLT.out).trans BXT.out.c7
                    have HQ : Hid (Fil.one (Fil.subW fs.data.toList) = [(⟨#[115, 117, 98, 58]⟩ ++ fs : ByteArray).data.toList]) := Lib.hid (by
                      rw [cat_bytes]; unfold Fil.subW; rw [if_neg hsub]; unfold Fil.one; rw [if_neg (by intro h; have := congrArg List.length h; simp [Fil.sSub] at this)]; rfl)
                    have hcat : ∀ W : World, (Op.stringOp .add ⟨#[115, 117, 98, 58]⟩ fs).run Tryz.prog W = .ok (.string (⟨#[115, 117, 98, 58]⟩ ++ fs)) W := fun W => run_string_add_sum W _ _ (by have : (⟨#[115, 117, 98, 58]⟩ : ByteArray).size = 4 := rfl; omega)
                    clear hsub
                    obtain ⟨sy, hsy⟩ : ∃ sy, sy = (⟨#[115, 117, 98, 58]⟩ ++ fs : ByteArray) := ⟨_, rfl⟩
                    rw [← hsy] at hcat HQ
                    clear hsy
                    have HLY : Hid (l7.length ≤ 1000000000000) := Lib.hid (by have := N7.out; omega)
                    have hszy := BW.out.size
                    go_wp2_with (at_builtin; refine wpList_push_str rfl _ _ rfl rfl HO.out sy rfl HLY.out hszy BW.out ?_)
                    intro v' ws ho hb
                    rw [← HQ.out] at ho
                    clear HO BW HLY hszy hcat
                    obtain ⟨l8, hl⟩ : ∃ l : List Bs, l = l7 ++ Fil.one (Fil.subW fs.data.toList) := ⟨_, rfl⟩
                    rw [← hl] at ho
                    have E8 := Lib.hid hl
                    have N8 : Hid (l8.length ≤ 26) := Lib.hid (by rw [hl, List.length_append]; have := N7.out; have := one_len1 (Fil.subW fs.data.toList); omega)
                    clear hl
                    have HO := Lib.hid ho
                    have BW := Lib.hid hb
                    clear ho hb
                    have HM := Lib.hid (fun k (hk : k ≤ 17) W => refBit13 a.keys k W m_keys.out (by omega))
                    go_wp2_with fail
                    go_loopw [7, 12] (fun pv iv wr => ∃ k : Nat, k ≤ 17 ∧ iv = .int .i64 (k : Int) ∧ OwnStrs u3.heap.size wr pv (l8 ++ Fil.maskW Kw.name Fil.sWith a.keys k) ∧ Below u3.heap.size u3 wr) (fun _ iv _ => 17 - (intOf iv).toNat)
                    case atStart => exact ⟨0, by omega, rfl, by show OwnStrs _ _ _ (l8 ++ []); rw [List.append_nil]; exact HO.out, BW.out⟩
                    case round =>
                      obtain ⟨k6, hk, rfl, ho, hb⟩ := hrel
                      have cc : wr.cell? ⟨w.heap.size, 8, none⟩ = some (.int .i64 (a.keys : Int)) := (hb.cell (p := ⟨w.heap.size, 8, none⟩) HLT.out).trans BXT.out.c8
                      have HOR := Lib.hid ho
                      have BR := Lib.hid hb
                      clear ho hb
                      by_cases h6 : k6 < 17
                      · cases hbit : Num.bitB a.keys k6 with
                        | false =>
                          have HBIT := Lib.hid hbit
                          have HN := Lib.hid (Fil.maskW_no (nm := Kw.name) (pre := Fil.sWith) hbit)
                          clear hbit
                          go_wp2_with fail
                          refine (HM.out k6 hk _).mono ?_
                          rw [HBIT.out]
                          rintro e wx ⟨rfl, rfl⟩
                          go_wp2_with fail
                          go_roundw
                          case rel => exact ⟨k6 + 1, by omega, by go_num, by rw [HN.out]; exact HOR.out, BR.out⟩
                          case measure => simp [intOf]; omega
                        | true =>
                          have HBIT := Lib.hid hbit
                          have HN := Lib.hid (Fil.maskW_yes (nm := Kw.name) (pre := Fil.sWith) hbit)
                          clear hbit
                          obtain ⟨sx, hsx, ex⟩ := exists_bytes (Kw.name k6)
                          have HCX : Hid (∀ W, Calls Tryz.prog 63 #[.int .i64 (k6 : Int)] W fun e w' => e = .returned (.string sx) ∧ Below W.heap.size W w') := Lib.hid fun W => by rw [← ex]; exact refNameK k6 W
                          have HSX := Lib.hid hsx
                          have hl1 : sx.size ≤ 1000 := by have := name_key k6; rw [← hsx] at this; simpa using this
                          have hcat : ∀ W : World, (Op.stringOp .add ⟨#[119, 105, 116, 104, 58]⟩ sx).run Tryz.prog W = .ok (.string (⟨#[119, 105, 116, 104, 58]⟩ ++ sx)) W := fun W => run_string_add_sum W _ _ (by have : (⟨#[119, 105, 116, 104, 58]⟩ : ByteArray).size = 5 := rfl; omega)
                          clear hsx ex
                          go_wp2_with fail
                          refine (HM.out k6 hk _).mono ?_
                          rw [HBIT.out]
                          rintro e wx ⟨rfl, rfl⟩
                          go_wp2_with fail
                          refine (HCX.out _).mono ?_
                          rintro e wy ⟨rfl, hby⟩
                          have HOY := Lib.hid (HOR.out.below hby (Nat.le_refl _))
                          have BY := Lib.hid (BR.out.trans (hby.mono BR.out.size))
                          have HLY : Hid ((l8 ++ Fil.maskW Kw.name Fil.sWith a.keys k6).length ≤ 1000000000000) := Lib.hid (by rw [List.length_append]; have := N8.out; have := maskW_len Kw.name Fil.sWith a.keys k6; omega)
                          have hszy := BY.out.size
                          clear hby HOR BR cc
                          obtain ⟨sy, hsy⟩ : ∃ sy, sy = (⟨#[119, 105, 116, 104, 58]⟩ ++ sx) := ⟨_, rfl⟩
                          have HSY : Hid (sy.data.toList = Fil.sWith ++ Kw.name k6) := Lib.hid (by rw [hsy, cat_bytes, HSX.out]; rfl)
                          rw [← hsy] at hcat
                          clear hsy
                          go_wp2_with (at_builtin; refine wpList_push_str rfl _ _ rfl rfl HOY.out sy rfl HLY.out hszy BY.out ?_)
                          intro v' wz ho hb
                          have ho' : OwnStrs u3.heap.size wz v' (l8 ++ Fil.maskW Kw.name Fil.sWith a.keys (k6 + 1)) := by rw [HN.out, ← List.append_assoc, ← HSY.out]; first | exact ho | (rw [List.append_assoc]; exact ho)
                          have HOZ := Lib.hid ho'
                          have BZ := Lib.hid hb
                          clear ho ho' hb
                          go_wp2_with fail
                          go_roundw
                          case rel => exact ⟨k6 + 1, by omega, by go_num, HOZ.out, BZ.out⟩
                          case measure => simp [intOf]; omega
                      · have hke : k6 = 17 := by omega
                        clear cc HM HO BW
                        have ho := HOR.out
                        rw [hke] at ho
                        clear hke
                        have hb := BR.out
                        clear HOR BR hk
                        obtain ⟨l9, hl⟩ : ∃ l : List Bs, l = l8 ++ Fil.maskW Kw.name Fil.sWith a.keys 17 := ⟨_, rfl⟩
                        rw [← hl] at ho
                        have E9 := Lib.hid hl
                        have N9 : Hid (l9.length ≤ 43) := Lib.hid (by rw [hl, List.length_append]; have := N8.out; have := maskW_len Kw.name Fil.sWith a.keys 17; omega)
                        clear hl
                        have HO := Lib.hid ho
                        have BW := Lib.hid hb
                        clear ho hb
                        have c3 : wr.cell? ⟨w.heap.size, 9, none⟩ = some (.int .i64 (a.tap : Int)) := (BW.out.cell (p := ⟨w.heap.size, 9, none⟩) HLT.out).trans BXT.out.c9
                        have d3 : wr.cell? ⟨u2.heap.size, a.tap, none⟩ = some (.string s9) := (BW.out.cell (p := ⟨u2.heap.size, a.tap, none⟩) KT3.out.2).trans KT3.out.1
                        have HA := Lib.hid (fun v (hv : OwnStrs u3.heap.size wr v l9) => refAdd13 s9 hv BW.out (by have := N9.out; omega) BW.out.size)
                        go_wp2_with fail
                        refine (HA.out _ HO.out).mono ?_
                        rintro e w11 ⟨v11, rfl, ho, hb⟩
                        clear c3 d3 HA HO BW
                        obtain ⟨l10, hl⟩ : ∃ l : List Bs, l = l9 ++ Fil.one s9.data.toList := ⟨_, rfl⟩
                        rw [← hl] at ho
                        have E10 := Lib.hid hl
                        have N10 : Hid (l10.length ≤ 44) := Lib.hid (by rw [hl, List.length_append]; have := N9.out; have := one_len1 s9.data.toList; omega)
                        clear hl
                        have HO := Lib.hid ho
                        have BW := Lib.hid hb
                        clear ho hb
                        have c0 : w11.cell? ⟨w.heap.size, 10, none⟩ = some (.int .i64 a.pow.kind) := (BW.out.cell (p := ⟨w.heap.size, 10, none⟩) HLT.out).trans BXT.out.c10
                        have c1 : w11.cell? ⟨w.heap.size, 11, none⟩ = some (.int .i64 a.pow.n) := (BW.out.cell (p := ⟨w.heap.size, 11, none⟩) HLT.out).trans BXT.out.c11
                        go_wp2_with fail
                        refine (Pp.out _).mono ?_
                        rintro e yp ⟨rfl, hby⟩
                        have HA := Lib.hid (fun v (hv : OwnStrs u3.heap.size w11 v l10) => refAdd13 sp (hv.below hby (Nat.le_refl _)) (BW.out.trans (hby.mono BW.out.size)) (by have := N10.out; omega) (Nat.le_trans BW.out.size hby.size))
                        clear hby c0 c1
                        go_wp2_with fail
                        refine (HA.out _ HO.out).mono ?_
                        rintro e w12 ⟨v12, rfl, ho, hb⟩
                        clear HA HO BW
                        obtain ⟨l11, hl⟩ : ∃ l : List Bs, l = l10 ++ Fil.one sp.data.toList := ⟨_, rfl⟩
                        rw [← hl] at ho
                        have E11 := Lib.hid hl
                        have N11 : Hid (l11.length ≤ 45) := Lib.hid (by rw [hl, List.length_append]; have := N10.out; have := one_len1 sp.data.toList; omega)
                        clear hl
                        have HO := Lib.hid ho
                        have BW := Lib.hid hb
                        clear ho hb
                        have c0 : w12.cell? ⟨w.heap.size, 12, none⟩ = some (.int .i64 a.tough.kind) := (BW.out.cell (p := ⟨w.heap.size, 12, none⟩) HLT.out).trans BXT.out.c12
                        have c1 : w12.cell? ⟨w.heap.size, 13, none⟩ = some (.int .i64 a.tough.n) := (BW.out.cell (p := ⟨w.heap.size, 13, none⟩) HLT.out).trans BXT.out.c13
                        go_wp2_with fail
                        refine (Pt.out _).mono ?_
                        rintro e yt ⟨rfl, hby⟩
                        have HA := Lib.hid (fun v (hv : OwnStrs u3.heap.size w12 v l11) => refAdd13 st (hv.below hby (Nat.le_refl _)) (BW.out.trans (hby.mono BW.out.size)) (by have := N11.out; omega) (Nat.le_trans BW.out.size hby.size))
                        clear hby c0 c1
                        go_wp2_with fail
                        refine (HA.out _ HO.out).mono ?_
                        rintro e w13 ⟨v13, rfl, ho, hb⟩
                        clear HA HO BW
                        obtain ⟨l12, hl⟩ : ∃ l : List Bs, l = l11 ++ Fil.one st.data.toList := ⟨_, rfl⟩
                        rw [← hl] at ho
                        have E12 := Lib.hid hl
                        have N12 : Hid (l12.length ≤ 46) := Lib.hid (by rw [hl, List.length_append]; have := N11.out; have := one_len1 st.data.toList; omega)
                        clear hl
                        have HO := Lib.hid ho
                        have BW := Lib.hid hb
                        clear ho hb
                        have c0 : w13.cell? ⟨w.heap.size, 14, none⟩ = some (.int .i64 a.val.kind) := (BW.out.cell (p := ⟨w.heap.size, 14, none⟩) HLT.out).trans BXT.out.c14
                        have c1 : w13.cell? ⟨w.heap.size, 15, none⟩ = some (.int .i64 a.val.n) := (BW.out.cell (p := ⟨w.heap.size, 15, none⟩) HLT.out).trans BXT.out.c15
                        go_wp2_with fail
                        refine (Pv.out _).mono ?_
                        rintro e yv ⟨rfl, hby⟩
                        have HA := Lib.hid (fun v (hv : OwnStrs u3.heap.size w13 v l12) => refAdd13 sv (hv.below hby (Nat.le_refl _)) (BW.out.trans (hby.mono BW.out.size)) (by have := N12.out; omega) (Nat.le_trans BW.out.size hby.size))
                        clear hby c0 c1
                        go_wp2_with fail
                        refine (HA.out _ HO.out).mono ?_
                        rintro e w14 ⟨v14, rfl, ho, hb⟩
                        clear HA HO BW
                        obtain ⟨l13, hl⟩ : ∃ l : List Bs, l = l12 ++ Fil.one sv.data.toList := ⟨_, rfl⟩
                        rw [← hl] at ho
                        have E13 := Lib.hid hl
                        have N13 : Hid (l13.length ≤ 47) := Lib.hid (by rw [hl, List.length_append]; have := N12.out; have := one_len1 sv.data.toList; omega)
                        clear hl
                        have HO := Lib.hid ho
                        have BW := Lib.hid hb
                        clear ho hb
                        have hpe := HPE.out
                        rw [← E0.out, ← E1.out, ← E2.out, ← E3.out, ← E4.out, ← E5.out, ← E6.out, ← E7.out, ← E8.out, ← E9.out, ← E10.out, ← E11.out, ← E12.out, ← E13.out] at hpe
                        have hoG := HO.out
                        rw [hpe] at hoG
                        have HN9 : Hid (ps.length ≤ 47) := Lib.hid (by rw [← hpe]; exact N13.out)
                        have BG : Hid (Below w.heap.size w w14) := Lib.hid (HB.out.trans ((BU3.out.trans (BW.out.mono BU3.out.size)).mono HB.out.size))
                        clear hpe HPE HO BW
                        rcases hoG.shape with ⟨rfl, hnil⟩ | ⟨g, cap, rfl, -, -, -, -, -⟩
                        · have HN := Lib.hid hnil
                          clear hoG hnil
                          go_wp2_with fail
                          go_ret
                          exact ⟨by rw [HT.out, HN.out]; rfl, BG.out⟩
                        · by_cases h0 : ps = []
                          · have e0 : ps.length = 0 := by rw [h0]; rfl
                            have HN := Lib.hid h0
                            clear hoG h0
                            go_wp2_with fail
                            go_ret
                            exact ⟨by rw [HT.out, HN.out]; rfl, BG.out⟩
                          · have e0 : ¬ ps.length = 0 := fun h => h0 (List.eq_nil_of_length_eq_zero h)
                            have HJ := Lib.hid (refJoin (.slice (some ⟨g, 0, none⟩) ps.length cap) ps ⟨#[32]⟩ w14 hoG.strs (by have := HZ.out; show (Lib.join ps [32]).length ≤ _; omega))
                            have HN : Hid (Fil.textP ps = Lib.join ps [32]) := Lib.hid (by unfold Fil.textP; rw [if_neg h0])
                            clear hoG h0
                            go_wp2_with fail
                            refine HJ.out.mono ?_
                            rintro e wH ⟨rfl, rfl⟩
                            go_wp2_with fail
                            go_ret
                            exact ⟨by rw [HT.out, HN.out]; rfl, BG.out⟩
end Go.Proofs.YtkohfomiigcifaaGreatDoor
