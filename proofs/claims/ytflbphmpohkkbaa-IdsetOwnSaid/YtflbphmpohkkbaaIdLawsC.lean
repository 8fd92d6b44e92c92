/-
  THE LAWS OF LAYER 3, WALKED: Own. By an AI agent.
-/
import Derived.Test.YtflbphmpohkkbaaIdLawsB
namespace Go.Proofs.Ytflbphmpohkkbaa
open Go.RowKit

set_option maxHeartbeats 3200000 in
set_option maxRecDepth 100000 in
theorem lawIdsetOwn (v : Value) (l : List Int) (n : Int) (w : World) (hv : Ints w v l) :
    Calls Try.prog 8 #[v, .int .i64 n] w fun e w' => e = .returned (.bool true) ∧ Below w.heap.size w w' := by
  have V := Lib.hid hv
  obtain ⟨a, c, rfl, _⟩ := hv
  cases hf : decide (l.length ≤ 200 ∧ 0 ≤ 200) with
  | false =>
    have HF := Lib.hid hf
    clear hf
    go_enter Try.func8, Try.ntmps8
    go_wp2_with fail
    refine (lawFew _ _ _ _ _ _ false _ HF.out).mono ?_
    rintro e w0 ⟨rfl, rfl⟩
    go_wp2_with fail
    refine (lawAlive _).mono ?_
    rintro e w1 ⟨rfl, hb⟩
    go_wp2_with fail
    go_ret
    exact ⟨rfl, hb⟩
  | true =>
    have HF := Lib.hid hf
    obtain ⟨hl, -⟩ := of_decide_eq_true hf
    clear hf
    go_enter Try.func8, Try.ntmps8
    go_wp2_with fail
    refine (lawFew _ _ _ _ _ _ true _ HF.out).mono ?_
    rintro e w0 ⟨rfl, rfl⟩
    clear HF
    go_wp2_with (at_builtin; refine wpList_append_ints rfl (.tmp 16) (.tmp 17) rfl rfl (OwnInts.nil w.heap.size _) rfl V.out (by simp; omega) (Nat.le_refl _) (Below.refl _ _) ?_)
    intro vb w1 hob' hb1
    have hob : OwnInts w.heap.size w1 vb l := hob'
    clear hob'
    have V1 := Lib.hid (V.out.below hb1 (Nat.le_refl _))
    have hlw : (Ids.without l n).length ≤ l.length := List.length_filter_le _ _
    go_wp2_with fail
    refine (idsetWithout _ l n _ V1.out (by omega)).mono ?_
    rintro e w2 ⟨vx, rfl, hox, hb2⟩
    have V2 := Lib.hid (V1.out.below hb2 (Nat.le_refl _))
    go_wp2_with fail
    refine (idsetOf _ l _ V2.out (by omega)).mono ?_
    rintro e w3 ⟨vy, rfl, hoy, hb3⟩
    have V3 := Lib.hid (V2.out.below hb3 (Nat.le_refl _))
    go_wp2_with fail
    refine (idsetUnion _ _ l [] _ V3.out (Ints.nil _) (by simp; omega)).mono ?_
    rintro e w4 ⟨vz, rfl, hoz, hb4⟩
    have R := Lib.hid (OwnRows.of hob hox hoy hoz hb1 hb2 hb3 hb4)
    have hny : (Ids.norm l).length ≤ 200 := Nat.le_trans (Ids.norm_length l) hl
    have hnz : (Ids.norm (l ++ [])).length ≤ 200 := Nat.le_trans (Ids.norm_length _) (by simpa using hl)
    obtain ⟨ax, cx, rfl⟩ := hox.val
    obtain ⟨ay, cy, rfl⟩ := hoy.val
    obtain ⟨az, cz, rfl⟩ := hoz.val
    clear hob hox hoy hoz hb1 hb2 hb3 hb4 V1 V2 V3
    have hnx : (Ids.without l n).length ≤ 200 := by omega
    clear hlw
    generalize (Ids.without l n).length = nx at *
    generalize (Ids.norm l).length = ny at *
    generalize (Ids.norm (l ++ [])).length = nz at *
    go_wp2_with fail
    go_loopw [9] (fun i wr => ∃ k : Nat, k ≤ nx ∧ i = .int .i64 (k : Int) ∧ OwnRows w wr vb l [(.slice ax nx cx, nx), (.slice ay ny cy, ny), (.slice az nz cz, nz)]) (fun i _ => nx - (intOf i).toNat)
    case atStart => exact ⟨0, Nat.zero_le _, rfl, R.out⟩
    case round =>
      clear R
      obtain ⟨k, hk, rfl, hrows⟩ := hrel
      by_cases hlt : k < nx
      · obtain ⟨g, x, rfl, c1, f1, hnext⟩ := hrows.step (a := ax) (n := nx) (c := cx) (by simp) hlt
        have i0 : (0 : Int) ≤ (k : Int) := by omega
        have i3 : (k : Int) < (nx : Int) := by omega
        have HN := Lib.hid hnext
        clear hrows hnext
        go_wp2_with fail
        go_roundw
        case rel => exact ⟨k + 1, by omega, by go_num, HN.out _⟩
        case measure => simp [intOf]; omega
      · have hk' : (nx : Int) ≤ (k : Int) := by omega
        have R1 := Lib.hid hrows
        clear hrows
        go_wp2_with fail
        go_loopw [10] (fun i wr => ∃ k : Nat, k ≤ ny ∧ i = .int .i64 (k : Int) ∧ OwnRows w wr vb l [(.slice ax nx cx, nx), (.slice ay ny cy, ny), (.slice az nz cz, nz)]) (fun i _ => ny - (intOf i).toNat)
        case atStart => exact ⟨0, Nat.zero_le _, rfl, R1.out⟩
        case round =>
          clear R1
          obtain ⟨k, hk, rfl, hrows⟩ := hrel
          by_cases hlt : k < ny
          · obtain ⟨g, x, rfl, c1, f1, hnext⟩ := hrows.step (a := ay) (n := ny) (c := cy) (by simp) hlt
            have i0 : (0 : Int) ≤ (k : Int) := by omega
            have i3 : (k : Int) < (ny : Int) := by omega
            have HN := Lib.hid hnext
            clear hrows hnext
            go_wp2_with fail
            go_roundw
            case rel => exact ⟨k + 1, by omega, by go_num, HN.out _⟩
            case measure => simp [intOf]; omega
          · have hk' : (ny : Int) ≤ (k : Int) := by omega
            have R2 := Lib.hid hrows
            clear hrows
            go_wp2_with fail
            go_loopw [11] (fun i wr => ∃ k : Nat, k ≤ nz ∧ i = .int .i64 (k : Int) ∧ OwnRows w wr vb l [(.slice ax nx cx, nx), (.slice ay ny cy, ny), (.slice az nz cz, nz)]) (fun i _ => nz - (intOf i).toNat)
            case atStart => exact ⟨0, Nat.zero_le _, rfl, R2.out⟩
            case round =>
              clear R2
              obtain ⟨k, hk, rfl, hrows⟩ := hrel
              by_cases hlt : k < nz
              · obtain ⟨g, x, rfl, c1, f1, hnext⟩ := hrows.step (a := az) (n := nz) (c := cz) (by simp) hlt
                have i0 : (0 : Int) ≤ (k : Int) := by omega
                have i3 : (k : Int) < (nz : Int) := by omega
                have HN := Lib.hid hnext
                clear hrows hnext
                go_wp2_with fail
                go_roundw
                case rel => exact ⟨k + 1, by omega, by go_num, HN.out _⟩
                case measure => simp [intOf]; omega
              · have hk' : (nz : Int) ≤ (k : Int) := by omega
                have R3 := Lib.hid hrows
                clear hrows
                have hb0 := R3.out.below
                have hB0 := R3.out.before
                have VV := Lib.hid (V.out.below hb0 (Nat.le_refl _))
                have BB := Lib.hid hB0.ints
                have B0 := Lib.hid hb0
                clear hb0 hB0 R3
                go_wp2_with fail
                refine (refSame _ _ l l _ VV.out BB.out).mono ?_
                rw [decide_eq_true (rfl : l = l)]
                rintro e w1 ⟨rfl, hb2⟩
                have VV_ := Lib.hid (VV.out.below hb2 (Nat.le_refl _))
                clear VV
                have VV := Lib.hid VV_.out
                clear VV_
                have BB_ := Lib.hid (BB.out.below hb2 (Nat.le_refl _))
                clear BB
                have BB := Lib.hid BB_.out
                clear BB_
                have B3 := Lib.hid (B0.out.trans (hb2.mono B0.out.size))
                clear hb2 B0
                go_wp2_with fail
                refine (idsetOf _ l _ VV.out (by omega)).mono ?_
                rintro e w4 ⟨v6, rfl, ho7, hb5⟩
                have VV_ := Lib.hid (VV.out.below hb5 (Nat.le_refl _))
                clear VV
                have VV := Lib.hid VV_.out
                clear VV_
                have BB_ := Lib.hid (BB.out.below hb5 (Nat.le_refl _))
                clear BB
                have BB := Lib.hid BB_.out
                clear BB_
                have B8 := Lib.hid (B3.out.trans (hb5.mono B3.out.size))
                have X := Lib.hid (ho7.ints)
                clear ho7
                clear hb5 B3
                go_wp2_with fail
                refine (refOf _ l _ BB.out (by omega)).mono ?_
                rintro e w9 ⟨v11, rfl, ho12, hb10⟩
                have VV_ := Lib.hid (VV.out.below hb10 (Nat.le_refl _))
                clear VV
                have VV := Lib.hid VV_.out
                clear VV_
                have BB_ := Lib.hid (BB.out.below hb10 (Nat.le_refl _))
                clear BB
                have BB := Lib.hid BB_.out
                clear BB_
                have X_ := Lib.hid (X.out.below hb10 (Nat.le_refl _))
                clear X
                have X := Lib.hid X_.out
                clear X_
                have B13 := Lib.hid (B8.out.trans (hb10.mono B8.out.size))
                have Y := Lib.hid (ho12.ints)
                clear ho12
                clear hb10 B8
                go_wp2_with fail
                refine (refSame _ _ _ _ _ X.out Y.out).mono ?_
                rw [decide_eq_true (rfl : Ids.norm l = Ids.norm l)]
                rintro e w14 ⟨rfl, hb15⟩
                clear X
                clear Y
                have VV_ := Lib.hid (VV.out.below hb15 (Nat.le_refl _))
                clear VV
                have VV := Lib.hid VV_.out
                clear VV_
                have BB_ := Lib.hid (BB.out.below hb15 (Nat.le_refl _))
                clear BB
                have BB := Lib.hid BB_.out
                clear BB_
                have B16 := Lib.hid (B13.out.trans (hb15.mono B13.out.size))
                clear hb15 B13
                go_wp2_with fail
                refine (lawAlive _).mono ?_
                rintro e w17 ⟨rfl, hb18⟩
                have VV_ := Lib.hid (VV.out.below hb18 (Nat.le_refl _))
                clear VV
                have VV := Lib.hid VV_.out
                clear VV_
                have BB_ := Lib.hid (BB.out.below hb18 (Nat.le_refl _))
                clear BB
                have BB := Lib.hid BB_.out
                clear BB_
                have B19 := Lib.hid (B16.out.trans (hb18.mono B16.out.size))
                clear hb18 B16
                go_wp2_with fail
                go_ret
                exact ⟨rfl, B19.out⟩
end Go.Proofs.Ytflbphmpohkkbaa
