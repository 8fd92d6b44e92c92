/-
  THE LAWS OF LAYER 9: Parse inverts Text. By an AI agent.
-/
import Derived.Test.YtoedminkaimfcaaDoorColLaws
namespace Go.Proofs.YtoedminkaimfcaaDoor
open Go.RowKit

theorem back_valid {k : Nat} (h : k ≤ 31) {t : ByteArray} (ht : t.data.toList = Col.textI (k : Int)) : Col.parseI t.data.toList = k ∧ Col.parseE t.data.toList = 0 := by
  rw [ht, Col.textI_nat h]
  exact Col.parse_text h
theorem back_bad {m : Int} (h : Col.validB m = false) : Col.textI m = [] := Col.textI_bad h
theorem textParse_str {s : ByteArray} {m : Nat} (hm : m ≤ 31) (ht : Col.textN m = s.data.toList) : str (Col.textI (m : Int)) = .string s := by
  rw [Col.textI_nat hm, ht]
  rfl
theorem parse_nil_bytes : Col.parseI (⟨#[]⟩ : ByteArray).data.toList = 0 ∧ Col.parseE (⟨#[]⟩ : ByteArray).data.toList = 3 := Col.parse_empty
set_option maxHeartbeats 2000000 in
set_option maxRecDepth 100000 in
theorem lawColorBack (m : Int) (s : ByteArray) (w : World) (hE : Env w) :
    Calls Tryd.prog 6 #[.int .i64 m, .string s] w fun e w' => e = .returned (.bool true) ∧ Below w.heap.size w w' := by
  have HE := Lib.hid hE
  by_cases hbig : 200 < s.size
  · clear hE
    go_enter Tryd.func6, Tryd.ntmps6
    go_wp2_with fail
    refine (colorAlive _ HE.out).mono ?_
    rintro e w2 ⟨rfl, hb2⟩
    go_wp2_with fail
    go_ret
    exact ⟨rfl, hb2⟩
  have G1 := Lib.hid (fun w hE => colorParse s w hE)
  have G2 := Lib.hid (fun w hE => colorText m w hE)
  have G4 := Lib.hid (fun w => colorIs m w)
  clear hE
  rcases Col.text_parse s.data.toList with ⟨he, hi⟩ | ⟨q, hq, he, hi, ht⟩
  · rw [he, hi] at G1
    clear he hi
    rcases Col.valid_cases m with ⟨k, rfl, hk, hv⟩ | ⟨-, hv⟩
    · obtain ⟨tx, htx, ex⟩ := exists_bytes (Col.textI (k : Int))
      have G5 := Lib.hid (fun w hE => colorParse tx w hE)
      rw [(back_valid hk htx).1, (back_valid hk htx).2] at G5
      rw [ex] at G2
      rw [hv] at G4
      clear hk hv htx ex
      go_enter Tryd.func6, Tryd.ntmps6
      go_wp2_with fail
      refine (G1.out _ HE.out).mono ?_
      rintro e w1 ⟨rfl, hb1⟩
      have B1 := Lib.hid hb1
      clear hb1
      go_wp2_with fail
      refine (G2.out _ (HE.out.below B1.out)).mono ?_
      rintro e w3 ⟨rfl, hb3⟩
      have B3 := Lib.hid (B1.out.trans (hb3.mono B1.out.size))
      clear hb3
      go_wp2_with fail
      refine (G5.out _ (HE.out.below B3.out)).mono ?_
      rintro e w4 ⟨rfl, hb4⟩
      have B4 := Lib.hid (B3.out.trans (hb4.mono B3.out.size))
      clear hb4
      go_wp2_with fail
      refine (G4.out _).mono ?_
      rintro e w5 ⟨rfl, rfl⟩
      go_wp2_with fail
      refine (colorAlive _ (HE.out.below B4.out)).mono ?_
      rintro e w6 ⟨rfl, hb6⟩
      have B6 := Lib.hid (B4.out.trans (hb6.mono B4.out.size))
      clear hb6
      go_wp2_with fail
      go_ret
      exact ⟨rfl, B6.out⟩
    · have G5 := Lib.hid (fun w hE => colorParse ⟨#[]⟩ w hE)
      rw [parse_nil_bytes.1, parse_nil_bytes.2] at G5
      rw [back_bad hv, show str [] = .string ⟨#[]⟩ from rfl] at G2
      rw [hv] at G4
      clear hv
      go_enter Tryd.func6, Tryd.ntmps6
      go_wp2_with fail
      refine (G1.out _ HE.out).mono ?_
      rintro e w1 ⟨rfl, hb1⟩
      have B1 := Lib.hid hb1
      clear hb1
      go_wp2_with fail
      refine (G2.out _ (HE.out.below B1.out)).mono ?_
      rintro e w3 ⟨rfl, hb3⟩
      have B3 := Lib.hid (B1.out.trans (hb3.mono B1.out.size))
      clear hb3
      go_wp2_with fail
      refine (G5.out _ (HE.out.below B3.out)).mono ?_
      rintro e w4 ⟨rfl, hb4⟩
      have B4 := Lib.hid (B3.out.trans (hb4.mono B3.out.size))
      clear hb4
      go_wp2_with fail
      refine (G4.out _).mono ?_
      rintro e w5 ⟨rfl, rfl⟩
      go_wp2_with fail
      refine (G2.out _ (HE.out.below B4.out)).mono ?_
      rintro e w5 ⟨rfl, hb5⟩
      have B5 := Lib.hid (B4.out.trans (hb5.mono B4.out.size))
      clear hb5
      go_wp2_with fail
      refine (colorAlive _ (HE.out.below B5.out)).mono ?_
      rintro e w6 ⟨rfl, hb6⟩
      have B6 := Lib.hid (B5.out.trans (hb6.mono B5.out.size))
      clear hb6
      go_wp2_with fail
      go_ret
      exact ⟨rfl, B6.out⟩
  · have G3 := Lib.hid (fun w hE => colorText (q : Int) w hE)
    rw [textParse_str hq ht] at G3
    rw [he, hi] at G1
    clear he hi hq ht
    rcases Col.valid_cases m with ⟨k, rfl, hk, hv⟩ | ⟨-, hv⟩
    · obtain ⟨tx, htx, ex⟩ := exists_bytes (Col.textI (k : Int))
      have G5 := Lib.hid (fun w hE => colorParse tx w hE)
      rw [(back_valid hk htx).1, (back_valid hk htx).2] at G5
      rw [ex] at G2
      rw [hv] at G4
      clear hk hv htx ex
      go_enter Tryd.func6, Tryd.ntmps6
      go_wp2_with fail
      refine (G1.out _ HE.out).mono ?_
      rintro e w1 ⟨rfl, hb1⟩
      have B1 := Lib.hid hb1
      clear hb1
      go_wp2_with fail
      refine (G3.out _ (HE.out.below B1.out)).mono ?_
      rintro e w2 ⟨rfl, hb2⟩
      have B2 := Lib.hid (B1.out.trans (hb2.mono B1.out.size))
      clear hb2
      go_wp2_with fail
      refine (G2.out _ (HE.out.below B2.out)).mono ?_
      rintro e w3 ⟨rfl, hb3⟩
      have B3 := Lib.hid (B2.out.trans (hb3.mono B2.out.size))
      clear hb3
      go_wp2_with fail
      refine (G5.out _ (HE.out.below B3.out)).mono ?_
      rintro e w4 ⟨rfl, hb4⟩
      have B4 := Lib.hid (B3.out.trans (hb4.mono B3.out.size))
      clear hb4
      go_wp2_with fail
      refine (G4.out _).mono ?_
      rintro e w5 ⟨rfl, rfl⟩
      go_wp2_with fail
      refine (colorAlive _ (HE.out.below B4.out)).mono ?_
      rintro e w6 ⟨rfl, hb6⟩
      have B6 := Lib.hid (B4.out.trans (hb6.mono B4.out.size))
      clear hb6
      go_wp2_with fail
      go_ret
      exact ⟨rfl, B6.out⟩
    · have G5 := Lib.hid (fun w hE => colorParse ⟨#[]⟩ w hE)
      rw [parse_nil_bytes.1, parse_nil_bytes.2] at G5
      rw [back_bad hv, show str [] = .string ⟨#[]⟩ from rfl] at G2
      rw [hv] at G4
      clear hv
      go_enter Tryd.func6, Tryd.ntmps6
      go_wp2_with fail
      refine (G1.out _ HE.out).mono ?_
      rintro e w1 ⟨rfl, hb1⟩
      have B1 := Lib.hid hb1
      clear hb1
      go_wp2_with fail
      refine (G3.out _ (HE.out.below B1.out)).mono ?_
      rintro e w2 ⟨rfl, hb2⟩
      have B2 := Lib.hid (B1.out.trans (hb2.mono B1.out.size))
      clear hb2
      go_wp2_with fail
      refine (G2.out _ (HE.out.below B2.out)).mono ?_
      rintro e w3 ⟨rfl, hb3⟩
      have B3 := Lib.hid (B2.out.trans (hb3.mono B2.out.size))
      clear hb3
      go_wp2_with fail
      refine (G5.out _ (HE.out.below B3.out)).mono ?_
      rintro e w4 ⟨rfl, hb4⟩
      have B4 := Lib.hid (B3.out.trans (hb4.mono B3.out.size))
      clear hb4
      go_wp2_with fail
      refine (G4.out _).mono ?_
      rintro e w5 ⟨rfl, rfl⟩
      go_wp2_with fail
      refine (G2.out _ (HE.out.below B4.out)).mono ?_
      rintro e w5 ⟨rfl, hb5⟩
      have B5 := Lib.hid (B4.out.trans (hb5.mono B4.out.size))
      clear hb5
      go_wp2_with fail
      refine (colorAlive _ (HE.out.below B5.out)).mono ?_
      rintro e w6 ⟨rfl, hb6⟩
      have B6 := Lib.hid (B5.out.trans (hb6.mono B5.out.size))
      clear hb6
      go_wp2_with fail
      go_ret
      exact ⟨rfl, B6.out⟩
end Go.Proofs.YtoedminkaimfcaaDoor
