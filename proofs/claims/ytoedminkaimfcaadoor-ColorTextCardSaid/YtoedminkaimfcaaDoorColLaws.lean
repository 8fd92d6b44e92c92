/-
  THE LAWS OF LAYER 9: the chapter's examples, masks, texts, parses. By an AI agent.
-/
import Derived.Test.YtoedminkaimfcaaDoorColParse
namespace Go.Proofs.YtoedminkaimfcaaDoor
open Go.RowKit

def exAR : ByteArray := ⟨#[97, 109, 98, 101, 114, 43, 114, 117, 98, 121]⟩
theorem parse_ar : Col.parseI [97, 109, 98, 101, 114, 43, 114, 117, 98, 121] = 9 ∧ Col.parseE [97, 109, 98, 101, 114, 43, 114, 117, 98, 121] = 0 := by decide +kernel
theorem text_9 : Col.textI 9 = [97, 109, 98, 101, 114, 43, 114, 117, 98, 121] := by decide +kernel
theorem text_0 : Col.textI 0 = [110, 111, 110, 101] := by decide +kernel
theorem count_31 : Col.countI 31 = 5 := by decide +kernel
theorem aliveParse (w : World) (hE : Env w) :
    Calls Tryd.prog 17 #[.string ⟨#[97, 109, 98, 101, 114, 43, 114, 117, 98, 121]⟩] w fun e w' => e = .returned (.tuple #[.int .i64 9, .int .i64 0]) ∧ Below w.heap.size w w' := by
  have h := colorParse ⟨#[97, 109, 98, 101, 114, 43, 114, 117, 98, 121]⟩ w hE
  rw [show (⟨#[97, 109, 98, 101, 114, 43, 114, 117, 98, 121]⟩ : ByteArray).data.toList = [97, 109, 98, 101, 114, 43, 114, 117, 98, 121] from rfl, parse_ar.1, parse_ar.2] at h
  exact h
theorem aliveText9 (w : World) (hE : Env w) :
    Calls Tryd.prog 15 #[.int .i64 9] w fun e w' => e = .returned (.string ⟨#[97, 109, 98, 101, 114, 43, 114, 117, 98, 121]⟩) ∧ Below w.heap.size w w' := by
  have h := colorText 9 w hE
  rw [text_9] at h
  exact h
theorem aliveText0 (w : World) (hE : Env w) :
    Calls Tryd.prog 15 #[.int .i64 0] w fun e w' => e = .returned (.string ⟨#[110, 111, 110, 101]⟩) ∧ Below w.heap.size w w' := by
  have h := colorText 0 w hE
  rw [text_0] at h
  exact h
theorem aliveName (w : World) (hE : Env w) :
    Calls Tryd.prog 10 #[.int .i64 4] w fun e w' => e = .returned (.string ⟨#[101, 109, 101, 114, 97, 108, 100]⟩) ∧ w = w' := colorName 4 w hE
theorem aliveCount (w : World) :
    Calls Tryd.prog 12 #[.int .i64 31] w fun e w' => e = .returned (.int .i64 5) ∧ Below w.heap.size w w' := by
  have h := colorCount 31 w
  rw [count_31] at h
  exact h
theorem aliveIs (w : World) :
    Calls Tryd.prog 8 #[.int .i64 31] w fun e w' => e = .returned (.bool true) ∧ w = w' := colorIs 31 w
theorem aliveNot (w : World) :
    Calls Tryd.prog 8 #[.int .i64 32] w fun e w' => e = .returned (.bool false) ∧ w = w' := colorIs 32 w
set_option maxHeartbeats 1000000 in
set_option maxRecDepth 100000 in
theorem colorAlive (w : World) (hE : Env w) :
    Calls Tryd.prog 14 #[] w fun e w' => e = .returned (.bool true) ∧ Below w.heap.size w w' := by
  have HE := Lib.hid hE
  clear hE
  go_enter Tryd.func14, Tryd.ntmps14
  go_wp2_with fail
  refine (aliveParse _ HE.out).mono ?_
  rintro e w1 ⟨rfl, hb1⟩
  have B1 := Lib.hid hb1
  clear hb1
  go_wp2_with fail
  refine (aliveText9 _ (HE.out.below B1.out)).mono ?_
  rintro e w2 ⟨rfl, hb2⟩
  have B2 := Lib.hid (B1.out.trans (hb2.mono B1.out.size))
  clear hb2
  go_wp2_with fail
  refine (aliveText0 _ (HE.out.below B2.out)).mono ?_
  rintro e w3 ⟨rfl, hb3⟩
  have B3 := Lib.hid (B2.out.trans (hb3.mono B2.out.size))
  clear hb3
  go_wp2_with fail
  refine (aliveName _ (HE.out.below B3.out)).mono ?_
  rintro e w4 ⟨rfl, rfl⟩
  go_wp2_with fail
  refine (aliveCount _).mono ?_
  rintro e w4 ⟨rfl, hb4⟩
  have B4 := Lib.hid (B3.out.trans (hb4.mono B3.out.size))
  clear hb4
  go_wp2_with fail
  refine (aliveIs _).mono ?_
  rintro e w5 ⟨rfl, rfl⟩
  go_wp2_with fail
  refine (aliveNot _).mono ?_
  rintro e w5 ⟨rfl, rfl⟩
  go_wp2_with fail
  go_ret
  exact ⟨rfl, B4.out⟩
set_option maxHeartbeats 1000000 in
set_option maxRecDepth 100000 in
theorem lawColorMasks (m : Int) (w : World) (hE : Env w) :
    Calls Tryd.prog 3 #[.int .i64 m] w fun e w' => e = .returned (.bool true) ∧ Below w.heap.size w w' := by
  have HE := Lib.hid hE
  have G1 := Lib.hid (fun w => colorIs m w)
  have G2 := Lib.hid (fun w => refIs9 m w)
  have G3 := Lib.hid (fun w hE => colorName m w hE)
  have G4 := Lib.hid (fun w => refName9 m w)
  have G5 := Lib.hid (fun w => colorCount m w)
  have G6 := Lib.hid (fun w => refCount9 m w)
  obtain ⟨sx, -, ex⟩ := exists_bytes (Col.nameI m)
  rw [ex] at G3 G4
  clear hE ex
  generalize Col.validB m = vb at *
  generalize Col.countI m = c at *
  cases vb
  all_goals
    go_enter Tryd.func3, Tryd.ntmps3
    go_wp2_with fail
    refine (G1.out _).mono ?_
    rintro e w1 ⟨rfl, rfl⟩
    go_wp2_with fail
    refine (G2.out _).mono ?_
    rintro e w1 ⟨rfl, rfl⟩
    go_wp2_with fail
    refine (G3.out _ HE.out).mono ?_
    rintro e w1 ⟨rfl, rfl⟩
    go_wp2_with fail
    refine (G4.out _).mono ?_
    rintro e w1 ⟨rfl, rfl⟩
    go_wp2_with fail
    refine (G5.out _).mono ?_
    rintro e w1 ⟨rfl, hb1⟩
    have B1 := Lib.hid hb1
    clear hb1
    go_wp2_with fail
    refine (G6.out _).mono ?_
    rintro e w2 ⟨rfl, rfl⟩
    go_wp2_with fail
    refine (colorAlive _ (HE.out.below B1.out)).mono ?_
    rintro e w2 ⟨rfl, hb2⟩
    go_wp2_with fail
    go_ret
    exact ⟨rfl, B1.out.trans (hb2.mono B1.out.size)⟩
set_option maxHeartbeats 1000000 in
set_option maxRecDepth 100000 in
theorem lawColorText (m : Int) (w : World) (hE : Env w) :
    Calls Tryd.prog 4 #[.int .i64 m] w fun e w' => e = .returned (.bool true) ∧ Below w.heap.size w w' := by
  have HE := Lib.hid hE
  have G1 := Lib.hid (fun w hE => colorText m w hE)
  have G2 := Lib.hid (fun w => refText9 m w)
  obtain ⟨sx, -, ex⟩ := exists_bytes (Col.textI m)
  rw [ex] at G1 G2
  clear hE ex
  go_enter Tryd.func4, Tryd.ntmps4
  go_wp2_with fail
  refine (G1.out _ HE.out).mono ?_
  rintro e w1 ⟨rfl, hb1⟩
  have B1 := Lib.hid hb1
  clear hb1
  go_wp2_with fail
  refine (G2.out _).mono ?_
  rintro e w2 ⟨rfl, rfl⟩
  go_wp2_with fail
  refine (colorAlive _ (HE.out.below B1.out)).mono ?_
  rintro e w2 ⟨rfl, hb2⟩
  go_wp2_with fail
  go_ret
  exact ⟨rfl, B1.out.trans (hb2.mono B1.out.size)⟩
set_option maxHeartbeats 1000000 in
set_option maxRecDepth 100000 in
theorem lawColorParse (s : ByteArray) (w : World) (hE : Env w) :
    Calls Tryd.prog 5 #[.string s] w fun e w' => e = .returned (.bool true) ∧ Below w.heap.size w w' := by
  have HE := Lib.hid hE
  have G1 := Lib.hid (fun w hE => colorParse s w hE)
  have G2 := Lib.hid (fun w => refParse9 s w)
  clear hE
  generalize Col.parseI s.data.toList = a at *
  generalize Col.parseE s.data.toList = b at *
  by_cases hbig : 200 < s.size
  · go_enter Tryd.func5, Tryd.ntmps5
    go_wp2_with fail
    refine (colorAlive _ HE.out).mono ?_
    rintro e w2 ⟨rfl, hb2⟩
    go_wp2_with fail
    go_ret
    exact ⟨rfl, hb2⟩
  · go_enter Tryd.func5, Tryd.ntmps5
    go_wp2_with fail
    refine (G1.out _ HE.out).mono ?_
    rintro e w1 ⟨rfl, hb1⟩
    have B1 := Lib.hid hb1
    clear hb1
    go_wp2_with fail
    refine (G2.out _).mono ?_
    rintro e w2 ⟨rfl, rfl⟩
    go_wp2_with fail
    refine (colorAlive _ (HE.out.below B1.out)).mono ?_
    rintro e w2 ⟨rfl, hb2⟩
    go_wp2_with fail
    go_ret
    exact ⟨rfl, B1.out.trans (hb2.mono B1.out.size)⟩
end Go.Proofs.YtoedminkaimfcaaDoor
