/-
  THE LAWS OF LAYER 11: the chapter's examples, texts, parses, Parse inverts Text. By an AI agent.
-/
import Derived.Test.YtmkdljemiollfaaKeyRefParse
namespace Go.Proofs.Ytmkdljemiollfaa
open Go.RowKit

theorem text_5 : Kw.textN 5 = [102, 108, 121, 105, 110, 103, 43, 104, 97, 115, 116, 101] := by decide +kernel
theorem textI_5 : Kw.textI 5 = [102, 108, 121, 105, 110, 103, 43, 104, 97, 115, 116, 101] := text_5
theorem textI_0 : Kw.textI 0 = [110, 111, 110, 101] := by decide +kernel
theorem name_16 : Kw.nameI 16 = [109, 117, 115, 116, 45, 97, 116, 116, 97, 99, 107] := by decide +kernel
theorem aliveParse (w : World) :
    Calls Try.prog 15 #[.string ⟨#[102, 108, 121, 105, 110, 103, 43, 104, 97, 115, 116, 101]⟩] w fun e w' => e = .returned (.tuple #[.int .i64 5, .int .i64 0]) ∧ Below w.heap.size w w' := by
  have h := keyParse ⟨#[102, 108, 121, 105, 110, 103, 43, 104, 97, 115, 116, 101]⟩ w (by decide)
  have h5 := Kw.parse_text (m := 5) (by omega)
  rw [text_5] at h5
  rw [show (⟨#[102, 108, 121, 105, 110, 103, 43, 104, 97, 115, 116, 101]⟩ : ByteArray).data.toList = [102, 108, 121, 105, 110, 103, 43, 104, 97, 115, 116, 101] from rfl, h5.1, h5.2] at h
  exact h
theorem aliveText5 (w : World) :
    Calls Try.prog 12 #[.int .i64 5] w fun e w' => e = .returned (.string ⟨#[102, 108, 121, 105, 110, 103, 43, 104, 97, 115, 116, 101]⟩) ∧ Below w.heap.size w w' := by
  have h := keyText 5 w
  rw [textI_5] at h
  exact h
theorem aliveText0 (w : World) :
    Calls Try.prog 12 #[.int .i64 0] w fun e w' => e = .returned (.string ⟨#[110, 111, 110, 101]⟩) ∧ Below w.heap.size w w' := by
  have h := keyText 0 w
  rw [textI_0] at h
  exact h
theorem aliveName (w : World) :
    Calls Try.prog 10 #[.int .i64 16] w fun e w' => e = .returned (.string ⟨#[109, 117, 115, 116, 45, 97, 116, 116, 97, 99, 107]⟩) ∧ Below w.heap.size w w' := by
  have h := keyName 16 w
  rw [name_16] at h
  exact h
set_option maxHeartbeats 1000000 in
set_option maxRecDepth 100000 in
theorem keyAlive (w : World) :
    Calls Try.prog 14 #[] w fun e w' => e = .returned (.bool true) ∧ Below w.heap.size w w' := by
  go_enter Try.func14, Try.ntmps14
  go_wp2_with fail
  refine (aliveParse _).mono ?_
  rintro e w1 ⟨rfl, hb1⟩
  have B1 := Lib.hid hb1
  clear hb1
  go_wp2_with fail
  refine (aliveText5 _).mono ?_
  rintro e w2 ⟨rfl, hb2⟩
  have B2 := Lib.hid (B1.out.trans (hb2.mono B1.out.size))
  clear hb2
  go_wp2_with fail
  refine (aliveText0 _).mono ?_
  rintro e w3 ⟨rfl, hb3⟩
  have B3 := Lib.hid (B2.out.trans (hb3.mono B2.out.size))
  clear hb3
  go_wp2_with fail
  refine (aliveName _).mono ?_
  rintro e w4 ⟨rfl, hb4⟩
  have B4 := Lib.hid (B3.out.trans (hb4.mono B3.out.size))
  clear hb4
  go_wp2_with fail
  go_ret
  exact ⟨rfl, B4.out⟩
set_option maxHeartbeats 1000000 in
set_option maxRecDepth 100000 in
theorem lawKeywordTexts (n : Int) (w : World) :
    Calls Try.prog 3 #[.int .i64 n] w fun e w' => e = .returned (.bool true) ∧ Below w.heap.size w w' := by
  have G1 := Lib.hid (fun w => keyIs n w)
  have G2 := Lib.hid (fun w => refIs11 n w)
  have G3 := Lib.hid (fun w => keyName n w)
  have G4 := Lib.hid (fun w => refName11 n w)
  have G5 := Lib.hid (fun w => keyText n w)
  have G6 := Lib.hid (fun w => refText11 n w)
  obtain ⟨sx, -, ex⟩ := exists_bytes (Kw.nameI n)
  rw [ex] at G3 G4
  obtain ⟨tx, -, et⟩ := exists_bytes (Kw.textI n)
  rw [et] at G5 G6
  clear ex et
  generalize Kw.validB n = vb at *
  cases vb
  all_goals
    go_enter Try.func3, Try.ntmps3
    go_wp2_with fail
    refine (G1.out _).mono ?_
    rintro e w1 ⟨rfl, rfl⟩
    go_wp2_with fail
    refine (G2.out _).mono ?_
    rintro e w1 ⟨rfl, rfl⟩
    go_wp2_with fail
    refine (G3.out _).mono ?_
    rintro e w1 ⟨rfl, hb1⟩
    have B1 := Lib.hid hb1
    clear hb1
    go_wp2_with fail
    refine (G4.out _).mono ?_
    rintro e w2 ⟨rfl, hb2⟩
    have B2 := Lib.hid (B1.out.trans (hb2.mono B1.out.size))
    clear hb2
    go_wp2_with fail
    refine (G5.out _).mono ?_
    rintro e w3 ⟨rfl, hb3⟩
    have B3 := Lib.hid (B2.out.trans (hb3.mono B2.out.size))
    clear hb3
    go_wp2_with fail
    refine (G6.out _).mono ?_
    rintro e w4 ⟨rfl, hb4⟩
    have B4 := Lib.hid (B3.out.trans (hb4.mono B3.out.size))
    clear hb4
    go_wp2_with fail
    refine (keyAlive _).mono ?_
    rintro e w5 ⟨rfl, hb5⟩
    go_wp2_with fail
    go_ret
    exact ⟨rfl, B4.out.trans (hb5.mono B4.out.size)⟩
set_option maxHeartbeats 1000000 in
set_option maxRecDepth 100000 in
theorem lawKeywordParses (s : ByteArray) (w : World) :
    Calls Try.prog 4 #[.string s] w fun e w' => e = .returned (.bool true) ∧ Below w.heap.size w w' := by
  by_cases hbig : 1000 < s.size
  · go_enter Try.func4, Try.ntmps4
    go_wp2_with fail
    refine (keyAlive _).mono ?_
    rintro e w2 ⟨rfl, hb2⟩
    go_wp2_with fail
    go_ret
    exact ⟨rfl, hb2⟩
  · have G1 := Lib.hid (fun w => keyParse s w (by omega))
    have G2 := Lib.hid (fun w => refParse11 s w (by omega))
    generalize Kw.parseI s.data.toList = a at *
    generalize Kw.parseE s.data.toList = b at *
    go_enter Try.func4, Try.ntmps4
    go_wp2_with fail
    refine (G1.out _).mono ?_
    rintro e w1 ⟨rfl, hb1⟩
    have B1 := Lib.hid hb1
    clear hb1
    go_wp2_with fail
    refine (G2.out _).mono ?_
    rintro e w2 ⟨rfl, hb2⟩
    have B2 := Lib.hid (B1.out.trans (hb2.mono B1.out.size))
    clear hb2
    go_wp2_with fail
    refine (keyAlive _).mono ?_
    rintro e w3 ⟨rfl, hb3⟩
    go_wp2_with fail
    go_ret
    exact ⟨rfl, B2.out.trans (hb3.mono B2.out.size)⟩
theorem back_valid {k : Nat} (h : k ≤ 131071) {t : ByteArray} (ht : t.data.toList = Kw.textI (k : Int)) : Kw.parseI t.data.toList = k ∧ Kw.parseE t.data.toList = 0 := by
  rw [ht, Kw.textI_nat h]
  exact Kw.parse_text h
theorem back_some {k : Nat} (h : k ≤ 131071) {t : ByteArray} (ht : t.data.toList = Kw.textI (k : Int)) : t ≠ ⟨#[]⟩ ∧ t.size ≤ 238 := by
  rw [Kw.textI_nat h] at ht
  refine ⟨fun e => Kw.textN_ne h (by rw [← ht, e]), ?_⟩
  rw [← bytes_len, ht]
  exact Kw.textN_len h
set_option maxHeartbeats 1000000 in
set_option maxRecDepth 100000 in
theorem lawKeywordBack (n : Int) (w : World) :
    Calls Try.prog 5 #[.int .i64 n] w fun e w' => e = .returned (.bool true) ∧ Below w.heap.size w w' := by
  have G2 := Lib.hid (fun w => keyText n w)
  rcases Kw.valid_cases n with ⟨k, rfl, hk, hv⟩ | ⟨hout, hv⟩
  · obtain ⟨tx, htx, ex⟩ := exists_bytes (Kw.textI (k : Int))
    obtain ⟨hne, hsz⟩ := back_some hk htx
    have G5 := Lib.hid (fun w => keyParse tx w (by omega))
    rw [(back_valid hk htx).1, (back_valid hk htx).2] at G5
    rw [ex] at G2
    have h1 : (!tx.toList.isEmpty) = true := bytes_some hne
    have h2 : (tx.toList == []) = false := bytes_none hne
    have h3 : tx.toList.isEmpty = false := by simpa using h1
    have hk' : (k : Int) ≤ 131071 := by omega
    clear hv htx ex hne hk
    go_enter Try.func5, Try.ntmps5
    go_wp2_with fail
    refine (G2.out _).mono ?_
    rintro e w1 ⟨rfl, hb1⟩
    have B1 := Lib.hid hb1
    clear hb1
    go_wp2_with fail
    refine (G5.out _).mono ?_
    rintro e w2 ⟨rfl, hb2⟩
    have B2 := Lib.hid (B1.out.trans (hb2.mono B1.out.size))
    clear hb2
    go_wp2_with fail
    refine (keyAlive _).mono ?_
    rintro e w3 ⟨rfl, hb3⟩
    go_wp2_with fail
    go_ret
    exact ⟨rfl, B2.out.trans (hb3.mono B2.out.size)⟩
  · have G5 := Lib.hid (fun w => keyParse ⟨#[]⟩ w (by decide))
    rw [show (⟨#[]⟩ : ByteArray).data.toList = [] from rfl, Kw.parse_empty.1, Kw.parse_empty.2] at G5
    rw [Kw.textI_bad hv, show str [] = .string ⟨#[]⟩ from rfl] at G2
    have h1 : (decide (0 ≤ n) && decide (n ≤ 131071)) = false := by simp; omega
    clear hv
    rcases hout with hout | hout
    all_goals
      go_enter Try.func5, Try.ntmps5
      go_wp2_with fail
      refine (G2.out _).mono ?_
      rintro e w1 ⟨rfl, hb1⟩
      have B1 := Lib.hid hb1
      clear hb1
      go_wp2_with fail
      refine (G5.out _).mono ?_
      rintro e w2 ⟨rfl, hb2⟩
      have B2 := Lib.hid (B1.out.trans (hb2.mono B1.out.size))
      clear hb2
      go_wp2_with fail
      refine (keyAlive _).mono ?_
      rintro e w3 ⟨rfl, hb3⟩
      go_wp2_with fail
      go_ret
      exact ⟨rfl, B2.out.trans (hb3.mono B2.out.size)⟩
end Go.Proofs.Ytmkdljemiollfaa
