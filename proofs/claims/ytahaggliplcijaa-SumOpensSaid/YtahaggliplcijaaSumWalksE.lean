/-
  CONTRACTS OF LAYER 5's REFERENCE: Seal and Open. By an AI agent.
-/
import Derived.Test.YtahaggliplcijaaSumWalksD
namespace Go.Proofs.Ytahaggliplcijaa
open Go.RowKit

theorem le_take {n k : Nat} (h : k < 4) : (Crc.le n).take (k + 1) = (Crc.le n).take k ++ [(n / 256 ^ k).toUInt8] := by
  have hk : k = 0 ∨ k = 1 ∨ k = 2 ∨ k = 3 := by omega
  rcases hk with rfl | rfl | rfl | rfl <;> simp [Crc.le]
theorem pow_step (n k : Nat) : n / 256 ^ k / 256 = n / 256 ^ (k + 1) := by rw [Nat.div_div_eq_div_mul, ← Nat.pow_succ]
set_option maxHeartbeats 1000000 in
set_option maxRecDepth 100000 in
theorem refSeal (v : Value) (l : List UInt8) (w : World) (hv : Bytes w v l) (hl : l.length ≤ 100000) :
    Calls Try.prog 13 #[v] w (BytesRes (Crc.sealS l) w) := by
  have hn := Crc.ofS_lt l
  have HE := Lib.hid (show Crc.sealS l = l ++ Crc.le (Crc.ofS l) from rfl)
  generalize Crc.sealS l = m at HE ⊢
  have HV := hv
  obtain ⟨a, c, rfl, -⟩ := hv
  go_enter Try.func13, Try.ntmps13
  go_wp2_with (at_builtin; refine wpList_append_bytes (w0 := w) rfl (.tmp 6) (.tmp 7) rfl rfl (OwnRow.nil encB 5 w.heap.size w) rfl HV (by simp; omega) (Nat.le_refl _) (Below.refl _ _) ?_)
  intro v1 w1 ho1 hb1

  go_wp2_with fail
  refine (refOf _ l w1 (HV.under hb1 (Nat.le_refl _)) (by omega)).mono ?_
  rintro e w2 ⟨rfl, rfl⟩
  generalize Crc.ofS l = N at hn HE ⊢
  have x0 : (0 : Int) ≤ (N : Int) := by omega
  have x1 : (N : Int) ≤ 4294967295 := by omega
  go_wp2_with fail
  go_loopw [3, 4, 5] (fun s u i wr => ∃ k : Nat, k ≤ 4 ∧ i = .int .i64 (k : Int) ∧ u = .int .u32 ((N / 256 ^ k : Nat) : Int) ∧ OwnB w.heap.size wr s (l ++ (Crc.le N).take k) ∧ Below w.heap.size w wr) (fun _ _ i _ => 4 - (intOf i).toNat)
  case atStart => exact ⟨0, by omega, rfl, by simp, by simpa using ho1, hb1⟩
  case round =>
    obtain ⟨k, hk, rfl, rfl, ho, hb⟩ := hrel
    have i0 : (0 : Int) ≤ (k : Int) := by omega
    have hlen : ((Crc.le N).take k).length ≤ 4 := by rw [List.length_take, Crc.le_length]; omega
    by_cases hlt : k < 4
    · have i1 : (k : Int) < 4 := by omega
      have hle : N / 256 ^ k ≤ N := Nat.div_le_self _ _
      have HT := Lib.hid (le_take (n := N) hlt)
      have HP := Lib.hid (pow_step N k)
      have hsz := hb.size
      generalize N / 256 ^ k = x at hle HT HP ⊢
      have y0 : (0 : Int) ≤ (x : Int) := by omega
      have y1 : (x : Int) ≤ 4294967295 := by omega
      have HC := Lib.hid (cell0 x)
      clear hn
      go_wp2_with (at_builtin; refine wpList_push_byte (w0 := w) rfl (.tmp 15) (.tmp 19) rfl rfl ho x.toUInt8 HC.out rfl (by simp only [List.length_append]; omega) hsz hb ?_)
      intro v2 w3 ho2 hb2
      go_wp2_with fail
      go_roundw
      case rel => exact ⟨k + 1, by omega, by go_num, by rw [← HP.out]; go_num, by rw [HT.out]; simpa using ho2, hb2⟩
      case measure => simp [intOf]; omega
    · obtain rfl : k = 4 := by omega
      go_wp2_with fail
      go_ret
      rw [HE.out]
      exact ⟨_, rfl, by rw [List.take_of_length_le (by rw [Crc.le_length]; omega)] at ho; exact ho, hb⟩
theorem same_ok {l : List UInt8} {n : Nat} (hn : l.length = n + 4) : sameB (Crc.sealS (l.take n)) l = Crc.okS l := by
  have ht : l.length - 4 = n := by omega
  cases h : Crc.okS l with
  | true =>
    have h2 := Crc.okS_eq h
    rw [ht] at h2
    rw [h2, sameB_self]
  | false =>
    refine sameB_ne fun e => ?_
    have h2 := Crc.okS_seal (l.take n)
    rw [e, h] at h2
    cases h2
set_option maxHeartbeats 1000000 in
set_option maxRecDepth 100000 in
theorem refOpen (v : Value) (l : List UInt8) (w : World) (hv : Bytes w v l) (hl : l.length ≤ 100000) :
    Calls Try.prog 15 #[v] w (OpenRes l w) := by
  have HV := hv
  obtain ⟨a, cap, rfl, h1, h2, h3, h4⟩ := hv
  unfold maxLen at h2
  by_cases hs : l.length < 4
  · have hs' : (l.length : Int) < 4 := by omega
    clear h3 h4
    go_enter Try.func15, Try.ntmps15
    go_wp2
    go_ret2
    exact OpenRes.few hs w
  · obtain ⟨b, o, rfl, -, -, -, -⟩ := h4 0 _ (getD_get (d := 0) (by omega))
    obtain ⟨n, hn⟩ : ∃ n, l.length = n + 4 := ⟨l.length - 4, by omega⟩
    have hhead := HV.take n (by omega)
    have hk0 := same_ok hn
    have ht : l.length - 4 = n := by omega
    have hln : (l.take n).length = n := by rw [List.length_take]; omega
    have hgood := fun v w' => OpenRes.good (l := l) (w := w) (w' := w') (v := v) (by omega)
    have hbad := fun w' => OpenRes.bad (l := l) (w := w) (w' := w') (by omega)
    rw [ht] at hgood
    have HG := Lib.hid hgood
    have HB := Lib.hid hbad
    have HS := Lib.hid hk0
    rw [hn] at HV h1 ⊢
    have i0 : (0 : Int) ≤ (n : Int) := by omega
    have i1 : (n : Int) ≤ ((n + 4 : Nat) : Int) := by omega
    have i2 : (n : Int) ≤ (cap : Int) := by omega
    have i3 : ((n + 4 : Nat) : Int) - 4 = (n : Int) := by omega
    have i4 : ¬ ((n + 4 : Nat) : Int) < 4 := by omega
    have hpl : (l.take n).length ≤ 100000 := by omega
    generalize hP : l.take n = p at hhead HG HS hpl
    clear hgood hbad hP hk0 ht hln h3 h4 hn hs hl h1
    go_enter Try.func15, Try.ntmps15
    go_wp2_with (at_builtin; refine wpList_append_bytes (w0 := w) rfl (.tmp 8) (.tmp 13) rfl rfl (OwnRow.nil encB 5 w.heap.size w) rfl hhead (by simp; omega) (Nat.le_refl _) (Below.refl _ _) ?_)
    intro v1 w1 ho1 hb1

    go_wp2_with fail
    refine (refSeal v1 p w1 ho1.row.all hpl).mono ?_
    rintro e w2 ⟨v2, rfl, ho2, hb2⟩
    have hb02 := hb1.trans (hb2.mono hb1.size)
    go_wp2_with fail
    refine (refSame _ _ (Crc.sealS p) l w2 ho2.row.all (HV.under hb02 (Nat.le_refl _))).mono ?_
    rw [HS.out]
    rintro e w3 ⟨rfl, hb3⟩
    have hb03 := hb02.trans (hb3.mono hb02.size)
    have ho3 := ho1.below (hb2.trans (hb3.mono hb2.size)) (Nat.le_refl _)
    cases hsm : Crc.okS l with
    | false =>
      have HR := Lib.hid (HB.out _ hsm hb03)
      clear hsm
      go_wp2_with fail
      go_ret2
      exact HR.out
    | true =>
      have HR := Lib.hid (HG.out _ _ hsm ho3 hb03)
      clear hsm
      go_wp2_with fail
      go_ret2
      exact HR.out
end Go.Proofs.Ytahaggliplcijaa
