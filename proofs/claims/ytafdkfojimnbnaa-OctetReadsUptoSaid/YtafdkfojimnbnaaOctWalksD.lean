/-
  CONTRACTS OF LAYER 4 AND OF ITS REFERENCE: Put. By an AI agent.
-/
import Derived.Test.YtafdkfojimnbnaaOctWalksC
namespace Go.Proofs.Ytafdkfojimnbnaa
open Go.RowKit
open Go.Lib (uvarint uvarint_small uvarint_big zigzag unzigzag)

theorem acc_len {l : List UInt8} {us : List Nat} (h : Fits64 us) (k : Nat) : (l ++ encAll (us.take k)).length ≤ l.length + 10 * us.length := by
  have h1 := encAll_len (us.take k) fun x hx => h x (List.mem_of_mem_take hx)
  simp only [List.length_append, List.length_take] at h1 ⊢
  omega
theorem acc_len1 {l : List UInt8} {us : List Nat} (h : Fits64 us) {k : Nat} (hk : k < us.length) : (l ++ encAll (us.take k)).length + 10 ≤ l.length + 10 * us.length := by
  have h1 := encAll_len (us.take k) fun x hx => h x (List.mem_of_mem_take hx)
  simp only [List.length_append, List.length_take] at h1 ⊢
  omega
set_option maxHeartbeats 1000000 in
set_option maxRecDepth 100000 in
theorem octPut (va vu : Value) (l : List UInt8) (us : List Nat) (w : World) (ha : Bytes w va l) (hu : U64s w vu us) (hf : Fits64 us) (hl : l.length + 10 * us.length ≤ 140737488355328) :
    Calls Try.prog 8 #[va, vu] w (BytesRes (l ++ encAll us) w) := by
  obtain ⟨a, c, rfl, hc1, hc2, -, hd⟩ := hu
  unfold maxLen at hc2
  have D := Lib.hid hd
  have HF := Lib.hid hf
  clear hd hf
  have hn : us.length ≤ 14073748835532 := by omega
  go_enter Try.func8, Try.ntmps8
  go_wp2_with fail
  refine (clone va l w ha (by omega)).mono ?_
  rintro e w1 ⟨v1, rfl, ho1, hb1⟩
  go_wp2
  go_loopw [5, 12] (fun s i wr => ∃ k : Nat, k ≤ us.length ∧ i = .int .i64 (k : Int) ∧ OwnB w.heap.size wr s (l ++ encAll (us.take k)) ∧ Below w.heap.size w wr) (fun _ i _ => us.length - (intOf i).toNat)
  case atStart => exact ⟨0, by omega, rfl, by simpa [encAll] using ho1, hb1⟩
  case round =>
    obtain ⟨k, hk, rfl, hown, hb⟩ := hrel
    have i0 : (0 : Int) ≤ (k : Int) := by omega
    by_cases hlt : k < us.length
    · have i1 : (k : Int) < (us.length : Int) := by omega
      obtain ⟨b, o, rfl, -, -, hq, hcell⟩ := D.out k _ (getD_get (d := 0) hlt)
      have c1 : wr.cell? ⟨b, o + k, none⟩ = some (.int .u64 ((us.getD k 0 : Nat) : Int)) := (hb.cell hq).trans hcell
      have hx := fits_getD HF.out k
      have hx10 := Lib.uvarint_length64 hx
      have HT := Lib.hid (encAll_take hlt)
      have hacc := acc_len1 (l := l) HF.out hlt
      generalize us.getD k 0 = x at c1 hx hx10 HT
      generalize hA : l ++ encAll (us.take k) = acc0 at hown hacc
      have HA := Lib.hid hA
      clear hA
      have hx1 : (x : Int) ≤ 18446744073709551615 := by omega
      have hx0 : (0 : Int) ≤ (x : Int) := by omega
      clear hx hcell
      go_wp2
      revert wr
      intro w0 h1 h2 h3
      go_loopw [5, 7] (fun s n wr => ∃ m : Nat, n = .int .u64 (m : Int) ∧ (m : Int) ≤ 18446744073709551615 ∧ ∃ acc, OwnB w.heap.size wr s acc ∧ Hid (acc ++ uvarint m = acc0 ++ uvarint x) ∧ Below w.heap.size w wr) (fun _ n _ => (intOf n).toNat)
      case atStart => exact ⟨x, rfl, hx1, acc0, by assumption, Lib.hid rfl, by assumption⟩
      case round =>
        clear h1 h2 h3
        obtain ⟨m, rfl, hm, acc, hown, HE, hb⟩ := hrel
        have hsz := hb.size
        have hlen : acc.length + (uvarint m).length ≤ acc0.length + 10 := by rw [← List.length_append, HE.out, List.length_append]; omega
        have hp := Lib.uvarint_pos m
        have hm0 : (0 : Int) ≤ (m : Int) := by omega
        by_cases hs : m < 128
        · have ht : ¬ (128 : Int) ≤ (m : Int) := by omega
          have ht' : (m : Int) < 128 := by omega
          have HE' := Lib.hid (show acc ++ [m.toUInt8] = acc0 ++ uvarint x by rw [← HE.out, uvarint_small hs])
          clear hs HE
          go_wp2_with (at_builtin; refine wpList_push_byte (w0 := w) rfl (.tmp 26) (.tmp 29) rfl rfl hown m.toUInt8 (byte_lo (by omega)) rfl (by omega) hsz hb ?_)
          intro v' w2 ho hb'
          go_wp2
          go_roundw
          case rel => exact ⟨k + 1, by omega, by go_num, by rw [HT.out, ← List.append_assoc, HA.out, ← HE'.out]; exact ho, hb'⟩
          case measure => simp [intOf]; omega
        · have ht : (128 : Int) ≤ (m : Int) := by omega
          obtain ⟨c, HB, HE'⟩ : ∃ c : UInt8, Hid (Value.int .u8 ((m : Int) % 128 + 128) = encB c) ∧ Hid ((acc ++ [c]) ++ uvarint (m / 128) = acc0 ++ uvarint x) :=
            ⟨_, Lib.hid (byte_hi m), Lib.hid (by rw [← HE.out, uvarint_big (x := m) (by omega)]; simp)⟩
          have hor : bits .or .u8 ((m : Int) % 256) 128 = (m : Int) % 128 + 128 := by
            rw [Lib.u8_or128_any _ (by omega) (by omega)]
            omega
          clear HE hs
          go_wp2_with (at_builtin; refine wpList_push_byte (w0 := w) rfl (.tmp 18) (.tmp 22) rfl rfl hown c HB.out rfl (by omega) hsz hb ?_)
          intro v' w2 ho hb'
          go_wp2
          go_roundw
          case rel => exact ⟨m / 128, by go_num, by omega, _, ho, HE', hb'⟩
          case measure => simp [intOf]; omega
    · obtain rfl : k = us.length := by omega
      go_wp2
      go_ret
      exact ⟨_, rfl, by rw [List.take_length] at hown; exact hown, hb⟩
end Go.Proofs.Ytafdkfojimnbnaa
