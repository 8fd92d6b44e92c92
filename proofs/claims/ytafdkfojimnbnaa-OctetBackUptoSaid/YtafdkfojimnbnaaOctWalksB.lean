/-
  CONTRACTS OF LAYER 4 AND OF ITS REFERENCE: what writes, second part. By an AI agent.
-/
import Derived.Test.YtafdkfojimnbnaaOctWalks
namespace Go.Proofs.Ytafdkfojimnbnaa
open Go.RowKit
open Go.Lib (uvarint uvarint_small uvarint_big zigzag unzigzag)

/-- the bytes of some numbers -/
def encAll (us : List Nat) : List UInt8 := us.flatMap uvarint
def Fits64 (us : List Nat) : Prop := ∀ x ∈ us, x < 18446744073709551616
theorem encAll_len : ∀ (us : List Nat), Fits64 us → (encAll us).length ≤ 10 * us.length
  | [], _ => by simp [encAll]
  | x :: r, h => by
    have h1 := Lib.uvarint_length64 (h x (by simp))
    have h2 := encAll_len r fun y hy => h y (by simp [hy])
    simp only [encAll, List.flatMap_cons, List.length_append, List.length_cons] at h2 ⊢
    omega
theorem encAll_take {us : List Nat} {k : Nat} (h : k < us.length) : encAll (us.take (k + 1)) = encAll (us.take k) ++ uvarint (us.getD k 0) := by
  unfold encAll
  rw [List.take_succ_eq_append_getElem h, List.flatMap_append]
  simp [List.getD, h]
theorem byte_hi (k : Nat) : Value.int .u8 ((k : Int) % 128 + 128) = encB (k % 128 + 128).toUInt8 := by
  unfold encB
  congr 1
  have : ((k % 128 + 128).toUInt8).toNat = k % 128 + 128 := by simp; omega
  rw [this]
  omega
theorem byte_lo {k : Nat} (h : k < 128) : Value.int .u8 (k : Int) = encB k.toUInt8 := by
  unfold encB
  congr 1
  have : (k.toUInt8).toNat = k := by simp; omega
  rw [this]
theorem fits_getD {us : List Nat} (h : Fits64 us) (k : Nat) : us.getD k 0 < 18446744073709551616 := by
  by_cases hk : k < us.length
  · simp [List.getD, hk]; exact h _ (List.getElem_mem hk)
  · simp [List.getD, hk]

set_option maxHeartbeats 400000 in
set_option maxRecDepth 100000 in
theorem refOne (x : Nat) (hx : x < 18446744073709551616) (w : World) : Calls Try.prog 27 #[.int .u64 (x : Int)] w (BytesRes (uvarint x) w) := by
  have H10 := Lib.hid (Lib.uvarint_length64 hx)
  have hx' : (x : Int) ≤ 18446744073709551615 := by omega
  have hx0 : (0 : Int) ≤ (x : Int) := by omega
  clear hx
  go_enter Try.func27, Try.ntmps27
  go_wp2
  go_loopw [0, 3] (fun u s wr => ∃ k : Nat, u = .int .u64 (k : Int) ∧ (k : Int) ≤ 18446744073709551615 ∧ ∃ acc, OwnB w.heap.size wr s acc ∧ Hid (acc ++ uvarint k = uvarint x) ∧ Below w.heap.size w wr) (fun u _ _ => (intOf u).toNat)
  case atStart => exact ⟨x, rfl, hx', [], OwnRow.nil _ _ _ _, Lib.hid rfl, Below.refl _ _⟩
  case round =>
    obtain ⟨k, rfl, hk, acc, hown, HE, hb⟩ := hrel
    have hsz := hb.size
    have hlen : acc.length + (uvarint k).length ≤ 10 := by rw [← List.length_append, HE.out]; exact H10.out
    have hp := Lib.uvarint_pos k
    have hk0 : (0 : Int) ≤ (k : Int) := by omega
    by_cases hs : k < 128
    · have ht : ¬ (128 : Int) ≤ (k : Int) := by omega
      have ht' : (k : Int) < 128 := by omega
      have HE' := Lib.hid (show acc ++ [k.toUInt8] = uvarint x by rw [← HE.out, uvarint_small hs])
      clear hs HE
      go_wp2_with (at_builtin; refine wpList_push_byte (w0 := w) rfl (.tmp 15) (.tmp 18) rfl rfl hown k.toUInt8 (byte_lo (by omega)) rfl (by omega) hsz hb ?_)
      intro v' w1 ho hb'
      go_wp2
      go_ret
      exact ⟨_, rfl, by rw [← HE'.out]; exact ho, hb'⟩
    · have ht : (128 : Int) ≤ (k : Int) := by omega
      obtain ⟨c, HB, HE'⟩ : ∃ c : UInt8, Hid (Value.int .u8 ((k : Int) % 128 + 128) = encB c) ∧ Hid ((acc ++ [c]) ++ uvarint (k / 128) = uvarint x) :=
        ⟨_, Lib.hid (byte_hi k), Lib.hid (by rw [← HE.out, uvarint_big (x := k) (by omega)]; simp)⟩
      clear HE
      go_wp2_with (at_builtin; refine wpList_push_byte (w0 := w) rfl (.tmp 6) (.tmp 11) rfl rfl hown c HB.out rfl (by omega) hsz hb ?_)
      intro v' w1 ho hb'
      go_wp2
      go_roundw
      case rel => exact ⟨k / 128, by go_num, by omega, _, ho, HE', hb'⟩
      case measure => simp [intOf]; omega
end Go.Proofs.Ytafdkfojimnbnaa
