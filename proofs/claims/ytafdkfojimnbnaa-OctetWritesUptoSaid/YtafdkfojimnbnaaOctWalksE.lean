/-
  CONTRACTS OF LAYER 4 AND OF ITS REFERENCE: the reference's Put; PutInt, PutBool, PutText, PutInts of both. By an AI agent.
-/
import Derived.Test.YtafdkfojimnbnaaOctWalksD
namespace Go.Proofs.Ytafdkfojimnbnaa
open Go.RowKit
open Go.Lib (uvarint uvarint_small uvarint_big zigzag unzigzag)

theorem BytesRes.trans {l : List UInt8} {w w1 w2 : World} {e : Ending} (hb : Below w.heap.size w w1) (h : BytesRes l w1 e w2) : BytesRes l w e w2 := by
  obtain ⟨v, rfl, ho, hb2⟩ := h
  exact ⟨v, rfl, ho.mono hb.size, hb.trans (hb2.mono hb.size)⟩
theorem BytesRes.cast {l m : List UInt8} {w w1 : World} {e : Ending} (h : BytesRes l w e w1) (hlm : l = m) : BytesRes m w e w1 := hlm ▸ h
theorem below_alloc1 (w : World) (o : Obj) : Below w.heap.size w (w.alloc o) := (Below.refl w.heap.size w).alloc (Nat.le_refl _) o
/-- the row of one number that a call's literal lays -/
theorem lit_one (w : World) (x : Nat) : U64s (w.alloc (.cells #[.int .u64 (x : Int)] 26)) (.slice (some ⟨w.heap.size, 0, none⟩) 1 1) [x] := (OwnRow.lit encU 26 w [x] (by simp)).row.all

set_option maxHeartbeats 1000000 in
set_option maxRecDepth 100000 in
theorem refPut (va vu : Value) (l : List UInt8) (us : List Nat) (w : World) (ha : Bytes w va l) (hu : U64s w vu us) (hf : Fits64 us) (hl : l.length + 10 * us.length ≤ 140737488355328) :
    Calls Try.prog 9 #[va, vu] w (BytesRes (l ++ encAll us) w) := by
  obtain ⟨a, c, rfl, hc1, hc2, -, hd⟩ := hu
  unfold maxLen at hc2
  have D := Lib.hid hd
  have HF := Lib.hid hf
  clear hd hf
  have hn : us.length ≤ 14073748835532 := by omega
  go_enter Try.func9, Try.ntmps9
  go_wp2_with fail
  refine (refAfter va (.slice none 0 0) l [] w ha (RowIn.nil _ _ _ _) (by simp; omega)).mono ?_
  rintro e w1 ⟨v1, rfl, ho1, hb1⟩
  go_wp2
  go_loopw [5, 6] (fun s i wr => ∃ k : Nat, k ≤ us.length ∧ i = .int .i64 (k : Int) ∧ OwnB w.heap.size wr s (l ++ encAll (us.take k)) ∧ Below w.heap.size w wr) (fun _ i _ => us.length - (intOf i).toNat)
  case atStart => exact ⟨0, by omega, rfl, by simpa [encAll] using ho1, hb1⟩
  case round =>
    obtain ⟨k, hk, rfl, hown, hb⟩ := hrel
    have i0 : (0 : Int) ≤ (k : Int) := by omega
    by_cases hlt : k < us.length
    · have i1 : (k : Int) < (us.length : Int) := by omega
      obtain ⟨b, o, rfl, -, -, hq, hcell⟩ := D.out k _ (getD_get (d := 0) hlt)
      have c1 : wr.cell? ⟨b, o + k, none⟩ = some (.int .u64 ((us.getD k 0 : Nat) : Int)) := (hb.cell hq).trans hcell
      have hx := fits_getD HF.out k
      have hx10 := Lib.uvarint_length64 hx
      have HT := Lib.hid (encAll_take hlt)
      have hacc := acc_len1 (l := l) HF.out hlt
      generalize us.getD k 0 = x at c1 hx hx10 HT
      generalize hA : l ++ encAll (us.take k) = acc0 at hown hacc
      have HA := Lib.hid hA
      clear hA
      go_wp2_with fail
      refine (refOne x hx wr).mono ?_
      rintro e w2 ⟨v2, rfl, ho2, hb2⟩
      go_wp2_with fail
      refine (refAfter _ v2 acc0 (uvarint x) w2 (hown.row.all.under hb2 (Nat.le_refl _)) ho2.row.all (by omega)).mono ?_
      rintro e w3 ⟨v3, rfl, ho3, hb3⟩
      have s1 := hb.size
      have s2 := hb2.size
      go_wp2
      go_roundw
      case rel => exact ⟨k + 1, by omega, by go_num, by rw [HT.out, ← List.append_assoc, HA.out]; exact ho3.mono (by omega), hb.trans ((hb2.mono s1).trans (hb3.mono (by omega)))⟩
      case measure => simp [intOf]; omega
    · obtain rfl : k = us.length := by omega
      go_wp2
      go_ret
      exact ⟨_, rfl, by rw [List.take_length] at hown; exact hown, hb⟩
set_option maxRecDepth 100000 in
theorem octPutInt (va : Value) (l : List UInt8) (n : Int) (w : World) (ha : Bytes w va l) (h0 : -9223372036854775808 ≤ n) (h1 : n ≤ 9223372036854775807) (hl : l.length + 10 ≤ 140737488355328) :
    Calls Try.prog 21 #[va, .int .i64 n] w (BytesRes (l ++ uvarint (zigzag n)) w) := by
  have hz := Oct.zigzag_lt h0 h1
  go_enter Try.func21, Try.ntmps21
  go_wp2_with fail
  refine (octUnsigned n h0 h1 w).mono ?_
  rintro e w1 ⟨rfl, rfl⟩
  go_wp2_with fail
  refine (octPut va _ l [zigzag n] _ (ha.under (below_alloc1 w _) (Nat.le_refl _)) (lit_one w (zigzag n)) (by simpa [Fits64] using hz) (by simpa using hl)).mono ?_
  intro e w2 h
  obtain ⟨v, rfl, ho, hb⟩ := BytesRes.trans (below_alloc1 w _) h
  go_wp2
  go_ret
  exact ⟨_, rfl, by simpa [encAll] using ho, hb⟩
set_option maxRecDepth 100000 in
theorem refPutInt (va : Value) (l : List UInt8) (n : Int) (w : World) (ha : Bytes w va l) (h0 : -9223372036854775808 ≤ n) (h1 : n ≤ 9223372036854775807) (hl : l.length + 10 ≤ 140737488355328) :
    Calls Try.prog 31 #[va, .int .i64 n] w (BytesRes (l ++ uvarint (zigzag n)) w) := by
  have hz := Oct.zigzag_lt h0 h1
  go_enter Try.func31, Try.ntmps31
  go_wp2_with fail
  refine (refUnsigned n h0 h1 w).mono ?_
  rintro e w1 ⟨rfl, rfl⟩
  go_wp2_with fail
  refine (refPut va _ l [zigzag n] _ (ha.under (below_alloc1 w _) (Nat.le_refl _)) (lit_one w (zigzag n)) (by simpa [Fits64] using hz) (by simpa using hl)).mono ?_
  intro e w2 h
  obtain ⟨v, rfl, ho, hb⟩ := BytesRes.trans (below_alloc1 w _) h
  go_wp2
  go_ret
  exact ⟨_, rfl, by simpa [encAll] using ho, hb⟩
set_option maxRecDepth 100000 in
theorem octPutBool (va : Value) (l : List UInt8) (t : Bool) (w : World) (ha : Bytes w va l) (hl : l.length + 10 ≤ 140737488355328) :
    Calls Try.prog 28 #[va, .bool t] w (BytesRes (l ++ uvarint (if t then 1 else 0)) w) := by
  cases t
  · go_enter Try.func28, Try.ntmps28
    go_wp2_with fail
    refine (octPut va _ l [0] _ (ha.under (below_alloc1 w _) (Nat.le_refl _)) (lit_one w 0) (by simp [Fits64]) (by simpa using hl)).mono ?_
    intro e w2 h
    obtain ⟨v, rfl, ho, hb⟩ := BytesRes.trans (below_alloc1 w _) h
    go_wp2
    go_ret
    exact ⟨_, rfl, by simpa [encAll] using ho, hb⟩
  · go_enter Try.func28, Try.ntmps28
    go_wp2_with fail
    refine (octPut va _ l [1] _ (ha.under (below_alloc1 w _) (Nat.le_refl _)) (lit_one w 1) (by simp [Fits64]) (by simpa using hl)).mono ?_
    intro e w2 h
    obtain ⟨v, rfl, ho, hb⟩ := BytesRes.trans (below_alloc1 w _) h
    go_wp2
    go_ret
    exact ⟨_, rfl, by simpa [encAll] using ho, hb⟩
set_option maxRecDepth 100000 in
theorem refPutBool (va : Value) (l : List UInt8) (t : Bool) (w : World) (ha : Bytes w va l) (hl : l.length + 10 ≤ 140737488355328) :
    Calls Try.prog 32 #[va, .bool t] w (BytesRes (l ++ uvarint (if t then 1 else 0)) w) := by
  cases t
  · go_enter Try.func32, Try.ntmps32
    go_wp2_with fail
    refine (refPut va _ l [0] _ (ha.under (below_alloc1 w _) (Nat.le_refl _)) (lit_one w 0) (by simp [Fits64]) (by simpa using hl)).mono ?_
    intro e w2 h
    obtain ⟨v, rfl, ho, hb⟩ := BytesRes.trans (below_alloc1 w _) h
    go_wp2
    go_ret
    exact ⟨_, rfl, by simpa [encAll] using ho, hb⟩
  · go_enter Try.func32, Try.ntmps32
    go_wp2_with fail
    refine (refPut va _ l [1] _ (ha.under (below_alloc1 w _) (Nat.le_refl _)) (lit_one w 1) (by simp [Fits64]) (by simpa using hl)).mono ?_
    intro e w2 h
    obtain ⟨v, rfl, ho, hb⟩ := BytesRes.trans (below_alloc1 w _) h
    go_wp2
    go_ret
    exact ⟨_, rfl, by simpa [encAll] using ho, hb⟩

set_option maxRecDepth 100000 in
theorem octPutText (va : Value) (l : List UInt8) (t : ByteArray) (w : World) (ha : Bytes w va l) (hl : l.length + 10 + t.size ≤ 140737488355328) :
    Calls Try.prog 29 #[va, .string t] w (BytesRes (l ++ Oct.textE t.data.toList) w) := by
  have h10 := Lib.uvarint_length64 (x := t.size) (by omega)
  have hts : t.data.toList.length = t.size := by rw [Array.length_toList]; rfl
  have HE := Lib.hid (show (l ++ uvarint t.size) ++ t.data.toList = l ++ Oct.textE t.data.toList by rw [Oct.textE, hts, List.append_assoc])
  have i0 : (0 : Int) ≤ (t.size : Int) := by omega
  have i1 : (t.size : Int) ≤ 140737488355328 := by omega
  clear hts
  go_enter Try.func29, Try.ntmps29
  go_wp2_with fail
  refine (octPut va _ l [t.size] _ (ha.under (below_alloc1 w _) (Nat.le_refl _)) (lit_one w t.size) (by simp [Fits64]; omega) (by simp; omega)).mono ?_
  intro e w2 h
  obtain ⟨v, rfl, ho, hb⟩ := BytesRes.trans (below_alloc1 w _) h
  replace ho : OwnB w.heap.size w2 v (l ++ uvarint t.size) := by simpa [encAll] using ho
  go_wp2_with (at_builtin; refine wpList_append_text (w0 := w) rfl (.tmp 10) (.tmp 11) rfl rfl ho rfl (by rw [List.length_append]; omega) hb.size hb ?_)
  intro v' w3 ho3 hb3
  go_wp2
  go_ret
  exact ⟨_, rfl, by rw [← HE.out]; simpa using ho3, hb3⟩
end Go.Proofs.Ytafdkfojimnbnaa
