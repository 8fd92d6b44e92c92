/-
  CONTRACTS OF LAYER 4 AND OF ITS REFERENCE: PutText of the reference, PutInts of both. By an AI agent.
-/
import Derived.Test.YtafdkfojimnbnaaOctWalksE
import Derived.Lib.ConvBytes
namespace Go.Proofs.Ytafdkfojimnbnaa
open Go.RowKit
open Go.Lib (uvarint uvarint_small uvarint_big zigzag unzigzag bytesWorld)

theorem below_bytesWorld (w : World) (e : TypeId) (s : ByteArray) : Below w.heap.size w (bytesWorld w e s) :=
  ⟨rfl, rfl, rfl, by rw [Lib.bytesWorld_size]; omega, fun k hk => Lib.bytesWorld_at_old w e s k hk⟩
theorem row_bytesWorld (w : World) (s : ByteArray) (hs : s.size ≤ 140737488355328) : Bytes (bytesWorld w 5 s) (.slice (some ⟨w.heap.size, 0, none⟩) s.size (grownCap w s.size 0 5)) s.data.toList := by
  have e : s.data.toList.length = s.size := by rw [Array.length_toList]; rfl
  refine ⟨_, _, by rw [e], by rw [e]; exact grownCap_ge w s.size 0 _, grownCap_le_maxLen w s.size 0 _ (by unfold maxLen; omega), fun h => by simp at h, fun i x hx => ?_⟩
  have hi : i < s.data.toList.length := (List.getElem?_eq_some_iff.1 hx).1
  refine ⟨w.heap.size, 0, rfl, Nat.zero_le _, by rw [Lib.bytesWorld_size]; omega, by rw [Lib.bytesWorld_size]; omega, ?_⟩
  rw [Nat.zero_add, Lib.bytesWorld_cell w _ s i (by omega)]
  have hg : s.data.toList.getD i 0 = x := by
    rw [List.getD_eq_getElem?_getD, hx]
    rfl
  rw [hg]
  rfl
set_option maxRecDepth 100000 in
theorem refPutText (va : Value) (l : List UInt8) (t : ByteArray) (w : World) (ha : Bytes w va l) (hl : l.length + 10 + t.size ≤ 140737488355328) :
    Calls Try.prog 33 #[va, .string t] w (BytesRes (l ++ Oct.textE t.data.toList) w) := by
  have h10 := Lib.uvarint_length64 (x := t.size) (by omega)
  have hts : t.data.toList.length = t.size := by rw [Array.length_toList]; rfl
  have HE := Lib.hid (show (l ++ uvarint t.size) ++ t.data.toList = l ++ Oct.textE t.data.toList by rw [Oct.textE, hts, List.append_assoc])
  have HTS := Lib.hid hts
  have i0 : (0 : Int) ≤ (t.size : Int) := by omega
  have i1 : (t.size : Int) ≤ 140737488355328 := by omega
  have hcv : ∀ u : World, (convert 9 22 (.string t)).run Try.prog u = .ok (.slice (some ⟨u.heap.size, 0, none⟩) t.size (grownCap u t.size 0 5)) (bytesWorld u 5 t) :=
    fun u => Lib.run_convert_string_bytes u 9 22 5 t Try.underlying9 Try.underlying22 Try.underlying5
  clear hts
  go_enter Try.func33, Try.ntmps33
  go_wp2_with fail
  refine (refPut va _ l [t.size] _ (ha.under (below_alloc1 w _) (Nat.le_refl _)) (lit_one w t.size) (by simp [Fits64]; omega) (by simp; omega)).mono ?_
  intro e w2 h
  obtain ⟨v, rfl, ho, hb⟩ := BytesRes.trans (below_alloc1 w _) h
  replace ho : OwnB w.heap.size w2 v (l ++ uvarint t.size) := by simpa [encAll] using ho
  have hb2 := below_bytesWorld w2 5 t
  go_wp2_with fail
  refine (refAfter _ _ (l ++ uvarint t.size) t.data.toList (bytesWorld w2 5 t) (ho.row.all.under hb2 (Nat.le_refl _)) (row_bytesWorld w2 t (by omega)) (by rw [List.length_append, HTS.out]; omega)).mono ?_
  intro e w3 h
  obtain ⟨v3, rfl, ho3, hb3⟩ := BytesRes.trans (hb.trans (hb2.mono hb.size)) h
  go_wp2
  go_ret
  exact ⟨_, rfl, by rw [← HE.out]; simpa using ho3, hb3⟩

theorem map_take {l : List Int} {k : Nat} (h : k < l.length) : (l.take (k + 1)).map zigzag = (l.take k).map zigzag ++ [zigzag (l.getD k 0)] := by
  rw [List.take_succ_eq_append_getElem h, List.map_append]
  simp [List.getD, h]
theorem elems_take {l : List Int} {k : Nat} (h : k < l.length) : Oct.elems (l.take (k + 1)) = Oct.elems (l.take k) ++ uvarint (zigzag (l.getD k 0)) := by
  unfold Oct.elems
  rw [List.take_succ_eq_append_getElem h, List.flatMap_append]
  simp [List.getD, h]
theorem enc_list (l : List Int) : encAll (l.length :: l.map zigzag) = Oct.listE l := by
  unfold encAll Oct.listE Oct.elems
  rw [List.flatMap_cons, List.flatMap_map]
theorem fits_zig {l : List Int} (h : Oct.Fits l) (hl : l.length < 18446744073709551616) : Fits64 (l.length :: l.map zigzag) := by
  intro x hx
  rcases List.mem_cons.1 hx with rfl | hx
  · exact hl
  · obtain ⟨y, hy, rfl⟩ := List.mem_map.1 hx
    exact Oct.zigzag_lt (h y hy).1 (h y hy).2
theorem fits_get {l : List Int} (h : Oct.Fits l) {k : Nat} (hk : k < l.length) : -9223372036854775808 ≤ l.getD k 0 ∧ l.getD k 0 ≤ 9223372036854775807 := by
  simp only [List.getD, List.getElem?_eq_getElem hk, Option.getD_some]
  exact h _ (List.getElem_mem hk)
theorem elems_len {l : List Int} (h : Oct.Fits l) : (Oct.elems l).length ≤ 10 * l.length := by
  have e : Oct.elems l = encAll (l.map zigzag) := by unfold Oct.elems encAll; rw [List.flatMap_map]
  rw [e]
  have := encAll_len (l.map zigzag) (by
    intro x hx
    obtain ⟨y, hy, rfl⟩ := List.mem_map.1 hx
    exact Oct.zigzag_lt (h y hy).1 (h y hy).2)
  simpa using this
set_option maxHeartbeats 1000000 in
set_option maxRecDepth 100000 in
theorem octPutInts (va vl : Value) (l : List UInt8) (m : List Int) (w : World) (ha : Bytes w va l) (hm : Ints w vl m) (hf : Oct.Fits m) (hl : l.length + 10 * (m.length + 1) ≤ 1000000000000) :
    Calls Try.prog 30 #[va, vl] w (BytesRes (l ++ Oct.listE m) w) := by
  obtain ⟨a, c, rfl, hc1, hc2, -, hd⟩ := hm
  unfold maxLen at hc2
  have D := Lib.hid hd
  have HF := Lib.hid hf
  clear hd hf
  have HE := Lib.hid (enc_list m)
  have HF2 := Lib.hid (fits_zig HF.out (by omega))
  have hn : m.length ≤ 100000000000 := by omega
  have j0 : (0 : Int) ≤ (m.length : Int) := by omega
  have j1 : (m.length : Int) ≤ 100000000000 := by omega
  have hlit : OwnU w.heap.size (w.alloc (.cells #[.int .u64 (m.length : Int)] 26)) (.slice (some ⟨w.heap.size, 0, none⟩) 1 1) [m.length] := OwnRow.lit encU 26 w [m.length] (by simp)
  have hbl := below_alloc1 w (.cells #[.int .u64 (m.length : Int)] 26)
  go_enter Try.func30, Try.ntmps30
  go_wp2
  go_loopw [5, 14] (fun s i wr => ∃ k : Nat, k ≤ m.length ∧ i = .int .i64 (k : Int) ∧ OwnU w.heap.size wr s (m.length :: (m.take k).map zigzag) ∧ Below w.heap.size w wr) (fun _ i _ => m.length - (intOf i).toNat)
  case atStart => exact ⟨0, by omega, rfl, by simpa using hlit, hbl⟩
  case round =>
    clear hlit hbl
    obtain ⟨k, hk, rfl, hown, hb⟩ := hrel
    have i0 : (0 : Int) ≤ (k : Int) := by omega
    by_cases hlt : k < m.length
    · have i1 : (k : Int) < (m.length : Int) := by omega
      obtain ⟨b, o, rfl, -, -, hq, hcell⟩ := D.out k _ (getD_get (d := 0) hlt)
      have c1 : wr.cell? ⟨b, o + k, none⟩ = some (.int .i64 (m.getD k 0)) := (hb.cell hq).trans hcell
      obtain ⟨x0, x1⟩ := fits_get HF.out hlt
      have HT := Lib.hid (map_take hlt)
      have hlen : (m.length :: (m.take k).map zigzag).length + 1 ≤ 1000000000000 := by simp; omega
      generalize m.getD k 0 = x at c1 x0 x1 HT
      have hsz := hb.size
      clear hcell
      go_wp2_with fail
      refine (octUnsigned x x0 x1 wr).mono ?_
      rintro e w2 ⟨rfl, rfl⟩
      go_wp2_with (at_builtin; refine wpList_push_u64 (w0 := w) rfl (.tmp 18) (.tmp 21) rfl rfl hown (zigzag x) rfl rfl hlen hsz hb ?_)
      intro v' w2 ho hb'
      go_wp2
      go_roundw
      case rel => exact ⟨k + 1, by omega, by go_num, by rw [HT.out]; simpa using ho, hb'⟩
      case measure => simp [intOf]; omega
    · obtain rfl : k = m.length := by omega
      rw [List.take_length] at hown
      go_wp2_with fail
      refine (octPut va _ l (m.length :: m.map zigzag) wr (ha.under hb (Nat.le_refl _)) hown.row.all HF2.out (by simp; omega)).mono ?_
      intro e w2 h
      obtain ⟨v3, rfl, ho3, hb3⟩ := BytesRes.trans hb h
      go_wp2
      go_ret
      exact ⟨_, rfl, by rw [← HE.out]; exact ho3, hb3⟩
set_option maxHeartbeats 1000000 in
set_option maxRecDepth 100000 in
theorem refPutInts (va vl : Value) (l : List UInt8) (m : List Int) (w : World) (ha : Bytes w va l) (hm : Ints w vl m) (hf : Oct.Fits m) (hl : l.length + 10 * (m.length + 1) ≤ 1000000000000) :
    Calls Try.prog 34 #[va, vl] w (BytesRes (l ++ Oct.listE m) w) := by
  obtain ⟨a, c, rfl, hc1, hc2, -, hd⟩ := hm
  unfold maxLen at hc2
  have D := Lib.hid hd
  have HF := Lib.hid hf
  clear hd hf
  have hn : m.length ≤ 100000000000 := by omega
  have j0 : (0 : Int) ≤ (m.length : Int) := by omega
  have j1 : (m.length : Int) ≤ 100000000000 := by omega
  have h10 := Lib.uvarint_length64 (x := m.length) (by omega)
  go_enter Try.func34, Try.ntmps34
  go_wp2_with fail
  refine (refPut va _ l [m.length] _ (ha.under (below_alloc1 w _) (Nat.le_refl _)) (lit_one w m.length) (by simp [Fits64]; omega) (by simp; omega)).mono ?_
  intro e w2 h
  obtain ⟨v, rfl, ho, hb0⟩ := BytesRes.trans (below_alloc1 w _) h
  go_wp2
  go_loopw [5, 6] (fun s i wr => ∃ k : Nat, k ≤ m.length ∧ i = .int .i64 (k : Int) ∧ OwnB w.heap.size wr s (l ++ (uvarint m.length ++ Oct.elems (m.take k))) ∧ Below w.heap.size w wr) (fun _ i _ => m.length - (intOf i).toNat)
  case atStart => exact ⟨0, by omega, rfl, by simpa [encAll, Oct.elems] using ho, hb0⟩
  case round =>
    clear ho hb0
    obtain ⟨k, hk, rfl, hown, hb⟩ := hrel
    have i0 : (0 : Int) ≤ (k : Int) := by omega
    by_cases hlt : k < m.length
    · have i1 : (k : Int) < (m.length : Int) := by omega
      obtain ⟨b, o, rfl, -, -, hq, hcell⟩ := D.out k _ (getD_get (d := 0) hlt)
      have c1 : wr.cell? ⟨b, o + k, none⟩ = some (.int .i64 (m.getD k 0)) := (hb.cell hq).trans hcell
      obtain ⟨x0, x1⟩ := fits_get HF.out hlt
      have HT := Lib.hid (elems_take hlt)
      have hlen : (l ++ (uvarint m.length ++ Oct.elems (m.take k))).length + 10 ≤ 140737488355328 := by
        have := elems_len (l := m.take k) fun x hx => HF.out x (List.mem_of_mem_take hx)
        simp only [List.length_append, List.length_take] at this ⊢
        omega
      generalize m.getD k 0 = x at c1 x0 x1 HT
      clear hcell
      go_wp2_with fail
      refine (refPutInt _ _ x wr hown.row.all x0 x1 hlen).mono ?_
      rintro e w3 ⟨v3, rfl, ho3, hb3⟩
      have s1 := hb.size
      go_wp2
      go_roundw
      case rel => exact ⟨k + 1, by omega, by go_num, by rw [HT.out]; simpa using ho3.mono s1, hb.trans (hb3.mono s1)⟩
      case measure => simp [intOf]; omega
    · obtain rfl : k = m.length := by omega
      rw [List.take_length] at hown
      go_wp2
      go_ret
      exact ⟨_, rfl, hown, hb⟩
end Go.Proofs.Ytafdkfojimnbnaa
