/-
  LAYER 4's LAWS: a value that is written or read; put by the program and by the reference; two lists compared. By an AI agent.
-/
import Derived.Test.YtafdkfojimnbnaaOctRefB
namespace Go.Proofs.Ytafdkfojimnbnaa
open Go.RowKit
open Go.Lib (uvarint uvarint_small uvarint_big zigzag unzigzag)

/-- a value of the laws' rows: its five fields -/
structure Val where
  kind : Int
  u : Nat
  n : Int
  s : ByteArray
  lv : Value
  ll : List Int
def Val.cells (x : Val) : Array Value := #[.int .i64 x.kind, .int .u64 (x.u : Int), .int .i64 x.n, .string x.s, x.lv]
structure Val.Ok (w : World) (x : Val) : Prop where
  u : x.u < 18446744073709551616
  n0 : -9223372036854775808 ≤ x.n
  n1 : x.n ≤ 9223372036854775807
  row : Ints w x.lv x.ll
  fits : Oct.Fits x.ll
theorem Val.Ok.under {w w' : World} {x : Val} {C : Nat} (h : x.Ok w) (hb : Below C w w') (hC : w.heap.size ≤ C) : x.Ok w' := ⟨h.u, h.n0, h.n1, h.row.under hb hC, h.fits⟩
/-- how many bytes it may take -/
def Val.room (x : Val) : Nat := 10 + x.s.size + 10 * (x.ll.length + 1)
def Val.bytes (x : Val) : List UInt8 :=
  if x.kind = 0 then uvarint x.u else if x.kind = 1 then uvarint (zigzag x.n) else if x.kind = 2 then uvarint (if decide (0 < x.n) then 1 else 0)
  else if x.kind = 3 then Oct.textE x.s.data.toList else Oct.listE x.ll
theorem str_len (s : ByteArray) : s.data.toList.length = s.size := by rw [Array.length_toList]; rfl
theorem Val.bytes_len {w : World} {x : Val} (h : x.Ok w) (hr : x.room ≤ 1000000000000) : x.bytes.length ≤ x.room := by
  unfold room at hr
  have h1 := Lib.uvarint_length64 h.u
  have h2 := Lib.uvarint_length64 (Oct.zigzag_lt h.n0 h.n1)
  have h3 : (uvarint (if decide (0 < x.n) then 1 else 0)).length ≤ 10 := Lib.uvarint_length64 (by split <;> omega)
  have h4 := Lib.uvarint_length64 (x := x.s.data.toList.length) (by rw [str_len]; omega)
  have h5 := Lib.uvarint_length64 (x := x.ll.length) (by omega)
  have h6 := elems_len h.fits
  have h7 := str_len x.s
  unfold bytes room
  split
  · omega
  · split
    · omega
    · split
      · omega
      · split
        · unfold Oct.textE; rw [List.length_append]; omega
        · unfold Oct.listE; rw [List.length_append]; omega
theorem lit_at (w : World) (x g : Nat) (hg : g = w.heap.size) : U64s (w.alloc (.cells #[.int .u64 (x : Int)] 26)) (.slice (some ⟨g, 0, none⟩) 1 1) [x] := by
  subst hg
  exact lit_one w x
set_option maxHeartbeats 1000000 in
set_option maxRecDepth 100000 in
theorem lawPut (va : Value) (l : List UInt8) (x : Val) (w : World) (ha : Bytes w va l) (hx : x.Ok w) (hl : l.length + x.room ≤ 1000000000000) :
    Calls Try.prog 10 #[va, .agg x.cells] w (BytesRes (l ++ x.bytes) w) := by
  obtain ⟨kind, u, n, s, lv, ll⟩ := x
  obtain ⟨hu, hn0, hn1, hrow, hfit⟩ := hx
  have hb0 := below_alloc1 w (.cells #[.int .i64 kind, .int .u64 (u : Int), .int .i64 n, .string s, lv] 29)
  have ha0 := ha.under hb0 (Nat.le_refl _)
  have hr0 := hrow.under hb0 (Nat.le_refl _)
  unfold Val.room at hl
  simp only at hl hu hn0 hn1 hrow hfit hr0
  unfold Val.cells
  simp only
  have hk : kind = 0 ∨ kind = 1 ∨ kind = 2 ∨ kind = 3 ∨ (((kind : Int) == 0) = false ∧ ((kind : Int) == 1) = false ∧ ((kind : Int) == 2) = false ∧ ((kind : Int) == 3) = false) := by
    simp only [beq_eq_false_iff_ne]; omega
  rcases hk with rfl | rfl | rfl | rfl | ⟨k0, k1, k2, k3⟩
  · have HE := Lib.hid (show l ++ Val.bytes ⟨0, u, n, s, lv, ll⟩ = l ++ encAll [u] by simp [Val.bytes, encAll])
    have hb1 := hb0.trans ((below_alloc1 (w.alloc (.cells #[.int .i64 0, .int .u64 (u : Int), .int .i64 n, .string s, lv] 29)) (.cells #[.int .u64 (u : Int)] 26)).mono (by simp))
    go_enter Try.func10, Try.ntmps10
    go_wp2_with fail
    refine (octPut va _ l [u] _ (ha.under hb1 (Nat.le_refl _)) (lit_at _ u _ (by simp)) (by simpa [Fits64] using hu) (by simp; omega)).mono ?_
    intro e w2 h
    obtain ⟨v, rfl, ho, hb⟩ := BytesRes.trans hb1 h
    go_wp2_with fail
    go_ret
    rw [HE.out]
    exact ⟨_, rfl, ho, hb⟩
  · have HE := Lib.hid (show l ++ Val.bytes ⟨1, u, n, s, lv, ll⟩ = l ++ uvarint (zigzag n) by simp [Val.bytes])
    go_enter Try.func10, Try.ntmps10
    go_wp2_with fail
    refine (octPutInt va l n _ ha0 hn0 hn1 (by omega)).mono ?_
    intro e w2 h
    obtain ⟨v, rfl, ho, hb⟩ := BytesRes.trans hb0 h
    go_wp2_with fail
    go_ret
    rw [HE.out]
    exact ⟨_, rfl, ho, hb⟩
  · have HE := Lib.hid (show l ++ Val.bytes ⟨2, u, n, s, lv, ll⟩ = l ++ uvarint (if decide (0 < n) then 1 else 0) by simp [Val.bytes])
    go_enter Try.func10, Try.ntmps10
    go_wp2_with fail
    refine (octPutBool va l (decide (0 < n)) _ ha0 (by omega)).mono ?_
    intro e w2 h
    obtain ⟨v, rfl, ho, hb⟩ := BytesRes.trans hb0 h
    go_wp2_with fail
    go_ret
    rw [HE.out]
    exact ⟨_, rfl, ho, hb⟩
  · have HE := Lib.hid (show l ++ Val.bytes ⟨3, u, n, s, lv, ll⟩ = l ++ Oct.textE s.data.toList by simp [Val.bytes])
    go_enter Try.func10, Try.ntmps10
    go_wp2_with fail
    refine (octPutText va l s _ ha0 (by omega)).mono ?_
    intro e w2 h
    obtain ⟨v, rfl, ho, hb⟩ := BytesRes.trans hb0 h
    go_wp2_with fail
    go_ret
    rw [HE.out]
    exact ⟨_, rfl, ho, hb⟩
  · have HE := Lib.hid (show l ++ Val.bytes ⟨kind, u, n, s, lv, ll⟩ = l ++ Oct.listE ll by
      simp only [beq_eq_false_iff_ne] at k0 k1 k2 k3
      simp [Val.bytes, k0, k1, k2, k3])
    go_enter Try.func10, Try.ntmps10
    go_wp2_with fail
    refine (octPutInts va lv l ll _ ha0 hr0 hfit (by omega)).mono ?_
    intro e w2 h
    obtain ⟨v, rfl, ho, hb⟩ := BytesRes.trans hb0 h
    go_wp2_with fail
    go_ret
    rw [HE.out]
    exact ⟨_, rfl, ho, hb⟩
end Go.Proofs.Ytafdkfojimnbnaa
