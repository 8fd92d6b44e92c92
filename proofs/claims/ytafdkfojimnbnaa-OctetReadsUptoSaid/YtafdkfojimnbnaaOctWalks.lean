/-
  CONTRACTS OF LAYER 4 (octet) AND OF ITS REFERENCE: what writes. By an AI agent.
-/
import Derived.Test.YtafdkfojimnbnaaRow
import Derived.Test.YtafdkfojimnbnaaOctPlain
import Derived.Lib.VarintBits
import Derived.Lib.Zigzag
import Derived.Deep.QuietTactic
import Derived.Deep.LoopGhost
import Derived.WalkMore
namespace Go.Proofs.Ytafdkfojimnbnaa
open Go.RowKit
open Go.Lib (uvarint uvarint_small uvarint_big zigzag unzigzag)

theorem ret_u64 {a b : Int} (h : a = b) : Ending.returned (.int .u64 a) = .returned (.int .u64 b) := by rw [h]
theorem ret_bool {b c : Bool} (h : b = c) : Ending.returned (.bool b) = .returned (.bool c) := by rw [h]
theorem ret_int {a b : Int} (h : a = b) : Ending.returned (.int .i64 a) = .returned (.int .i64 b) := by rw [h]
theorem getD_get {α : Type} {l : List α} {k : Nat} {d : α} (h : k < l.length) : l[k]? = some (l.getD k d) := by simp [List.getD, h]
/-- the call returns a row of bytes in new memory -/
def BytesRes (l : List UInt8) (w : World) : Ending → World → Prop := fun e w' => ∃ v, e = .returned v ∧ OwnB w.heap.size w' v l ∧ Below w.heap.size w w'
theorem zig_nonneg {n : Int} (h : 0 ≤ n) : ((zigzag n : Nat) : Int) = 2 * n := by unfold zigzag; rw [if_pos h]; omega
theorem zig_neg {n : Int} (h : n < 0) : ((zigzag n : Nat) : Int) = -2 * n - 1 := by unfold zigzag; rw [if_neg (by omega)]; omega

theorem i64_not_neg (k : Nat) (hk : k < 9223372036854775808) : bits .xor .i64 (-1) (-(k : Int) - 1) = (k : Int) := by
  show IntKind.i64.wrap ((BitVec.ofInt 64 (-1) ^^^ BitVec.ofInt 64 (-(k : Int) - 1)).toNat : Int) = _
  have h1 : BitVec.ofInt 64 (-1) = BitVec.allOnes 64 := by decide
  have h2 : (BitVec.ofInt 64 (-(k : Int) - 1)).toNat = 2 ^ 64 - 1 - k := by
    rw [BitVec.toNat_ofInt]
    omega
  rw [h1, BitVec.allOnes_xor, BitVec.toNat_not, h2]
  simp [IntKind.wrap, IntKind.bits, IntKind.signed]
  omega
set_option maxRecDepth 100000 in
theorem octUnsigned (n : Int) (h0 : -9223372036854775808 ≤ n) (h1 : n ≤ 9223372036854775807) (w : World) :
    Calls Try.prog 46 #[.int .i64 n] w fun e w' => e = .returned (.int .u64 (zigzag n : Nat)) ∧ w = w' := by
  by_cases h : n < 0
  · have HZ := Lib.hid (zig_neg h)
    obtain ⟨k, hk⟩ : ∃ k : Nat, n = -(k : Int) - 1 := ⟨(-n - 1).toNat, by omega⟩
    have hx : bits .xor .i64 (-1) n = (k : Int) := by rw [hk]; exact i64_not_neg k (by omega)
    have hk1 : (k : Int) ≤ 9223372036854775807 := by omega
    have hk0 : (0 : Int) ≤ (k : Int) := by omega
    have HK := Lib.hid hk
    clear hk
    go_enter Try.func46, Try.ntmps46
    go_wp2
    go_ret
    exact ⟨ret_u64 (by rw [HZ.out, HK.out]; simp only [IntKind.wrap_u64]; omega), rfl⟩
  · have HZ := Lib.hid (zig_nonneg (n := n) (by omega))
    have h' : 0 ≤ n := by omega
    go_enter Try.func46, Try.ntmps46
    go_wp2
    go_ret
    exact ⟨ret_u64 (by have := HZ.out; omega), rfl⟩
set_option maxRecDepth 100000 in
theorem refUnsigned (n : Int) (h0 : -9223372036854775808 ≤ n) (h1 : n ≤ 9223372036854775807) (w : World) :
    Calls Try.prog 48 #[.int .i64 n] w fun e w' => e = .returned (.int .u64 (zigzag n : Nat)) ∧ w = w' := by
  by_cases h : n < 0
  · have HZ := Lib.hid (zig_neg h)
    go_enter Try.func48, Try.ntmps48
    go_wp2
    go_ret
    exact ⟨ret_u64 (by have := HZ.out; omega), rfl⟩
  · have HZ := Lib.hid (zig_nonneg (n := n) (by omega))
    have h' : 0 ≤ n := by omega
    go_enter Try.func48, Try.ntmps48
    go_wp2
    go_ret
    exact ⟨ret_u64 (by have := HZ.out; omega), rfl⟩
set_option maxRecDepth 100000 in
theorem clone (v : Value) (l : List UInt8) (w : World) (hv : Bytes w v l) (hl : l.length ≤ 140737488355328) :
    Calls Try.prog 25 #[v] w (BytesRes l w) := by
  have hv' := hv
  obtain ⟨a, cap, rfl, h1, h2, h3, -⟩ := hv
  cases a with
  | none =>
    obtain rfl := h3 rfl
    have hl0 : l = [] := List.eq_nil_of_length_eq_zero (by omega)
    subst hl0
    clear hv'
    have hnil := fun W : World => Lib.run_eql_slice_nil (P := Try.prog) W 22 5 none 0 0 0 0 Try.underlying22
    show Calls _ _ #[.slice none 0 0] _ _
    go_enter Try.func25, Try.ntmps25
    go_wp2
    go_ret
    exact ⟨_, rfl, OwnRow.nil _ _ _ _, Below.refl _ _⟩
  | some ad =>
    have hlit := OwnRow.lit encB 5 w [] (by simp)
    have hnil := fun W : World => Lib.run_eql_slice_nil (P := Try.prog) W 22 5 (some ad) l.length cap 0 0 Try.underlying22
    have hb := (Below.refl w.heap.size w).alloc (Nat.le_refl _) (.cells #[] 5)
    go_enter Try.func25, Try.ntmps25
    go_wp2_with (at_builtin; refine wpList_append_bytes (w0 := w) rfl (.tmp 5) (.tmp 6) rfl rfl hlit rfl (hv'.under hb (Nat.le_refl _)) (by simpa using hl) (by simp) hb ?_)
    intro v' w1 ho hb'
    go_wp2
    go_ret
    exact ⟨_, rfl, by simpa using ho, hb'⟩
end Go.Proofs.Ytafdkfojimnbnaa
