/-
  CONTRACTS OF LAYER 1 (num), TEXTS: the reference's digits and Text, num's Text, both Numbers. By an AI agent.
-/
import Derived.Test.YtcllaenanihedaaDoorNumCore
import Derived.Test.YtcllaenanihedaaDoorShelf
import Derived.OwnWalk
import Derived.WalkSpells
import Derived.Lib.SmallJoins
import Derived.Lib.AppendIntMem
import Derived.Test.YtcllaenanihedaaDoorNumText
import Derived.Laws.IdiomStrings
import Derived.Lib.Hide
namespace Go.Proofs.YtcllaenanihedaaDoor
open Go.RowKit

/-- 'string([]byte{x})': the one byte, out of the block that the literal has just laid. -/
theorem run_string_one (x : Nat) (v : Int) (hv : v = x) (hx : x < 256) (c : UInt8) (hc : c = UInt8.ofNat x) (W : World) :
    (convert 63 9 (.slice (some ⟨W.heap.size, 0, none⟩) 1 1)).run Tryd.prog (W.alloc (.cells #[.int .u8 v] 5)) = .ok (.string ⟨#[c]⟩) (W.alloc (.cells #[.int .u8 v] 5)) := by
  subst hv hc
  have h := run_convert_bytes_back (P := Tryd.prog) (W.alloc (.cells #[.int .u8 (x : Int)] 5)) 63 9 5 ⟨W.heap.size, 0, none⟩ 1 [UInt8.ofNat x] Tryd.underlying63 Tryd.underlying5 Tryd.underlying9 (fun j hj => by
    obtain rfl : j = 0 := by simpa using hj
    show (W.alloc _).cell? ⟨W.heap.size, 0, none⟩ = _
    rw [World.cell?_alloc_mark]
    simp
    omega)
  simpa using h

theorem str_cat (a b : List UInt8) : (ByteArray.mk a.toArray) ++ (ByteArray.mk b.toArray) = ByteArray.mk (a ++ b).toArray := by
  apply ByteArray.ext
  show (ByteArray.append _ _).data = _
  simp
theorem ret_str {a b : List UInt8} (h : a = b) : Ending.returned (.string ⟨a.toArray⟩) = .returned (.string ⟨b.toArray⟩) := by rw [h]

set_option maxRecDepth 100000 in
theorem refDigits (u : Nat) (hu : u < 18446744073709551616) (w : World) :
    Calls Tryd.prog 51 #[.int .u64 u] w fun e w' => e = .returned (.string ⟨(Lib.decDigits u).toArray⟩) ∧ Below w.heap.size w w' := by
  have HU : Hid (u < 18446744073709551616) := Lib.hid hu
  have hu' : (u : Int) ≤ 18446744073709551615 := by omega
  clear hu
  have hone := fun W => run_string_one (48 + u % 10) (48 + (u : Int) % 10) (by omega) (by omega) (Num.dig u) rfl W
  go_enter Tryd.func51, Tryd.ntmps51
  go_wp2
  clear hone
  go_loopw [0, 3] (fun v s wr => ∃ k : Nat, v = .int .u64 (k : Int) ∧ (k : Int) ≤ 18446744073709551615 ∧ ∃ l : List UInt8, s = .string ⟨l.toArray⟩ ∧ Num.DigRel u k l ∧ Below w.heap.size w wr) (fun v _ _ => (intOf v).toNat)
  case atStart => exact ⟨u / 10, by go_num, by omega, _, rfl, Num.digRel_start u, by go_grown⟩
  case round =>
    obtain ⟨k, rfl, hk, l, rfl, hrel, hb⟩ := hrel
    rcases Nat.eq_zero_or_pos k with h0 | h0
    · subst h0
      go_wp2
      go_ret
      exact ⟨ret_str (Num.digRel_end hrel), hb⟩
    · have hone := fun W => run_string_one (48 + k % 10) (48 + (k : Int) % 10) (by omega) (by omega) (Num.dig k) rfl W
      have hlen := Num.digRel_len hrel HU.out
      have hsz := hb.size
      go_wp2
      go_roundw
      case rel => exact ⟨k / 10, by go_num, by omega, [Num.dig k] ++ l, congrArg Value.string (str_cat [Num.dig k] l), Num.digRel_step hrel h0, by go_grown⟩
      case measure => simp [intOf]; omega
/-- what is told of the package-level variables: strconv's table of powers, its two errors -/
structure Env (w : World) : Prop where
  tab : Lib.TabIs Tryd.prog w "internal/strconv.uint64pow10" .u64 Lib.pow10Tab
  syn : ∃ tp p, w.var? Tryd.prog "strconv.ErrSyntax" = some #[.iface tp p]
  rng : ∃ tp p, w.var? Tryd.prog "strconv.ErrRange" = some #[.iface tp p]
theorem var_below {w w' : World} (hb : Below w.heap.size w w') {n : String} {cs : Array Value} (h : w.var? Tryd.prog n = some cs) : w'.var? Tryd.prog n = some cs := by
  unfold World.var? at *
  cases hg : Tryd.prog.globalNamed n with
  | none => simp [hg] at h
  | some g =>
    simp only [hg, Option.bind_some] at h ⊢
    have hlt : g < w.heap.size := by
      rcases Nat.lt_or_ge g w.heap.size with h' | h'
      · exact h'
      · rw [Array.getElem?_eq_none h'] at h; simp at h
    rw [hb.block g hlt]
    exact h
theorem Env.below {w w' : World} (h : Env w) (hb : Below w.heap.size w w') : Env w' :=
  ⟨var_below hb h.tab, h.syn.imp fun _ h => h.imp fun _ h => var_below hb h, h.rng.imp fun _ h => h.imp fun _ h => var_below hb h⟩

set_option maxRecDepth 100000 in
theorem refText (n : Int) (h0 : -9223372036854775808 ≤ n) (h1 : n ≤ 9223372036854775807) (w : World) :
    Calls Tryd.prog 34 #[.int .i64 n] w fun e w' => e = .returned (.string ⟨(Lib.itoa n).toArray⟩) ∧ Below w.heap.size w w' := by
  rcases Int.lt_or_le n 0 with hn | hn
  · obtain ⟨u, hu⟩ : ∃ u : Nat, n = -(u : Int) := ⟨(-n).toNat, by omega⟩
    have E : Hid (Lib.itoa n = [45] ++ Lib.decDigits u) := by rw [Num.itoa_neg hn, show (-n).toNat = u by omega]; exact rfl
    have hlen := Num.decDigits_len 19 u (by omega)
    have h2 : IntKind.u64.wrap n = 18446744073709551616 - u := by rw [IntKind.wrap_u64]; omega
    have h3 : IntKind.u64.wrap (-(18446744073709551616 - (u : Int))) = u := by rw [IntKind.wrap_u64]; omega
    have hd := Lib.hid (refDigits u (by omega))
    clear hu
    go_enter Tryd.func34, Tryd.ntmps34
    go_wp2_with fail
    refine (hd.out _).mono ?_
    rintro e w1 ⟨rfl, hb⟩
    go_wp2
    go_ret
    exact ⟨by rw [E.out]; exact congrArg (fun s => Ending.returned (Value.string s)) (str_cat [45] (Lib.decDigits u)), hb⟩
  · obtain ⟨u, rfl⟩ : ∃ u : Nat, n = (u : Int) := ⟨n.toNat, by omega⟩
    have E : Hid (Lib.itoa (u : Int) = Lib.decDigits u) := by rw [Num.itoa_nonneg hn]; exact rfl
    have h2 : IntKind.u64.wrap (u : Int) = u := by rw [IntKind.wrap_u64]; omega
    have hd := Lib.hid (refDigits u (by omega))
    go_enter Tryd.func34, Tryd.ntmps34
    go_wp2_with fail
    refine (hd.out _).mono ?_
    rintro e w1 ⟨rfl, hb⟩
    go_wp2
    go_ret
    exact ⟨ret_str E.out.symm, hb⟩
theorem numText (n : Int) (h0 : -9223372036854775808 ≤ n) (h1 : n ≤ 9223372036854775807) (w : World) (hE : Env w) :
    Calls Tryd.prog 33 #[.int .i64 n] w fun e w' => e = .returned (.string ⟨(Lib.itoa n).toArray⟩) ∧ Below w.heap.size w w' := by
  have hd := Lib.hid (Tryd.strconv_Itoa n h0 h1 w hE.tab)
  go_enter Tryd.func33, Tryd.ntmps33
  go_wp2_with fail
  refine hd.out.mono ?_
  rintro e w1 ⟨rfl, k, os, rfl⟩
  go_wp2
  go_ret
  exact ⟨rfl, Lib.below_grow _ _ (Nat.le_refl _) _ _⟩
end Go.Proofs.YtcllaenanihedaaDoor
