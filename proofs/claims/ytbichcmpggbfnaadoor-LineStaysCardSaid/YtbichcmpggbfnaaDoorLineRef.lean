/-
  CONTRACTS OF LAYER 10's REFERENCE, the small ones: bit, index, the words, power, joined; what the listed variables give. By an AI agent.
-/
import Derived.Test.YtbichcmpggbfnaaDoorLinePlain
import Derived.Test.YtbichcmpggbfnaaDoorLineWordB
import Derived.Test.YtbichcmpggbfnaaDoorNumBits
namespace Go.Proofs.YtbichcmpggbfnaaDoor
open Go.RowKit
open Wd (Bs)

theorem gWords : Tryd.prog.globalNamed "cardgame/line.words" = some 0 := by kernel_rfl
/-- the variable of the words holds the eight words; strings.Contains' variable some number -/
structure Env (w : World) : Prop where
  len : LenEnv w
  words : w.var? Tryd.prog "cardgame/line.words" = some (Ln.words.map str).toArray
theorem var_below {w w' : World} (hb : Below w.heap.size w w') {n : String} {cs : Array Value} (h : w.var? Tryd.prog n = some cs) : w'.var? Tryd.prog n = some cs := by
  unfold World.var? at *
  cases hg : Tryd.prog.globalNamed n with
  | none => simp [hg] at h
  | some g =>
    simp only [hg, Option.bind_some] at h ⊢
    have hlt : g < w.heap.size := by
      rcases Nat.lt_or_ge g w.heap.size with h' | h'
      · exact h'
      · rw [Array.getElem?_eq_none h'] at h; simp at h
    rw [hb.block g hlt]
    exact h
theorem Env.below {w w' : World} (h : Env w) (hb : Below w.heap.size w w') : Env w' := ⟨h.len.below hb, var_below hb h.words⟩
theorem Env.cell {w : World} (h : Env w) (k : Nat) (hk : k < 8) : w.cell? ⟨0, k, none⟩ = some (.string ⟨(Ln.word k).toArray⟩) := by
  rw [World.var?_cell gWords h.words k]
  match k, hk with
  | 0, _ => rfl
  | 1, _ => rfl
  | 2, _ => rfl
  | 3, _ => rfl
  | 4, _ => rfl
  | 5, _ => rfl
  | 6, _ => rfl
  | 7, _ => rfl
theorem ret_str {a b : List UInt8} (h : a = b) : Ending.returned (str a) = .returned (str b) := by rw [h]
set_option maxRecDepth 100000 in
theorem refBit (m i : Nat) (w : World) (hm : (m : Int) ≤ 9223372036854775807) (hi : (i : Int) ≤ 100) :
    Calls Tryd.prog 31 #[.int .i64 m, .int .i64 i] w fun e w' => e = .returned (.bool (Num.bitB m i)) ∧ w = w' := by
  go_enter Tryd.func31, Tryd.ntmps31
  go_wp2
  go_loop [0, 5] (fun x j => ∃ k q : Nat, k ≤ i ∧ j = .int .i64 (k : Int) ∧ x = .int .i64 (q : Int) ∧ (q : Int) ≤ 9223372036854775807 ∧ Hid (q = m / 2 ^ k)) (fun _ j => i - (intOf j).toNat)
  case atStart => exact ⟨0, m, by omega, rfl, rfl, hm, Lib.hid (by simp)⟩
  case round =>
    obtain ⟨k, q, hk, rfl, rfl, hq, HQ⟩ := hrel
    by_cases hlt : k < i
    · go_wp2
      go_round
      case rel => exact ⟨k + 1, q / 2, by omega, by go_num, by go_num, by omega, Lib.hid (by rw [HQ.out, Num.half_pow])⟩
      case measure => simp [intOf]; omega
    · obtain rfl : k = i := by omega
      go_wp2
      go_ret
      exact ⟨ret_bool (by rw [Num.half_test, HQ.out]; rfl), rfl⟩
set_option maxHeartbeats 400000 in
set_option maxRecDepth 100000 in
theorem refIndex10 (v : Value) (l : List Bs) (s : ByteArray) (w : World) (hv : Strs w v l) :
    Calls Tryd.prog 33 #[v, .string s] w fun e w' => e = .returned (.int .i64 (idx l s.data.toList)) ∧ w = w' := by
  rcases hv.shape with ⟨b, k, rfl, rfl⟩ | ⟨b, o, k, rfl, p, q, n1, m1, d⟩
  · have hm := Lib.hid (idx_miss (l := []) (x := s.data.toList) (fun j y hj => by simp at hj))
    go_enter Tryd.func33, Tryd.ntmps33
    go_wp2
    refine wp_loop_rounds 1 ?_
    rw [rounds_succ]
    go_wp2
    go_ret
    exact ⟨ret_int hm.out.symm, rfl⟩
  · unfold maxLen at m1
    have D := Lib.hid d
    clear d hv
    go_enter Tryd.func33, Tryd.ntmps33
    go_wp2
    go_loop [5] (fun i => ∃ k : Nat, k ≤ l.length ∧ i = .int .i64 (k : Int) ∧ NotTo l s.data.toList k) (fun i => l.length - (intOf i).toNat)
    case atStart => exact ⟨0, by omega, rfl, fun j y hj => by omega⟩
    case round =>
      obtain ⟨j, hj, rfl, hno⟩ := hrel
      by_cases hlt : j < l.length
      · obtain ⟨x, hx⟩ : ∃ x, l[j]? = some x := ⟨l[j], by simp [hlt]⟩
        obtain ⟨sx, hsx, ex⟩ := exists_bytes x
        have d1 : w.cell? ⟨b, o + j, none⟩ = some (.string sx) := (D.out j x hx).trans (congrArg some ex)
        have HX := Lib.hid hx
        have SX := Lib.hid hsx
        clear hx hsx ex
        by_cases hxs : x = s.data.toList
        · have ht : (sx.toList == s.toList) = true := bytes_eq (by rw [SX.out, hxs])
          have hh := Lib.hid (idx_hit (by rw [HX.out, hxs]) hno)
          clear hxs
          go_wp2
          go_ret
          exact ⟨ret_int hh.out.symm, rfl⟩
        · have ht : (sx.toList == s.toList) = false := bytes_ne (by rw [SX.out]; exact hxs)
          go_wp2
          go_round
          case rel => exact ⟨j + 1, by omega, by go_num, hno.next HX.out hxs⟩
          case measure => simp [intOf]; omega
      · obtain rfl : j = l.length := by omega
        have hm := Lib.hid (idx_miss hno)
        go_wp2
        go_ret
        exact ⟨ret_int hm.out.symm, rfl⟩
def supersL : List Bs := Ln.words.take 2
def typesL : List Bs := Ln.words.drop 2
set_option maxRecDepth 100000 in
theorem refSupers (w : World) :
    Calls Tryd.prog 37 #[] w (StrsRes supersL w) := by
  go_enter Tryd.func37, Tryd.ntmps37
  go_wp2_with fail
  go_ret
  exact ⟨_, rfl, OwnStrs.lit _ supersL (by decide), (Below.refl _ _).alloc (Nat.le_refl _) _⟩
set_option maxRecDepth 100000 in
theorem refTypes (w : World) :
    Calls Tryd.prog 38 #[] w (StrsRes typesL w) := by
  go_enter Tryd.func38, Tryd.ntmps38
  go_wp2_with fail
  go_ret
  exact ⟨_, rfl, OwnStrs.lit _ typesL (by decide), (Below.refl _ _).alloc (Nat.le_refl _) _⟩
theorem pow_le (k : Nat) (h : k ≤ 5) : 2 ^ k ≤ 32 := by
  have : ∀ k, k < 6 → 2 ^ k ≤ 32 := by decide
  exact this k (by omega)
set_option maxRecDepth 100000 in
theorem refPower (i p : Nat) (w : World) (hi : (i : Int) ≤ 5) (hp : Hid (p = 2 ^ i)) :
    Calls Tryd.prog 41 #[.int .i64 i] w fun e w' => e = .returned (.int .i64 (p : Int)) ∧ w = w' := by
  go_enter Tryd.func41, Tryd.ntmps41
  go_wp2
  go_loop [3, 4] (fun x j => ∃ k q : Nat, k ≤ i ∧ j = .int .i64 (k : Int) ∧ x = .int .i64 (q : Int) ∧ (q : Int) ≤ 32 ∧ Hid (q = 2 ^ k)) (fun _ j => i - (intOf j).toNat)
  case atStart => exact ⟨0, 1, by omega, rfl, rfl, by omega, Lib.hid rfl⟩
  case round =>
    obtain ⟨k, q, hk, rfl, rfl, hq, HQ⟩ := hrel
    by_cases hlt : k < i
    · have h1 := pow_le (k + 1) (by omega)
      have h2 : q * 2 ≤ 32 := by rw [HQ.out, ← Nat.pow_succ]; exact h1
      clear h1
      go_wp2
      go_round
      case rel => exact ⟨k + 1, q * 2, by omega, by go_num, by go_num, by omega, Lib.hid (by rw [HQ.out, Nat.pow_succ])⟩
      case measure => simp [intOf]; omega
    · obtain rfl : k = i := by omega
      go_wp2
      go_ret
      exact ⟨ret_int (by rw [HQ.out, hp.out]), rfl⟩
end Go.Proofs.YtbichcmpggbfnaaDoor
