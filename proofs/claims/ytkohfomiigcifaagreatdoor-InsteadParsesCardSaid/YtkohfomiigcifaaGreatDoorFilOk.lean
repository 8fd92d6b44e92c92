/-
  PLAIN FACTS OF LAYER 13: what the reference's reader holds stays small. By an AI agent.
-/
import Derived.Test.YtkohfomiigcifaaGreatDoorFilRef
namespace Go.Proofs.YtkohfomiigcifaaGreatDoor.Fil
open Num (bitsL bitB)

theorem setB_lt {m n i : Nat} (hm : m < 2 ^ n) (hi : i < n) : setB m i < 2 ^ n := by
  unfold setB
  cases hb : bitB m i with
  | true => rw [if_pos rfl]; exact hm
  | false =>
    rw [if_neg (by simp)]
    have h1 := Kw.mod_no hb
    have h2 := Nat.mod_lt m (Nat.two_pow_pos i)
    have h3 := Nat.div_add_mod m (2 ^ (i + 1))
    have h4 : m / 2 ^ (i + 1) < 2 ^ (n - (i + 1)) := by
      rw [Nat.div_lt_iff_lt_mul (Nat.two_pow_pos _), ← Nat.pow_add]
      rw [show n - (i + 1) + (i + 1) = n by omega]; exact hm
    have h5 : 2 ^ (i + 1) * (m / 2 ^ (i + 1) + 1) ≤ 2 ^ (i + 1) * 2 ^ (n - (i + 1)) := Nat.mul_le_mul_left _ h4
    rw [← Nat.pow_add, show i + 1 + (n - (i + 1)) = n by omega, Nat.mul_add, Nat.mul_one] at h5
    have h6 : 2 ^ (i + 1) = 2 ^ i + 2 ^ i := by rw [Nat.pow_succ]; omega
    omega
theorem orTo_lt {nm : Nat → Bs} {pre w : Bs} {m n : Nat} (hm : m < 2 ^ n) : ∀ k, k ≤ n → orTo nm pre w m k < 2 ^ n
  | 0, _ => hm
  | k + 1, h => by
    show oStep nm pre w k (orTo nm pre w m k) < _
    unfold oStep
    split
    · exact setB_lt (orTo_lt hm k (by omega)) (by omega)
    · exact orTo_lt hm k (by omega)
structure Ok (a : Acc) : Prop where
  types : a.types < 2 ^ 6
  ntypes : a.ntypes < 2 ^ 6
  colors : a.colors < 2 ^ 5
  ncolors : a.ncolors < 2 ^ 5
  keys : a.keys < 2 ^ 17
theorem zero_ok : Ok zeroA := ⟨by decide, by decide, by decide, by decide, by decide⟩
theorem wordN_ok {a : Acc} (w : Bs) (h : Ok a) : Ok (wordN a w) :=
  ⟨orTo_lt h.types 6 (Nat.le_refl _), orTo_lt h.ntypes 6 (Nat.le_refl _), orTo_lt h.colors 5 (Nat.le_refl _), orTo_lt h.ncolors 5 (Nat.le_refl _), orTo_lt h.keys 17 (Nat.le_refl _)⟩
/-- what 'named' leaves -/
def namedN (a : Acc) (w : Bs) : Acc := ⟨a.zone, a.who, a.self, orTo typeW [] w a.types 6, orTo typeW sNon w a.ntypes 6, orTo Col.name [] w a.colors 5, orTo Col.name sNon w a.ncolors 5, a.sub, orTo Kw.name sWith w a.keys 17, a.tap, a.pow, a.tough, a.val⟩
def restN (a : Acc) (w : Bs) : Acc := ⟨oneOf zonesL a.zone w, oneOf whoL a.who w, oneOf selfL a.self w, a.types, a.ntypes, a.colors, a.ncolors, subOf a.sub w, a.keys, oneOf tapL a.tap w, bdOf sPow a.pow w, bdOf sTough a.tough w, bdOf sVal a.val w⟩
theorem wordN_two (a : Acc) (w : Bs) : wordN a w = namedN (restN a w) w := rfl
/-- under way: the masks after k names of types, of colours, of keywords -/
def nT (a : Acc) (w : Bs) (k : Nat) : Acc := { a with types := orTo typeW [] w a.types k, ntypes := orTo typeW sNon w a.ntypes k }
def nC (a : Acc) (w : Bs) (k : Nat) : Acc := { nT a w 6 with colors := orTo Col.name [] w a.colors k, ncolors := orTo Col.name sNon w a.ncolors k }
def nK (a : Acc) (w : Bs) (k : Nat) : Acc := { nC a w 5 with keys := orTo Kw.name sWith w a.keys k }
theorem nK_end (a : Acc) (w : Bs) : nK a w 17 = namedN a w := rfl
theorem orTo_yes {nm : Nat → Bs} {pre w : Bs} {m k : Nat} (h : w = pre ++ nm k) : orTo nm pre w m (k + 1) = setB (orTo nm pre w m k) k := by
  show oStep nm pre w k _ = _
  unfold oStep; rw [if_pos h]
theorem orTo_no {nm : Nat → Bs} {pre w : Bs} {m k : Nat} (h : w ≠ pre ++ nm k) : orTo nm pre w m (k + 1) = orTo nm pre w m k := by
  show oStep nm pre w k _ = _
  unfold oStep; rw [if_neg h]
end Go.Proofs.YtkohfomiigcifaaGreatDoor.Fil
