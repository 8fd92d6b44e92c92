/-
  LAYER 4's LAWS: OctetReads. By an AI agent.
-/
import Derived.Test.YtafdkfojimnbnaaOctStep
namespace Go.Proofs.Ytafdkfojimnbnaa
open Go.RowKit
open Go.Lib (uvarint uvarint_small uvarint_big zigzag unzigzag)

/-- the value v is a slice of values, in blocks below C, that reads as xs -/
def Vals (C : Nat) (w : World) (v : Value) (xs : List Val) : Prop :=
  ∃ a cap, v = .slice a xs.length cap ∧ xs.length ≤ cap ∧ cap ≤ maxLen ∧ ∀ (i : Nat) x, xs[i]? = some x → ∃ b o, a = some ⟨b, o, none⟩ ∧ b < C ∧
    x.u < 18446744073709551616 ∧ (-9223372036854775808 ≤ x.n ∧ x.n ≤ 9223372036854775807) ∧ RowIn (Value.int .i64) 0 C w x.lv x.ll ∧ Oct.Fits x.ll ∧
    ∀ (j : Nat) (y : Value), x.cells[j]? = some y → w.cell? ⟨b, o + i * 5 + j, none⟩ = some y
instance : Inhabited Val := ⟨⟨0, 0, 0, .empty, .slice none 0 0, []⟩⟩
set_option maxHeartbeats 1000000 in
set_option maxRecDepth 100000 in
theorem lawReads (va vl : Value) (l : List UInt8) (xs : List Val) (w : World) (ha : Bytes w va l) (hv : Vals w.heap.size w vl xs) (hl : l.length ≤ 999999999999) :
    Calls Try.prog 4 #[va, vl] w fun e w' => e = .returned (.bool true) ∧ Below w.heap.size w w' := by
  obtain ⟨a, c, rfl, hc1, hc2, hd⟩ := hv
  unfold maxLen at hc2
  have D := Lib.hid hd
  clear hd
  go_enter Try.func4, Try.ntmps4
  go_wp2_with fail
  refine (octNew va l w ha (by omega)).mono ?_
  rintro e w1 ⟨g, rfl, hg, hr, hb1⟩
  go_wp2_with fail
  refine (refNew va l w1 (ha.under hb1 (Nat.le_refl _)) (by omega)).mono ?_
  rintro e w2 ⟨g2, rfl, hg2, hq, hb2⟩
  have hgl := hr.lt
  have hr2 := hr.past (r := none) (grownBy_below hb2) (fun k e => by cases e)
  have hb02 := hb1.trans (hb2.mono hb1.size)
  go_wp2
  go_loopw [15] (fun i wr => ∃ k : Nat, k ≤ xs.length ∧ i = .int .i64 (k : Int) ∧ ∃ s : Oct.St, RdO w.heap.size g wr s ∧ RdR w1.heap.size g2 wr s ∧ Oct.Fine s ∧ s.1.length ≤ 999999999999 ∧ Below w.heap.size w wr) (fun i _ => xs.length - (intOf i).toNat)
  case atStart => exact ⟨0, by omega, rfl, (l, 0), hr2, hq, fun h => absurd rfl h, hl, hb02⟩
  case round =>
    clear hr hr2 hq hb02 hb1 hb2
    obtain ⟨k, hk, rfl, s, hr, hq, hf, hlen, hb⟩ := hrel
    have i0 : (0 : Int) ≤ (k : Int) := by omega
    by_cases hlt : k < xs.length
    · have i1 : (k : Int) < (xs.length : Int) := by omega
      obtain ⟨b, o, rfl, hbC, hu, hn, hrow, hfit, hcell⟩ := D.out k _ (getD_get (d := default) hlt)
      generalize xs.getD k default = x at hu hn hrow hfit hcell
      obtain ⟨kind, u, n, s0, lv, ll⟩ := x
      replace hrow : RowIn (Value.int .i64) 0 w.heap.size w lv ll := hrow
      have hrow' := hrow
      obtain ⟨a2, q2, rfl, -⟩ := hrow'
      have c0 := (hb.cell (p := ⟨b, o + k * 5 + 0, none⟩) hbC).trans (hcell 0 (.int .i64 kind) rfl)
      have c1 := (hb.cell (p := ⟨b, o + k * 5 + 1, none⟩) hbC).trans (hcell 1 (.int .u64 (u : Int)) rfl)
      have c2 := (hb.cell (p := ⟨b, o + k * 5 + 2, none⟩) hbC).trans (hcell 2 (.int .i64 n) rfl)
      have c3 := (hb.cell (p := ⟨b, o + k * 5 + 3, none⟩) hbC).trans (hcell 3 (.string s0) rfl)
      have c4 := (hb.cell (p := ⟨b, o + k * 5 + 4, none⟩) hbC).trans (hcell 4 (.slice a2 ll.length q2) rfl)
      rw [Nat.add_zero] at c0
      go_wp2_with fail
      have hb0 := below_alloc1 wr (.cells #[.int .i64 kind, .int .u64 (u : Int), .int .i64 n, .string s0, .slice a2 ll.length q2] 29)
      refine (lawRead ⟨kind, u, n, s0, .slice a2 ll.length q2, ll⟩ _ hn.1 hn.2 hlen hf (hr.past (r := none) (grownBy_below hb0) (fun k e => by cases e)) (hq.past (r := none) (grownBy_below hb0) hg2 (fun k e => by cases e)) hgl hg2).mono ?_
      rintro e w3 ⟨rfl, hr3, hq3, hb3⟩
      go_wp2_with fail
      go_roundw
      case rel => exact ⟨k + 1, by omega, by go_num, _, hr3, hq3, Val.step_fine hf, Nat.le_trans (Val.step_len _ _) hlen, hb.trans ((hb0.mono hb.size).trans (hb3.mono hg))⟩
      case measure => simp [intOf]; omega
    · obtain rfl : k = xs.length := by omega
      go_wp2_with fail
      refine (alive wr).mono ?_
      rintro e w3 ⟨rfl, hb3⟩
      go_wp2_with fail
      go_ret
      exact ⟨rfl, hb.trans (hb3.mono hb.size)⟩
end Go.Proofs.Ytafdkfojimnbnaa
