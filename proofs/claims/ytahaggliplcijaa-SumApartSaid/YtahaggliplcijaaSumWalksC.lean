/-
  CONTRACTS OF LAYER 5 AND OF ITS REFERENCE: slices.Grow, slices.Concat (as Seal calls them), Seal. By an AI agent.
-/
import Derived.Test.YtahaggliplcijaaSumWalksB
import Derived.Sort.Grow
namespace Go.Proofs.Ytahaggliplcijaa
open Go.RowKit

theorem size_zeroCells (z : Array Value) (n : Nat) : (Builtin.zeroCells z n).size = n * z.size := by simp [Builtin.zeroCells]
/-- 'append(nil, make([]byte, n)...)' -/
theorem run_append_zeros (w : World) (ty n : Nat) (h0 : 0 < n) (hn : n ≤ 1000000) :
    ∃ cs : Array Value, cs.size = grownCap w n 0 5 ∧ (Builtin.append_ #[22, 3] ty #[.slice none 0 0, .int .i64 (n : Int)]).run Try.prog w =
      .ok (.slice (some ⟨w.heap.size, 0, none⟩) n (grownCap w n 0 5)) (w.drew.alloc (.cells cs 5)) := by
  obtain ⟨i0, hi, hz0, hz1, hz2⟩ := info_parts infoB
  have hge := grownCap_ge w n 0 5
  refine ⟨Builtin.zeroCells (Value.int .u8 0).cells n ++ Builtin.zeroCells (Value.int .u8 0).cells (grownCap w n 0 5 - n), ?_, ?_⟩
  · rw [Array.size_append, size_zeroCells, size_zeroCells]
    have : (Value.int IntKind.u8 0).cells.size = 1 := rfl
    rw [this]; omega
  · have hn0 : n ≠ 0 := by omega
    have hw : IntKind.wrap .i64 (n : Int) = (n : Int) := by
      have e : (n : Int) % 2 ^ 64 = n := Int.emod_eq_of_lt (by omega) (by omega)
      simp only [IntKind.wrap, IntKind.bits, IntKind.signed, e]
      rw [if_neg]
      simp
      omega
    have h48' : ¬ (281474976710656 < Builtin.nextslicecap n 0 * i0.bytes) := by rw [nextslicecap_zero h0, hz2]; omega
    have h1 : ¬ ((n : Int) < 0) := by omega
    have h2 : ¬ (281474976710656 < (n : Int) * (i0.bytes : Int)) := by rw [hz2]; omega
    have h3 : ¬ (9223372036854775807 < (n : Int)) := by omega
    simp [Builtin.append_, run_underlying Try.underlying22, run_underlying Try.underlying3, sizeOf, typeInfo, zeroValue, hi, hz0, hz1, Builtin.lenOf, hn0, hw, h1, h2, h3, h48', Question.forced, run_firstCells_none, newRow, grownCap, asInt, asIntOf]
theorem wpList_append_zeros {ops : Array Oper} {rest : List Oper} {o : Oper} {a : Act} {Q : Exit → Act → World → Prop} (hgd : o.guard = none) (s x : Operand)
    (ho : o.op = .call { callee := .builtin .append, args := #[s, x], argTypes := #[22, 3] })
    {B : Nat} {w0 w : World} (n : Nat) (h0 : 0 < n) (hn : n ≤ 1000000) (hs : a.eval s = .slice none 0 0) (hx : a.eval x = .int .i64 n) (hB : B ≤ w.heap.size) (hb : Below B w0 w)
    (h : ∀ g cap w', OwnB B w' (.slice (some ⟨g, 0, none⟩) 0 cap) [] → n ≤ cap → cap ≤ maxLen → Below B w0 w' → wpList Try.prog ops Q rest (a.put o.dst (.slice (some ⟨g, 0, none⟩) n cap)) w') :
    wpList Try.prog ops Q (o :: rest) a w := by
  refine wpList_plain hgd fun K hK => ?_
  obtain ⟨cs, hcs, hrun⟩ := run_append_zeros w o.type n h0 hn
  unfold Oper.wp
  simp [execOp, ho, resolve, invoke, builtin, hs, hx, hrun, Result.andThen]
  have hm := grownCap_le_maxLen w n 0 5 (by unfold maxLen; omega)
  refine hK _ _ (h _ _ _ ?_ (grownCap_ge w n 0 _) hm (hb.drew.alloc hB _))
  exact World.ownsRow_made (base := B) (size := 1) (e := 5) w.drew cs _ hB hm (by omega)
/-! ### slices.Grow at nil, slices.Concat of two -/
set_option maxHeartbeats 400000 in
set_option maxRecDepth 100000 in
theorem growNil (n : Nat) (w : World) (hn : n ≤ 1000000) :
    Calls Try.prog 20 #[.slice none 0 0, .int .i64 (n : Int)] w (BytesRes [] w) := by
  have i0 : ¬ (n : Int) < 0 := by omega
  by_cases hz : n = 0
  · subst hz
    go_enter Try.func20, Try.ntmps20
    go_wp2_with fail
    go_ret
    exact ⟨_, rfl, OwnRow.nil _ _ _ _, Below.refl _ _⟩
  · have i1 : (0 : Int) < (n : Int) := by omega
    have i2 : (n : Int) - 0 = n := by omega
    go_enter Try.func20, Try.ntmps20
    go_wp2_with (at_builtin; refine wpList_append_zeros rfl _ _ rfl n (by omega) hn rfl rfl (Nat.le_refl _) (Below.refl _ _) ?_)
    intro g cap w1 ho hc hm hb
    unfold maxLen at hm
    go_wp2_with fail
    go_ret
    exact ⟨_, rfl, ho, hb⟩
set_option maxHeartbeats 1600000 in
set_option maxRecDepth 100000 in
theorem concatTwo (t : Nat) (v1 v2 : Value) (l1 l2 : List UInt8) (w : World) (ht : t < w.heap.size) (c1 : w.cell? ⟨t, 0, none⟩ = some v1) (c2 : w.cell? ⟨t, 1, none⟩ = some v2)
    (h1 : Bytes w v1 l1) (h2 : Bytes w v2 l2) (hn : l1.length + l2.length ≤ 1000000) :
    Calls Try.prog 16 #[.slice (some ⟨t, 0, none⟩) 2 2] w (BytesRes (l1 ++ l2) w) := by
  have H1 := Lib.hid h1
  have H2 := Lib.hid h2
  obtain ⟨a1, k1, rfl, _⟩ := h1
  obtain ⟨a2, k2, rfl, _⟩ := h2
  have f1 : (0 : Int) ≤ (l1.length : Int) := by omega
  have f2 : ¬ (l1.length : Int) < 0 := by omega
  have f3 : (0 : Int) ≤ (l1.length : Int) + (l2.length : Int) := by omega
  have f4 : ¬ (l1.length : Int) + (l2.length : Int) < 0 := by omega
  have f5 : (l1.length : Int) + (l2.length : Int) ≤ 9223372036854775807 := by omega
  have hg := fun w' => growNil (l1.length + l2.length) w' hn
  rw [Int.natCast_add] at hg
  have HG := Lib.hid hg
  clear hg
  go_enter Try.func16, Try.ntmps16
  go_wp2_with fail
  go_loop [3, 11] (fun sz i => (i = .int .i64 0 ∧ sz = .int .i64 0) ∨ (i = .int .i64 1 ∧ sz = .int .i64 (l1.length : Int)) ∨ (i = .int .i64 2 ∧ sz = .int .i64 ((l1.length : Int) + (l2.length : Int)))) (fun _ i => 2 - (intOf i).toNat)
  case atStart => exact .inl ⟨rfl, rfl⟩
  case round =>
    rcases hrel with ⟨rfl, rfl⟩ | ⟨rfl, rfl⟩ | ⟨rfl, rfl⟩
    · go_wp2_with fail
      exact ⟨.inr (.inl ⟨rfl, rfl⟩), by simp [intOf]⟩
    · go_wp2_with fail
      exact ⟨.inr (.inr ⟨rfl, rfl⟩), by simp [intOf]⟩
    · go_wp2_with fail
      refine (HG.out _).mono ?_
      rintro e w1 ⟨v, rfl, ho, hb⟩
      go_wp2_with fail
      go_loopw [6, 27] (fun ns i wr => ((i = .int .i64 0 ∧ OwnB w.heap.size wr ns []) ∨ (i = .int .i64 1 ∧ OwnB w.heap.size wr ns l1) ∨ (i = .int .i64 2 ∧ OwnB w.heap.size wr ns (l1 ++ l2))) ∧ Below w.heap.size w wr) (fun _ i _ => 2 - (intOf i).toNat)
      case atStart => exact ⟨.inl ⟨rfl, ho⟩, hb⟩
      case round =>
        obtain ⟨hcase, hbr⟩ := hrel
        have hsz := hbr.size
        have d1 := (hbr.cell (p := ⟨t, 0, none⟩) ht).trans c1
        have d2 := (hbr.cell (p := ⟨t, 1, none⟩) ht).trans c2
        have g1 := H1.out.below hbr (Nat.le_refl _)
        have g2 := H2.out.below hbr (Nat.le_refl _)
        rcases hcase with ⟨rfl, hown⟩ | ⟨rfl, hown⟩ | ⟨rfl, hown⟩
        · clear g2 d2
          go_wp2_with (at_builtin; refine wpList_append_bytes (w0 := w) rfl (.tmp 31) (.tmp 32) rfl rfl hown rfl g1 (by simp; omega) hsz hbr ?_)
          intro v' w2 ho' hb'
          clear hown hbr g1 d1
          go_wp2_with fail
          go_roundw
          case rel => exact ⟨.inr (.inl ⟨by go_num, ho'⟩), hb'⟩
          case measure => simp [intOf]
        · clear g1 d1
          go_wp2_with (at_builtin; refine wpList_append_bytes (w0 := w) rfl (.tmp 31) (.tmp 32) rfl rfl hown rfl g2 (by omega) hsz hbr ?_)
          intro v' w2 ho' hb'
          clear hown hbr g2 d2
          go_wp2_with fail
          go_roundw
          case rel => exact ⟨.inr (.inr ⟨by go_num, ho'⟩), hb'⟩
          case measure => simp [intOf]
        · clear g1 g2 d1 d2
          go_wp2_with fail
          go_ret
          exact ⟨_, rfl, hown, hbr⟩
set_option maxHeartbeats 1000000 in
set_option maxRecDepth 100000 in
theorem sumSeal (v : Value) (l : List UInt8) (w : World) (hv : Bytes w v l) (hl : l.length ≤ 100000) :
    Calls Try.prog 12 #[v] w (BytesRes (Crc.sealS l) w) := by
  have HE := Lib.hid (show Crc.sealS l = l ++ Crc.endS l from rfl)
  generalize Crc.sealS l = m at HE ⊢
  have HV := hv
  obtain ⟨a, c, rfl, -⟩ := hv
  go_enter Try.func12, Try.ntmps12
  go_wp2_with fail
  refine (sumEnding _ l w HV (by omega)).mono ?_
  rintro e w1 ⟨v1, rfl, ho, hb⟩
  have ho' := ho.row
  obtain ⟨a1, c1, rfl, -⟩ := ho'
  have hb1 := below_alloc1 w1 (.cells #[.slice a l.length c, .slice a1 (Crc.endS l).length c1] 22)
  have hb01 := hb.trans (hb1.mono hb.size)
  have g1 := HV.under hb01 (Nat.le_refl _)
  have g2 := ho.row.all.under hb1 (Nat.le_refl _)
  have hsz := hb.size
  have d1 : (w1.alloc (.cells #[.slice a l.length c, .slice a1 (Crc.endS l).length c1] 22)).cell? ⟨w1.heap.size, 0, none⟩ = some (.slice a l.length c) := by go_simp
  have d2 : (w1.alloc (.cells #[.slice a l.length c, .slice a1 (Crc.endS l).length c1] 22)).cell? ⟨w1.heap.size, 1, none⟩ = some (.slice a1 (Crc.endS l).length c1) := by go_simp
  go_wp2_with fail
  refine (concatTwo w1.heap.size _ _ l (Crc.endS l) _ (by simp) d1 d2 g1 g2 (by rw [Crc.endS_length]; omega)).mono ?_
  rintro e w2 ⟨v2, rfl, ho2, hb2⟩
  go_wp2_with fail
  go_ret
  rw [HE.out]
  exact ⟨_, rfl, ho2.mono (by simp; omega), hb01.trans (hb2.mono (by simp; omega))⟩
end Go.Proofs.Ytahaggliplcijaa
