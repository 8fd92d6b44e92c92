/-
  CONTRACTS OF LAYER 4 AND OF ITS REFERENCE: what writes, third part. By an AI agent.
-/
import Derived.Test.YtafdkfojimnbnaaOctWalksB
namespace Go.Proofs.Ytafdkfojimnbnaa
open Go.RowKit
open Go.Lib (uvarint uvarint_small uvarint_big zigzag unzigzag)
set_option maxRecDepth 100000 in
theorem refAfter (va vb : Value) (la lb : List UInt8) (w : World) (ha : Bytes w va la) (hb : Bytes w vb lb) (hl : la.length + lb.length ≤ 140737488355328) :
    Calls Try.prog 26 #[va, vb] w (BytesRes (la ++ lb) w) := by
  have hmk : ∀ u : World, (Instr.makeSlice 22 (.int .i64 0) (.int .i64 ((la.length : Int) + (lb.length : Int)))).run Try.prog u =
      .ok (.slice (some ⟨u.heap.size, 0, none⟩) 0 (la.length + lb.length)) (u.alloc (.cells (madeCells #[.int .u8 0] (la.length + lb.length)) 5)) := fun u => by
    obtain ⟨i0, hi, hz0, hz1, hz2⟩ := info_parts infoB
    have h := run_make (P := Try.prog) u 22 5 i0 (.int .u8 0) Try.underlying22 hi hz0 .i64 .i64 0 ((la.length : Int) + (lb.length : Int)) (Int.le_refl _) (by omega) (by rw [hz2]; omega) (by omega)
    have e : ((la.length : Int) + (lb.length : Int)).toNat = la.length + lb.length := by omega
    rw [e] at h
    simpa [hz1, Value.cells] using h
  have hown : OwnB w.heap.size (w.alloc (.cells (madeCells #[.int .u8 0] (la.length + lb.length)) 5)) (.slice (some ⟨w.heap.size, 0, none⟩) 0 (la.length + lb.length)) [] :=
    World.ownsRow_made w _ _ (Nat.le_refl _) (by unfold maxLen; omega) (by simp [size_madeCells])
  have hbl := (Below.refl w.heap.size w).alloc (Nat.le_refl _) (.cells (madeCells #[.int .u8 0] (la.length + lb.length)) 5)
  have ha' := ha
  have hb' := hb
  obtain ⟨a1, c1, rfl, -⟩ := ha
  obtain ⟨a2, c2, rfl, -⟩ := hb
  go_enter Try.func26, Try.ntmps26
  go_wp2_with (at_builtin; refine wpList_append_bytes (w0 := w) rfl (.tmp 12) (.tmp 13) rfl rfl hown rfl (ha'.under hbl (Nat.le_refl _)) (by simp; omega) (by simp) hbl ?_)
  intro v1 w1 ho1 hb1
  replace ho1 : OwnB w.heap.size w1 v1 la := by simpa using ho1
  go_wp2_with (at_builtin; refine wpList_append_bytes (w0 := w) rfl (.tmp 15) (.tmp 16) rfl rfl ho1 rfl (hb'.under hb1 (Nat.le_refl _)) hl hb1.size hb1 ?_)
  intro v2 w2 ho2 hb2
  go_wp2
  go_ret
  exact ⟨_, rfl, ho2, hb2⟩
end Go.Proofs.Ytafdkfojimnbnaa
