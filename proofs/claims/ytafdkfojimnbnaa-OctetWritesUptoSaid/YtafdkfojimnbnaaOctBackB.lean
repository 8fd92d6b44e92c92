/-
  LAYER 4's LAWS: a list that was written is read back; the values of every kind. By an AI agent.
-/
import Derived.Test.YtafdkfojimnbnaaOctBack
namespace Go.Proofs.Ytafdkfojimnbnaa
open Go.RowKit
open Go.Lib (uvarint uvarint_small uvarint_big zigzag unzigzag)

set_option maxHeartbeats 1000000 in
set_option maxRecDepth 100000 in
theorem back4 {lo g u C : Nat} {kind n : Int} {s : ByteArray} {lv : Value} {ll : List Int} (r : List UInt8) (w : World) (k0 : ((kind : Int) == 0) = false) (k1 : ((kind : Int) == 1) = false) (k2 : ((kind : Int) == 2) = false) (k3 : ((kind : Int) == 3) = false)
    (hl : ll.length ≤ 100000000000) (hf : Oct.Fits ll) (hlen : (Oct.listE ll ++ r).length ≤ 999999999999) (hrow : RowIn (Value.int .i64) 0 C w lv ll) (hC : C ≤ g) (h : RdO lo g w (Oct.listE ll ++ r, 0)) :
    Calls Try.prog 16 #[ptr g, .agg #[.int .i64 kind, .int .u64 (u : Int), .int .i64 n, .string s, lv]] w (BackRes lo g w r) := by
  have hgl := h.lt
  have h0 := h.past (r := none) (World.grownBy_alloc w (.cells #[.int .i64 kind, .int .u64 (u : Int), .int .i64 n, .string s, lv] 29) none) (fun k e => by cases e)
  have hrow0 : RowIn (Value.int .i64) 0 C (w.alloc (.cells #[.int .i64 kind, .int .u64 (u : Int), .int .i64 n, .string s, lv] 29)) lv ll :=
    hrow.below (below_alloc1 w _) (by omega)
  have hrow' := hrow
  obtain ⟨a, c, rfl, -⟩ := hrow'
  have c1 : (w.alloc (.cells #[.int .i64 kind, .int .u64 (u : Int), .int .i64 n, .string s, .slice a ll.length c] 29)).cell? ⟨w.heap.size, 4, none⟩ = some (.slice a ll.length c) := by rw [World.cell?_alloc_mark]; rfl
  have hne : w.heap.size ≠ g := by omega
  have hwl : w.heap.size < (w.alloc (.cells #[.int .i64 kind, .int .u64 (u : Int), .int .i64 n, .string s, .slice a ll.length c] 29)).heap.size := by simp
  go_enter Try.func16, Try.ntmps16
  go_wp2_with fail
  generalize hw0 : w.alloc (.cells #[.int .i64 kind, .int .u64 (u : Int), .int .i64 n, .string s, .slice a ll.length c] 29) = w0 at *
  go_region_held3 (fun w' => w'.cell? ⟨w.heap.size, 4, none⟩ = some (.slice a ll.length c))
    (first | go_keep | exact c1 | exact c2 | exact c3)
    (first
      | (go_at_call 24; refine (ints_back _ hl hf hlen (RdO.heap h0 (by rfl))).mono ?_; rintro e w1 ⟨v1, rfl, ho1, hr1, hg1⟩; have c2 := kept_cell hg1 c1 hne; have hrow1 := hrow0.keep hg1.size (fun k _ hk hs => hg1.block k hs (by intro e; injection e with e; omega)))
      | (go_at_call 39; refine (lawSame _ _ ll ll _ (ho1.row.heap (by rfl)) (hrow1.heap (by rfl))).mono ?_; rintro e w2 ⟨rfl, hb2⟩; have c3 := (hb2.cell (p := ⟨w.heap.size, 4, none⟩) (Nat.lt_of_lt_of_le hwl hg1.size)).trans c2))
  go_wp2_with fail
  go_ret
  exact ⟨by simp, hr1.past (r := none) (grownBy_below hb2) (fun k e => by cases e), (grownBy_box hw0 hg1).trans (grownBy_below (hb2.mono (by have := hg1.size; exact Nat.le_refl _)))⟩
/-- BACK, whatever the kind -/
theorem lawBack {lo g C : Nat} (x : Val) (r : List UInt8) (w : World) (hx : x.Ok w) (hrow : RowIn (Value.int .i64) 0 C w x.lv x.ll) (hC : C ≤ g) (hroom : x.room ≤ 100000000000) (hlen : (x.bytes ++ r).length ≤ 999999999999) (h : RdO lo g w (x.bytes ++ r, 0)) :
    Calls Try.prog 16 #[ptr g, .agg x.cells] w (BackRes lo g w r) := by
  obtain ⟨kind, u, n, s, lv, ll⟩ := x
  obtain ⟨hu, hn0, hn1, -, hfit⟩ := hx
  unfold Val.room at hroom
  simp only at hroom hu hn0 hn1 hfit hrow
  have hk : kind = 0 ∨ kind = 1 ∨ kind = 2 ∨ kind = 3 ∨ (((kind : Int) == 0) = false ∧ ((kind : Int) == 1) = false ∧ ((kind : Int) == 2) = false ∧ ((kind : Int) == 3) = false) := by
    simp only [beq_eq_false_iff_ne]; omega
  unfold Val.cells
  simp only
  rcases hk with rfl | rfl | rfl | rfl | ⟨k0, k1, k2, k3⟩
  · rw [show Val.bytes ⟨0, u, n, s, lv, ll⟩ = uvarint u by simp [Val.bytes]] at h
    exact back0 r w hu h
  · rw [show Val.bytes ⟨1, u, n, s, lv, ll⟩ = uvarint (zigzag n) by simp [Val.bytes]] at h
    exact back1 r w hn0 hn1 h
  · rw [show Val.bytes ⟨2, u, n, s, lv, ll⟩ = uvarint (if decide (0 < n) then 1 else 0) by simp [Val.bytes]] at h
    exact back2 r w h
  · rw [show Val.bytes ⟨3, u, n, s, lv, ll⟩ = Oct.textE s.data.toList by simp [Val.bytes]] at h
    exact back3 r w (by omega) h
  · rw [show Val.bytes ⟨kind, u, n, s, lv, ll⟩ = Oct.listE ll by
      simp only [beq_eq_false_iff_ne] at k0 k1 k2 k3
      simp [Val.bytes, k0, k1, k2, k3]] at h hlen
    exact back4 r w k0 k1 k2 k3 (by omega) hfit hlen hrow hC h
end Go.Proofs.Ytafdkfojimnbnaa
