/-
  LAYER 4's LAWS: a value that was written is read back. By an AI agent.
-/
import Derived.Test.YtafdkfojimnbnaaOctAlive
import Derived.Deep.RegionHeld3
namespace Go.Proofs.Ytafdkfojimnbnaa
open Go.RowKit
open Go.Lib (uvarint uvarint_small uvarint_big zigzag unzigzag)

theorem kept_cell {w w' : World} {g b i : Nat} {v : Value} (hg : w.grownBy w' (some g)) (h : w.cell? ⟨b, i, none⟩ = some v) (hne : b ≠ g) : w'.cell? ⟨b, i, none⟩ = some v :=
  hg.cell h (by simpa using hne)
theorem RdO.heap {lo g : Nat} {w w' : World} {s : Oct.St} (h : RdO lo g w s) (e : w'.heap = w.heap) : RdO lo g w' s :=
  h.keep (by rw [e]; exact Nat.le_refl _) fun k _ => by rw [e]
theorem RowIn.heap {α : Type} {enc : α → Value} {lo hi : Nat} {w w' : World} {v : Value} {l : List α} (h : RowIn enc lo hi w v l) (e : w'.heap = w.heap) : RowIn enc 0 w'.heap.size w' v l :=
  (h.keep (by rw [e]; exact Nat.le_refl _) fun k _ _ _ => by rw [e]).all
theorem grownBy_box {w w0 w1 : World} {o : Obj} {r : Option Nat} (hw : w.alloc o = w0) (hg : w0.drew.grownBy w1 r) : w.grownBy w1 r := by
  subst hw
  exact grownBy_behind (o := o) ⟨hg.os, hg.tape, hg.output, hg.size, hg.block⟩
/-- a value was read back: the reader stands behind it -/
def BackRes (lo g : Nat) (w : World) (r : List UInt8) : Ending → World → Prop := fun e w' => e = .returned (.bool true) ∧ RdO lo g w' (r, 0) ∧ w.grownBy w' (some g)
theorem uint_back {lo g u : Nat} {r : List UInt8} (w : World) (hu : u < 18446744073709551616) (h : RdO lo g w (uvarint u ++ r, 0)) :
    Calls Try.prog 19 #[ptr g, .int .u64 (u : Int)] w (Leaves lo g w (.int .u64 (u : Int)) (r, 0)) := by
  have := octUint u w h
  rw [Oct.uintS_uvarint hu (Nat.le_refl _) r] at this
  exact this
theorem int_back {lo g : Nat} {n : Int} {r : List UInt8} (w : World) (h0 : -9223372036854775808 ≤ n) (h1 : n ≤ 9223372036854775807) (h : RdO lo g w (uvarint (zigzag n) ++ r, 0)) :
    Calls Try.prog 20 #[ptr g] w (Leaves lo g w (.int .i64 n) (r, 0)) := by
  have := octInt w h
  rw [Oct.intS_zigzag h0 h1 r] at this
  exact this
theorem bool_back {lo g : Nat} {t : Bool} {r : List UInt8} (w : World) (h : RdO lo g w (uvarint (if t then 1 else 0) ++ r, 0)) :
    Calls Try.prog 22 #[ptr g] w (Leaves lo g w (.bool t) (r, 0)) := by
  have := octBool w h
  have e : Oct.boolS (uvarint (if t then 1 else 0) ++ r, 0) = (t, (r, 0)) := by
    unfold Oct.boolS
    rw [Oct.uintS_uvarint (by split <;> omega) (by split <;> omega) r]
    cases t <;> rfl
  rw [e] at this
  exact this
theorem text_back {lo g : Nat} {s : ByteArray} {r : List UInt8} (w : World) (hs : s.size ≤ 1000000000000) (h : RdO lo g w (Oct.textE s.data.toList ++ r, 0)) :
    Calls Try.prog 23 #[ptr g, .int .i64 (s.size : Int)] w (Leaves lo g w (.string s) (r, 0)) := by
  have := octText (s.size : Int) (by omega) (by omega) w h
  have e := Oct.textS_textE (s := s.data.toList) (by rw [str_len]; omega) r
  rw [str_len] at e
  rw [e] at this
  exact this
theorem ints_back {lo g : Nat} {l : List Int} {r : List UInt8} (w : World) (hl : l.length ≤ 100000000000) (hf : Oct.Fits l) (hr : (Oct.listE l ++ r).length ≤ 999999999999) (h : RdO lo g w (Oct.listE l ++ r, 0)) :
    Calls Try.prog 24 #[ptr g, .int .i64 (l.length : Int)] w (LeavesInts lo g w l (r, 0)) := by
  have := octInts (l.length : Int) (by omega) (by omega) w h hr
  rw [Oct.intsS_listE (by omega) hf r] at this
  exact this
set_option maxHeartbeats 1000000 in
set_option maxRecDepth 100000 in
theorem back0 {lo g u : Nat} {n : Int} {s : ByteArray} {lv : Value} (r : List UInt8) (w : World) (hu : u < 18446744073709551616) (h : RdO lo g w (uvarint u ++ r, 0)) :
    Calls Try.prog 16 #[ptr g, .agg #[.int .i64 0, .int .u64 (u : Int), .int .i64 n, .string s, lv]] w (BackRes lo g w r) := by
  have hgl := h.lt
  have h0 := h.past (r := none) (World.grownBy_alloc w (.cells #[.int .i64 0, .int .u64 (u : Int), .int .i64 n, .string s, lv] 29) none) (fun k e => by cases e)
  have c1 : (w.alloc (.cells #[.int .i64 0, .int .u64 (u : Int), .int .i64 n, .string s, lv] 29)).cell? ⟨w.heap.size, 1, none⟩ = some (.int .u64 (u : Int)) := by rw [World.cell?_alloc_mark]; rfl
  have hne : w.heap.size ≠ g := by omega
  go_enter Try.func16, Try.ntmps16
  go_wp2_with fail
  generalize hw0 : w.alloc (.cells #[.int .i64 0, .int .u64 (u : Int), .int .i64 n, .string s, lv] 29) = w0 at *
  go_region_held3 (fun w' => w'.cell? ⟨w.heap.size, 1, none⟩ = some (.int .u64 (u : Int)))
    (first | go_keep | exact c1 | exact kept_cell hg1 c1 hne)
    (first | (go_at_call 19; refine (uint_back _ hu (RdO.heap h0 (by rfl))).mono ?_; rintro e w1 ⟨rfl, hr1, hg1⟩))
  go_wp2_with fail
  go_ret
  exact ⟨rfl, hr1, grownBy_box hw0 hg1⟩
set_option maxHeartbeats 1000000 in
set_option maxRecDepth 100000 in
theorem back1 {lo g u : Nat} {n : Int} {s : ByteArray} {lv : Value} (r : List UInt8) (w : World) (hn0 : -9223372036854775808 ≤ n) (hn1 : n ≤ 9223372036854775807) (h : RdO lo g w (uvarint (zigzag n) ++ r, 0)) :
    Calls Try.prog 16 #[ptr g, .agg #[.int .i64 1, .int .u64 (u : Int), .int .i64 n, .string s, lv]] w (BackRes lo g w r) := by
  have hgl := h.lt
  have h0 := h.past (r := none) (World.grownBy_alloc w (.cells #[.int .i64 1, .int .u64 (u : Int), .int .i64 n, .string s, lv] 29) none) (fun k e => by cases e)
  have c1 : (w.alloc (.cells #[.int .i64 1, .int .u64 (u : Int), .int .i64 n, .string s, lv] 29)).cell? ⟨w.heap.size, 2, none⟩ = some (.int .i64 n) := by rw [World.cell?_alloc_mark]; rfl
  have hne : w.heap.size ≠ g := by omega
  go_enter Try.func16, Try.ntmps16
  go_wp2_with fail
  generalize hw0 : w.alloc (.cells #[.int .i64 1, .int .u64 (u : Int), .int .i64 n, .string s, lv] 29) = w0 at *
  go_region_held3 (fun w' => w'.cell? ⟨w.heap.size, 2, none⟩ = some (.int .i64 n))
    (first | go_keep | exact c1 | exact kept_cell hg1 c1 hne)
    (first | (go_at_call 20; refine (int_back _ hn0 hn1 (RdO.heap h0 (by rfl))).mono ?_; rintro e w1 ⟨rfl, hr1, hg1⟩))
  go_wp2_with fail
  go_ret
  exact ⟨rfl, hr1, grownBy_box hw0 hg1⟩
set_option maxHeartbeats 1000000 in
set_option maxRecDepth 100000 in
theorem back2 {lo g u : Nat} {n : Int} {s : ByteArray} {lv : Value} (r : List UInt8) (w : World) (h : RdO lo g w (uvarint (if decide (0 < n) then 1 else 0) ++ r, 0)) :
    Calls Try.prog 16 #[ptr g, .agg #[.int .i64 2, .int .u64 (u : Int), .int .i64 n, .string s, lv]] w (BackRes lo g w r) := by
  have hgl := h.lt
  have h0 := h.past (r := none) (World.grownBy_alloc w (.cells #[.int .i64 2, .int .u64 (u : Int), .int .i64 n, .string s, lv] 29) none) (fun k e => by cases e)
  have c1 : (w.alloc (.cells #[.int .i64 2, .int .u64 (u : Int), .int .i64 n, .string s, lv] 29)).cell? ⟨w.heap.size, 2, none⟩ = some (.int .i64 n) := by rw [World.cell?_alloc_mark]; rfl
  have hne : w.heap.size ≠ g := by omega
  go_enter Try.func16, Try.ntmps16
  go_wp2_with fail
  generalize hw0 : w.alloc (.cells #[.int .i64 2, .int .u64 (u : Int), .int .i64 n, .string s, lv] 29) = w0 at *
  go_region_held3 (fun w' => w'.cell? ⟨w.heap.size, 2, none⟩ = some (.int .i64 n))
    (first | go_keep | exact c1 | exact kept_cell hg1 c1 hne)
    (first | (go_at_call 22; refine (bool_back _ (RdO.heap h0 (by rfl))).mono ?_; rintro e w1 ⟨rfl, hr1, hg1⟩))
  go_wp2_with fail
  go_ret
  exact ⟨by simp, hr1, grownBy_box hw0 hg1⟩
set_option maxHeartbeats 1000000 in
set_option maxRecDepth 100000 in
theorem back3 {lo g u : Nat} {n : Int} {s : ByteArray} {lv : Value} (r : List UInt8) (w : World) (hs : s.size ≤ 1000000000000) (h : RdO lo g w (Oct.textE s.data.toList ++ r, 0)) :
    Calls Try.prog 16 #[ptr g, .agg #[.int .i64 3, .int .u64 (u : Int), .int .i64 n, .string s, lv]] w (BackRes lo g w r) := by
  have hgl := h.lt
  have h0 := h.past (r := none) (World.grownBy_alloc w (.cells #[.int .i64 3, .int .u64 (u : Int), .int .i64 n, .string s, lv] 29) none) (fun k e => by cases e)
  have c1 : (w.alloc (.cells #[.int .i64 3, .int .u64 (u : Int), .int .i64 n, .string s, lv] 29)).cell? ⟨w.heap.size, 3, none⟩ = some (.string s) := by rw [World.cell?_alloc_mark]; rfl
  have hne : w.heap.size ≠ g := by omega
  go_enter Try.func16, Try.ntmps16
  go_wp2_with fail
  generalize hw0 : w.alloc (.cells #[.int .i64 3, .int .u64 (u : Int), .int .i64 n, .string s, lv] 29) = w0 at *
  go_region_held3 (fun w' => w'.cell? ⟨w.heap.size, 3, none⟩ = some (.string s))
    (first | go_keep | exact c1 | exact kept_cell hg1 c1 hne)
    (first | (go_at_call 23; refine (text_back _ hs (RdO.heap h0 (by rfl))).mono ?_; rintro e w1 ⟨rfl, hr1, hg1⟩))
  go_wp2_with fail
  go_ret
  exact ⟨by simp, hr1, grownBy_box hw0 hg1⟩
end Go.Proofs.Ytafdkfojimnbnaa
