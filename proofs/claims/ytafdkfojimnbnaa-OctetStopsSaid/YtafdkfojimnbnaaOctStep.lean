/-
  LAYER 4's LAWS: a value is read by both readers. By an AI agent.
-/
import Derived.Test.YtafdkfojimnbnaaOctBackB
namespace Go.Proofs.Ytafdkfojimnbnaa
open Go.RowKit
open Go.Lib (uvarint uvarint_small uvarint_big zigzag unzigzag)

theorem RdR.heap {lo g : Nat} {w w' : World} {s : Oct.St} (h : RdR lo g w s) (e : w'.heap = w.heap) (hlo : lo ≤ g) : RdR lo g w' s :=
  h.keep (by rw [e]; exact Nat.le_refl _) (fun k _ _ => by rw [e]) hlo
/-- where the readers stand behind a value's reading -/
def Val.step (x : Val) (s : Oct.St) : Oct.St :=
  if x.kind = 0 then (Oct.uintS x.u s).2 else if x.kind = 1 then (Oct.intS s).2 else if x.kind = 2 then (Oct.boolS s).2 else if x.kind = 3 then (Oct.textS x.n s).2 else (Oct.intsS x.n s).2
theorem Val.step_fine {x : Val} {s : Oct.St} (h : Oct.Fine s) : Oct.Fine (x.step s) := by
  unfold step
  split
  · exact Oct.uintS_fine h
  · split
    · exact Oct.intS_fine h
    · split
      · exact Oct.uintS_fine h
      · split
        · exact Oct.textS_fine h
        · exact Oct.intsS_fine h
theorem Val.step_len (x : Val) (s : Oct.St) : (x.step s).1.length ≤ s.1.length := by
  unfold step
  split
  · exact Oct.uintS_len _ _
  · split
    · exact Oct.num_len s
    · split
      · exact Oct.uintS_len _ _
      · split
        · exact Oct.textS_len _ _
        · exact Oct.intsS_len _ _
/-- both readers stand at s2; nothing below the first has changed -/
def ReadRes (lo g lo2 g2 : Nat) (w : World) (s2 : Oct.St) : Ending → World → Prop := fun e w' => e = .returned (.bool true) ∧ RdO lo g w' s2 ∧ RdR lo2 g2 w' s2 ∧ Below g w w'
set_option maxHeartbeats 2000000 in
set_option maxRecDepth 100000 in
theorem read0 {lo g lo2 g2 u : Nat} {n : Int} {s0 : ByteArray} {lv : Value} {s : Oct.St} (w : World) (hf : Oct.Fine s) (h : RdO lo g w s) (hq : RdR lo2 g2 w s) (hg12 : g < lo2) (hlo2 : lo2 ≤ g2) :
    Calls Try.prog 15 #[ptr g, ptr g2, .agg #[.int .i64 0, .int .u64 (u : Int), .int .i64 n, .string s0, lv]] w (ReadRes lo g lo2 g2 w (Oct.uintS u s).2) := by
  have hgl := h.lt
  have hgl2 := hq.lt
  have hfine := Oct.uintS_fine (most := u) hf
  have h0 := h.past (r := none) (World.grownBy_alloc w (.cells #[.int .i64 0, .int .u64 (u : Int), .int .i64 n, .string s0, lv] 29) none) (fun k e => by cases e)
  have q0 := hq.past (r := none) (World.grownBy_alloc w (.cells #[.int .i64 0, .int .u64 (u : Int), .int .i64 n, .string s0, lv] 29) none) hlo2 (fun k e => by cases e)
  have c1 : (w.alloc (.cells #[.int .i64 0, .int .u64 (u : Int), .int .i64 n, .string s0, lv] 29)).cell? ⟨w.heap.size, 1, none⟩ = some (.int .u64 (u : Int)) := by rw [World.cell?_alloc_mark]; rfl
  have hne : w.heap.size ≠ g := by omega
  have hne2 : w.heap.size ≠ g2 := by omega
  have hb0 := below_alloc1 w (.cells #[.int .i64 0, .int .u64 (u : Int), .int .i64 n, .string s0, lv] 29)
  have hwl : w.heap.size < (w.alloc (.cells #[.int .i64 0, .int .u64 (u : Int), .int .i64 n, .string s0, lv] 29)).heap.size := by simp
  go_enter Try.func15, Try.ntmps15
  go_wp2_with fail
  generalize hw0 : w.alloc (.cells #[.int .i64 0, .int .u64 (u : Int), .int .i64 n, .string s0, lv] 29) = w0 at *
  go_region_held3 (fun w' => w'.cell? ⟨w.heap.size, 1, none⟩ = some (.int .u64 (u : Int)))
    (first | go_keep | exact c1 | exact c2 | exact c3)
    (first
      | (go_at_call 19; refine (octUint u _ (RdO.heap h0 (by rfl))).mono ?_; rintro e w1 ⟨rfl, hr1, hg1⟩; have hq1 := (q0.heap (w' := w0.drew) rfl hlo2).past (w' := w1) hg1 hlo2 (fun k e => by injection e with e; omega); have c2 := kept_cell hg1 c1 hne)
      | (go_at_call 35; refine (refUint u _ (RdR.heap hq1 (by rfl) hlo2)).mono ?_; rintro e w2 ⟨rfl, hq2, hg2⟩; have hr2 := hr1.past hg2 (fun k e => by injection e with e; omega); have c3 := kept_cell hg2 c2 hne2))
  go_wp2_with fail
  refine (octLeft w2 hr2).mono ?_
  rintro e w9 ⟨rfl, rfl⟩
  go_wp2_with fail
  refine (refLeft w2 hq2 hfine).mono ?_
  rintro e w9 ⟨rfl, rfl⟩
  go_wp2_with fail
  refine (octErr w2 hr2).mono ?_
  rintro e w9 ⟨rfl, rfl⟩
  go_wp2_with fail
  refine (refErr w2 hq2).mono ?_
  rintro e w9 ⟨rfl, rfl⟩
  go_wp2_with fail
  go_ret
  have b0 : Below g w w0 := hb0.mono (by omega)
  have b1 : Below g w w1 := b0.trans (below_grownBy (B := g) (w := w0) ⟨hg1.os, hg1.tape, hg1.output, hg1.size, hg1.block⟩ (fun k e => by injection e with e; omega) (by omega))
  have b2 : Below g w w2 := b1.grown hg2 (by have := hr1.lt; omega) (fun k e => by injection e with e; omega)
  exact ⟨by simp, hr2, hq2, b2⟩
set_option maxHeartbeats 2000000 in
set_option maxRecDepth 100000 in
theorem read1 {lo g lo2 g2 u : Nat} {n : Int} {s0 : ByteArray} {lv : Value} {s : Oct.St} (w : World) (hf : Oct.Fine s) (h : RdO lo g w s) (hq : RdR lo2 g2 w s) (hg12 : g < lo2) (hlo2 : lo2 ≤ g2) :
    Calls Try.prog 15 #[ptr g, ptr g2, .agg #[.int .i64 1, .int .u64 (u : Int), .int .i64 n, .string s0, lv]] w (ReadRes lo g lo2 g2 w (Oct.intS s).2) := by
  have hgl := h.lt
  have hgl2 := hq.lt
  have hfine := Oct.intS_fine hf
  have h0 := h.past (r := none) (World.grownBy_alloc w (.cells #[.int .i64 1, .int .u64 (u : Int), .int .i64 n, .string s0, lv] 29) none) (fun k e => by cases e)
  have q0 := hq.past (r := none) (World.grownBy_alloc w (.cells #[.int .i64 1, .int .u64 (u : Int), .int .i64 n, .string s0, lv] 29) none) hlo2 (fun k e => by cases e)
  have hne : w.heap.size ≠ g := by omega
  have hne2 : w.heap.size ≠ g2 := by omega
  have hb0 := below_alloc1 w (.cells #[.int .i64 1, .int .u64 (u : Int), .int .i64 n, .string s0, lv] 29)
  have hwl : w.heap.size < (w.alloc (.cells #[.int .i64 1, .int .u64 (u : Int), .int .i64 n, .string s0, lv] 29)).heap.size := by simp
  go_enter Try.func15, Try.ntmps15
  go_wp2_with fail
  generalize hw0 : w.alloc (.cells #[.int .i64 1, .int .u64 (u : Int), .int .i64 n, .string s0, lv] 29) = w0 at *
  refine (octInt _ h0).mono ?_
  rintro e w1 ⟨rfl, hr1, hg1⟩
  have hq1 := q0.past (w' := w1) hg1 hlo2 (fun k e => by injection e with e; omega)
  go_wp2_with fail
  refine (refInt _ hq1).mono ?_
  rintro e w2 ⟨rfl, hq2, hg2⟩
  have hr2 := hr1.past hg2 (fun k e => by injection e with e; omega)
  go_wp2_with fail
  refine (octLeft w2 hr2).mono ?_
  rintro e w9 ⟨rfl, rfl⟩
  go_wp2_with fail
  refine (refLeft w2 hq2 hfine).mono ?_
  rintro e w9 ⟨rfl, rfl⟩
  go_wp2_with fail
  refine (octErr w2 hr2).mono ?_
  rintro e w9 ⟨rfl, rfl⟩
  go_wp2_with fail
  refine (refErr w2 hq2).mono ?_
  rintro e w9 ⟨rfl, rfl⟩
  go_wp2_with fail
  go_ret
  have b0 : Below g w w0 := hb0.mono (by omega)
  have b1 : Below g w w1 := b0.trans (below_grownBy (B := g) (w := w0) ⟨hg1.os, hg1.tape, hg1.output, hg1.size, hg1.block⟩ (fun k e => by injection e with e; omega) (by omega))
  have b2 : Below g w w2 := b1.grown hg2 (by have := hr1.lt; omega) (fun k e => by injection e with e; omega)
  exact ⟨by simp, hr2, hq2, b2⟩
set_option maxHeartbeats 2000000 in
set_option maxRecDepth 100000 in
theorem read2 {lo g lo2 g2 u : Nat} {n : Int} {s0 : ByteArray} {lv : Value} {s : Oct.St} (w : World) (hf : Oct.Fine s) (h : RdO lo g w s) (hq : RdR lo2 g2 w s) (hg12 : g < lo2) (hlo2 : lo2 ≤ g2) :
    Calls Try.prog 15 #[ptr g, ptr g2, .agg #[.int .i64 2, .int .u64 (u : Int), .int .i64 n, .string s0, lv]] w (ReadRes lo g lo2 g2 w (Oct.boolS s).2) := by
  have hgl := h.lt
  have hgl2 := hq.lt
  have hfine := Oct.uintS_fine (most := 1) hf
  have h0 := h.past (r := none) (World.grownBy_alloc w (.cells #[.int .i64 2, .int .u64 (u : Int), .int .i64 n, .string s0, lv] 29) none) (fun k e => by cases e)
  have q0 := hq.past (r := none) (World.grownBy_alloc w (.cells #[.int .i64 2, .int .u64 (u : Int), .int .i64 n, .string s0, lv] 29) none) hlo2 (fun k e => by cases e)
  have hne : w.heap.size ≠ g := by omega
  have hne2 : w.heap.size ≠ g2 := by omega
  have hb0 := below_alloc1 w (.cells #[.int .i64 2, .int .u64 (u : Int), .int .i64 n, .string s0, lv] 29)
  have hwl : w.heap.size < (w.alloc (.cells #[.int .i64 2, .int .u64 (u : Int), .int .i64 n, .string s0, lv] 29)).heap.size := by simp
  go_enter Try.func15, Try.ntmps15
  go_wp2_with fail
  generalize hw0 : w.alloc (.cells #[.int .i64 2, .int .u64 (u : Int), .int .i64 n, .string s0, lv] 29) = w0 at *
  refine (octBool _ h0).mono ?_
  rintro e w1 ⟨rfl, hr1, hg1⟩
  have hq1 := q0.past (w' := w1) hg1 hlo2 (fun k e => by injection e with e; omega)
  go_wp2_with fail
  refine (refBool _ hq1).mono ?_
  rintro e w2 ⟨rfl, hq2, hg2⟩
  have hr2 := hr1.past hg2 (fun k e => by injection e with e; omega)
  go_wp2_with fail
  refine (octLeft w2 hr2).mono ?_
  rintro e w9 ⟨rfl, rfl⟩
  go_wp2_with fail
  refine (refLeft w2 hq2 hfine).mono ?_
  rintro e w9 ⟨rfl, rfl⟩
  go_wp2_with fail
  refine (octErr w2 hr2).mono ?_
  rintro e w9 ⟨rfl, rfl⟩
  go_wp2_with fail
  refine (refErr w2 hq2).mono ?_
  rintro e w9 ⟨rfl, rfl⟩
  go_wp2_with fail
  go_ret
  have b0 : Below g w w0 := hb0.mono (by omega)
  have b1 : Below g w w1 := b0.trans (below_grownBy (B := g) (w := w0) ⟨hg1.os, hg1.tape, hg1.output, hg1.size, hg1.block⟩ (fun k e => by injection e with e; omega) (by omega))
  have b2 : Below g w w2 := b1.grown hg2 (by have := hr1.lt; omega) (fun k e => by injection e with e; omega)
  exact ⟨by simp, hr2, hq2, b2⟩
set_option maxHeartbeats 2000000 in
set_option maxRecDepth 100000 in
theorem read3 {lo g lo2 g2 u : Nat} {n : Int} {s0 : ByteArray} {lv : Value} {s : Oct.St} (w : World) (hn0 : -9223372036854775808 ≤ n) (hn1 : n ≤ 9223372036854775807) (hf : Oct.Fine s) (h : RdO lo g w s) (hq : RdR lo2 g2 w s) (hg12 : g < lo2) (hlo2 : lo2 ≤ g2) :
    Calls Try.prog 15 #[ptr g, ptr g2, .agg #[.int .i64 3, .int .u64 (u : Int), .int .i64 n, .string s0, lv]] w (ReadRes lo g lo2 g2 w (Oct.textS n s).2) := by
  have hgl := h.lt
  have hgl2 := hq.lt
  have hfine := Oct.textS_fine (most := n) hf
  have h0 := h.past (r := none) (World.grownBy_alloc w (.cells #[.int .i64 3, .int .u64 (u : Int), .int .i64 n, .string s0, lv] 29) none) (fun k e => by cases e)
  have q0 := hq.past (r := none) (World.grownBy_alloc w (.cells #[.int .i64 3, .int .u64 (u : Int), .int .i64 n, .string s0, lv] 29) none) hlo2 (fun k e => by cases e)
  have c1 : (w.alloc (.cells #[.int .i64 3, .int .u64 (u : Int), .int .i64 n, .string s0, lv] 29)).cell? ⟨w.heap.size, 2, none⟩ = some (.int .i64 n) := by rw [World.cell?_alloc_mark]; rfl
  have hne : w.heap.size ≠ g := by omega
  have hne2 : w.heap.size ≠ g2 := by omega
  have hb0 := below_alloc1 w (.cells #[.int .i64 3, .int .u64 (u : Int), .int .i64 n, .string s0, lv] 29)
  have hwl : w.heap.size < (w.alloc (.cells #[.int .i64 3, .int .u64 (u : Int), .int .i64 n, .string s0, lv] 29)).heap.size := by simp
  go_enter Try.func15, Try.ntmps15
  go_wp2_with fail
  generalize hw0 : w.alloc (.cells #[.int .i64 3, .int .u64 (u : Int), .int .i64 n, .string s0, lv] 29) = w0 at *
  go_region_held3 (fun w' => w'.cell? ⟨w.heap.size, 2, none⟩ = some (.int .i64 n))
    (first | go_keep | exact c1 | exact c2 | exact c3)
    (first
      | (go_at_call 23; refine (octText n hn0 hn1 _ (RdO.heap h0 (by rfl))).mono ?_; rintro e w1 ⟨rfl, hr1, hg1⟩; have hq1 := (q0.heap (w' := w0.drew) rfl hlo2).past (w' := w1) hg1 hlo2 (fun k e => by injection e with e; omega); have c2 := kept_cell hg1 c1 hne)
      | (go_at_call 38; refine (refText n hn1 _ (RdR.heap hq1 (by rfl) hlo2) hf).mono ?_; rintro e w2 ⟨rfl, hq2, hg2⟩; have hr2 := hr1.past hg2 (fun k e => by injection e with e; omega); have c3 := kept_cell hg2 c2 hne2))
  go_wp2_with fail
  refine (octLeft w2 hr2).mono ?_
  rintro e w9 ⟨rfl, rfl⟩
  go_wp2_with fail
  refine (refLeft w2 hq2 hfine).mono ?_
  rintro e w9 ⟨rfl, rfl⟩
  go_wp2_with fail
  refine (octErr w2 hr2).mono ?_
  rintro e w9 ⟨rfl, rfl⟩
  go_wp2_with fail
  refine (refErr w2 hq2).mono ?_
  rintro e w9 ⟨rfl, rfl⟩
  go_wp2_with fail
  go_ret
  have b0 : Below g w w0 := hb0.mono (by omega)
  have b1 : Below g w w1 := b0.trans (below_grownBy (B := g) (w := w0) ⟨hg1.os, hg1.tape, hg1.output, hg1.size, hg1.block⟩ (fun k e => by injection e with e; omega) (by omega))
  have b2 : Below g w w2 := b1.grown hg2 (by have := hr1.lt; omega) (fun k e => by injection e with e; omega)
  exact ⟨by simp, hr2, hq2, b2⟩
set_option maxHeartbeats 2000000 in
set_option maxRecDepth 100000 in
theorem read4 {lo g lo2 g2 u : Nat} {n : Int} {kind : Int} {s0 : ByteArray} {lv : Value} {s : Oct.St} (w : World) (k0 : ((kind : Int) == 0) = false) (k1 : ((kind : Int) == 1) = false) (k2 : ((kind : Int) == 2) = false) (k3 : ((kind : Int) == 3) = false) (hn0 : -9223372036854775808 ≤ n) (hn1 : n ≤ 9223372036854775807) (hlen : s.1.length ≤ 999999999999) (hf : Oct.Fine s) (h : RdO lo g w s) (hq : RdR lo2 g2 w s) (hg12 : g < lo2) (hlo2 : lo2 ≤ g2) :
    Calls Try.prog 15 #[ptr g, ptr g2, .agg #[.int .i64 kind, .int .u64 (u : Int), .int .i64 n, .string s0, lv]] w (ReadRes lo g lo2 g2 w (Oct.intsS n s).2) := by
  have hgl := h.lt
  have hgl2 := hq.lt
  have hfine := Oct.intsS_fine (most := n) hf
  have h0 := h.past (r := none) (World.grownBy_alloc w (.cells #[.int .i64 kind, .int .u64 (u : Int), .int .i64 n, .string s0, lv] 29) none) (fun k e => by cases e)
  have q0 := hq.past (r := none) (World.grownBy_alloc w (.cells #[.int .i64 kind, .int .u64 (u : Int), .int .i64 n, .string s0, lv] 29) none) hlo2 (fun k e => by cases e)
  have c1 : (w.alloc (.cells #[.int .i64 kind, .int .u64 (u : Int), .int .i64 n, .string s0, lv] 29)).cell? ⟨w.heap.size, 2, none⟩ = some (.int .i64 n) := by rw [World.cell?_alloc_mark]; rfl
  have hne : w.heap.size ≠ g := by omega
  have hne2 : w.heap.size ≠ g2 := by omega
  have hb0 := below_alloc1 w (.cells #[.int .i64 kind, .int .u64 (u : Int), .int .i64 n, .string s0, lv] 29)
  have hwl : w.heap.size < (w.alloc (.cells #[.int .i64 kind, .int .u64 (u : Int), .int .i64 n, .string s0, lv] 29)).heap.size := by simp
  go_enter Try.func15, Try.ntmps15
  go_wp2_with fail
  generalize hw0 : w.alloc (.cells #[.int .i64 kind, .int .u64 (u : Int), .int .i64 n, .string s0, lv] 29) = w0 at *
  go_region_held3 (fun w' => w'.cell? ⟨w.heap.size, 2, none⟩ = some (.int .i64 n))
    (first | go_keep | exact c1 | exact c2 | exact c3 | exact c4)
    (first
      | (go_at_call 24; refine (octInts n hn0 hn1 _ (RdO.heap h0 (by rfl)) hlen).mono ?_; rintro e w1 ⟨v1, rfl, ho1, hr1, hg1⟩; have hq1 := (q0.heap (w' := w0.drew) rfl hlo2).past (w' := w1) hg1 hlo2 (fun k e => by injection e with e; omega); have c2 := kept_cell hg1 c1 hne)
      | (go_at_call 40; refine (refInts n hn1 _ (RdR.heap hq1 (by rfl) hlo2) hlen hlo2).mono ?_; rintro e w2 ⟨v2, rfl, ho2, hq2, hg2⟩; have hr2 := hr1.past hg2 (fun k e => by injection e with e; omega); have c3 := kept_cell hg2 c2 hne2)
      | (go_at_call 39; refine (lawSame _ _ (Oct.intsS n s).1 (Oct.intsS n s).1 _ ((ho1.grown hg2 (fun k e => by injection e with e; have h9 := hg1.size; have : w0.drew.heap.size = w0.heap.size := rfl; omega)).row.heap (by rfl)) (ho2.row.heap (by rfl))).mono ?_; rintro e w3 ⟨rfl, hb3⟩; have hr3 := hr2.past (r := none) (grownBy_below hb3) (fun k e => by cases e); have hq3 := hq2.past (r := none) (grownBy_below hb3) hlo2 (fun k e => by cases e); have c4 := (hb3.cell (p := ⟨w.heap.size, 2, none⟩) (Nat.lt_of_lt_of_le (Nat.lt_of_lt_of_le hwl hg1.size) hg2.size)).trans c3))
  go_wp2_with fail
  refine (octLeft w3 hr3).mono ?_
  rintro e w9 ⟨rfl, rfl⟩
  go_wp2_with fail
  refine (refLeft w3 hq3 hfine).mono ?_
  rintro e w9 ⟨rfl, rfl⟩
  go_wp2_with fail
  refine (octErr w3 hr3).mono ?_
  rintro e w9 ⟨rfl, rfl⟩
  go_wp2_with fail
  refine (refErr w3 hq3).mono ?_
  rintro e w9 ⟨rfl, rfl⟩
  go_wp2_with fail
  go_ret
  have b0 : Below g w w0 := hb0.mono (by omega)
  have b1 : Below g w w1 := b0.trans (below_grownBy (B := g) (w := w0) ⟨hg1.os, hg1.tape, hg1.output, hg1.size, hg1.block⟩ (fun k e => by injection e with e; omega) (by omega))
  have b2 : Below g w w2 := b1.grown hg2 (by have := hr1.lt; omega) (fun k e => by injection e with e; omega)
  exact ⟨by simp, hr3, hq3, b2.trans (hb3.mono (by have := hr2.lt; omega))⟩
/-- READ, whatever the kind -/
theorem lawRead {lo g lo2 g2 : Nat} (x : Val) {s : Oct.St} (w : World) (hn0 : -9223372036854775808 ≤ x.n) (hn1 : x.n ≤ 9223372036854775807) (hlen : s.1.length ≤ 999999999999) (hf : Oct.Fine s) (h : RdO lo g w s) (hq : RdR lo2 g2 w s) (hg12 : g < lo2) (hlo2 : lo2 ≤ g2) :
    Calls Try.prog 15 #[ptr g, ptr g2, .agg x.cells] w (ReadRes lo g lo2 g2 w (x.step s)) := by
  obtain ⟨kind, u, n, s0, lv, ll⟩ := x
  simp only at hn0 hn1
  have hk : kind = 0 ∨ kind = 1 ∨ kind = 2 ∨ kind = 3 ∨ (((kind : Int) == 0) = false ∧ ((kind : Int) == 1) = false ∧ ((kind : Int) == 2) = false ∧ ((kind : Int) == 3) = false) := by
    simp only [beq_eq_false_iff_ne]; omega
  unfold Val.cells
  simp only
  rcases hk with rfl | rfl | rfl | rfl | ⟨k0, k1, k2, k3⟩
  · exact read0 w hf h hq hg12 hlo2
  · exact read1 w hf h hq hg12 hlo2
  · exact read2 w hf h hq hg12 hlo2
  · exact read3 w hn0 hn1 hf h hq hg12 hlo2
  · have e : Val.step ⟨kind, u, n, s0, lv, ll⟩ s = (Oct.intsS n s).2 := by
      simp only [beq_eq_false_iff_ne] at k0 k1 k2 k3
      simp [Val.step, k0, k1, k2, k3]
    rw [e]
    exact read4 w k0 k1 k2 k3 hn0 hn1 hlen hf h hq hg12 hlo2
end Go.Proofs.Ytafdkfojimnbnaa
