/-
  CONTRACTS OF LAYER 8 (mana): texts of pools. By an AI agent.
-/
import Derived.Test.YtcllaenanihedaaDoorManaWalksD
import Derived.Test.YtcllaenanihedaaDoorManaTextRef
import Derived.Laws.CopyOwn
import Derived.StillTailTactics
namespace Go.Proofs.YtcllaenanihedaaDoor
open Go.RowKit

theorem sizeI : (Tryd.prog.info? 3).map (·.size) = some 1 := by kernel_rfl
theorem addAt (b o j : Nat) : (⟨b, o, none⟩ : Addr).add j = ⟨b, o + j, none⟩ := by unfold Addr.add; split <;> simp_all
theorem Blk.poolTail {w : World} {b : Nat} {p : Mana.Pl} {t : TypeId} (h : Blk w b #[.int .i64 p.p0, .int .i64 p.p1, .int .i64 p.p2, .int .i64 p.p3, .int .i64 p.p4, .int .i64 p.p5] t) : ∀ (j : Nat) v, [Value.int .i64 p.p1, .int .i64 p.p2, .int .i64 p.p3, .int .i64 p.p4, .int .i64 p.p5][j]? = some v → w.cell? ((⟨b, 1, none⟩ : Addr).add j) = some v := by
  intro j v hv
  rw [addAt, h.cell]
  match j with
  | 0 => exact hv
  | 1 => exact hv
  | 2 => exact hv
  | 3 => exact hv
  | 4 => exact hv
  | j + 5 => cases hv
theorem Blk.colors {w : World} {b : Nat} {c : Mana.Cst} {t : TypeId} (h : Blk w b #[.int .i64 c.g, .int .i64 c.x, .int .i64 c.c0, .int .i64 c.c1, .int .i64 c.c2, .int .i64 c.c3, .int .i64 c.c4] t) : ∀ (j : Nat) v, [Value.int .i64 c.c0, .int .i64 c.c1, .int .i64 c.c2, .int .i64 c.c3, .int .i64 c.c4][j]? = some v → w.cell? ((⟨b, 2, none⟩ : Addr).add j) = some v := by
  intro j v hv
  rw [addAt, h.cell]
  match j with
  | 0 => exact hv
  | 1 => exact hv
  | 2 => exact hv
  | 3 => exact hv
  | 4 => exact hv
  | j + 5 => cases hv
theorem oneFive (x0 x1 x2 x3 x4 : Int) : ∀ v ∈ [Value.int .i64 x0, .int .i64 x1, .int .i64 x2, .int .i64 x3, .int .i64 x4], v.oneCell' = true := by
  intro v hv
  simp only [List.mem_cons, List.not_mem_nil, or_false] at hv
  rcases hv with rfl | rfl | rfl | rfl | rfl <;> rfl
set_option maxHeartbeats 1000000 in
set_option maxRecDepth 100000 in
theorem manaPoolText (p : Mana.Pl) (w : World) (hE : Env w) :
    Calls Tryd.prog 22 #[.agg #[.int .i64 p.p0, .int .i64 p.p1, .int .i64 p.p2, .int .i64 p.p3, .int .i64 p.p4, .int .i64 p.p5]] w fun e w' => e = .returned (.string ⟨(Mana.textL (Mana.poolC p)).toArray⟩) ∧ Below w.heap.size w w' := by
  have HE := Lib.hid hE
  clear hE
  go_enter Tryd.func22, Tryd.ntmps22
  go_wp2_with fail
  refine wp_region_still_tail 3 (by kernel_rfl) (by kernel_rfl) ?_
  simp only [List.take_succ_cons, List.take_zero, List.drop_succ_cons, List.drop_zero]
  still_step
  still_step
  still_step
  refine wpStill_nil ?_
  have b0 : Blk (((w.alloc (.cells #[.int .i64 p.p0, .int .i64 p.p1, .int .i64 p.p2, .int .i64 p.p3, .int .i64 p.p4, .int .i64 p.p5] 35)).alloc (.cells #[.int .i64 p.p0, .int .i64 0, .int .i64 0, .int .i64 0, .int .i64 0, .int .i64 0, .int .i64 0] 24)).drew) w.heap.size #[.int .i64 p.p0, .int .i64 p.p1, .int .i64 p.p2, .int .i64 p.p3, .int .i64 p.p4, .int .i64 p.p5] 35 := ((Blk.new w _ _).alloc _).drew
  have b1 : Blk (((w.alloc (.cells #[.int .i64 p.p0, .int .i64 p.p1, .int .i64 p.p2, .int .i64 p.p3, .int .i64 p.p4, .int .i64 p.p5] 35)).alloc (.cells #[.int .i64 p.p0, .int .i64 0, .int .i64 0, .int .i64 0, .int .i64 0, .int .i64 0, .int .i64 0] 24)).drew) (w.heap.size + 1) #[.int .i64 p.p0, .int .i64 0, .int .i64 0, .int .i64 0, .int .i64 0, .int .i64 0, .int .i64 0] 24 := by
    have n1 := Blk.new (w.alloc (.cells #[.int .i64 p.p0, .int .i64 p.p1, .int .i64 p.p2, .int .i64 p.p3, .int .i64 p.p4, .int .i64 p.p5] 35)) #[.int .i64 p.p0, .int .i64 0, .int .i64 0, .int .i64 0, .int .i64 0, .int .i64 0, .int .i64 0] 24
    simp only [World.size_alloc] at n1
    exact n1.drew
  have hb : Below w.heap.size w (((w.alloc (.cells #[.int .i64 p.p0, .int .i64 p.p1, .int .i64 p.p2, .int .i64 p.p3, .int .i64 p.p4, .int .i64 p.p5] 35)).alloc (.cells #[.int .i64 p.p0, .int .i64 0, .int .i64 0, .int .i64 0, .int .i64 0, .int .i64 0, .int .i64 0] 24)).drew) := by go_grown
  change wpList _ _ _ _ _ (((w.alloc (.cells #[.int .i64 p.p0, .int .i64 p.p1, .int .i64 p.p2, .int .i64 p.p3, .int .i64 p.p4, .int .i64 p.p5] 35)).alloc (.cells #[.int .i64 p.p0, .int .i64 0, .int .i64 0, .int .i64 0, .int .i64 0, .int .i64 0, .int .i64 0] 24)).drew)
  generalize ((w.alloc (.cells #[.int .i64 p.p0, .int .i64 p.p1, .int .i64 p.p2, .int .i64 p.p3, .int .i64 p.p4, .int .i64 p.p5] 35)).alloc (.cells #[.int .i64 p.p0, .int .i64 0, .int .i64 0, .int .i64 0, .int .i64 0, .int .i64 0, .int .i64 0] 24)).drew = w1 at b0 b1 hb
  have B0 := Lib.hid b0
  have B1 := Lib.hid b1
  have HB := Lib.hid hb
  clear b0 b1 hb
  refine wpList_copy_splice rfl (.tmp 8) (.tmp 9) 56 56 rfl 3 Tryd.underlying56 sizeI _ _ _ _ _ _ rfl rfl (w.heap.size + 1) 2 [.int .i64 p.p0, .int .i64 0, .int .i64 0, .int .i64 0, .int .i64 0, .int .i64 0, .int .i64 0] 24 B1.out [.int .i64 p.p1, .int .i64 p.p2, .int .i64 p.p3, .int .i64 p.p4, .int .i64 p.p5] rfl (fun _ => ⟨rfl, _, rfl, B0.out.poolTail⟩) (Nat.le_refl 7) (oneFive _ _ _ _ _) (w.heap.size + 1) w1 (Below.refl _ _) (Nat.le_refl _) ?_
  intro w2 hh hb2
  have B2 : Hid (Blk w2 (w.heap.size + 1) #[.int .i64 (Mana.poolC p).g, .int .i64 (Mana.poolC p).x, .int .i64 (Mana.poolC p).c0, .int .i64 (Mana.poolC p).c1, .int .i64 (Mana.poolC p).c2, .int .i64 (Mana.poolC p).c3, .int .i64 (Mana.poolC p).c4] 24) := Lib.hid hh.out
  have HB2 := Lib.hid (HB.out.trans (hb2.mono (by omega)))
  clear hh hb2 B0 B1 HB
  have c1 := B2.out.cell
  go_wp2_with fail
  refine (manaText (Mana.poolC p) _ (HE.out.below HB2.out)).mono ?_
  rintro e w3 ⟨rfl, hb3⟩
  go_wp2_with fail
  go_ret
  exact ⟨rfl, HB2.out.trans (hb3.mono HB2.out.size)⟩
/-- the reference's cost of a pool under way -/
structure PoolAt (p : Mana.Pl) (w : World) (k : Nat) (wr : World) : Prop where
  b0 : Blk wr w.heap.size #[.int .i64 p.p0, .int .i64 p.p1, .int .i64 p.p2, .int .i64 p.p3, .int .i64 p.p4, .int .i64 p.p5] 35
  b1 : Blk wr (w.heap.size + 1) #[.int .i64 Mana.zeroC.g, .int .i64 Mana.zeroC.x, .int .i64 Mana.zeroC.c0, .int .i64 Mana.zeroC.c1, .int .i64 Mana.zeroC.c2, .int .i64 Mana.zeroC.c3, .int .i64 Mana.zeroC.c4] 24
  b2 : Blk wr (w.heap.size + 1 + 1) #[.int .i64 (Mana.poolTo p k).g, .int .i64 (Mana.poolTo p k).x, .int .i64 (Mana.poolTo p k).c0, .int .i64 (Mana.poolTo p k).c1, .int .i64 (Mana.poolTo p k).c2, .int .i64 (Mana.poolTo p k).c3, .int .i64 (Mana.poolTo p k).c4] 24
  hb : Below w.heap.size w wr
theorem PoolAt.start (p : Mana.Pl) (w : World) : PoolAt p w 0 (((w.alloc (.cells #[.int .i64 p.p0, .int .i64 p.p1, .int .i64 p.p2, .int .i64 p.p3, .int .i64 p.p4, .int .i64 p.p5] 35)).alloc (.cells #[.int .i64 0, .int .i64 0, .int .i64 0, .int .i64 0, .int .i64 0, .int .i64 0, .int .i64 0] 24)).alloc (.cells #[.int .i64 p.p0, .int .i64 0, .int .i64 0, .int .i64 0, .int .i64 0, .int .i64 0, .int .i64 0] 24)) := by
  have n1 := Blk.new (w.alloc (.cells #[.int .i64 p.p0, .int .i64 p.p1, .int .i64 p.p2, .int .i64 p.p3, .int .i64 p.p4, .int .i64 p.p5] 35)) #[.int .i64 0, .int .i64 0, .int .i64 0, .int .i64 0, .int .i64 0, .int .i64 0, .int .i64 0] 24
  have n2 := Blk.new ((w.alloc (.cells #[.int .i64 p.p0, .int .i64 p.p1, .int .i64 p.p2, .int .i64 p.p3, .int .i64 p.p4, .int .i64 p.p5] 35)).alloc (.cells #[.int .i64 0, .int .i64 0, .int .i64 0, .int .i64 0, .int .i64 0, .int .i64 0, .int .i64 0] 24)) #[.int .i64 p.p0, .int .i64 0, .int .i64 0, .int .i64 0, .int .i64 0, .int .i64 0, .int .i64 0] 24
  simp only [World.size_alloc] at n1 n2
  exact ⟨((Blk.new w _ _).alloc _).alloc _, n1.alloc _, n2, by go_grown⟩
theorem PoolAt.next {p : Mana.Pl} {w w2 : World} {k : Nat} (h : PoolAt p w k w2) (hk : k < 5) : PoolAt p w (k + 1) (w2.setCell ⟨w.heap.size + 1 + 1, 2 + k, none⟩ (.int .i64 (p.el (k + 1)))) :=
  ⟨h.b0.other (by omega) _ _, h.b1.other (by omega) _ _, h.b2.setCost k hk _, h.hb.setCell (by show w.heap.size ≤ w.heap.size + 1 + 1; omega) _⟩
theorem PoolAt.drew {p : Mana.Pl} {w w2 : World} {k : Nat} (h : PoolAt p w k w2) : PoolAt p w k w2.drew := ⟨h.b0.drew, h.b1.drew, h.b2.drew, h.hb.drew⟩
set_option maxHeartbeats 1000000 in
set_option maxRecDepth 100000 in
theorem refCost8 (p : Mana.Pl) (w : World) :
    Calls Tryd.prog 43 #[.agg #[.int .i64 p.p0, .int .i64 p.p1, .int .i64 p.p2, .int .i64 p.p3, .int .i64 p.p4, .int .i64 p.p5]] w fun e w' => e = .returned (.agg #[.int .i64 (Mana.poolC p).g, .int .i64 (Mana.poolC p).x, .int .i64 (Mana.poolC p).c0, .int .i64 (Mana.poolC p).c1, .int .i64 (Mana.poolC p).c2, .int .i64 (Mana.poolC p).c3, .int .i64 (Mana.poolC p).c4]) ∧ Below w.heap.size w w' := by
  have HST := Lib.hid (PoolAt.start p w)
  go_enter Tryd.func43, Tryd.ntmps43
  go_wp2
  go_loopw [4] (fun i wr => ∃ k : Nat, k ≤ 5 ∧ i = .int .i64 (k : Int) ∧ PoolAt p w k wr) (fun i _ => 5 - (intOf i).toNat)
  case atStart => exact ⟨0, by omega, rfl, HST.out⟩
  case round =>
    obtain ⟨k, hk, rfl, hA⟩ := hrel
    have HA := Lib.hid hA
    by_cases hlt : k < 5
    · have c0 := hA.b0.pool (k + 1) (by omega)
      have c2 := hA.b2.cost k hlt
      have f2 := hA.b2.free (2 + k)
      clear hA
      go_wp2
      go_roundw
      case rel => exact ⟨k + 1, by omega, by go_num, HA.out.next hlt⟩
      case measure => simp [intOf]; omega
    · obtain rfl : k = 5 := by omega
      have c2 := hA.b2.cell
      have f1 := hA.b1.free
      have c1 := hA.b1.cell
      clear hA
      go_wp2
      change bodyPost _ _ _ _ _ (set7 wr (w.heap.size + 1) (Mana.poolC p))
      have hB := (HA.out.b1.seven (Mana.poolC p)).cell
      have HF := Lib.hid (below_seven (q := Mana.poolC p) (b := w.heap.size + 1) HA.out.hb (by omega))
      clear HA c1 f1 c2
      generalize set7 wr (w.heap.size + 1) (Mana.poolC p) = wf at hB HF
      exact bodyPost_ret (v := .agg #[.int .i64 (Mana.poolC p).g, .int .i64 (Mana.poolC p).x, .int .i64 (Mana.poolC p).c0, .int .i64 (Mana.poolC p).c1, .int .i64 (Mana.poolC p).c2, .int .i64 (Mana.poolC p).c3, .int .i64 (Mana.poolC p).c4]) (by simp [results, Tryd.results43, go_sem, hB]) rfl ⟨rfl, HF.out⟩
set_option maxRecDepth 100000 in
theorem refPoolText8 (p : Mana.Pl) (w : World) :
    Calls Tryd.prog 25 #[.agg #[.int .i64 p.p0, .int .i64 p.p1, .int .i64 p.p2, .int .i64 p.p3, .int .i64 p.p4, .int .i64 p.p5]] w fun e w' => e = .returned (.string ⟨(Mana.textL (Mana.poolC p)).toArray⟩) ∧ Below w.heap.size w w' := by
  go_enter Tryd.func25, Tryd.ntmps25
  go_wp2_with fail
  refine (refCost8 p _).mono ?_
  rintro e w1 ⟨rfl, hb1⟩
  have HB1 := Lib.hid (below_boxed hb1)
  clear hb1
  go_wp2_with fail
  refine (refText8 (Mana.poolC p) _).mono ?_
  rintro e w2 ⟨rfl, hb2⟩
  go_wp2_with fail
  go_ret
  exact ⟨rfl, HB1.out.trans (hb2.mono HB1.out.size)⟩
end Go.Proofs.YtcllaenanihedaaDoor
