/-
  CONTRACTS OF LAYER 8 (mana): ParsePool, of the program and of the reference. By an AI agent.
-/
import Derived.Test.YtcllaenanihedaaDoorManaPlainB
import Derived.Test.YtcllaenanihedaaDoorManaPool
import Derived.Test.YtcllaenanihedaaDoorManaParse
import Derived.Test.YtcllaenanihedaaDoorManaParseRef
namespace Go.Proofs.YtcllaenanihedaaDoor
open Go.RowKit

set_option maxHeartbeats 1000000 in
set_option maxRecDepth 100000 in
theorem manaParsePoolAny (s : ByteArray) (c : Mana.Cst) (er : Int) (w : World) (hP : ∀ W, Below w.heap.size w W → Calls Tryd.prog 18 #[.string s] W fun e w' => e = .returned (.tuple #[.agg #[.int .i64 c.g, .int .i64 c.x, .int .i64 c.c0, .int .i64 c.c1, .int .i64 c.c2, .int .i64 c.c3, .int .i64 c.c4], .int .i64 er]) ∧ Below W.heap.size W w') :
    Calls Tryd.prog 20 #[.string s] w fun e w' => e = .returned (.tuple #[.agg #[.int .i64 (Mana.ppC c er).p0, .int .i64 (Mana.ppC c er).p1, .int .i64 (Mana.ppC c er).p2, .int .i64 (Mana.ppC c er).p3, .int .i64 (Mana.ppC c er).p4, .int .i64 (Mana.ppC c er).p5], .int .i64 (Mana.ppE c er)]) ∧ Below w.heap.size w w' := by
  have HP := Lib.hid hP
  have N0 := Lib.hid (Blk.new w #[.int .i64 0, .int .i64 0, .int .i64 0, .int .i64 0, .int .i64 0, .int .i64 0] 35)
  have NB : Hid (Below w.heap.size w (w.alloc (.cells #[.int .i64 0, .int .i64 0, .int .i64 0, .int .i64 0, .int .i64 0, .int .i64 0] 35))) := Lib.hid (by go_grown)
  clear hP
  by_cases her : er = 0
  · by_cases hx : 0 < c.x
    · have HR := Lib.hid (Mana.pp_no (c := c) (e := er) (.inr hx))
      have t1 : (er != 0) = false := by rw [her]; rfl
      rw [HR.out.1, HR.out.2]
      clear her
      go_enter Tryd.func20, Tryd.ntmps20
      go_wp2_with fail
      refine (HP.out _ NB.out).mono ?_
      rintro e w1 ⟨rfl, hb1⟩
      have A0 := Lib.hid ((N0.out.below hb1 N0.out.lt).alloc (.cells #[.int .i64 c.g, .int .i64 c.x, .int .i64 c.c0, .int .i64 c.c1, .int .i64 c.c2, .int .i64 c.c3, .int .i64 c.c4] 24))
      have AB := Lib.hid ((NB.out.trans (hb1.mono NB.out.size)).alloc ((NB.out.trans (hb1.mono NB.out.size)).size) (.cells #[.int .i64 c.g, .int .i64 c.x, .int .i64 c.c0, .int .i64 c.c1, .int .i64 c.c2, .int .i64 c.c3, .int .i64 c.c4] 24))
      clear hb1 N0 NB HP
      have c0 := A0.out.cell
      have f0 := A0.out.free
      go_wp2
      change bodyPost _ _ _ _ _ (set6 (w1.alloc (.cells #[.int .i64 c.g, .int .i64 c.x, .int .i64 c.c0, .int .i64 c.c1, .int .i64 c.c2, .int .i64 c.c3, .int .i64 c.c4] 24)) w.heap.size Mana.zeroP)
      have hB := (Blk.six (p := Mana.zeroP) A0.out Mana.zeroP).cell
      have HF := Lib.hid (below_six (q := Mana.zeroP) (b := w.heap.size) AB.out (Nat.le_refl _))
      skip
      generalize set6 (w1.alloc (.cells #[.int .i64 c.g, .int .i64 c.x, .int .i64 c.c0, .int .i64 c.c1, .int .i64 c.c2, .int .i64 c.c3, .int .i64 c.c4] 24)) w.heap.size Mana.zeroP = wf at hB HF
      exact bodyPost_ret (v := .tuple #[.agg #[.int .i64 Mana.zeroP.p0, .int .i64 Mana.zeroP.p1, .int .i64 Mana.zeroP.p2, .int .i64 Mana.zeroP.p3, .int .i64 Mana.zeroP.p4, .int .i64 Mana.zeroP.p5], .int .i64 3]) (by simp [results, Tryd.results20, go_sem, hB]) rfl ⟨rfl, HF.out⟩
    · have HR := Lib.hid (Mana.pp_yes (c := c) (e := er) her (by omega))
      have t1 : (er != 0) = false := by rw [her]; rfl
      rw [HR.out.1, HR.out.2]
      clear her
      go_enter Tryd.func20, Tryd.ntmps20
      go_wp2_with fail
      refine (HP.out _ NB.out).mono ?_
      rintro e w1 ⟨rfl, hb1⟩
      have A0 := Lib.hid ((N0.out.below hb1 N0.out.lt).alloc (.cells #[.int .i64 c.g, .int .i64 c.x, .int .i64 c.c0, .int .i64 c.c1, .int .i64 c.c2, .int .i64 c.c3, .int .i64 c.c4] 24))
      have AB := Lib.hid ((NB.out.trans (hb1.mono NB.out.size)).alloc ((NB.out.trans (hb1.mono NB.out.size)).size) (.cells #[.int .i64 c.g, .int .i64 c.x, .int .i64 c.c0, .int .i64 c.c1, .int .i64 c.c2, .int .i64 c.c3, .int .i64 c.c4] 24))
      have A1 := Lib.hid (Blk.new w1 #[.int .i64 c.g, .int .i64 c.x, .int .i64 c.c0, .int .i64 c.c1, .int .i64 c.c2, .int .i64 c.c3, .int .i64 c.c4] 24)
      have hz1 := (N0.out.below hb1 N0.out.lt).lt
      clear hb1 N0 NB HP
      go_wp2_with fail
      refine wp_region_still_tail 3 (by kernel_rfl) (by kernel_rfl) ?_
      simp only [List.take_succ_cons, List.take_zero, List.drop_succ_cons, List.drop_zero]
      still_step
      still_step
      still_step
      refine wpStill_nil ?_
      have b0 := (A0.out.alloc (.cells #[.int .i64 c.g, .int .i64 0, .int .i64 0, .int .i64 0, .int .i64 0, .int .i64 0] 35)).drew
      have b1 := (A1.out.alloc (.cells #[.int .i64 c.g, .int .i64 0, .int .i64 0, .int .i64 0, .int .i64 0, .int .i64 0] 35)).drew
      have b2 : Blk ((w1.alloc (.cells #[.int .i64 c.g, .int .i64 c.x, .int .i64 c.c0, .int .i64 c.c1, .int .i64 c.c2, .int .i64 c.c3, .int .i64 c.c4] 24)).alloc (.cells #[.int .i64 c.g, .int .i64 0, .int .i64 0, .int .i64 0, .int .i64 0, .int .i64 0] 35)).drew (w1.heap.size + 1) #[.int .i64 c.g, .int .i64 0, .int .i64 0, .int .i64 0, .int .i64 0, .int .i64 0] 35 := by
        have n1 := Blk.new (w1.alloc (.cells #[.int .i64 c.g, .int .i64 c.x, .int .i64 c.c0, .int .i64 c.c1, .int .i64 c.c2, .int .i64 c.c3, .int .i64 c.c4] 24)) #[.int .i64 c.g, .int .i64 0, .int .i64 0, .int .i64 0, .int .i64 0, .int .i64 0] 35
        simp only [World.size_alloc] at n1
        exact n1.drew
      have hb := (AB.out.alloc AB.out.size (.cells #[.int .i64 c.g, .int .i64 0, .int .i64 0, .int .i64 0, .int .i64 0, .int .i64 0] 35)).drew
      change wpList _ _ _ _ _ (((w1.alloc (.cells #[.int .i64 c.g, .int .i64 c.x, .int .i64 c.c0, .int .i64 c.c1, .int .i64 c.c2, .int .i64 c.c3, .int .i64 c.c4] 24)).alloc (.cells #[.int .i64 c.g, .int .i64 0, .int .i64 0, .int .i64 0, .int .i64 0, .int .i64 0] 35)).drew)
      generalize ((w1.alloc (.cells #[.int .i64 c.g, .int .i64 c.x, .int .i64 c.c0, .int .i64 c.c1, .int .i64 c.c2, .int .i64 c.c3, .int .i64 c.c4] 24)).alloc (.cells #[.int .i64 c.g, .int .i64 0, .int .i64 0, .int .i64 0, .int .i64 0, .int .i64 0] 35)).drew = w2 at b0 b1 b2 hb
      have B0 := Lib.hid b0
      have B1 := Lib.hid b1
      have B2 := Lib.hid b2
      have HB := Lib.hid hb
      clear b0 b1 b2 hb A0 A1 AB
      refine wpList_copy_splice rfl (.tmp 23) (.tmp 25) 56 56 rfl 3 Tryd.underlying56 sizeI _ _ _ _ _ _ rfl rfl (w1.heap.size + 1) 1 [.int .i64 c.g, .int .i64 0, .int .i64 0, .int .i64 0, .int .i64 0, .int .i64 0] 35 B2.out [.int .i64 c.c0, .int .i64 c.c1, .int .i64 c.c2, .int .i64 c.c3, .int .i64 c.c4] rfl (fun _ => ⟨rfl, _, rfl, B1.out.colors⟩) (Nat.le_refl 6) (oneFive _ _ _ _ _) (w1.heap.size + 1) w2 (Below.refl _ _) (Nat.le_refl _) ?_
      intro w3 hh hb3
      have D2 : Hid (Blk w3 (w1.heap.size + 1) #[.int .i64 (Mana.costP c).p0, .int .i64 (Mana.costP c).p1, .int .i64 (Mana.costP c).p2, .int .i64 (Mana.costP c).p3, .int .i64 (Mana.costP c).p4, .int .i64 (Mana.costP c).p5] 35) := Lib.hid hh.out
      have D0 := Lib.hid (B0.out.below hb3 (by omega))
      have DB := Lib.hid (HB.out.trans (hb3.mono (by omega)))
      clear hh hb3 B0 B1 B2 HB
      have c0 := D0.out.cell
      have f0 := D0.out.free
      have c2 := D2.out.cell
      go_wp2
      change bodyPost _ _ _ _ _ (set6 w3 w.heap.size (Mana.costP c))
      have hB := (Blk.six (p := Mana.zeroP) D0.out (Mana.costP c)).cell
      have HF := Lib.hid (below_six (q := (Mana.costP c)) (b := w.heap.size) DB.out (Nat.le_refl _))
      skip
      generalize set6 w3 w.heap.size (Mana.costP c) = wf at hB HF
      exact bodyPost_ret (v := .tuple #[.agg #[.int .i64 (Mana.costP c).p0, .int .i64 (Mana.costP c).p1, .int .i64 (Mana.costP c).p2, .int .i64 (Mana.costP c).p3, .int .i64 (Mana.costP c).p4, .int .i64 (Mana.costP c).p5], .int .i64 0]) (by simp [results, Tryd.results20, go_sem, hB]) rfl ⟨rfl, HF.out⟩
  · have HR := Lib.hid (Mana.pp_no (c := c) (e := er) (.inl her))
    have t1 : (er != 0) = true := by simpa using her
    rw [HR.out.1, HR.out.2]
    clear her
    go_enter Tryd.func20, Tryd.ntmps20
    go_wp2_with fail
    refine (HP.out _ NB.out).mono ?_
    rintro e w1 ⟨rfl, hb1⟩
    have A0 := Lib.hid ((N0.out.below hb1 N0.out.lt).alloc (.cells #[.int .i64 c.g, .int .i64 c.x, .int .i64 c.c0, .int .i64 c.c1, .int .i64 c.c2, .int .i64 c.c3, .int .i64 c.c4] 24))
    have AB := Lib.hid ((NB.out.trans (hb1.mono NB.out.size)).alloc ((NB.out.trans (hb1.mono NB.out.size)).size) (.cells #[.int .i64 c.g, .int .i64 c.x, .int .i64 c.c0, .int .i64 c.c1, .int .i64 c.c2, .int .i64 c.c3, .int .i64 c.c4] 24))
    clear hb1 N0 NB HP
    have c0 := A0.out.cell
    have f0 := A0.out.free
    go_wp2
    change bodyPost _ _ _ _ _ (set6 (w1.alloc (.cells #[.int .i64 c.g, .int .i64 c.x, .int .i64 c.c0, .int .i64 c.c1, .int .i64 c.c2, .int .i64 c.c3, .int .i64 c.c4] 24)) w.heap.size Mana.zeroP)
    have hB := (Blk.six (p := Mana.zeroP) A0.out Mana.zeroP).cell
    have HF := Lib.hid (below_six (q := Mana.zeroP) (b := w.heap.size) AB.out (Nat.le_refl _))
    skip
    generalize set6 (w1.alloc (.cells #[.int .i64 c.g, .int .i64 c.x, .int .i64 c.c0, .int .i64 c.c1, .int .i64 c.c2, .int .i64 c.c3, .int .i64 c.c4] 24)) w.heap.size Mana.zeroP = wf at hB HF
    exact bodyPost_ret (v := .tuple #[.agg #[.int .i64 Mana.zeroP.p0, .int .i64 Mana.zeroP.p1, .int .i64 Mana.zeroP.p2, .int .i64 Mana.zeroP.p3, .int .i64 Mana.zeroP.p4, .int .i64 Mana.zeroP.p5], .int .i64 3]) (by simp [results, Tryd.results20, go_sem, hB]) rfl ⟨rfl, HF.out⟩
theorem manaParsePool (s : ByteArray) (hs : s.size ≤ 140737488355328) (w : World) (hE : Env w) :
    Calls Tryd.prog 20 #[.string s] w fun e w' => e = .returned (.tuple #[.agg #[.int .i64 (Mana.ppC (Mana.parseC s.data.toList) (Mana.parseE s.data.toList)).p0, .int .i64 (Mana.ppC (Mana.parseC s.data.toList) (Mana.parseE s.data.toList)).p1, .int .i64 (Mana.ppC (Mana.parseC s.data.toList) (Mana.parseE s.data.toList)).p2, .int .i64 (Mana.ppC (Mana.parseC s.data.toList) (Mana.parseE s.data.toList)).p3, .int .i64 (Mana.ppC (Mana.parseC s.data.toList) (Mana.parseE s.data.toList)).p4, .int .i64 (Mana.ppC (Mana.parseC s.data.toList) (Mana.parseE s.data.toList)).p5], .int .i64 (Mana.ppE (Mana.parseC s.data.toList) (Mana.parseE s.data.toList))]) ∧ Below w.heap.size w w' :=
  manaParsePoolAny s _ _ w fun W hW => manaParse s hs W (hE.below hW)
/-- the reference's pool of a cost under way -/
structure CostAt (c : Mana.Cst) (w : World) (m k : Nat) (wr : World) : Prop where
  b0 : Blk wr w.heap.size #[.int .i64 Mana.zeroP.p0, .int .i64 Mana.zeroP.p1, .int .i64 Mana.zeroP.p2, .int .i64 Mana.zeroP.p3, .int .i64 Mana.zeroP.p4, .int .i64 Mana.zeroP.p5] 35
  b1 : Blk wr m #[.int .i64 c.g, .int .i64 c.x, .int .i64 c.c0, .int .i64 c.c1, .int .i64 c.c2, .int .i64 c.c3, .int .i64 c.c4] 24
  b2 : Blk wr (m + 1) #[.int .i64 (Mana.costTo c k).p0, .int .i64 (Mana.costTo c k).p1, .int .i64 (Mana.costTo c k).p2, .int .i64 (Mana.costTo c k).p3, .int .i64 (Mana.costTo c k).p4, .int .i64 (Mana.costTo c k).p5] 35
  hm : w.heap.size < m
  hb : Below w.heap.size w wr
theorem CostAt.next {c : Mana.Cst} {w w2 : World} {m k : Nat} (h : CostAt c w m k w2) (hk : k < 5) : CostAt c w m (k + 1) (w2.setCell ⟨m + 1, k + 1, none⟩ (.int .i64 (c.col k))) :=
  ⟨h.b0.other (by have := h.hm; omega) _ _, h.b1.other (by omega) _ _, h.b2.setPool (k + 1) (by omega) _, h.hm, h.hb.setCell (by have := h.hm; show w.heap.size ≤ m + 1; omega) _⟩
set_option maxHeartbeats 1000000 in
set_option maxRecDepth 100000 in
theorem refParsePoolAny (s : ByteArray) (c : Mana.Cst) (er : Int) (w : World) (hP : ∀ W, Below w.heap.size w W → Calls Tryd.prog 19 #[.string s] W fun e w' => e = .returned (.tuple #[.agg #[.int .i64 c.g, .int .i64 c.x, .int .i64 c.c0, .int .i64 c.c1, .int .i64 c.c2, .int .i64 c.c3, .int .i64 c.c4], .int .i64 er]) ∧ Below W.heap.size W w') :
    Calls Tryd.prog 21 #[.string s] w fun e w' => e = .returned (.tuple #[.agg #[.int .i64 (Mana.ppC c er).p0, .int .i64 (Mana.ppC c er).p1, .int .i64 (Mana.ppC c er).p2, .int .i64 (Mana.ppC c er).p3, .int .i64 (Mana.ppC c er).p4, .int .i64 (Mana.ppC c er).p5], .int .i64 (Mana.ppE c er)]) ∧ Below w.heap.size w w' := by
  have HP := Lib.hid hP
  have N0 := Lib.hid (Blk.new w #[.int .i64 0, .int .i64 0, .int .i64 0, .int .i64 0, .int .i64 0, .int .i64 0] 35)
  have NB : Hid (Below w.heap.size w (w.alloc (.cells #[.int .i64 0, .int .i64 0, .int .i64 0, .int .i64 0, .int .i64 0, .int .i64 0] 35))) := Lib.hid (by go_grown)
  clear hP
  by_cases her : er = 0
  · by_cases hx : 0 < c.x
    · have HR := Lib.hid (Mana.pp_no (c := c) (e := er) (.inr hx))
      have t1 : (er != 0) = false := by rw [her]; rfl
      rw [HR.out.1, HR.out.2]
      clear her
      go_enter Tryd.func21, Tryd.ntmps21
      go_wp2_with fail
      refine (HP.out _ NB.out).mono ?_
      rintro e w1 ⟨rfl, hb1⟩
      have A0 := Lib.hid ((N0.out.below hb1 N0.out.lt).alloc (.cells #[.int .i64 c.g, .int .i64 c.x, .int .i64 c.c0, .int .i64 c.c1, .int .i64 c.c2, .int .i64 c.c3, .int .i64 c.c4] 24))
      have AB := Lib.hid ((NB.out.trans (hb1.mono NB.out.size)).alloc ((NB.out.trans (hb1.mono NB.out.size)).size) (.cells #[.int .i64 c.g, .int .i64 c.x, .int .i64 c.c0, .int .i64 c.c1, .int .i64 c.c2, .int .i64 c.c3, .int .i64 c.c4] 24))
      clear hb1 N0 NB HP
      have c0 := A0.out.cell
      have f0 := A0.out.free
      go_wp2
      change bodyPost _ _ _ _ _ (set6 (w1.alloc (.cells #[.int .i64 c.g, .int .i64 c.x, .int .i64 c.c0, .int .i64 c.c1, .int .i64 c.c2, .int .i64 c.c3, .int .i64 c.c4] 24)) w.heap.size Mana.zeroP)
      have hB := (Blk.six (p := Mana.zeroP) A0.out Mana.zeroP).cell
      have HF := Lib.hid (below_six (q := Mana.zeroP) (b := w.heap.size) AB.out (Nat.le_refl _))
      skip
      generalize set6 (w1.alloc (.cells #[.int .i64 c.g, .int .i64 c.x, .int .i64 c.c0, .int .i64 c.c1, .int .i64 c.c2, .int .i64 c.c3, .int .i64 c.c4] 24)) w.heap.size Mana.zeroP = wf at hB HF
      exact bodyPost_ret (v := .tuple #[.agg #[.int .i64 Mana.zeroP.p0, .int .i64 Mana.zeroP.p1, .int .i64 Mana.zeroP.p2, .int .i64 Mana.zeroP.p3, .int .i64 Mana.zeroP.p4, .int .i64 Mana.zeroP.p5], .int .i64 3]) (by simp [results, Tryd.results21, go_sem, hB]) rfl ⟨rfl, HF.out⟩
    · have HR := Lib.hid (Mana.pp_yes (c := c) (e := er) her (by omega))
      have t1 : (er != 0) = false := by rw [her]; rfl
      rw [HR.out.1, HR.out.2]
      clear her
      go_enter Tryd.func21, Tryd.ntmps21
      go_wp2_with fail
      refine (HP.out _ NB.out).mono ?_
      rintro e w1 ⟨rfl, hb1⟩
      have hST : CostAt c w w1.heap.size 0 ((w1.alloc (.cells #[.int .i64 c.g, .int .i64 c.x, .int .i64 c.c0, .int .i64 c.c1, .int .i64 c.c2, .int .i64 c.c3, .int .i64 c.c4] 24)).alloc (.cells #[.int .i64 c.g, .int .i64 0, .int .i64 0, .int .i64 0, .int .i64 0, .int .i64 0] 35)) := by
        have n1 := Blk.new (w1.alloc (.cells #[.int .i64 c.g, .int .i64 c.x, .int .i64 c.c0, .int .i64 c.c1, .int .i64 c.c2, .int .i64 c.c3, .int .i64 c.c4] 24)) #[.int .i64 c.g, .int .i64 0, .int .i64 0, .int .i64 0, .int .i64 0, .int .i64 0] 35
        simp only [World.size_alloc] at n1
        exact ⟨((N0.out.below hb1 N0.out.lt).alloc _).alloc _, (Blk.new w1 _ _).alloc _, n1, (N0.out.below hb1 N0.out.lt).lt, (((NB.out.trans (hb1.mono NB.out.size)).alloc ((NB.out.trans (hb1.mono NB.out.size)).size) _).alloc (by have := (NB.out.trans (hb1.mono NB.out.size)).size; simp; omega) _)⟩
      have HST := Lib.hid hST
      clear hb1 N0 NB HP hST
      go_wp2_with fail
      go_loopw [7] (fun i wr => ∃ k : Nat, k ≤ 5 ∧ i = .int .i64 (k : Int) ∧ CostAt c w w1.heap.size k wr) (fun i _ => 5 - (intOf i).toNat)
      case atStart => exact ⟨0, by omega, rfl, HST.out⟩
      case round =>
        clear HST
        obtain ⟨k, hk, rfl, hA⟩ := hrel
        have HA := Lib.hid hA
        by_cases hlt : k < 5
        · have c1 := hA.b1.cost k hlt
          have c2 := hA.b2.pool (k + 1) (by omega)
          have f2 := hA.b2.free (k + 1)
          clear hA
          go_wp2
          go_roundw
          case rel => exact ⟨k + 1, by omega, by go_num, HA.out.next hlt⟩
          case measure => simp [intOf]; omega
        · obtain rfl : k = 5 := by omega
          have A0 := Lib.hid hA.b0
          have AB := Lib.hid hA.hb
          have c2 := hA.b2.cell
          have c0 := hA.b0.cell
          have f0 := hA.b0.free
          clear hA HA
          go_wp2
          change bodyPost _ _ _ _ _ (set6 wr w.heap.size (Mana.costP c))
          have hB := (Blk.six (p := Mana.zeroP) A0.out (Mana.costP c)).cell
          have HF := Lib.hid (below_six (q := (Mana.costP c)) (b := w.heap.size) AB.out (Nat.le_refl _))
          skip
          generalize set6 wr w.heap.size (Mana.costP c) = wf at hB HF
          exact bodyPost_ret (v := .tuple #[.agg #[.int .i64 (Mana.costP c).p0, .int .i64 (Mana.costP c).p1, .int .i64 (Mana.costP c).p2, .int .i64 (Mana.costP c).p3, .int .i64 (Mana.costP c).p4, .int .i64 (Mana.costP c).p5], .int .i64 0]) (by simp [results, Tryd.results21, go_sem, hB]) rfl ⟨rfl, HF.out⟩
  · have HR := Lib.hid (Mana.pp_no (c := c) (e := er) (.inl her))
    have t1 : (er != 0) = true := by simpa using her
    rw [HR.out.1, HR.out.2]
    clear her
    go_enter Tryd.func21, Tryd.ntmps21
    go_wp2_with fail
    refine (HP.out _ NB.out).mono ?_
    rintro e w1 ⟨rfl, hb1⟩
    have A0 := Lib.hid ((N0.out.below hb1 N0.out.lt).alloc (.cells #[.int .i64 c.g, .int .i64 c.x, .int .i64 c.c0, .int .i64 c.c1, .int .i64 c.c2, .int .i64 c.c3, .int .i64 c.c4] 24))
    have AB := Lib.hid ((NB.out.trans (hb1.mono NB.out.size)).alloc ((NB.out.trans (hb1.mono NB.out.size)).size) (.cells #[.int .i64 c.g, .int .i64 c.x, .int .i64 c.c0, .int .i64 c.c1, .int .i64 c.c2, .int .i64 c.c3, .int .i64 c.c4] 24))
    clear hb1 N0 NB HP
    have c0 := A0.out.cell
    have f0 := A0.out.free
    go_wp2
    change bodyPost _ _ _ _ _ (set6 (w1.alloc (.cells #[.int .i64 c.g, .int .i64 c.x, .int .i64 c.c0, .int .i64 c.c1, .int .i64 c.c2, .int .i64 c.c3, .int .i64 c.c4] 24)) w.heap.size Mana.zeroP)
    have hB := (Blk.six (p := Mana.zeroP) A0.out Mana.zeroP).cell
    have HF := Lib.hid (below_six (q := Mana.zeroP) (b := w.heap.size) AB.out (Nat.le_refl _))
    skip
    generalize set6 (w1.alloc (.cells #[.int .i64 c.g, .int .i64 c.x, .int .i64 c.c0, .int .i64 c.c1, .int .i64 c.c2, .int .i64 c.c3, .int .i64 c.c4] 24)) w.heap.size Mana.zeroP = wf at hB HF
    exact bodyPost_ret (v := .tuple #[.agg #[.int .i64 Mana.zeroP.p0, .int .i64 Mana.zeroP.p1, .int .i64 Mana.zeroP.p2, .int .i64 Mana.zeroP.p3, .int .i64 Mana.zeroP.p4, .int .i64 Mana.zeroP.p5], .int .i64 3]) (by simp [results, Tryd.results21, go_sem, hB]) rfl ⟨rfl, HF.out⟩
theorem refParsePool8 (s : ByteArray) (w : World) :
    Calls Tryd.prog 21 #[.string s] w fun e w' => e = .returned (.tuple #[.agg #[.int .i64 (Mana.ppC (Mana.refC s.data.toList) (Mana.refE s.data.toList)).p0, .int .i64 (Mana.ppC (Mana.refC s.data.toList) (Mana.refE s.data.toList)).p1, .int .i64 (Mana.ppC (Mana.refC s.data.toList) (Mana.refE s.data.toList)).p2, .int .i64 (Mana.ppC (Mana.refC s.data.toList) (Mana.refE s.data.toList)).p3, .int .i64 (Mana.ppC (Mana.refC s.data.toList) (Mana.refE s.data.toList)).p4, .int .i64 (Mana.ppC (Mana.refC s.data.toList) (Mana.refE s.data.toList)).p5], .int .i64 (Mana.ppE (Mana.refC s.data.toList) (Mana.refE s.data.toList))]) ∧ Below w.heap.size w w' :=
  refParsePoolAny s _ _ w fun W _ => refParse8 s W
end Go.Proofs.YtcllaenanihedaaDoor
