/-
  CONTRACTS OF LAYER 8 (mana): pools: Add, Whole, of the program and of the reference. By an AI agent.
-/
import Derived.Test.YtcllaenanihedaaDoorManaWalksB
import Derived.Test.YtcllaenanihedaaDoorBlk
import Derived.StillTailTactics
namespace Go.Proofs.YtcllaenanihedaaDoor
open Go.RowKit Go.Lib

theorem setPool (p : Mana.Pl) (k : Nat) (hk : k < 6) (v : Int) : (#[.int .i64 p.p0, .int .i64 p.p1, .int .i64 p.p2, .int .i64 p.p3, .int .i64 p.p4, .int .i64 p.p5] : Array Value).setIfInBounds k (.int .i64 v) = #[.int .i64 (p.set k v).p0, .int .i64 (p.set k v).p1, .int .i64 (p.set k v).p2, .int .i64 (p.set k v).p3, .int .i64 (p.set k v).p4, .int .i64 (p.set k v).p5] := by
  match k, hk with
  | 0, _ => rfl
  | 1, _ => rfl
  | 2, _ => rfl
  | 3, _ => rfl
  | 4, _ => rfl
  | 5, _ => rfl
theorem setCost (c : Mana.Cst) (k : Nat) (hk : k < 5) (v : Int) : (#[.int .i64 c.g, .int .i64 c.x, .int .i64 c.c0, .int .i64 c.c1, .int .i64 c.c2, .int .i64 c.c3, .int .i64 c.c4] : Array Value).setIfInBounds (2 + k) (.int .i64 v) = #[.int .i64 (c.setCol k v).g, .int .i64 (c.setCol k v).x, .int .i64 (c.setCol k v).c0, .int .i64 (c.setCol k v).c1, .int .i64 (c.setCol k v).c2, .int .i64 (c.setCol k v).c3, .int .i64 (c.setCol k v).c4] := by
  match k, hk with
  | 0, _ => rfl
  | 1, _ => rfl
  | 2, _ => rfl
  | 3, _ => rfl
  | 4, _ => rfl
theorem poolAt (p : Mana.Pl) (k : Nat) (hk : k < 6) : (#[.int .i64 p.p0, .int .i64 p.p1, .int .i64 p.p2, .int .i64 p.p3, .int .i64 p.p4, .int .i64 p.p5] : Array Value)[k]? = some (.int .i64 (p.el k)) := by
  match k, hk with
  | 0, _ => rfl
  | 1, _ => rfl
  | 2, _ => rfl
  | 3, _ => rfl
  | 4, _ => rfl
  | 5, _ => rfl
theorem costAt (c : Mana.Cst) (k : Nat) (hk : k < 5) : (#[.int .i64 c.g, .int .i64 c.x, .int .i64 c.c0, .int .i64 c.c1, .int .i64 c.c2, .int .i64 c.c3, .int .i64 c.c4] : Array Value)[2 + k]? = some (.int .i64 (c.col k)) := by
  match k, hk with
  | 0, _ => rfl
  | 1, _ => rfl
  | 2, _ => rfl
  | 3, _ => rfl
  | 4, _ => rfl
theorem Blk.pool {w : World} {b : Nat} {p : Mana.Pl} {t : TypeId} (h : Blk w b #[.int .i64 p.p0, .int .i64 p.p1, .int .i64 p.p2, .int .i64 p.p3, .int .i64 p.p4, .int .i64 p.p5] t) (k : Nat) (hk : k < 6) : w.cell? ⟨b, k, none⟩ = some (.int .i64 (p.el k)) := by
  rw [h.cell, poolAt p k hk]
theorem Blk.cost {w : World} {b : Nat} {c : Mana.Cst} {t : TypeId} (h : Blk w b #[.int .i64 c.g, .int .i64 c.x, .int .i64 c.c0, .int .i64 c.c1, .int .i64 c.c2, .int .i64 c.c3, .int .i64 c.c4] t) (k : Nat) (hk : k < 5) : w.cell? ⟨b, 2 + k, none⟩ = some (.int .i64 (c.col k)) := by
  rw [h.cell, costAt c k hk]
theorem Blk.setPool {w : World} {b : Nat} {p : Mana.Pl} {t : TypeId} (h : Blk w b #[.int .i64 p.p0, .int .i64 p.p1, .int .i64 p.p2, .int .i64 p.p3, .int .i64 p.p4, .int .i64 p.p5] t) (k : Nat) (hk : k < 6) (v : Int) : Blk (w.setCell ⟨b, k, none⟩ (.int .i64 v)) b #[.int .i64 (p.set k v).p0, .int .i64 (p.set k v).p1, .int .i64 (p.set k v).p2, .int .i64 (p.set k v).p3, .int .i64 (p.set k v).p4, .int .i64 (p.set k v).p5] t := by
  have := h.set k (.int .i64 v)
  rw [Go.Proofs.YtcllaenanihedaaDoor.setPool p k hk v] at this
  exact this
theorem Blk.setCost {w : World} {b : Nat} {c : Mana.Cst} {t : TypeId} (h : Blk w b #[.int .i64 c.g, .int .i64 c.x, .int .i64 c.c0, .int .i64 c.c1, .int .i64 c.c2, .int .i64 c.c3, .int .i64 c.c4] t) (k : Nat) (hk : k < 5) (v : Int) : Blk (w.setCell ⟨b, 2 + k, none⟩ (.int .i64 v)) b #[.int .i64 (c.setCol k v).g, .int .i64 (c.setCol k v).x, .int .i64 (c.setCol k v).c0, .int .i64 (c.setCol k v).c1, .int .i64 (c.setCol k v).c2, .int .i64 (c.setCol k v).c3, .int .i64 (c.setCol k v).c4] t := by
  have := h.set (2 + k) (.int .i64 v)
  rw [Go.Proofs.YtcllaenanihedaaDoor.setCost c k hk v] at this
  exact this
theorem cell_old {w : World} (o : Obj) {b j : Nat} (h : b < w.heap.size) : (w.alloc o).cell? ⟨b, j, none⟩ = w.cell? ⟨b, j, none⟩ :=
  ((Below.refl w.heap.size w).alloc (Nat.le_refl _) o).cell (p := ⟨b, j, none⟩) h
theorem numAdd' (a b : Int) (w : World) :
    Calls Tryd.prog 35 #[.int .i64 a, .int .i64 b] w fun e w' => e = .returned (.int .i64 (Mana.addI a b)) ∧ w = w' := numAdd a b w
theorem refAdd' (a b : Int) (w : World) :
    Calls Tryd.prog 37 #[.int .i64 a, .int .i64 b] w fun e w' => e = .returned (.int .i64 (Mana.addI a b)) ∧ w' = w := (refAdd a b w).mono fun _ _ ⟨h1, h2⟩ => ⟨h1, h2.symm⟩
/-- a pool stored whole, as the walk leaves it -/
def set6 (w : World) (b : Nat) (q : Mana.Pl) : World :=
  (((((w.setCell ⟨b, 0, none⟩ (.int .i64 q.p0)).setCell ⟨b, 1, none⟩ (.int .i64 q.p1)).setCell ⟨b, 2, none⟩ (.int .i64 q.p2)).setCell ⟨b, 3, none⟩ (.int .i64 q.p3)).setCell ⟨b, 4, none⟩ (.int .i64 q.p4)).setCell ⟨b, 5, none⟩ (.int .i64 q.p5)
theorem Blk.six {w : World} {b : Nat} {p : Mana.Pl} {t : TypeId} (h : Blk w b #[.int .i64 p.p0, .int .i64 p.p1, .int .i64 p.p2, .int .i64 p.p3, .int .i64 p.p4, .int .i64 p.p5] t) (q : Mana.Pl) : Blk (set6 w b q) b #[.int .i64 q.p0, .int .i64 q.p1, .int .i64 q.p2, .int .i64 q.p3, .int .i64 q.p4, .int .i64 q.p5] t :=
  by
  have h0 := h.setPool 0 (by decide) q.p0
  have h1 := h0.setPool 1 (by decide) q.p1
  have h2 := h1.setPool 2 (by decide) q.p2
  have h3 := h2.setPool 3 (by decide) q.p3
  have h4 := h3.setPool 4 (by decide) q.p4
  exact h4.setPool 5 (by decide) q.p5
theorem below_six {w : World} {b C : Nat} {q : Mana.Pl} {w0 : World} (h : Below C w0 w) (hC : C ≤ b) : Below C w0 (set6 w b q) :=
  (((((h.setCell (by exact hC) _).setCell (by exact hC) _).setCell (by exact hC) _).setCell (by exact hC) _).setCell (by exact hC) _).setCell (by exact hC) _
/-- a cost stored whole -/
def set7 (w : World) (b : Nat) (c : Mana.Cst) : World :=
  ((((((w.setCell ⟨b, 0, none⟩ (.int .i64 c.g)).setCell ⟨b, 1, none⟩ (.int .i64 c.x)).setCell ⟨b, 2, none⟩ (.int .i64 c.c0)).setCell ⟨b, 3, none⟩ (.int .i64 c.c1)).setCell ⟨b, 4, none⟩ (.int .i64 c.c2)).setCell ⟨b, 5, none⟩ (.int .i64 c.c3)).setCell ⟨b, 6, none⟩ (.int .i64 c.c4)
theorem Blk.seven {w : World} {b : Nat} {p : Mana.Cst} {t : TypeId} (h : Blk w b #[.int .i64 p.g, .int .i64 p.x, .int .i64 p.c0, .int .i64 p.c1, .int .i64 p.c2, .int .i64 p.c3, .int .i64 p.c4] t) (q : Mana.Cst) : Blk (set7 w b q) b #[.int .i64 q.g, .int .i64 q.x, .int .i64 q.c0, .int .i64 q.c1, .int .i64 q.c2, .int .i64 q.c3, .int .i64 q.c4] t :=
  by
  have h0 : Blk (w.setCell ⟨b, 0, none⟩ (.int .i64 q.g)) b #[.int .i64 { p with g := q.g }.g, .int .i64 { p with g := q.g }.x, .int .i64 { p with g := q.g }.c0, .int .i64 { p with g := q.g }.c1, .int .i64 { p with g := q.g }.c2, .int .i64 { p with g := q.g }.c3, .int .i64 { p with g := q.g }.c4] t := h.set 0 _
  have h1 : Blk _ b #[.int .i64 { p with g := q.g, x := q.x }.g, .int .i64 { p with g := q.g, x := q.x }.x, .int .i64 { p with g := q.g, x := q.x }.c0, .int .i64 { p with g := q.g, x := q.x }.c1, .int .i64 { p with g := q.g, x := q.x }.c2, .int .i64 { p with g := q.g, x := q.x }.c3, .int .i64 { p with g := q.g, x := q.x }.c4] t := h0.set 1 (.int .i64 q.x)
  have h2 := h1.setCost 0 (by decide) q.c0
  have h3 := h2.setCost 1 (by decide) q.c1
  have h4 := h3.setCost 2 (by decide) q.c2
  have h5 := h4.setCost 3 (by decide) q.c3
  exact h5.setCost 4 (by decide) q.c4
theorem below_seven {w : World} {b C : Nat} {q : Mana.Cst} {w0 : World} (h : Below C w0 w) (hC : C ≤ b) : Below C w0 (set7 w b q) :=
  ((((((h.setCell (by exact hC) _).setCell (by exact hC) _).setCell (by exact hC) _).setCell (by exact hC) _).setCell (by exact hC) _).setCell (by exact hC) _).setCell (by exact hC) _
def addWorld (r q : Mana.Pl) (w : World) : World := ((w.alloc (.cells #[.int .i64 r.p0, .int .i64 r.p1, .int .i64 r.p2, .int .i64 r.p3, .int .i64 r.p4, .int .i64 r.p5] 35)).alloc (.cells #[.int .i64 q.p0, .int .i64 q.p1, .int .i64 q.p2, .int .i64 q.p3, .int .i64 q.p4, .int .i64 q.p5] 35)).alloc (.cells #[.int .i64 Mana.zeroP.p0, .int .i64 Mana.zeroP.p1, .int .i64 Mana.zeroP.p2, .int .i64 Mana.zeroP.p3, .int .i64 Mana.zeroP.p4, .int .i64 Mana.zeroP.p5] 35)

set_option maxRecDepth 100000 in
theorem manaAdd (p q : Mana.Pl) (w : World) :
    Calls Tryd.prog 26 #[.agg #[.int .i64 p.p0, .int .i64 p.p1, .int .i64 p.p2, .int .i64 p.p3, .int .i64 p.p4, .int .i64 p.p5], .agg #[.int .i64 q.p0, .int .i64 q.p1, .int .i64 q.p2, .int .i64 q.p3, .int .i64 q.p4, .int .i64 q.p5]] w fun e w' => e = .returned (.agg #[.int .i64 (Mana.addP p q).p0, .int .i64 (Mana.addP p q).p1, .int .i64 (Mana.addP p q).p2, .int .i64 (Mana.addP p q).p3, .int .i64 (Mana.addP p q).p4, .int .i64 (Mana.addP p q).p5]) ∧ Below w.heap.size w w' := by
  have H6 := Lib.hid (Mana.addTo_six p q p)
  go_enter Tryd.func26, Tryd.ntmps26
  go_wp2
  go_loopw [8] (fun i wr => ∃ k : Nat, k ≤ 6 ∧ i = .int .i64 (k : Int) ∧ wr = addWorld (Mana.addTo p q p k) q w) (fun i _ => 6 - (intOf i).toNat)
  case atStart => exact ⟨0, by omega, rfl, rfl⟩
  case round =>
    obtain ⟨k, hk, rfl, rfl⟩ := hrel
    unfold addWorld
    by_cases hlt : k < 6
    · have hi := index6 q k hlt
      have HR := Lib.hid (Mana.addTo_el p q p k k (Nat.le_refl _))
      have HS : Hid (Mana.addTo p q p (k + 1) = (Mana.addTo p q p k).set k (Mana.pos (Mana.addI (p.el k) (q.el k)))) := Lib.hid rfl
      obtain ⟨r, HRR⟩ : ∃ r, Hid (Mana.addTo p q p k = r) := ⟨_, Lib.hid rfl⟩
      rw [HRR.out] at HR HS ⊢
      have hc : (((w.alloc (.cells #[.int .i64 r.p0, .int .i64 r.p1, .int .i64 r.p2, .int .i64 r.p3, .int .i64 r.p4, .int .i64 r.p5] 35)).alloc (.cells #[.int .i64 q.p0, .int .i64 q.p1, .int .i64 q.p2, .int .i64 q.p3, .int .i64 q.p4, .int .i64 q.p5] 35)).alloc (.cells #[.int .i64 Mana.zeroP.p0, .int .i64 Mana.zeroP.p1, .int .i64 Mana.zeroP.p2, .int .i64 Mana.zeroP.p3, .int .i64 Mana.zeroP.p4, .int .i64 Mana.zeroP.p5] 35)).cell? ⟨w.heap.size, k, none⟩ = some (.int .i64 (r.el k)) := by
        rw [cell_old _ (by simp; omega), cell_old _ (by simp), poolCell r k hlt]
      have hst := fun v => setPool r k hlt v
      go_wp2_with fail
      refine (numAdd' _ _ _).mono ?_
      rintro e w2 ⟨rfl, rfl⟩
      go_wp2
      go_roundw
      case rel => exact ⟨k + 1, by omega, by go_num, by rw [HS.out, ← HR.out]; rfl⟩
      case measure => simp [intOf]; omega
    · obtain rfl : k = 6 := by omega
      rw [H6.out]
      go_wp2
      exact bodyPost_ret (v := .agg #[.int .i64 (Mana.addP p q).p0, .int .i64 (Mana.addP p q).p1, .int .i64 (Mana.addP p q).p2, .int .i64 (Mana.addP p q).p3, .int .i64 (Mana.addP p q).p4, .int .i64 (Mana.addP p q).p5]) (by simp [results, Tryd.results26, go_sem]) rfl ⟨rfl, by go_grown⟩
/-- the reference's sum under way: four blocks -/
structure AddAt (p q : Mana.Pl) (w : World) (k : Nat) (wr : World) : Prop where
  b0 : Blk wr w.heap.size #[.int .i64 p.p0, .int .i64 p.p1, .int .i64 p.p2, .int .i64 p.p3, .int .i64 p.p4, .int .i64 p.p5] 35
  b1 : Blk wr (w.heap.size + 1) #[.int .i64 q.p0, .int .i64 q.p1, .int .i64 q.p2, .int .i64 q.p3, .int .i64 q.p4, .int .i64 q.p5] 35
  b2 : Blk wr (w.heap.size + 1 + 1) #[.int .i64 Mana.zeroP.p0, .int .i64 Mana.zeroP.p1, .int .i64 Mana.zeroP.p2, .int .i64 Mana.zeroP.p3, .int .i64 Mana.zeroP.p4, .int .i64 Mana.zeroP.p5] 35
  b3 : Blk wr (w.heap.size + 1 + 1 + 1) #[.int .i64 (Mana.addTo p q Mana.zeroP k).p0, .int .i64 (Mana.addTo p q Mana.zeroP k).p1, .int .i64 (Mana.addTo p q Mana.zeroP k).p2, .int .i64 (Mana.addTo p q Mana.zeroP k).p3, .int .i64 (Mana.addTo p q Mana.zeroP k).p4, .int .i64 (Mana.addTo p q Mana.zeroP k).p5] 35
  hb : Below w.heap.size w wr
theorem AddAt.next {p q : Mana.Pl} {w w2 : World} {k : Nat} {v : Int} (h : AddAt p q w k w2) (hk : k < 6) (hv : v = Mana.sumEl p q k) : AddAt p q w (k + 1) (w2.setCell ⟨w.heap.size + 1 + 1 + 1, k, none⟩ (.int .i64 v)) := by
  subst hv
  exact ⟨h.b0.other (by omega) _ _, h.b1.other (by omega) _ _, h.b2.other (by omega) _ _, h.b3.setPool k hk _, h.hb.setCell (by show w.heap.size ≤ w.heap.size + 1 + 1 + 1; omega) _⟩
theorem AddAt.drew {p q : Mana.Pl} {w w2 : World} {k : Nat} (h : AddAt p q w k w2) : AddAt p q w k w2.drew := ⟨h.b0.drew, h.b1.drew, h.b2.drew, h.b3.drew, h.hb.drew⟩
theorem AddAt.start (p q : Mana.Pl) (w : World) : AddAt p q w 0 ((((w.alloc (.cells #[.int .i64 p.p0, .int .i64 p.p1, .int .i64 p.p2, .int .i64 p.p3, .int .i64 p.p4, .int .i64 p.p5] 35)).alloc (.cells #[.int .i64 q.p0, .int .i64 q.p1, .int .i64 q.p2, .int .i64 q.p3, .int .i64 q.p4, .int .i64 q.p5] 35)).alloc (.cells #[.int .i64 Mana.zeroP.p0, .int .i64 Mana.zeroP.p1, .int .i64 Mana.zeroP.p2, .int .i64 Mana.zeroP.p3, .int .i64 Mana.zeroP.p4, .int .i64 Mana.zeroP.p5] 35)).alloc (.cells #[.int .i64 Mana.zeroP.p0, .int .i64 Mana.zeroP.p1, .int .i64 Mana.zeroP.p2, .int .i64 Mana.zeroP.p3, .int .i64 Mana.zeroP.p4, .int .i64 Mana.zeroP.p5] 35)) := by
  have n1 := Blk.new (w.alloc (.cells #[.int .i64 p.p0, .int .i64 p.p1, .int .i64 p.p2, .int .i64 p.p3, .int .i64 p.p4, .int .i64 p.p5] 35)) #[.int .i64 q.p0, .int .i64 q.p1, .int .i64 q.p2, .int .i64 q.p3, .int .i64 q.p4, .int .i64 q.p5] 35
  have n2 := Blk.new ((w.alloc (.cells #[.int .i64 p.p0, .int .i64 p.p1, .int .i64 p.p2, .int .i64 p.p3, .int .i64 p.p4, .int .i64 p.p5] 35)).alloc (.cells #[.int .i64 q.p0, .int .i64 q.p1, .int .i64 q.p2, .int .i64 q.p3, .int .i64 q.p4, .int .i64 q.p5] 35)) #[.int .i64 Mana.zeroP.p0, .int .i64 Mana.zeroP.p1, .int .i64 Mana.zeroP.p2, .int .i64 Mana.zeroP.p3, .int .i64 Mana.zeroP.p4, .int .i64 Mana.zeroP.p5] 35
  have n3 := Blk.new (((w.alloc (.cells #[.int .i64 p.p0, .int .i64 p.p1, .int .i64 p.p2, .int .i64 p.p3, .int .i64 p.p4, .int .i64 p.p5] 35)).alloc (.cells #[.int .i64 q.p0, .int .i64 q.p1, .int .i64 q.p2, .int .i64 q.p3, .int .i64 q.p4, .int .i64 q.p5] 35)).alloc (.cells #[.int .i64 Mana.zeroP.p0, .int .i64 Mana.zeroP.p1, .int .i64 Mana.zeroP.p2, .int .i64 Mana.zeroP.p3, .int .i64 Mana.zeroP.p4, .int .i64 Mana.zeroP.p5] 35)) #[.int .i64 Mana.zeroP.p0, .int .i64 Mana.zeroP.p1, .int .i64 Mana.zeroP.p2, .int .i64 Mana.zeroP.p3, .int .i64 Mana.zeroP.p4, .int .i64 Mana.zeroP.p5] 35
  simp only [World.size_alloc] at n1 n2 n3
  exact ⟨(((Blk.new w _ _).alloc _).alloc _).alloc _, (n1.alloc _).alloc _, n2.alloc _, n3, by go_grown⟩
set_option maxRecDepth 100000 in
theorem refAdd8 (p q : Mana.Pl) (w : World) :
    Calls Tryd.prog 27 #[.agg #[.int .i64 p.p0, .int .i64 p.p1, .int .i64 p.p2, .int .i64 p.p3, .int .i64 p.p4, .int .i64 p.p5], .agg #[.int .i64 q.p0, .int .i64 q.p1, .int .i64 q.p2, .int .i64 q.p3, .int .i64 q.p4, .int .i64 q.p5]] w fun e w' => e = .returned (.agg #[.int .i64 (Mana.addP p q).p0, .int .i64 (Mana.addP p q).p1, .int .i64 (Mana.addP p q).p2, .int .i64 (Mana.addP p q).p3, .int .i64 (Mana.addP p q).p4, .int .i64 (Mana.addP p q).p5]) ∧ Below w.heap.size w w' := by
  have HST := Lib.hid (AddAt.start p q w)
  have H6 := Lib.hid (Mana.addTo_six p q Mana.zeroP)
  go_enter Tryd.func27, Tryd.ntmps27
  go_wp2
  go_loopw [6] (fun i wr => ∃ k : Nat, k ≤ 6 ∧ i = .int .i64 (k : Int) ∧ AddAt p q w k wr) (fun i _ => 6 - (intOf i).toNat)
  case atStart => exact ⟨0, by omega, rfl, HST.out⟩
  case round =>
    obtain ⟨k, hk, rfl, hA⟩ := hrel
    have HA := Lib.hid hA
    by_cases hlt : k < 6
    · have c0 := hA.b0.pool k hlt
      have c1 := hA.b1.pool k hlt
      clear hA
      go_wp2_with fail
      refine wp_region_still_tail 10 (by kernel_rfl) (by kernel_rfl) ?_
      simp only [List.take_succ_cons, List.take_zero, List.drop_succ_cons, List.drop_zero]
      still_step
      still_step
      still_step
      still_step
      still_step
      still_step
      still_step
      still_call (refAdd' _ _ _)
      still_step
      still_step
      refine wpStill_nil ?_
      change wpList _ _ _ _ _ wr.drew
      have HD := Lib.hid HA.out.drew
      have c3 := HD.out.b3.pool k hlt
      have f3 := HD.out.b3.free k
      clear c0 c1 HA
      generalize wr.drew = w2 at HD c3 f3
      go_wp2
      go_roundw
      case rel => exact ⟨k + 1, by omega, by go_num, HD.out.next hlt rfl⟩
      case measure => simp [intOf]; omega
    · obtain rfl : k = 6 := by omega
      have c3 := hA.b3.cell
      have f3 := hA.b3.free
      have c2 := hA.b2.cell
      have f2 := hA.b2.free
      clear hA
      rw [H6.out] at c3
      go_wp2
      change bodyPost _ _ _ _ _ (set6 wr (w.heap.size + 1 + 1) (Mana.addP p q))
      have hB := (HA.out.b2.six (Mana.addP p q)).cell
      have HF := Lib.hid (below_six (q := Mana.addP p q) (b := w.heap.size + 1 + 1) HA.out.hb (by omega))
      clear HA c2 f2 c3 f3
      generalize set6 wr (w.heap.size + 1 + 1) (Mana.addP p q) = wf at hB HF
      exact bodyPost_ret (v := .agg #[.int .i64 (Mana.addP p q).p0, .int .i64 (Mana.addP p q).p1, .int .i64 (Mana.addP p q).p2, .int .i64 (Mana.addP p q).p3, .int .i64 (Mana.addP p q).p4, .int .i64 (Mana.addP p q).p5]) (by simp [results, Tryd.results27, go_sem, hB]) rfl ⟨rfl, HF.out⟩
end Go.Proofs.YtcllaenanihedaaDoor
