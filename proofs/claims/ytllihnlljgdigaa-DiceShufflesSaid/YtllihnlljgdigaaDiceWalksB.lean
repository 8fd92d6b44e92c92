/-
  CONTRACTS OF LAYER 6 AND OF ITS REFERENCE: rows of ints compared, copied; Shuffle. By an AI agent.
-/
import Derived.Test.YtllihnlljgdigaaDiceWalks
import Derived.Lib.SliceRun
import Derived.RegionTactic
namespace Go.Proofs.Ytllihnlljgdigaa
open Go.RowKit

theorem eq_of_get {l m : List Int} (hl : l.length = m.length) (h : ∀ j, j < l.length → l.getD j 0 = m.getD j 0) : l = m := by
  refine List.ext_getElem hl fun j h1 h2 => ?_
  have := h j h1
  simpa [List.getD, h1, h2] using this
/-- are two lists one? -/
def sameI (l m : List Int) : Bool := l == m
theorem sameI_self (l : List Int) : sameI l l = true := by simp [sameI]
theorem sameI_ne {l m : List Int} (h : l ≠ m) : sameI l m = false := by simp [sameI, h]
set_option maxHeartbeats 1000000 in
set_option maxRecDepth 100000 in
theorem refSame (va vb : Value) (l m : List Int) (w : World) (ha : Ints w va l) (hb : Ints w vb m) :
    Calls Try.prog 15 #[va, vb] w fun e w' => e = .returned (.bool (sameI l m)) ∧ Below w.heap.size w w' := by
  obtain ⟨a, c, rfl, hc1, hc2, -, hd⟩ := ha
  obtain ⟨a', c', rfl, hc1', hc2', -, hd'⟩ := hb
  unfold maxLen at hc2 hc2'
  have D := Lib.hid hd
  have D' := Lib.hid hd'
  clear hd hd'
  by_cases hlen : l.length = m.length
  · have HL := Lib.hid hlen
    rw [← hlen] at hc1' ⊢
    clear hlen
    go_enter Try.func15, Try.ntmps15
    go_wp2
    go_loopw [5] (fun i wr => ∃ k : Nat, k ≤ l.length ∧ i = .int .i64 (k : Int) ∧ Hid (∀ j, j < k → l.getD j 0 = m.getD j 0) ∧ Below w.heap.size w wr) (fun i _ => l.length - (intOf i).toNat)
    case atStart => exact ⟨0, by omega, rfl, Lib.hid (fun j hj => by omega), Below.refl _ _⟩
    case round =>
      obtain ⟨k, hk, rfl, HE, hb⟩ := hrel
      have i0 : (0 : Int) ≤ (k : Int) := by omega
      by_cases hlt : k < l.length
      · have i1 : (k : Int) < (l.length : Int) := by omega
        obtain ⟨b1, o1, rfl, -, -, hq, hcell⟩ := D.out k _ (getD_get (d := 0) hlt)
        obtain ⟨b2, o2, rfl, -, -, hq', hcell'⟩ := D'.out k _ (getD_get (d := 0) (by rw [← HL.out]; exact hlt))
        have c1 : wr.cell? ⟨b1, o1 + k, none⟩ = some (.int .i64 (l.getD k 0)) := (hb.cell hq).trans hcell
        have c2 : wr.cell? ⟨b2, o2 + k, none⟩ = some (.int .i64 (m.getD k 0)) := (hb.cell hq').trans hcell'
        clear hcell hcell'
        by_cases hxy : l.getD k 0 = m.getD k 0
        · have HE' : Hid (∀ j, j < k + 1 → l.getD j 0 = m.getD j 0) := Lib.hid fun j hj => by
            by_cases e : j = k
            · subst e; exact hxy
            · exact HE.out j (by omega)
          rw [← hxy] at c2
          generalize l.getD k 0 = x at c1 c2
          clear hxy HE
          go_wp2
          go_quiet (fail)
          go_wp2
          go_roundw
          case rel => exact ⟨k + 1, by omega, by go_num, HE', below_drewN hb _⟩
          case measure => simp [intOf]; omega
        · have hne : sameI l m = false := sameI_ne (by
            intro e
            exact hxy (by rw [e]))
          have HN := Lib.hid hne
          generalize l.getD k 0 = x at c1 hxy
          generalize m.getD k 0 = y at c2 hxy
          have t1 : (x == y) = false := by simp only [beq_eq_false_iff_ne]; exact hxy
          clear hxy HE hne
          go_wp2
          go_quiet (fail)
          go_wp2
          go_ret
          exact ⟨ret_bool HN.out.symm, below_drewN hb _⟩
      · obtain rfl : k = l.length := by omega
        have HN := Lib.hid (show sameI l m = true by rw [eq_of_get HL.out HE.out]; exact sameI_self _)
        go_wp2
        go_ret
        exact ⟨ret_bool HN.out.symm, hb⟩
  · have HN := Lib.hid (show sameI l m = false from sameI_ne (by
      intro e
      exact hlen (by rw [e])))
    have t1 : ((l.length : Int) == (m.length : Int)) = false := by simp only [beq_eq_false_iff_ne]; omega
    clear hlen
    go_enter Try.func15, Try.ntmps15
    go_wp2
    go_ret
    exact ⟨ret_bool HN.out.symm, Below.refl _ _⟩
set_option maxRecDepth 100000 in
theorem clone (v : Value) (l : List Int) (w : World) (hv : Ints w v l) (hl : l.length ≤ 1000000) :
    Calls Try.prog 16 #[v] w (IntsRes l w) := by
  have hv' := hv
  obtain ⟨a, cap, rfl, h1, h2, h3, -⟩ := hv
  cases a with
  | none =>
    obtain rfl := h3 rfl
    have hl0 : l = [] := List.eq_nil_of_length_eq_zero (by omega)
    subst hl0
    clear hv'
    have hnil := fun W : World => Lib.run_eql_slice_nil (P := Try.prog) W 30 3 none 0 0 0 0 Try.underlying30
    show Calls _ _ #[.slice none 0 0] _ _
    go_enter Try.func16, Try.ntmps16
    go_wp2
    go_ret
    exact ⟨_, rfl, OwnRow.nil _ _ _ _, Below.refl _ _⟩
  | some ad =>
    have hlit := OwnRow.lit encI 3 w [] (by simp)
    have hnil := fun W : World => Lib.run_eql_slice_nil (P := Try.prog) W 30 3 (some ad) l.length cap 0 0 Try.underlying30
    have hb := (Below.refl w.heap.size w).alloc (Nat.le_refl _) (.cells #[] 3)
    go_enter Try.func16, Try.ntmps16
    go_wp2_with (at_builtin; refine wpList_append_ints (w0 := w) rfl (.tmp 5) (.tmp 6) rfl rfl hlit rfl (hv'.under hb (Nat.le_refl _)) (by simp; omega) (by simp) hb ?_)
    intro v' w1 ho hb'
    go_wp2
    go_ret
    exact ⟨_, rfl, by simpa using ho, hb'⟩
/-! ### Shuffle -/
theorem cell?_stored {w : World} {p q : Addr} {x v : Value} (h : w.cell? q = some v) : ∃ v', (w.setCell p x).cell? q = some v' := by
  by_cases e : p = q
  · subst e; exact ⟨x, World.cell?_setCell_same w p x h⟩
  · exact ⟨v, (World.cell?_setCell_other w p q x e).trans h⟩
/-- two places of a row of the call's own: what they hold; what the exchange leaves -/
theorem OwnRow.exchange {B n cap i j : Nat} {w : World} {a : Option Addr} {l : List Int} (h : OwnI B w (.slice a n cap) l) (hi : i < n) (hj : j < n) :
    ∃ g x y, a = some ⟨g, 0, none⟩ ∧ B ≤ g ∧ g < w.heap.size ∧ w.cell? ⟨g, i, none⟩ = some (.int .i64 x) ∧ w.cell? ⟨g, j, none⟩ = some (.int .i64 y) ∧ w.frozen? ⟨g, i, none⟩ = false ∧ w.frozen? ⟨g, j, none⟩ = false ∧
      (∃ v', (w.setCell ⟨g, i, none⟩ (.int .i64 y)).cell? ⟨g, j, none⟩ = some v') ∧ (w.setCell ⟨g, i, none⟩ (.int .i64 y)).frozen? ⟨g, j, none⟩ = false ∧
      OwnI B ((w.setCell ⟨g, i, none⟩ (.int .i64 y)).setCell ⟨g, j, none⟩ (.int .i64 x)) (.slice (some ⟨g, 0, none⟩) n cap) (Dice.swap l i j) ∧ w.grownBy ((w.setCell ⟨g, i, none⟩ (.int .i64 y)).setCell ⟨g, j, none⟩ (.int .i64 x)) (some g) := by
  obtain ⟨g, rfl, hB, hg, hci, hfi, hst⟩ := h.place 0 hi
  obtain ⟨g', e, -, -, hcj, hfj, -⟩ := h.place 0 hj
  injection e with e
  injection e with e
  subst e
  obtain ⟨h1, h2⟩ := hst (l.getD j 0)
  obtain ⟨g', e, -, -, -, hfj2, hst2⟩ := h1.place 0 hj
  injection e with e
  injection e with e
  subst e
  obtain ⟨h3, h4⟩ := hst2 (l.getD i 0)
  exact ⟨g, _, _, rfl, hB, hg, hci, hcj, hfi, hfj, cell?_stored hcj, hfj2, h3, h2.trans h4⟩
/-- the call returns a row of ints in new memory and a seed -/
def ShufRes (l : List Int) (s : Int) (w : World) : Ending → World → Prop := fun e w' => ∃ v, e = .returned (.tuple #[v, .int .u64 s]) ∧ OwnI w.heap.size w' v l ∧ Below w.heap.size w w'
end Go.Proofs.Ytllihnlljgdigaa
