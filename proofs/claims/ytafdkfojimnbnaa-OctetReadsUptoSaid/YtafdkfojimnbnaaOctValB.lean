/-
  LAYER 4's LAWS: put by the reference; two lists compared; the chapter's fixed calls. By an AI agent.
-/
import Derived.Test.YtafdkfojimnbnaaOctVal
namespace Go.Proofs.Ytafdkfojimnbnaa
open Go.RowKit
open Go.Lib (uvarint uvarint_small uvarint_big zigzag unzigzag)

set_option maxHeartbeats 1000000 in
set_option maxRecDepth 100000 in
theorem lawRefPut (va : Value) (l : List UInt8) (x : Val) (w : World) (ha : Bytes w va l) (hx : x.Ok w) (hl : l.length + x.room ≤ 1000000000000) :
    Calls Try.prog 11 #[va, .agg x.cells] w (BytesRes (l ++ x.bytes) w) := by
  obtain ⟨kind, u, n, s, lv, ll⟩ := x
  obtain ⟨hu, hn0, hn1, hrow, hfit⟩ := hx
  have hb0 := below_alloc1 w (.cells #[.int .i64 kind, .int .u64 (u : Int), .int .i64 n, .string s, lv] 29)
  have ha0 := ha.under hb0 (Nat.le_refl _)
  have hr0 := hrow.under hb0 (Nat.le_refl _)
  unfold Val.room at hl
  simp only at hl hu hn0 hn1 hrow hfit hr0
  unfold Val.cells
  simp only
  have hk : kind = 0 ∨ kind = 1 ∨ kind = 2 ∨ kind = 3 ∨ (((kind : Int) == 0) = false ∧ ((kind : Int) == 1) = false ∧ ((kind : Int) == 2) = false ∧ ((kind : Int) == 3) = false) := by
    simp only [beq_eq_false_iff_ne]; omega
  rcases hk with rfl | rfl | rfl | rfl | ⟨k0, k1, k2, k3⟩
  · have HE := Lib.hid (show l ++ Val.bytes ⟨0, u, n, s, lv, ll⟩ = l ++ encAll [u] by simp [Val.bytes, encAll])
    have hb1 := hb0.trans ((below_alloc1 (w.alloc (.cells #[.int .i64 0, .int .u64 (u : Int), .int .i64 n, .string s, lv] 29)) (.cells #[.int .u64 (u : Int)] 26)).mono (by simp))
    go_enter Try.func11, Try.ntmps11
    go_wp2_with fail
    refine (refPut va _ l [u] _ (ha.under hb1 (Nat.le_refl _)) (lit_at _ u _ (by simp)) (by simpa [Fits64] using hu) (by simp; omega)).mono ?_
    intro e w2 h
    obtain ⟨v, rfl, ho, hb⟩ := BytesRes.trans hb1 h
    go_wp2_with fail
    go_ret
    rw [HE.out]
    exact ⟨_, rfl, ho, hb⟩
  · have HE := Lib.hid (show l ++ Val.bytes ⟨1, u, n, s, lv, ll⟩ = l ++ uvarint (zigzag n) by simp [Val.bytes])
    go_enter Try.func11, Try.ntmps11
    go_wp2_with fail
    refine (refPutInt va l n _ ha0 hn0 hn1 (by omega)).mono ?_
    intro e w2 h
    obtain ⟨v, rfl, ho, hb⟩ := BytesRes.trans hb0 h
    go_wp2_with fail
    go_ret
    rw [HE.out]
    exact ⟨_, rfl, ho, hb⟩
  · have HE := Lib.hid (show l ++ Val.bytes ⟨2, u, n, s, lv, ll⟩ = l ++ uvarint (if decide (0 < n) then 1 else 0) by simp [Val.bytes])
    go_enter Try.func11, Try.ntmps11
    go_wp2_with fail
    refine (refPutBool va l (decide (0 < n)) _ ha0 (by omega)).mono ?_
    intro e w2 h
    obtain ⟨v, rfl, ho, hb⟩ := BytesRes.trans hb0 h
    go_wp2_with fail
    go_ret
    rw [HE.out]
    exact ⟨_, rfl, ho, hb⟩
  · have HE := Lib.hid (show l ++ Val.bytes ⟨3, u, n, s, lv, ll⟩ = l ++ Oct.textE s.data.toList by simp [Val.bytes])
    go_enter Try.func11, Try.ntmps11
    go_wp2_with fail
    refine (refPutText va l s _ ha0 (by omega)).mono ?_
    intro e w2 h
    obtain ⟨v, rfl, ho, hb⟩ := BytesRes.trans hb0 h
    go_wp2_with fail
    go_ret
    rw [HE.out]
    exact ⟨_, rfl, ho, hb⟩
  · have HE := Lib.hid (show l ++ Val.bytes ⟨kind, u, n, s, lv, ll⟩ = l ++ Oct.listE ll by
      simp only [beq_eq_false_iff_ne] at k0 k1 k2 k3
      simp [Val.bytes, k0, k1, k2, k3])
    go_enter Try.func11, Try.ntmps11
    go_wp2_with fail
    refine (refPutInts va lv l ll _ ha0 hr0 hfit (by omega)).mono ?_
    intro e w2 h
    obtain ⟨v, rfl, ho, hb⟩ := BytesRes.trans hb0 h
    go_wp2_with fail
    go_ret
    rw [HE.out]
    exact ⟨_, rfl, ho, hb⟩

theorem eq_of_get {l m : List Int} (hl : l.length = m.length) (h : ∀ j, j < l.length → l.getD j 0 = m.getD j 0) : l = m := by
  refine List.ext_getElem hl fun j h1 h2 => ?_
  have := h j h1
  simpa [List.getD, h1, h2] using this
set_option maxHeartbeats 1000000 in
set_option maxRecDepth 100000 in
theorem lawSame (va vb : Value) (l m : List Int) (w : World) (ha : Ints w va l) (hb : Ints w vb m) :
    Calls Try.prog 39 #[va, vb] w fun e w' => e = .returned (.bool (l == m)) ∧ Below w.heap.size w w' := by
  obtain ⟨a, c, rfl, hc1, hc2, -, hd⟩ := ha
  obtain ⟨a', c', rfl, hc1', hc2', -, hd'⟩ := hb
  unfold maxLen at hc2 hc2'
  have D := Lib.hid hd
  have D' := Lib.hid hd'
  clear hd hd'
  by_cases hlen : l.length = m.length
  · have hlen' : (l.length : Int) = (m.length : Int) := by omega
    have HL := Lib.hid hlen
    rw [← hlen] at hc1' ⊢
    clear hlen hlen'
    go_enter Try.func39, Try.ntmps39
    go_wp2
    go_loopw [13] (fun i wr => ∃ k : Nat, k ≤ l.length ∧ i = .int .i64 (k : Int) ∧ Hid (∀ j, j < k → l.getD j 0 = m.getD j 0) ∧ Below w.heap.size w wr) (fun i _ => l.length - (intOf i).toNat)
    case atStart => exact ⟨0, by omega, rfl, Lib.hid (fun j hj => by omega), Below.refl _ _⟩
    case round =>
      obtain ⟨k, hk, rfl, HE, hb⟩ := hrel
      have i0 : (0 : Int) ≤ (k : Int) := by omega
      by_cases hlt : k < l.length
      · have i1 : (k : Int) < (l.length : Int) := by omega
        obtain ⟨b1, o1, rfl, -, -, hq, hcell⟩ := D.out k _ (getD_get (d := 0) hlt)
        obtain ⟨b2, o2, rfl, -, -, hq', hcell'⟩ := D'.out k _ (getD_get (d := 0) (by rw [← HL.out]; exact hlt))
        have c1 : wr.cell? ⟨b1, o1 + k, none⟩ = some (.int .i64 (l.getD k 0)) := (hb.cell hq).trans hcell
        have c2 : wr.cell? ⟨b2, o2 + k, none⟩ = some (.int .i64 (m.getD k 0)) := (hb.cell hq').trans hcell'
        clear hcell hcell'
        by_cases hxy : l.getD k 0 = m.getD k 0
        · have HE' : Hid (∀ j, j < k + 1 → l.getD j 0 = m.getD j 0) := Lib.hid fun j hj => by
            by_cases e : j = k
            · subst e; exact hxy
            · exact HE.out j (by omega)
          rw [← hxy] at c2
          generalize l.getD k 0 = x at c1 c2
          clear hxy HE
          go_wp2
          go_quiet (fail)
          go_wp2
          go_roundw
          case rel => exact ⟨k + 1, by omega, by go_num, HE', below_drewN hb _⟩
          case measure => simp [intOf]; omega
        · have hne : (l == m) = false := by
            simp only [beq_eq_false_iff_ne]
            intro e
            exact hxy (by rw [e])
          have HN := Lib.hid hne
          generalize l.getD k 0 = x at c1 hxy
          generalize m.getD k 0 = y at c2 hxy
          have t1 : ((x : Int) == y) = false := by simp only [beq_eq_false_iff_ne]; exact hxy
          clear hxy HE hne
          go_wp2
          go_quiet (fail)
          go_wp2
          go_ret
          exact ⟨ret_bool HN.out.symm, below_drewN hb _⟩
      · obtain rfl : k = l.length := by omega
        have HN := Lib.hid (show (l == m) = true by rw [eq_of_get HL.out HE.out]; simp)
        go_wp2
        go_ret
        exact ⟨ret_bool HN.out.symm, hb⟩
  · have HN := Lib.hid (show (l == m) = false by
      simp only [beq_eq_false_iff_ne]
      intro e
      exact hlen (by rw [e]))
    have t1 : ((l.length : Int) == (m.length : Int)) = false := by simp only [beq_eq_false_iff_ne]; omega
    clear hlen
    go_enter Try.func39, Try.ntmps39
    go_wp2
    go_ret
    exact ⟨ret_bool HN.out.symm, Below.refl _ _⟩
end Go.Proofs.Ytafdkfojimnbnaa
