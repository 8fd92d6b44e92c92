/-
  CONTRACTS OF LAYER 8 (mana): the reference's Parse. By an AI agent.
-/
import Derived.Test.YtcllaenanihedaaDoorManaCount
import Derived.Test.YtcllaenanihedaaDoorManaWalksD
import Derived.Deep.RegionHeld3
import Derived.Deep.CutRange
import Derived.Test.YtcllaenanihedaaDoorManaTextRef
import Derived.Test.YtcllaenanihedaaDoorNumNumber
namespace Go.Proofs.YtcllaenanihedaaDoor
open Go.RowKit

theorem Blk.seven_other {w : World} {b : Nat} {cs : Array Value} {t : TypeId} (h : Blk w b cs t) {g : Nat} (hg : b ≠ g) (q : Mana.Cst) : Blk (set7 w g q) b cs t :=
  ((((((h.other hg _ _).other hg _ _).other hg _ _).other hg _ _).other hg _ _).other hg _ _).other hg _ _
theorem Blk.six_other {w : World} {b : Nat} {cs : Array Value} {t : TypeId} (h : Blk w b cs t) {g : Nat} (hg : b ≠ g) (q : Mana.Pl) : Blk (set6 w g q) b cs t :=
  (((((h.other hg _ _).other hg _ _).other hg _ _).other hg _ _).other hg _ _).other hg _ _
theorem Blk.cells_far {w : World} {b g : Nat} {c : Mana.Cst} {t : TypeId} (h : Blk w b #[.int .i64 c.g, .int .i64 c.x, .int .i64 c.c0, .int .i64 c.c1, .int .i64 c.c2, .int .i64 c.c3, .int .i64 c.c4] t) (hg : b ≠ g) (x0 x1 x2 x3 x4 x5 x6 : Value) : (((((((w.setCell ⟨g, 0, none⟩ x0).setCell ⟨g, 1, none⟩ x1).setCell ⟨g, 2, none⟩ x2).setCell ⟨g, 3, none⟩ x3).setCell ⟨g, 4, none⟩ x4).setCell ⟨g, 5, none⟩ x5).setCell ⟨g, 6, none⟩ x6).cell? ⟨b, 0, none⟩ = some (.int .i64 c.g) ∧ (((((((w.setCell ⟨g, 0, none⟩ x0).setCell ⟨g, 1, none⟩ x1).setCell ⟨g, 2, none⟩ x2).setCell ⟨g, 3, none⟩ x3).setCell ⟨g, 4, none⟩ x4).setCell ⟨g, 5, none⟩ x5).setCell ⟨g, 6, none⟩ x6).cell? ⟨b, 1, none⟩ = some (.int .i64 c.x) ∧ (((((((w.setCell ⟨g, 0, none⟩ x0).setCell ⟨g, 1, none⟩ x1).setCell ⟨g, 2, none⟩ x2).setCell ⟨g, 3, none⟩ x3).setCell ⟨g, 4, none⟩ x4).setCell ⟨g, 5, none⟩ x5).setCell ⟨g, 6, none⟩ x6).cell? ⟨b, 2, none⟩ = some (.int .i64 c.c0) ∧ (((((((w.setCell ⟨g, 0, none⟩ x0).setCell ⟨g, 1, none⟩ x1).setCell ⟨g, 2, none⟩ x2).setCell ⟨g, 3, none⟩ x3).setCell ⟨g, 4, none⟩ x4).setCell ⟨g, 5, none⟩ x5).setCell ⟨g, 6, none⟩ x6).cell? ⟨b, 3, none⟩ = some (.int .i64 c.c1) ∧ (((((((w.setCell ⟨g, 0, none⟩ x0).setCell ⟨g, 1, none⟩ x1).setCell ⟨g, 2, none⟩ x2).setCell ⟨g, 3, none⟩ x3).setCell ⟨g, 4, none⟩ x4).setCell ⟨g, 5, none⟩ x5).setCell ⟨g, 6, none⟩ x6).cell? ⟨b, 4, none⟩ = some (.int .i64 c.c2) ∧ (((((((w.setCell ⟨g, 0, none⟩ x0).setCell ⟨g, 1, none⟩ x1).setCell ⟨g, 2, none⟩ x2).setCell ⟨g, 3, none⟩ x3).setCell ⟨g, 4, none⟩ x4).setCell ⟨g, 5, none⟩ x5).setCell ⟨g, 6, none⟩ x6).cell? ⟨b, 5, none⟩ = some (.int .i64 c.c3) ∧ (((((((w.setCell ⟨g, 0, none⟩ x0).setCell ⟨g, 1, none⟩ x1).setCell ⟨g, 2, none⟩ x2).setCell ⟨g, 3, none⟩ x3).setCell ⟨g, 4, none⟩ x4).setCell ⟨g, 5, none⟩ x5).setCell ⟨g, 6, none⟩ x6).cell? ⟨b, 6, none⟩ = some (.int .i64 c.c4) :=
  (((((((h.other hg _ _).other hg _ _).other hg _ _).other hg _ _).other hg _ _).other hg _ _).other hg _ _).seven_cells
theorem indexStr (s : ByteArray) (k : Nat) (h : k < s.size) (b : UInt8) (hb : s[k] = b) (W : World) : (Instr.index 9 (.string s) (.int .i64 (k : Int))).run Tryd.prog W = .ok (.int .u8 (b.toNat : Int)) W := by
  subst hb
  rw [run_index_string W 9 s .i64 k Tryd.underlying9, dif_pos ⟨by omega, by omega⟩]
  rfl
/-- the reference's scan under way -/
structure ScanAt (l : List UInt8) (w : World) (k : Nat) (c : Mana.Cst) (wr : World) : Prop where
  sc : Mana.scanC Mana.zeroC l = Mana.scanC c (l.drop k)
  sm : Mana.Small c k
  b0 : Blk wr w.heap.size #[.int .i64 Mana.zeroC.g, .int .i64 Mana.zeroC.x, .int .i64 Mana.zeroC.c0, .int .i64 Mana.zeroC.c1, .int .i64 Mana.zeroC.c2, .int .i64 Mana.zeroC.c3, .int .i64 Mana.zeroC.c4] 24
  b1 : Blk wr (w.heap.size + 1) #[.int .i64 c.g, .int .i64 c.x, .int .i64 c.c0, .int .i64 c.c1, .int .i64 c.c2, .int .i64 c.c3, .int .i64 c.c4] 24
  hb : Below w.heap.size w wr
theorem ScanAt.start (l : List UInt8) (w : World) : ScanAt l w 0 Mana.zeroC ((w.alloc (.cells #[.int .i64 0, .int .i64 0, .int .i64 0, .int .i64 0, .int .i64 0, .int .i64 0, .int .i64 0] 24)).alloc (.cells #[.int .i64 0, .int .i64 0, .int .i64 0, .int .i64 0, .int .i64 0, .int .i64 0, .int .i64 0] 24)) := by
  have n1 := Blk.new (w.alloc (.cells #[.int .i64 0, .int .i64 0, .int .i64 0, .int .i64 0, .int .i64 0, .int .i64 0, .int .i64 0] 24)) #[.int .i64 0, .int .i64 0, .int .i64 0, .int .i64 0, .int .i64 0, .int .i64 0, .int .i64 0] 24
  simp only [World.size_alloc] at n1
  exact ⟨by rw [List.drop_zero], Mana.Small.zero, (Blk.new w _ _).alloc _, n1, by go_grown⟩
/-- behind a symbol: the next cost lies in block B -/
def NextAt (w : World) (c q : Mana.Cst) (ok : Bool) (p o : Value) (wx : World) : Prop :=
  ∃ B : Nat, p = .pointer (some ⟨B, 0, none⟩) ∧ o = .bool ok ∧ w.heap.size + 1 < B ∧ Blk wx w.heap.size #[.int .i64 Mana.zeroC.g, .int .i64 Mana.zeroC.x, .int .i64 Mana.zeroC.c0, .int .i64 Mana.zeroC.c1, .int .i64 Mana.zeroC.c2, .int .i64 Mana.zeroC.c3, .int .i64 Mana.zeroC.c4] 24 ∧ Blk wx (w.heap.size + 1) #[.int .i64 c.g, .int .i64 c.x, .int .i64 c.c0, .int .i64 c.c1, .int .i64 c.c2, .int .i64 c.c3, .int .i64 c.c4] 24 ∧ Blk wx B #[.int .i64 q.g, .int .i64 q.x, .int .i64 q.c0, .int .i64 q.c1, .int .i64 q.c2, .int .i64 q.c3, .int .i64 q.c4] 24 ∧ Below w.heap.size w wx
theorem symRes_any (c : Mana.Cst) (b : UInt8) : ∃ q ok, symRes c b = .tuple #[.agg #[.int .i64 q.g, .int .i64 q.x, .int .i64 q.c0, .int .i64 q.c1, .int .i64 q.c2, .int .i64 q.c3, .int .i64 q.c4], .bool ok] ∧ (Mana.addSym c b = if ok = true then some q else none) := by
  cases h : Mana.addSym c b with
  | none => exact ⟨c, false, symRes_none h, rfl⟩
  | some d => exact ⟨d, true, symRes_some h, rfl⟩
theorem NextAt.far {w w2 wr : World} {c q : Mana.Cst} {ok : Bool} (hr : w.heap.size + 1 < wr.heap.size) (d0 : Blk w2 w.heap.size #[.int .i64 Mana.zeroC.g, .int .i64 Mana.zeroC.x, .int .i64 Mana.zeroC.c0, .int .i64 Mana.zeroC.c1, .int .i64 Mana.zeroC.c2, .int .i64 Mana.zeroC.c3, .int .i64 Mana.zeroC.c4] 24) (d1 : Blk w2 (w.heap.size + 1) #[.int .i64 c.g, .int .i64 c.x, .int .i64 c.c0, .int .i64 c.c1, .int .i64 c.c2, .int .i64 c.c3, .int .i64 c.c4] 24) {z : Mana.Cst} (d2 : Blk w2 wr.heap.size #[.int .i64 z.g, .int .i64 z.x, .int .i64 z.c0, .int .i64 z.c1, .int .i64 z.c2, .int .i64 z.c3, .int .i64 z.c4] 24) (hb : Below w.heap.size w w2) :
    NextAt w c q ok (.pointer (some ⟨wr.heap.size, 0, none⟩)) (.bool ok) (set7 w2 wr.heap.size q) :=
  ⟨_, rfl, rfl, hr, d0.seven_other (by omega) q, d1.seven_other (by omega) q, d2.seven q, below_seven hb (by omega)⟩
theorem NextAt.new {w w2 : World} {c q : Mana.Cst} {ok : Bool} (hr : w.heap.size + 1 < w2.heap.size) (d0 : Blk w2 w.heap.size #[.int .i64 Mana.zeroC.g, .int .i64 Mana.zeroC.x, .int .i64 Mana.zeroC.c0, .int .i64 Mana.zeroC.c1, .int .i64 Mana.zeroC.c2, .int .i64 Mana.zeroC.c3, .int .i64 Mana.zeroC.c4] 24) (d1 : Blk w2 (w.heap.size + 1) #[.int .i64 c.g, .int .i64 c.x, .int .i64 c.c0, .int .i64 c.c1, .int .i64 c.c2, .int .i64 c.c3, .int .i64 c.c4] 24) (hb : Below w.heap.size w w2) :
    NextAt w c q ok (.pointer (some ⟨w2.heap.size, 0, none⟩)) (.bool ok) (w2.alloc (.cells #[.int .i64 q.g, .int .i64 q.x, .int .i64 q.c0, .int .i64 q.c1, .int .i64 q.c2, .int .i64 q.c3, .int .i64 q.c4] 24)) :=
  ⟨_, rfl, rfl, hr, d0.alloc _, d1.alloc _, Blk.new _ _ _, hb.alloc hb.size _⟩
set_option maxHeartbeats 1000000 in
set_option maxRecDepth 100000 in
theorem refParse8 (s : ByteArray) (w : World) :
    Calls Tryd.prog 19 #[.string s] w fun e w' => e = .returned (.tuple #[.agg #[.int .i64 (Mana.refC s.data.toList).g, .int .i64 (Mana.refC s.data.toList).x, .int .i64 (Mana.refC s.data.toList).c0, .int .i64 (Mana.refC s.data.toList).c1, .int .i64 (Mana.refC s.data.toList).c2, .int .i64 (Mana.refC s.data.toList).c3, .int .i64 (Mana.refC s.data.toList).c4], .int .i64 (Mana.refE s.data.toList)]) ∧ Below w.heap.size w w' := by
  obtain ⟨l, hl⟩ : ∃ l, s.data.toList = l := ⟨_, rfl⟩
  have HLS := Lib.hid hl
  have hln : Hid (l.length = s.size) := Lib.hid (by rw [← hl]; exact (Lib.size_eq s).symm)
  have HST := Lib.hid (ScanAt.start l w)
  rw [hl]
  clear hl
  by_cases hlong : 60 < s.size
  · have HR := Lib.hid (Mana.ref_long (l := l) (by rw [hln.out]; exact hlong))
    have HB0 := Lib.hid (HST.out.b0)
    have HB := Lib.hid (HST.out.hb)
    have i1 : (60 : Int) < (s.size : Int) := by omega
    rw [HR.out.1, HR.out.2]
    go_enter Tryd.func19, Tryd.ntmps19
    go_wp2
    exact bodyPost_ret (v := .tuple #[.agg #[.int .i64 0, .int .i64 0, .int .i64 0, .int .i64 0, .int .i64 0, .int .i64 0, .int .i64 0], .int .i64 3]) (by simp [results, Tryd.results19, go_sem]) rfl ⟨rfl, by go_grown⟩
  · have i1 : ¬ (60 : Int) < (s.size : Int) := by omega
    have HLO : Hid (¬ 60 < l.length) := Lib.hid (by rw [hln.out]; exact hlong)
    go_enter Tryd.func19, Tryd.ntmps19
    go_wp2
    go_loopw [5] (fun i wr => ∃ (k : Nat) (c : Mana.Cst), k ≤ s.size ∧ i = .int .i64 (k : Int) ∧ ScanAt l w k c wr) (fun i _ => s.size - (intOf i).toNat)
    case atStart => exact ⟨0, Mana.zeroC, by omega, rfl, HST.out⟩
    case round =>
      clear HST
      obtain ⟨k, c, hk, rfl, hA⟩ := hrel
      have HA := Lib.hid hA
      have c1 := hA.b1.cell
      have f1 := hA.b1.free
      clear hA
      by_cases hlt : k < s.size
      · have i2 : (k : Int) < (s.size : Int) := by omega
        have hdk : l.drop k = s[k] :: l.drop (k + 1) := by
          rw [← HLS.out]
          exact List.drop_eq_getElem_cons (by simpa using hlt)
        have HSC : Hid (Mana.scanC Mana.zeroC l = Mana.scanC c (s[k] :: l.drop (k + 1))) := Lib.hid (by rw [← hdk]; exact HA.out.sc)
        clear hdk
        generalize hbk : s[k] = b at HSC
        have HBK := Lib.hid hbk
        have k9 := HA.out.b1.seven_cells
        have A0 := Lib.hid (HA.out.b0.alloc (.cells #[.int .i64 0, .int .i64 0, .int .i64 0, .int .i64 0, .int .i64 0, .int .i64 0, .int .i64 0] 24))
        have A1 := Lib.hid (HA.out.b1.alloc (.cells #[.int .i64 0, .int .i64 0, .int .i64 0, .int .i64 0, .int .i64 0, .int .i64 0, .int .i64 0] 24))
        have A2 := Lib.hid (Blk.new wr #[.int .i64 0, .int .i64 0, .int .i64 0, .int .i64 0, .int .i64 0, .int .i64 0, .int .i64 0] 24)
        have k7 := A1.out.seven_cells
        have AB := Lib.hid (HA.out.hb.alloc HA.out.hb.size (.cells #[.int .i64 0, .int .i64 0, .int .i64 0, .int .i64 0, .int .i64 0, .int .i64 0, .int .i64 0] 24))
        have hbs := HA.out.hb.size
        have hlt1 : w.heap.size + 1 < wr.heap.size := HA.out.b1.lt
        have hsz : wr.heap.size + 1 ≤ (wr.alloc (.cells #[.int .i64 0, .int .i64 0, .int .i64 0, .int .i64 0, .int .i64 0, .int .i64 0, .int .i64 0] 24)).heap.size := by simp
        have hix := indexStr s k hlt b hbk
        clear hbk c1 f1
        obtain ⟨q, ok, hsr, hsy⟩ := symRes_any c b
        have HY := Lib.hid hsr
        have HSY := Lib.hid hsy
        clear hsr hsy
        go_wp2_with fail
        go_cut [6, 7] (fun p o wx => NextAt w c q ok p o wx)
        case first =>
          go_region_held3 (fun w' => w'.cell? ⟨w.heap.size + 1, 0, none⟩ = some (.int .i64 c.g) ∧ w'.cell? ⟨w.heap.size + 1, 1, none⟩ = some (.int .i64 c.x) ∧ w'.cell? ⟨w.heap.size + 1, 2, none⟩ = some (.int .i64 c.c0) ∧ w'.cell? ⟨w.heap.size + 1, 3, none⟩ = some (.int .i64 c.c1) ∧ w'.cell? ⟨w.heap.size + 1, 4, none⟩ = some (.int .i64 c.c2) ∧ w'.cell? ⟨w.heap.size + 1, 5, none⟩ = some (.int .i64 c.c3) ∧ w'.cell? ⟨w.heap.size + 1, 6, none⟩ = some (.int .i64 c.c4))
            (first | (with_reducible exact k9) | (with_reducible exact k7) | (with_reducible exact k8) | (with_reducible exact D1.out.cells_far (Nat.ne_of_lt hlt1) _ _ _ _ _ _ _) | (with_reducible exact (D1.out.alloc _).seven_cells) | go_keep)
            (first | (go_at_call 42; ((with_reducible refine (fromBase (C := wr.heap.size + 1) (w0 := wr.alloc (.cells #[.int .i64 0, .int .i64 0, .int .i64 0, .int .i64 0, .int .i64 0, .int .i64 0, .int .i64 0] 24)) ?_ hsz (refCount c b k HA.out.sm (by omega) _)).mono ?_)); (go_grown); rintro e w2 ⟨rfl, hb2⟩; rw [HY.out]; have D0 := Lib.hid (A0.out.below hb2 (by omega)); have D1 := Lib.hid (A1.out.below hb2 (by omega)); have D2 := Lib.hid (A2.out.below hb2 (by omega)); have DB := Lib.hid (AB.out.trans (hb2.mono (by omega))); have k8 := D1.out.seven_cells; have c8 := D2.out.cell; have f8 := D2.out.free; clear hb2) | (go_at_call 42; ((with_reducible refine (fromBase (C := wr.heap.size) (w0 := wr) ?_ (Nat.le_refl _) (refCount c b k HA.out.sm (by omega) _)).mono ?_)); (go_grown); rintro e w2 ⟨rfl, hb2⟩; rw [HY.out]; have D0 := Lib.hid (HA.out.b0.below hb2 HA.out.b0.lt); have D1 := Lib.hid (HA.out.b1.below hb2 HA.out.b1.lt); have DB := Lib.hid (HA.out.hb.trans (hb2.mono (by omega))); have k8 := D1.out.seven_cells; clear hb2))
          all_goals (go_wp2_with fail; (try simp only [Act.put, List.getElem_toArray, List.getElem_cons_succ, List.getElem_cons_zero, List.setIfInBounds_toArray, List.set_cons_zero, List.set_cons_succ]); go_meet; first | (have c9 := c8; clear c9; exact NextAt.far hlt1 D0.out D1.out (z := Mana.zeroC) D2.out DB.out) | exact NextAt.new D1.out.lt D0.out D1.out DB.out)
        case rest =>
        obtain ⟨B, rfl, rfl, hB, F0, F1, F2, FB⟩ := hcut
        have G0 := Lib.hid F0
        have G1 := Lib.hid F1
        have GB := Lib.hid FB
        have c2 := F2.cell
        clear F0 F1 F2 FB k9 k7 A0 A1 A2 AB
        by_cases hok : ok = true
        · subst hok
          have hsy : Mana.addSym c b = some q := HSY.out
          by_cases hdg : 99 < q.g
          · have HR := Lib.hid (Mana.ref_stop HLO.out (by rw [HSC.out, Mana.scan_big hsy hdg]))
            clear hsy
            have c0 := G0.out.cell
            have f0 := G0.out.free
            go_wp2_with fail
            rw [HR.out.1, HR.out.2]
            change bodyPost _ _ _ _ _ (set7 wc w.heap.size Mana.zeroC)
            have hB := (G0.out.seven Mana.zeroC).cell
            have HF := Lib.hid (below_seven (q := Mana.zeroC) (b := w.heap.size) GB.out (Nat.le_refl _))
            clear c0 f0 c2 G0 G1 GB
            generalize set7 wc w.heap.size Mana.zeroC = we at hB HF
            exact bodyPost_ret (v := .tuple #[.agg #[.int .i64 Mana.zeroC.g, .int .i64 Mana.zeroC.x, .int .i64 Mana.zeroC.c0, .int .i64 Mana.zeroC.c1, .int .i64 Mana.zeroC.c2, .int .i64 Mana.zeroC.c3, .int .i64 Mana.zeroC.c4], .int .i64 3]) (by simp [results, Tryd.results19, go_sem, hB]) rfl ⟨rfl, HF.out⟩
          · have HN := Lib.hid (HA.out.sm.next hsy hdg)
            have HQ : Hid (Mana.scanC Mana.zeroC l = Mana.scanC q (l.drop (k + 1))) := Lib.hid (by rw [HSC.out, Mana.scan_go hsy hdg])
            clear hsy
            have c1 := G1.out.cell
            have f1 := G1.out.free
            go_wp2_with fail
            go_roundw
            case rel => exact ⟨k + 1, q, by omega, by go_num, show ScanAt l w (k + 1) q (set7 wc (w.heap.size + 1) q) from ⟨HQ.out, HN.out, G0.out.seven_other (by omega) q, G1.out.seven q, below_seven GB.out (by omega)⟩⟩
            case measure => simp [intOf]; omega
        · obtain rfl : ok = false := by simpa using hok
          have hsy : Mana.addSym c b = none := HSY.out
          have HR := Lib.hid (Mana.ref_stop HLO.out (by rw [HSC.out, Mana.scan_stop hsy]))
          clear hsy hok
          have c0 := G0.out.cell
          have f0 := G0.out.free
          go_wp2_with fail
          rw [HR.out.1, HR.out.2]
          change bodyPost _ _ _ _ _ (set7 wc w.heap.size Mana.zeroC)
          have hB := (G0.out.seven Mana.zeroC).cell
          have HF := Lib.hid (below_seven (q := Mana.zeroC) (b := w.heap.size) GB.out (Nat.le_refl _))
          clear c0 f0 c2 G0 G1 GB
          generalize set7 wc w.heap.size Mana.zeroC = we at hB HF
          exact bodyPost_ret (v := .tuple #[.agg #[.int .i64 Mana.zeroC.g, .int .i64 Mana.zeroC.x, .int .i64 Mana.zeroC.c0, .int .i64 Mana.zeroC.c1, .int .i64 Mana.zeroC.c2, .int .i64 Mana.zeroC.c3, .int .i64 Mana.zeroC.c4], .int .i64 3]) (by simp [results, Tryd.results19, go_sem, hB]) rfl ⟨rfl, HF.out⟩
      · obtain rfl : k = s.size := by omega
        have i2 : ¬ (s.size : Int) < (s.size : Int) := by omega
        have HSC : Hid (Mana.scanC Mana.zeroC l = some c) := Lib.hid (by rw [HA.out.sc, List.drop_of_length_le (by rw [hln.out]; exact Nat.le_refl _)]; rfl)
        have c0 := HA.out.b0.cell
        have f0 := HA.out.b0.free
        by_cases hnil : l = []
        · have HR := Lib.hid (Mana.ref_bad HLO.out HSC.out (fun h => h.1 hnil))
          have t1 : (s.toList == []) = true := by rw [bytes_list, HLS.out, hnil]; rfl
          clear hnil
          go_wp2_with fail
          rw [HR.out.1, HR.out.2]
          change bodyPost _ _ _ _ _ (set7 wr w.heap.size Mana.zeroC)
          have hB := (HA.out.b0.seven Mana.zeroC).cell
          have HF := Lib.hid (below_seven (q := Mana.zeroC) (b := w.heap.size) HA.out.hb (Nat.le_refl _))
          clear c0 f0 c1 f1 HA
          generalize set7 wr w.heap.size Mana.zeroC = we at hB HF
          exact bodyPost_ret (v := .tuple #[.agg #[.int .i64 Mana.zeroC.g, .int .i64 Mana.zeroC.x, .int .i64 Mana.zeroC.c0, .int .i64 Mana.zeroC.c1, .int .i64 Mana.zeroC.c2, .int .i64 Mana.zeroC.c3, .int .i64 Mana.zeroC.c4], .int .i64 3]) (by simp [results, Tryd.results19, go_sem, hB]) rfl ⟨rfl, HF.out⟩
        · have t1 : (s.toList == []) = false := by rw [bytes_list, HLS.out]; simpa using hnil
          have HNN := Lib.hid hnil
          clear hnil
          go_wp2_with fail
          refine (refText8 c _).mono ?_
          rintro e w2 ⟨rfl, hb2⟩
          have B0 := Lib.hid (HA.out.b0.below hb2 HA.out.b0.lt)
          have B1 := Lib.hid (HA.out.b1.below hb2 HA.out.b1.lt)
          have HB := Lib.hid (HA.out.hb.trans (hb2.mono HA.out.hb.size))
          clear c0 f0 c1 f1 hb2 HA
          have c0 := B0.out.cell
          have f0 := B0.out.free
          have c1 := B1.out.cell
          have f1 := B1.out.free
          go_wp2_with fail
          · have ht : (!Mana.textL c == s.toList) = true := by assumption
            have HR := Lib.hid (Mana.ref_bad HLO.out HSC.out (fun h => ne_of_test ht (h.2.trans HLS.out.symm)))
            rw [HR.out.1, HR.out.2]
            change bodyPost _ _ _ _ _ (set7 w2 w.heap.size Mana.zeroC)
            have hB := (B0.out.seven Mana.zeroC).cell
            have HF := Lib.hid (below_seven (q := Mana.zeroC) (b := w.heap.size) HB.out (Nat.le_refl _))
            clear c0 f0 c1 f1 B0 B1 HB
            generalize set7 w2 w.heap.size Mana.zeroC = we at hB HF
            exact bodyPost_ret (v := .tuple #[.agg #[.int .i64 Mana.zeroC.g, .int .i64 Mana.zeroC.x, .int .i64 Mana.zeroC.c0, .int .i64 Mana.zeroC.c1, .int .i64 Mana.zeroC.c2, .int .i64 Mana.zeroC.c3, .int .i64 Mana.zeroC.c4], .int .i64 3]) (by simp [results, Tryd.results19, go_sem, hB]) rfl ⟨rfl, HF.out⟩
          · have ht : (!Mana.textL c == s.toList) = false := by assumption
            have HR := Lib.hid (Mana.ref_good HLO.out HSC.out ⟨HNN.out, (eq_of_test ht).trans HLS.out⟩)
            rw [HR.out.1, HR.out.2]
            go_wp2
            change bodyPost _ _ _ _ _ (set7 w2 w.heap.size c)
            have hB := (B0.out.seven c).cell
            have HF := Lib.hid (below_seven (q := c) (b := w.heap.size) HB.out (Nat.le_refl _))
            clear c0 f0 c1 f1 B0 B1 HB
            generalize set7 w2 w.heap.size c = we at hB HF
            exact bodyPost_ret (v := .tuple #[.agg #[.int .i64 c.g, .int .i64 c.x, .int .i64 c.c0, .int .i64 c.c1, .int .i64 c.c2, .int .i64 c.c3, .int .i64 c.c4], .int .i64 0]) (by simp [results, Tryd.results19, go_sem, hB]) rfl ⟨rfl, HF.out⟩
end Go.Proofs.YtcllaenanihedaaDoor
