/-
  WHO IS READY: the contracts of the closure 'waits', of slices.IndexFunc and ContainsFunc with it, of 'ready'. By an AI agent.
-/
import Derived.Test.YtkocfhacfmlmaaaDepLoops
import Derived.RegionTactic
import Derived.Deep.QuietTactic
import Derived.BigQuiet
namespace Go.Proofs.Ytkocfhacfmlmaaa
open Go.RowKit

/-- does the element at p wait for the one at q? -/
def waitsS (L : List Int) (p q : Nat) : Bool := L.getD q 0 != -1 && L.getD q 0 != L.getD p 0
set_option maxHeartbeats 1000000 in
set_option maxRecDepth 100000 in
theorem waits (w : World) (bl bp p q : Nat) (vL : Value) (L : List Int) (hc : w.cell? ⟨bl, 0, none⟩ = some vL) (hL : Ints w vL L) (hp : w.cell? ⟨bp, 0, none⟩ = some (.int .i64 (p : Int))) (hpl : p < L.length) (hql : q < L.length) :
    Calls Try.prog 29 #[.int .i64 (q : Int), .pointer (some ⟨bl, 0, none⟩), .pointer (some ⟨bp, 0, none⟩)] w fun e w' => e = .returned (.bool (waitsS L p q)) ∧ Below w.heap.size w w' := by
  obtain ⟨a, cap, rfl, hc1, hc2, -, hcell⟩ := hL
  obtain ⟨b, o, rfl, -, -, -, cq⟩ := hcell q _ (getD_get (d := 0) hql)
  obtain ⟨b', o', e, -, -, -, cp⟩ := hcell p _ (getD_get (d := 0) hpl)
  injection e with e
  injection e with e1 e2
  subst e1 e2
  replace cq : w.cell? ⟨b, o + q, none⟩ = some (.int .i64 (L.getD q 0)) := cq
  replace cp : w.cell? ⟨b, o + p, none⟩ = some (.int .i64 (L.getD p 0)) := cp
  have hqi : (0 : Int) ≤ (q : Int) ∧ (q : Int) < (L.length : Int) := by omega
  have hpi : (0 : Int) ≤ (p : Int) ∧ (p : Int) < (L.length : Int) := by omega
  have HS : Hid (waitsS L p q = (L.getD q 0 != -1 && L.getD q 0 != L.getD p 0)) := Lib.hid rfl
  generalize waitsS L p q = out at HS ⊢
  generalize L.getD q 0 = x at cq HS
  generalize L.getD p 0 = y at cp HS
  clear hcell hc1 hc2
  unfold encI at *
  by_cases hx : x = -1
  · have HO : Hid (out = false) := Lib.hid (by rw [HS.out, hx]; rfl)
    have t1 : (x != -1) = false := by simp [hx]
    clear hx HS
    go_enter Try.func29, Try.ntmps29
    go_wp2_with fail
    go_quiet (fail)
    go_wp2_with fail
    go_ret
    exact ⟨ret_bool HO.out.symm, below_drewN (Below.refl _ _) _⟩
  · have t1 : (x != -1) = true := by simp only [bne_iff_ne]; exact hx
    by_cases hxy : x = y
    · have HO : Hid (out = false) := Lib.hid (by rw [HS.out, hxy]; simp)
      have t2 : (x != y) = false := by simp [hxy]
      clear hx hxy HS
      go_enter Try.func29, Try.ntmps29
      go_wp2_with fail
      go_quiet (fail)
      go_wp2_with fail
      go_ret
      exact ⟨ret_bool HO.out.symm, below_drewN (Below.refl _ _) _⟩
    · have t2 : (x != y) = true := by simp only [bne_iff_ne]; exact hxy
      have HO : Hid (out = true) := Lib.hid (by rw [HS.out, t1, t2]; rfl)
      clear hx hxy HS
      go_enter Try.func29, Try.ntmps29
      go_wp2_with fail
      go_quiet (fail)
      go_wp2_with fail
      go_ret
      exact ⟨ret_bool HO.out.symm, below_drewN (Below.refl _ _) _⟩
theorem any_step {α : Type} {l : List α} {d : α} {f : α → Bool} {k : Nat} (h : ∀ j, j < k → f (l.getD j d) = false) (hf : f (l.getD k d) = false) : ∀ j, j < k + 1 → f (l.getD j d) = false := fun j hj => by
  by_cases e : j = k
  · rw [e]; exact hf
  · exact h j (by omega)
theorem any_none {α : Type} {l : List α} {d : α} {f : α → Bool} (h : ∀ j, j < l.length → f (l.getD j d) = false) : l.any f = false := by
  rw [List.any_eq_false]
  intro x hx
  obtain ⟨j, hj, rfl⟩ := List.getElem_of_mem hx
  have := h j hj
  rw [List.getD_eq_getElem?_getD, List.getElem?_eq_getElem hj] at this
  simpa using this
theorem any_one {α : Type} {l : List α} {d : α} {f : α → Bool} {k : Nat} (hk : k < l.length) (hf : f (l.getD k d) = true) : l.any f = true := by
  rw [List.any_eq_true]
  refine ⟨l[k], List.getElem_mem _, ?_⟩
  rw [List.getD_eq_getElem?_getD, List.getElem?_eq_getElem hk] at hf
  exact hf
theorem getD_mem {α : Type} {l : List α} {d : α} {k : Nat} (hk : k < l.length) : l.getD k d ∈ l := by
  rw [List.getD_eq_getElem?_getD, List.getElem?_eq_getElem hk]
  exact List.getElem_mem _
set_option maxHeartbeats 1000000 in
set_option maxRecDepth 100000 in
theorem indexWaits (w : World) (bl bp p : Nat) (vL v : Value) (L : List Int) (l : List Nat) (hc : w.cell? ⟨bl, 0, none⟩ = some vL) (hL : Ints w vL L) (hp : w.cell? ⟨bp, 0, none⟩ = some (.int .i64 (p : Int))) (hpl : p < L.length)
    (hv : RowIn encN 0 w.heap.size w v l) (hl : ∀ q, q ∈ l → q < L.length) :
    Calls Try.prog 37 #[v, .func (Fn.func 29) #[] #[.pointer (some ⟨bl, 0, none⟩), .pointer (some ⟨bp, 0, none⟩)]] w fun e w' =>
      ((∃ k : Nat, e = .returned (.int .i64 (k : Int)) ∧ l.any (waitsS L p) = true) ∨ (e = .returned (.int .i64 (-1)) ∧ l.any (waitsS L p) = false)) ∧ Below w.heap.size w w' := by
  have HL := Lib.hid hL
  have HC := Lib.hid hc
  have HP := Lib.hid hp
  have HB : Hid (bl < w.heap.size ∧ bp < w.heap.size) := Lib.hid ⟨World.block_lt_of_cell? w _ hc, World.block_lt_of_cell? w _ hp⟩
  obtain ⟨a, cap, rfl, hc1, hc2, -, hcell⟩ := hv
  unfold maxLen at hc2
  have D := Lib.hid hcell
  clear hcell hL hc hp
  go_enter Try.func37, Try.ntmps37
  go_wp2_with fail
  go_loopw [8] (fun i wr => ∃ k : Nat, k ≤ l.length ∧ i = .int .i64 (k : Int) ∧ Hid (∀ j, j < k → waitsS L p (l.getD j 0) = false) ∧ Below w.heap.size w wr) (fun i _ => l.length - (intOf i).toNat)
  case atStart => exact ⟨0, by omega, rfl, Lib.hid (fun j hj => by omega), Below.refl _ _⟩
  case round =>
    obtain ⟨k, hk, rfl, HE, hb⟩ := hrel
    by_cases hlt : k < l.length
    · have i1 : (k : Int) < (l.length : Int) := by omega
      have hki : (0 : Int) ≤ (k : Int) ∧ (k : Int) < (l.length : Int) := by omega
      obtain ⟨b1, o1, rfl, -, -, hq, hcell⟩ := D.out k _ (getD_get (d := 0) hlt)
      have c1 : wr.cell? ⟨b1, o1 + k, none⟩ = some (.int .i64 ((l.getD k 0 : Nat) : Int)) := (hb.cell hq).trans hcell
      have HW := Lib.hid (waits wr bl bp p (l.getD k 0) vL L ((hb.cell (p := ⟨bl, 0, none⟩) HB.out.1).trans HC.out) (HL.out.under hb (Nat.le_refl _)) ((hb.cell (p := ⟨bp, 0, none⟩) HB.out.2).trans HP.out) hpl (hl _ (getD_mem hlt)))
      have HLT := Lib.hid hlt
      cases hw : waitsS L p (l.getD k 0) with
      | true =>
        have HA := Lib.hid (any_one HLT.out hw)
        rw [hw] at HW
        generalize l.getD k 0 = q at c1 HW
        clear hcell hw
        go_wp2_with (go_at_call 29; refine HW.out.mono ?_)
        rintro e w3 ⟨rfl, hb3⟩
        have HB3 := Lib.hid (hb.trans (hb3.mono hb.size))
        clear HW hb3
        go_wp2_with fail
        go_ret
        exact ⟨.inl ⟨k, rfl, HA.out⟩, HB3.out⟩
      | false =>
        have HE' := Lib.hid (any_step HE.out hw)
        rw [hw] at HW
        generalize l.getD k 0 = q at c1 HW
        clear hcell hw
        go_wp2_with (go_at_call 29; refine HW.out.mono ?_)
        rintro e w3 ⟨rfl, hb3⟩
        have HB3 := Lib.hid (hb.trans (hb3.mono hb.size))
        clear HW hb3
        go_wp2_with fail
        go_roundw
        case rel => exact ⟨k + 1, by omega, by go_num, HE', HB3.out⟩
        case measure => simp [intOf]; omega
    · obtain rfl : k = l.length := by omega
      have HN := Lib.hid (any_none HE.out)
      go_wp2_with fail
      go_ret
      exact ⟨.inr ⟨rfl, HN.out⟩, hb⟩
set_option maxHeartbeats 1000000 in
set_option maxRecDepth 100000 in
theorem containsWaits (w : World) (bl bp p : Nat) (vL v : Value) (L : List Int) (l : List Nat) (hc : w.cell? ⟨bl, 0, none⟩ = some vL) (hL : Ints w vL L) (hp : w.cell? ⟨bp, 0, none⟩ = some (.int .i64 (p : Int))) (hpl : p < L.length)
    (hv : RowIn encN 0 w.heap.size w v l) (hl : ∀ q, q ∈ l → q < L.length) :
    Calls Try.prog 30 #[v, .func (Fn.func 29) #[] #[.pointer (some ⟨bl, 0, none⟩), .pointer (some ⟨bp, 0, none⟩)]] w fun e w' =>
      e = .returned (.bool (l.any (waitsS L p))) ∧ Below w.heap.size w w' := by
  have HI := Lib.hid (indexWaits w bl bp p vL v L l hc hL hp hpl hv hl)
  obtain ⟨a, cap, rfl, -⟩ := hv
  clear hc hL hp hpl hl
  go_enter Try.func30, Try.ntmps30
  go_wp2_with (go_at_call 37; refine HI.out.mono ?_)
  rintro e w3 ⟨⟨k, rfl, ha⟩ | ⟨rfl, ha⟩, hb⟩
  · have HA := Lib.hid ha
    clear ha HI
    have h0 : (0 : Int) ≤ (k : Int) := by omega
    go_wp2_with fail
    go_ret
    exact ⟨ret_bool (by rw [HA.out]), hb⟩
  · have HA := Lib.hid ha
    clear ha HI
    go_wp2_with fail
    go_ret
    exact ⟨ret_bool (by rw [HA.out]), hb⟩
/-- those of the first k places that are ready -/
def readyAcc (L : List Int) (Wn : List (List Nat)) (el : List Int) (k : Nat) : List Int := ((List.range k).filter fun p => L.getD p 0 != -1 && !((Wn.getD p []).any (waitsS L p))).map fun p => el.getD p 0
theorem readyAcc_in {L : List Int} {Wn : List (List Nat)} {el : List Int} {k : Nat} (h1 : L.getD k 0 ≠ -1) (h2 : (Wn.getD k []).any (waitsS L k) = false) : readyAcc L Wn el (k + 1) = readyAcc L Wn el k ++ [el.getD k 0] := by
  have e : (L.getD k 0 != -1 && !((Wn.getD k []).any (waitsS L k))) = true := by rw [h2]; simpa using h1
  unfold readyAcc
  rw [List.range_succ, List.filter_append, List.map_append, List.filter_cons, if_pos e]
  rfl
theorem readyAcc_out {L : List Int} {Wn : List (List Nat)} {el : List Int} {k : Nat} (h : L.getD k 0 = -1 ∨ (Wn.getD k []).any (waitsS L k) = true) : readyAcc L Wn el (k + 1) = readyAcc L Wn el k := by
  have e : (L.getD k 0 != -1 && !((Wn.getD k []).any (waitsS L k))) = false := by
    rcases h with h | h
    · rw [h]; rfl
    · rw [h]; simp
  unfold readyAcc
  rw [List.range_succ, List.filter_append, List.map_append, List.filter_cons, if_neg (by rw [e]; simp)]
  simp
theorem readyAcc_length (L : List Int) (Wn : List (List Nat)) (el : List Int) (k : Nat) : (readyAcc L Wn el k).length ≤ k := by
  unfold readyAcc
  rw [List.length_map]
  exact Nat.le_trans (List.length_filter_le _ _) (by simp)
/-- the ready ones under way -/
def ReadyAt (w3 : World) (L : List Int) (Wn : List (List Nat)) (el : List Int) (n : Nat) (vs i : Value) (wr : World) : Prop :=
  ∃ k : Nat, k ≤ n ∧ i = .int .i64 (k : Int) ∧ OwnI w3.heap.size wr vs (readyAcc L Wn el k) ∧ Below w3.heap.size w3 wr
set_option maxHeartbeats 4000000 in
set_option maxRecDepth 100000 in
theorem ready (w : World) (lv wv rv : Value) (el : List Int) (Wn : List (List Nat)) (rmL : List Bool) (n : Nat) (hl : Ints w lv el) (hw : Grid encN 0 w.heap.size w wv Wn) (hr : RowIn encB 0 w.heap.size w rv rmL)
    (hn : el.length = n) (hWn : Wn.length = n) (hrn : rmL.length = n) (hinn : ∀ p q, q ∈ Wn.getD p [] → q < n) (hsm : n ≤ 1000000) :
    Calls Try.prog 20 #[.agg #[lv, wv, rv]] w fun e w' => ∃ v L, e = .returned v ∧ OwnI w.heap.size w' v (readyAcc L Wn el n) ∧ Below w.heap.size w w' ∧ LoopsOk Wn n (nth false rmL) L := by
  have hmf : ∀ (fn : Fn) (first cap : Array Value) (w : World), (Instr.makeFunc fn first cap).run Try.prog w = .ok (.func fn first cap) w := fun _ _ _ _ => rfl
  have hb1 := below_alloc1 w (.cells #[lv, wv, rv] 36)
  have hbox : (w.alloc (.cells #[lv, wv, rv] 36)).heap[w.heap.size]? = some (.cells #[lv, wv, rv] 36 (0, 0)) := heap_alloc_new _ _
  have HC := Lib.hid (loops _ lv wv rv el Wn rmL n (hl.under hb1 (Nat.le_refl _)) (hw.under hb1 (Nat.le_refl _)) ((hr.under hb1 (Nat.le_refl _))) hn hWn hrn hinn hsm)
  have HB1 := Lib.hid hb1
  have HBOX := Lib.hid hbox
  have HL := Lib.hid hl
  have HW := Lib.hid hw
  have HN := Lib.hid hn
  have HWN := Lib.hid hWn
  have HINN := Lib.hid hinn
  obtain ⟨la, lc, rfl, hl1, hl2, -⟩ := hl
  obtain ⟨wa, wc, rfl, hw1, hw2⟩ := hw.len
  obtain ⟨ra, rc, rfl, hr1, hr2, -⟩ := hr
  rw [hn] at hl1 HC HB1 HBOX HL ⊢
  rw [hrn] at hr1 HC HB1 HBOX ⊢
  rw [hWn] at hw2 HC HB1 HBOX HW ⊢
  unfold maxLen at hl2 hr2
  clear hw hb1 hbox hw1 hw2 hn hWn hrn hinn hr1 hr2
  go_enter Try.func20, Try.ntmps20
  go_wp2_with (go_at_call 28; refine HC.out.mono ?_)
  rintro e w2 ⟨vL, L, rfl, hoL, hb2, hok⟩
  obtain ⟨aL, cL, rfl, hL1, hL2, -⟩ := hoL.row
  have HOL := Lib.hid hoL
  have HB2 := Lib.hid hb2
  have HOK := Lib.hid hok
  have hLn := hok.1
  rw [hLn] at HOL ⊢
  have hbox2 : w2.heap[w.heap.size]? = some (.cells #[.slice la n lc, .slice wa n wc, .slice ra n rc] 36 (0, 0)) := (hb2.block _ (by simp)).trans HBOX.out
  have box00 : w2.cell? ⟨w.heap.size, 0, none⟩ = some (.slice la n lc) := by simp [World.cell?, hbox2]
  have box1 : w2.cell? ⟨w.heap.size, 1, none⟩ = some (.slice wa n wc) := by simp [World.cell?, hbox2]
  have hs12 : w.heap.size < w2.heap.size := by have := hb2.size; simp at this; omega
  have hbv := below_alloc1 w2 (.cells #[.slice aL n cL] 22)
  have HBV := Lib.hid hbv
  have box0 : (w2.alloc (.cells #[.slice aL n cL] 22)).cell? ⟨w.heap.size, 0, none⟩ = some (.slice la n lc) := (hbv.cell (p := ⟨w.heap.size, 0, none⟩) hs12).trans box00
  have HBX1 := Lib.hid box1
  have HS12 := Lib.hid hs12
  have HCV : Hid ((w2.alloc (.cells #[.slice aL n cL] 22)).cell? ⟨w2.heap.size, 0, none⟩ = some (.slice aL n cL)) := Lib.hid (cell_of_one (heap_alloc_new _ _))
  have HALL := Lib.hid (show Below w.heap.size w (w2.alloc (.cells #[.slice aL n cL] 22)) from (HB1.out.trans (HB2.out.mono HB1.out.size)).trans (hbv.mono (by omega)))
  clear hoL hb2 hok hL1 hL2 HC hbox2 box1 box00 hs12 hbv
  go_wp2_with fail
  go_loopw [3, 13] (fun vs i wr => ReadyAt (w2.alloc (.cells #[.slice aL n cL] 22)) L Wn el n vs i wr) (fun _ i _ => n - (intOf i).toNat)
  case atStart => exact ⟨0, Nat.zero_le _, rfl, OwnRow.nil _ _ _ _, Below.refl _ _⟩
  case round =>
    clear box0
    obtain ⟨k, hk, rfl, hown, hb⟩ := hrel
    have HB := Lib.hid hb
    have HOWN := Lib.hid hown
    have hsz : (w2.alloc (.cells #[.slice aL n cL] 22)).heap.size = w2.heap.size + 1 := by simp
    have HSZ := Lib.hid hsz
    have hszr := hb.size
    rw [hsz] at hszr
    by_cases hlt : k < n
    · have i1 : (k : Int) < (n : Int) := by omega
      have hki : (0 : Int) ≤ (k : Int) ∧ (k : Int) < (n : Int) := by omega
      have hba := below_alloc1 wr (.cells #[.int .i64 (k : Int)] 3)
      have cv0 : wr.cell? ⟨w2.heap.size, 0, none⟩ = some (.slice aL n cL) := (hb.cell (p := ⟨w2.heap.size, 0, none⟩) (by rw [hsz]; exact Nat.lt_succ_self _)).trans HCV.out
      have cv : (wr.alloc (.cells #[.int .i64 (k : Int)] 3)).cell? ⟨w2.heap.size, 0, none⟩ = some (.slice aL n cL) := (hba.cell (p := ⟨w2.heap.size, 0, none⟩) (by show w2.heap.size < wr.heap.size; omega)).trans cv0
      have hnl := HALL.out.trans (hb.mono HALL.out.size)
      have HNL := Lib.hid hnl
      -- the element itself
      obtain ⟨a9, cap9, e9, -, -, -, hc9⟩ := HL.out
      obtain ⟨rfl, -, rfl⟩ := sl_eq e9
      obtain ⟨bl, ol, rfl, -, -, hbl, hcell⟩ := hc9 k _ (getD_get (d := 0) (by rw [HN.out]; exact hlt))
      have ce : wr.cell? ⟨bl, ol + k, none⟩ = some (.int .i64 (el.getD k 0)) := (hnl.cell (p := ⟨bl, ol + k, none⟩) hbl).trans hcell
      -- its loop
      obtain ⟨a8, cap8, e8, -, -, -, hc8⟩ := (HOL.out.row.all)
      obtain ⟨rfl, -, rfl⟩ := sl_eq e8
      obtain ⟨bL, oL, rfl, -, -, hbL, hcell2⟩ := hc8 k _ (getD_get (d := 0) (by rw [HOK.out.1]; exact hlt))
      have cl : (wr.alloc (.cells #[.int .i64 (k : Int)] 3)).cell? ⟨bL, oL + k, none⟩ = some (.int .i64 (L.getD k 0)) := (hba.cell (p := ⟨bL, oL + k, none⟩) (by show bL < wr.heap.size; omega)).trans <| (hb.cell (p := ⟨bL, oL + k, none⟩) (by rw [hsz]; show bL < w2.heap.size + 1; omega)).trans ((HBV.out.cell (p := ⟨bL, oL + k, none⟩) hbL).trans hcell2)
      have HLT := Lib.hid hlt
      clear hcell hcell2 hc9 hc8 e9 e8 hb hown hnl hsz
      by_cases hlk : L.getD k 0 = -1
      · have t1 : (L.getD k 0 != -1) = false := by rw [hlk]; rfl
        have HO := Lib.hid (readyAcc_out (Wn := Wn) (el := el) (.inl hlk))
        clear hlk
        generalize L.getD k 0 = x at *
        go_wp2_with fail
        go_roundw
        case rel => exact ⟨k + 1, HLT.out, by go_num, by rw [HO.out]; exact HOWN.out.below (below_alloc1 _ _) (Nat.le_refl _), HB.out.trans ((below_alloc1 _ _).mono HB.out.size)⟩
        case measure => simp [intOf]; omega
      · have t1 : (L.getD k 0 != -1) = true := by simp only [bne_iff_ne]; exact hlk
        have bx0 : wr.cell? ⟨w.heap.size, 1, none⟩ = some (.slice wa n wc) := (HB.out.cell (p := ⟨w.heap.size, 1, none⟩) (by rw [HSZ.out]; show w.heap.size < _; have := HS12.out; omega)).trans ((HBV.out.cell (p := ⟨w.heap.size, 1, none⟩) HS12.out).trans HBX1.out)
        have bx1 : (wr.alloc (.cells #[.int .i64 (k : Int)] 3)).cell? ⟨w.heap.size, 1, none⟩ = some (.slice wa n wc) := (hba.cell (p := ⟨w.heap.size, 1, none⟩) (by show w.heap.size < wr.heap.size; have := HS12.out; omega)).trans bx0
        have hG := HW.out.under HNL.out (Nat.le_refl _)
        obtain ⟨bw, ow, hd, rfl, -, -, hbw, cw, hrw⟩ := hG.row HLT.out
        replace cw := (hba.cell (p := ⟨bw, ow + k, none⟩) hbw).trans cw
        have HLNK : Hid (L.length = n) := Lib.hid HOK.out.1
        have HC := Lib.hid (containsWaits (wr.alloc (.cells #[.int .i64 (k : Int)] 3)) w2.heap.size wr.heap.size k (.slice (some ⟨bL, oL, none⟩) n cL) (encH hd) L (Wn.getD k []) cv
          (((HOL.out.row.all).under HBV.out (Nat.le_refl _)).under (HB.out.trans (hba.mono HB.out.size)) (Nat.le_refl _)) (cell_of_one (heap_alloc_new _ _)) (by rw [HLNK.out]; exact HLT.out) (hrw.under hba (Nat.le_refl _)) (fun q hq => by rw [HLNK.out]; exact HINN.out k q hq))
        have HLK := Lib.hid hlk
        have HXX : Hid (L.getD k 0 = L.getD k 0) := Lib.hid rfl
        obtain ⟨ar, capr, ehd, -, -, -, -⟩ := hrw
        rw [ehd] at cw HC
        clear hG hlk ehd hba bx0 cv0
        cases hany : (Wn.getD k []).any (waitsS L k) with
        | true =>
          rw [hany] at HC
          have HO := Lib.hid (readyAcc_out (el := el) (.inr hany))
          clear hany
          generalize L.getD k 0 = x at cl t1
          go_wp2_with fail
          refine HC.out.mono ?_
          rintro e w5 ⟨rfl, hb5⟩
          have HB5 := Lib.hid ((below_alloc1 wr (.cells #[.int .i64 (k : Int)] 3)).trans (hb5.mono (by simp)))
          clear hb5 HC
          go_wp2_with fail
          go_roundw
          case rel => exact ⟨k + 1, HLT.out, by go_num, by rw [HO.out]; exact HOWN.out.below HB5.out (Nat.le_refl _), HB.out.trans (HB5.out.mono HB.out.size)⟩
          case measure => simp [intOf]; omega
        | false =>
          rw [hany] at HC
          have HO := Lib.hid (readyAcc_in (el := el) HLK.out hany)
          have hlen0 := readyAcc_length L Wn el k
          clear hany
          generalize L.getD k 0 = x at cl t1
          generalize el.getD k 0 = y at ce HO
          go_wp2_with fail
          refine HC.out.mono ?_
          rintro e w5 ⟨rfl, hb5⟩
          have hb5' := (below_alloc1 wr (.cells #[.int .i64 (k : Int)] 3)).trans (hb5.mono (by simp))
          have ho5 := HOWN.out.below hb5' (Nat.le_refl _)
          have hb05 := HB.out.trans (hb5'.mono HB.out.size)
          have hsz5 := hb05.size
          clear hb5 HC hb5'
          go_wp2_with (refine wpList_push_int rfl (.tmp 34) (.tmp 36) rfl rfl ho5 y rfl rfl (by omega) hsz5 hb05 ?_)
          intro v6 w6 ho6 hb6
          clear ho5 hb05
          go_wp2_with fail
          go_roundw
          case rel => exact ⟨k + 1, HLT.out, by go_num, by rw [HO.out, HSZ.out]; exact ho6, by rw [HSZ.out]; exact hb6⟩
          case measure => simp [intOf]; omega
    · obtain rfl : k = n := by omega
      go_wp2_with fail
      go_ret
      exact ⟨_, L, rfl, hown.mono (by rw [hsz]; have := HS12.out; omega), HALL.out.trans (hb.mono HALL.out.size), HOK.out⟩
end Go.Proofs.Ytkocfhacfmlmaaa
