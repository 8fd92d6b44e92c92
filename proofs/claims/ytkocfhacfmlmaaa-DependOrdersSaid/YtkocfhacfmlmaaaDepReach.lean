/-
  THE REFERENCE: the contract of reached. By an AI agent.
-/
import Derived.Test.YtkocfhacfmlmaaaDepRef
import Derived.Deep.QuietTactic
namespace Go.Proofs.Ytkocfhacfmlmaaa
open Go.RowKit

theorem nodup_sub : ∀ (l m : List Int), l.Nodup → (∀ x, x ∈ l → x ∈ m) → l.length ≤ m.length
  | [], _, _, _ => Nat.zero_le _
  | x :: r, m, hn, h => by
    rw [List.nodup_cons] at hn
    have hx := h x (by simp)
    have h1 := nodup_sub r (m.erase x) hn.2 (fun y hy => by
      have hne : y ≠ x := fun e => hn.1 (e ▸ hy)
      exact (List.mem_erase_of_ne hne).2 (h y (by simp [hy])))
    have h2 := List.length_erase_of_mem hx
    have h3 : 0 < m.length := List.length_pos_of_mem hx
    rw [List.length_cons]
    omega
/-- what has been reached from x: the first n of it have been looked at -/
structure RInv (el : List Int) (M : List (List Bool)) (x : Int) (n : Nat) (out : List Int) : Prop where
  nd : out.Nodup
  from' : ∀ y, y ∈ out → Dep.Plus (Dep.NE el M) x y
  one : ∀ y, Dep.NE el M x y → y ∈ out
  done : ∀ m, m < n → ∀ y, Dep.NE el M (out.getD m 0) y → y ∈ out
section
variable {el : List Int} {M : List (List Bool)} {x : Int} {n : Nat} {out : List Int}
theorem plus_snoc {α : Type} {E : α → α → Prop} {a b c : α} (h : Dep.Plus E a b) (hbc : E b c) : Dep.Plus E a c := let ⟨d, h1, h2⟩ := h; ⟨d, h1, h2.trans (.single hbc)⟩
theorem plus_mem {a b : Int} (h : Dep.Plus (Dep.NE el M) a b) : b ∈ el := by
  obtain ⟨c, h1, h2⟩ := h
  exact h2.closed (P := fun y => y ∈ el) (fun _ _ _ he => he.2.1) h1.2.1
theorem RInv.sub (h : RInv el M x n out) {y : Int} (hy : y ∈ out) : y ∈ el := plus_mem (h.from' y hy)
theorem RInv.le (h : RInv el M x n out) : out.length ≤ el.length := nodup_sub out el h.nd fun _ hy => h.sub hy
theorem getD_append {l : List Int} {k : Nat} (y : Int) (hk : k < l.length) : (l ++ [y]).getD k 0 = l.getD k 0 := by simp [List.getD, List.getElem?_append_left hk]
theorem RInv.push (h : RInv el M x n out) (hn : n < out.length) {y : Int} (hy : y ∉ out) (he : Dep.NE el M (out.getD n 0) y) : RInv el M x n (out ++ [y]) := by
  refine ⟨?_, fun u hu => ?_, fun u hu => List.mem_append_left _ (h.one u hu), fun m hm u hu => ?_⟩
  · rw [List.nodup_append]
    refine ⟨h.nd, by simp, fun a ha b hb => ?_⟩
    rw [List.mem_singleton] at hb
    subst hb
    exact fun e => hy (e ▸ ha)
  · rcases List.mem_append.1 hu with hu | hu
    · exact h.from' u hu
    · rw [List.mem_singleton] at hu
      subst hu
      exact plus_snoc (h.from' _ (getD_mem hn)) he
  · rw [getD_append y (by omega)] at hu
    exact List.mem_append_left _ (h.done m hm u hu)
theorem RInv.next (h : RInv el M x n out) (hall : ∀ m, m < el.length → Dep.needS M (out.getD n 0) (el.getD m 0) = true → el.getD m 0 ∈ out) : RInv el M x (n + 1) out := by
  refine ⟨h.nd, h.from', h.one, fun m hm u hu => ?_⟩
  by_cases e : m = n
  · subst e
    obtain ⟨i, hi, rfl⟩ := List.getElem_of_mem hu.2.1
    have h1 := hall i hi
    have e1 : el.getD i 0 = el[i] := by simp [List.getD, hi]
    rw [e1] at h1
    exact h1 hu.2.2
  · exact h.done m (by omega) u hu
theorem RInv.all (h : RInv el M x out.length out) (y : Int) : y ∈ out ↔ Dep.Plus (Dep.NE el M) x y := by
  refine ⟨h.from' y, fun ⟨c, h1, h2⟩ => ?_⟩
  refine h2.closed (P := fun u => u ∈ out) (fun a b ha he => ?_) (h.one c h1)
  obtain ⟨m, hm, rfl⟩ := List.getElem_of_mem ha
  have e1 : out.getD m 0 = out[m] := by simp [List.getD, hm]
  exact h.done m hm b (by rw [e1]; exact he)
theorem RInv.start (hg : Dep.Good el) (hx : x ∈ el) : RInv el M x 0 (el.filter fun y => Dep.needS M x y) :=
  ⟨hg.1.filter _, fun y hy => by
    rw [List.mem_filter] at hy
    exact ⟨y, ⟨hx, hy.1, hy.2⟩, .refl _⟩, fun y hy => by
    rw [List.mem_filter]
    exact ⟨hy.2.1, hy.2.2⟩, fun m hm => absurd hm (Nat.not_lt_zero m)⟩
theorem filter_take (f : Int → Bool) {l : List Int} {k : Nat} (hk : k < l.length) : (l.take (k + 1)).filter f = if f (l.getD k 0) = true then (l.take k).filter f ++ [l.getD k 0] else (l.take k).filter f := by
  have e : l.getD k 0 = l[k] := by simp [List.getD, hk]
  rw [List.take_succ_eq_append_getElem hk, List.filter_append, e, List.filter_cons]
  split <;> simp
end
/-- the first pass under way -/
def PassAt (w : World) (el : List Int) (M : List (List Bool)) (x : Int) (vs i : Value) (wr : World) : Prop :=
  ∃ k : Nat, k ≤ el.length ∧ i = .int .i64 (k : Int) ∧ OwnI w.heap.size wr vs ((el.take k).filter fun y => Dep.needS M x y) ∧ Below w.heap.size w wr
/-- the growing list under way -/
def GrowAt (w : World) (el : List Int) (M : List (List Bool)) (x : Int) (vs i : Value) (wr : World) : Prop :=
  ∃ (n : Nat) (out : List Int), n ≤ out.length ∧ i = .int .i64 (n : Int) ∧ OwnI w.heap.size wr vs out ∧ RInv el M x n out ∧ Below w.heap.size w wr
/-- one of its elements under way -/
def LookAt (w : World) (el : List Int) (M : List (List Bool)) (x z : Int) (n : Nat) (vs i : Value) (wr : World) : Prop :=
  ∃ (k : Nat) (out : List Int), k ≤ el.length ∧ i = .int .i64 (k : Int) ∧ OwnI w.heap.size wr vs out ∧ RInv el M x n out ∧ n < out.length ∧ out.getD n 0 = z ∧ (∀ m, m < k → Dep.needS M z (el.getD m 0) = true → el.getD m 0 ∈ out) ∧ Below w.heap.size w wr
theorem LookAt.drewN {w wr : World} {el : List Int} {M : List (List Bool)} {x z : Int} {n : Nat} {vs i : Value} (h : LookAt w el M x z n vs i wr) (q : Nat) : LookAt w el M x z n vs i (wr.drewN q) := by
  obtain ⟨k, out, h1, h2, h3, h4, h5, h6, h7, h8⟩ := h
  exact ⟨k, out, h1, h2, h3.drewN q, h4, h5, h6, h7, below_drewN h8 q⟩
theorem LookAt.next {w w6 : World} {el out : List Int} {M : List (List Bool)} {x z : Int} {n k : Nat} {v6 : Value} (hk : k < el.length) (ho : OwnI w.heap.size w6 v6 (out ++ [el.getD k 0])) (h4 : RInv el M x n out) (h5 : n < out.length) (h6 : out.getD n 0 = z)
    (h7 : ∀ m, m < k → Dep.needS M z (el.getD m 0) = true → el.getD m 0 ∈ out) (hn : Dep.needS M z (el.getD k 0) = true) (hm : el.getD k 0 ∉ out) (hb : Below w.heap.size w w6) :
    LookAt w el M x z n v6 (.int .i64 ((k : Int) + 1)) w6 := by
  refine ⟨k + 1, out ++ [el.getD k 0], hk, rfl, ho, h4.push h5 hm ⟨by rw [h6, ← h6]; exact h4.sub (getD_mem h5), getD_mem hk, by rw [h6]; exact hn⟩, by simp; omega, by rw [getD_append _ h5]; exact h6, fun m hm2 hn2 => ?_, hb⟩
  by_cases e : m = k
  · subst e; simp
  · exact List.mem_append_left _ (h7 m (by omega) hn2)
theorem LookAt.skip {w wr : World} {el out : List Int} {M : List (List Bool)} {x z : Int} {n k : Nat} {vs : Value} (hk : k < el.length) (ho : OwnI w.heap.size wr vs out) (h4 : RInv el M x n out) (h5 : n < out.length) (h6 : out.getD n 0 = z)
    (h7 : ∀ m, m < k → Dep.needS M z (el.getD m 0) = true → el.getD m 0 ∈ out) (hn : Dep.needS M z (el.getD k 0) = true → el.getD k 0 ∈ out) (hb : Below w.heap.size w wr) :
    LookAt w el M x z n vs (.int .i64 ((k : Int) + 1)) wr := by
  refine ⟨k + 1, out, hk, rfl, ho, h4, h5, h6, fun m hm2 hn2 => ?_, hb⟩
  by_cases e : m = k
  · subst e; exact hn hn2
  · exact h7 m (by omega) hn2
set_option maxHeartbeats 4000000 in
set_option maxRecDepth 100000 in
theorem refReached (w : World) (v nv : Value) (el : List Int) (M : List (List Bool)) (x : Int) (hg : Dep.Good el) (hx : x ∈ el) (hv : Ints w v el) (hM : Grid encB 0 w.heap.size w nv M) (hsm : el.length ≤ 1000000) :
    Calls Try.prog 24 #[v, nv, .int .i64 x] w fun e w' => ∃ u R, e = .returned u ∧ OwnI w.heap.size w' u R ∧ (∀ y, y ∈ R ↔ Dep.Plus (Dep.NE el M) x y) ∧ Below w.heap.size w w' := by
  have HM := Lib.hid hM
  have HG := Lib.hid hg
  have HX := Lib.hid hx
  obtain ⟨a2, cap2, rfl, -⟩ := hM.len
  obtain ⟨a, c, rfl, hc1, hc2, -, hd⟩ := hv
  unfold maxLen at hc2
  have D := Lib.hid hd
  clear hd hM hg hx
  go_enter Try.func24, Try.ntmps24
  go_wp2_with fail
  go_loopw [7, 8] (fun vs i wr => PassAt w el M x vs i wr) (fun _ i _ => el.length - (intOf i).toNat)
  case atStart => exact ⟨0, Nat.zero_le _, rfl, OwnRow.nil _ _ _ _, Below.refl _ _⟩
  case round =>
    obtain ⟨k, hk, rfl, ho, hb⟩ := hrel
    by_cases hlt : k < el.length
    · have i1 : (k : Int) < (el.length : Int) := by omega
      have hki : (0 : Int) ≤ (k : Int) ∧ (k : Int) < (el.length : Int) := by omega
      obtain ⟨b1, o1, rfl, -, -, hq, hcell⟩ := D.out k _ (getD_get (d := 0) hlt)
      have c1 : wr.cell? ⟨b1, o1 + k, none⟩ = some (.int .i64 (el.getD k 0)) := (hb.cell hq).trans hcell
      have HN := Lib.hid (refNeed wr _ M x (el.getD k 0) (HG.out.2 x HX.out) (HG.out.2 _ (getD_mem hlt)) (HM.out.under hb (Nat.le_refl _)))
      have HST := Lib.hid (filter_take (fun y => Dep.needS M x y) hlt)
      have hfl : ((el.take k).filter fun y => Dep.needS M x y).length ≤ el.length := Nat.le_trans (List.length_filter_le _ _) (by simp; omega)
      have HO := Lib.hid ho
      have HB := Lib.hid hb
      have hsz := hb.size
      cases hne : Dep.needS M x (el.getD k 0) with
      | true =>
        have HREL : Hid ((el.take (k + 1)).filter (fun y => Dep.needS M x y) = (el.take k).filter (fun y => Dep.needS M x y) ++ [el.getD k 0]) := Lib.hid (by rw [HST.out, if_pos hne])
        rw [hne] at HN
        generalize el.getD k 0 = y at *
        clear hne hcell ho
        go_wp2_with fail
        refine HN.out.mono ?_
        rintro e w2 ⟨rfl, rfl⟩
        go_wp2_with (refine wpList_push_int rfl (.tmp 24) (.tmp 29) rfl rfl HO.out y rfl rfl (by omega) hsz hb ?_)
        intro v6 w6 ho6 hb6
        have HO6 := Lib.hid ho6
        have HB6 := Lib.hid hb6
        clear ho6 hb6 hb
        go_wp2_with fail
        go_roundw
        case rel => exact ⟨k + 1, hlt, by go_num, by rw [HREL.out]; exact HO6.out, HB6.out⟩
        case measure => simp [intOf]; omega
      | false =>
        have HREL : Hid ((el.take (k + 1)).filter (fun y => Dep.needS M x y) = (el.take k).filter (fun y => Dep.needS M x y)) := Lib.hid (by rw [HST.out, if_neg (by rw [hne]; simp)])
        rw [hne] at HN
        generalize el.getD k 0 = y at *
        clear hne hcell ho hb
        go_wp2_with fail
        refine HN.out.mono ?_
        rintro e w2 ⟨rfl, rfl⟩
        go_wp2_with fail
        go_roundw
        case rel => exact ⟨k + 1, hlt, by go_num, by rw [HREL.out]; exact HO.out, HB.out⟩
        case measure => simp [intOf]; omega
    · obtain rfl : k = el.length := by omega
      have HS := Lib.hid (RInv.start (M := M) HG.out HX.out)
      rw [List.take_length] at ho
      have HO := Lib.hid ho
      have HB := Lib.hid hb
      clear ho hb
      go_wp2_with fail
      go_loopw [7, 9] (fun vs i wx => GrowAt w el M x vs i wx) (fun _ i _ => el.length - (intOf i).toNat)
      case atStart => exact ⟨0, _, Nat.zero_le _, rfl, HO.out, HS.out, HB.out⟩
      case round =>
        clear HO HB HS
        obtain ⟨n, out, hn, rfl, ho, hI, hb⟩ := hrel
        have hle := hI.le
        have HI := Lib.hid hI
        have HO := Lib.hid ho
        have HB := Lib.hid hb
        obtain ⟨a5, c5, rfl, hh1, hh2, -, -⟩ := ho.row
        by_cases hlt : n < out.length
        · have i1 : (n : Int) < (out.length : Int) := by omega
          clear hI ho hb
          go_wp2_with fail
          obtain ⟨z, hz⟩ : ∃ z, out.getD n 0 = z := ⟨_, rfl⟩
          have HZ := Lib.hid (And.intro (HG.out.2 z (by rw [← hz]; exact HI.out.sub (getD_mem hlt))) hz)
          clear hz
          go_loopw [7, 10] (fun vs i wx => LookAt w el M x z n vs i wx) (fun _ i _ => el.length - (intOf i).toNat)
          case atStart => exact ⟨0, out, Nat.zero_le _, rfl, HO.out, HI.out, hlt, HZ.out.2, fun m hm => absurd hm (Nat.not_lt_zero m), HB.out⟩
          case round =>
            clear HO HB HI hh1 hh2 hle hn i1 hlt
            obtain ⟨k, o2, hk, rfl, ho, hI, hn2, hz2, hall, hb⟩ := hrel
            have hle := hI.le
            have HI := Lib.hid hI
            have HO := Lib.hid ho
            have HB := Lib.hid hb
            have HA := Lib.hid (And.intro hn2 (And.intro hz2 hall))
            obtain ⟨a6, c6, rfl, hh1, hh2, -, -⟩ := ho.row
            unfold maxLen at hh2
            have i3 : (n : Int) < (o2.length : Int) := by omega
            have hni : (0 : Int) ≤ (n : Int) ∧ (n : Int) < (o2.length : Int) := by omega
            obtain ⟨g6, rfl, -, -, cz, -, -⟩ := ho.place 0 hn2
            rw [hz2] at cz
            replace cz : wr.cell? ⟨g6, n, none⟩ = some (.int .i64 z) := cz
            by_cases hlt : k < el.length
            · have i1 : (k : Int) < (el.length : Int) := by omega
              have hki : (0 : Int) ≤ (k : Int) ∧ (k : Int) < (el.length : Int) := by omega
              obtain ⟨b1, o1, rfl, -, -, hq, hcell⟩ := D.out k _ (getD_get (d := 0) hlt)
              have c1 : wr.cell? ⟨b1, o1 + k, none⟩ = some (.int .i64 (el.getD k 0)) := (hb.cell hq).trans hcell
              have HN : Hid (∀ q, Calls Try.prog 22 #[.slice a2 M.length cap2, .int .i64 z, .int .i64 (el.getD k 0)] (wr.drewN q) fun e w' => e = .returned (.bool (Dep.needS M z (el.getD k 0))) ∧ w' = wr.drewN q) := Lib.hid fun q =>
                refNeed (wr.drewN q) _ M z (el.getD k 0) HZ.out.1 (HG.out.2 _ (getD_mem hlt)) (HM.out.under (below_drewN hb q) (Nat.le_refl _))
              have HH : Hid (∀ q, Calls Try.prog 23 #[.slice (some ⟨g6, 0, none⟩) o2.length c6, .int .i64 (el.getD k 0)] (wr.drewN q) fun e w' => e = .returned (.bool (decide (el.getD k 0 ∈ o2))) ∧ w' = wr.drewN q) := Lib.hid fun q =>
                refHas (wr.drewN q) _ o2 (el.getD k 0) (ho.drewN q).row.all
              have HLT := Lib.hid hlt
              have HYN := Lib.hid (fun (w6 : World) (v6 : Value) ho6 hn6 hm6 hb6 => LookAt.next (v6 := v6) (w := w) (w6 := w6) HLT.out ho6 HI.out HA.out.1 HA.out.2.1 HA.out.2.2 hn6 hm6 hb6)
              have HYS := Lib.hid (fun hn6 => LookAt.skip HLT.out HO.out HI.out HA.out.1 HA.out.2.1 HA.out.2.2 hn6 HB.out)
              clear ho hI hz2 hall hcell hb
              generalize el.getD k 0 = y at *
              cases hne : Dep.needS M z y with
              | false =>
                have HREL := Lib.hid (HYS.out (fun h => by rw [hne] at h; cases h))
                rw [hne] at HN
                clear hne HYN HYS HH
                go_wp2_with fail
                go_quiet ((go_at_call 22; exact Calls.quiet_of_same (HN.out _)))
                go_wp2_with fail
                go_roundw
                case rel => exact HREL.out.drewN _
                case measure => simp [intOf]; omega
              | true =>
                rw [hne] at HN
                by_cases hym : y ∈ o2
                · have HREL := Lib.hid (HYS.out (fun _ => hym))
                  rw [decide_eq_true hym] at HH
                  clear hne HYN HYS hym
                  go_wp2_with fail
                  go_quiet (first | (go_at_call 22; exact Calls.quiet_of_same (HN.out _)) | (go_at_call 23; exact Calls.quiet_of_same (HH.out _)))
                  go_wp2_with fail
                  go_roundw
                  case rel => exact HREL.out.drewN _
                  case measure => simp [intOf]; omega
                · have HNM := Lib.hid (And.intro hne hym)
                  rw [decide_eq_false hym] at HH
                  clear hne HYS hym
                  go_wp2_with fail
                  go_quiet (first | (go_at_call 22; exact Calls.quiet_of_same (HN.out _)) | (go_at_call 23; exact Calls.quiet_of_same (HH.out _)))
                  have ho5 := HO.out.drewN nq
                  have hb5 := below_drewN HB.out nq
                  have hsz5 := hb5.size
                  have cy := ((below_drewN (Below.refl wr.heap.size wr) nq).cell (p := ⟨b1, o1 + k, none⟩) (World.block_lt_of_cell? wr _ c1)).trans c1
                  generalize wr.drewN nq = w5 at ho5 hb5 hsz5 cy ⊢
                  clear HN HH
                  go_wp2_with (refine wpList_push_int rfl (.tmp 62) (.tmp 67) rfl rfl ho5 y rfl rfl (by omega) hsz5 hb5 ?_)
                  intro v6 w6 ho6 hb6
                  have HREL := Lib.hid (HYN.out w6 v6 ho6 HNM.out.1 HNM.out.2 hb6)
                  clear ho6 hb6 ho5 hb5 HYN
                  go_wp2_with fail
                  go_roundw
                  case rel => exact HREL.out
                  case measure => simp [intOf]; omega
            · obtain rfl : k = el.length := by omega
              have HNX := Lib.hid (HI.out.next (by rw [HA.out.2.1]; exact HA.out.2.2))
              clear ho hI hz2 hall hb
              go_wp2_with fail
              go_roundw
              case rel => exact ⟨n + 1, o2, HA.out.1, by go_num, HO.out, HNX.out, HB.out⟩
              case measure => simp [intOf]; omega
        · obtain rfl : n = out.length := by omega
          clear hI ho hb
          go_wp2_with fail
          go_ret
          exact ⟨_, out, rfl, HO.out, HI.out.all, HB.out⟩
end Go.Proofs.Ytkocfhacfmlmaaa
