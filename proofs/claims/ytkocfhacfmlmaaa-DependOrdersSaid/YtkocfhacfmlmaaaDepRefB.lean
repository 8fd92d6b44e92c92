/-
  THE REFERENCE: the contracts of Ready, Next, Order. By an AI agent.
-/
import Derived.Test.YtkocfhacfmlmaaaDepReach
import Derived.Deep.RegionHeld3
namespace Go.Proofs.Ytkocfhacfmlmaaa
open Go.RowKit

/-- one element under way: does it wait for one of the first n? -/
def RdyAt (w0 : World) (el : List Int) (M : List (List Bool)) (k : Nat) (ok i : Value) (wr : World) : Prop :=
  ∃ (n : Nat) (b : Bool), n ≤ el.length ∧ i = .int .i64 (n : Int) ∧ ok = .bool b ∧ (b = true ↔ ∀ m, m < n → m ≠ k → Dep.needS M (el.getD k 0) (el.getD m 0) = true → Dep.Plus (Dep.NE el M) (el.getD m 0) (el.getD k 0)) ∧ Below w0.heap.size w0 wr
theorem RdyAt.step {w0 wr : World} {el : List Int} {M : List (List Bool)} {k n : Nat} {b b' : Bool} (hn : n < el.length) (hb : b = true ↔ ∀ m, m < n → m ≠ k → Dep.needS M (el.getD k 0) (el.getD m 0) = true → Dep.Plus (Dep.NE el M) (el.getD m 0) (el.getD k 0))
    (h : b' = true ↔ (b = true ∧ (n ≠ k → Dep.needS M (el.getD k 0) (el.getD n 0) = true → Dep.Plus (Dep.NE el M) (el.getD n 0) (el.getD k 0)))) (hw : Below w0.heap.size w0 wr) :
    RdyAt w0 el M k (.bool b') (.int .i64 ((n : Int) + 1)) wr := by
  refine ⟨n + 1, b', hn, rfl, rfl, ?_, hw⟩
  rw [h, hb]
  constructor
  · rintro ⟨h1, h2⟩ m hm
    by_cases e : m = n
    · subst e; exact h2
    · exact h1 m (by omega)
  · intro h1
    exact ⟨fun m hm => h1 m (by omega), h1 n (by omega)⟩
theorem RdyAt.drewN {w0 wr : World} {el : List Int} {M : List (List Bool)} {k : Nat} {ok i : Value} (h : RdyAt w0 el M k ok i wr) (q : Nat) : RdyAt w0 el M k ok i (wr.drewN q) := by
  obtain ⟨n, b, h1, h2, h3, h4, h5⟩ := h
  exact ⟨n, b, h1, h2, h3, h4, below_drewN h5 q⟩
theorem rdy_iff {el : List Int} {M : List (List Bool)} (hg : Dep.Good el) {k : Nat} (hk : k < el.length) :
    (∀ m, m < el.length → m ≠ k → Dep.needS M (el.getD k 0) (el.getD m 0) = true → Dep.Plus (Dep.NE el M) (el.getD m 0) (el.getD k 0)) ↔ Dep.rdyP el M (el.getD k 0) := by
  constructor
  · intro h b hb hn
    obtain ⟨m, hm, rfl⟩ := List.getElem_of_mem hb
    have e1 : el.getD m 0 = el[m] := by simp [List.getD, hm]
    by_cases e : m = k
    · subst e; rw [← e1]; exact .refl _
    · rw [← e1] at hn ⊢
      exact (h m hm e hn).reach
  · intro h m hm hne hn
    exact Dep.plus_of (h _ (getD_mem hm) hn) (fun e => hne (place_one hg hm hk e))
open Classical in
/-- those of the first k that are ready -/
noncomputable def rdyK (el : List Int) (M : List (List Bool)) (k : Nat) : List Int := (el.take k).filter fun a => decide (Dep.rdyP el M a)
open Classical in
theorem rdyK_step {el : List Int} {M : List (List Bool)} {k : Nat} (hk : k < el.length) : rdyK el M (k + 1) = if Dep.rdyP el M (el.getD k 0) then rdyK el M k ++ [el.getD k 0] else rdyK el M k := by
  unfold rdyK
  rw [filter_take _ hk]
  simp only [decide_eq_true_eq]
theorem rdyK_all (el : List Int) (M : List (List Bool)) : rdyK el M el.length = Dep.rdyL el M := by
  unfold rdyK Dep.rdyL
  rw [List.take_length]
theorem rdyK_length (el : List Int) (M : List (List Bool)) (k : Nat) : (rdyK el M k).length ≤ el.length := by
  unfold rdyK
  exact Nat.le_trans (List.length_filter_le _ _) (by simp; omega)
def RefAt (w1 : World) (el : List Int) (M : List (List Bool)) (vs i : Value) (wr : World) : Prop :=
  ∃ k : Nat, k ≤ el.length ∧ i = .int .i64 (k : Int) ∧ OwnI w1.heap.size wr vs (rdyK el M k) ∧ Below w1.heap.size w1 wr
set_option maxHeartbeats 8000000 in
set_option maxRecDepth 100000 in
theorem refReady (w : World) (v nv : Value) (left : List Int) (M : List (List Bool)) (hv : Ints w v left) (hM : Grid encB 0 w.heap.size w nv M) (hsm : left.length ≤ 1000000) :
    Calls Try.prog 13 #[v, nv] w (IntsRes (Dep.readyS left M) w) := by
  have HM := Lib.hid hM
  have HC := Lib.hid (refElements w v left hv hsm)
  have hel := Dep.elems_length left
  have HG := Lib.hid (Dep.elems_good left)
  have HRS : Hid (Dep.readyS left M = Dep.rdyL (Dep.elemS [] left) M) := Lib.hid rfl
  obtain ⟨a2, cap2, rfl, -⟩ := hM.len
  obtain ⟨a, c, rfl, -⟩ := hv
  generalize Dep.readyS left M = out at HRS ⊢
  generalize Dep.elemS [] left = el at *
  clear hM
  go_enter Try.func13, Try.ntmps13
  go_wp2_with fail
  refine HC.out.mono ?_
  rintro e w1 ⟨u, rfl, hu, hb1⟩
  obtain ⟨al, cl, rfl, hl1, hl2, -, -⟩ := hu.row
  unfold maxLen at hl2
  have HU := Lib.hid hu
  have HB1 := Lib.hid hb1
  clear hu hb1 HC
  go_wp2_with fail
  go_loopw [6, 7] (fun vs i wr => RefAt w1 el M vs i wr) (fun _ i _ => el.length - (intOf i).toNat)
  case atStart => exact ⟨0, Nat.zero_le _, rfl, OwnRow.nil _ _ _ _, Below.refl _ _⟩
  case round =>
    obtain ⟨k, hk, rfl, ho, hb⟩ := hrel
    have HO := Lib.hid ho
    have HB := Lib.hid hb
    by_cases hlt : k < el.length
    · have i1 : (k : Int) < (el.length : Int) := by omega
      have hki : (0 : Int) ≤ (k : Int) ∧ (k : Int) < (el.length : Int) := by omega
      have HLT := Lib.hid hlt
      obtain ⟨w0, hw0⟩ : ∃ w0, w0 = wr := ⟨_, rfl⟩
      rw [← hw0] at HO HB
      have HW0 := Lib.hid hw0
      clear ho hb
      go_wp2_with fail
      go_loopw [8, 9] (fun ok i wx => RdyAt w0 el M k ok i wx) (fun _ i _ => el.length - (intOf i).toNat)
      case atStart => exact ⟨0, true, Nat.zero_le _, rfl, rfl, ⟨fun _ m hm => absurd hm (Nat.not_lt_zero m), fun _ => rfl⟩, by rw [HW0.out]; exact Below.refl _ _⟩
      case round =>
        clear HW0 hw0
        obtain ⟨n, b, hn, rfl, rfl, hbb, hb⟩ := hrel
        have HBB := Lib.hid hbb
        have HBX := Lib.hid hb
        have hnw := HB.out.trans (hb.mono HB.out.size)
        by_cases hlt2 : n < el.length
        · have i2 : (n : Int) < (el.length : Int) := by omega
          have hni : (0 : Int) ≤ (n : Int) ∧ (n : Int) < (el.length : Int) := by omega
          obtain ⟨gl, rfl, -, hgl, hca, -, -⟩ := HU.out.place 0 HLT.out
          obtain ⟨gl', e9, -, -, hcy, -, -⟩ := HU.out.place 0 hlt2
          injection e9 with e9
          injection e9 with e9
          subst e9
          have ca : wr.cell? ⟨gl, k, none⟩ = some (.int .i64 (el.getD k 0)) := (hnw.cell (p := ⟨gl, k, none⟩) hgl).trans hca
          have cy : wr.cell? ⟨gl, n, none⟩ = some (.int .i64 (el.getD n 0)) := (hnw.cell (p := ⟨gl, n, none⟩) hgl).trans hcy
          have hglr : gl < wr.heap.size := Nat.lt_of_lt_of_le hgl hnw.size
          have HLT2 := Lib.hid hlt2
          have HST := Lib.hid (fun (wx : World) (b' : Bool) h hw => RdyAt.step (w0 := w0) (wr := wx) (b' := b') HLT2.out HBB.out h hw)
          have HN : Hid (∀ u : World, Below wr.heap.size wr u → Calls Try.prog 22 #[.slice a2 M.length cap2, .int .i64 (el.getD k 0), .int .i64 (el.getD n 0)] u fun e w' => e = .returned (.bool (Dep.needS M (el.getD k 0) (el.getD n 0))) ∧ w' = u) := Lib.hid fun u hu =>
            refNeed u _ M _ _ (HG.out.2 _ (getD_mem HLT.out)) (HG.out.2 _ (getD_mem HLT2.out)) (HM.out.under (HB1.out.trans ((hnw.trans (hu.mono hnw.size)).mono HB1.out.size)) (Nat.le_refl _))
          have HR : Hid (∀ u : World, Below wr.heap.size wr u → Calls Try.prog 24 #[.slice (some ⟨gl, 0, none⟩) el.length cl, .slice a2 M.length cap2, .int .i64 (el.getD n 0)] u fun e w' => ∃ a R c, e = .returned (.slice a R c) ∧ (∀ u' : World, u' = w' → Calls Try.prog 23 #[.slice a R c, .int .i64 (el.getD k 0)] u' fun e w' => ∃ b2 : Bool, e = .returned (.bool b2) ∧ w' = u' ∧ (b2 = true ↔ Dep.Plus (Dep.NE el M) (el.getD n 0) (el.getD k 0))) ∧ Below wr.heap.size wr w') := Lib.hid fun u hu =>
            (refReached u _ _ el M (el.getD n 0) HG.out (getD_mem HLT2.out) ((HU.out.row.all.under (hnw.trans (hu.mono hnw.size)) (Nat.le_refl _))) (HM.out.under (HB1.out.trans ((hnw.trans (hu.mono hnw.size)).mono HB1.out.size)) (Nat.le_refl _)) (by omega)).mono fun e w' ⟨v9, R, h1, h2, h3, h4⟩ => by
              obtain ⟨a8, c8, e8, -⟩ := h2.row
              refine ⟨a8, R.length, c8, by rw [h1, e8], fun u' hu' => ?_, hu.trans (h4.mono hu.size)⟩
              subst hu'
              rw [e8] at h2
              exact (refHas u' _ R (el.getD k 0) h2.row.all).mono fun e w' ⟨k1, k2⟩ => ⟨_, k1, k2, by rw [decide_eq_true_eq]; exact h3 _⟩
          clear hca hcy hbb hb hnw
          by_cases hnk : n = k
          · subst hnk
            have HREL := Lib.hid (HST.out wr b ⟨fun h => ⟨h, fun h2 => absurd rfl h2⟩, fun h => h.1⟩ HBX.out)
            have t1 : ((n : Int) != (n : Int)) = false := by simp
            generalize el.getD n 0 = y at *
            clear HST HN HR
            go_wp2_with fail
            go_quiet (fail)
            go_wp2_with fail
            go_roundw
            case rel => exact HREL.out.drewN _
            case measure => simp [intOf]; omega
          · have t1 : ((n : Int) != (k : Int)) = true := by simp only [bne_iff_ne]; omega
            cases hne : Dep.needS M (el.getD k 0) (el.getD n 0) with
            | false =>
              have HREL := Lib.hid (HST.out wr b ⟨fun h => ⟨h, fun _ h2 => by rw [hne] at h2; cases h2⟩, fun h => h.1⟩ HBX.out)
              rw [hne] at HN
              generalize el.getD k 0 = x at *
              generalize el.getD n 0 = y at *
              have HN2 := Lib.hid (fun q => HN.out (wr.drewN q) (below_drewN (Below.refl _ _) q))
              clear HST HR hne HN
              go_wp2_with fail
              go_quiet ((go_at_call 22; exact Calls.quiet_of_same (HN2.out _)))
              go_wp2_with fail
              go_roundw
              case rel => exact HREL.out.drewN _
              case measure => simp [intOf]; omega
            | true =>
              have HNE := Lib.hid (And.intro hnk hne)
              rw [hne] at HN
              generalize el.getD k 0 = x at *
              generalize el.getD n 0 = y at *
              clear hne hnk
              go_wp2_with fail
              go_region_held3 (fun w' => w'.cell? ⟨gl, k, none⟩ = some (.int .i64 x) ∧ w'.cell? ⟨gl, n, none⟩ = some (.int .i64 y))
                (first | go_keep | (exact ⟨(hb3.cell (p := ⟨gl, k, none⟩) hglr).trans ca, (hb3.cell (p := ⟨gl, n, none⟩) hglr).trans cy⟩))
                (first
                  | (go_at_call 22; refine (HN.out _ ?_).mono ?_; (go_grown); rintro e w2 ⟨rfl, rfl⟩)
                  | (go_at_call 24; refine (HR.out _ ?_).mono ?_; (go_grown); rintro e w3 ⟨a7, n7, c7, rfl, hh3, hb3⟩)
                  | (go_at_call 23; refine (hh3 _ rfl).mono ?_; rintro e w4 ⟨b2, rfl, rfl, hp⟩))
              have hbn := HBX.out.trans (hb3.mono HBX.out.size)
              cases b2 with
              | true =>
                have HREL := Lib.hid (HST.out w4 b ⟨fun h => ⟨h, fun _ _ => hp.1 rfl⟩, fun h => h.1⟩ hbn)
                clear hbn hb3 hp hh3 HST HN HR
                go_wp2_with fail
                go_roundw
                case rel => exact HREL.out
                case measure => simp [intOf]; omega
              | false =>
                have HREL := Lib.hid (HST.out w4 false ⟨fun h => (by cases h), fun h => (by have := hp.2 (h.2 HNE.out.1 HNE.out.2); cases this)⟩ hbn)
                clear hbn hb3 hp hh3 HST HN HR
                go_wp2_with fail
                go_roundw
                case rel => exact HREL.out
                case measure => simp [intOf]; omega
        · obtain rfl : n = el.length := by omega
          have hiff := (rdy_iff (M := M) HG.out HLT.out)
          have HBW := Lib.hid hnw
          have ho2 := HO.out.below hb (by exact Nat.le_refl _)
          have HO2 := Lib.hid ho2
          have hsz2 := hnw.size
          have hkl := rdyK_length el M k
          cases b with
          | true =>
            have HS : Hid (rdyK el M (k + 1) = rdyK el M k ++ [el.getD k 0]) := Lib.hid (by rw [rdyK_step HLT.out, if_pos (hiff.1 (hbb.1 rfl))])
            obtain ⟨gl, rfl, -, hgl, hca, -, -⟩ := HU.out.place 0 HLT.out
            have ca : wr.cell? ⟨gl, k, none⟩ = some (.int .i64 (el.getD k 0)) := (hnw.cell (p := ⟨gl, k, none⟩) hgl).trans hca
            generalize el.getD k 0 = x at *
            clear hiff hbb hca hb ho2 HBB
            go_wp2_with (refine wpList_push_int rfl (.tmp 55) (.tmp 60) rfl rfl HO2.out x rfl rfl (by omega) hsz2 hnw ?_)
            intro v6 w6 ho6 hb6
            have HO6 := Lib.hid ho6
            have HB6 := Lib.hid hb6
            clear ho6 hb6 hnw
            go_wp2_with fail
            go_roundw
            case rel => exact ⟨k + 1, HLT.out, by go_num, by rw [HS.out]; exact HO6.out, HB6.out⟩
            case measure => simp [intOf]; omega
          | false =>
            have HS : Hid (rdyK el M (k + 1) = rdyK el M k) := Lib.hid (by
              rw [rdyK_step HLT.out, if_neg (fun h => by
                have := hbb.2 (hiff.2 h)
                cases this)])
            clear hiff hbb hb ho2 HBB hnw
            go_wp2_with fail
            go_roundw
            case rel => exact ⟨k + 1, HLT.out, by go_num, by rw [HS.out]; exact HO2.out, HBW.out⟩
            case measure => simp [intOf]; omega
    · obtain rfl : k = el.length := by omega
      have HR : Hid (rdyK el M el.length = out) := Lib.hid (by rw [rdyK_all, HRS.out])
      clear ho hb
      go_wp2_with fail
      go_ret
      exact ⟨_, rfl, by rw [← HR.out]; exact HO.out.mono HB1.out.size, HB1.out.trans (HB.out.mono HB1.out.size)⟩
/-- the best under way -/
def BestAt (w1 : World) (st l : List Int) (m i : Value) (wr : World) : Prop :=
  ∃ (k : Nat) (x : Int), k ≤ l.length ∧ i = .int .i64 (k : Int) ∧ m = .int .i64 x ∧ ((k = 0 ∧ x = -1) ∨ (1 ≤ k ∧ 0 ≤ x ∧ Dep.pick st x (l.drop k) = Dep.nextL st l)) ∧ Below w1.heap.size w1 wr
theorem BestAt.next {w1 wr : World} {st l : List Int} {k : Nat} {x : Int} (hk : k < l.length) (hl : ∀ y, y ∈ l → 0 ≤ y) (h : (k = 0 ∧ x = -1) ∨ (1 ≤ k ∧ 0 ≤ x ∧ Dep.pick st x (l.drop k) = Dep.nextL st l)) (hb : Below w1.heap.size w1 wr) :
    BestAt w1 st l (.int .i64 (if x < 0 ∨ Dep.bet st (l.getD k 0) x = true then l.getD k 0 else x)) (.int .i64 ((k : Int) + 1)) wr := by
  have e : l.getD k 0 = l[k] := by simp [List.getD, hk]
  have hy : 0 ≤ l.getD k 0 := hl _ (getD_mem hk)
  refine ⟨k + 1, _, hk, rfl, rfl, .inr ⟨by omega, ?_, ?_⟩, hb⟩
  · split
    · exact hy
    · rcases h with ⟨_, h⟩ | ⟨_, h, _⟩ <;> omega
  · rcases h with ⟨rfl, h⟩ | ⟨_, h, hp⟩
    · rw [if_pos (.inl (by omega))]
      cases l with
      | nil => simp at hk
      | cons a r => rfl
    · rw [List.drop_eq_getElem_cons hk] at hp
      rw [← hp, e]
      show Dep.pick st _ (l.drop (k + 1)) = Dep.pick st (if Dep.bet st l[k] x then l[k] else x) (l.drop (k + 1))
      by_cases e2 : Dep.bet st l[k] x = true
      · rw [if_pos (.inr e2), if_pos e2]
      · rw [if_neg (fun h3 => h3.elim (by omega) e2), if_neg e2]
theorem best_end {st l : List Int} {k : Nat} {x : Int} (hk : k = l.length) (h : (k = 0 ∧ x = -1) ∨ (1 ≤ k ∧ 0 ≤ x ∧ Dep.pick st x (l.drop k) = Dep.nextL st l)) : x = Dep.nextL st l := by
  rcases h with ⟨h0, h1⟩ | ⟨_, _, hp⟩
  · have : l = [] := List.eq_nil_of_length_eq_zero (by omega)
    rw [this, h1]
    rfl
  · rw [hk, List.drop_length] at hp
    exact hp
set_option maxHeartbeats 4000000 in
set_option maxRecDepth 100000 in
theorem refNext (w : World) (v sv nv : Value) (left st : List Int) (M : List (List Bool)) (hv : Ints w v left) (hs : Ints w sv st) (hM : Grid encB 0 w.heap.size w nv M) (hsm : left.length ≤ 1000000) :
    Calls Try.prog 15 #[v, sv, nv] w fun e w' => e = .returned (.int .i64 (Dep.nextS left st M)) ∧ Below w.heap.size w w' := by
  have HC := Lib.hid (refReady w v nv left M hv hM hsm)
  have HS := Lib.hid hs
  have hln := Dep.readyS_length left M
  have HG := Lib.hid (Dep.readyS_good left M)
  have HNX : Hid (Dep.nextS left st M = Dep.nextL st (Dep.readyS left M)) := Lib.hid rfl
  generalize Dep.nextS left st M = res at HNX ⊢
  generalize Dep.readyS left M = l at *
  obtain ⟨a, cap, rfl, -⟩ := hv
  obtain ⟨a2, cap2, rfl, -⟩ := hM.len
  obtain ⟨a3, cap3, rfl, -⟩ := hs
  clear hM
  go_enter Try.func15, Try.ntmps15
  go_wp2_with fail
  refine HC.out.mono ?_
  rintro e w1 ⟨u, rfl, hu, hb1⟩
  obtain ⟨al, cl, rfl, hl1, hl2, -, -⟩ := hu.row
  unfold maxLen at hl2
  have HU := Lib.hid hu
  have HB1 := Lib.hid hb1
  clear hu hb1 HC
  go_wp2_with fail
  go_loopw [8, 9] (fun m i wr => BestAt w1 st l m i wr) (fun _ i _ => l.length - (intOf i).toNat)
  case atStart => exact ⟨0, -1, Nat.zero_le _, rfl, rfl, .inl ⟨rfl, rfl⟩, Below.refl _ _⟩
  case round =>
    obtain ⟨k, x, hk, rfl, rfl, hx, hb⟩ := hrel
    have HX := Lib.hid hx
    have HB := Lib.hid hb
    by_cases hlt : k < l.length
    · have i1 : (k : Int) < (l.length : Int) := by omega
      have hki : (0 : Int) ≤ (k : Int) ∧ (k : Int) < (l.length : Int) := by omega
      obtain ⟨gl, rfl, -, hgl, hcy, -, -⟩ := HU.out.place 0 hlt
      have cy : wr.cell? ⟨gl, k, none⟩ = some (.int .i64 (l.getD k 0)) := (hb.cell (p := ⟨gl, k, none⟩) hgl).trans hcy
      have hy : 0 ≤ l.getD k 0 := HG.out.2 _ (getD_mem hlt)
      have HST := Lib.hid (fun (wx : World) hbx => BestAt.next (w1 := w1) (wr := wx) hlt HG.out.2 HX.out hbx)
      have hIS := HS.out.under (HB1.out.trans (hb.mono HB1.out.size)) (Nat.le_refl _)
      have HSY := Lib.hid (refStamp (l.getD k 0) hy wr _ st hIS)
      have HIS := Lib.hid hIS
      generalize hgy : l.getD k 0 = y at *
      clear hcy hx hb hIS hgy
      by_cases hx0 : x < 0
      · have HREL := Lib.hid (HST.out wr HB.out)
        rw [if_pos (.inl hx0)] at HREL
        clear HST
        go_wp2_with fail
        refine HSY.out.mono ?_
        rintro e w2 ⟨rfl, rfl⟩
        go_wp2_with fail
        go_roundw
        case rel => exact HREL.out
        case measure => simp [intOf]; omega
      · have HSX := Lib.hid (refStamp x (by omega) wr _ st HIS.out)
        have hbet : Dep.bet st y x = decide (Dep.stampS st y < Dep.stampS st x ∨ (Dep.stampS st y = Dep.stampS st x ∧ y < x)) := rfl
        have HBT := Lib.hid hbet
        generalize Dep.stampS st y = sy at *
        generalize Dep.stampS st x = sx at *
        clear hbet
        by_cases h1 : sy < sx
        · have HREL := Lib.hid (HST.out wr HB.out)
          rw [if_pos (.inr (by rw [HBT.out]; exact decide_eq_true (.inl h1)))] at HREL
          clear HST
          go_wp2_with fail
          refine HSY.out.mono ?_
          rintro e w2 ⟨rfl, rfl⟩
          go_wp2_with fail
          refine HSX.out.mono ?_
          rintro e w2 ⟨rfl, rfl⟩
          go_wp2_with fail
          go_roundw
          case rel => exact HREL.out
          case measure => simp [intOf]; omega
        · by_cases h2 : sy = sx
          · have t2 : (sy == sx) = true := by simp [h2]
            have H2 := Lib.hid h2
            by_cases h3 : y < x
            · have H3 := Lib.hid h3
              have HREL := Lib.hid (HST.out wr HB.out)
              rw [if_pos (.inr (by rw [HBT.out]; exact decide_eq_true (.inr ⟨h2, h3⟩)))] at HREL
              clear HST h2
              go_wp2_with fail
              refine HSY.out.mono ?_
              rintro e w2 ⟨rfl, rfl⟩
              go_wp2_with fail
              refine HSX.out.mono ?_
              rintro e w2 ⟨rfl, rfl⟩
              go_wp2_with fail
              refine HSX.out.mono ?_
              rintro e w2 ⟨rfl, rfl⟩
              go_wp2_with fail
              go_roundw
              case rel => exact HREL.out
              case measure => simp [intOf]; omega
            · have H3 := Lib.hid h3
              have HREL := Lib.hid (HST.out wr HB.out)
              rw [if_neg (fun h => h.elim hx0 (fun h => by rw [HBT.out, decide_eq_true_eq] at h; omega))] at HREL
              clear HST h2
              go_wp2_with fail
              refine HSY.out.mono ?_
              rintro e w2 ⟨rfl, rfl⟩
              go_wp2_with fail
              refine HSX.out.mono ?_
              rintro e w2 ⟨rfl, rfl⟩
              go_wp2_with fail
              refine HSX.out.mono ?_
              rintro e w2 ⟨rfl, rfl⟩
              go_wp2_with fail
              go_roundw
              case rel => exact HREL.out
              case measure => simp [intOf]; omega
          · have t2 : (sy == sx) = false := by simp only [beq_eq_false_iff_ne]; exact h2
            have HREL := Lib.hid (HST.out wr HB.out)
            rw [if_neg (fun h => h.elim hx0 (fun h => by rw [HBT.out, decide_eq_true_eq] at h; omega))] at HREL
            clear HST h2
            go_wp2_with fail
            refine HSY.out.mono ?_
            rintro e w2 ⟨rfl, rfl⟩
            go_wp2_with fail
            refine HSX.out.mono ?_
            rintro e w2 ⟨rfl, rfl⟩
            go_wp2_with fail
            refine HSX.out.mono ?_
            rintro e w2 ⟨rfl, rfl⟩
            go_wp2_with fail
            go_roundw
            case rel => exact HREL.out
            case measure => simp [intOf]; omega
    · obtain rfl : k = l.length := by omega
      have HR : Hid (x = res) := Lib.hid (by rw [HNX.out]; exact best_end rfl HX.out)
      clear hx hb
      go_wp2_with fail
      go_ret
      exact ⟨ret_int HR.out, HB1.out.trans (HB.out.mono HB1.out.size)⟩
end Go.Proofs.Ytkocfhacfmlmaaa
