/-
  THE CLOSURE THAT VISITS AN ELEMENT: its contract, by induction on how many are still to be visited. By an AI agent.
-/
import Derived.Test.YtkocfhacfmlmaaaDepMem
namespace Go.Proofs.Ytkocfhacfmlmaaa
open Go.RowKit

/-- what p needs among what is left -/
def edge (Wn : List (List Nat)) (n : Nat) (rm : Nat → Bool) (p q : Nat) : Prop := q ∈ Wn.getD p [] ∧ p < n ∧ q < n ∧ rm p = false ∧ rm q = false
def nth {α : Type} (d : α) (l : List α) : Nat → α := fun q => l.getD q d
theorem nth_set {α : Type} (d : α) (l : List α) {p : Nat} (v : α) (h : p < l.length) : nth d (l.set p v) = Dep.upd (nth d l) p v := by
  funext q
  unfold nth Dep.upd
  by_cases e : q = p
  · subst e
    simp [List.getD, h]
  · rw [if_neg e]
    simp [List.getD, Ne.symm e]
/-- what a visit leaves -/
def Visited (N n : Nat) (W0 : World) (Wn : List (List Nat)) (rm : Nat → Bool) (g : Nat → Prop) (p : Nat) (L : List Int) (R S : List Nat) (c : Nat) : Ending → World → Prop := fun e w' =>
  ∃ L' R' S' c' low T, e = .returned (.int .i64 (low : Nat)) ∧ Mem N n W0 L' R' S' c' w' ∧ Dep.Inv n (edge Wn n rm) rm g (nth 0 L') (nth 0 R') S' c' ∧
    Dep.Post (edge Wn n rm) p (nth 0 L) (nth 0 R) S c (nth 0 L') (nth 0 R') S' c' low T
/-- the closure's arguments -/
abbrev visitArgs (N p : Nat) : Array Value := #[.int .i64 (p : Int), .pointer (some ⟨N + 5, 0, none⟩), .pointer (some ⟨N + 6, 0, none⟩), .pointer (some ⟨N + 4, 0, none⟩), .pointer (some ⟨N, 0, none⟩), .pointer (some ⟨N + 2, 0, none⟩), .pointer (some ⟨N + 7, 0, none⟩)]

theorem wpList_push_nat {B : Nat} {w : World} {v : Value} {ops : Array Oper} {rest : List Oper} {o : Oper} {a : Act} {Q : Exit → Act → World → Prop} {l : List Nat} (hgd : o.guard = none) (s x : Operand) (ho : o.op = .call { callee := .builtin .append, args := #[s, x], argTypes := #[22, 22] })
    (hs : a.eval s = v) (hown : OwnRow encN 3 B w v l) (k : Nat) {ek : Value} (hk : ek = encN k) (hx : a.eval x = .slice (some ⟨w.heap.size, 0, none⟩) 1 1) (hlen : l.length + 1 ≤ 1000000000000) (hB : B ≤ w.heap.size)
    (h : ∀ v' w', OwnRow encN 3 B w' v' (l ++ [k]) → w.grownBy w' v.ownBlock → wpList Try.prog ops Q rest (a.put o.dst v') w') : wpList Try.prog ops Q (o :: rest) a (w.alloc (.cells #[ek] 3)) :=
  wpList_push_row hgd s x ho infoI rfl Try.underlying22 (fun _ => rfl) hs hown k hk hx (by omega) (by omega) hB h

theorem edge_graph (Wn : List (List Nat)) (n : Nat) (rm : Nat → Bool) : Dep.Graph n (edge Wn n rm) rm := ⟨fun _ _ h => ⟨h.2.1, h.2.2.2.1⟩, fun _ _ h => ⟨h.2.2.1, h.2.2.2.2⟩⟩
/-- a visit under way -/
def VisitAt (N n : Nat) (W0 : World) (Wn : List (List Nat)) (rm : Nat → Bool) (g : Nat → Prop) (p : Nat) (L : List Int) (R S : List Nat) (c : Nat) (row : List Nat) (lo i : Value) (wr : World) : Prop :=
  ∃ (j : Nat) (L' : List Int) (R' S' : List Nat) (c' low : Nat) (T : List Nat), j ≤ row.length ∧ i = .int .i64 (j : Int) ∧ lo = .int .i64 (low : Int) ∧ Mem N n W0 L' R' S' c' wr ∧
    Dep.Mid n (edge Wn n rm) rm g p (nth 0 L) (nth 0 R) S c (fun x => x ∈ row.take j) (nth 0 L') (nth 0 R') S' c' low T
theorem VisitAt.next {N n : Nat} {W0 : World} {Wn : List (List Nat)} {rm : Nat → Bool} {g : Nat → Prop} {p : Nat} {L : List Int} {R S : List Nat} {c : Nat} {row : List Nat} {wr : World}
    {i : Nat} {L' : List Int} {R' S' : List Nat} {c' low : Nat} {T : List Nat} (hi : i + 1 ≤ row.length) (hM : Mem N n W0 L' R' S' c' wr)
    (h : Dep.Mid n (edge Wn n rm) rm g p (nth 0 L) (nth 0 R) S c (fun x => x ∈ row.take (i + 1)) (nth 0 L') (nth 0 R') S' c' low T) :
    VisitAt N n W0 Wn rm g p L R S c row (.int .i64 (low : Nat)) (.int .i64 ((i : Int) + 1)) wr := ⟨i + 1, L', R', S', c', low, T, hi, rfl, rfl, hM, h⟩
theorem take_step {row : List Nat} {j : Nat} (hj : j < row.length) : (fun x => x ∈ row.take j ∨ x = row.getD j 0) = fun x => x ∈ row.take (j + 1) := by
  funext x
  have e : row.getD j 0 = row[j] := by simp [List.getD, hj]
  rw [e, List.take_succ_eq_append_getElem hj, List.mem_append, List.mem_singleton]
/-- the loop's labels under way -/
def PopAt (N n : Nat) (W0 : World) (L' : List Int) (R' S' : List Nat) (c' low : Nat) (Cs : List Nat) (vp : Value) (i : Value) (wr : World) : Prop :=
  ∃ (j : Nat) (Lj : List Int), j ≤ Cs.length ∧ i = .int .i64 (j : Int) ∧ Mem N n W0 Lj R' S' c' wr ∧ (∀ q, nth 0 Lj q = if q ∈ Cs.take j then (low : Int) else nth 0 L' q) ∧
    wr.heap[N + 5]? = some (.cells #[vp] 22 (0, 0)) ∧ OwnRow encN 3 (N + 8) wr vp S'
theorem PopAt.next {N n : Nat} {W0 : World} {L' Lj : List Int} {R' S' : List Nat} {c' low : Nat} {Cs : List Nat} {vp : Value} {wr : World} {j x : Nat} (hj : j < Cs.length) (hx : x = Cs.getD j 0) (hn : x < n)
    (hM : Mem N n W0 Lj R' S' c' wr) (hL : ∀ q, nth 0 Lj q = if q ∈ Cs.take j then (low : Int) else nth 0 L' q) (hv : wr.heap[N + 5]? = some (.cells #[vp] 22 (0, 0))) (hr : OwnRow encN 3 (N + 8) wr vp S') :
    PopAt N n W0 L' R' S' c' low Cs vp (.int .i64 ((j : Int) + 1)) (wr.setCell ⟨N + 1, x, none⟩ (.int .i64 (low : Int))) := by
  refine ⟨j + 1, _, hj, rfl, hM.setL hn low, fun q => ?_, (Below.heap_setCell _ _ _ _ (by show N + 5 ≠ N + 1; omega)).trans hv, hr.stay fun k hk => Below.heap_setCell _ _ _ _ (by have := hr.blk k hk; show k ≠ N + 1; omega)⟩
  rw [nth_set 0 Lj (low : Int) (by rw [hM.llen]; exact hn)]
  have hm : q ∈ Cs.take (j + 1) ↔ q ∈ Cs.take j ∨ q = x := by
    have := congrFun (take_step hj) q
    rw [← hx] at this
    exact ⟨fun h => by rw [← this] at h; exact h, fun h => by rw [← this]; exact h⟩
  unfold Dep.upd
  by_cases e : q = x
  · rw [if_pos e, if_pos (hm.2 (.inr e))]
  · rw [if_neg e, hL q]
    by_cases e2 : q ∈ Cs.take j
    · rw [if_pos e2, if_pos (hm.2 (.inl e2))]
    · rw [if_neg e2, if_neg (fun h => (hm.1 h).elim e2 e)]
theorem min_nat (a b : Nat) : min (a : Int) (b : Int) = ((min a b : Nat) : Int) := by omega

set_option maxHeartbeats 4000000 in
set_option maxRecDepth 100000 in
theorem visit (N n : Nat) (W0 : World) (wv : Value) (Wn : List (List Nat)) (rm : Nat → Bool) (C : Ctx N n W0 wv Wn) (k : Nat) : ∀ (p : Nat) (L : List Int) (R S : List Nat) (c : Nat) (w : World) (g : Nat → Prop),
    n - c ≤ k → p < n → nth 0 R p = 0 → nth 0 L p = 0 → Dep.Inv n (edge Wn n rm) rm g (nth 0 L) (nth 0 R) S c → (∀ x, g x → Dep.Reach (edge Wn n rm) x p) → Mem N n W0 L R S c w →
    Calls Try.prog 36 (visitArgs N p) w (Visited N n W0 Wn rm g p L R S c) := by
  induction k with
  | zero =>
    intro p L R S c w g hk hp hr hl hi hg hM
    have := hi.count_lt hp hr
    omega
  | succ k ih =>
    intro p L R S c w g hk hp hr hl hi hg hM
    have hcn := hi.count_lt hp hr
    have hsm := C.small
    have hmid := hi.enter hp hr hl hg
    have hlenS : S.length ≤ n := Dep.nodup_bound n S (by rw [List.nodup_iff_pairwise_ne]; exact hi.ord.imp fun h e => by subst e; omega) (fun x hx => ((hi.mem x).1 hx).1)
    have HI := Lib.hid hi
    have HM := Lib.hid hM
    have HMID := Lib.hid hmid
    have HIH := Lib.hid ih
    have HK := Lib.hid hk
    have HRM : Hid (rm p = false) := Lib.hid (by
      cases e : rm p with
      | false => rfl
      | true => have := (hi.gone p hp).2 e; omega)
    clear ih hi hmid
    obtain ⟨v, hv, hrow⟩ := hM.path
    obtain ⟨a0, cap0, rfl, hc1, hc2, -⟩ := hrow.row
    have c5 := cell_of_one hv
    have hsz := hM.size
    go_enter Try.func36, Try.ntmps36
    go_wp2_with (refine wpList_push_nat rfl (.tmp 17) (.tmp 19) rfl rfl hrow p rfl rfl (by omega) hsz ?_)
    intro v1 w1 ho1 hg1
    have hblk := fun j hj => (hrow.blk j hj).1
    obtain ⟨a1, n1, cap1, rfl⟩ : ∃ a n cap, v1 = .slice a n cap := by obtain ⟨a, cap, e, -⟩ := ho1.row; exact ⟨a, _, cap, e⟩
    have hM1 := HM.out.setP hv hg1 hblk ho1
    have hsame : ∀ j, j < N + 8 → w1.heap[j]? = w.heap[j]? := fun j hj => hg1.block j (by omega) (fun e => by have := hblk j e.symm; omega)
    have cc : w1.heap[N + 6]? = some (.cells #[.int .i64 (c : Int)] 3 (0, 0)) := (hsame _ (by omega)).trans HM.out.cnt
    have c6 := cell_of_one cc
    have f6 := free_of_one cc
    have f5 : w1.frozen? ⟨N + 5, 0, none⟩ = false := free_of_one ((hsame _ (by omega)).trans hv)
    have c4 : w1.cell? ⟨N + 4, 0, none⟩ = some (.slice (some ⟨N + 3, 0, none⟩) n n) := (World.cell?_of_block (a := ⟨N + 4, 0, none⟩) (hsame (N + 4) (by omega))).trans ((HM.out.static (by omega) (by omega) (by omega) (by omega) (by omega)).trans C.ranks)
    have f3 : w1.frozen? ⟨N + 3, p, none⟩ = false := (World.frozen?_of_block (a := ⟨N + 3, p, none⟩) (hsame (N + 3) (by omega))).trans (HM.out.rcell hp).2
    obtain ⟨x3, c3⟩ : ∃ x, w1.cell? ⟨N + 3, p, none⟩ = some x := ⟨_, (World.cell?_of_block (a := ⟨N + 3, p, none⟩) (hsame (N + 3) (by omega))).trans (HM.out.rcell hp).1⟩
    have c5' : w1.cell? ⟨N + 5, 0, none⟩ = some (.slice a0 S.length cap0) := (World.cell?_of_block (a := ⟨N + 5, 0, none⟩) (hsame (N + 5) (by omega))).trans c5
    obtain ⟨cw, hG⟩ := HM.out.wantRow C
    obtain ⟨aw, capw, rfl, -, -⟩ := hG.len
    rw [C.len] at cw hG
    obtain ⟨bw, ow, hd, rfl, -, hbw, -, hcw, hrw⟩ := hG.row hp
    have cw1 : w1.cell? ⟨N, 1, none⟩ = some (.slice (some ⟨bw, ow, none⟩) n capw) := (World.cell?_of_block (a := ⟨N, 1, none⟩) (hsame N (by omega))).trans cw
    have hcw1 : w1.cell? ⟨bw, ow + p, none⟩ = some (encH hd) := (World.cell?_of_block (a := ⟨bw, ow + p, none⟩) (hsame bw (by omega))).trans hcw
    obtain ⟨row, hrow1⟩ : ∃ row, row = Wn.getD p [] := ⟨_, rfl⟩
    rw [← hrow1] at hrw
    have HROW := Lib.hid hrow1
    clear hrow1
    obtain ⟨ar, capr, ehd, hr1, hr2, -, hrc⟩ := hrw
    unfold maxLen at hr2
    rw [ehd] at hcw1
    have e5 : ¬ bw = N + 5 := by omega
    have e6 : ¬ bw = N + 6 := by omega
    have e3 : ¬ bw = N + 3 := by omega
    have HRC := Lib.hid hrc
    have HG := Lib.hid hG
    clear hrc hG ehd hcw cw hsame hblk hg1 ho1
    have hpi : (0 : Int) ≤ (p : Int) ∧ (p : Int) < (n : Int) := by omega
    clear hr hl hg hk
    go_wp2_with fail
    go_loopw [10, 37] (fun lo i wr => VisitAt N n W0 Wn rm g p L R S c row lo i wr) (fun _ i _ => row.length - (intOf i).toNat)
    case atStart =>
      have hM2 := (hM1.setC (c + 1)).setR hp (c + 1)
      rw [show ((c + 1 : Nat) : Int) = (c : Int) + 1 by omega] at hM2
      refine ⟨0, L, _, _, _, c + 1, [], Nat.zero_le _, rfl, by rw [show ((c + 1 : Nat) : Int) = (c : Int) + 1 by omega], hM2, ?_⟩
      rw [nth_set 0 R (c + 1) (by rw [HM.out.rlen]; exact hp)]
      exact HMID.out.mono fun q hq => by simp at hq
    case round =>
      clear hM1 c3 c4 c5 c6 c5' cc hM hv cw1 hcw1 f3 f5 f6 hrow HMID hlenS hsz
      obtain ⟨j, L', R', S', c', low, T, hj, rfl, rfl, hMr, hmid⟩ := hrel
      have cL := hMr.varL C
      have cR := hMr.varR C
      have HMR := Lib.hid hMr
      have HMD := Lib.hid hmid
      by_cases hlt : j < row.length
      · have i1 : (j : Int) < (row.length : Int) := by omega
        obtain ⟨q, hq⟩ : ∃ q, q = row.getD j 0 := ⟨_, rfl⟩
        have hqm : q ∈ Wn.getD p [] := by rw [← HROW.out, hq, List.getD_eq_getElem?_getD, List.getElem?_eq_getElem hlt]; exact List.getElem_mem _
        have hqn := C.inn p q hqm
        obtain ⟨br, or', rfl, -, hbr, -, hcell⟩ := HRC.out j q (by rw [hq]; exact getD_get hlt)
        have cq : wr.cell? ⟨br, or' + j, none⟩ = some (.int .i64 (q : Int)) := (World.cell?_of_block (a := ⟨br, or' + j, none⟩) (HM.out.both hMr hbr)).trans hcell
        obtain ⟨cl, -⟩ := hMr.lcell hqn
        obtain ⟨cr, -⟩ := hMr.rcell hqn
        have hqi : (0 : Int) ≤ (q : Int) ∧ (q : Int) < (n : Int) := by omega
        have hstep := take_step hlt
        rw [← hq] at hstep
        have HST := Lib.hid hstep
        have hrl := hMr.llen
        have HQN := Lib.hid hqn
        have HQM := Lib.hid hqm
        clear hcell hMr hmid hstep hqm hqn hq
        by_cases hl0 : L'.getD q 0 = 0
        · rw [hl0] at cl
          have HE : Hid (edge Wn n rm p q) := Lib.hid ⟨HQM.out, hp, HQN.out, HRM.out, by
            cases e : rm q with
            | false => rfl
            | true =>
              have h1 := (HMD.out.inv.gone q HQN.out).2 e
              have h2 : nth 0 L' q = 0 := hl0
              omega⟩
          by_cases hr0 : R'.getD q 0 = 0
          · rw [hr0] at cr
            have cS : wr.cell? ⟨N + 7, 0, none⟩ = some (.func (Fn.func 36) #[] #[.pointer (some ⟨N + 5, 0, none⟩), .pointer (some ⟨N + 6, 0, none⟩), .pointer (some ⟨N + 4, 0, none⟩), .pointer (some ⟨N, 0, none⟩), .pointer (some ⟨N + 2, 0, none⟩), .pointer (some ⟨N + 7, 0, none⟩)]) :=
              (HMR.out.static (by omega) (by omega) (by omega) (by omega) (by omega)).trans C.self
            have HC : Hid (Calls Try.prog 36 (visitArgs N q) wr (Visited N n W0 Wn rm (fun x => g x ∨ x = p) q L' R' S' c' )) :=
              Lib.hid (HIH.out q L' R' S' c' wr _ (by have := HK.out; have := HMD.out.more; omega) HQN.out hr0 hl0 HMD.out.inv (HMD.out.before HE.out) HMR.out)
            go_wp2_with (go_at_call 36; refine HC.out.mono ?_)
            rintro e w3 ⟨L3, R3, S3, c3, low3, T3, rfl, hM3, hi3, hp3⟩
            have HREL := Lib.hid (VisitAt.next (i := j) (row := row) (by omega) hM3 (by rw [← HST.out]; exact HMD.out.call HE.out hr0 hi3 hp3))
            clear hM3 hi3 hp3 HC
            go_wp2_with fail
            go_roundw
            case rel =>
              have e : (if low3 < low then (low3 : Int) else (low : Int)) = ((min low low3 : Nat) : Int) := by split <;> omega
              rw [e]
              exact HREL.out
            case measure => simp [intOf]; omega
          · have t1 : (((R'.getD q 0 : Nat) : Int) == 0) = false := by simp only [beq_eq_false_iff_ne]; omega
            have HREL := Lib.hid (VisitAt.next (i := j) (row := row) (by omega) HMR.out (by rw [← HST.out]; exact HMD.out.seenStep HE.out HQN.out hl0 hr0))
            generalize hgr : R'.getD q 0 = rq at *
            have hgr2 : nth 0 R' q = rq := hgr
            rw [hgr2] at HREL
            clear hgr hgr2
            go_wp2_with fail
            go_roundw
            case rel =>
              have e : (if rq < low then (rq : Int) else (low : Int)) = ((min low rq : Nat) : Int) := by split <;> omega
              rw [e]
              exact HREL.out
            case measure => simp [intOf]; omega
        · have t1 : (L'.getD q 0 != 0) = true := by simp only [bne_iff_ne]; exact hl0
          have HREL := Lib.hid (VisitAt.next (i := j) (row := row) (by omega) HMR.out (by rw [← HST.out]; exact HMD.out.skip (edge_graph Wn n rm) hl0))
          clear hl0
          generalize L'.getD q 0 = lq at *
          go_wp2_with fail
          go_roundw
          case rel => exact HREL.out
          case measure => simp [intOf]; omega
      · obtain rfl : j = row.length := by omega
        have HD : Hid (∀ q, edge Wn n rm p q → q ∈ row.take row.length) := Lib.hid fun q hq => by rw [List.take_length, HROW.out]; exact hq.1
        have hown := hmid.own
        obtain ⟨crp, -⟩ := hMr.rcell hp
        have hrp : R'.getD p 0 = c + 1 := hown
        rw [hrp] at crp
        have hlowP := hmid.lowP
        clear hrp hown
        by_cases hlow : low = c + 1
        · have HLOW := Lib.hid hlow
          have HPOP := Lib.hid (hmid.pop (edge_graph Wn n rm) HD.out hlow)
          have HPATH := Lib.hid hmid.path
          have hcs : ∀ x, x ∈ p :: T → x < n := fun x hx => ((hmid.inv.mem x).1 (by rw [hmid.path]; exact List.mem_append_right _ hx)).1
          have HCS := Lib.hid hcs
          have t1 : ((low : Int) == ((c + 1 : Nat) : Int)) = true := by rw [hlow]; simp
          obtain ⟨v2, hv2, hrow2⟩ := hMr.path
          have HV2 := Lib.hid hv2
          have HR2 := Lib.hid hrow2
          obtain ⟨a2, cap2, rfl, hp1, hp2, -⟩ := hrow2.row
          have hlen2 : S'.length = S.length + (T.length + 1) := by rw [hmid.path]; simp
          have c52 := cell_of_one hv2
          obtain ⟨g2, o2⟩ : ∃ g2, a2 = some ⟨g2, 0, none⟩ := by
            rcases hrow2.shape with ⟨e1, e2⟩ | ⟨g2, _, e1, _⟩
            · rw [e2] at hlen2; simp at hlen2
            · exact ⟨g2, (sl_eq e1).1⟩
          subst o2
          unfold maxLen at hp2
          have q1 : ¬ cap2 ≤ S.length := by omega
          have q2 : ¬ cap2 - S.length = 0 := by omega
          clear hlow hMr hmid hv2 hrow2 hcs
          go_wp2_with fail
          go_loopw [75] (fun i wr => PopAt N n W0 L' R' S' c' low (p :: T) (.slice (some ⟨g2, 0, none⟩) S'.length cap2) i wr) (fun i _ => (p :: T).length - (intOf i).toNat)
          case atStart => exact ⟨0, L', Nat.zero_le _, rfl, HMR.out, fun q => by simp, HV2.out, HR2.out⟩
          case round =>
            clear c52 cL cR crp
            obtain ⟨m, Lj, hm, rfl, hMj, hLj, hvj, hrj⟩ := hrel
            have cLj := hMj.varL C
            have HJ := Lib.hid hLj
            have HMJ := Lib.hid hMj
            have HVJ := Lib.hid hvj
            have HRJ := Lib.hid hrj
            rw [List.length_cons] at hm
            by_cases hlt : m < T.length + 1
            · have i1 : (m : Int) < (T.length : Int) + 1 := by omega
              obtain ⟨x, hx⟩ : ∃ x, x = (p :: T).getD m 0 := ⟨_, rfl⟩
              have hxn : x < n := HCS.out x (by rw [hx, List.getD_eq_getElem?_getD, List.getElem?_eq_getElem (by simpa using hlt)]; exact List.getElem_mem _)
              have cx : wr.cell? ⟨g2, S.length + m, none⟩ = some (.int .i64 (x : Int)) := by
                rcases hrj.shape with ⟨e1, -⟩ | ⟨g3, cap3, e1, -, -, -, -, hc3⟩
                · exact absurd (sl_eq e1).1 (by simp)
                · have e2 := (sl_eq e1).1
                  injection e2 with e2
                  injection e2 with e2
                  subst e2
                  refine hc3 _ x ?_
                  rw [HPATH.out, List.getElem?_append_right (by omega), show S.length + m - S.length = m by omega, hx]
                  exact getD_get (by simpa using hlt)
              obtain ⟨-, fl⟩ := hMj.lcell hxn
              obtain ⟨y, cl⟩ : ∃ y, wr.cell? ⟨N + 1, x, none⟩ = some y := ⟨_, (hMj.lcell hxn).1⟩
              have hxi : (0 : Int) ≤ (x : Int) ∧ (x : Int) < (n : Int) := by omega
              have HREL := Lib.hid (PopAt.next (show m < (p :: T).length by simpa using hlt) hx hxn hMj hLj hvj hrj)
              clear hx hxn hMj hLj hvj hrj
              go_wp2_with fail
              go_roundw
              case rel => exact HREL.out
              case measure => simp [intOf]; omega
            · obtain rfl : m = T.length + 1 := by omega
              have c5j := cell_of_one hvj
              have f5j := free_of_one hvj
              have HFIN := Lib.hid (hMj.setP (S' := S) (r := none) hvj (grownBy_refl _ _) (fun k hk => by cases hk) (by have := hrj.takeN (k := S.length) (by omega); rw [HPATH.out, List.take_left] at this; exact this))
              have HFUN : Hid (nth 0 Lj = fun q => if q ∈ p :: T then (low : Int) else nth 0 L' q) := Lib.hid (funext fun q => by
                have := hLj q
                rw [List.take_of_length_le (by simp)] at this
                exact this)
              clear hMj hLj hvj hrj
              go_wp2_with fail
              go_ret
              exact ⟨Lj, R', S, c', low, [], rfl, HFIN.out, by rw [HFUN.out]; exact HPOP.out.1, by rw [HFUN.out]; exact HPOP.out.2⟩
        · have hlt2 : low < c + 1 := by omega
          have t1 : ((low : Int) == ((c + 1 : Nat) : Int)) = false := by simp only [beq_eq_false_iff_ne]; omega
          have HST := Lib.hid (hmid.stay HD.out hlt2)
          clear hmid hlow hlt2
          go_wp2_with fail
          go_ret
          exact ⟨L', R', S', c', low, p :: T, rfl, HMR.out, HST.out.1, HST.out.2⟩
end Go.Proofs.Ytkocfhacfmlmaaa
