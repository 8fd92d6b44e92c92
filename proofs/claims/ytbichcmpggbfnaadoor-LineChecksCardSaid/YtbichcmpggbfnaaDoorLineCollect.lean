/-
  CONTRACT OF LAYER 10 (line): collect. By an AI agent.
-/
import Derived.Test.YtbichcmpggbfnaaDoorLineText
import Derived.Test.YtbichcmpggbfnaaDoorLineCut
import Derived.Test.YtbichcmpggbfnaaDoorBlk
namespace Go.Proofs.YtbichcmpggbfnaaDoor
open Go.RowKit
open Wd (Bs)

/-- the memory of collect: its result, its line (block N + 1), the subtypes in newer memory -/
structure CollAt (N : Nat) (w wr : World) (k : Ln.Col) (v : Value) : Prop where
  b0 : Blk wr N #[.int .i64 0, .int .i64 0, .slice none 0 0] 24
  b1 : Blk wr (N + 1) #[.int .i64 k.s, .int .i64 k.t, v] 24
  own : OwnStrs (N + 2) wr v k.u
  hb : Below N w wr
  size : N + 2 ≤ wr.heap.size
theorem CollAt.below {N : Nat} {w wr w2 : World} {k : Ln.Col} {v : Value} (h : CollAt N w wr k v) (hb : Below wr.heap.size wr w2) (hN : N = w.heap.size) : CollAt N w w2 k v :=
  ⟨h.b0.below hb h.b0.lt, h.b1.below hb h.b1.lt, h.own.below hb (Nat.le_refl _), h.hb.trans (hb.mono (by have := h.size; omega)), Nat.le_trans h.size hb.size⟩
/-- a struct of three cells stored whole -/
def set3 (w : World) (b : Nat) (x y z : Value) : World := ((w.setCell ⟨b, 0, none⟩ x).setCell ⟨b, 1, none⟩ y).setCell ⟨b, 2, none⟩ z
theorem Blk.three {w : World} {b : Nat} {p q r : Value} {t : TypeId} (h : Blk w b #[p, q, r] t) (x y z : Value) : Blk (set3 w b x y z) b #[x, y, z] t :=
  ((h.set 0 x).set 1 y).set 2 z
theorem below_three {w : World} {b C : Nat} {x y z : Value} {w0 : World} (h : Below C w0 w) (hC : C ≤ b) : Below C w0 (set3 w b x y z) :=
  ((h.setCell (by exact hC) _).setCell (by exact hC) _).setCell (by exact hC) _
theorem OwnStrs.set_old {B : Nat} {w : World} {v : Value} {l : List Bs} (h : OwnStrs B w v l) {b : Nat} (hb : b < B) (j : Nat) (x : Value) : OwnStrs B (w.setCell ⟨b, j, none⟩ x) v l := by
  refine ⟨h.1, ?_⟩
  rcases h.2 with hn | ⟨g, cap, cur, rfl, hB, hg, rest⟩
  · exact .inl hn
  · exact .inr ⟨g, cap, cur, rfl, hB, (Below.heap_setCell w ⟨b, j, none⟩ x g (by show g ≠ b; omega)).trans hg, rest⟩
theorem OwnStrs.set_three {B : Nat} {w : World} {v : Value} {l : List Bs} (h : OwnStrs B w v l) {b : Nat} (hb : b < B) (x y z : Value) : OwnStrs B (set3 w b x y z) v l :=
  ((h.set_old hb 0 x).set_old hb 1 y).set_old hb 2 z
theorem OwnStrs.slice {B : Nat} {w : World} {v : Value} {l : List Bs} (h : OwnStrs B w v l) : ∃ ad cap, v = .slice ad l.length cap ∧ cap ≤ maxLen ∧ l.length ≤ cap := by
  rcases h.shape with ⟨rfl, rfl⟩ | ⟨g, cap, rfl, _, _, h1, h2, _⟩
  · exact ⟨none, 0, rfl, by decide, Nat.le_refl _⟩
  · exact ⟨_, cap, rfl, h2, h1⟩
/-- where the walk ends: the line as it lies is the result -/
theorem collect_step {c : Bs} {g : Nat} {k R : Ln.Col} {s : Bs} (hc : c ≠ []) (h : Ln.meas s true ≤ g ∧ Ln.collectF c g k s true = R ∧ k.Ok) (hk : k.u.length ≤ 4) :
    0 < g ∧ Ln.meas (Wd.cut s c).2.1 (Wd.cut s c).2.2 ≤ g - 1 ∧ Ln.collectF c (g - 1) (Ln.addW k (Wd.cut s c).1) (Wd.cut s c).2.1 (Wd.cut s c).2.2 = R ∧ (Ln.addW k (Wd.cut s c).1).Ok := by
  obtain ⟨h1, h2, h3⟩ := h
  have h4 := Ln.meas_cut (s := s) hc
  cases g with
  | zero => omega
  | succ g =>
    refine ⟨by omega, by simp; omega, ?_, Ln.addW_ok _ h3⟩
    rw [← h2, Ln.collectF_go hk]
    rfl
theorem or_s : ∀ m : Nat, m < 4 → ∀ i : Nat, i < 2 → bits .or .i64 (m : Int) ((2 ^ i : Nat) : Int) = ((Ln.orBit m i : Nat) : Int) := by decide +kernel
theorem or_t : ∀ m : Nat, m < 64 → ∀ i : Nat, i < 6 → bits .or .i64 (m : Int) ((2 ^ i : Nat) : Int) = ((Ln.orBit m i : Nat) : Int) := by decide +kernel
theorem cut_vals (l c : Bs) : ∃ p r : ByteArray, p.data.toList = (Wd.cut l c).1 ∧ r.data.toList = (Wd.cut l c).2.1 ∧ cutV (Wd.cut l c) = .tuple #[.string p, .string r, .bool (Wd.cut l c).2.2] :=
  ⟨⟨(Wd.cut l c).1.toArray⟩, ⟨(Wd.cut l c).2.1.toArray⟩, rfl, rfl, rfl⟩
theorem cut_len (l c : Bs) : (Wd.cut l c).2.1.length ≤ l.length := by
  unfold Wd.cut
  split
  · simp
  · split <;> simp
theorem pow64 (j : Nat) (h : j < 8) : wrap64 ((2 : Int) ^ j) = ((2 ^ j : Nat) : Int) := by
  have e : ((2 : Int) ^ j) = ((2 ^ j : Nat) : Int) := by simp
  have h2 : ∀ j : Nat, j < 8 → 2 ^ j ≤ 128 := by decide
  have h3 := h2 j h
  rw [e]
  generalize 2 ^ j = q at h3 ⊢
  exact IntWalk.wrap64_in _ ⟨by omega, by omega⟩
theorem CollAt.setS {N : Nat} {w wr : World} {k : Ln.Col} {v : Value} (h : CollAt N w wr k v) {x : Int} {m : Nat} (hx : x = (m : Int)) : CollAt N w (wr.setCell ⟨N + 1, 0, none⟩ (.int .i64 x)).drew { k with s := m } v := by
  subst hx
  exact ⟨h.b0.other (by omega) 0 _, h.b1.set 0 _, h.own.set_old (by omega) 0 _, (h.hb.setCell (by show N ≤ N + 1; omega) _).drew, by simp; exact h.size⟩
theorem CollAt.setT {N : Nat} {w wr : World} {k : Ln.Col} {v : Value} (h : CollAt N w wr k v) {x : Int} {m : Nat} (hx : x = (m : Int)) : CollAt N w (wr.setCell ⟨N + 1, 1, none⟩ (.int .i64 x)).drew { k with t := m } v := by
  subst hx
  exact ⟨h.b0.other (by omega) 1 _, h.b1.set 1 _, h.own.set_old (by omega) 1 _, (h.hb.setCell (by show N ≤ N + 1; omega) _).drew, by simp; exact h.size⟩
theorem CollAt.setU {N : Nat} {w wr w2 : World} {k : Ln.Col} {v v' : Value} {u : List Bs} (h : CollAt N w wr k v) (hb : Below (N + 2) wr w2) (ho : OwnStrs (N + 2) w2 v' u) : CollAt N w (w2.setCell ⟨N + 1, 2, none⟩ v') { k with u := u } v' :=
  ⟨(h.b0.below hb (by omega)).other (by omega) 2 _, (h.b1.below hb (by omega)).set 2 _, ho.set_old (by omega) 2 _, (h.hb.trans (hb.mono (by omega))).setCell (by show N ≤ N + 1; omega) _, by simp; exact Nat.le_trans h.size hb.size⟩
set_option maxHeartbeats 2000000 in
set_option maxRecDepth 100000 in
theorem lineCollect (s c : ByteArray) (w : World) (hE : Env w) (hs : s.size ≤ 140737488355328) (hc : c.data.toList.length = 1) :
    Calls Tryd.prog 39 #[.string s, .string c] w fun e w' => ∃ v, e = .returned (.agg #[.int .i64 (Ln.collectL s.data.toList c.data.toList).s, .int .i64 (Ln.collectL s.data.toList c.data.toList).t, v]) ∧
      OwnStrs w.heap.size w' v (Ln.collectL s.data.toList c.data.toList).u ∧ Below w.heap.size w w' := by
  have hlen := bytes_len s
  obtain ⟨R, hR⟩ : ∃ R, R = Ln.collectL s.data.toList c.data.toList := ⟨_, rfl⟩
  rw [← hR]
  have HR0 : Hid (Ln.collectF c.data.toList (s.size + 1) Ln.zero s.data.toList true = R) := Lib.hid (by rw [hR, ← hlen]; rfl)
  have HCN : Hid (c.data.toList ≠ []) := Lib.hid (by intro e; rw [e] at hc; simp at hc)
  have hcs : c.size ≤ 1000000000 := by rw [← bytes_len c]; omega
  have HE := Lib.hid hE
  clear hR hE hlen hc
  go_enter Tryd.func39, Tryd.ntmps39
  go_wp2_with fail
  go_step3
  go_wp2_with fail
  go_step3
  go_wp2_with fail
  go_loopg [0, 6, 7] (s.size + 1) (fun g sv pv mv wr => ∃ (k : Ln.Col) (sx px : ByteArray) (more : Bool) (v : Value), sv = .string sx ∧ pv = .string px ∧ mv = .bool more ∧ sx.size ≤ 140737488355328 ∧ Hid (Ln.meas sx.data.toList more ≤ g ∧ Ln.collectF c.data.toList g k sx.data.toList more = R ∧ k.Ok) ∧ CollAt w.heap.size w wr k v)
  case atStart =>
    refine ⟨Ln.zero, s, ⟨#[]⟩, true, .slice none 0 0, rfl, rfl, rfl, hs, Lib.hid ⟨by unfold Ln.meas; rw [bytes_len]; simp, HR0.out, Ln.zero_ok⟩, ?_⟩
    have h1 := (Blk.new w #[.int .i64 0, .int .i64 0, .slice none 0 0] 24).alloc (.cells #[.int .i64 0, .int .i64 0, .slice none 0 0] 24)
    have h2 := Blk.new (w.alloc (.cells #[.int .i64 0, .int .i64 0, .slice none 0 0] 24)) #[.int .i64 0, .int .i64 0, .slice none 0 0] 24
    rw [show (w.alloc (.cells #[.int .i64 0, .int .i64 0, .slice none 0 0] 24)).heap.size = w.heap.size + 1 by simp] at h2
    exact ⟨h1, h2, OwnStrs.nil _ _, ((Below.refl _ _).alloc (Nat.le_refl _) _).alloc (by simp) _, by simp⟩
  case round =>
    obtain ⟨k, sx, px, more, v, rfl, rfl, rfl, hsx, HK, hat⟩ := hrel
    obtain ⟨ad, cap, rfl, hcm, hcl⟩ := hat.own.slice
    unfold maxLen at hcm
    have HAT := Lib.hid hat
    have f0 : wr.cell? ⟨w.heap.size + 1, 0, none⟩ = some (.int .i64 k.s) := hat.b1.cell 0
    have f1 : wr.cell? ⟨w.heap.size + 1, 1, none⟩ = some (.int .i64 k.t) := hat.b1.cell 1
    have f2 : wr.cell? ⟨w.heap.size + 1, 2, none⟩ = some (.slice ad k.u.length cap) := hat.b1.cell 2
    clear hat
    by_cases hgo : more = true ∧ k.u.length ≤ 4
    · obtain ⟨rfl, h4⟩ := hgo
      have h4' : (k.u.length : Int) ≤ 4 := by omega
      obtain ⟨hg0, hstep⟩ := collect_step HCN.out HK.out h4
      have HST := Lib.hid hstep
      obtain ⟨p, r, hp, hr, hv⟩ := cut_vals sx.data.toList c.data.toList
      have hrl : r.size ≤ 140737488355328 := by
        have h1 := bytes_len r
        have h2 := cut_len sx.data.toList c.data.toList
        have h3 := bytes_len sx
        rw [hr] at h1
        omega
      have HCUT := Lib.hid (wordCutFar sx c wr hsx hcs)
      unfold CutRes at HCUT
      rw [hv] at HCUT
      rw [← hp, ← hr] at HST
      generalize (Wd.cut sx.data.toList c.data.toList).2.2 = m at *
      clear hp hr hv hstep
      go_wp2_with fail
      refine HCUT.out.mono ?_
      rintro e w2 ⟨rfl, hb2⟩
      have hat2 := HAT.out.below hb2 rfl
      have HAT2 := Lib.hid hat2
      have hE2 := HE.out.below hat2.hb
      have c0 := hE2.cell 0 (by decide)
      have c1 := hE2.cell 1 (by decide)
      have c2 := hE2.cell 2 (by decide)
      have c3 := hE2.cell 3 (by decide)
      have c4 := hE2.cell 4 (by decide)
      have c5 := hE2.cell 5 (by decide)
      have c6 := hE2.cell 6 (by decide)
      have c7 := hE2.cell 7 (by decide)
      clear hb2 hat2 hE2 HAT f0 f1 f2
      go_wp2_with fail
      clear c0 c1 c2 c3 c4 c5 c6 c7
      obtain ⟨g1, hg1⟩ : ∃ g1, g1 = gk - 1 := ⟨_, rfl⟩
      rw [← hg1] at HST
      have hgl : g1 < gk := by omega
      clear hg0 hg1
      go_loopg [25] 8 (fun g' i wr' => ∃ j : Nat, j + g' = 8 ∧ i = .int .i64 (j : Int) ∧ NoWordTo p.data.toList j ∧ w2 = wr')
      case atStart => exact ⟨0, rfl, rfl, fun j hj => by omega, rfl⟩
      case round =>
        obtain ⟨j, hjg, rfl, hno, rfl⟩ := hrel
        have HNO := Lib.hid hno
        have f0 : w2.cell? ⟨w.heap.size + 1, 0, none⟩ = some (.int .i64 k.s) := HAT2.out.b1.cell 0
        have f1 : w2.cell? ⟨w.heap.size + 1, 1, none⟩ = some (.int .i64 k.t) := HAT2.out.b1.cell 1
        have f2 : w2.cell? ⟨w.heap.size + 1, 2, none⟩ = some (.slice ad k.u.length cap) := HAT2.out.b1.cell 2
        have z0 := HAT2.out.b1.free
        clear hno
        by_cases hlt : j < 8
        · have hi := fun w => wordsV_at j hlt w
          obtain ⟨sw, hsw, ex⟩ := exists_bytes (Ln.word j)
          rw [ex] at hi
          by_cases hw : Ln.word j = p.data.toList
          · have ht : (p.toList == sw.toList) = true := bytes_eq (by rw [hsw, hw])
            have hix : Ln.ix p.data.toList = j := Ln.ix_hit hlt hw
            by_cases h2 : j < 2
            · have HA : Hid (Ln.addW k p.data.toList = { k with s := Ln.orBit k.s j }) := Lib.hid (by rw [Ln.addW_super (by omega), hix])
              have q0 : (0 : Int) ≤ (j : Int) := by omega
              have HOR : Hid (bits .or .i64 (k.s : Int) (wrap64 ((2 : Int) ^ j)) = ((Ln.orBit k.s j : Nat) : Int)) := Lib.hid (by rw [pow64 j hlt]; exact or_s k.s HK.out.2.2.1 j h2)
              have HNEW := Lib.hid (HAT2.out.setS HOR.out)
              clear hw hsw ex hix
              go_wp2_with fail
              go_region
              go_wp2_with fail
              go_roundg g1
              case rel => exact ⟨_, r, p, m, _, rfl, rfl, rfl, hrl, by rw [HA.out] at HST; exact HST, HNEW.out⟩
              case measure => omega
            · have h2' : (2 : Int) ≤ (j : Int) := by omega
              have HA : Hid (Ln.addW k p.data.toList = { k with t := Ln.orBit k.t (j - 2) }) := Lib.hid (by rw [Ln.addW_type (by omega) (by omega), hix])
              have q0 : IntKind.i64.wrap ((j : Int) - 2) = ((j - 2 : Nat) : Int) := by rw [IntWalk.i64_in _ (by omega)]; omega
              have HOR : Hid (bits .or .i64 (k.t : Int) (wrap64 ((2 : Int) ^ (j - 2))) = ((Ln.orBit k.t (j - 2) : Nat) : Int)) := Lib.hid (by rw [pow64 (j - 2) (by omega)]; exact or_t k.t HK.out.2.2.2 (j - 2) (by omega))
              have HNEW := Lib.hid (HAT2.out.setT HOR.out)
              clear hw hsw ex hix
              go_wp2_with fail
              go_region
              go_wp2_with fail
              go_roundg g1
              case rel => exact ⟨_, r, p, m, _, rfl, rfl, rfl, hrl, by rw [HA.out] at HST; exact HST, HNEW.out⟩
              case measure => omega
          · have ht : (p.toList == sw.toList) = false := bytes_ne (by rw [hsw]; exact Ne.symm hw)
            have HN := Lib.hid (HNO.out.next hw)
            clear hw hsw ex
            go_wp2_with fail
            go_roundg (8 - (j + 1))
            case rel => exact ⟨j + 1, by omega, by go_num, HN.out, rfl⟩
            case measure => omega
        · obtain rfl : j = 8 := by omega
          have HA : Hid (Ln.addW k p.data.toList = { k with u := k.u ++ [p.data.toList] }) := Lib.hid (Ln.addW_sub (Ln.ix_none HNO.out))
          have HLEN : Hid (k.u.length ≤ 1000000000000) := Lib.hid (by omega)
          have hszN : w.heap.size + 2 ≤ w2.heap.size := HAT2.out.size
          have HOWN := Lib.hid HAT2.out.own
          go_wp2_with (at_builtin; refine wpList_push_str rfl _ _ rfl rfl HOWN.out p rfl HLEN.out hszN (Below.refl _ _) ?_)
          intro v' w3 ho hb3
          obtain ⟨ad', cap', rfl, -, -⟩ := ho.slice
          have hnew := HAT2.out.setU hb3 ho
          simp only [List.length_append, List.length_singleton] at hnew
          have HNEW := Lib.hid hnew
          clear hnew
          have y2 : w3.cell? ⟨w.heap.size + 1, 2, none⟩ = some (.slice ad k.u.length cap) := (hb3.cell (p := ⟨w.heap.size + 1, 2, none⟩) (by show w.heap.size + 1 < _; omega)).trans f2
          have z2 : ∀ i, w3.frozen? ⟨w.heap.size + 1, i, none⟩ = false := (HAT2.out.b1.below hb3 (by omega)).free
          clear ho hb3
          go_wp2_with fail
          go_roundg g1
          case rel => exact ⟨_, r, p, m, _, rfl, rfl, rfl, hrl, by rw [HA.out] at HST; exact HST, HNEW.out⟩
          case measure => omega
    · have HKR : Hid (k = R) := Lib.hid (by
        have h1 := HK.out.2.1
        rw [Ln.collectF_stop (by
          cases more with
          | false => exact .inl rfl
          | true => exact .inr (by simp at hgo; omega))] at h1
        exact h1)
      have g0 := HAT.out.b0.cell
      have g1 := HAT.out.b0.free
      have hcase : more = false ∨ (more = true ∧ (4 : Int) < (k.u.length : Int)) := by
        cases more with
        | false => exact .inl rfl
        | true => exact .inr ⟨rfl, by simp at hgo; omega⟩
      clear hgo
      rcases hcase with rfl | ⟨rfl, h4⟩
      all_goals
        go_wp2_with fail
        (try rw [Exit.noGoto_ret])
        change bodyPost _ _ _ _ _ (set3 wr w.heap.size (.int .i64 k.s) (.int .i64 k.t) (.slice ad k.u.length cap))
        have hB := (HAT.out.b0.three (.int .i64 k.s) (.int .i64 k.t) (.slice ad k.u.length cap)).cell
        have HO := Lib.hid ((HAT.out.own.set_three (b := w.heap.size) (by omega) (.int .i64 k.s) (.int .i64 k.t) (.slice ad k.u.length cap)).mono (by omega : w.heap.size ≤ w.heap.size + 2))
        have HF := Lib.hid (below_three (x := .int .i64 k.s) (y := .int .i64 k.t) (z := .slice ad k.u.length cap) HAT.out.hb (Nat.le_refl _))
        clear HAT g0 g1 f0 f1 f2
        generalize set3 wr w.heap.size (.int .i64 k.s) (.int .i64 k.t) (.slice ad k.u.length cap) = wf at hB HO HF ⊢
        exact bodyPost_ret (v := .agg #[.int .i64 k.s, .int .i64 k.t, .slice ad k.u.length cap]) (by simp [results, Tryd.results39, go_sem, hB]) rfl ⟨_, by rw [← HKR.out], by rw [← HKR.out]; exact HO.out, HF.out⟩
end Go.Proofs.YtbichcmpggbfnaaDoor
