/-
  MERGED: FWordI, FLineP, FLineA, FColT, FKeyT, FNumA, FLineS. By an AI agent.
-/
import Derived.Test.YtbcgkeclmioeiaaGreatDoorFWord
import Derived.Test.YtbcgkeclmioeiaaGreatDoorShelfI
import Derived.Test.YtbcgkeclmioeiaaGreatDoorFLine
import Derived.Test.YtbcgkeclmioeiaaGreatDoorBlk
import Derived.Test.YtbcgkeclmioeiaaGreatDoorShelfC
import Derived.Laws.AppendOwn
import Derived.Test.YtbcgkeclmioeiaaGreatDoorFCol
import Derived.Test.YtbcgkeclmioeiaaGreatDoorNumBits
import Derived.Test.YtbcgkeclmioeiaaGreatDoorFKey
import Derived.Test.YtbcgkeclmioeiaaGreatDoorBits64
import Derived.Test.YtbcgkeclmioeiaaGreatDoorFNum
namespace Go.Proofs.YtbcgkeclmioeiaaGreatDoor
open Go.RowKit
open Wd (Bs)

set_option maxRecDepth 100000 in
theorem wordIndex (v : Value) (l : List Bs) (s : ByteArray) (w : World) (hv : Strs w v l) :
    Calls Tryz.prog 158 #[v, .string s] w fun e w' => e = .returned (.int .i64 (idx l s.data.toList)) ∧ w = w' := by
  rcases hv.shape with ⟨b, k, rfl, rfl⟩ | ⟨b, o, k, rfl, p, q, n1, m1, d⟩
  · go_enter Tryz.func158, Tryz.ntmps158
    go_wp2_with fail
    refine (Tryz.slices_Index_string_empty _ _ _ _).mono ?_
    rintro e w1 ⟨rfl, rfl⟩
    go_wp2_with fail
    go_ret
    exact ⟨rfl, rfl⟩
  · unfold maxLen at m1
    have D := Lib.hid d
    clear d hv
    go_enter Tryz.func158, Tryz.ntmps158
    go_wp2_with fail
    refine (Tryz.slices_Index_string b o l.length k (l.map ba) s _ (by simp) (by omega) (fun j hj => ?_)).mono ?_
    · have hj' : j < l.length := by simpa using hj
      rw [ba_getD l j hj']
      exact D.out j l[j] (List.getElem?_eq_getElem hj')
    rintro e w1 ⟨rfl, rfl⟩
    go_wp2_with fail
    go_ret
    exact ⟨ret_int (by rw [List.take_of_length_le (by simp)]; rfl), rfl⟩
end Go.Proofs.YtbcgkeclmioeiaaGreatDoor
namespace Go.Proofs.YtbcgkeclmioeiaaGreatDoor
open Go.RowKit
open Wd (Bs)

theorem bytes_lenL (r : ByteArray) : r.data.toList.length = r.size := by simp

/-- the memory of collect: its result, its line (block N + 1), the subtypes in newer memory -/
structure CollAt (N : Nat) (w wr : World) (k : Ln.Col) (v : Value) : Prop where
  b0 : Blk wr N #[.int .i64 0, .int .i64 0, .slice none 0 0] 53
  b1 : Blk wr (N + 1) #[.int .i64 k.s, .int .i64 k.t, v] 53
  own : OwnStrs (N + 2) wr v k.u
  hb : Below N w wr
  size : N + 2 ≤ wr.heap.size
theorem CollAt.below {N : Nat} {w wr w2 : World} {k : Ln.Col} {v : Value} (h : CollAt N w wr k v) (hb : Below wr.heap.size wr w2) (hN : N = w.heap.size) : CollAt N w w2 k v :=
  ⟨h.b0.below hb h.b0.lt, h.b1.below hb h.b1.lt, h.own.below hb (Nat.le_refl _), h.hb.trans (hb.mono (by have := h.size; omega)), Nat.le_trans h.size hb.size⟩
/-- a struct of three cells stored whole -/
def set3L (w : World) (b : Nat) (x y z : Value) : World := ((w.setCell ⟨b, 0, none⟩ x).setCell ⟨b, 1, none⟩ y).setCell ⟨b, 2, none⟩ z
theorem Blk.three {w : World} {b : Nat} {p q r : Value} {t : TypeId} (h : Blk w b #[p, q, r] t) (x y z : Value) : Blk (set3L w b x y z) b #[x, y, z] t :=
  ((h.set 0 x).set 1 y).set 2 z
theorem below_three {w : World} {b C : Nat} {x y z : Value} {w0 : World} (h : Below C w0 w) (hC : C ≤ b) : Below C w0 (set3L w b x y z) :=
  ((h.setCell (by exact hC) _).setCell (by exact hC) _).setCell (by exact hC) _
theorem OwnStrs.set_old {B : Nat} {w : World} {v : Value} {l : List Bs} (h : OwnStrs B w v l) {b : Nat} (hb : b < B) (j : Nat) (x : Value) : OwnStrs B (w.setCell ⟨b, j, none⟩ x) v l := by
  refine ⟨h.1, ?_⟩
  rcases h.2 with hn | ⟨g, cap, cur, rfl, hB, hg, rest⟩
  · exact .inl hn
  · exact .inr ⟨g, cap, cur, rfl, hB, (Below.heap_setCell w ⟨b, j, none⟩ x g (by show g ≠ b; omega)).trans hg, rest⟩
theorem OwnStrs.set_three {B : Nat} {w : World} {v : Value} {l : List Bs} (h : OwnStrs B w v l) {b : Nat} (hb : b < B) (x y z : Value) : OwnStrs B (set3L w b x y z) v l :=
  ((h.set_old hb 0 x).set_old hb 1 y).set_old hb 2 z
theorem OwnStrs.slice {B : Nat} {w : World} {v : Value} {l : List Bs} (h : OwnStrs B w v l) : ∃ ad cap, v = .slice ad l.length cap ∧ cap ≤ maxLen ∧ l.length ≤ cap := by
  rcases h.shape with ⟨rfl, rfl⟩ | ⟨g, cap, rfl, _, _, h1, h2, _⟩
  · exact ⟨none, 0, rfl, by decide, Nat.le_refl _⟩
  · exact ⟨_, cap, rfl, h2, h1⟩
/-- where the walk ends: the line as it lies is the result -/
theorem collect_stepL {c : Bs} {g : Nat} {k R : Ln.Col} {s : Bs} (hc : c ≠ []) (h : Ln.meas s true ≤ g ∧ Ln.collectF c g k s true = R ∧ k.Ok) (hk : k.u.length ≤ 4) :
    0 < g ∧ Ln.meas (Wd.cut s c).2.1 (Wd.cut s c).2.2 ≤ g - 1 ∧ Ln.collectF c (g - 1) (Ln.addW k (Wd.cut s c).1) (Wd.cut s c).2.1 (Wd.cut s c).2.2 = R ∧ (Ln.addW k (Wd.cut s c).1).Ok := by
  obtain ⟨h1, h2, h3⟩ := h
  have h4 := Ln.meas_cut (s := s) hc
  cases g with
  | zero => omega
  | succ g =>
    refine ⟨by omega, by simp; omega, ?_, Ln.addW_ok _ h3⟩
    rw [← h2, Ln.collectF_go hk]
    rfl
theorem or_sL : ∀ m : Nat, m < 4 → ∀ i : Nat, i < 2 → bits .or .i64 (m : Int) ((2 ^ i : Nat) : Int) = ((Ln.orBit m i : Nat) : Int) := by decide +kernel
theorem or_tL : ∀ m : Nat, m < 64 → ∀ i : Nat, i < 6 → bits .or .i64 (m : Int) ((2 ^ i : Nat) : Int) = ((Ln.orBit m i : Nat) : Int) := by decide +kernel
theorem cut_valsL (l c : Bs) : ∃ p r : ByteArray, p.data.toList = (Wd.cut l c).1 ∧ r.data.toList = (Wd.cut l c).2.1 ∧ cutV (Wd.cut l c) = .tuple #[.string p, .string r, .bool (Wd.cut l c).2.2] :=
  ⟨⟨(Wd.cut l c).1.toArray⟩, ⟨(Wd.cut l c).2.1.toArray⟩, rfl, rfl, rfl⟩
theorem cut_lenL (l c : Bs) : (Wd.cut l c).2.1.length ≤ l.length := by
  unfold Wd.cut
  split
  · simp
  · split <;> simp
theorem pow64L (j : Nat) (h : j < 8) : wrap64 ((2 : Int) ^ j) = ((2 ^ j : Nat) : Int) := by
  have e : ((2 : Int) ^ j) = ((2 ^ j : Nat) : Int) := by simp
  have h2 : ∀ j : Nat, j < 8 → 2 ^ j ≤ 128 := by decide
  have h3 := h2 j h
  rw [e]
  generalize 2 ^ j = q at h3 ⊢
  exact IntWalk.wrap64_in _ ⟨by omega, by omega⟩
theorem CollAt.setS {N : Nat} {w wr : World} {k : Ln.Col} {v : Value} (h : CollAt N w wr k v) {x : Int} {m : Nat} (hx : x = (m : Int)) : CollAt N w (wr.setCell ⟨N + 1, 0, none⟩ (.int .i64 x)).drew { k with s := m } v := by
  subst hx
  exact ⟨h.b0.other (by omega) 0 _, h.b1.set 0 _, h.own.set_old (by omega) 0 _, (h.hb.setCell (by show N ≤ N + 1; omega) _).drew, by simp; exact h.size⟩
theorem CollAt.setT {N : Nat} {w wr : World} {k : Ln.Col} {v : Value} (h : CollAt N w wr k v) {x : Int} {m : Nat} (hx : x = (m : Int)) : CollAt N w (wr.setCell ⟨N + 1, 1, none⟩ (.int .i64 x)).drew { k with t := m } v := by
  subst hx
  exact ⟨h.b0.other (by omega) 1 _, h.b1.set 1 _, h.own.set_old (by omega) 1 _, (h.hb.setCell (by show N ≤ N + 1; omega) _).drew, by simp; exact h.size⟩
theorem CollAt.setU {N : Nat} {w wr w2 : World} {k : Ln.Col} {v v' : Value} {u : List Bs} (h : CollAt N w wr k v) (hb : Below (N + 2) wr w2) (ho : OwnStrs (N + 2) w2 v' u) : CollAt N w (w2.setCell ⟨N + 1, 2, none⟩ v') { k with u := u } v' :=
  ⟨(h.b0.below hb (by omega)).other (by omega) 2 _, (h.b1.below hb (by omega)).set 2 _, ho.set_old (by omega) 2 _, (h.hb.trans (hb.mono (by omega))).setCell (by show N ≤ N + 1; omega) _, by simp; exact Nat.le_trans h.size hb.size⟩
set_option maxHeartbeats 2000000 in
set_option maxRecDepth 100000 in
theorem lineCollect (s c : ByteArray) (w : World) (hE : EnvL w) (hs : s.size ≤ 140737488355328) (hc : c.data.toList.length = 1) :
    Calls Tryz.prog 175 #[.string s, .string c] w fun e w' => ∃ v, e = .returned (.agg #[.int .i64 (Ln.collectL s.data.toList c.data.toList).s, .int .i64 (Ln.collectL s.data.toList c.data.toList).t, v]) ∧
      OwnStrs w.heap.size w' v (Ln.collectL s.data.toList c.data.toList).u ∧ Below w.heap.size w w' := by
  have hlen := bytes_lenL s
  obtain ⟨R, hR⟩ : ∃ R, R = Ln.collectL s.data.toList c.data.toList := ⟨_, rfl⟩
  rw [← hR]
  have HR0 : Hid (Ln.collectF c.data.toList (s.size + 1) Ln.zero s.data.toList true = R) := Lib.hid (by rw [hR, ← hlen]; rfl)
  have HCN : Hid (c.data.toList ≠ []) := Lib.hid (by intro e; rw [e] at hc; simp at hc)
  have hcs : c.size ≤ 1000000000 := by rw [← bytes_lenL c]; omega
  have HE := Lib.hid hE
  clear hR hE hlen hc
  go_enter Tryz.func175, Tryz.ntmps175
  go_wp2_with fail
  go_step3
  go_wp2_with fail
  go_step3
  go_wp2_with fail
  go_loopg [0, 6, 7] (s.size + 1) (fun g sv pv mv wr => ∃ (k : Ln.Col) (sx px : ByteArray) (more : Bool) (v : Value), sv = .string sx ∧ pv = .string px ∧ mv = .bool more ∧ sx.size ≤ 140737488355328 ∧ Hid (Ln.meas sx.data.toList more ≤ g ∧ Ln.collectF c.data.toList g k sx.data.toList more = R ∧ k.Ok) ∧ CollAt w.heap.size w wr k v)
  case atStart =>
    refine ⟨Ln.zero, s, ⟨#[]⟩, true, .slice none 0 0, rfl, rfl, rfl, hs, Lib.hid ⟨by unfold Ln.meas; rw [bytes_lenL]; simp, HR0.out, Ln.zero_ok⟩, ?_⟩
    have h1 := (Blk.new w #[.int .i64 0, .int .i64 0, .slice none 0 0] 53).alloc (.cells #[.int .i64 0, .int .i64 0, .slice none 0 0] 53)
    have h2 := Blk.new (w.alloc (.cells #[.int .i64 0, .int .i64 0, .slice none 0 0] 53)) #[.int .i64 0, .int .i64 0, .slice none 0 0] 53
    rw [show (w.alloc (.cells #[.int .i64 0, .int .i64 0, .slice none 0 0] 53)).heap.size = w.heap.size + 1 by simp] at h2
    exact ⟨h1, h2, OwnStrs.nil _ _, ((Below.refl _ _).alloc (Nat.le_refl _) _).alloc (by simp) _, by simp⟩
  case round =>
    obtain ⟨k, sx, px, more, v, rfl, rfl, rfl, hsx, HK, hat⟩ := hrel
    obtain ⟨ad, cap, rfl, hcm, hcl⟩ := hat.own.slice
    unfold maxLen at hcm
    have HAT := Lib.hid hat
    have f0 : wr.cell? ⟨w.heap.size + 1, 0, none⟩ = some (.int .i64 k.s) := hat.b1.cell 0
    have f1 : wr.cell? ⟨w.heap.size + 1, 1, none⟩ = some (.int .i64 k.t) := hat.b1.cell 1
    have f2 : wr.cell? ⟨w.heap.size + 1, 2, none⟩ = some (.slice ad k.u.length cap) := hat.b1.cell 2
    clear hat
    by_cases hgo : more = true ∧ k.u.length ≤ 4
    · obtain ⟨rfl, h4⟩ := hgo
      have h4' : (k.u.length : Int) ≤ 4 := by omega
      obtain ⟨hg0, hstep⟩ := collect_stepL HCN.out HK.out h4
      have HST := Lib.hid hstep
      obtain ⟨p, r, hp, hr, hv⟩ := cut_valsL sx.data.toList c.data.toList
      have hrl : r.size ≤ 140737488355328 := by
        have h1 := bytes_lenL r
        have h2 := cut_lenL sx.data.toList c.data.toList
        have h3 := bytes_lenL sx
        rw [hr] at h1
        omega
      have HCUT := Lib.hid (wordCutFar sx c wr hsx hcs)
      unfold CutRes at HCUT
      rw [hv] at HCUT
      rw [← hp, ← hr] at HST
      generalize (Wd.cut sx.data.toList c.data.toList).2.2 = m at *
      clear hp hr hv hstep
      go_wp2_with fail
      refine HCUT.out.mono ?_
      rintro e w2 ⟨rfl, hb2⟩
      have hat2 := HAT.out.below hb2 rfl
      have HAT2 := Lib.hid hat2
      have hE2 := HE.out.below hat2.hb
      have c0 := hE2.cell 0 (by decide)
      have c1 := hE2.cell 1 (by decide)
      have c2 := hE2.cell 2 (by decide)
      have c3 := hE2.cell 3 (by decide)
      have c4 := hE2.cell 4 (by decide)
      have c5 := hE2.cell 5 (by decide)
      have c6 := hE2.cell 6 (by decide)
      have c7 := hE2.cell 7 (by decide)
      clear hb2 hat2 hE2 HAT f0 f1 f2
      go_wp2_with fail
      clear c0 c1 c2 c3 c4 c5 c6 c7
      obtain ⟨g1, hg1⟩ : ∃ g1, g1 = gk - 1 := ⟨_, rfl⟩
      rw [← hg1] at HST
      have hgl : g1 < gk := by omega
      clear hg0 hg1
      go_loopg [25] 8 (fun g' i wr' => ∃ j : Nat, j + g' = 8 ∧ i = .int .i64 (j : Int) ∧ NoWordTo p.data.toList j ∧ w2 = wr')
      case atStart => exact ⟨0, rfl, rfl, fun j hj => by omega, rfl⟩
      case round =>
        obtain ⟨j, hjg, rfl, hno, rfl⟩ := hrel
        have HNO := Lib.hid hno
        have f0 : w2.cell? ⟨w.heap.size + 1, 0, none⟩ = some (.int .i64 k.s) := HAT2.out.b1.cell 0
        have f1 : w2.cell? ⟨w.heap.size + 1, 1, none⟩ = some (.int .i64 k.t) := HAT2.out.b1.cell 1
        have f2 : w2.cell? ⟨w.heap.size + 1, 2, none⟩ = some (.slice ad k.u.length cap) := HAT2.out.b1.cell 2
        have z0 := HAT2.out.b1.free
        clear hno
        by_cases hlt : j < 8
        · have hi := fun w => wordsV_at j hlt w
          obtain ⟨sw, hsw, ex⟩ := exists_bytes (Ln.word j)
          rw [ex] at hi
          by_cases hw : Ln.word j = p.data.toList
          · have ht : (p.toList == sw.toList) = true := bytes_eq (by rw [hsw, hw])
            have hix : Ln.ix p.data.toList = j := Ln.ix_hit hlt hw
            by_cases h2 : j < 2
            · have HA : Hid (Ln.addW k p.data.toList = { k with s := Ln.orBit k.s j }) := Lib.hid (by rw [Ln.addW_super (by omega), hix])
              have q0 : (0 : Int) ≤ (j : Int) := by omega
              have HOR : Hid (bits .or .i64 (k.s : Int) (wrap64 ((2 : Int) ^ j)) = ((Ln.orBit k.s j : Nat) : Int)) := Lib.hid (by rw [pow64L j hlt]; exact or_sL k.s HK.out.2.2.1 j h2)
              have HNEW := Lib.hid (HAT2.out.setS HOR.out)
              clear hw hsw ex hix
              go_wp2_with fail
              go_region
              go_wp2_with fail
              go_roundg g1
              case rel => exact ⟨_, r, p, m, _, rfl, rfl, rfl, hrl, by rw [HA.out] at HST; exact HST, HNEW.out⟩
              case measure => omega
            · have h2' : (2 : Int) ≤ (j : Int) := by omega
              have HA : Hid (Ln.addW k p.data.toList = { k with t := Ln.orBit k.t (j - 2) }) := Lib.hid (by rw [Ln.addW_type (by omega) (by omega), hix])
              have q0 : IntKind.i64.wrap ((j : Int) - 2) = ((j - 2 : Nat) : Int) := by rw [IntWalk.i64_in _ (by omega)]; omega
              have HOR : Hid (bits .or .i64 (k.t : Int) (wrap64 ((2 : Int) ^ (j - 2))) = ((Ln.orBit k.t (j - 2) : Nat) : Int)) := Lib.hid (by rw [pow64L (j - 2) (by omega)]; exact or_tL k.t HK.out.2.2.2 (j - 2) (by omega))
              have HNEW := Lib.hid (HAT2.out.setT HOR.out)
              clear hw hsw ex hix
              go_wp2_with fail
              go_region
              go_wp2_with fail
              go_roundg g1
              case rel => exact ⟨_, r, p, m, _, rfl, rfl, rfl, hrl, by rw [HA.out] at HST; exact HST, HNEW.out⟩
              case measure => omega
          · have ht : (p.toList == sw.toList) = false := bytes_ne (by rw [hsw]; exact Ne.symm hw)
            have HN := Lib.hid (HNO.out.next hw)
            clear hw hsw ex
            go_wp2_with fail
            go_roundg (8 - (j + 1))
            case rel => exact ⟨j + 1, by omega, by go_num, HN.out, rfl⟩
            case measure => omega
        · obtain rfl : j = 8 := by omega
          have HA : Hid (Ln.addW k p.data.toList = { k with u := k.u ++ [p.data.toList] }) := Lib.hid (Ln.addW_sub (Ln.ix_none HNO.out))
          have HLEN : Hid (k.u.length ≤ 1000000000000) := Lib.hid (by omega)
          have hszN : w.heap.size + 2 ≤ w2.heap.size := HAT2.out.size
          have HOWN := Lib.hid HAT2.out.own
          go_wp2_with (at_builtin; refine wpList_push_str rfl _ _ rfl rfl HOWN.out p rfl HLEN.out hszN (Below.refl _ _) ?_)
          intro v' w3 ho hb3
          obtain ⟨ad', cap', rfl, -, -⟩ := ho.slice
          have hnew := HAT2.out.setU hb3 ho
          simp only [List.length_append, List.length_singleton] at hnew
          have HNEW := Lib.hid hnew
          clear hnew
          have y2 : w3.cell? ⟨w.heap.size + 1, 2, none⟩ = some (.slice ad k.u.length cap) := (hb3.cell (p := ⟨w.heap.size + 1, 2, none⟩) (by show w.heap.size + 1 < _; omega)).trans f2
          have z2 : ∀ i, w3.frozen? ⟨w.heap.size + 1, i, none⟩ = false := (HAT2.out.b1.below hb3 (by omega)).free
          clear ho hb3
          go_wp2_with fail
          go_roundg g1
          case rel => exact ⟨_, r, p, m, _, rfl, rfl, rfl, hrl, by rw [HA.out] at HST; exact HST, HNEW.out⟩
          case measure => omega
    · have HKR : Hid (k = R) := Lib.hid (by
        have h1 := HK.out.2.1
        rw [Ln.collectF_stop (by
          cases more with
          | false => exact .inl rfl
          | true => exact .inr (by simp at hgo; omega))] at h1
        exact h1)
      have g0 := HAT.out.b0.cell
      have g1 := HAT.out.b0.free
      have hcase : more = false ∨ (more = true ∧ (4 : Int) < (k.u.length : Int)) := by
        cases more with
        | false => exact .inl rfl
        | true => exact .inr ⟨rfl, by simp at hgo; omega⟩
      clear hgo
      rcases hcase with rfl | ⟨rfl, h4⟩
      all_goals
        go_wp2_with fail
        (try rw [Exit.noGoto_ret])
        change bodyPost _ _ _ _ _ (set3L wr w.heap.size (.int .i64 k.s) (.int .i64 k.t) (.slice ad k.u.length cap))
        have hB := (HAT.out.b0.three (.int .i64 k.s) (.int .i64 k.t) (.slice ad k.u.length cap)).cell
        have HO := Lib.hid ((HAT.out.own.set_three (b := w.heap.size) (by omega) (.int .i64 k.s) (.int .i64 k.t) (.slice ad k.u.length cap)).mono (by omega : w.heap.size ≤ w.heap.size + 2))
        have HF := Lib.hid (below_three (x := .int .i64 k.s) (y := .int .i64 k.t) (z := .slice ad k.u.length cap) HAT.out.hb (Nat.le_refl _))
        clear HAT g0 g1 f0 f1 f2
        generalize set3L wr w.heap.size (.int .i64 k.s) (.int .i64 k.t) (.slice ad k.u.length cap) = wf at hB HO HF ⊢
        exact bodyPost_ret (v := .agg #[.int .i64 k.s, .int .i64 k.t, .slice ad k.u.length cap]) (by simp [results, Tryz.results175, go_sem, hB]) rfl ⟨_, by rw [← HKR.out], by rw [← HKR.out]; exact HO.out, HF.out⟩
def ptN (s : Bs) : Option Nat := (List.range 64).find? fun m => decide (1 ≤ m) && typesN m == s
def ptI (s : Bs) : Int := match ptN s with | some m => (m : Int) | none => 0
def ptE (s : Bs) : Int := match ptN s with | some _ => 0 | none => 3
/-- no mask below k has the text s -/
def NoneT (s : Bs) (k : Nat) : Prop := ∀ j, 1 ≤ j → j < k → typesN j ≠ s
theorem NoneT.next {s : Bs} {k : Nat} (h : NoneT s k) (hk : typesN k ≠ s) : NoneT s (k + 1) := by
  intro j h1 hj
  by_cases e : j = k
  · subst e; exact hk
  · exact h j h1 (by omega)
theorem pt_hit {s : Bs} {k : Nat} (h1 : 1 ≤ k) (hk : k < 64) (hno : NoneT s k) (h : typesN k = s) : ptI s = k ∧ ptE s = 0 := by
  have e : ptN s = some k := by
    unfold ptN
    rw [List.find?_range_eq_some]
    refine ⟨by simp [h, h1], by simp; omega, fun j hj => ?_⟩
    by_cases hj1 : 1 ≤ j
    · simp [hno j hj1 hj]
    · simp; omega
  unfold ptI ptE
  rw [e]
  exact ⟨rfl, rfl⟩
theorem pt_none {s : Bs} (hno : NoneT s 64) : ptI s = 0 ∧ ptE s = 3 := by
  have e : ptN s = none := by
    unfold ptN
    rw [List.find?_range_eq_none]
    intro j hj
    by_cases hj1 : 1 ≤ j
    · simp [hno j hj1 hj]
    · simp; omega
  unfold ptI ptE
  rw [e]
  exact ⟨rfl, rfl⟩
theorem types_all : ∀ t, t < 64 → Ln.addAll (Ln.wordsOf t 2) = ⟨0, t, []⟩ := by decide +kernel
theorem types_collect {m : Nat} (h1 : 1 ≤ m) (h : m < 64) : Ln.collectL (typesN m) [43] = ⟨0, m, []⟩ := by
  unfold typesN
  rw [Ln.collectL_join (Ln.types_ne m h h1) (fun p hp => ?_) (by rw [types_all m h]; exact Nat.zero_le _), types_all m h]
  obtain ⟨i, hi, _, rfl⟩ := Ln.mem_wordsOf h hp
  exact Ln.plain_of (Ln.words_plain (2 + i) (by omega)).2
theorem pt_no {s : Bs} (h : (Ln.collectL s [43]).t = 0 ∨ typesN (Ln.collectL s [43]).t ≠ s) : ptI s = 0 ∧ ptE s = 3 := by
  refine pt_none fun j h1 hj e => ?_
  have hc := types_collect h1 hj
  rw [e] at hc
  rw [hc] at h
  rcases h with h | h
  · have : j = 0 := h
    omega
  · exact h e
theorem pt_yes {s : Bs} (h0 : (Ln.collectL s [43]).t ≠ 0) (h : typesN (Ln.collectL s [43]).t = s) : ptI s = (Ln.collectL s [43]).t ∧ ptE s = 0 := by
  refine pt_hit (by omega) (Ln.collectL_ok s [43]).2 (fun j h1 hj e => ?_) h
  have hc := types_collect h1 (Nat.lt_trans hj (Ln.collectL_ok s [43]).2)
  rw [e] at hc
  rw [hc] at hj
  exact absurd hj (Nat.lt_irrefl _)
theorem pt_text {m : Nat} (h1 : 1 ≤ m) (h : m < 64) : ptI (typesN m) = m ∧ ptE (typesN m) = 0 := by
  have hc := types_collect h1 h
  have := pt_yes (s := typesN m) (by rw [hc]; show m ≠ 0; omega) (by rw [hc])
  rw [hc] at this
  exact this
theorem pt_empty : ptI [] = 0 ∧ ptE [] = 3 := pt_no (by
  have : Ln.collectL [] [43] = ⟨0, 0, [[]]⟩ := by decide +kernel
  rw [this]
  exact .inl rfl)
theorem pt_cases (s : Bs) : (ptI s = 0 ∧ ptE s = 3) ∨ ∃ m : Nat, 1 ≤ m ∧ m < 64 ∧ ptI s = m ∧ ptE s = 0 ∧ typesN m = s := by
  by_cases h : (Ln.collectL s [43]).t = 0 ∨ typesN (Ln.collectL s [43]).t ≠ s
  · exact .inl (pt_no h)
  · have h1 : (Ln.collectL s [43]).t ≠ 0 := fun e => h (.inl e)
    have h2 : typesN (Ln.collectL s [43]).t = s := by
      by_cases e : typesN (Ln.collectL s [43]).t = s
      · exact e
      · exact absurd (.inr e) h
    obtain ⟨h3, h4⟩ := pt_yes h1 h2
    exact .inr ⟨_, by omega, (Ln.collectL_ok s [43]).2, h3, h4, h2⟩
set_option maxHeartbeats 1000000 in
set_option maxRecDepth 100000 in
theorem lineParseTypes (s : ByteArray) (w : World) (hE : EnvL w) (hs : s.size ≤ 140737488355328) :
    Calls Tryz.prog 142 #[.string s] w fun e w' => e = .returned (.tuple #[.int .i64 (ptI s.data.toList), .int .i64 (ptE s.data.toList)]) ∧ Below w.heap.size w w' := by
  have hok := Ln.collectL_ok s.data.toList [43]
  have HY := Lib.hid (fun h0 h => pt_yes (s := s.data.toList) h0 h)
  have HN := Lib.hid (fun h => pt_no (s := s.data.toList) h)
  have HE := Lib.hid hE
  have HC := Lib.hid (lineCollect s ⟨#[43]⟩ w hE hs rfl)
  rw [show (⟨#[43]⟩ : ByteArray).data.toList = [43] from rfl] at HC
  generalize Ln.collectL s.data.toList [43] = k at *
  have hk2 : k.t < 64 := hok.2
  clear hok hE
  go_enter Tryz.func142, Tryz.ntmps142
  go_wp2_with fail
  refine HC.out.mono ?_
  rintro e w2 ⟨v, rfl, ho2, hb2⟩
  obtain ⟨ad, cap, rfl, -, -⟩ := ho2.slice
  have HB2 := Lib.hid hb2
  clear ho2 hb2
  by_cases h0 : k.t = 0
  · have ht0 : ((k.t : Int) == 0) = true := by simp [h0]
    have HR := Lib.hid (HN.out (.inl h0))
    clear h0
    go_wp2_with fail
    go_ret2
    exact ⟨by rw [HR.out.1, HR.out.2]; rfl, HB2.out.alloc HB2.out.size _⟩
  · have ht0 : ((k.t : Int) == 0) = false := by simp [h0]
    obtain ⟨tx, htx, ex⟩ := exists_bytes (typesI (k.t : Int))
    have htn := htx.trans (typesI_nat (m := k.t) (by omega) (by omega))
    obtain ⟨w3, hw3⟩ : ∃ w3, w3 = w2.alloc (.cells #[.int .i64 k.s, .int .i64 k.t, (.slice ad k.u.length cap)] 53) := ⟨_, rfl⟩
    have hb3 : Below w.heap.size w w3 := by rw [hw3]; exact HB2.out.alloc HB2.out.size _
    have HB3 := Lib.hid hb3
    have hM : Blk w3 w2.heap.size #[.int .i64 k.s, .int .i64 k.t, (.slice ad k.u.length cap)] 53 := by rw [hw3]; exact Blk.new _ _ _
    have HM := Lib.hid hM
    have HTX := Lib.hid (lineTypesText (k.t : Int) w3 (HE.out.below hb3))
    rw [ex] at HTX
    clear htx ex hb3 hM
    by_cases heq : tx = s
    · have ht : (tx.toList == s.toList) = true := by rw [heq]; exact bytes_eq rfl
      have HR := Lib.hid (HY.out h0 (by rw [← htn, heq]))
      clear htn heq h0
      go_wp2_with fail
      rw [← hw3]
      clear hw3
      refine HTX.out.mono ?_
      rintro e w4 ⟨rfl, hb4⟩
      have m1 : w4.cell? ⟨w2.heap.size, 1, none⟩ = some (.int .i64 k.t) := (HM.out.below hb4 HM.out.lt).cell 1
      go_wp2_with fail
      go_ret2
      exact ⟨by rw [HR.out.1, HR.out.2]; rfl, HB3.out.trans (hb4.mono HB3.out.size)⟩
    · have ht : (tx.toList == s.toList) = false := (Lib.bytes_beq_false_iff _ _).2 heq
      have HR := Lib.hid (HN.out (.inr (fun e => heq (bytes_same (htn.trans e)))))
      clear htn heq h0
      go_wp2_with fail
      rw [← hw3]
      clear hw3
      refine HTX.out.mono ?_
      rintro e w4 ⟨rfl, hb4⟩
      go_wp2_with fail
      go_ret2
      exact ⟨by rw [HR.out.1, HR.out.2]; rfl, HB3.out.trans (hb4.mono HB3.out.size)⟩
end Go.Proofs.YtbcgkeclmioeiaaGreatDoor
namespace Go.Proofs.YtbcgkeclmioeiaaGreatDoor
open Go.RowKit
open Wd (Bs)

theorem idx_geL (l : List Bs) (x : Bs) : decide (0 ≤ idx l x) = decide (x ∈ l) := by
  rw [Bool.eq_iff_iff, decide_eq_true_eq, decide_eq_true_eq, idx_mem]
def hasB (l : List Bs) (x : Bs) : Bool := decide (x ∈ l)
theorem has_idx (l : List Bs) (x : Bs) : decide (0 ≤ idx l x) = hasB l x := idx_geL l x
set_option maxRecDepth 100000 in
theorem lineHas (a b : Int) (v : Value) (l : List Bs) (s : ByteArray) (w : World) (hv : Strs w v l) :
    Calls Tryz.prog 108 #[.agg #[.int .i64 a, .int .i64 b, v], .string s] w fun e w' => e = .returned (.bool (hasB l s.data.toList)) ∧ Below w.heap.size w w' := by
  obtain ⟨i, hi⟩ : ∃ i, i = idx l s.data.toList := ⟨_, rfl⟩
  have HI := Lib.hid hi
  have HR := Lib.hid ((congrArg (fun z => decide (0 ≤ z)) hi).trans (has_idx l s.data.toList))
  have hb : Below w.heap.size w (w.alloc (.cells #[.int .i64 a, .int .i64 b, v] 53)) := (Below.refl _ _).alloc (Nat.le_refl _) _
  have HV := Lib.hid (hv.below hb (Nat.le_refl _))
  have HB := Lib.hid hb
  clear hi hv hb
  go_enter Tryz.func108, Tryz.ntmps108
  go_wp2_with fail
  refine (wordIndex _ l s _ HV.out).mono ?_
  rw [← HI.out]
  rintro e w1 ⟨rfl, rfl⟩
  go_wp2_with fail
  go_ret
  exact ⟨ret_bool HR.out, HB.out⟩

theorem less_lex (x y : List UInt8) : Op.bytesLess x y = decide (x < y) := by
  induction x generalizing y with
  | nil => cases y <;> simp [Op.bytesLess]
  | cons a x ih =>
    cases y with
    | nil => simp [Op.bytesLess]
    | cons b y =>
      rw [Op.bytesLess, ih, Bool.eq_iff_iff]
      simp [List.cons_lt_cons_iff]
theorem less_yes {a b : ByteArray} {x y : Bs} (ha : a.data.toList = x) (hb : b.data.toList = y) (h : x < y) : Op.bytesLess a.toList b.toList = true := by
  rw [less_lex, Lib.toList_data, Lib.toList_data, ha, hb]; simpa using h
theorem less_no {a b : ByteArray} {x y : Bs} (ha : a.data.toList = x) (hb : b.data.toList = y) (h : ¬ x < y) : Op.bytesLess a.toList b.toList = false := by
  rw [less_lex, Lib.toList_data, Lib.toList_data, ha, hb]; simpa using h
theorem getD_some {l : List Bs} {k : Nat} (h : k < l.length) : l[k]? = some (l.getD k []) := by simp [List.getD, h]

theorem sClone (v : Value) (l : List Bs) (w : World) (hv : Strs w v l) (hl : l.length ≤ 1000000000) :
    Calls Tryz.prog 105 #[v] w (StrsRes l w) := by
  rcases hv.shape with ⟨a, c, rfl, rfl⟩ | ⟨b, o, c, rfl, p, q, n1, m1, d⟩
  · cases a with
    | none =>
      refine (Tryz.slices_Clone_string_nil _ _ _).mono ?_
      rintro e w1 ⟨rfl, rfl⟩
      exact ⟨_, rfl, OwnStrs.nil _ _, Below.refl _ _⟩
    | some a =>
      refine (Tryz.slices_Clone_string_zero _ _ _).mono ?_
      rintro e w1 ⟨v', rfl, ho, -, hb⟩
      exact ⟨_, rfl, ho, hb⟩
  · refine (Tryz.slices_Clone_string b o l.length c (l.map ba) _ (by simp) (by omega) (fun j hj => ?_)).mono ?_
    · have hj' : j < l.length := by simpa using hj
      rw [ba_getD l j hj']
      exact d j l[j] (List.getElem?_eq_getElem hj')
    rintro e w1 ⟨v', rfl, ho, -, hb⟩
    have e1 : ((l.map ba).take l.length).map Value.string = l.map str := by
      rw [List.take_of_length_le (by simp), List.map_map]; rfl
    rw [e1] at ho
    exact ⟨_, rfl, ho, hb⟩
/-- the values vs put from place o on -/
def setAll : List Value → Nat → Array Value → Array Value
  | [], _, A => A
  | v :: r, o, A => setAll r (o + 1) (A.setIfInBounds o v)
theorem setAll_size : ∀ (vs : List Value) (o : Nat) (A : Array Value), (setAll vs o A).size = A.size
  | [], _, _ => rfl
  | v :: r, o, A => by rw [setAll, setAll_size r]; simp
theorem setAll_get : ∀ (vs : List Value) (o : Nat) (A : Array Value) (j : Nat), (setAll vs o A)[j]? = if o ≤ j ∧ j < o + vs.length ∧ j < A.size then vs[j - o]? else A[j]?
  | [], o, A, j => by rw [if_neg (by simp; omega)]; rfl
  | v :: r, o, A, j => by
    rw [setAll, setAll_get r]
    simp only [Array.size_setIfInBounds, List.length_cons]
    by_cases h1 : o + 1 ≤ j ∧ j < o + 1 + r.length ∧ j < A.size
    · rw [if_pos h1, if_pos (by omega), show j - o = (j - (o + 1)) + 1 by omega, List.getElem?_cons_succ]
    · rw [if_neg h1]
      by_cases h2 : j = o
      · subst h2
        by_cases h3 : j < A.size
        · rw [if_pos (by omega), Array.getElem?_setIfInBounds_self_of_lt h3]
          simp
        · rw [if_neg (by omega), Array.getElem?_eq_none (by simp; omega), Array.getElem?_eq_none (by omega)]
      · rw [if_neg (by omega), Array.getElem?_setIfInBounds_ne (Ne.symm h2)]
theorem Blk.setAll {b : Nat} {t : TypeId} : ∀ (vs : List Value) (o : Nat) {w : World} {A : Array Value}, Blk w b A t → Blk (w.setCells b o vs) b (setAll vs o A) t
  | [], _, _, _, h => h
  | v :: r, o, w, A, h => by
    rw [World.setCells, YtbcgkeclmioeiaaGreatDoor.setAll]
    exact Blk.setAll r (o + 1) (h.set o v)
theorem below_all {B b : Nat} {a : World} (hb : B ≤ b) : ∀ (vs : List Value) (o : Nat) {w : World}, Below B a w → Below B a (w.setCells b o vs)
  | [], _, _, h => h
  | v :: r, o, w, h => by
    rw [World.setCells]
    exact below_all hb r (o + 1) (h.setCell (by exact hb) _)
theorem own_of_blk {B b cap : Nat} {w : World} {A : Array Value} {l : List Bs} (h : Blk w b A 9) (hB : B ≤ b) (hc : l.length ≤ cap) (hm : cap ≤ maxLen) (hs : A.size = cap) (ht : ∀ j, j < l.length → A[j]? = (l.map str)[j]?) :
    OwnStrs B w (.slice (some ⟨b, 0, none⟩) l.length cap) l := by
  refine ⟨by simp, .inr ⟨b, cap, A, rfl, hB, h, hc, hm, by simpa using hs, ?_⟩⟩
  refine List.ext_getElem? fun j => ?_
  rw [Nat.mul_one, List.getElem?_take]
  by_cases hj : j < l.length
  · rw [if_pos hj, ← ht j hj]
    simp
  · rw [if_neg hj, List.getElem?_eq_none (by simp; omega)]
theorem OwnStrs.blk {B : Nat} {w : World} {v : Value} {l : List Bs} (h : OwnStrs B w v l) :
    (v = .slice none 0 0 ∧ l = []) ∨ ∃ g cap A, v = .slice (some ⟨g, 0, none⟩) l.length cap ∧ B ≤ g ∧ Blk w g A 9 ∧ l.length ≤ cap ∧ cap ≤ maxLen ∧ A.size = cap ∧ ∀ j, j < l.length → A[j]? = (l.map str)[j]? := by
  rcases h.2 with ⟨hv, hn⟩ | ⟨g, cap, cur, hv, hB, hg, hc, hm, hs, ht⟩
  · exact .inl ⟨hv, List.eq_nil_of_length_eq_zero hn⟩
  · refine .inr ⟨g, cap, cur, hv, hB, hg, hc, hm, by simpa using hs, fun j hj => ?_⟩
    rw [← ht, List.getElem?_take, if_pos (by omega)]
    simp
/-- a row with x put in at place i -/
def insAt (l : List Bs) (i : Nat) (x : Bs) : List Bs := l.take i ++ [x] ++ l.drop i
theorem insAt_len {l : List Bs} {i : Nat} {x : Bs} (h : i ≤ l.length) : (insAt l i x).length = l.length + 1 := by unfold insAt; simp; omega
theorem insAt_get {l : List Bs} {i : Nat} {x : Bs} (h : i ≤ l.length) (j : Nat) : ((insAt l i x).map str)[j]? = if j < i then (l.map str)[j]? else if j = i then some (str x) else (l.map str)[j - 1]? := by
  unfold insAt
  simp only [List.map_append, List.map_take, List.map_drop, List.map_cons, List.map_nil]
  rw [List.append_assoc]
  by_cases h1 : j < i
  · rw [if_pos h1, List.getElem?_append_left (by simp; omega), List.getElem?_take, if_pos h1]
  · rw [if_neg h1, List.getElem?_append_right (by simp; omega)]
    have e : (List.take i (l.map str)).length = i := by simp; omega
    rw [e]
    by_cases h2 : j = i
    · subst h2; simp
    · rw [if_neg h2, List.singleton_append, show j - i = (j - 1 - i) + 1 by omega, List.getElem?_cons_succ, List.getElem?_drop, show i + (j - 1 - i) = j - 1 by omega]
theorem shape_of_blk {w : World} {b : Nat} {A : Array Value} {t : TypeId} (h : Blk w b A t) : ∃ t' k, w.shape? b = some (t', k) ∧ k = A.size := by
  have h' : w.heap[b]? = some (.cells A t (0, 0)) := h
  exact ⟨t, A.size, by simp [World.shape?, h'], rfl⟩
theorem zeros_size (n : Nat) : (Builtin.zeroCells (Value.string ⟨#[]⟩).cells n).size = n := by
  have h : (Value.string ⟨#[]⟩).cells.size = 1 := rfl
  simp [Builtin.zeroCells, h]
theorem strs_get {l : List Bs} {j : Nat} {v : Value} (h : (l.map str)[j]? = some v) : j < l.length := by
  have := (List.getElem?_eq_some_iff.1 h).1
  simpa using this
theorem one_cell (l : List Bs) : ∀ v ∈ l.map str, v.oneCell' = true := by
  intro v hv
  obtain ⟨z, _, rfl⟩ := List.mem_map.1 hv
  rfl
/-- what Insert leaves -/
def InsRes (B : Nat) (w0 : World) (l : List Bs) (i : Nat) (x : Bs) (e : Ending) (w' : World) : Prop := ∃ v', e = .returned v' ∧ OwnStrs B w' v' (insAt l i x) ∧ Below B w0 w'
set_option maxHeartbeats 1000000 in
theorem sInsert (B : Nat) (w0 w : World) (v : Value) (l : List Bs) (i : Nat) (x : ByteArray) (hown : OwnStrs B w v l) (hi : i ≤ l.length) (hl : l.length ≤ 1000000) (hB : B ≤ w.heap.size) (hb : Below B w0 w) :
    Calls Tryz.prog 109 #[v, .int .i64 i, .slice (some ⟨w.heap.size, 0, none⟩) 1 1] (w.alloc (.cells #[.string x] 9)) (InsRes B w0 l i x.data.toList) := by
  obtain ⟨W, hW⟩ : ∃ W, W = w.alloc (.cells #[.string x] 9) := ⟨_, rfl⟩
  have hWs : W.heap.size = w.heap.size + 1 := by rw [hW]; simp
  have hnew : Blk W w.heap.size #[.string x] 9 := by rw [hW]; exact Blk.new _ _ _
  have hbW : Below B w0 W := by rw [hW]; exact hb.alloc hB _
  have hBW : B ≤ W.heap.size := by omega
  have hvs : ∀ (j : Nat) (u : Value), ([.string x] : List Value)[j]? = some u → W.cell? ⟨w.heap.size, 0 + j, none⟩ = some u := by
    intro j u hj
    rw [Nat.zero_add, hnew.cell]
    simpa using hj
  have h1v : ∀ u ∈ ([.string x] : List Value), u.oneCell' = true := by
    intro u hu
    simp at hu
    subst hu
    rfl
  rw [← hW]
  rcases hown.blk with ⟨rfl, rfl⟩ | ⟨g, cap, A, rfl, hBg, hblk0, hlc, hcm, hsA, hA⟩
  · obtain rfl : i = 0 := by simpa using hi
    have h := Tryz.slices_Insert_string_end_grow none 0 0 w.heap.size 0 1 1 [] [.string x] W (by omega) (by omega) (by omega) (by omega) rfl rfl (fun _ => rfl) (fun a ha => by cases ha) hvs h1v
    refine h.mono ?_
    rintro e w' ⟨rfl, rfl⟩
    have hge := grownCap_ge W (0 + 1) 0 9
    have hle := grownCap_le_maxLen W (0 + 1) 0 9 (by unfold maxLen; omega)
    generalize grownCap W (0 + 1) 0 9 = gc at *
    refine ⟨_, rfl, ?_, hbW.drew.alloc hBW _⟩
    have hz := zeros_size (gc - (0 + 1))
    refine own_of_blk (l := insAt [] 0 x.data.toList) (Blk.new W.drew _ _) hBW (by simpa [insAt] using hge) hle ?_ ?_
    · simp [hz]; omega
    · intro j hj
      have hj1 : j < 1 := by simpa [insAt] using hj
      obtain rfl : j = 0 := by omega
      rw [Array.getElem?_append_left (by simp)]
      rfl
  · have hblk : Blk W g A 9 := by rw [hW]; exact hblk0.alloc _
    have hgw := hblk0.lt
    have hcs : ∀ (j : Nat) (u : Value), (l.map str)[j]? = some u → W.cell? ⟨g, 0 + j, none⟩ = some u := by
      intro j u hj
      rw [Nat.zero_add, hblk.cell, hA j (strs_get hj)]
      exact hj
    have hlm : (l.map str).length = l.length := by simp
    unfold maxLen at hcm
    by_cases hroom : l.length + 1 ≤ cap
    · have hsp : ∀ j, j < l.length + 1 → (W.cell? ⟨g, 0 + j, none⟩).isSome = true := by
        intro j hj
        rw [Nat.zero_add, hblk.cell, Array.getElem?_eq_getElem (by omega)]
        rfl
      by_cases hend : i = l.length
      · subst hend
        have h := Tryz.slices_Insert_string_end_room g 0 l.length cap w.heap.size 0 1 1 [.string x] W (by omega) hroom (by omega) rfl (fun j hj => by
          have := hsp (l.length + j) (by omega)
          rwa [show 0 + l.length + j = 0 + (l.length + j) by omega]) (fun j hj => hblk.free _) hvs h1v
        refine h.mono ?_
        rintro e w' ⟨rfl, rfl⟩
        have hB2 := hblk.setAll [.string x] (0 + l.length)
        refine ⟨_, rfl, ?_, below_all hBg _ _ hbW⟩
        have h2 := own_of_blk (l := insAt l l.length x.data.toList) (cap := cap) hB2 hBg (by rw [insAt_len (Nat.le_refl _)]; exact hroom) (by unfold maxLen; omega) (by rw [setAll_size]; exact hsA) (fun j hj => by
          rw [insAt_len (Nat.le_refl _)] at hj
          rw [insAt_get (Nat.le_refl _), setAll_get]
          by_cases h3 : j < l.length
          · rw [if_pos h3, if_neg (by omega), hA j h3]
          · obtain rfl : j = l.length := by omega
            rw [if_neg h3, if_pos rfl, if_pos (by simp; omega), show l.length - (0 + l.length) = 0 by omega]
            rfl)
        rw [insAt_len (Nat.le_refl _)] at h2
        exact h2
      · have hilt : i < l.length := by omega
        obtain ⟨tA, kA, hsa, hkA⟩ := shape_of_blk hnew
        obtain ⟨tB, kB, hsb, hkB⟩ := shape_of_blk hblk
        have h := Tryz.slices_Insert_string_shift g 0 l.length cap i w.heap.size 0 1 1 (l.map str) [.string x] W hilt (by omega) hroom (by omega) (by omega) hlm rfl hcs hsp (fun j hj => hblk.free _) hvs (one_cell l) h1v tA tB kA kB hsa hsb (by omega) (hnew.free _) (hnew.free _)
        refine h.mono ?_
        rintro e w' ⟨rfl, rfl⟩
        have hB1 := (hblk.drew).setAll ((l.map str).drop i) (0 + (i + 1))
        have hB2 := hB1.setAll [.string x] (0 + i)
        refine ⟨_, rfl, ?_, below_all hBg _ _ (below_all hBg _ _ hbW.drew)⟩
        have h2 := own_of_blk (l := insAt l i x.data.toList) (cap := cap) hB2 hBg (by rw [insAt_len hi]; exact hroom) (by unfold maxLen; omega) (by rw [setAll_size, setAll_size]; exact hsA) (fun j hj => by
          rw [insAt_len hi] at hj
          rw [insAt_get hi, setAll_get, setAll_size]
          by_cases h3 : j < i
          · rw [if_pos h3, if_neg (by omega), setAll_get, if_neg (by omega), hA j (by omega)]
          · rw [if_neg h3]
            by_cases h4 : j = i
            · subst h4
              rw [if_pos rfl, if_pos (by simp; omega), show j - (0 + j) = 0 by omega]
              rfl
            · rw [if_neg h4, if_neg (by simp; omega), setAll_get, if_pos (by simp; omega), List.getElem?_drop, show i + (j - (0 + (i + 1))) = j - 1 by omega])
        rw [insAt_len hi] at h2
        exact h2
    · have hroom' : cap < l.length + 1 := by omega
      have hcap : cap = l.length := by omega
      by_cases hend : i = l.length
      · subst hend
        have h := Tryz.slices_Insert_string_end_grow (some ⟨g, 0, none⟩) l.length cap w.heap.size 0 1 1 (l.map str) [.string x] W (by omega) hlc hroom' (by omega) hlm rfl (fun h => by cases h) (fun a ha j u hj => by
          injection ha with ha
          subst ha
          have := hcs j u hj
          have hadd : (⟨g, 0, none⟩ : Addr).add j = ⟨g, 0 + j, none⟩ := by unfold Addr.add; split <;> simp_all
          rw [hadd]
          exact this) hvs h1v
        refine h.mono ?_
        rintro e w' ⟨rfl, rfl⟩
        have hge := grownCap_ge W (l.length + 1) cap 9
        have hle := grownCap_le_maxLen W (l.length + 1) cap 9 (by unfold maxLen; omega)
        generalize grownCap W (l.length + 1) cap 9 = gc at *
        refine ⟨_, rfl, ?_, hbW.drew.alloc hBW _⟩
        have hz := zeros_size (gc - (l.length + 1))
        have h2 := own_of_blk (l := insAt l l.length x.data.toList) (cap := gc) (Blk.new W.drew ((l.map str ++ [Value.string x]).toArray ++ Builtin.zeroCells (Value.string ⟨#[]⟩).cells (gc - (l.length + 1))) 9) hBW (by rw [insAt_len (Nat.le_refl _)]; exact hge) hle (by simp [hz]; omega) (fun j hj => by
          rw [insAt_len (Nat.le_refl _)] at hj
          rw [insAt_get (Nat.le_refl _), Array.getElem?_append_left (by simp; omega), List.getElem?_toArray]
          by_cases h3 : j < l.length
          · rw [if_pos h3, List.getElem?_append_left (by simp; omega)]
          · obtain rfl : j = l.length := by omega
            rw [if_neg h3, if_pos rfl, List.getElem?_append_right (by simp), hlm, Nat.sub_self]
            rfl)
        rw [insAt_len (Nat.le_refl _)] at h2
        exact h2
      · have hilt : i < l.length := by omega
        have h := Tryz.slices_Insert_string_grow g 0 l.length cap i w.heap.size 0 1 1 (l.map str) [.string x] W hilt (by omega) hlc hroom' (by omega) hlm rfl hcs hvs (one_cell l) h1v
        refine h.mono ?_
        rintro e w' ⟨rfl, rfl⟩
        have hge := grownCap_ge W (l.length + 1) cap 9
        have hle := grownCap_le_maxLen W (l.length + 1) cap 9 (by unfold maxLen; omega)
        generalize grownCap W (l.length + 1) cap 9 = gc at *
        have hz := zeros_size (gc - (l.length + 1))
        have hz2 := zeros_size (l.length + 1 - i)
        have hB0 := Blk.new W (((l.map str).take i).toArray ++ Builtin.zeroCells (Value.string ⟨#[]⟩).cells (l.length + 1 - i) ++ Builtin.zeroCells (Value.string ⟨#[]⟩).cells (gc - (l.length + 1))) 9
        have hB1 := (hB0.drew).setAll [.string x] i
        have hB2 := (hB1.drew).setAll ((l.map str).drop i) (i + 1)
        have hsz : (((l.map str).take i).toArray ++ Builtin.zeroCells (Value.string ⟨#[]⟩).cells (l.length + 1 - i) ++ Builtin.zeroCells (Value.string ⟨#[]⟩).cells (gc - (l.length + 1))).size = gc := by
          simp [hz, hz2]
          omega
        refine ⟨_, rfl, ?_, below_all hBW _ _ (below_all hBW _ _ (hbW.alloc hBW _).drew).drew⟩
        have h2 := own_of_blk (l := insAt l i x.data.toList) (cap := gc) hB2 hBW (by rw [insAt_len hi]; exact hge) hle (by rw [setAll_size, setAll_size]; exact hsz) (fun j hj => by
          rw [insAt_len hi] at hj
          rw [insAt_get hi, setAll_get, setAll_size, hsz]
          by_cases h3 : j < i
          · rw [if_pos h3, if_neg (by omega), setAll_get, if_neg (by omega), Array.append_assoc, Array.getElem?_append_left (by simp; omega), List.getElem?_toArray, List.getElem?_take, if_pos h3]
          · rw [if_neg h3]
            by_cases h4 : j = i
            · subst h4
              rw [if_pos rfl, if_neg (by omega), setAll_get, hsz, if_pos (by simp; omega), Nat.sub_self]
              rfl
            · rw [if_neg h4, if_pos (by simp; omega), List.getElem?_drop, show i + (j - (i + 1)) = j - 1 by omega])
        rw [insAt_len hi] at h2
        exact h2
theorem Strs.at {w : World} {a : Option Addr} {n c : Nat} {l : List Bs} (h : Strs w (.slice a n c) l) {k : Nat} {x : Bs} (hx : l[k]? = some x) : ∃ b o, a = some ⟨b, o, none⟩ ∧ b < w.heap.size ∧ w.cell? ⟨b, o + k, none⟩ = some (str x) := by
  obtain ⟨a', c', e, _, _, d⟩ := h
  injection e with e
  subst e
  exact d k x hx

/-- the first place of l whose element is not less than x -/
def place (l : List Bs) (x : Bs) : Nat := l.findIdx fun y => !decide (y < x)
noncomputable def addL (l : Ln.Line) (x : Bs) : Ln.Line := if Ln.isSub x && !hasB l.subs x && decide (l.subs.length < 4) then { l with subs := insAt l.subs (place l.subs x) x } else l
def LessTo (l : List Bs) (x : Bs) (k : Nat) : Prop := ∀ j, j < k → l.getD j [] < x
theorem LessTo.next {l : List Bs} {x : Bs} {k : Nat} (h : LessTo l x k) (hk : l.getD k [] < x) : LessTo l x (k + 1) := by
  intro j hj
  by_cases e : j = k
  · subst e; exact hk
  · exact h j (by omega)
theorem place_le (l : List Bs) (x : Bs) : place l x ≤ l.length := List.findIdx_le_length
theorem place_mid {l : List Bs} {x : Bs} {k : Nat} (hk : k < l.length) (h : LessTo l x k) (hn : ¬ l.getD k [] < x) : place l x = k := by
  unfold place
  rw [List.findIdx_eq hk]
  refine ⟨?_, fun j hj => ?_⟩
  · rw [List.getD, List.getElem?_eq_getElem hk, Option.getD_some] at hn
    simpa using hn
  · have := h j hj
    rw [List.getD, List.getElem?_eq_getElem (by omega), Option.getD_some] at this
    simp [this]
theorem place_end {l : List Bs} {x : Bs} (h : LessTo l x l.length) : place l x = l.length := by
  unfold place
  rw [List.findIdx_eq_length]
  intro y hy
  obtain ⟨j, hj, rfl⟩ := List.mem_iff_getElem.1 hy
  have := h j hj
  rw [List.getD, List.getElem?_eq_getElem hj, Option.getD_some] at this
  simp [this]
theorem addL_no {l : Ln.Line} {x : Bs} (h : Ln.isSub x = false ∨ hasB l.subs x = true ∨ 4 ≤ l.subs.length) : addL l x = l := by
  unfold addL
  rw [if_neg]
  rcases h with h | h | h
  · simp [h]
  · simp [h]
  · simp; omega
theorem addL_yes {l : Ln.Line} {x : Bs} (h1 : Ln.isSub x = true) (h2 : hasB l.subs x = false) (h3 : l.subs.length < 4) : addL l x = { l with subs := insAt l.subs (place l.subs x) x } := by
  unfold addL
  rw [if_pos (by simp [h1, h2, h3])]
/-- what AddSub answers -/
def AddRes (a t : Int) (l : List Bs) (x : Bs) (w : World) (e : Ending) (w' : World) : Prop :=
  ∃ v', e = .returned (.agg #[.int .i64 a, .int .i64 t, v']) ∧ OwnStrs w.heap.size w' v' (addL ⟨a, t, l⟩ x).subs ∧ Below w.heap.size w w'
theorem addL_fields (a t : Int) (l : List Bs) (x : Bs) : addL ⟨a, t, l⟩ x = ⟨a, t, (addL ⟨a, t, l⟩ x).subs⟩ := by
  unfold addL
  split <;> rfl
/-- the memory of AddSub: its line, its result, the subtypes in newer memory -/
structure AddAt (N : Nat) (w wr : World) (a t : Int) (v : Value) (l : List Bs) : Prop where
  b0 : Blk wr N #[.int .i64 a, .int .i64 t, v] 53
  b1 : Blk wr (N + 1) #[.int .i64 0, .int .i64 0, .slice none 0 0] 53
  own : OwnStrs (N + 2) wr v l
  hb : Below N w wr
  size : N + 2 ≤ wr.heap.size
theorem AddAt.below {N : Nat} {w wr w2 : World} {a t : Int} {v : Value} {l : List Bs} (h : AddAt N w wr a t v l) (hb : Below wr.heap.size wr w2) : AddAt N w w2 a t v l :=
  ⟨h.b0.below hb h.b0.lt, h.b1.below hb h.b1.lt, h.own.below hb (Nat.le_refl _), h.hb.trans (hb.mono (by have := h.size; omega)), Nat.le_trans h.size hb.size⟩
set_option maxHeartbeats 2000000 in
set_option maxRecDepth 100000 in
theorem lineAdd (a t : Int) (v : Value) (l : List Bs) (s : ByteArray) (w : World) (hE : EnvL w) (hv : Strs w v l) (hl : l.length ≤ 100000) (hs : s.size ≤ maxLen) :
    Calls Tryz.prog 54 #[.agg #[.int .i64 a, .int .i64 t, v], .string s] w (AddRes a t l s.data.toList w) := by
  obtain ⟨w0, hw0⟩ : ∃ w0, w0 = (w.alloc (.cells #[.int .i64 a, .int .i64 t, v] 53)).alloc (.cells #[.int .i64 0, .int .i64 0, .slice none 0 0] 53) := ⟨_, rfl⟩
  have hb0 : Below w.heap.size w w0 := by rw [hw0]; exact ((Below.refl _ _).alloc (Nat.le_refl _) _).alloc (by simp) _
  have hsz0 : w0.heap.size = w.heap.size + 2 := by rw [hw0]; simp
  have hz0 : Blk w0 w.heap.size #[.int .i64 a, .int .i64 t, v] 53 := by rw [hw0]; exact (Blk.new _ _ _).alloc _
  have hz1 : Blk w0 (w.heap.size + 1) #[.int .i64 0, .int .i64 0, .slice none 0 0] 53 := by
    have h := Blk.new (w.alloc (.cells #[.int .i64 a, .int .i64 t, v] 53)) #[.int .i64 0, .int .i64 0, .slice none 0 0] 53
    rw [hw0]
    rwa [show (w.alloc (.cells #[.int .i64 a, .int .i64 t, v] 53)).heap.size = w.heap.size + 1 by simp] at h
  have HCL := Lib.hid (sClone v l w0 (hv.below hb0 (Nat.le_refl _)) (by omega))
  have HB0 := Lib.hid hb0
  have HZ0 := Lib.hid hz0
  have HZ1 := Lib.hid hz1
  have HE := Lib.hid hE
  obtain ⟨ad, cap, rfl, hlc, hcm, -⟩ := hv
  unfold maxLen at hcm
  clear hb0 hz0 hz1 hE
  have key : ∀ w2 ad2 cap2, OwnStrs w0.heap.size w2 (.slice ad2 l.length cap2) l → Below w0.heap.size w0 w2 → AddAt w.heap.size w (w2.setCell ⟨w.heap.size, 2, none⟩ (.slice ad2 l.length cap2)) a t (.slice ad2 l.length cap2) l := fun w2 ad2 cap2 ho2 hb2 => by
    rw [hsz0] at ho2
    exact ⟨(HZ0.out.below hb2 HZ0.out.lt).set 2 _, (HZ1.out.below hb2 HZ1.out.lt).other (by omega) 2 _, ho2.set_old (by omega) 2 _, (HB0.out.trans (hb2.mono HB0.out.size)).setCell (by exact Nat.le_refl _) _, by have := hb2.size; simp; omega⟩
  have HKEY := Lib.hid key
  clear key hsz0
  by_cases hfull : 4 ≤ l.length
  · have HADD := Lib.hid (addL_no (l := ⟨a, t, l⟩) (x := s.data.toList) (.inr (.inr hfull)))
    have hf : (4 : Int) ≤ (l.length : Int) := by omega
    go_enter Tryz.func54, Tryz.ntmps54
    go_wp2_with fail
    rw [← hw0]
    clear hw0
    refine HCL.out.mono ?_
    rintro e w2 ⟨v2, rfl, ho2, hb2⟩
    obtain ⟨ad2, cap2, rfl, hcm2, -⟩ := ho2.slice
    unfold maxLen at hcm2
    have c0 : ∀ j, w2.cell? ⟨w.heap.size, j, none⟩ = _ := (HZ0.out.below hb2 HZ0.out.lt).cell
    have c1 : ∀ j, w2.frozen? ⟨w.heap.size, j, none⟩ = false := (HZ0.out.below hb2 HZ0.out.lt).free
    have HAT := Lib.hid (HKEY.out w2 ad2 cap2 ho2 hb2)
    have d0 := (HZ1.out.below hb2 HZ1.out.lt).cell
    have d1 := (HZ1.out.below hb2 HZ1.out.lt).free
    clear ho2 hb2 hfull
    go_wp2_with fail
    change bodyPost _ _ _ _ _ (set3L (w2.setCell ⟨w.heap.size, 2, none⟩ (.slice ad2 l.length cap2)) (w.heap.size + 1) (.int .i64 a) (.int .i64 t) (.slice ad2 l.length cap2))
    have hB := (HAT.out.b1.three (.int .i64 a) (.int .i64 t) (.slice ad2 l.length cap2)).cell
    have HF := Lib.hid (below_three (b := w.heap.size + 1) (x := .int .i64 a) (y := .int .i64 t) (z := .slice ad2 l.length cap2) HAT.out.hb (by omega : w.heap.size ≤ w.heap.size + 1))
    have HOF := Lib.hid ((HAT.out.own.set_three (b := w.heap.size + 1) (by omega) (.int .i64 a) (.int .i64 t) (.slice ad2 l.length cap2)).mono (by omega : w.heap.size ≤ w.heap.size + 2))
    clear d0 d1
    generalize set3L (w2.setCell ⟨w.heap.size, 2, none⟩ (.slice ad2 l.length cap2)) (w.heap.size + 1) (.int .i64 a) (.int .i64 t) (.slice ad2 l.length cap2) = wf at hB HF HOF ⊢
    exact bodyPost_ret (v := .agg #[.int .i64 a, .int .i64 t, .slice ad2 l.length cap2]) (by simp [results, Tryz.results54, go_sem, hB]) rfl ⟨_, rfl, by rw [HADD.out]; exact HOF.out, HF.out⟩
  · have h4 : (l.length : Int) < 4 := by omega
    go_enter Tryz.func54, Tryz.ntmps54
    go_wp2_with fail
    rw [← hw0]
    clear hw0
    refine HCL.out.mono ?_
    rintro e w2 ⟨v2, rfl, ho2, hb2⟩
    obtain ⟨ad2, cap2, rfl, hcm2, -⟩ := ho2.slice
    unfold maxLen at hcm2
    have c0 : ∀ j, w2.cell? ⟨w.heap.size, j, none⟩ = _ := (HZ0.out.below hb2 HZ0.out.lt).cell
    have c1 : ∀ j, w2.frozen? ⟨w.heap.size, j, none⟩ = false := (HZ0.out.below hb2 HZ0.out.lt).free
    have HAT := Lib.hid (HKEY.out w2 ad2 cap2 ho2 hb2)
    clear ho2 hb2
    go_wp2_with fail
    clear c0 c1
    generalize w2.setCell ⟨w.heap.size, 2, none⟩ (.slice ad2 l.length cap2) = w3 at HAT ⊢
    have c0 := HAT.out.b0.cell
    refine (lineIsSub s w3 (HE.out.below HAT.out.hb) hs).mono ?_
    cases hsub : Ln.isSub s.data.toList with
    | false =>
      have HADD := Lib.hid (addL_no (l := ⟨a, t, l⟩) (x := s.data.toList) (.inl hsub))
      clear hsub
      rintro e w4 ⟨rfl, rfl⟩
      have g0 := HAT.out.b1.cell
      have g1 := HAT.out.b1.free
      go_wp2_with fail
      change bodyPost _ _ _ _ _ (set3L w3 (w.heap.size + 1) (.int .i64 a) (.int .i64 t) (.slice ad2 l.length cap2))
      have hB := (HAT.out.b1.three (.int .i64 a) (.int .i64 t) (.slice ad2 l.length cap2)).cell
      have HF := Lib.hid (below_three (b := w.heap.size + 1) (x := .int .i64 a) (y := .int .i64 t) (z := .slice ad2 l.length cap2) HAT.out.hb (by omega : w.heap.size ≤ w.heap.size + 1))
      have HOF := Lib.hid ((HAT.out.own.set_three (b := w.heap.size + 1) (by omega) (.int .i64 a) (.int .i64 t) (.slice ad2 l.length cap2)).mono (by omega : w.heap.size ≤ w.heap.size + 2))
      clear g0 g1
      generalize set3L w3 (w.heap.size + 1) (.int .i64 a) (.int .i64 t) (.slice ad2 l.length cap2) = wf at hB HF HOF ⊢
      exact bodyPost_ret (v := .agg #[.int .i64 a, .int .i64 t, .slice ad2 l.length cap2]) (by simp [results, Tryz.results54, go_sem, hB]) rfl ⟨_, rfl, by rw [HADD.out]; exact HOF.out, HF.out⟩
    | true =>
      rintro e w4 ⟨rfl, rfl⟩
      go_wp2_with fail
      refine (lineHas a t _ l s w3 HAT.out.own.strs).mono ?_
      cases hhas : hasB l s.data.toList with
      | true =>
        have HADD := Lib.hid (addL_no (l := ⟨a, t, l⟩) (x := s.data.toList) (.inr (.inl hhas)))
        clear hsub hhas
        rintro e w4 ⟨rfl, hb4⟩
        have HAT4 := Lib.hid (HAT.out.below hb4)
        clear hb4 c0
        have c0 := HAT4.out.b0.cell
        have g0 := HAT4.out.b1.cell
        have g1 := HAT4.out.b1.free
        go_wp2_with fail
        change bodyPost _ _ _ _ _ (set3L w4 (w.heap.size + 1) (.int .i64 a) (.int .i64 t) (.slice ad2 l.length cap2))
        have hB := (HAT4.out.b1.three (.int .i64 a) (.int .i64 t) (.slice ad2 l.length cap2)).cell
        have HF := Lib.hid (below_three (b := w.heap.size + 1) (x := .int .i64 a) (y := .int .i64 t) (z := .slice ad2 l.length cap2) HAT4.out.hb (by omega : w.heap.size ≤ w.heap.size + 1))
        have HOF := Lib.hid ((HAT4.out.own.set_three (b := w.heap.size + 1) (by omega) (.int .i64 a) (.int .i64 t) (.slice ad2 l.length cap2)).mono (by omega : w.heap.size ≤ w.heap.size + 2))
        clear g0 g1
        generalize set3L w4 (w.heap.size + 1) (.int .i64 a) (.int .i64 t) (.slice ad2 l.length cap2) = wf at hB HF HOF ⊢
        exact bodyPost_ret (v := .agg #[.int .i64 a, .int .i64 t, .slice ad2 l.length cap2]) (by simp [results, Tryz.results54, go_sem, hB]) rfl ⟨_, rfl, by rw [HADD.out]; exact HOF.out, HF.out⟩
      | false =>
        have HADD := Lib.hid (addL_yes (l := ⟨a, t, l⟩) (x := s.data.toList) hsub hhas (show l.length < 4 by omega))
        clear hsub hhas
        rintro e w4 ⟨rfl, hb4⟩
        have HAT4 := Lib.hid (HAT.out.below hb4)
        clear hb4 c0
        have c0 := HAT4.out.b0.cell
        have c1 := HAT4.out.b0.free
        go_wp2_with fail
        go_loop [6] (fun iv => ∃ k : Nat, k ≤ l.length ∧ iv = .int .i64 (k : Int) ∧ LessTo l s.data.toList k) (fun iv => l.length - (intOf iv).toNat)
        case atStart => exact ⟨0, by omega, rfl, fun j hj => by omega⟩
        case round =>
          obtain ⟨k, hk, rfl, hle⟩ := hrel
          have HLE := Lib.hid hle
          clear hle
          by_cases hlt : k < l.length
          · obtain ⟨sx, hsx, ex⟩ := exists_bytes (l.getD k [])
            obtain ⟨b, o, rfl, hbl, dk⟩ := HAT4.out.own.strs.at (getD_some hlt)
            have e1 : w4.cell? ⟨b, o + k, none⟩ = some (.string sx) := dk.trans (congrArg some ex)
            have hi0 : (0 : Int) ≤ (k : Int) := by omega
            have hi1 : (k : Int) < (l.length : Int) := by omega
            by_cases hless : l.getD k [] < s.data.toList
            · have ht : Op.bytesLess sx.toList s.toList = true := less_yes hsx rfl hless
              have HN := Lib.hid (HLE.out.next hless)
              clear hsx ex dk hless
              go_wp2_with fail
              go_round
              case rel => exact ⟨k + 1, by omega, by go_num, HN.out⟩
              case measure => simp [intOf]; omega
            · have ht : Op.bytesLess sx.toList s.toList = false := less_no hsx rfl hless
              have HPL := Lib.hid (place_mid hlt HLE.out hless)
              clear hsx ex dk hless
              have HINS := Lib.hid (sInsert (w.heap.size + 2) w4 w4 (.slice (some ⟨b, o, none⟩) l.length cap2) l k s HAT4.out.own hk (by omega) HAT4.out.size (Below.refl _ _))
              unfold InsRes at HINS
              go_wp2_with fail
              refine HINS.out.mono ?_
              rintro e w7 ⟨v7, rfl, ho7, hb7⟩
              obtain ⟨ad7, cap7, rfl, hcm7, -⟩ := ho7.slice
              rw [insAt_len hk] at *
              have hnew : AddAt w.heap.size w (w7.setCell ⟨w.heap.size, 2, none⟩ (.slice ad7 (l.length + 1) cap7)) a t (.slice ad7 (l.length + 1) cap7) (insAt l k s.data.toList) :=
                ⟨(HAT4.out.b0.below hb7 (by omega)).set 2 _, (HAT4.out.b1.below hb7 (by omega)).other (by omega) 2 _, ho7.set_old (by omega) 2 _, (HAT4.out.hb.trans (hb7.mono (by omega))).setCell (by exact Nat.le_refl _) _, by have := HAT4.out.size; have := hb7.size; simp; omega⟩
              have HNEW := Lib.hid hnew
              have c7 := (HAT4.out.b0.below hb7 (by omega)).cell
              have c8 := (HAT4.out.b0.below hb7 (by omega)).free
              have d0 := (HAT4.out.b1.below hb7 (by omega)).cell
              have d1 := (HAT4.out.b1.below hb7 (by omega)).free
              have HAD2 := Lib.hid (by rw [HADD.out, HPL.out] : addL ⟨a, t, l⟩ s.data.toList = ⟨a, t, insAt l k s.data.toList⟩)
              clear ho7 hb7 hnew c0 c1
              go_wp2_with fail
              change bodyPost _ _ _ _ _ (set3L (w7.setCell ⟨w.heap.size, 2, none⟩ (.slice ad7 (l.length + 1) cap7)) (w.heap.size + 1) (.int .i64 a) (.int .i64 t) (.slice ad7 (l.length + 1) cap7))
              have hB := (HNEW.out.b1.three (.int .i64 a) (.int .i64 t) (.slice ad7 (l.length + 1) cap7)).cell
              have HF := Lib.hid (below_three (b := w.heap.size + 1) (x := .int .i64 a) (y := .int .i64 t) (z := .slice ad7 (l.length + 1) cap7) HNEW.out.hb (by omega : w.heap.size ≤ w.heap.size + 1))
              have HOF := Lib.hid ((HNEW.out.own.set_three (b := w.heap.size + 1) (by omega) (.int .i64 a) (.int .i64 t) (.slice ad7 (l.length + 1) cap7)).mono (by omega : w.heap.size ≤ w.heap.size + 2))
              clear d0 d1
              generalize set3L (w7.setCell ⟨w.heap.size, 2, none⟩ (.slice ad7 (l.length + 1) cap7)) (w.heap.size + 1) (.int .i64 a) (.int .i64 t) (.slice ad7 (l.length + 1) cap7) = wf at hB HF HOF ⊢
              exact bodyPost_ret (v := .agg #[.int .i64 a, .int .i64 t, .slice ad7 (l.length + 1) cap7]) (by simp [results, Tryz.results54, go_sem, hB]) rfl ⟨_, rfl, by rw [HAD2.out]; exact HOF.out, HF.out⟩
          · obtain rfl : k = l.length := by omega
            have HPL := Lib.hid (place_end HLE.out)
            have HINS := Lib.hid (sInsert (w.heap.size + 2) w4 w4 (.slice ad2 l.length cap2) l l.length s HAT4.out.own (Nat.le_refl _) (by omega) HAT4.out.size (Below.refl _ _))
            unfold InsRes at HINS
            go_wp2_with fail
            refine HINS.out.mono ?_
            rintro e w7 ⟨v7, rfl, ho7, hb7⟩
            obtain ⟨ad7, cap7, rfl, hcm7, -⟩ := ho7.slice
            rw [insAt_len (Nat.le_refl _)] at *
            have hnew : AddAt w.heap.size w (w7.setCell ⟨w.heap.size, 2, none⟩ (.slice ad7 (l.length + 1) cap7)) a t (.slice ad7 (l.length + 1) cap7) (insAt l l.length s.data.toList) :=
              ⟨(HAT4.out.b0.below hb7 (by omega)).set 2 _, (HAT4.out.b1.below hb7 (by omega)).other (by omega) 2 _, ho7.set_old (by omega) 2 _, (HAT4.out.hb.trans (hb7.mono (by omega))).setCell (by exact Nat.le_refl _) _, by have := HAT4.out.size; have := hb7.size; simp; omega⟩
            have HNEW := Lib.hid hnew
            have c7 := (HAT4.out.b0.below hb7 (by omega)).cell
            have c8 := (HAT4.out.b0.below hb7 (by omega)).free
            have d0 := (HAT4.out.b1.below hb7 (by omega)).cell
            have d1 := (HAT4.out.b1.below hb7 (by omega)).free
            have HAD2 := Lib.hid (by rw [HADD.out, HPL.out] : addL ⟨a, t, l⟩ s.data.toList = ⟨a, t, insAt l l.length s.data.toList⟩)
            clear ho7 hb7 hnew c0 c1
            go_wp2_with fail
            change bodyPost _ _ _ _ _ (set3L (w7.setCell ⟨w.heap.size, 2, none⟩ (.slice ad7 (l.length + 1) cap7)) (w.heap.size + 1) (.int .i64 a) (.int .i64 t) (.slice ad7 (l.length + 1) cap7))
            have hB := (HNEW.out.b1.three (.int .i64 a) (.int .i64 t) (.slice ad7 (l.length + 1) cap7)).cell
            have HF := Lib.hid (below_three (b := w.heap.size + 1) (x := .int .i64 a) (y := .int .i64 t) (z := .slice ad7 (l.length + 1) cap7) HNEW.out.hb (by omega : w.heap.size ≤ w.heap.size + 1))
            have HOF := Lib.hid ((HNEW.out.own.set_three (b := w.heap.size + 1) (by omega) (.int .i64 a) (.int .i64 t) (.slice ad7 (l.length + 1) cap7)).mono (by omega : w.heap.size ≤ w.heap.size + 2))
            clear d0 d1
            generalize set3L (w7.setCell ⟨w.heap.size, 2, none⟩ (.slice ad7 (l.length + 1) cap7)) (w.heap.size + 1) (.int .i64 a) (.int .i64 t) (.slice ad7 (l.length + 1) cap7) = wf at hB HF HOF ⊢
            exact bodyPost_ret (v := .agg #[.int .i64 a, .int .i64 t, .slice ad7 (l.length + 1) cap7]) (by simp [results, Tryz.results54, go_sem, hB]) rfl ⟨_, rfl, by rw [HAD2.out]; exact HOF.out, HF.out⟩
end Go.Proofs.YtbcgkeclmioeiaaGreatDoor
namespace Go.Proofs.YtbcgkeclmioeiaaGreatDoor
open Go.RowKit
open Wd (Bs)

set_option maxRecDepth 100000 in
theorem colorIs (m : Int) (w : World) :
    Calls Tryz.prog 62 #[.int .i64 m] w fun e w' => e = .returned (.bool (Col.validB m)) ∧ w = w' := by
  rcases Int.lt_or_le m 0 with h0 | h0
  · have HB : Hid (Col.validB m = false) := Lib.hid (by unfold Col.validB; simp; omega)
    go_enter Tryz.func62, Tryz.ntmps62
    go_wp2
    go_ret
    exact ⟨ret_bool HB.out.symm, rfl⟩
  · by_cases h1 : m ≤ 31
    · have HB : Hid (Col.validB m = true) := Lib.hid (by unfold Col.validB; simp; omega)
      go_enter Tryz.func62, Tryz.ntmps62
      go_wp2
      go_ret
      exact ⟨ret_bool HB.out.symm, rfl⟩
    · have HB : Hid (Col.validB m = false) := Lib.hid (by unfold Col.validB; simp; omega)
      go_enter Tryz.func62, Tryz.ntmps62
      go_wp2
      go_ret
      exact ⟨ret_bool HB.out.symm, rfl⟩

theorem bits_someC : ∀ k, k < 32 → 0 < k → 0 < (Num.bitsL k 31).length := by decide +kernel
theorem parts_takeC {l : List Int} {j : Nat} {x : Int} (hx : l[j]? = some x) : (l.take (j + 1)).map Col.nameI = (l.take j).map Col.nameI ++ [Col.nameI x] := by
  obtain ⟨hj, rfl⟩ := List.getElem?_eq_some_iff.1 hx
  rw [List.take_succ_eq_append_getElem hj, List.map_append]
  rfl
theorem join_parts_lenC {k : Nat} (h0 : 0 < k) (h : k ≤ 31) : (Lib.join (Col.parts k 31) [43]).length ≤ 40 := by
  have := Col.textN_len h
  unfold Col.textN at this
  rwa [if_neg (by omega)] at this
theorem textN_partsC {k : Nat} (h0 : 0 < k) : Col.textN k = Lib.join (Col.parts k 31) [43] := by
  unfold Col.textN
  rw [if_neg (by omega)]
set_option maxHeartbeats 1000000 in
set_option maxRecDepth 100000 in
theorem colorText (m : Int) (w : World) (hE : EnvC w) :
    Calls Tryz.prog 140 #[.int .i64 m] w fun e w' => e = .returned (str (Col.textI m)) ∧ Below w.heap.size w w' := by
  rcases Col.valid_cases m with ⟨k, rfl, hk, hv⟩ | ⟨_, hv⟩
  · have HV := Lib.hid hv
    clear hv
    by_cases h0 : k = 0
    · subst h0
      clear HV
      go_enter Tryz.func140, Tryz.ntmps140
      go_wp2_with fail
      refine (colorIs _ _).mono ?_
      rw [show Col.validB 0 = true by decide]
      rintro e w1 ⟨rfl, rfl⟩
      go_wp2_with fail
      go_ret
      exact ⟨by rw [show Col.textI ((0 : Nat) : Int) = [110, 111, 110, 101] by decide]; rfl, Below.refl _ _⟩
    · have h0' : ((k : Int) == 0) = false := by simp; omega
      have hk' : (k : Int) ≤ 9223372036854775807 := by omega
      have HT := Lib.hid ((Col.textI_nat hk).trans (textN_partsC (by omega)))
      have HL := Lib.hid (join_parts_lenC (by omega) hk)
      have HS := Lib.hid (bits_someC k (by omega) (by omega))
      have hlen := Num.bitsL_len k 31
      have HE := Lib.hid hE
      clear h0 hE
      go_enter Tryz.func140, Tryz.ntmps140
      go_wp2_with fail
      refine (colorIs _ _).mono ?_
      rw [HV.out]
      rintro e w1 ⟨rfl, rfl⟩
      go_wp2_with fail
      refine (numBits k hk' _).mono ?_
      rintro e w1 ⟨v, rfl, hown, hb⟩
      have HE1 := Lib.hid (HE.out.below hb)
      have HB1 := Lib.hid hb
      rcases hown.shape with ⟨_, hl⟩ | ⟨g, cap, rfl, _, hg, hlc, hcap, hcell⟩
      · exact absurd (HS.out) (by rw [hl]; decide)
      have HPT : Hid (Col.parts k 31 = (Num.bitsL k 31).map Col.nameI) := Lib.hid rfl
      have D := Lib.hid hcell
      clear hown hb hcell HS HE
      generalize Num.bitsL k 31 = l at *
      unfold maxLen at hcap
      go_wp2_with fail
      go_loopw [3, 14] (fun pv iv wr => ∃ j : Nat, j ≤ l.length ∧ iv = .int .i64 (j : Int) ∧ OwnStrs w1.heap.size wr pv ((l.take j).map Col.nameI) ∧ Below w1.heap.size w1 wr) (fun _ iv _ => l.length - (intOf iv).toNat)
      case atStart => exact ⟨0, by omega, rfl, OwnStrs.nil _ _, Below.refl _ _⟩
      case round =>
        obtain ⟨j, hj, rfl, hown, hbr⟩ := hrel
        by_cases hlt : j < l.length
        · have hsz := hbr.size
          have hx : l[j]? = some l[j] := List.getElem?_eq_getElem hlt
          have hc : wr.cell? ⟨g, j, none⟩ = some (.int .i64 l[j]) := (hbr.cell (p := ⟨g, j, none⟩) hg).trans (D.out j _ hx)
          have HP := Lib.hid (parts_takeC hx)
          have hpl : ((l.take j).map Col.nameI).length ≤ 1000000000000 := by simp; omega
          obtain ⟨sx, hsx, ex⟩ := exists_bytes (Col.nameI l[j])
          have HSX := Lib.hid hsx
          have HN : Hid (Calls Tryz.prog 122 #[.int .i64 l[j]] wr fun e w' => e = .returned (.string sx) ∧ wr = w') := Lib.hid (by rw [← ex]; exact colorName _ _ (HE1.out.below hbr))
          have HO := Lib.hid hown
          have HBR := Lib.hid hbr
          have HPL := Lib.hid hpl
          clear hx hsx ex hown hbr hpl
          generalize l[j] = x at *
          go_wp2_with fail
          refine HN.out.mono ?_
          rintro e w2 ⟨rfl, rfl⟩
          go_wp2_with (at_builtin; refine wpList_push_str rfl _ _ rfl rfl HO.out sx rfl HPL.out hsz HBR.out ?_)
          intro v' w2 ho hb'
          go_wp2_with fail
          go_roundw
          case rel => exact ⟨j + 1, by omega, by go_num, by rw [HP.out, ← HSX.out, List.map_take]; exact ho, hb'⟩
          case measure => simp [intOf]; omega
        · obtain rfl : j = l.length := by omega
          have HO := Lib.hid (by rw [List.take_length] at hown; exact hown : OwnStrs w1.heap.size wr _ (l.map Col.nameI))
          have HBR := Lib.hid hbr
          have HJ := Lib.hid (wordJoin _ (l.map Col.nameI) ⟨#[43]⟩ wr HO.out.strs (by simp; omega) (by rw [← HPT.out]; exact Nat.le_trans HL.out (by omega)))
          clear hown hbr HO
          go_wp2_with fail
          refine HJ.out.mono ?_
          rintro e w2 ⟨rfl, hb2⟩
          go_wp2_with fail
          go_ret
          exact ⟨by rw [HT.out, HPT.out]; rfl, (HB1.out.trans (HBR.out.mono HB1.out.size)).trans (hb2.mono (Nat.le_trans HB1.out.size HBR.out.size))⟩
  · have HV := Lib.hid hv
    have HT := Lib.hid (Col.textI_bad hv)
    clear hv
    go_enter Tryz.func140, Tryz.ntmps140
    go_wp2_with fail
    refine (colorIs _ _).mono ?_
    rw [HV.out]
    rintro e w1 ⟨rfl, rfl⟩
    go_wp2_with fail
    go_ret
    exact ⟨by rw [HT.out]; rfl, Below.refl _ _⟩
/-- no mask below k has the text s -/
def NoneToC (s : List UInt8) (k : Nat) : Prop := ∀ j, j < k → Col.textN j ≠ s
theorem NoneToC.next {s : List UInt8} {k : Nat} (h : NoneToC s k) (hk : Col.textN k ≠ s) : NoneToC s (k + 1) := by
  intro j hj
  by_cases e : j = k
  · subst e; exact hk
  · exact h j (by omega)
set_option maxHeartbeats 1000000 in
set_option maxRecDepth 100000 in
theorem colorParse (s : ByteArray) (w : World) (hE : EnvC w) :
    Calls Tryz.prog 143 #[.string s] w fun e w' => e = .returned (.tuple #[.int .i64 (Col.parseI s.data.toList), .int .i64 (Col.parseE s.data.toList)]) ∧ Below w.heap.size w w' := by
  have HE := Lib.hid hE
  clear hE
  go_enter Tryz.func143, Tryz.ntmps143
  go_wp2_with fail
  go_loopw [5] (fun iv wr => ∃ j : Nat, j ≤ 32 ∧ iv = .int .i64 (j : Int) ∧ NoneToC s.data.toList j ∧ Below w.heap.size w wr) (fun iv _ => 32 - (intOf iv).toNat)
  case atStart => exact ⟨0, by omega, rfl, fun j hj => absurd hj (by omega), Below.refl _ _⟩
  case round =>
    obtain ⟨j, hj, rfl, hno, hb⟩ := hrel
    have HB := Lib.hid hb
    have HNO := Lib.hid hno
    clear hb hno
    by_cases hlt : j < 32
    · obtain ⟨sx, hsx, ex⟩ := exists_bytes (Col.textI (j : Int))
      have HSX := Lib.hid (hsx.trans (Col.textI_nat (m := j) (by omega)))
      have HC : Hid (Calls Tryz.prog 140 #[.int .i64 (j : Int)] wr fun e w' => e = .returned (.string sx) ∧ Below wr.heap.size wr w') := Lib.hid (by rw [← ex]; exact colorText _ _ (HE.out.below HB.out))
      clear hsx ex
      cases ht : (sx.toList == s.toList) with
      | true =>
        have HP := Lib.hid (Col.parse_hit_out (s := s.data.toList) hlt HNO.out (by rw [← HSX.out, (Lib.bytes_beq_iff _ _).1 ht]))
        go_wp2_with fail
        refine HC.out.mono ?_
        rintro e w2 ⟨rfl, hb2⟩
        go_wp2_with fail
        go_ret2
        exact ⟨by rw [HP.out.1, HP.out.2]; rfl, HB.out.trans (hb2.mono HB.out.size)⟩
      | false =>
        have HN := Lib.hid (HNO.out.next (k := j) (by rw [← HSX.out]; intro e; exact (Lib.bytes_beq_false_iff _ _).1 ht (bytes_same e)))
        go_wp2_with fail
        refine HC.out.mono ?_
        rintro e w2 ⟨rfl, hb2⟩
        go_wp2_with fail
        go_roundw
        case rel => exact ⟨j + 1, by omega, by go_num, HN.out, HB.out.trans (hb2.mono HB.out.size)⟩
        case measure => simp [intOf]; omega
    · obtain rfl : j = 32 := by omega
      have HP := Lib.hid (Col.parse_none_out HNO.out)
      go_wp2_with fail
      go_ret2
      exact ⟨by rw [HP.out.1, HP.out.2]; rfl, HB.out⟩
end Go.Proofs.YtbcgkeclmioeiaaGreatDoor
namespace Go.Proofs.YtbcgkeclmioeiaaGreatDoor
open Go.RowKit
open Wd (Bs)


theorem parts_takeK {l : List Int} {j : Nat} {x : Int} (hx : l[j]? = some x) : (l.take (j + 1)).map Kw.nameI = (l.take j).map Kw.nameI ++ [Kw.nameI x] := by
  obtain ⟨hj, rfl⟩ := List.getElem?_eq_some_iff.1 hx
  rw [List.take_succ_eq_append_getElem hj, List.map_append]
  rfl
theorem textN_partsK {k : Nat} (h0 : 0 < k) : Kw.textN k = Lib.join (Kw.parts k 31) [43] := by
  unfold Kw.textN
  rw [if_neg (by omega)]
theorem join_parts_lenK {k : Nat} (h0 : 0 < k) (h : k ≤ 131071) : (Lib.join (Kw.parts k 31) [43]).length ≤ 238 := by
  rw [← textN_partsK h0]
  exact Kw.textN_len h
/-- the bits of a mask are places of names -/
def BitsFitK (l : List Int) : Prop := ∀ (j : Nat) (x : Int), l[j]? = some x → ∃ k : Nat, x = (k : Int) ∧ k < 17
theorem bits_fitK {m : Nat} (h : m ≤ 131071) : BitsFitK (Num.bitsL m 31) := by
  intro j x hx
  have hmem := List.mem_of_getElem? hx
  rw [Kw.bits_top h] at hmem
  unfold Num.bitsL at hmem
  obtain ⟨i, hi, rfl⟩ := List.mem_map.1 hmem
  exact ⟨i, rfl, List.mem_range.1 (List.mem_filter.1 hi).1⟩
theorem bits_someK {m : Nat} (h0 : 0 < m) (h : m ≤ 131071) : Num.bitsL m 31 ≠ [] := by
  intro e
  have : Kw.parts m 17 = [] := by rw [← Kw.parts_top h]; unfold Kw.parts; rw [e]; rfl
  have := Kw.parts_zero h this
  omega
theorem names_atK {k : Nat} (h : k < 17) : Kw.names[k]? = some (Kw.name k) := by
  unfold Kw.name List.getD
  rw [List.getElem?_eq_getElem (show k < Kw.names.length from h)]
  rfl
set_option maxHeartbeats 1000000 in
set_option maxRecDepth 100000 in
theorem keyText (m : Int) (w : World) :
    Calls Tryz.prog 141 #[.int .i64 m] w fun e w' => e = .returned (str (Kw.textI m)) ∧ Below w.heap.size w w' := by
  rcases Kw.valid_cases m with ⟨k, rfl, hk, hv⟩ | ⟨_, hv⟩
  · have HV := Lib.hid hv
    clear hv
    by_cases h0 : k = 0
    · subst h0
      clear HV
      go_enter Tryz.func141, Tryz.ntmps141
      go_wp2_with fail
      refine (keyIs _ _).mono ?_
      rw [show Kw.validB 0 = true by decide]
      rintro e w1 ⟨rfl, rfl⟩
      go_wp2_with fail
      go_ret
      exact ⟨by rw [show Kw.textI ((0 : Nat) : Int) = [110, 111, 110, 101] by decide]; rfl, Below.refl _ _⟩
    · have h0' : ((k : Int) == 0) = false := by simp; omega
      have hk' : (k : Int) ≤ 9223372036854775807 := by omega
      have HT := Lib.hid ((Kw.textI_nat hk).trans (textN_partsK (by omega)))
      have HL := Lib.hid (join_parts_lenK (by omega) hk)
      have HS := Lib.hid (bits_someK (by omega) hk)
      have HFIT := Lib.hid (bits_fitK hk)
      have hlen := Num.bitsL_len k 31
      have HK := Lib.hid (keyFrom 0)
      rw [show Kw.fromI 0 = Kw.names from rfl] at HK
      clear h0
      go_enter Tryz.func141, Tryz.ntmps141
      go_wp2_with fail
      refine (keyIs _ _).mono ?_
      rw [HV.out]
      rintro e w0 ⟨rfl, rfl⟩
      go_wp2_with fail
      refine (HK.out _).mono ?_
      rintro e wn ⟨vn, rfl, hnames, hbn⟩
      have BN := Lib.hid hbn
      rcases hnames.shape with ⟨_, hl⟩ | ⟨gn, capn, rfl, _, hgn, hlcn, hcapn, hcelln⟩
      · exact absurd hl (by decide)
      have CN := Lib.hid hcelln
      rw [show Kw.names.length = 17 from rfl] at hlcn
      rw [show Kw.names.length = 17 from rfl]
      clear hnames hbn hcelln
      go_wp2_with fail
      refine (numBits k hk' _).mono ?_
      rintro e w1 ⟨v, rfl, hown, hb⟩
      have HB1 := Lib.hid (BN.out.trans (hb.mono BN.out.size))
      have CN1 : Hid (∀ i x, Kw.names[i]? = some x → w1.cell? ⟨gn, i, none⟩ = some (str x)) := Lib.hid fun i x hx => (hb.cell (p := ⟨gn, i, none⟩) hgn).trans (CN.out i x hx)
      have hgn1 : gn < w1.heap.size := by have := hb.size; omega
      rcases hown.shape with ⟨_, hl⟩ | ⟨g, cap, rfl, _, hg, hlc, hcap, hcell⟩
      · exact absurd hl HS.out
      have HPT : Hid (Kw.parts k 31 = (Num.bitsL k 31).map Kw.nameI) := Lib.hid rfl
      have D := Lib.hid hcell
      clear hown hb hcell HS CN BN hgn
      generalize Num.bitsL k 31 = l at *
      unfold maxLen at hcap hcapn
      go_wp2_with fail
      go_loopw [4, 6, 16] (fun pv _ iv wr => ∃ j : Nat, j ≤ l.length ∧ iv = .int .i64 (j : Int) ∧ OwnStrs w1.heap.size wr pv ((l.take j).map Kw.nameI) ∧ Below w1.heap.size w1 wr) (fun _ _ iv _ => l.length - (intOf iv).toNat)
      case atStart => exact ⟨0, by omega, rfl, OwnStrs.nil _ _, Below.refl _ _⟩
      case round =>
        obtain ⟨j, hj, rfl, hown, hbr⟩ := hrel
        by_cases hlt : j < l.length
        · have hsz := hbr.size
          have hx : l[j]? = some l[j] := List.getElem?_eq_getElem hlt
          obtain ⟨q, hq, hq17⟩ := HFIT.out j _ hx
          rw [hq] at hx
          have hc : wr.cell? ⟨g, j, none⟩ = some (.int .i64 (q : Int)) := (hbr.cell (p := ⟨g, j, none⟩) hg).trans (D.out j _ hx)
          have HP := Lib.hid (parts_takeK hx)
          obtain ⟨sx, hsx, ex⟩ := exists_bytes (Kw.name q)
          have hcn : wr.cell? ⟨gn, q, none⟩ = some (.string sx) := ((hbr.cell (p := ⟨gn, q, none⟩) hgn1).trans (CN1.out q _ (names_atK hq17))).trans (congrArg some ex)
          have HSX := Lib.hid (hsx.trans (Kw.nameI_nat q).symm)
          have hpl : ((l.take j).map Kw.nameI).length ≤ 1000000000000 := by simp; omega
          have HO := Lib.hid hown
          have HBR := Lib.hid hbr
          have HPL := Lib.hid hpl
          clear hx hsx ex hown hbr hpl hq
          go_wp2_with (at_builtin; refine wpList_push_str rfl _ _ rfl rfl HO.out sx rfl HPL.out hsz HBR.out ?_)
          intro v' w2 ho hb'
          go_wp2_with fail
          go_roundw
          case rel => exact ⟨j + 1, by omega, by go_num, by rw [HP.out, ← HSX.out, List.map_take]; exact ho, hb'⟩
          case measure => simp [intOf]; omega
        · obtain rfl : j = l.length := by omega
          have HO := Lib.hid (by rw [List.take_length] at hown; exact hown : OwnStrs w1.heap.size wr _ (l.map Kw.nameI))
          have HBR := Lib.hid hbr
          have HJ := Lib.hid (wordJoin _ (l.map Kw.nameI) ⟨#[43]⟩ wr HO.out.strs (by simp; omega) (by rw [← HPT.out]; exact Nat.le_trans HL.out (by omega)))
          clear hown hbr HO
          go_wp2_with fail
          refine HJ.out.mono ?_
          rintro e w2 ⟨rfl, hb2⟩
          go_wp2_with fail
          go_ret
          exact ⟨by rw [HT.out, HPT.out]; rfl, (HB1.out.trans (HBR.out.mono HB1.out.size)).trans (hb2.mono (Nat.le_trans HB1.out.size HBR.out.size))⟩
  · have HV := Lib.hid hv
    have HT := Lib.hid (Kw.textI_bad hv)
    clear hv
    go_enter Tryz.func141, Tryz.ntmps141
    go_wp2_with fail
    refine (keyIs _ _).mono ?_
    rw [HV.out]
    rintro e w1 ⟨rfl, rfl⟩
    go_wp2_with fail
    go_ret
    exact ⟨by rw [HT.out]; rfl, Below.refl _ _⟩

theorem cut_valsK (l c : Bs) : ∃ p r : ByteArray, p.data.toList = (Wd.cut l c).1 ∧ r.data.toList = (Wd.cut l c).2.1 ∧ cutV (Wd.cut l c) = .tuple #[.string p, .string r, .bool (Wd.cut l c).2.2] :=
  ⟨⟨(Wd.cut l c).1.toArray⟩, ⟨(Wd.cut l c).2.1.toArray⟩, rfl, rfl, rfl⟩
theorem cut_lenK (l c : Bs) : (Wd.cut l c).2.1.length ≤ l.length := by
  unfold Wd.cut
  split
  · simp
  · split <;> simp
theorem bytes_lenK (s : ByteArray) : s.data.toList.length = s.size := by simp
theorem key_idx (p : Bs) : (∃ k : Nat, k < 17 ∧ Kw.ix p = k ∧ idx Kw.names p = (k : Int)) ∨ (Kw.ix p = 17 ∧ idx Kw.names p = -1) := by
  by_cases h : Kw.ix p < 17
  · refine .inl ⟨Kw.ix p, h, rfl, idx_hit (k := Kw.ix p) ?_ ?_⟩
    · have h1 : Kw.names.findIdx (· == p) < Kw.names.length := h
      have h2 := List.findIdx_getElem (w := h1)
      have h3 : Kw.names[Kw.names.findIdx (· == p)] = p := by simpa using h2
      rw [show Kw.ix p = Kw.names.findIdx (· == p) from rfl, List.getElem?_eq_getElem h1, h3]
    · intro j y hj hy e
      obtain ⟨hj', rfl⟩ := List.getElem?_eq_some_iff.1 hy
      have := List.not_of_lt_findIdx (p := (· == p)) (xs := Kw.names) hj
      simp [e] at this
  · have h17 : Kw.ix p = 17 := by have := Kw.ix_le p; omega
    refine .inr ⟨h17, idx_miss fun j y hj hy e => ?_⟩
    obtain ⟨hj', rfl⟩ := List.getElem?_eq_some_iff.1 hy
    have h2 : Kw.names.findIdx (· == p) < Kw.names.length := List.findIdx_lt_length_of_exists ⟨_, List.getElem_mem hj', by simp [e]⟩
    exact h h2
theorem collect_stepK {g k R : Nat} {s : Bs} (h : Ct.meas s true ≤ g ∧ Kw.collectF g k s true = R ∧ k < 131072) :
    0 < g ∧ Ct.meas (Wd.cut s [43]).2.1 (Wd.cut s [43]).2.2 ≤ g - 1 ∧ Kw.collectF (g - 1) (Kw.addW k (Wd.cut s [43]).1) (Wd.cut s [43]).2.1 (Wd.cut s [43]).2.2 = R ∧ Kw.addW k (Wd.cut s [43]).1 < 131072 := by
  obtain ⟨h1, h2, h3⟩ := h
  have h4 := Ct.meas_cut (s := s) (c := [43]) (by simp)
  cases g with
  | zero => omega
  | succ g =>
    refine ⟨by omega, by simp; omega, ?_, Kw.addW_lt _ h3⟩
    rw [← h2, Kw.collectF_go]
    rfl
set_option maxHeartbeats 1000000 in
set_option maxRecDepth 100000 in
theorem keyCollect (s : ByteArray) (w : World) (hs : s.size ≤ 140737488355328) :
    Calls Tryz.prog 176 #[.string s] w fun e w' => e = .returned (.int .i64 (Kw.collectL s.data.toList : Nat)) ∧ Below w.heap.size w w' := by
  obtain ⟨R, hR⟩ : ∃ R, R = Kw.collectL s.data.toList := ⟨_, rfl⟩
  rw [← hR]
  have HR0 : Hid (Kw.collectF (s.size + 1) 0 s.data.toList true = R) := Lib.hid (by rw [hR, ← bytes_lenK s]; rfl)
  have HK := Lib.hid (keyFrom 0 w)
  rw [show Kw.fromI 0 = Kw.names from rfl] at HK
  clear hR
  go_enter Tryz.func176, Tryz.ntmps176
  go_wp2_with fail
  refine HK.out.mono ?_
  rintro e wn ⟨vn, rfl, hnames, hbn⟩
  have BN := Lib.hid hbn
  have SN := Lib.hid hnames.strs
  clear hnames hbn HK
  go_wp2_with fail
  go_loopg [0, 4, 6] (s.size + 1) (fun g sv kv mv wr => ∃ (k : Nat) (sx : ByteArray) (more : Bool), sv = .string sx ∧ kv = .int .i64 (k : Int) ∧ mv = .bool more ∧ sx.size ≤ 140737488355328 ∧ Hid (Ct.meas sx.data.toList more ≤ g ∧ Kw.collectF g k sx.data.toList more = R ∧ k < 131072) ∧ Below wn.heap.size wn wr)
  case atStart => exact ⟨0, s, true, rfl, rfl, rfl, hs, Lib.hid ⟨by unfold Ct.meas; rw [bytes_lenK]; simp, HR0.out, by decide⟩, Below.refl _ _⟩
  case round =>
    obtain ⟨k, sx, more, rfl, rfl, rfl, hsx, HKR, hb⟩ := hrel
    have HB := Lib.hid hb
    clear hb
    cases more with
    | true =>
      obtain ⟨hg0, hstep⟩ := collect_stepK HKR.out
      have HST := Lib.hid hstep
      obtain ⟨p, r, hp, hr, hv⟩ := cut_valsK sx.data.toList [43]
      have hrl : r.size ≤ 140737488355328 := by
        have h1 := bytes_lenK r
        have h2 := cut_lenK sx.data.toList [43]
        have h3 := bytes_lenK sx
        rw [hr] at h1
        omega
      have HCUT := Lib.hid (wordCutFar sx ⟨#[43]⟩ wr hsx (by show 1 ≤ _; omega))
      unfold CutRes at HCUT
      rw [show (⟨#[43]⟩ : ByteArray).data.toList = [43] from rfl, hv] at HCUT
      rw [← hp, ← hr] at HST
      generalize (Wd.cut sx.data.toList [43]).2.2 = m at *
      clear hp hr hv hstep
      go_wp2_with fail
      refine HCUT.out.mono ?_
      rintro e w2 ⟨rfl, hb2⟩
      have HB2 := Lib.hid (HB.out.trans (hb2.mono HB.out.size))
      have HI := Lib.hid (wordIndex vn Kw.names p w2 (SN.out.below HB2.out (Nat.le_refl _)))
      clear hb2
      have hk64 : k < 2 ^ 63 := by have := HKR.out.2.2; omega
      rcases key_idx p.data.toList with ⟨j, hj, hix, hid⟩ | ⟨hix, hid⟩
      · have HA : Hid (Kw.addW k p.data.toList = k ||| 2 ^ j) := Lib.hid (Kw.addW_hit hj hix)
        have HOR : Hid (bits .or .i64 (k : Int) (wrap64 ((2 : Int) ^ j)) = ((k ||| 2 ^ j : Nat) : Int)) := Lib.hid (Bt.or_pow k j hk64 (by omega))
        rw [hid] at HI
        clear hix hid hk64 HCUT HB
        go_wp2_with fail
        refine HI.out.mono ?_
        rintro e w3 ⟨rfl, rfl⟩
        go_wp2_with fail
        obtain ⟨g1, hg1⟩ : ∃ g1, g1 = gk - 1 := ⟨_, rfl⟩
        rw [← hg1] at HST
        have hgl : g1 < gk := by omega
        go_roundg g1
        case rel => exact ⟨k ||| 2 ^ j, r, m, rfl, by rw [HOR.out], rfl, hrl, by rw [HA.out] at HST; exact HST, HB2.out⟩
        case measure => omega
      · have HA : Hid (Kw.addW k p.data.toList = k) := Lib.hid (Kw.addW_none hix)
        rw [hid] at HI
        clear hix hid hk64 HCUT HB
        go_wp2_with fail
        refine HI.out.mono ?_
        rintro e w3 ⟨rfl, rfl⟩
        go_wp2_with fail
        obtain ⟨g1, hg1⟩ : ∃ g1, g1 = gk - 1 := ⟨_, rfl⟩
        rw [← hg1] at HST
        have hgl : g1 < gk := by omega
        go_roundg g1
        case rel => exact ⟨k, r, m, rfl, rfl, rfl, hrl, by rw [HA.out] at HST; exact HST, HB2.out⟩
        case measure => omega
    | false =>
      have HE : Hid (k = R) := Lib.hid (by have h1 := HKR.out.2.1; rwa [Kw.collectF_stop] at h1)
      go_wp2_with fail
      go_ret
      exact ⟨by rw [← HE.out]; rfl, BN.out.trans (HB.out.mono BN.out.size)⟩
set_option maxHeartbeats 1000000 in
set_option maxRecDepth 100000 in
theorem keyParse (s : ByteArray) (w : World) (hs : s.size ≤ 140737488355328) :
    Calls Tryz.prog 144 #[.string s] w fun e w' => e = .returned (.tuple #[.int .i64 (Kw.parseI s.data.toList), .int .i64 (Kw.parseE s.data.toList)]) ∧ Below w.heap.size w w' := by
  have HC := Lib.hid (keyCollect s w hs)
  have hl := Kw.collectL_lt s.data.toList
  have HTN := Lib.hid (Kw.textI_nat (m := Kw.collectL s.data.toList) (by omega))
  have HY : Hid ((Kw.textN (Kw.collectL s.data.toList) = s.data.toList ∧ Kw.parseI s.data.toList = (Kw.collectL s.data.toList : Nat) ∧ Kw.parseE s.data.toList = 0) ∨ (Kw.textN (Kw.collectL s.data.toList) ≠ s.data.toList ∧ Kw.parseI s.data.toList = 0 ∧ Kw.parseE s.data.toList = 3)) := Lib.hid (by
    by_cases h : Kw.textN (Kw.collectL s.data.toList) = s.data.toList
    · exact .inl ⟨h, Kw.parse_yes h⟩
    · exact .inr ⟨h, Kw.parse_no h⟩)
  clear hl
  generalize Kw.collectL s.data.toList = k at *
  obtain ⟨tx, htx, ex⟩ := exists_bytes (Kw.textI (k : Int))
  have HT : Hid (∀ w, Calls Tryz.prog 141 #[.int .i64 (k : Int)] w fun e w' => e = .returned (.string tx) ∧ Below w.heap.size w w') := Lib.hid (fun w => by rw [← ex]; exact keyText _ _)
  rcases HY.out with ⟨ht, hi, he⟩ | ⟨ht, hi, he⟩
  · have h1 : (tx.toList == s.toList) = true := bytes_eq (by rw [htx, HTN.out, ht])
    have HI := Lib.hid hi
    have HE := Lib.hid he
    clear ht hi he htx ex HY
    go_enter Tryz.func144, Tryz.ntmps144
    go_wp2_with fail
    refine HC.out.mono ?_
    rintro e w1 ⟨rfl, hb⟩
    have B := Lib.hid hb
    clear hb
    go_wp2_with fail
    refine (HT.out _).mono ?_
    rintro e w2 ⟨rfl, hb2⟩
    have B2 := Lib.hid (B.out.trans (hb2.mono B.out.size))
    clear hb2
    go_wp2_with fail
    go_ret2
    exact ⟨by rw [HI.out, HE.out]; rfl, B2.out⟩
  · have h1 : (tx.toList == s.toList) = false := bytes_ne (by rw [htx, HTN.out]; exact ht)
    have HI := Lib.hid hi
    have HE := Lib.hid he
    clear ht hi he htx ex HY
    go_enter Tryz.func144, Tryz.ntmps144
    go_wp2_with fail
    refine HC.out.mono ?_
    rintro e w1 ⟨rfl, hb⟩
    have B := Lib.hid hb
    clear hb
    go_wp2_with fail
    refine (HT.out _).mono ?_
    rintro e w2 ⟨rfl, hb2⟩
    have B2 := Lib.hid (B.out.trans (hb2.mono B.out.size))
    clear hb2
    go_wp2_with fail
    go_ret2
    exact ⟨by rw [HI.out, HE.out]; rfl, B2.out⟩
end Go.Proofs.YtbcgkeclmioeiaaGreatDoor
namespace Go.Proofs.YtbcgkeclmioeiaaGreatDoor
open Go.RowKit
open Wd (Bs)

set_option maxRecDepth 100000 in
theorem numAdd (a b : Int) (w : World) :
    Calls Tryz.prog 56 #[.int .i64 a, .int .i64 b] w fun e w' => e = .returned (.int .i64 (Num.clampI (Num.clampI a + Num.clampI b))) ∧ w = w' := by
  obtain ⟨a0, a1⟩ := Num.clampI_bd a
  obtain ⟨b0, b1⟩ := Num.clampI_bd b
  go_enter Tryz.func56, Tryz.ntmps56
  go_wp2_with (go_at_call 55; refine (numClamp _ _).mono ?_; rintro e w' ⟨rfl, rfl⟩)
  go_ret
  exact ⟨rfl, rfl⟩
end Go.Proofs.YtbcgkeclmioeiaaGreatDoor
namespace Go.Proofs.YtbcgkeclmioeiaaGreatDoor
open Go.RowKit
open Wd (Bs)


def sameB (a b : Ln.Line) : Bool := decide (a = b)
theorem same_super {a1 a2 t1 t2 : Int} {l1 l2 : List Bs} (h : a1 ≠ a2) : sameB ⟨a1, t1, l1⟩ ⟨a2, t2, l2⟩ = false := by unfold sameB; simp [h]
theorem same_types {a1 a2 t1 t2 : Int} {l1 l2 : List Bs} (h : t1 ≠ t2) : sameB ⟨a1, t1, l1⟩ ⟨a2, t2, l2⟩ = false := by unfold sameB; simp [h]
theorem same_subs {a t : Int} {l1 l2 : List Bs} : sameB ⟨a, t, l1⟩ ⟨a, t, l2⟩ = decide (l1 = l2) := by unfold sameB; simp
theorem map_ba_inj {l1 l2 : List Bs} : l1.map ba = l2.map ba ↔ l1 = l2 := by
  constructor
  · intro h
    have h2 : (l1.map ba).map (·.data.toList) = (l2.map ba).map (·.data.toList) := by rw [h]
    rwa [ba_lists, ba_lists] at h2
  · rintro rfl; rfl
theorem lists_ne {a b : List Bs} {k : Nat} {x y : Bs} (hx : a[k]? = some x) (hy : b[k]? = some y) (h : x ≠ y) : decide (a = b) = false := by
  simp only [decide_eq_false_iff_not]
  rintro rfl
  rw [hx] at hy
  injection hy with hy
  exact h hy
theorem lists_eq {a b : List Bs} (hl : a.length = b.length) (h : ∀ j, j < a.length → a[j]? = b[j]?) : decide (a = b) = true := by
  simp only [decide_eq_true_eq]
  refine List.ext_getElem? fun i => ?_
  by_cases hi : i < a.length
  · exact h i hi
  · rw [List.getElem?_eq_none (by omega), List.getElem?_eq_none (by omega)]
def SameTo (a b : List Bs) (k : Nat) : Prop := ∀ j, j < k → a[j]? = b[j]?
theorem SameTo.next {a b : List Bs} {k : Nat} {x : Bs} (h : SameTo a b k) (hx : a[k]? = some x) (hy : b[k]? = some x) : SameTo a b (k + 1) := by
  intro j hj
  by_cases e : j = k
  · subst e; rw [hx, hy]
  · exact h j (by omega)
set_option maxHeartbeats 1000000 in
set_option maxRecDepth 100000 in
theorem refSame10 (a1 t1 a2 t2 : Int) (v1 v2 : Value) (l1 l2 : List Bs) (w : World) (s1 : Strs w v1 l1) (s2 : Strs w v2 l2) :
    Calls Tryz.prog 51 #[.agg #[.int .i64 a1, .int .i64 t1, v1], .agg #[.int .i64 a2, .int .i64 t2, v2]] w fun e w' => e = .returned (.bool (sameB ⟨a1, t1, l1⟩ ⟨a2, t2, l2⟩)) ∧ Below w.heap.size w w' := by
  obtain ⟨wB, hwB⟩ : ∃ wB, wB = (w.alloc (.cells #[.int .i64 a1, .int .i64 t1, v1] 53)).alloc (.cells #[.int .i64 a2, .int .i64 t2, v2] 53) := ⟨_, rfl⟩
  have hb : Below w.heap.size w wB := by rw [hwB]; exact ((Below.refl _ _).alloc (Nat.le_refl _) _).alloc (by simp) _
  have hszB : wB.heap.size = w.heap.size + 1 + 1 := by rw [hwB]; simp
  have H1 := Lib.hid (s1.below hb (Nat.le_refl _))
  have H2 := Lib.hid (s2.below hb (Nat.le_refl _))
  have HB := Lib.hid hb
  obtain ⟨ad1, c1, rfl, n1, m1, _⟩ := s1
  obtain ⟨ad2, c2, rfl, n2, m2, _⟩ := s2
  unfold maxLen at m1 m2
  have q1 : wB.cell? ⟨w.heap.size, 2, none⟩ = some (.slice ad1 l1.length c1) := by rw [hwB]; simp
  have q2 : wB.cell? ⟨w.heap.size + 1, 2, none⟩ = some (.slice ad2 l2.length c2) := by rw [hwB]; simp
  clear hb
  by_cases ha : a1 = a2
  · subst ha
    by_cases ht : t1 = t2
    · subst ht
      have HR := Lib.hid (same_subs (a := a1) (t := t1) (l1 := l1) (l2 := l2))
      by_cases hl : l1.length = l2.length
      · have HL := Lib.hid hl
        have hl' : ((l1.length : Int) != (l2.length : Int)) = false := by rw [hl]; simp
        have hl2 : (l1.length : Int) ≤ l2.length := by omega
        clear hl
        go_enter Tryz.func51, Tryz.ntmps51
        go_wp2_with fail
        rw [← hwB]
        clear hwB
        go_loopw [5] (fun i wr => ∃ k : Nat, k ≤ l1.length ∧ i = .int .i64 (k : Int) ∧ SameTo l1 l2 k ∧ Below wB.heap.size wB wr) (fun i _ => l1.length - (intOf i).toNat)
        case atStart => exact ⟨0, by omega, rfl, fun j hj => by omega, Below.refl _ _⟩
        case round =>
          obtain ⟨k, hk, rfl, hsame, hbr⟩ := hrel
          have HS := Lib.hid hsame
          have g1 : wr.cell? ⟨w.heap.size, 2, none⟩ = some (.slice ad1 l1.length c1) := (hbr.cell (p := ⟨w.heap.size, 2, none⟩) (by show w.heap.size < _; omega)).trans q1
          have g2 : wr.cell? ⟨w.heap.size + 1, 2, none⟩ = some (.slice ad2 l2.length c2) := (hbr.cell (p := ⟨w.heap.size + 1, 2, none⟩) (by show w.heap.size + 1 < _; omega)).trans q2
          clear hsame
          by_cases hlt : k < l1.length
          · obtain ⟨x, hx⟩ : ∃ x, l1[k]? = some x := ⟨l1[k], by simp [hlt]⟩
            obtain ⟨y, hy⟩ : ∃ y, l2[k]? = some y := ⟨l2[k]'(by omega), by simp [show k < l2.length by omega]⟩
            obtain ⟨sx, hsx, ex⟩ := exists_bytes x
            obtain ⟨sy, hsy, ey⟩ := exists_bytes y
            obtain ⟨b1, o1, rfl, hl1, d1⟩ := H1.out.at hx
            obtain ⟨b2, o2, rfl, hl3, d2⟩ := H2.out.at hy
            have d1' : wr.cell? ⟨b1, o1 + k, none⟩ = some (.string sx) := (hbr.cell (p := ⟨b1, o1 + k, none⟩) hl1).trans (d1.trans (congrArg some ex))
            have d2' : wr.cell? ⟨b2, o2 + k, none⟩ = some (.string sy) := (hbr.cell (p := ⟨b2, o2 + k, none⟩) hl3).trans (d2.trans (congrArg some ey))
            have i0 : (0 : Int) ≤ (k : Int) := by omega
            have i3 : (k : Int) < (l1.length : Int) := by omega
            have i4 : (k : Int) < (l2.length : Int) := by omega
            have HX := Lib.hid hx
            have HY := Lib.hid hy
            have SX := Lib.hid hsx
            have SY := Lib.hid hsy
            clear ex ey hx hy hsx hsy d1 d2
            by_cases hxy : x = y
            · have ht : (sx.toList == sy.toList) = true := bytes_eq (by rw [SX.out, SY.out, hxy])
              have HXY := Lib.hid hxy
              clear hxy
              go_wp2_with fail
              go_quiet (fail)
              go_wp2_with fail
              go_roundw
              case rel => exact ⟨k + 1, by omega, by go_num, HS.out.next HX.out (by rw [HXY.out]; exact HY.out), below_drewN hbr _⟩
              case measure => simp [intOf]; omega
            · have ht : (sx.toList == sy.toList) = false := bytes_ne (by rw [SX.out, SY.out]; exact hxy)
              have HF := Lib.hid (lists_ne HX.out HY.out hxy)
              clear hxy
              go_wp2_with fail
              go_quiet (fail)
              go_wp2_with fail
              go_ret
              exact ⟨ret_bool (by rw [HR.out, HF.out]), HB.out.trans ((below_drewN hbr _).mono HB.out.size)⟩
          · obtain rfl : k = l1.length := by omega
            have HF := Lib.hid (lists_eq HL.out HS.out)
            go_wp2_with fail
            go_ret
            exact ⟨ret_bool (by rw [HR.out, HF.out]), HB.out.trans (hbr.mono HB.out.size)⟩
      · have HF : Hid (decide (l1 = l2) = false) := Lib.hid (by simp; rintro rfl; exact hl rfl)
        have hl' : ((l1.length : Int) != (l2.length : Int)) = true := by simp; omega
        clear hl
        go_enter Tryz.func51, Tryz.ntmps51
        go_wp2_with fail
        go_ret
        exact ⟨ret_bool (by rw [HR.out, HF.out]), by rw [← hwB]; exact HB.out⟩
    · have HR := Lib.hid (same_types (a1 := a1) (a2 := a1) (l1 := l1) (l2 := l2) ht)
      have e1 : (t1 != t2) = true := by simpa using ht
      clear ht
      go_enter Tryz.func51, Tryz.ntmps51
      go_wp2_with fail
      go_ret
      exact ⟨ret_bool HR.out.symm, by rw [← hwB]; exact HB.out⟩
  · have HR := Lib.hid (same_super (t1 := t1) (t2 := t2) (l1 := l1) (l2 := l2) ha)
    have e1 : (a1 != a2) = true := by simpa using ha
    clear ha
    go_enter Tryz.func51, Tryz.ntmps51
    go_wp2_with fail
    go_ret
    exact ⟨ret_bool HR.out.symm, by rw [← hwB]; exact HB.out⟩
end Go.Proofs.YtbcgkeclmioeiaaGreatDoor
