/-
 CONTRACT OF LAYER 15's REFERENCE (mod): Apply, by a walk. By an AI agent.
-/
import Derived.Test.YtbcgkeclmioeiaaGreatDoorSwGF
import Derived.Test.YtbcgkeclmioeiaaGreatDoorSwGC
import Derived.Test.YtbcgkeclmioeiaaGreatDoorModIsW
import Derived.Deep.CutBlock
import Derived.Deep.DeepCutAuto
import Derived.Deep.Cut
namespace Go.Proofs.YtbcgkeclmioeiaaGreatDoor
open Go.RowKit
open Wd (Bs)

section
variable {P : Program} {ops : Array Oper} {rest : List Oper} {a a' : Act} {Q : Exit → Act → World → Prop} {w0 w : World} {l : List Bk}
/-- a part of a struct stored whole: the blocks of other element types stay -/
theorem wSk {d : Option Tmp} {ty T T' : TypeId} {ps : String} {af : Array Edge} {x y : Operand} (i : Nat) {p q : Nat} {cs vs cs' : Array Value} (M : Mm w0 w l) (e : laidAt cs q vs.toList = cs') (hi : (P.info? T).map (·.size) = some vs.size) (h1 : vs.all (·.oneCell') = true) (ho : q + vs.size ≤ cs.size)
  (h : ∀ w', KeepT T' w w' → Mm w0 w' (l.set i (p, cs', T')) → wpList P ops Q rest a' w') (hl : l[i]? = some (p, cs, T') := by with_unfolding_all rfl) (hx : a.eval x = .pointer (some ⟨p, q, none⟩) := by with_unfolding_all rfl) (hy : a.eval y = .agg vs := by with_unfolding_all rfl) (ha : a.put d undef = a' := by (simp only [Act.put]; try rfl)) : wpList P ops Q ({ dst := d, op := .store T x y, type := ty, pos := ps, after := af, guard := none } :: rest) a w := by
 subst ha
 exact wpList_storeM x y hx hy (M.at i hl) ho hi h1 (h _ (KeepT.stored (M.at i hl) q vs.toList) (M.store i hl q vs.toList e))
theorem wAs {o : Oper} (cs : Array Value) {T : TypeId} (M : Mm w0 w l)
  (h : ∀ p w', Mm w0 w' (l ++ [(p, cs, T)]) → ∃ a', a.put o.dst (.slice (some ⟨p, 0, none⟩) 1 1) = a' ∧ wpList P ops Q rest a' w') (hw : Region.wanted o (yielded ops a.tmps) = true := by with_unfolding_all rfl) (hr : (execOp a.eval o).run P w = .ok (.value (.slice (some ⟨w.heap.size, 0, none⟩) 1 1)) (w.alloc (.cells cs T)) := by (go_simp; try with_unfolding_all rfl)) : wpList P ops Q (o :: rest) a w := by
 obtain ⟨a', rfl, hq⟩ := h _ _ (M.alloc cs T)
 exact wpList_runWV _ rfl hw hr hq
end

theorem modT_coR {x : TrD} {m : Mo.Md} {you n : Int} (h : Part 50 7 x.co) : Part 50 7 (modT x m you n).co := by
 have e : (modT x m you n).co = x.co := by
  simp only [modT, apply_ite TrD.co, ite_self]
 rw [e]
 exact h

set_option maxHeartbeats 16000000 in
set_option maxRecDepth 100000 in
theorem rApplyNo (x : TrD) (sv av : Value) (ok : TrOk x) (k n m : Int) (s : ByteArray) (f : Fil.Flt) (fs : ByteArray) (you cnt : Int) (w : World) (hs : Strs w sv x.subs) (ha : AbRow none w av x.abs)
  (HI : Hid (∀ W, Below w.heap.size w W → Calls Tryz.prog 50 #[.agg (mO k n m s (cellsF f fs))] W fun e w' => e = .returned (.bool false) ∧ Below W.heap.size W w')) :
  Calls Tryz.prog 31 #[.agg (trV x sv av), .agg (mO k n m s (cellsF f fs)), .int .i64 you, .int .i64 cnt] w fun e w' => (∃ s2 a2, e = .returned (.agg (trV x s2 a2)) ∧ Strs w' s2 x.subs ∧ AbRow none w' a2 x.abs) ∧ Below w.heap.size w w' := by
 have o1 : sv.oneCell' = true := by
  obtain ⟨a, c, e⟩ := hs.slice
  rw [e]
  rfl
 have o2 : av.oneCell' = true := ha.oneCell
 have HS := Lib.hid hs
 have HA := Lib.hid ha
 clear hs ha
 unfold trV

 have M := Mm.nil w
 go_enter Tryz.func31, Tryz.ntmps31
 go_upto_region 0 with fail
 refine wp_region_lit ?_
 with_reducible refine wA (trC x.nm x.co x.c x.a x.b sv x.p x.t x.k av x.u) M ?_; clear M; intro pT u M; refine ⟨_, by (simp only [pu, sB, s0, sS]; rfl), ?_⟩
 with_reducible refine wA (mO k n m s (cellsF f fs)) M ?_; clear M; intro pM u M; refine ⟨_, by (simp only [pu, sB, s0, sS]; rfl), ?_⟩
 (with_reducible refine wA zTr.cells (T := 56) M ?_ (hr := ?_)); rotate_left; (· exact run_allocOp rfl infoTr zeroTr); clear M; intro pR u M; refine ⟨_, by (simp only [pu, sB, s0, sS]; rfl), ?_⟩
 go_upto_region 1 with fail
 refine wp_region_lit ?_
 with_reducible refine wL 1 M whole_part Tryz.underlying39 (infoTMo20 (mO_sz (cellsF_size f fs))) ?_
 with_reducible refine wC M (HI.out _ M.b) ?_; clear M; intro u M
 with_reducible refine rA ?_
 go_upto_region 2 with fail
 refine wp_region_lit ?_
 with_reducible refine wL 0 M whole_part Tryz.underlying56 (szTr (trC_sz ok.co)) ?_
 with_reducible refine wS 2 M (laid_all (trC_sz ok.co) zTr_cells) (szTr (trC_sz ok.co)) (trC_one ok.co o1 o2) (fit_2 zTr_cells (trC_sz ok.co) (by decide)) ?_; clear M; intro u M
 have hL := M.read 2 Tryz.underlying56 (szTr (trC_sz ok.co)) rfl rfl
 go_wp2_with fail
 exact bodyPost_ret (v := .agg (trC x.nm x.co x.c x.a x.b sv x.p x.t x.k av x.u)) (results_cell Tryz.results31 (by rfl) hL) rfl ⟨⟨_, _, rfl, (HS.out.below M.b (Nat.le_refl _)), (HA.out.below M.b (Nat.le_refl _))⟩, M.b⟩

set_option maxHeartbeats 16000000 in
set_option maxRecDepth 100000 in
theorem rApplyYes (x : TrD) (sv av : Value) (ok : TrOk x) (k n m : Int) (s : ByteArray) (f : Fil.Flt) (fs : ByteArray) (you cnt : Int) (w : World) (hs : Strs w sv x.subs) (ha : AbRow none w av x.abs)
  (HI : Hid (∀ W, Below w.heap.size w W → Calls Tryz.prog 50 #[.agg (mO k n m s (cellsF f fs))] W fun e w' => e = .returned (.bool true) ∧ Below W.heap.size W w')) (hk : Mo.isKind k = true) (HC : Hid (∀ W, Calls Tryz.prog 58 #[.int .i64 cnt] W fun e w' => e = .returned (.int .i64 (Num.clampI cnt)) ∧ Below W.heap.size W w')) (HA1 : Hid (∀ W, Calls Tryz.prog 59 #[.int .i64 x.p, .int .i64 n] W fun e w' => e = .returned (.int .i64 (Num.clampI (Num.clampI x.p + Num.clampI n))) ∧ Below W.heap.size W w')) (HA2 : Hid (∀ W, Calls Tryz.prog 59 #[.int .i64 x.t, .int .i64 m] W fun e w' => e = .returned (.int .i64 (Num.clampI (Num.clampI x.t + Num.clampI m))) ∧ Below W.heap.size W w')) (HLA : Hid (∀ W, Below w.heap.size w W → Calls Tryz.prog 57 #[.agg (liC x.a x.b sv), .string s] W fun e w' => (∃ v2, e = .returned (.agg (liC x.a x.b v2)) ∧ OwnStrs W.heap.size w' v2 (addL ⟨x.a, x.b, x.subs⟩ s.data.toList).subs) ∧ Below W.heap.size W w')) :
  Calls Tryz.prog 31 #[.agg (trV x sv av), .agg (mO k n m s (cellsF f fs)), .int .i64 you, .int .i64 cnt] w fun e w' => (∃ s2 a2, e = .returned (.agg (trV (modT x ⟨k, n, m, s.data.toList, f⟩ you cnt) s2 a2)) ∧ Strs w' s2 (modT x ⟨k, n, m, s.data.toList, f⟩ you cnt).subs ∧ AbRow none w' a2 (modT x ⟨k, n, m, s.data.toList, f⟩ you cnt).abs) ∧ Below w.heap.size w w' := by
 have o1 : sv.oneCell' = true := by
  obtain ⟨a, c, e⟩ := hs.slice
  rw [e]
  rfl
 have o2 : av.oneCell' = true := ha.oneCell
 have HS := Lib.hid hs
 have HA := Lib.hid ha
 clear hs ha
 unfold trV

 have M := Mm.nil w
 go_enter Tryz.func31, Tryz.ntmps31
 go_upto_region 0 with fail
 refine wp_region_lit ?_
 with_reducible refine wA (trC x.nm x.co x.c x.a x.b sv x.p x.t x.k av x.u) M ?_; clear M; intro pT u M; refine ⟨_, by (simp only [pu, sB, s0, sS]; rfl), ?_⟩
 with_reducible refine wA (mO k n m s (cellsF f fs)) M ?_; clear M; intro pM u M; refine ⟨_, by (simp only [pu, sB, s0, sS]; rfl), ?_⟩
 (with_reducible refine wA zTr.cells (T := 56) M ?_ (hr := ?_)); rotate_left; (· exact run_allocOp rfl infoTr zeroTr); clear M; intro pR u M; refine ⟨_, by (simp only [pu, sB, s0, sS]; rfl), ?_⟩
 go_upto_region 1 with fail
 refine wp_region_lit ?_
 with_reducible refine wL 1 M whole_part Tryz.underlying39 (infoTMo20 (mO_sz (cellsF_size f fs))) ?_
 with_reducible refine wC M (HI.out _ M.b) ?_; clear M; intro u M
 with_reducible refine rA ?_
 go_upto_region 3 with fail
 refine wp_region_lit ?_
 with_reducible refine rA ?_
 with_reducible refine wLv 1 M mO_0 Tryz.underlying3 ?_
 go_upto_block 0 with fail
 go_cut [] (fun wx => ∃ s2 a2, Hid (s2.oneCell' = true) ∧ Hid (a2.oneCell' = true) ∧ Hid (∀ W, Below w.heap.size w W → KeepT 56 wx W → Strs W s2 (modT x ⟨k, n, m, s.data.toList, f⟩ you cnt).subs) ∧ Hid (∀ W, Below w.heap.size w W → KeepT 56 wx W → AbRow none W a2 (modT x ⟨k, n, m, s.data.toList, f⟩ you cnt).abs) ∧ Mm w wx [(pT, trV (modT x ⟨k, n, m, s.data.toList, f⟩ you cnt) s2 a2, 56), (pM, (mO k n m s (cellsF f fs)), 39), (pR, zTr.cells, 56)])
 case first =>
  by_cases e1 : k = 1
  ·have ek : (k == 1) = true := by simpa using e1
   have hE := Lib.hid e1
   clear e1
   go_upto_region 4 with fail
   refine wp_region_lit ?_
   iterate 2 (with_reducible refine rA ?_)
   go_upto_region 5 with fail
   refine wp_region_lit ?_
   iterate 2 (with_reducible refine rA ?_)
   with_reducible refine wV 0 M (trC_p16 ok.co) (fit_1 (trC_sz ok.co) (by decide)) ?_; clear M; intro u M
   go_wp2_with fail
   go_meet
   exact ⟨_, _, Lib.hid o1, Lib.hid o2, Lib.hid (by rw [modT_1 (by exact hE.out)]; exact fun W hb _ => HS.out.below hb (Nat.le_refl _)), Lib.hid (by rw [modT_1 (by exact hE.out)]; exact fun W hb _ => HA.out.below hb (Nat.le_refl _)), by rw [modT_1 (by exact hE.out)]; exact M⟩
  have n1 : (k == 1) = false := by simpa using e1
  go_upto_region 4 with fail
  refine wp_region_lit ?_
  iterate 2 (with_reducible refine rA ?_)
  by_cases e2 : k = 2
  ·have ek : (k == 2) = true := by simpa using e2
   have hE := Lib.hid e2
   clear e2
   go_upto_region 6 with fail
   refine wp_region_lit ?_
   iterate 2 (with_reducible refine rA ?_)
   go_upto_region 7 with fail
   refine wp_region_lit ?_
   with_reducible refine rA ?_
   with_reducible refine wLv 1 M mO_1 Tryz.underlying3 ?_
   iterate 2 (with_reducible refine rA ?_)
   with_reducible refine wV 0 M (trC_p10 ok.co) (fit_1 (trC_sz ok.co) (by decide)) ?_; clear M; intro u M
   go_wp2_with fail
   go_meet
   exact ⟨_, _, Lib.hid o1, Lib.hid o2, Lib.hid (by rw [modT_2 (by exact hE.out)]; exact fun W hb _ => HS.out.below hb (Nat.le_refl _)), Lib.hid (by rw [modT_2 (by exact hE.out)]; exact fun W hb _ => HA.out.below hb (Nat.le_refl _)), by rw [modT_2 (by exact hE.out)]; exact M⟩
  have n2 : (k == 2) = false := by simpa using e2
  go_upto_region 6 with fail
  refine wp_region_lit ?_
  iterate 2 (with_reducible refine rA ?_)
  by_cases e3 : k = 3
  ·have ek : (k == 3) = true := by simpa using e3
   have hE := Lib.hid e3
   clear e3
   go_upto_region 8 with fail
   refine wp_region_lit ?_
   iterate 2 (with_reducible refine rA ?_)
   go_upto_region 9 with fail
   refine wp_region_lit ?_
   iterate 2 (with_reducible refine rA ?_)
   with_reducible refine wLv 0 M (show ((trC x.nm x.co x.c x.a x.b sv x.p x.t x.k av x.u))[10]? = some (.int .i64 x.b) from trC_10 ok.co) Tryz.underlying3 ?_
   with_reducible refine rA ?_
   with_reducible refine wLv 1 M mO_1 Tryz.underlying3 ?_
   (with_reducible refine rB (.int .i64 (bits .or .i64 x.b n)) ?_ ?_); (· go_simp; (try with_reducible rfl))
   iterate 2 (with_reducible refine rA ?_)
   with_reducible refine wV 0 M (trC_p10 ok.co) (fit_1 (trC_sz ok.co) (by decide)) ?_; clear M; intro u M
   go_wp2_with fail
   go_meet
   exact ⟨_, _, Lib.hid o1, Lib.hid o2, Lib.hid (by rw [modT_3 (by exact hE.out)]; exact fun W hb _ => HS.out.below hb (Nat.le_refl _)), Lib.hid (by rw [modT_3 (by exact hE.out)]; exact fun W hb _ => HA.out.below hb (Nat.le_refl _)), by rw [modT_3 (by exact hE.out)]; exact M⟩
  have n3 : (k == 3) = false := by simpa using e3
  go_upto_region 8 with fail
  refine wp_region_lit ?_
  iterate 2 (with_reducible refine rA ?_)
  by_cases e4 : k = 4
  ·have ek : (k == 4) = true := by simpa using e4
   have hE := Lib.hid e4
   clear e4
   go_upto_region 10 with fail
   refine wp_region_lit ?_
   iterate 2 (with_reducible refine rA ?_)
   go_upto_region 11 with fail
   refine wp_region_lit ?_
   with_reducible refine rA ?_
   with_reducible refine wLv 1 M mO_3 Tryz.underlying9 ?_
   with_reducible refine wAs #[.string s] M ?_; clear M; intro pN u M; refine ⟨_, by (simp only [pu, sB, s0, sS]; rfl), ?_⟩
   iterate 2 (with_reducible refine rA ?_)
   with_reducible refine wV 0 M (trC_p11 ok.co (x := .slice (some ⟨pN, 0, none⟩) 1 1)) (fit_1 (trC_sz ok.co) (by decide)) ?_; clear M; intro u M
   go_wp2_with fail
   go_meet
   exact ⟨_, _, Lib.hid rfl, Lib.hid o2, Lib.hid (by rw [modT_4 (by exact hE.out)]; exact fun W _ hk => ((own_one (M.at 3 rfl) (Nat.zero_le _)).keep hk (by decide)).strs), Lib.hid (by rw [modT_4 (by exact hE.out)]; exact fun W hb _ => HA.out.below hb (Nat.le_refl _)), by rw [modT_4 (by exact hE.out)]; exact M.take 3⟩
  have n4 : (k == 4) = false := by simpa using e4
  go_upto_region 10 with fail
  refine wp_region_lit ?_
  iterate 2 (with_reducible refine rA ?_)
  by_cases e5 : k = 5
  ·have ek : (k == 5) = true := by simpa using e5
   have hE := Lib.hid e5
   clear e5
   go_upto_region 12 with fail
   refine wp_region_lit ?_
   iterate 2 (with_reducible refine rA ?_)
   go_upto_region 13 with fail
   refine wp_region_lit ?_
   with_reducible refine rA ?_
   with_reducible refine wL 0 M (trC_li ok.co) Tryz.underlying53 (szL liC_sz) ?_
   with_reducible refine rA ?_
   with_reducible refine wLv 1 M mO_3 Tryz.underlying9 ?_
   with_reducible refine wCx M (HLA.out _ M.b) ?_; clear M; rintro e u ⟨v2, rfl, hO⟩ hb M
   have S2 := Lib.hid hO
   have o3 : v2.oneCell' = true := by obtain ⟨a, c, e⟩ := hO.strs.slice; rw [e]; rfl
   clear hO
   refine ⟨_, _, rfl, by (simp only [pu, sB, s0, sS]; rfl), ?_⟩
   clear hb
   with_reducible refine rA ?_
   with_reducible refine wSk 0 M (trC_pli ok.co) (szL liC_sz) (liC_one o3) (fit_2 (trC_sz ok.co) liC_sz (by decide)) ?_; clear M; intro u hk M
   replace S2 := Lib.hid (S2.out.keep hk (by decide))
   clear hk
   go_wp2_with fail
   go_meet
   exact ⟨_, _, Lib.hid o3, Lib.hid o2, Lib.hid (by rw [modT_5 (by exact hE.out)]; exact fun W _ hk => (S2.out.keep hk (by decide)).strs), Lib.hid (by rw [modT_5 (by exact hE.out)]; exact fun W hb _ => HA.out.below hb (Nat.le_refl _)), by rw [modT_5 (by exact hE.out)]; exact M⟩
  have n5 : (k == 5) = false := by simpa using e5
  go_upto_region 12 with fail
  refine wp_region_lit ?_
  iterate 2 (with_reducible refine rA ?_)
  by_cases e6 : k = 6
  ·have ek : (k == 6) = true := by simpa using e6
   have hE := Lib.hid e6
   clear e6
   go_upto_region 14 with fail
   refine wp_region_lit ?_
   iterate 2 (with_reducible refine rA ?_)
   go_upto_region 15 with fail
   refine wp_region_lit ?_
   with_reducible refine rA ?_
   with_reducible refine wLv 1 M mO_1 Tryz.underlying3 ?_
   with_reducible refine rA ?_
   with_reducible refine wV 0 M (trC_p8 ok.co) (fit_1 (trC_sz ok.co) (by decide)) ?_; clear M; intro u M
   go_wp2_with fail
   go_meet
   exact ⟨_, _, Lib.hid o1, Lib.hid o2, Lib.hid (by rw [modT_6 (by exact hE.out)]; exact fun W hb _ => HS.out.below hb (Nat.le_refl _)), Lib.hid (by rw [modT_6 (by exact hE.out)]; exact fun W hb _ => HA.out.below hb (Nat.le_refl _)), by rw [modT_6 (by exact hE.out)]; exact M⟩
  have n6 : (k == 6) = false := by simpa using e6
  go_upto_region 14 with fail
  refine wp_region_lit ?_
  iterate 2 (with_reducible refine rA ?_)
  by_cases e7 : k = 7
  ·have ek : (k == 7) = true := by simpa using e7
   have hE := Lib.hid e7
   clear e7
   go_upto_region 16 with fail
   refine wp_region_lit ?_
   iterate 2 (with_reducible refine rA ?_)
   go_upto_region 17 with fail
   refine wp_region_lit ?_
   with_reducible refine rA ?_
   with_reducible refine wLv 0 M (show ((trC x.nm x.co x.c x.a x.b sv x.p x.t x.k av x.u))[8]? = some (.int .i64 x.c) from trC_8 ok.co) Tryz.underlying3 ?_
   with_reducible refine rA ?_
   with_reducible refine wLv 1 M mO_1 Tryz.underlying3 ?_
   (with_reducible refine rB (.int .i64 (bits .or .i64 x.c n)) ?_ ?_); (· go_simp; (try with_reducible rfl))
   with_reducible refine rA ?_
   with_reducible refine wV 0 M (trC_p8 ok.co) (fit_1 (trC_sz ok.co) (by decide)) ?_; clear M; intro u M
   go_wp2_with fail
   go_meet
   exact ⟨_, _, Lib.hid o1, Lib.hid o2, Lib.hid (by rw [modT_7 (by exact hE.out)]; exact fun W hb _ => HS.out.below hb (Nat.le_refl _)), Lib.hid (by rw [modT_7 (by exact hE.out)]; exact fun W hb _ => HA.out.below hb (Nat.le_refl _)), by rw [modT_7 (by exact hE.out)]; exact M⟩
  have n7 : (k == 7) = false := by simpa using e7
  go_upto_region 16 with fail
  refine wp_region_lit ?_
  iterate 2 (with_reducible refine rA ?_)
  by_cases e8 : k = 8
  ·have ek : (k == 8) = true := by simpa using e8
   have hE := Lib.hid e8
   clear e8
   go_upto_region 18 with fail
   refine wp_region_lit ?_
   iterate 2 (with_reducible refine rA ?_)
   go_upto_region 19 with fail
   refine wp_region_lit ?_
   with_reducible refine rA ?_
   with_reducible refine wLv 0 M (show ((trC x.nm x.co x.c x.a x.b sv x.p x.t x.k av x.u))[14]? = some (.int .i64 x.k) from trC_14 ok.co) Tryz.underlying3 ?_
   with_reducible refine rA ?_
   with_reducible refine wLv 1 M mO_1 Tryz.underlying3 ?_
   (with_reducible refine rB (.int .i64 (bits .or .i64 x.k n)) ?_ ?_); (· go_simp; (try with_reducible rfl))
   with_reducible refine rA ?_
   with_reducible refine wV 0 M (trC_p14 ok.co) (fit_1 (trC_sz ok.co) (by decide)) ?_; clear M; intro u M
   go_wp2_with fail
   go_meet
   exact ⟨_, _, Lib.hid o1, Lib.hid o2, Lib.hid (by rw [modT_8 (by exact hE.out)]; exact fun W hb _ => HS.out.below hb (Nat.le_refl _)), Lib.hid (by rw [modT_8 (by exact hE.out)]; exact fun W hb _ => HA.out.below hb (Nat.le_refl _)), by rw [modT_8 (by exact hE.out)]; exact M⟩
  have n8 : (k == 8) = false := by simpa using e8
  go_upto_region 18 with fail
  refine wp_region_lit ?_
  iterate 2 (with_reducible refine rA ?_)
  by_cases e9 : k = 9
  ·have ek : (k == 9) = true := by simpa using e9
   have hE := Lib.hid e9
   clear e9
   go_upto_region 20 with fail
   refine wp_region_lit ?_
   iterate 2 (with_reducible refine rA ?_)
   go_upto_region 21 with fail
   refine wp_region_lit ?_
   with_reducible refine rA ?_
   with_reducible refine wLv 0 M (show ((trC x.nm x.co x.c x.a x.b sv x.p x.t x.k av x.u))[14]? = some (.int .i64 x.k) from trC_14 ok.co) Tryz.underlying3 ?_
   with_reducible refine rA ?_
   with_reducible refine wLv 1 M mO_1 Tryz.underlying3 ?_
   (with_reducible refine rB (.int .i64 (bits .andNot .i64 x.k n)) ?_ ?_); (· go_simp; (try with_reducible rfl))
   with_reducible refine rA ?_
   with_reducible refine wV 0 M (trC_p14 ok.co) (fit_1 (trC_sz ok.co) (by decide)) ?_; clear M; intro u M
   go_wp2_with fail
   go_meet
   exact ⟨_, _, Lib.hid o1, Lib.hid o2, Lib.hid (by rw [modT_9 (by exact hE.out)]; exact fun W hb _ => HS.out.below hb (Nat.le_refl _)), Lib.hid (by rw [modT_9 (by exact hE.out)]; exact fun W hb _ => HA.out.below hb (Nat.le_refl _)), by rw [modT_9 (by exact hE.out)]; exact M⟩
  have n9 : (k == 9) = false := by simpa using e9
  go_upto_region 20 with fail
  refine wp_region_lit ?_
  iterate 2 (with_reducible refine rA ?_)
  by_cases e10 : k = 10
  ·have ek : (k == 10) = true := by simpa using e10
   have hE := Lib.hid e10
   clear e10
   go_upto_region 22 with fail
   refine wp_region_lit ?_
   iterate 2 (with_reducible refine rA ?_)
   go_upto_region 23 with fail
   refine wp_region_lit ?_
   with_reducible refine rA ?_
   with_reducible refine wV 0 M (trC_p14 ok.co) (fit_1 (trC_sz ok.co) (by decide)) ?_; clear M; intro u M
   go_upto_region 24 with fail
   refine wp_region_lit ?_
   with_reducible refine rA ?_
   with_reducible refine wV 0 M (trC_p15 ok.co (x := .slice none 0 0)) (fit_1 (trC_sz ok.co) (by decide)) ?_; clear M; intro u M
   go_wp2_with fail
   go_meet
   exact ⟨_, _, Lib.hid o1, Lib.hid rfl, Lib.hid (by rw [modT_10 (by exact hE.out)]; exact fun W hb _ => HS.out.below hb (Nat.le_refl _)), Lib.hid (by rw [modT_10 (by exact hE.out)]; exact fun W _ _ => AbRow.nil _ _), by rw [modT_10 (by exact hE.out)]; exact M⟩
  have n10 : (k == 10) = false := by simpa using e10
  go_upto_region 22 with fail
  refine wp_region_lit ?_
  iterate 2 (with_reducible refine rA ?_)
  by_cases e11 : k = 11
  ·have ek : (k == 11) = true := by simpa using e11
   have hE := Lib.hid e11
   clear e11
   go_upto_region 25 with fail
   refine wp_region_lit ?_
   iterate 2 (with_reducible refine rA ?_)
   go_upto_region 26 with fail
   refine wp_region_lit ?_
   with_reducible refine rA ?_
   with_reducible refine wC M (HC.out _) ?_; clear M; intro u M
   with_reducible refine rA ?_
   with_reducible refine wV 0 M (trC_p12 ok.co) (fit_1 (trC_sz ok.co) (by decide)) ?_; clear M; intro u M
   go_upto_region 27 with fail
   refine wp_region_lit ?_
   with_reducible refine rA ?_
   with_reducible refine wC M (HC.out _) ?_; clear M; intro u M
   with_reducible refine rA ?_
   with_reducible refine wV 0 M (trC_p13 ok.co) (fit_1 (trC_sz ok.co) (by decide)) ?_; clear M; intro u M
   go_wp2_with fail
   go_meet
   exact ⟨_, _, Lib.hid o1, Lib.hid o2, Lib.hid (by rw [modT_11 (by exact hE.out)]; exact fun W hb _ => HS.out.below hb (Nat.le_refl _)), Lib.hid (by rw [modT_11 (by exact hE.out)]; exact fun W hb _ => HA.out.below hb (Nat.le_refl _)), by rw [modT_11 (by exact hE.out)]; exact M⟩
  have n11 : (k == 11) = false := by simpa using e11
  go_upto_region 25 with fail
  refine wp_region_lit ?_
  iterate 2 (with_reducible refine rA ?_)
  by_cases e12 : k = 12
  ·have ek : (k == 12) = true := by simpa using e12
   have hE := Lib.hid e12
   clear e12
   go_upto_region 28 with fail
   refine wp_region_lit ?_
   iterate 2 (with_reducible refine rA ?_)
   go_upto_region 29 with fail
   refine wp_region_lit ?_
   with_reducible refine rA ?_
   with_reducible refine wLv 1 M mO_1 Tryz.underlying3 ?_
   with_reducible refine rA ?_
   with_reducible refine wV 0 M (trC_p12 ok.co) (fit_1 (trC_sz ok.co) (by decide)) ?_; clear M; intro u M
   go_upto_region 30 with fail
   refine wp_region_lit ?_
   with_reducible refine rA ?_
   with_reducible refine wLv 1 M mO_2 Tryz.underlying3 ?_
   with_reducible refine rA ?_
   with_reducible refine wV 0 M (trC_p13 ok.co) (fit_1 (trC_sz ok.co) (by decide)) ?_; clear M; intro u M
   go_wp2_with fail
   go_meet
   exact ⟨_, _, Lib.hid o1, Lib.hid o2, Lib.hid (by rw [modT_12 (by exact hE.out)]; exact fun W hb _ => HS.out.below hb (Nat.le_refl _)), Lib.hid (by rw [modT_12 (by exact hE.out)]; exact fun W hb _ => HA.out.below hb (Nat.le_refl _)), by rw [modT_12 (by exact hE.out)]; exact M⟩
  have n12 : (k == 12) = false := by simpa using e12
  go_upto_region 28 with fail
  refine wp_region_lit ?_
  iterate 2 (with_reducible refine rA ?_)
  by_cases e13 : k = 13
  ·have ek : (k == 13) = true := by simpa using e13
   have hE := Lib.hid e13
   clear e13
   go_upto_region 31 with fail
   refine wp_region_lit ?_
   iterate 2 (with_reducible refine rA ?_)
   go_upto_region 32 with fail
   refine wp_region_lit ?_
   with_reducible refine rA ?_
   with_reducible refine wLv 0 M (show ((trC x.nm x.co x.c x.a x.b sv x.p x.t x.k av x.u))[12]? = some (.int .i64 x.p) from trC_12 ok.co) Tryz.underlying3 ?_
   with_reducible refine rA ?_
   with_reducible refine wLv 1 M mO_1 Tryz.underlying3 ?_
   with_reducible refine wC M (HA1.out _) ?_; clear M; intro u M
   with_reducible refine rA ?_
   with_reducible refine wV 0 M (trC_p12 ok.co) (fit_1 (trC_sz ok.co) (by decide)) ?_; clear M; intro u M
   go_upto_region 33 with fail
   refine wp_region_lit ?_
   with_reducible refine rA ?_
   with_reducible refine wLv 0 M (show ((trC x.nm x.co x.c x.a x.b sv (Num.clampI (Num.clampI x.p + Num.clampI n)) x.t x.k av x.u))[13]? = some (.int .i64 x.t) from trC_13 ok.co) Tryz.underlying3 ?_
   with_reducible refine rA ?_
   with_reducible refine wLv 1 M mO_2 Tryz.underlying3 ?_
   with_reducible refine wC M (HA2.out _) ?_; clear M; intro u M
   with_reducible refine rA ?_
   with_reducible refine wV 0 M (trC_p13 ok.co) (fit_1 (trC_sz ok.co) (by decide)) ?_; clear M; intro u M
   go_wp2_with fail
   go_meet
   exact ⟨_, _, Lib.hid o1, Lib.hid o2, Lib.hid (by rw [modT_13 (by exact hE.out)]; exact fun W hb _ => HS.out.below hb (Nat.le_refl _)), Lib.hid (by rw [modT_13 (by exact hE.out)]; exact fun W hb _ => HA.out.below hb (Nat.le_refl _)), by rw [modT_13 (by exact hE.out)]; exact M⟩
  have n13 : (k == 13) = false := by simpa using e13
  go_upto_region 31 with fail
  refine wp_region_lit ?_
  iterate 2 (with_reducible refine rA ?_)
  by_cases e14 : k = 14
  ·have ek : (k == 14) = true := by simpa using e14
   have hE := Lib.hid e14
   clear e14
   go_upto_region 34 with fail
   refine wp_region_lit ?_
   iterate 2 (with_reducible refine rA ?_)
   go_upto_region 35 with fail
   refine wp_region_lit ?_
   with_reducible refine rA ?_
   with_reducible refine wLv 0 M (show ((trC x.nm x.co x.c x.a x.b sv x.p x.t x.k av x.u))[12]? = some (.int .i64 x.p) from trC_12 ok.co) Tryz.underlying3 ?_
   with_reducible refine rA ?_
   go_upto_region 36 with fail
   refine wp_region_lit ?_
   with_reducible refine rA ?_
   with_reducible refine wLv 0 M (show ((trC x.nm x.co x.c x.a x.b sv x.p x.t x.k av x.u))[13]? = some (.int .i64 x.t) from trC_13 ok.co) Tryz.underlying3 ?_
   with_reducible refine rA ?_
   with_reducible refine wV 0 M (trC_p12 ok.co) (fit_1 (trC_sz ok.co) (by decide)) ?_; clear M; intro u M
   go_upto_region 37 with fail
   refine wp_region_lit ?_
   iterate 2 (with_reducible refine rA ?_)
   with_reducible refine wV 0 M (trC_p13 ok.co) (fit_1 (trC_sz ok.co) (by decide)) ?_; clear M; intro u M
   go_wp2_with fail
   go_meet
   exact ⟨_, _, Lib.hid o1, Lib.hid o2, Lib.hid (by rw [modT_14 (by exact hE.out)]; exact fun W hb _ => HS.out.below hb (Nat.le_refl _)), Lib.hid (by rw [modT_14 (by exact hE.out)]; exact fun W hb _ => HA.out.below hb (Nat.le_refl _)), by rw [modT_14 (by exact hE.out)]; exact M⟩
  have n14 : (k == 14) = false := by simpa using e14
  exact absurd hk (by simp [Mo.isKind, e1, e2, e3, e4, e5, e6, e7, e8, e9, e10, e11, e12, e13, e14])
 case rest =>
  obtain ⟨s2, a2, hs2, ha2, S2, A2, M⟩ := hcut
  have hco : Part 50 7 (modT x ⟨k, n, m, s.data.toList, f⟩ you cnt).co := modT_coR ok.co
  go_upto_region 38 with fail
  refine wp_region_lit ?_
  with_reducible refine wL 0 M whole_part Tryz.underlying56 (szTr (trV_sz hco)) ?_
  with_reducible refine wSk 2 M (laid_all (trV_sz hco) zTr_cells) (szTr (trV_sz hco)) (trV_one hco hs2.out ha2.out) (fit_2 zTr_cells (trV_sz hco) (by decide)) ?_; clear M; intro u hk M
  have hL := M.read 2 Tryz.underlying56 (szTr (trV_sz hco)) rfl rfl
  go_wp2_with fail
  exact bodyPost_ret (v := .agg (trV (modT x ⟨k, n, m, s.data.toList, f⟩ you cnt) s2 a2)) (results_cell Tryz.results31 (by rfl) hL) rfl ⟨⟨_, _, rfl, S2.out _ M.b hk, A2.out _ M.b hk⟩, M.b⟩
end Go.Proofs.YtbcgkeclmioeiaaGreatDoor
