/-
  MERGED: Struct, FilCell, FilParseB, FilParse, FilEq, FilParseC, FilLit, FilAliveA, FilHand, CtrPlain, AmtPlain, AmtRef, StructB. By an AI agent.
-/
import Derived.Test.YtohgdmlpffeoiaaGreatDoorBlk
import Derived.Deep.MidRow
import Derived.Deep.RegionHeld3
import Derived.WalkKit
import Derived.Test.YtohgdmlpffeoiaaGreatDoorFilKit
import Derived.Deep.Cut
import Derived.Test.YtohgdmlpffeoiaaGreatDoorFilText
import Derived.Test.YtohgdmlpffeoiaaGreatDoorFilIs
import Derived.Laws.StructEq
import Derived.ChangeKeysEq
import Derived.Test.YtohgdmlpffeoiaaGreatDoorHand
import Derived.Test.YtohgdmlpffeoiaaGreatDoorNumPlain
import Derived.Test.YtohgdmlpffeoiaaGreatDoorFilRef
import Derived.Lib.ReflectliteSwap
namespace Go.Proofs.YtohgdmlpffeoiaaGreatDoor
open Go.RowKit

theorem Blk.rangeS {w : World} {b : Nat} {cs : Array Value} {t : TypeId} (h : Blk w b cs t) : w.rangeAt b 0 cs.toList := fun j v hv => by
  rw [Nat.zero_add, h.cell j]
  simpa using hv
theorem Blk.thereS {w : World} {b : Nat} {cs : Array Value} {t : TypeId} (h : Blk w b cs t) : w.there b 0 cs.size := fun j hj => by
  rw [Nat.zero_add]
  exact ⟨by rw [h.cell j, Array.getElem?_eq_getElem hj]; rfl, h.free j⟩
def laidAt (cs : Array Value) (o : Nat) : List Value → Array Value
  | [] => cs
  | v :: vs => laidAt (cs.setIfInBounds o v) (o + 1) vs
theorem laidAt_size : ∀ (vs : List Value) (cs : Array Value) (o : Nat), (laidAt cs o vs).size = cs.size
  | [], _, _ => rfl
  | v :: vs, cs, o => by rw [laidAt, laidAt_size vs]; simp
theorem laidAt_get : ∀ (vs : List Value) (cs : Array Value) (o j : Nat), o + vs.length ≤ cs.size → (laidAt cs o vs)[j]? = if o ≤ j ∧ j < o + vs.length then vs[j - o]? else cs[j]?
  | [], cs, o, j, _ => by rw [laidAt, if_neg (by simp)]
  | v :: vs, cs, o, j, h => by
    simp only [List.length_cons] at h ⊢
    rw [laidAt, laidAt_get vs _ _ j (by simp; omega)]
    by_cases h1 : o + 1 ≤ j ∧ j < o + 1 + vs.length
    · rw [if_pos h1, if_pos ⟨by omega, by omega⟩]
      obtain ⟨d, hd⟩ : ∃ d, j = o + 1 + d := ⟨j - (o + 1), by omega⟩
      subst hd
      rw [show o + 1 + d - (o + 1) = d by omega, show o + 1 + d - o = d + 1 by omega, List.getElem?_cons_succ]
    · rw [if_neg h1]
      by_cases h2 : j = o
      · subst h2
        rw [if_pos ⟨by omega, by omega⟩, Nat.sub_self, List.getElem?_cons_zero, Array.getElem?_setIfInBounds_self_of_lt (by omega)]
      · rw [if_neg (by omega), Array.getElem?_setIfInBounds_ne (by omega)]
theorem laidAt_whole {cs vs : Array Value} (h : vs.size = cs.size) : laidAt cs 0 vs.toList = vs := by
  apply Array.ext_getElem?
  intro j
  rw [laidAt_get _ _ _ _ (by simp [h])]
  simp only [Nat.zero_le, Nat.zero_add, true_and, Nat.sub_zero, Array.length_toList, Array.getElem?_toList]
  by_cases hj : j < vs.size
  · rw [if_pos hj]
  · rw [if_neg hj, Array.getElem?_eq_none (by omega), Array.getElem?_eq_none (by omega)]
theorem Blk.laid : ∀ {vs : List Value} {w : World} {b o : Nat} {cs : Array Value} {t : TypeId}, Blk w b cs t → Blk (w.setCells b o vs) b (laidAt cs o vs) t
  | [], _, _, _, _, _, h => h
  | v :: vs, w, b, o, cs, t, h => by
    show Blk ((w.setCell ⟨b, o, none⟩ v).setCells b (o + 1) vs) b (laidAt (cs.setIfInBounds o v) (o + 1) vs) t
    exact Blk.laid (h.set o v)
/-- a block stored whole -/
theorem Blk.whole {w : World} {b : Nat} {cs : Array Value} {t : TypeId} (h : Blk w b cs t) (vs : Array Value) (hn : vs.size = cs.size) : Blk (w.setCells b 0 vs.toList) b vs t := by
  have := h.laid (o := 0) (vs := vs.toList)
  rw [laidAt_whole hn] at this
  exact this
theorem Blk.wholeElse : ∀ (vs : List Value) {w : World} {b g o : Nat} {cs : Array Value} {t : TypeId}, Blk w b cs t → b ≠ g → Blk (w.setCells g o vs) b cs t
  | [], _, _, _, _, _, _, h, _ => h
  | v :: vs, w, b, g, o, cs, t, h, hg => by
    show Blk ((w.setCell ⟨g, o, none⟩ v).setCells g (o + 1) vs) b cs t
    exact Blk.wholeElse vs (h.other hg o v) hg
theorem below_whole : ∀ (vs : List Value) {C : Nat} {w0 w : World} {b o : Nat}, Below C w0 w → C ≤ b → Below C w0 (w.setCells b o vs)
  | [], _, _, _, _, _, h, _ => h
  | v :: vs, C, w0, w, b, o, h, hC => by
    show Below C w0 ((w.setCell ⟨b, o, none⟩ v).setCells b (o + 1) vs)
    exact below_whole vs (h.setCell (by exact hC) v) hC
theorem cell_wholeElse (vs : List Value) {w : World} {b g o : Nat} (p : Nat) (hg : b ≠ g) : (w.setCells g o vs).cell? ⟨b, p, none⟩ = w.cell? ⟨b, p, none⟩ :=
  World.cell?_setCells_out g vs o w ⟨b, p, none⟩ fun e => absurd e hg
theorem size_whole : ∀ (vs : List Value) (w : World) (b o : Nat), (w.setCells b o vs).heap.size = w.heap.size
  | [], _, _, _ => rfl
  | v :: vs, w, b, o => by
    show ((w.setCell ⟨b, o, none⟩ v).setCells b (o + 1) vs).heap.size = _
    rw [size_whole vs]; simp
section
variable {P : Program}
/-- a struct loaded whole, at a region's list -/
theorem wpList_loadS {ops : Array Oper} {rest : List Oper} {a : Act} {w : World} {Q : Exit → Act → World → Prop} {d : Option Tmp} {ty T : TypeId} {ps : String} {af : Array Edge} {gd : Option (Nat × Bool)} (x : Operand)
    (hw : Region.wanted { dst := d, op := .load T x, type := ty, pos := ps, after := af, guard := gd } (yielded ops a.tmps) = true)
    {b : Nat} {cs : Array Value} {D : TypeDesc} (hx : a.eval x = .pointer (some ⟨b, 0, none⟩)) (hk : Blk w b cs T) (hu : P.underlying T = some D) (hd : D.isRow = true) (hn : (P.info? T).map (·.size) = some cs.size)
    (h : wpList P ops Q rest (a.put d (.agg cs)) w) : wpList P ops Q ({ dst := d, op := .load T x, type := ty, pos := ps, after := af, guard := gd } :: rest) a w := by
  unfold wpList
  rw [if_pos hw]
  refine .inl (wp_load_mid T x rfl b 0 hx cs.toList _ hk.rangeS hu hd (by simpa using hn) ?_)
  simpa using h
theorem wp_loadS {o : Oper} {a : Act} {w : World} {K : Act → World → Prop} {Q : Exit → Act → World → Prop} {T : TypeId} (x : Operand) (ho : o.op = .load T x)
    {b : Nat} {cs : Array Value} {D : TypeDesc} (hx : a.eval x = .pointer (some ⟨b, 0, none⟩)) (hk : Blk w b cs T) (hu : P.underlying T = some D) (hd : D.isRow = true) (hn : (P.info? T).map (·.size) = some cs.size)
    (h : K (a.put o.dst (.agg cs)) w) : Oper.wp P o a w K Q := by
  refine wp_load_mid T x ho b 0 hx cs.toList _ hk.rangeS hu hd (by simpa using hn) ?_
  simpa using h
theorem wp_storeS {o : Oper} {a : Act} {w : World} {K : Act → World → Prop} {Q : Exit → Act → World → Prop} {T : TypeId} (x y : Operand) (ho : o.op = .store T x y)
    {b : Nat} {cs vs : Array Value} (hx : a.eval x = .pointer (some ⟨b, 0, none⟩)) (hy : a.eval y = .agg vs) (hk : Blk w b cs T) (hn : vs.size = cs.size) (hi : (P.info? T).map (·.size) = some vs.size) (h1 : vs.all (·.oneCell') = true)
    (h : K (a.put o.dst undef) (w.setCells b 0 vs.toList)) : Oper.wp P o a w K Q :=
  wp_store_mid T x y ho b 0 vs hx hy (by have := hk.thereS; rw [← hn] at this; exact this) hi h1 h
theorem wpList_storeS {ops : Array Oper} {rest : List Oper} {a : Act} {w : World} {Q : Exit → Act → World → Prop} {d : Option Tmp} {ty T : TypeId} {ps : String} {af : Array Edge} (x y : Operand)
    {b : Nat} {cs vs : Array Value} (hx : a.eval x = .pointer (some ⟨b, 0, none⟩)) (hy : a.eval y = .agg vs) (hk : Blk w b cs T) (hn : vs.size = cs.size) (hi : (P.info? T).map (·.size) = some vs.size) (h1 : vs.all (·.oneCell') = true)
    (h : wpList P ops Q rest (a.put d undef) (w.setCells b 0 vs.toList)) : wpList P ops Q ({ dst := d, op := .store T x y, type := ty, pos := ps, after := af, guard := none } :: rest) a w :=
  wpList_store_mid rfl T x y rfl b 0 vs hx hy (by have := hk.thereS; rw [← hn] at this; exact this) hi h1 h
theorem wpList_runV {ops : Array Oper} {rest : List Oper} {o : Oper} {a : Act} {w : World} {Q : Exit → Act → World → Prop} (d : Option Tmp) {v : Value} (hd : o.dst = d)
    (hw : Region.wanted o (yielded ops a.tmps) = true) (hy : (execOp a.eval o).run P w = .ok (.value v) w)
    (h : wpList P ops Q rest (a.put d v) w) : wpList P ops Q (o :: rest) a w := by
  subst hd
  unfold wpList
  rw [if_pos hw]
  refine .inl ?_
  unfold Oper.wp
  rw [hy]
  exact h
theorem wpList_skipV {ops : Array Oper} {rest : List Oper} {o : Oper} {a : Act} {w : World} {Q : Exit → Act → World → Prop} (d : Option Tmp) (hd : o.dst = d)
    (hw : Region.wanted o (yielded ops a.tmps) = false) (h : wpList P ops Q rest (a.put d undef) w) : wpList P ops Q (o :: rest) a w := by
  subst hd
  exact wpList_skip hw h
/-- an operation that leaves another world (an alloc) -/
theorem wpList_runWV {ops : Array Oper} {rest : List Oper} {o : Oper} {a : Act} {w : World} {Q : Exit → Act → World → Prop} (d : Option Tmp) {v : Value} {w' : World} (hd : o.dst = d)
    (hw : Region.wanted o (yielded ops a.tmps) = true) (hy : (execOp a.eval o).run P w = .ok (.value v) w')
    (h : wpList P ops Q rest (a.put d v) w') : wpList P ops Q (o :: rest) a w := by
  subst hd
  unfold wpList
  rw [if_pos hw]
  refine .inl ?_
  unfold Oper.wp
  rw [hy]
  exact h
theorem Blk.readS {w : World} {b : Nat} {cs : Array Value} {T : TypeId} {D : TypeDesc} (hk : Blk w b cs T) (hu : P.underlying T = some D) (hd : D.isRow = true) (hn : (P.info? T).map (·.size) = some cs.size) :
    (loadVar T ⟨b, 0, none⟩).run P w = .ok (.agg cs) w := by
  have := run_loadVar_mid (P := P) w b 0 T cs.toList D hk.rangeS hu hd (by simpa using hn)
  simpa using this
theorem results_cell {fn : Func} {tmps : Array Value} {w : World} {x : Tmp} {T : TypeId} {A : Addr} {v : Value} (h : fn.results = #[.cell x T]) (ha : tmps.getD x undef = .pointer (some A)) (hL : (loadVar T A).run P w = .ok v w) :
    (results fn tmps).run P w = .ok v w := by
  have ha' : tmps[x]?.getD undef = .pointer (some A) := by simpa using ha
  simp [results, h, ha', asAddr, hL]
theorem results_cell_tmp {fn : Func} {tmps : Array Value} {w : World} {x y : Tmp} {T : TypeId} {A : Addr} {v u : Value} (h : fn.results = #[.cell x T, .tmp y]) (ha : tmps.getD x undef = .pointer (some A)) (hu : tmps.getD y undef = u) (hL : (loadVar T A).run P w = .ok v w) :
    (results fn tmps).run P w = .ok (.tuple #[v, u]) w := by
  have ha' : tmps[x]?.getD undef = .pointer (some A) := by simpa using ha
  have hu' : tmps[y]?.getD undef = u := by simpa using hu
  simp [results, h, ha', hu', asAddr, hL]
end
end Go.Proofs.YtohgdmlpffeoiaaGreatDoor
namespace Go.Proofs.YtohgdmlpffeoiaaGreatDoor
open Go.RowKit
open Wd (Bs)

def cellsA (a : Fil.Acc) (gs : ByteArray) : Array Value := #[.int .i64 (a.zone : Int), .int .i64 (a.who : Int), .int .i64 (a.self : Int), .int .i64 (a.types : Int), .int .i64 (a.ntypes : Int), .int .i64 (a.colors : Int), .int .i64 (a.ncolors : Int), .string gs, .int .i64 (a.keys : Int), .int .i64 (a.tap : Int), .int .i64 a.pow.kind, .int .i64 a.pow.n, .int .i64 a.tough.kind, .int .i64 a.tough.n, .int .i64 a.val.kind, .int .i64 a.val.n]
def cellsZ : Array Value := #[.int .i64 0, .int .i64 0, .int .i64 0, .int .i64 0, .int .i64 0, .int .i64 0, .int .i64 0, .string ⟨#[]⟩, .int .i64 0, .int .i64 0, .int .i64 0, .int .i64 0, .int .i64 0, .int .i64 0, .int .i64 0, .int .i64 0]
theorem cellsA_one (a : Fil.Acc) (gs : ByteArray) : (cellsA a gs).all (·.oneCell') = true := by simp [cellsA, Value.oneCell']
theorem cellsZ_one : cellsZ.all (·.oneCell') = true := by simp [cellsZ, Value.oneCell']
theorem infoTF (a : Fil.Acc) (gs : ByteArray) : (Tryz.prog.info? 25).map (·.size) = some (cellsA a gs).size := by rw [sizeTF]; rfl
theorem infoTFZ : (Tryz.prog.info? 25).map (·.size) = some cellsZ.size := by rw [sizeTF]; rfl
theorem readA {w : World} {b : Nat} {a : Fil.Acc} {gs : ByteArray} (hk : Blk w b (cellsA a gs) 25) : (loadVar 25 ⟨b, 0, none⟩).run Tryz.prog w = .ok (.agg (cellsA a gs)) w := hk.readS Tryz.underlying25 rfl (infoTF a gs)
theorem readZ {w : World} {b : Nat} (hk : Blk w b cellsZ 25) : (loadVar 25 ⟨b, 0, none⟩).run Tryz.prog w = .ok (.agg cellsZ) w := hk.readS Tryz.underlying25 rfl infoTFZ
end Go.Proofs.YtohgdmlpffeoiaaGreatDoor
namespace Go.Proofs.YtohgdmlpffeoiaaGreatDoor
open Go.RowKit
open Wd (Bs)

set_option maxHeartbeats 8000000 in
set_option maxRecDepth 100000 in
theorem parseWalk (s : ByteArray) (w : World) (hE : Env w) (a : Fil.Acc) (fs : ByteArray) (v q : Bool) (tx : ByteArray) (hq : (tx.toList == s.toList) = q)
    (HRD : Hid (∀ W, Env W → Calls Tryz.prog 91 #[.string s] W fun e w' => e = .returned (.agg #[.int .i64 (a.zone : Int), .int .i64 (a.who : Int), .int .i64 (a.self : Int), .int .i64 (a.types : Int), .int .i64 (a.ntypes : Int), .int .i64 (a.colors : Int), .int .i64 (a.ncolors : Int), .string fs, .int .i64 (a.keys : Int), .int .i64 (a.tap : Int), .int .i64 a.pow.kind, .int .i64 a.pow.n, .int .i64 a.tough.kind, .int .i64 a.tough.n, .int .i64 a.val.kind, .int .i64 a.val.n]) ∧ Below W.heap.size W w'))
    (HIS : Hid (∀ W, Env W → Calls Tryz.prog 15 #[.agg (cellsA a fs)] W fun e w' => e = .returned (.bool v) ∧ Below W.heap.size W w'))
    (HTX : Hid (∀ W, Env W → Calls Tryz.prog 20 #[.agg (cellsA a fs)] W fun e w' => e = .returned (.string tx) ∧ Below W.heap.size W w')) :
    Calls Tryz.prog 67 #[.string s] w fun e w' => e = .returned (if (v && q) = true then .tuple #[.agg (cellsA a fs), .int .i64 0] else .tuple #[.agg cellsZ, .int .i64 3]) ∧ Below w.heap.size w w' := by
  obtain ⟨w0, hw0⟩ : ∃ w0, w0 = w.alloc (.cells cellsZ 25) := ⟨_, rfl⟩
  have hb0 : Below w.heap.size w w0 := by rw [hw0]; exact (Below.refl _ _).alloc (Nat.le_refl _) _
  have HR0 : Hid (Blk w0 w.heap.size cellsZ 25) := Lib.hid (by rw [hw0]; exact Blk.new w _ _)
  have HE := Lib.hid (fun (W : World) (hb : Below w.heap.size w W) => hE.below hb)
  have HB0 := Lib.hid hb0
  have HQ := Lib.hid hq
  clear hE hb0 hq
  go_enter Tryz.func67, Tryz.ntmps67
  go_wp2_with fail
  rw [show w.alloc (.cells #[.int .i64 0, .int .i64 0, .int .i64 0, .int .i64 0, .int .i64 0, .int .i64 0, .int .i64 0, .string ⟨#[]⟩, .int .i64 0, .int .i64 0, .int .i64 0, .int .i64 0, .int .i64 0, .int .i64 0, .int .i64 0, .int .i64 0] 25) = w0 from hw0.symm]
  clear hw0
  refine (HRD.out _ (HE.out _ HB0.out)).mono ?_
  rintro e w1 ⟨rfl, hb⟩
  have HB : Hid (Below w.heap.size w (w1.alloc (.cells (cellsA a fs) 25))) := Lib.hid ((HB0.out.trans (hb.mono HB0.out.size)).alloc (Nat.le_trans HB0.out.size hb.size) _)
  have HR : Hid (Blk (w1.alloc (.cells (cellsA a fs) 25)) w.heap.size cellsZ 25) := Lib.hid ((HR0.out.below hb HR0.out.lt).alloc _)
  have HK : Hid (Blk (w1.alloc (.cells (cellsA a fs) 25)) w1.heap.size (cellsA a fs) 25) := Lib.hid (Blk.new w1 _ _)
  clear hb HR0 HB0
  go_upto_region 2 with fail
  obtain ⟨w2, hw2⟩ : ∃ v, v = w1.alloc (.cells (cellsA a fs) 25) := ⟨_, rfl⟩
  obtain ⟨F, hF⟩ : ∃ v, v = w1.heap.size := ⟨_, rfl⟩
  rw [← hw2] at HB HR HK
  rw [← hF] at HK
  rw [show w1.alloc (.cells #[.int .i64 (a.zone : Int), .int .i64 (a.who : Int), .int .i64 (a.self : Int), .int .i64 (a.types : Int), .int .i64 (a.ntypes : Int), .int .i64 (a.colors : Int), .int .i64 (a.ncolors : Int), .string fs, .int .i64 (a.keys : Int), .int .i64 (a.tap : Int), .int .i64 a.pow.kind, .int .i64 a.pow.n, .int .i64 a.tough.kind, .int .i64 a.tough.n, .int .i64 a.val.kind, .int .i64 a.val.n] 25) = w2 from hw2.symm, ← hF]
  clear hw2 hF
  generalize Value.agg #[.int .i64 (a.zone : Int), .int .i64 (a.who : Int), .int .i64 (a.self : Int), .int .i64 (a.types : Int), .int .i64 (a.ntypes : Int), .int .i64 (a.colors : Int), .int .i64 (a.ncolors : Int), .string fs, .int .i64 (a.keys : Int), .int .i64 (a.tap : Int), .int .i64 a.pow.kind, .int .i64 a.pow.n, .int .i64 a.tough.kind, .int .i64 a.tough.n, .int .i64 a.val.kind, .int .i64 a.val.n] = vA
  have hq : (tx.toList == s.toList) = q := HQ.out
  refine wp_region_lit ?_
  refine wpList_loadS (.tmp 4) (by rfl) rfl HK.out Tryz.underlying25 rfl (infoTF _ _) ?_
  simp only [Act.put, List.setIfInBounds_toArray, List.set_cons_zero, List.set_cons_succ]
  go_wp2_with fail
  refine (HIS.out _ (HE.out _ HB.out)).mono ?_
  rintro e wi ⟨rfl, hb⟩
  have HKI := Lib.hid (HK.out.below hb HK.out.lt)
  have HRI := Lib.hid (HR.out.below hb HR.out.lt)
  have HBI := Lib.hid (HB.out.trans (hb.mono HB.out.size))
  clear hb HK HR HB
  go_simp
  rename_i hKK
  refine hKK _ _ ?_
  clear hKK
  try simp only [Act.put, List.setIfInBounds_toArray, List.set_cons_zero, List.set_cons_succ]
  cases v with
  | false =>
    refine wpList_runV (some 9) (v := ?_) rfl (by rfl) ?_ ?_
    rotate_left
    · (go_simp; (try with_reducible rfl))
    simp only [Act.put, List.setIfInBounds_toArray, List.set_cons_zero, List.set_cons_succ]
    refine wpList_runV (some 10) (v := ?_) rfl (by rfl) ?_ ?_
    rotate_left
    · (go_simp; (try with_reducible rfl))
    simp only [Act.put, List.setIfInBounds_toArray, List.set_cons_zero, List.set_cons_succ]
    refine wpList_skipV (some 11) rfl (by rfl) ?_
    simp only [Act.put, List.setIfInBounds_toArray, List.set_cons_zero, List.set_cons_succ]
    refine wpList_skipV (some 12) rfl (by rfl) ?_
    simp only [Act.put, List.setIfInBounds_toArray, List.set_cons_zero, List.set_cons_succ]
    refine wpList_skipV (some 13) rfl (by rfl) ?_
    simp only [Act.put, List.setIfInBounds_toArray, List.set_cons_zero, List.set_cons_succ]
    refine wpList_skipV (some 14) rfl (by rfl) ?_
    simp only [Act.put, List.setIfInBounds_toArray, List.set_cons_zero, List.set_cons_succ]
    refine wpList_runV (some 15) (v := ?_) rfl (by rfl) ?_ ?_
    rotate_left
    · (go_simp; (try with_reducible rfl))
    simp only [Act.put, List.setIfInBounds_toArray, List.set_cons_zero, List.set_cons_succ]
    go_upto_region 3 with fail
    refine wp_region_lit ?_
    refine wpList_runV (some 16) (v := .agg cellsZ) rfl (by rfl) (by go_simp; rfl) ?_
    simp only [Act.put, List.setIfInBounds_toArray, List.set_cons_zero, List.set_cons_succ]
    refine wpList_storeS (.tmp 2) (.tmp 16) rfl rfl HRI.out rfl infoTFZ cellsZ_one ?_
    have HRF := Lib.hid (HRI.out.whole cellsZ rfl)
    have HBF := Lib.hid (below_whole cellsZ.toList (o := 0) HBI.out (Nat.le_refl _))
    generalize World.setCells _ _ _ _ = wf at HRF HBF ⊢
    have hL := readZ HRF.out
    go_wp2_with fail
    exact bodyPost_ret (v := .tuple #[.agg cellsZ, .int .i64 3]) (results_cell_tmp Tryz.results67 (by rfl) (by rfl) hL) rfl ⟨rfl, HBF.out⟩
  | true =>
    refine wpList_runV (some 9) (v := ?_) rfl (by rfl) ?_ ?_
    rotate_left
    · (go_simp; (try with_reducible rfl))
    simp only [Act.put, List.setIfInBounds_toArray, List.set_cons_zero, List.set_cons_succ]
    refine wpList_runV (some 10) (v := ?_) rfl (by rfl) ?_ ?_
    rotate_left
    · (go_simp; (try with_reducible rfl))
    simp only [Act.put, List.setIfInBounds_toArray, List.set_cons_zero, List.set_cons_succ]
    refine wpList_loadS (.tmp 4) (by rfl) rfl HKI.out Tryz.underlying25 rfl (infoTF _ _) ?_
    simp only [Act.put, List.setIfInBounds_toArray, List.set_cons_zero, List.set_cons_succ]
    go_wp2_with fail
    refine (HTX.out _ (HE.out _ HBI.out)).mono ?_
    rintro e wt ⟨rfl, hb⟩
    have HKT := Lib.hid (HKI.out.below hb HKI.out.lt)
    have HRT := Lib.hid (HRI.out.below hb HRI.out.lt)
    have HBT := Lib.hid (HBI.out.trans (hb.mono HBI.out.size))
    clear hb HKI HRI HBI
    go_simp
    rename_i hKK
    refine hKK _ _ ?_
    clear hKK
    try simp only [Act.put, List.setIfInBounds_toArray, List.set_cons_zero, List.set_cons_succ]
    cases q with
    | false =>
      refine wpList_runV (some 13) (v := ?_) rfl (by rfl) ?_ ?_
      rotate_left
      · (go_simp; (try with_reducible rfl))
      simp only [Act.put, List.setIfInBounds_toArray, List.set_cons_zero, List.set_cons_succ]
      refine wpList_runV (some 14) (v := .bool true) rfl (by rfl) ?_ ?_
      · (go_simp; (try with_reducible rfl))
      simp only [Act.put, List.setIfInBounds_toArray, List.set_cons_zero, List.set_cons_succ]
      refine wpList_runV (some 15) (v := ?_) rfl (by rfl) ?_ ?_
      rotate_left
      · (go_simp; (try with_reducible rfl))
      simp only [Act.put, List.setIfInBounds_toArray, List.set_cons_zero, List.set_cons_succ]
      go_upto_region 3 with fail
      refine wp_region_lit ?_
      refine wpList_runV (some 16) (v := .agg cellsZ) rfl (by rfl) (by go_simp; rfl) ?_
      simp only [Act.put, List.setIfInBounds_toArray, List.set_cons_zero, List.set_cons_succ]
      refine wpList_storeS (.tmp 2) (.tmp 16) rfl rfl HRT.out rfl infoTFZ cellsZ_one ?_
      have HRF := Lib.hid (HRT.out.whole cellsZ rfl)
      have HBF := Lib.hid (below_whole cellsZ.toList (o := 0) HBT.out (Nat.le_refl _))
      generalize World.setCells _ _ _ _ = wf at HRF HBF ⊢
      have hL := readZ HRF.out
      go_wp2_with fail
      exact bodyPost_ret (v := .tuple #[.agg cellsZ, .int .i64 3]) (results_cell_tmp Tryz.results67 (by rfl) (by rfl) hL) rfl ⟨rfl, HBF.out⟩
    | true =>
      refine wpList_runV (some 13) (v := ?_) rfl (by rfl) ?_ ?_
      rotate_left
      · (go_simp; (try with_reducible rfl))
      simp only [Act.put, List.setIfInBounds_toArray, List.set_cons_zero, List.set_cons_succ]
      refine wpList_runV (some 14) (v := .bool false) rfl (by rfl) ?_ ?_
      · (go_simp; (try with_reducible rfl))
      simp only [Act.put, List.setIfInBounds_toArray, List.set_cons_zero, List.set_cons_succ]
      refine wpList_runV (some 15) (v := ?_) rfl (by rfl) ?_ ?_
      rotate_left
      · (go_simp; (try with_reducible rfl))
      simp only [Act.put, List.setIfInBounds_toArray, List.set_cons_zero, List.set_cons_succ]
      go_upto_region 4 with fail
      refine wp_region_lit ?_
      refine wpList_loadS (.tmp 4) (by rfl) rfl HKT.out Tryz.underlying25 rfl (infoTF _ _) ?_
      simp only [Act.put, List.setIfInBounds_toArray, List.set_cons_zero, List.set_cons_succ]
      refine wpList_storeS (.tmp 2) (.tmp 17) rfl rfl HRT.out rfl (infoTF _ _) (cellsA_one _ _) ?_
      have HRF := Lib.hid (HRT.out.whole (cellsA a fs) rfl)
      have HBF := Lib.hid (below_whole (cellsA a fs).toList (o := 0) HBT.out (Nat.le_refl _))
      generalize World.setCells _ _ _ _ = wf at HRF HBF ⊢
      have hL := readA HRF.out
      go_wp2_with fail
      exact bodyPost_ret (v := .tuple #[.agg (cellsA a fs), .int .i64 0]) (results_cell_tmp Tryz.results67 (by rfl) (by rfl) hL) rfl ⟨rfl, HBF.out⟩
end Go.Proofs.YtohgdmlpffeoiaaGreatDoor
namespace Go.Proofs.YtohgdmlpffeoiaaGreatDoor
open Go.RowKit
open Wd (Bs)

/-- a valid filter holds no negative numbers but in its bounds -/
theorem acc_of {f : Fil.Flt} (h : Fil.validB f = true) : ∃ a : Fil.Acc, f = a.flt := by
  have v := Fil.valid_of h
  refine ⟨⟨f.zone.toNat, f.who.toNat, f.self.toNat, f.types.toNat, f.ntypes.toNat, f.colors.toNat, f.ncolors.toNat, f.sub, f.keys.toNat, f.tap.toNat, f.pow, f.tough, f.val⟩, ?_⟩
  unfold Fil.Acc.flt
  rw [Int.toNat_of_nonneg v.zone.1, Int.toNat_of_nonneg v.who.1, Int.toNat_of_nonneg v.self.1, Int.toNat_of_nonneg v.types.1, Int.toNat_of_nonneg v.ntypes.1, Int.toNat_of_nonneg v.colors.1, Int.toNat_of_nonneg v.ncolors.1, Int.toNat_of_nonneg v.keys.1, Int.toNat_of_nonneg v.tap.1]
set_option maxRecDepth 100000 in
/-- Text of any filter -/
theorem filText (f : Fil.Flt) (fs : ByteArray) (hf : f.sub = fs.data.toList) (hs : fs.size ≤ maxLen) (w : World) (hE : Env w) :
    Calls Tryz.prog 20 #[.agg #[.int .i64 f.zone, .int .i64 f.who, .int .i64 f.self, .int .i64 f.types, .int .i64 f.ntypes, .int .i64 f.colors, .int .i64 f.ncolors, .string fs, .int .i64 f.keys, .int .i64 f.tap, .int .i64 f.pow.kind, .int .i64 f.pow.n, .int .i64 f.tough.kind, .int .i64 f.tough.n, .int .i64 f.val.kind, .int .i64 f.val.n]] w fun e w' => e = .returned (str (Fil.textF f)) ∧ Below w.heap.size w w' := by
  cases hvb : Fil.validB f with
  | true =>
    obtain ⟨a, rfl⟩ := acc_of hvb
    exact filTextA a fs hf hs w hE
  | false =>
    have HC := Lib.hid (fun W hW => filIs f fs hf hs W hW)
    have HVB := Lib.hid hvb
    have HT := Lib.hid (Fil.textF_bad hvb)
    have hb0 : Below w.heap.size w (w.alloc (.cells #[.int .i64 f.zone, .int .i64 f.who, .int .i64 f.self, .int .i64 f.types, .int .i64 f.ntypes, .int .i64 f.colors, .int .i64 f.ncolors, .string fs, .int .i64 f.keys, .int .i64 f.tap, .int .i64 f.pow.kind, .int .i64 f.pow.n, .int .i64 f.tough.kind, .int .i64 f.tough.n, .int .i64 f.val.kind, .int .i64 f.val.n] 25)) := (Below.refl _ _).alloc (Nat.le_refl _) _
    have HB := Lib.hid hb0
    have HE := Lib.hid (hE.below hb0)
    clear hvb hb0 hE hf hs
    go_enter Tryz.func20, Tryz.ntmps20
    go_wp2_with fail
    refine (HC.out _ HE.out).mono ?_
    rw [HVB.out]
    rintro e w1 ⟨rfl, hb1⟩
    go_wp2_with fail
    go_ret
    exact ⟨by rw [HT.out]; rfl, HB.out.trans (hb1.mono HB.out.size)⟩
/-- what Parse answers: a filter with its subtype's bytes, an error -/
def ParseRes (s : Bs) (w : World) (e : Ending) (w' : World) : Prop :=
  (∃ (a : Fil.Acc) (fs : ByteArray), Fil.parseV s = a.flt ∧ Fil.parseE s = 0 ∧ Fil.validB a.flt = true ∧ Fil.textF a.flt = s ∧ a.sub = fs.data.toList ∧ e = .returned (.tuple #[.agg #[.int .i64 (a.zone : Int), .int .i64 (a.who : Int), .int .i64 (a.self : Int), .int .i64 (a.types : Int), .int .i64 (a.ntypes : Int), .int .i64 (a.colors : Int), .int .i64 (a.ncolors : Int), .string fs, .int .i64 (a.keys : Int), .int .i64 (a.tap : Int), .int .i64 a.pow.kind, .int .i64 a.pow.n, .int .i64 a.tough.kind, .int .i64 a.tough.n, .int .i64 a.val.kind, .int .i64 a.val.n], .int .i64 0]) ∧ Below w.heap.size w w') ∨
  (Fil.parseV s = Fil.zero ∧ Fil.parseE s = 3 ∧ e = .returned (.tuple #[.agg #[.int .i64 0, .int .i64 0, .int .i64 0, .int .i64 0, .int .i64 0, .int .i64 0, .int .i64 0, .string ⟨#[]⟩, .int .i64 0, .int .i64 0, .int .i64 0, .int .i64 0, .int .i64 0, .int .i64 0, .int .i64 0, .int .i64 0], .int .i64 3]) ∧ Below w.heap.size w w')
/-- what a parser's walk leaves, read as the answer -/
theorem parseRes_of {s : ByteArray} {a : Fil.Acc} {fs tx : ByteArray} {w w' : World} {e : Ending} (hsub : a.sub = fs.data.toList) (htx : tx.data.toList = Fil.textF a.flt)
    (hyes : Fil.validB a.flt = true → Fil.textF a.flt = s.data.toList → Fil.parseV s.data.toList = a.flt ∧ Fil.parseE s.data.toList = 0)
    (hno : ¬ Fil.Is_ a.flt s.data.toList → Fil.parseV s.data.toList = Fil.zero ∧ Fil.parseE s.data.toList = 3)
    (he : e = .returned (if (Fil.validB a.flt && (tx.toList == s.toList)) = true then .tuple #[.agg (cellsA a fs), .int .i64 0] else .tuple #[.agg cellsZ, .int .i64 3])) (hb : Below w.heap.size w w') : ParseRes s.data.toList w e w' := by
  by_cases h : Fil.Is_ a.flt s.data.toList
  · have h2 : (tx.toList == s.toList) = true := bytes_eq (by rw [htx]; exact h.2)
    rw [h.1, h2, if_pos (by rfl)] at he
    have h3 := hyes h.1 h.2
    exact .inl ⟨a, fs, h3.1, h3.2, h.1, h.2, hsub, he, hb⟩
  · have h3 := hno h
    have h4 : (Fil.validB a.flt && (tx.toList == s.toList)) = false := by
      cases hv : Fil.validB a.flt with
      | false => rfl
      | true => exact bytes_ne (by rw [htx]; exact fun e => h ⟨hv, e⟩)
    rw [h4, if_neg (by decide)] at he
    exact .inr ⟨h3.1, h3.2, he, hb⟩
theorem filParse (s : ByteArray) (w : World) (hs : s.size ≤ 1000000) (hE : Env w) : Calls Tryz.prog 67 #[.string s] w (ParseRes s.data.toList w) := by
  obtain ⟨a, fs, hr, hsub, hfl, hcall⟩ := filReadAcc s hs
  have hm : fs.size ≤ maxLen := by unfold maxLen; omega
  obtain ⟨tx, htx, etx⟩ := exists_bytes (Fil.textF a.flt)
  refine (parseWalk s w hE a fs (Fil.validB a.flt) _ tx rfl (Lib.hid hcall) (Lib.hid fun W hW => filIs a.flt fs hsub hm W hW) (Lib.hid fun W hW => by rw [← etx]; exact filText a.flt fs hsub hm W hW)).mono fun e w' ⟨he, hb⟩ => ?_
  exact parseRes_of hsub htx (fun h1 h2 => by rw [← hr]; exact Fil.parse_yes (by rw [hr]; exact h1) (by rw [hr]; exact h2)) (fun h => Fil.parse_no (by rw [hr]; exact h)) he hb
end Go.Proofs.YtohgdmlpffeoiaaGreatDoor
namespace Go.Proofs.YtohgdmlpffeoiaaGreatDoor
open Go.RowKit
open Wd (Bs)

theorem partInt (xs : Array Value) (i : Nat) (v : Value) (h : xs[i]? = some v) (w : World) : (part 3 xs i).run Tryz.prog w = .ok v w :=
  run_part_plain w (by kernel_rfl) h
theorem partStr (xs : Array Value) (i : Nat) (v : Value) (h : xs[i]? = some v) (w : World) : (part 9 xs i).run Tryz.prog w = .ok v w :=
  run_part_plain w (by kernel_rfl) h
theorem eqFields_step (d : Nat) (xs ys : Array Value) (f : Field) (fs : List Field) (hn : f.name ≠ "_") (u v : Value) {s r : Bool} (w : World) (ha : (part f.type xs f.offset).run Tryz.prog w = .ok u w) (hb : (part f.type ys f.offset).run Tryz.prog w = .ok v w)
    (hs : (Op.equalIn d f.type u v).run Tryz.prog w = .ok s w) (h : (Op.eqFields d xs ys fs).run Tryz.prog w = .ok r w) : (Op.eqFields d xs ys (f :: fs)).run Tryz.prog w = .ok (s && r) w := by
  simp only [Op.eqFields, Sem.run_bind, Sem.run_ite, if_pos hn, ha, hb, Result.andThen_ok, hs]
  cases s
  · simp
  · simp [h]
def eqB (p q : Fil.Bd) : Bool := p.kind == q.kind && (p.n == q.n && true)
theorem eqB_iff {p q : Fil.Bd} : eqB p q = true ↔ p = q := by
  cases p; cases q
  simp [eqB]
theorem run_eq_bd (d : Nat) (p q : Fil.Bd) (w : World) : (Op.equalIn (d + 1 + 1) 23 (.agg #[.int .i64 p.kind, .int .i64 p.n]) (.agg #[.int .i64 q.kind, .int .i64 q.n])).run Tryz.prog w = .ok (eqB p q) w := by
  rw [run_equalIn_struct w (d + 1) 23 _ _ (by kernel_rfl) (by kernel_rfl)]
  simp only [Program.fieldsOf, Tryz.underlying23]
  have k2 := eqFields_step (d + 1) #[.int .i64 p.kind, .int .i64 p.n] #[.int .i64 q.kind, .int .i64 q.n] { name := "N", type := 3, offset := 1, embedded := false, tag := "", pkgPath := "", byteOffset := 8 } [] (by decide) _ _ w (partInt _ 1 _ rfl w) (partInt _ 1 _ rfl w) (run_equalIn_int w d 3 .i64 .i64 p.n q.n Tryz.underlying3) (r := true) (by simp [Op.eqFields])
  exact eqFields_step (d + 1) #[.int .i64 p.kind, .int .i64 p.n] #[.int .i64 q.kind, .int .i64 q.n] { name := "Kind", type := 3, offset := 0, embedded := false, tag := "", pkgPath := "", byteOffset := 0 } _ (by decide) _ _ w (partInt _ 0 _ rfl w) (partInt _ 0 _ rfl w) (run_equalIn_int w d 3 .i64 .i64 p.kind q.kind Tryz.underlying3) k2
def eqF (f g : Fil.Flt) : Bool := f.zone == g.zone && (f.who == g.who && (f.self == g.self && (f.types == g.types && (f.ntypes == g.ntypes && (f.colors == g.colors && (f.ncolors == g.ncolors && (f.sub == g.sub && (f.keys == g.keys && (f.tap == g.tap && (eqB f.pow g.pow && (eqB f.tough g.tough && (eqB f.val g.val && true))))))))))))
theorem eqF_iff {f g : Fil.Flt} : eqF f g = true ↔ f = g := by
  cases f; cases g
  simp [eqF, eqB_iff]
theorem eqF_refl (f : Fil.Flt) : eqF f f = true := eqF_iff.2 rfl
theorem run_eq_str (d : Nat) (a b : ByteArray) (w : World) : (Op.equalIn (d + 1) 9 (.string a) (.string b)).run Tryz.prog w = .ok (a.data.toList == b.data.toList) w := by
  rw [run_equalIn_string w d 9 a b Tryz.underlying9]
  congr 1
  rw [Bool.eq_iff_iff]
  simp [Lib.toList_data]
theorem part_pow (f : Fil.Flt) (fs : ByteArray) (w : World) : (part 23 #[.int .i64 f.zone, .int .i64 f.who, .int .i64 f.self, .int .i64 f.types, .int .i64 f.ntypes, .int .i64 f.colors, .int .i64 f.ncolors, .string fs, .int .i64 f.keys, .int .i64 f.tap, .int .i64 f.pow.kind, .int .i64 f.pow.n, .int .i64 f.tough.kind, .int .i64 f.tough.n, .int .i64 f.val.kind, .int .i64 f.val.n] 10).run Tryz.prog w = .ok (.agg #[.int .i64 f.pow.kind, .int .i64 f.pow.n]) w := by kernel_rfl
theorem part_tough (f : Fil.Flt) (fs : ByteArray) (w : World) : (part 23 #[.int .i64 f.zone, .int .i64 f.who, .int .i64 f.self, .int .i64 f.types, .int .i64 f.ntypes, .int .i64 f.colors, .int .i64 f.ncolors, .string fs, .int .i64 f.keys, .int .i64 f.tap, .int .i64 f.pow.kind, .int .i64 f.pow.n, .int .i64 f.tough.kind, .int .i64 f.tough.n, .int .i64 f.val.kind, .int .i64 f.val.n] 12).run Tryz.prog w = .ok (.agg #[.int .i64 f.tough.kind, .int .i64 f.tough.n]) w := by kernel_rfl
theorem part_val (f : Fil.Flt) (fs : ByteArray) (w : World) : (part 23 #[.int .i64 f.zone, .int .i64 f.who, .int .i64 f.self, .int .i64 f.types, .int .i64 f.ntypes, .int .i64 f.colors, .int .i64 f.ncolors, .string fs, .int .i64 f.keys, .int .i64 f.tap, .int .i64 f.pow.kind, .int .i64 f.pow.n, .int .i64 f.tough.kind, .int .i64 f.tough.n, .int .i64 f.val.kind, .int .i64 f.val.n] 14).run Tryz.prog w = .ok (.agg #[.int .i64 f.val.kind, .int .i64 f.val.n]) w := by kernel_rfl
theorem run_eq_fltD (d : Nat) (f g : Fil.Flt) (fs gs : ByteArray) (hf : f.sub = fs.data.toList) (hg : g.sub = gs.data.toList) (w : World) : (Op.equalIn (d + 1 + 1 + 1) 25 (.agg #[.int .i64 f.zone, .int .i64 f.who, .int .i64 f.self, .int .i64 f.types, .int .i64 f.ntypes, .int .i64 f.colors, .int .i64 f.ncolors, .string fs, .int .i64 f.keys, .int .i64 f.tap, .int .i64 f.pow.kind, .int .i64 f.pow.n, .int .i64 f.tough.kind, .int .i64 f.tough.n, .int .i64 f.val.kind, .int .i64 f.val.n]) (.agg #[.int .i64 g.zone, .int .i64 g.who, .int .i64 g.self, .int .i64 g.types, .int .i64 g.ntypes, .int .i64 g.colors, .int .i64 g.ncolors, .string gs, .int .i64 g.keys, .int .i64 g.tap, .int .i64 g.pow.kind, .int .i64 g.pow.n, .int .i64 g.tough.kind, .int .i64 g.tough.n, .int .i64 g.val.kind, .int .i64 g.val.n])).run Tryz.prog w = .ok (eqF f g) w := by
  rw [run_equalIn_struct w (d + 1 + 1) 25 _ _ (by kernel_rfl) (by kernel_rfl)]
  simp only [Program.fieldsOf, Tryz.underlying25]
  have k12 := eqFields_step (d + 1 + 1) #[.int .i64 f.zone, .int .i64 f.who, .int .i64 f.self, .int .i64 f.types, .int .i64 f.ntypes, .int .i64 f.colors, .int .i64 f.ncolors, .string fs, .int .i64 f.keys, .int .i64 f.tap, .int .i64 f.pow.kind, .int .i64 f.pow.n, .int .i64 f.tough.kind, .int .i64 f.tough.n, .int .i64 f.val.kind, .int .i64 f.val.n] #[.int .i64 g.zone, .int .i64 g.who, .int .i64 g.self, .int .i64 g.types, .int .i64 g.ntypes, .int .i64 g.colors, .int .i64 g.ncolors, .string gs, .int .i64 g.keys, .int .i64 g.tap, .int .i64 g.pow.kind, .int .i64 g.pow.n, .int .i64 g.tough.kind, .int .i64 g.tough.n, .int .i64 g.val.kind, .int .i64 g.val.n] { name := "Value", type := 23, offset := 14, embedded := false, tag := "", pkgPath := "", byteOffset := 120 } [] (by decide) _ _ w (part_val f fs w) (part_val g gs w) (run_eq_bd d f.val g.val w) (r := true) (by simp [Op.eqFields])
  have k11 := eqFields_step (d + 1 + 1) #[.int .i64 f.zone, .int .i64 f.who, .int .i64 f.self, .int .i64 f.types, .int .i64 f.ntypes, .int .i64 f.colors, .int .i64 f.ncolors, .string fs, .int .i64 f.keys, .int .i64 f.tap, .int .i64 f.pow.kind, .int .i64 f.pow.n, .int .i64 f.tough.kind, .int .i64 f.tough.n, .int .i64 f.val.kind, .int .i64 f.val.n] #[.int .i64 g.zone, .int .i64 g.who, .int .i64 g.self, .int .i64 g.types, .int .i64 g.ntypes, .int .i64 g.colors, .int .i64 g.ncolors, .string gs, .int .i64 g.keys, .int .i64 g.tap, .int .i64 g.pow.kind, .int .i64 g.pow.n, .int .i64 g.tough.kind, .int .i64 g.tough.n, .int .i64 g.val.kind, .int .i64 g.val.n] { name := "Tough", type := 23, offset := 12, embedded := false, tag := "", pkgPath := "", byteOffset := 104 } _ (by decide) _ _ w (part_tough f fs w) (part_tough g gs w) (run_eq_bd d f.tough g.tough w) k12
  have k10 := eqFields_step (d + 1 + 1) #[.int .i64 f.zone, .int .i64 f.who, .int .i64 f.self, .int .i64 f.types, .int .i64 f.ntypes, .int .i64 f.colors, .int .i64 f.ncolors, .string fs, .int .i64 f.keys, .int .i64 f.tap, .int .i64 f.pow.kind, .int .i64 f.pow.n, .int .i64 f.tough.kind, .int .i64 f.tough.n, .int .i64 f.val.kind, .int .i64 f.val.n] #[.int .i64 g.zone, .int .i64 g.who, .int .i64 g.self, .int .i64 g.types, .int .i64 g.ntypes, .int .i64 g.colors, .int .i64 g.ncolors, .string gs, .int .i64 g.keys, .int .i64 g.tap, .int .i64 g.pow.kind, .int .i64 g.pow.n, .int .i64 g.tough.kind, .int .i64 g.tough.n, .int .i64 g.val.kind, .int .i64 g.val.n] { name := "Power", type := 23, offset := 10, embedded := false, tag := "", pkgPath := "", byteOffset := 88 } _ (by decide) _ _ w (part_pow f fs w) (part_pow g gs w) (run_eq_bd d f.pow g.pow w) k11
  have k9 := eqFields_step (d + 1 + 1) #[.int .i64 f.zone, .int .i64 f.who, .int .i64 f.self, .int .i64 f.types, .int .i64 f.ntypes, .int .i64 f.colors, .int .i64 f.ncolors, .string fs, .int .i64 f.keys, .int .i64 f.tap, .int .i64 f.pow.kind, .int .i64 f.pow.n, .int .i64 f.tough.kind, .int .i64 f.tough.n, .int .i64 f.val.kind, .int .i64 f.val.n] #[.int .i64 g.zone, .int .i64 g.who, .int .i64 g.self, .int .i64 g.types, .int .i64 g.ntypes, .int .i64 g.colors, .int .i64 g.ncolors, .string gs, .int .i64 g.keys, .int .i64 g.tap, .int .i64 g.pow.kind, .int .i64 g.pow.n, .int .i64 g.tough.kind, .int .i64 g.tough.n, .int .i64 g.val.kind, .int .i64 g.val.n] { name := "Tap", type := 3, offset := 9, embedded := false, tag := "", pkgPath := "", byteOffset := 80 } _ (by decide) _ _ w (partInt _ 9 _ rfl w) (partInt _ 9 _ rfl w) (run_equalIn_int w (d + 1) 3 .i64 .i64 f.tap g.tap Tryz.underlying3) k10
  have k8 := eqFields_step (d + 1 + 1) #[.int .i64 f.zone, .int .i64 f.who, .int .i64 f.self, .int .i64 f.types, .int .i64 f.ntypes, .int .i64 f.colors, .int .i64 f.ncolors, .string fs, .int .i64 f.keys, .int .i64 f.tap, .int .i64 f.pow.kind, .int .i64 f.pow.n, .int .i64 f.tough.kind, .int .i64 f.tough.n, .int .i64 f.val.kind, .int .i64 f.val.n] #[.int .i64 g.zone, .int .i64 g.who, .int .i64 g.self, .int .i64 g.types, .int .i64 g.ntypes, .int .i64 g.colors, .int .i64 g.ncolors, .string gs, .int .i64 g.keys, .int .i64 g.tap, .int .i64 g.pow.kind, .int .i64 g.pow.n, .int .i64 g.tough.kind, .int .i64 g.tough.n, .int .i64 g.val.kind, .int .i64 g.val.n] { name := "Keys", type := 3, offset := 8, embedded := false, tag := "", pkgPath := "", byteOffset := 72 } _ (by decide) _ _ w (partInt _ 8 _ rfl w) (partInt _ 8 _ rfl w) (run_equalIn_int w (d + 1) 3 .i64 .i64 f.keys g.keys Tryz.underlying3) k9
  have k7 := eqFields_step (d + 1 + 1) #[.int .i64 f.zone, .int .i64 f.who, .int .i64 f.self, .int .i64 f.types, .int .i64 f.ntypes, .int .i64 f.colors, .int .i64 f.ncolors, .string fs, .int .i64 f.keys, .int .i64 f.tap, .int .i64 f.pow.kind, .int .i64 f.pow.n, .int .i64 f.tough.kind, .int .i64 f.tough.n, .int .i64 f.val.kind, .int .i64 f.val.n] #[.int .i64 g.zone, .int .i64 g.who, .int .i64 g.self, .int .i64 g.types, .int .i64 g.ntypes, .int .i64 g.colors, .int .i64 g.ncolors, .string gs, .int .i64 g.keys, .int .i64 g.tap, .int .i64 g.pow.kind, .int .i64 g.pow.n, .int .i64 g.tough.kind, .int .i64 g.tough.n, .int .i64 g.val.kind, .int .i64 g.val.n] { name := "Sub", type := 9, offset := 7, embedded := false, tag := "", pkgPath := "", byteOffset := 56 } _ (by decide) _ _ w (partStr _ 7 _ rfl w) (partStr _ 7 _ rfl w) (run_eq_str (d + 1) fs gs w) k8
  have k6 := eqFields_step (d + 1 + 1) #[.int .i64 f.zone, .int .i64 f.who, .int .i64 f.self, .int .i64 f.types, .int .i64 f.ntypes, .int .i64 f.colors, .int .i64 f.ncolors, .string fs, .int .i64 f.keys, .int .i64 f.tap, .int .i64 f.pow.kind, .int .i64 f.pow.n, .int .i64 f.tough.kind, .int .i64 f.tough.n, .int .i64 f.val.kind, .int .i64 f.val.n] #[.int .i64 g.zone, .int .i64 g.who, .int .i64 g.self, .int .i64 g.types, .int .i64 g.ntypes, .int .i64 g.colors, .int .i64 g.ncolors, .string gs, .int .i64 g.keys, .int .i64 g.tap, .int .i64 g.pow.kind, .int .i64 g.pow.n, .int .i64 g.tough.kind, .int .i64 g.tough.n, .int .i64 g.val.kind, .int .i64 g.val.n] { name := "NotColors", type := 3, offset := 6, embedded := false, tag := "", pkgPath := "", byteOffset := 48 } _ (by decide) _ _ w (partInt _ 6 _ rfl w) (partInt _ 6 _ rfl w) (run_equalIn_int w (d + 1) 3 .i64 .i64 f.ncolors g.ncolors Tryz.underlying3) k7
  have k5 := eqFields_step (d + 1 + 1) #[.int .i64 f.zone, .int .i64 f.who, .int .i64 f.self, .int .i64 f.types, .int .i64 f.ntypes, .int .i64 f.colors, .int .i64 f.ncolors, .string fs, .int .i64 f.keys, .int .i64 f.tap, .int .i64 f.pow.kind, .int .i64 f.pow.n, .int .i64 f.tough.kind, .int .i64 f.tough.n, .int .i64 f.val.kind, .int .i64 f.val.n] #[.int .i64 g.zone, .int .i64 g.who, .int .i64 g.self, .int .i64 g.types, .int .i64 g.ntypes, .int .i64 g.colors, .int .i64 g.ncolors, .string gs, .int .i64 g.keys, .int .i64 g.tap, .int .i64 g.pow.kind, .int .i64 g.pow.n, .int .i64 g.tough.kind, .int .i64 g.tough.n, .int .i64 g.val.kind, .int .i64 g.val.n] { name := "Colors", type := 3, offset := 5, embedded := false, tag := "", pkgPath := "", byteOffset := 40 } _ (by decide) _ _ w (partInt _ 5 _ rfl w) (partInt _ 5 _ rfl w) (run_equalIn_int w (d + 1) 3 .i64 .i64 f.colors g.colors Tryz.underlying3) k6
  have k4 := eqFields_step (d + 1 + 1) #[.int .i64 f.zone, .int .i64 f.who, .int .i64 f.self, .int .i64 f.types, .int .i64 f.ntypes, .int .i64 f.colors, .int .i64 f.ncolors, .string fs, .int .i64 f.keys, .int .i64 f.tap, .int .i64 f.pow.kind, .int .i64 f.pow.n, .int .i64 f.tough.kind, .int .i64 f.tough.n, .int .i64 f.val.kind, .int .i64 f.val.n] #[.int .i64 g.zone, .int .i64 g.who, .int .i64 g.self, .int .i64 g.types, .int .i64 g.ntypes, .int .i64 g.colors, .int .i64 g.ncolors, .string gs, .int .i64 g.keys, .int .i64 g.tap, .int .i64 g.pow.kind, .int .i64 g.pow.n, .int .i64 g.tough.kind, .int .i64 g.tough.n, .int .i64 g.val.kind, .int .i64 g.val.n] { name := "NotTypes", type := 3, offset := 4, embedded := false, tag := "", pkgPath := "", byteOffset := 32 } _ (by decide) _ _ w (partInt _ 4 _ rfl w) (partInt _ 4 _ rfl w) (run_equalIn_int w (d + 1) 3 .i64 .i64 f.ntypes g.ntypes Tryz.underlying3) k5
  have k3 := eqFields_step (d + 1 + 1) #[.int .i64 f.zone, .int .i64 f.who, .int .i64 f.self, .int .i64 f.types, .int .i64 f.ntypes, .int .i64 f.colors, .int .i64 f.ncolors, .string fs, .int .i64 f.keys, .int .i64 f.tap, .int .i64 f.pow.kind, .int .i64 f.pow.n, .int .i64 f.tough.kind, .int .i64 f.tough.n, .int .i64 f.val.kind, .int .i64 f.val.n] #[.int .i64 g.zone, .int .i64 g.who, .int .i64 g.self, .int .i64 g.types, .int .i64 g.ntypes, .int .i64 g.colors, .int .i64 g.ncolors, .string gs, .int .i64 g.keys, .int .i64 g.tap, .int .i64 g.pow.kind, .int .i64 g.pow.n, .int .i64 g.tough.kind, .int .i64 g.tough.n, .int .i64 g.val.kind, .int .i64 g.val.n] { name := "Types", type := 3, offset := 3, embedded := false, tag := "", pkgPath := "", byteOffset := 24 } _ (by decide) _ _ w (partInt _ 3 _ rfl w) (partInt _ 3 _ rfl w) (run_equalIn_int w (d + 1) 3 .i64 .i64 f.types g.types Tryz.underlying3) k4
  have k2 := eqFields_step (d + 1 + 1) #[.int .i64 f.zone, .int .i64 f.who, .int .i64 f.self, .int .i64 f.types, .int .i64 f.ntypes, .int .i64 f.colors, .int .i64 f.ncolors, .string fs, .int .i64 f.keys, .int .i64 f.tap, .int .i64 f.pow.kind, .int .i64 f.pow.n, .int .i64 f.tough.kind, .int .i64 f.tough.n, .int .i64 f.val.kind, .int .i64 f.val.n] #[.int .i64 g.zone, .int .i64 g.who, .int .i64 g.self, .int .i64 g.types, .int .i64 g.ntypes, .int .i64 g.colors, .int .i64 g.ncolors, .string gs, .int .i64 g.keys, .int .i64 g.tap, .int .i64 g.pow.kind, .int .i64 g.pow.n, .int .i64 g.tough.kind, .int .i64 g.tough.n, .int .i64 g.val.kind, .int .i64 g.val.n] { name := "Self", type := 3, offset := 2, embedded := false, tag := "", pkgPath := "", byteOffset := 16 } _ (by decide) _ _ w (partInt _ 2 _ rfl w) (partInt _ 2 _ rfl w) (run_equalIn_int w (d + 1) 3 .i64 .i64 f.self g.self Tryz.underlying3) k3
  have k1 := eqFields_step (d + 1 + 1) #[.int .i64 f.zone, .int .i64 f.who, .int .i64 f.self, .int .i64 f.types, .int .i64 f.ntypes, .int .i64 f.colors, .int .i64 f.ncolors, .string fs, .int .i64 f.keys, .int .i64 f.tap, .int .i64 f.pow.kind, .int .i64 f.pow.n, .int .i64 f.tough.kind, .int .i64 f.tough.n, .int .i64 f.val.kind, .int .i64 f.val.n] #[.int .i64 g.zone, .int .i64 g.who, .int .i64 g.self, .int .i64 g.types, .int .i64 g.ntypes, .int .i64 g.colors, .int .i64 g.ncolors, .string gs, .int .i64 g.keys, .int .i64 g.tap, .int .i64 g.pow.kind, .int .i64 g.pow.n, .int .i64 g.tough.kind, .int .i64 g.tough.n, .int .i64 g.val.kind, .int .i64 g.val.n] { name := "Who", type := 3, offset := 1, embedded := false, tag := "", pkgPath := "", byteOffset := 8 } _ (by decide) _ _ w (partInt _ 1 _ rfl w) (partInt _ 1 _ rfl w) (run_equalIn_int w (d + 1) 3 .i64 .i64 f.who g.who Tryz.underlying3) k2
  have k0 := eqFields_step (d + 1 + 1) #[.int .i64 f.zone, .int .i64 f.who, .int .i64 f.self, .int .i64 f.types, .int .i64 f.ntypes, .int .i64 f.colors, .int .i64 f.ncolors, .string fs, .int .i64 f.keys, .int .i64 f.tap, .int .i64 f.pow.kind, .int .i64 f.pow.n, .int .i64 f.tough.kind, .int .i64 f.tough.n, .int .i64 f.val.kind, .int .i64 f.val.n] #[.int .i64 g.zone, .int .i64 g.who, .int .i64 g.self, .int .i64 g.types, .int .i64 g.ntypes, .int .i64 g.colors, .int .i64 g.ncolors, .string gs, .int .i64 g.keys, .int .i64 g.tap, .int .i64 g.pow.kind, .int .i64 g.pow.n, .int .i64 g.tough.kind, .int .i64 g.tough.n, .int .i64 g.val.kind, .int .i64 g.val.n] { name := "Zone", type := 3, offset := 0, embedded := false, tag := "", pkgPath := "", byteOffset := 0 } _ (by decide) _ _ w (partInt _ 0 _ rfl w) (partInt _ 0 _ rfl w) (run_equalIn_int w (d + 1) 3 .i64 .i64 f.zone g.zone Tryz.underlying3) k1
  rw [← hf, ← hg] at k0
  rw [k0]
  rfl
theorem run_eq_flt (f g : Fil.Flt) (fs gs : ByteArray) (hf : f.sub = fs.data.toList) (hg : g.sub = gs.data.toList) (w : World) : (Op.equalIn 10000 25 (.agg #[.int .i64 f.zone, .int .i64 f.who, .int .i64 f.self, .int .i64 f.types, .int .i64 f.ntypes, .int .i64 f.colors, .int .i64 f.ncolors, .string fs, .int .i64 f.keys, .int .i64 f.tap, .int .i64 f.pow.kind, .int .i64 f.pow.n, .int .i64 f.tough.kind, .int .i64 f.tough.n, .int .i64 f.val.kind, .int .i64 f.val.n]) (.agg #[.int .i64 g.zone, .int .i64 g.who, .int .i64 g.self, .int .i64 g.types, .int .i64 g.ntypes, .int .i64 g.colors, .int .i64 g.ncolors, .string gs, .int .i64 g.keys, .int .i64 g.tap, .int .i64 g.pow.kind, .int .i64 g.pow.n, .int .i64 g.tough.kind, .int .i64 g.tough.n, .int .i64 g.val.kind, .int .i64 g.val.n])).run Tryz.prog w = .ok (eqF f g) w := run_eq_fltD 9997 f g fs gs hf hg w
end Go.Proofs.YtohgdmlpffeoiaaGreatDoor
namespace Go.Proofs.YtohgdmlpffeoiaaGreatDoor
open Go.RowKit
open Wd (Bs)

theorem run_eq_zero (W : World) : (Op.equalIn 10000 25 (.agg cellsZ) (.agg cellsZ)).run Tryz.prog W = .ok true W := by
  have h := run_eq_flt Fil.zero Fil.zero ⟨#[]⟩ ⟨#[]⟩ rfl rfl W
  rw [eqF_refl] at h
  exact h
theorem run_eq_self (a : Fil.Acc) (fs : ByteArray) (h : a.sub = fs.data.toList) (W : World) : (Op.equalIn 10000 25 (.agg (cellsA a fs)) (.agg (cellsA a fs))).run Tryz.prog W = .ok true W := by
  have h := run_eq_flt a.flt a.flt fs fs h h W
  rw [eqF_refl] at h
  exact h
theorem acc_flt_inj {a b : Fil.Acc} (h : a.flt = b.flt) : a = b := by
  obtain ⟨a1, a2, a3, a4, a5, a6, a7, a8, a9, a10, a11, a12, a13⟩ := a
  obtain ⟨b1, b2, b3, b4, b5, b6, b7, b8, b9, b10, b11, b12, b13⟩ := b
  unfold Fil.Acc.flt at h
  injection h with h1 h2 h3 h4 h5 h6 h7 h8 h9 h10 h11 h12 h13
  rw [Fil.Acc.mk.injEq]
  simp only at h1 h2 h3 h4 h5 h6 h7 h9 h10
  exact ⟨by omega, by omega, by omega, by omega, by omega, by omega, by omega, h8, by omega, by omega, h11, h12, h13⟩
theorem bytes_one {a b : ByteArray} (h : a.data.toList = b.data.toList) : a = b := by
  cases a; cases b
  simp at h
  rw [h]
theorem parseRes_yes {s : Bs} {a : Fil.Acc} {fs : ByteArray} (hfs : a.sub = fs.data.toList) (h1 : Fil.parseV s = a.flt) (h2 : Fil.parseE s = 0) {w w' : World} {e : Ending} (h : ParseRes s w e w') :
    e = .returned (.tuple #[.agg (cellsA a fs), .int .i64 0]) ∧ Below w.heap.size w w' := by
  rcases h with ⟨b, gs, h4, h5, h6, h7, h8, h9, h10⟩ | ⟨h4, h5, h6, h7⟩
  · rw [h1] at h4
    have e1 := acc_flt_inj h4
    subst e1
    have e2 := bytes_one (hfs.symm.trans h8)
    subst e2
    exact ⟨h9, h10⟩
  · rw [h2] at h5; cases h5
theorem parseRes_no {s : Bs} (h2 : Fil.parseE s = 3) {w w' : World} {e : Ending} (h : ParseRes s w e w') :
    e = .returned (.tuple #[.agg cellsZ, .int .i64 3]) ∧ Below w.heap.size w w' := by
  rcases h with ⟨a, fs, h4, h5, h6, h7, h8, h9, h10⟩ | ⟨h4, h5, h6, h7⟩
  · rw [h2] at h5; cases h5
  · exact ⟨h6, h7⟩
end Go.Proofs.YtohgdmlpffeoiaaGreatDoor
namespace Go.Proofs.YtohgdmlpffeoiaaGreatDoor
open Go.RowKit

/-- the text of a valid filter is short -/
theorem textF_len {f : Fil.Flt} (h : Fil.validB f = true) : (Fil.textF f).length ≤ 4000 := by
  rw [Fil.textF_valid h]
  unfold Fil.textP
  split
  · decide
  · exact text_len (Fil.valid_of h)
end Go.Proofs.YtohgdmlpffeoiaaGreatDoor
namespace Go.Proofs.YtohgdmlpffeoiaaGreatDoor
open Go.RowKit
open Wd (Bs)

def aliveA : Fil.Acc := ⟨0, 1, 2, 1, 0, 0, 0, [], 1, 0, ⟨1, 3⟩, Fil.zeroB, Fil.zeroB⟩
def aliveS : Bs := [121, 111, 117, 114, 115, 32, 111, 116, 104, 101, 114, 32, 99, 114, 101, 97, 116, 117, 114, 101, 32, 119, 105, 116, 104, 58, 102, 108, 121, 105, 110, 103, 32, 112, 111, 119, 101, 114, 62, 61, 51]
def aliveS2 : Bs := [99, 114, 101, 97, 116, 117, 114, 101, 32, 121, 111, 117, 114, 115]
def oneA : Fil.Acc := ⟨0, 0, 0, 1, 0, 0, 0, [], 0, 0, Fil.zeroB, Fil.zeroB, Fil.zeroB⟩
theorem sub_nil : Fil.subB [] = true := by unfold Fil.subB; simp
theorem valid_alive : Fil.validB aliveA.flt = true := by
  unfold Fil.validB
  rw [show Fil.subB aliveA.flt.sub = true from sub_nil]
  decide +kernel
theorem valid_zero : Fil.validB Fil.zero = true := by
  unfold Fil.validB
  rw [show Fil.subB Fil.zero.sub = true from sub_nil]
  decide +kernel
theorem valid_one : Fil.validB oneA.flt = true := by
  unfold Fil.validB
  rw [show Fil.subB oneA.flt.sub = true from sub_nil]
  decide +kernel
theorem text_alive : Fil.textF aliveA.flt = aliveS := by
  rw [Fil.textF_valid valid_alive]
  decide +kernel
theorem text_zero : Fil.textF Fil.zero = Fil.sAny := by
  rw [Fil.textF_valid valid_zero]
  decide +kernel
theorem text_one : Fil.textF oneA.flt ≠ aliveS2 := by
  rw [Fil.textF_valid valid_one]
  decide +kernel
theorem read_bad : Fil.readP aliveS2 = oneA.flt := by decide +kernel
theorem parse_bad : Fil.parseV aliveS2 = Fil.zero ∧ Fil.parseE aliveS2 = 3 := Fil.parse_no fun h => by
  have := h.2
  rw [read_bad] at this
  exact text_one this
theorem acc_inj {a b : Fil.Acc} (h : a.flt = b.flt) : a = b := by
  cases a; cases b
  simp only [Fil.Acc.flt, Fil.Flt.mk.injEq] at h
  obtain ⟨h0, h1, h2, h3, h4, h5, h6, h7, h8, h9, h10, h11, h12⟩ := h
  rw [Fil.Acc.mk.injEq]
  exact ⟨by omega, by omega, by omega, by omega, by omega, by omega, by omega, h7, by omega, by omega, h10, h11, h12⟩
theorem bytes_none {s : ByteArray} (h : s.data.toList = []) : s = ⟨#[]⟩ := by
  cases s with | mk a => cases a with | mk l => simp at h; rw [h]
/-- Parse at a text whose filter is known -/
theorem parseAt (s : ByteArray) (q : Fil.Acc) (hq : Fil.validB q.flt = true) (ht : Fil.textF q.flt = s.data.toList) (hn : q.sub = []) (hs : s.size ≤ 1000000) (W : World) (hE : Env W) :
    Calls Tryz.prog 67 #[.string s] W fun e w' => e = .returned (.tuple #[.agg #[.int .i64 (q.zone : Int), .int .i64 (q.who : Int), .int .i64 (q.self : Int), .int .i64 (q.types : Int), .int .i64 (q.ntypes : Int), .int .i64 (q.colors : Int), .int .i64 (q.ncolors : Int), .string ⟨#[]⟩, .int .i64 (q.keys : Int), .int .i64 (q.tap : Int), .int .i64 q.pow.kind, .int .i64 q.pow.n, .int .i64 q.tough.kind, .int .i64 q.tough.n, .int .i64 q.val.kind, .int .i64 q.val.n], .int .i64 0]) ∧ Below W.heap.size W w' :=
  (filParse s W hs hE).mono fun e w' h => by
    have hp := Fil.parse_text hq
    rw [ht] at hp
    rcases h with ⟨a, fs, h1, h2, _, _, h5, h6, h7⟩ | ⟨h1, h2, _, _⟩
    · obtain rfl : q = a := acc_inj (hp.1.symm.trans h1)
      obtain rfl : fs = ⟨#[]⟩ := bytes_none (h5.symm.trans hn)
      exact ⟨h6, h7⟩
    · rw [hp.2] at h2; cases h2
theorem parseNone (s : ByteArray) (he : Fil.parseE s.data.toList = 3) (hs : s.size ≤ 1000000) (W : World) (hE : Env W) :
    Calls Tryz.prog 67 #[.string s] W fun e w' => e = .returned (.tuple #[.agg #[.int .i64 0, .int .i64 0, .int .i64 0, .int .i64 0, .int .i64 0, .int .i64 0, .int .i64 0, .string ⟨#[]⟩, .int .i64 0, .int .i64 0, .int .i64 0, .int .i64 0, .int .i64 0, .int .i64 0, .int .i64 0, .int .i64 0], .int .i64 3]) ∧ Below W.heap.size W w' :=
  (filParse s W hs hE).mono fun e w' h => by
    rcases h with ⟨_, _, _, h2, _⟩ | ⟨_, _, h3, h4⟩
    · rw [he] at h2; cases h2
    · exact ⟨h3, h4⟩
theorem aliveP1 (W : World) (hE : Env W) : Calls Tryz.prog 67 #[.string ⟨#[121, 111, 117, 114, 115, 32, 111, 116, 104, 101, 114, 32, 99, 114, 101, 97, 116, 117, 114, 101, 32, 119, 105, 116, 104, 58, 102, 108, 121, 105, 110, 103, 32, 112, 111, 119, 101, 114, 62, 61, 51]⟩] W fun e w' => e = .returned (.tuple #[.agg #[.int .i64 0, .int .i64 1, .int .i64 2, .int .i64 1, .int .i64 0, .int .i64 0, .int .i64 0, .string ⟨#[]⟩, .int .i64 1, .int .i64 0, .int .i64 1, .int .i64 3, .int .i64 0, .int .i64 0, .int .i64 0, .int .i64 0], .int .i64 0]) ∧ Below W.heap.size W w' :=
  parseAt ⟨#[121, 111, 117, 114, 115, 32, 111, 116, 104, 101, 114, 32, 99, 114, 101, 97, 116, 117, 114, 101, 32, 119, 105, 116, 104, 58, 102, 108, 121, 105, 110, 103, 32, 112, 111, 119, 101, 114, 62, 61, 51]⟩ aliveA valid_alive text_alive rfl (by decide) W hE
theorem aliveP2 (W : World) (hE : Env W) : Calls Tryz.prog 67 #[.string ⟨#[97, 110, 121]⟩] W fun e w' => e = .returned (.tuple #[.agg #[.int .i64 0, .int .i64 0, .int .i64 0, .int .i64 0, .int .i64 0, .int .i64 0, .int .i64 0, .string ⟨#[]⟩, .int .i64 0, .int .i64 0, .int .i64 0, .int .i64 0, .int .i64 0, .int .i64 0, .int .i64 0, .int .i64 0], .int .i64 0]) ∧ Below W.heap.size W w' :=
  parseAt ⟨#[97, 110, 121]⟩ Fil.zeroA valid_zero text_zero rfl (by decide) W hE
theorem aliveP3 (W : World) (hE : Env W) : Calls Tryz.prog 67 #[.string ⟨#[99, 114, 101, 97, 116, 117, 114, 101, 32, 121, 111, 117, 114, 115]⟩] W fun e w' => e = .returned (.tuple #[.agg #[.int .i64 0, .int .i64 0, .int .i64 0, .int .i64 0, .int .i64 0, .int .i64 0, .int .i64 0, .string ⟨#[]⟩, .int .i64 0, .int .i64 0, .int .i64 0, .int .i64 0, .int .i64 0, .int .i64 0, .int .i64 0, .int .i64 0], .int .i64 3]) ∧ Below W.heap.size W w' :=
  parseNone ⟨#[99, 114, 101, 97, 116, 117, 114, 101, 32, 121, 111, 117, 114, 115]⟩ parse_bad.2 (by decide) W hE
theorem aliveTx (W : World) (hE : Env W) : Calls Tryz.prog 20 #[.agg #[.int .i64 0, .int .i64 1, .int .i64 2, .int .i64 1, .int .i64 0, .int .i64 0, .int .i64 0, .string ⟨#[]⟩, .int .i64 1, .int .i64 0, .int .i64 1, .int .i64 3, .int .i64 0, .int .i64 0, .int .i64 0, .int .i64 0]] W fun e w' => e = .returned (.string ⟨#[121, 111, 117, 114, 115, 32, 111, 116, 104, 101, 114, 32, 99, 114, 101, 97, 116, 117, 114, 101, 32, 119, 105, 116, 104, 58, 102, 108, 121, 105, 110, 103, 32, 112, 111, 119, 101, 114, 62, 61, 51]⟩) ∧ Below W.heap.size W w' := by
  have h := filText aliveA.flt ⟨#[]⟩ rfl (by decide) W hE
  rw [text_alive] at h
  exact h
theorem aliveIs (W : World) (hE : Env W) : Calls Tryz.prog 15 #[.agg #[.int .i64 0, .int .i64 0, .int .i64 0, .int .i64 0, .int .i64 0, .int .i64 0, .int .i64 0, .string ⟨#[]⟩, .int .i64 0, .int .i64 3, .int .i64 0, .int .i64 0, .int .i64 0, .int .i64 0, .int .i64 0, .int .i64 0]] W fun e w' => e = .returned (.bool false) ∧ Below W.heap.size W w' := by
  have h := filIs ⟨0, 0, 0, 0, 0, 0, 0, [], 0, 3, Fil.zeroB, Fil.zeroB, Fil.zeroB⟩ ⟨#[]⟩ rfl (by decide) W hE
  have hv : Fil.validB ⟨0, 0, 0, 0, 0, 0, 0, [], 0, 3, Fil.zeroB, Fil.zeroB, Fil.zeroB⟩ = false := by
    unfold Fil.validB
    rw [show Fil.subB (⟨0, 0, 0, 0, 0, 0, 0, [], 0, 3, Fil.zeroB, Fil.zeroB, Fil.zeroB⟩ : Fil.Flt).sub = true from sub_nil]
    decide +kernel
  rw [hv] at h
  exact h
end Go.Proofs.YtohgdmlpffeoiaaGreatDoor
namespace Go.Proofs.YtohgdmlpffeoiaaGreatDoor
open Go.RowKit

section
variable {ops : Array Oper} {Q : Exit → Act → World → Prop} {md : Region.Mode} {S : World → Prop}
theorem take_loadF (i : Nat) (d : Option Tmp) {oi : Oper} {fuel : Nat} {listed : Array Bool} {a : Act} {w : World} (hi : ops[i]? = some oi) (hd : oi.dst = d)
    (hs : Region.noSelect ops = true) (hf : Region.free md ops listed i = true) (hr : (Region.ready md ops listed).contains i = true)
    {b : Nat} {cs : Array Value} (hQ : ∀ c a w, Q (.panic c) (a.put d (.agg cs)) w → Q (.panic c) a w) (hw : Region.wanted oi (yielded ops a.tmps) = true) (x : Operand) (ho : oi.op = .load 25 x)
    (hx : a.eval x = .pointer (some ⟨b, 0, none⟩)) (hk : ∀ w, S w → Blk w b cs 25) (hn : cs.size = 16) (hS : S w)
    (h : wpAnyH Tryz.prog md ops Q S fuel (listed.setIfInBounds i true) (a.put d (.agg cs)) w) : wpAnyH Tryz.prog md ops Q S (fuel + 1) listed a w :=
  take_run i d hi hd hs hf hr hQ hw (fun w' h' => by
    unfold execOp
    have hl := run_loadVar_mid (P := Tryz.prog) w' b 0 25 cs.toList _ (hk w' h').range Tryz.underlying25 rfl (by rw [sizeTF]; simp [hn])
    simp only [ho, hx, Instr.loadAt, Instr.sureAddr, Sem.run_bind, Sem.run_pure, Result.andThen_ok, hl]) hS h
end
end Go.Proofs.YtohgdmlpffeoiaaGreatDoor
namespace Go.Proofs.YtohgdmlpffeoiaaGreatDoor.Ctr
open Go

/-- three kinds of counters -/
structure Tri where
  a : Int
  b : Int
  c : Int
/-- from 0 to MaxNum -/
def okN (n : Int) : Bool := decide (0 ≤ n) && decide (n ≤ 1000000)
theorem okN_yes {n : Int} (h : okN n = true) : 0 ≤ n ∧ n ≤ 1000000 := by unfold okN at h; simpa using h
theorem okN_mk {n : Int} (h0 : 0 ≤ n) (h1 : n ≤ 1000000) : okN n = true := by unfold okN; simp [h0, h1]
theorem okN_no {n : Int} (h : okN n = false) : n < 0 ∨ 1000000 < n := by
  rcases Int.lt_or_le n 0 with h0 | h0
  · exact .inl h0
  · rcases Int.lt_or_le 1000000 n with h1 | h1
    · exact .inr h1
    · rw [okN_mk h0 h1] at h; cases h
def okT (p : Tri) : Bool := okN p.a && (okN p.b && okN p.c)
def Tri.el (p : Tri) : Nat → Int
  | 0 => p.a
  | 1 => p.b
  | 2 => p.c
  | _ => 0
/-- the elements below k are valid -/
def okTo (p : Tri) (k : Nat) : Prop := ∀ i, i < k → okN (p.el i) = true
theorem okTo_zero (p : Tri) : okTo p 0 := fun i h => absurd h (by omega)
theorem okTo_yes {p : Tri} {k : Nat} (h : okTo p k) (h1 : okN (p.el k) = true) : okTo p (k + 1) := fun i hi => by
  by_cases e : i = k
  · rw [e]; exact h1
  · exact h i (by omega)
theorem okT_end {p : Tri} (h : okTo p 3) : okT p = true := by
  have h0 : okN p.a = true := h 0 (by omega)
  have h1 : okN p.b = true := h 1 (by omega)
  have h2 : okN p.c = true := h 2 (by omega)
  unfold okT; rw [h0, h1, h2]; rfl
theorem okT_no {p : Tri} {k : Nat} (hk : k < 3) (h : okN (p.el k) = false) : okT p = false := by
  match k, hk with
  | 0, _ => have h0 : okN p.a = false := h; unfold okT; rw [h0]; rfl
  | 1, _ => have h0 : okN p.b = false := h; unfold okT; rw [h0]; simp
  | 2, _ => have h0 : okN p.c = false := h; unfold okT; rw [h0]; simp
/-- one element set -/
def Tri.set (p : Tri) (k : Nat) (v : Int) : Tri :=
  match k with
  | 0 => ⟨v, p.b, p.c⟩
  | 1 => ⟨p.a, v, p.c⟩
  | 2 => ⟨p.a, p.b, v⟩
  | _ => p
/-- n added to one element, at least 0 -/
def addN (x n : Int) : Int := max 0 (Num.clampI (Num.clampI x + Num.clampI n))
def addT (p : Tri) (k n : Int) : Tri := if 0 ≤ k ∧ k < 3 then p.set k.toNat (addN (p.el k.toNat) n) else p
theorem addT_nat (p : Tri) {k : Nat} (hk : k < 3) (n : Int) : addT p (k : Int) n = p.set k (addN (p.el k) n) := by
  unfold addT; rw [if_pos (by omega)]; rfl
theorem addT_out {p : Tri} {k n : Int} (h : k < 0 ∨ 3 ≤ k) : addT p k n = p := by
  unfold addT; rw [if_neg (by omega)]
/-- the sum up to kind k -/
def sumTo (p q : Tri) : Nat → Tri
  | 0 => p
  | k + 1 => addT (sumTo p q k) (k : Int) (q.el k)
def sumT (p q : Tri) : Tri := sumTo p q 3
def minN (p : Tri) : Int := min p.a p.b
def pairsT (p : Tri) : Int := if okT p = true then minN p else 0
def cancelT (p : Tri) : Tri := if okT p = true then ⟨p.a - minN p, p.b - minN p, p.c⟩ else p
def powT (p : Tri) : Int := Num.clampI (Num.clampI p.a - Num.clampI p.b)
theorem okT_iff {p : Tri} : okT p = true ↔ (0 ≤ p.a ∧ p.a ≤ 1000000) ∧ (0 ≤ p.b ∧ p.b ≤ 1000000) ∧ (0 ≤ p.c ∧ p.c ≤ 1000000) := by
  unfold okT okN; simp
theorem pairs_ok {p : Tri} (h : okT p = true) : pairsT p = minN p := if_pos h
theorem pairs_bad {p : Tri} (h : okT p = false) : pairsT p = 0 := if_neg (by rw [h]; decide)
theorem cancel_ok {p : Tri} (h : okT p = true) : cancelT p = ⟨p.a - minN p, p.b - minN p, p.c⟩ := if_pos h
theorem cancel_bad {p : Tri} (h : okT p = false) : cancelT p = p := if_neg (by rw [h]; decide)
/-- what P12.4 says, and more -/
theorem cancel_laws {p : Tri} (h : okT p = true) : powT (cancelT p) = powT p ∧ ((cancelT p).a = 0 ∨ (cancelT p).b = 0) ∧ (cancelT p).c = p.c ∧ (cancelT p).a + pairsT p = p.a ∧ cancelT (cancelT p) = cancelT p ∧ pairsT (cancelT p) = 0 ∧ okT (cancelT p) = true := by
  obtain ⟨⟨a0, a1⟩, ⟨b0, b1⟩, ⟨c0, c1⟩⟩ := okT_iff.1 h
  have hm : minN p = min p.a p.b := rfl
  have ho : okT (cancelT p) = true := by
    rw [cancel_ok h, okT_iff]
    simp only
    omega
  have hz : minN (cancelT p) = 0 := by
    rw [cancel_ok h]
    unfold minN
    simp only
    omega
  refine ⟨?_, ?_, ?_, ?_, ?_, ?_, ho⟩
  · rw [cancel_ok h]
    unfold powT
    simp only
    rw [Num.clampI_in (n := p.a - minN p) (by omega) (by omega), Num.clampI_in (n := p.b - minN p) (by omega) (by omega), Num.clampI_in (n := p.a) (by omega) (by omega), Num.clampI_in (n := p.b) (by omega) (by omega)]
    congr 1
    omega
  · rw [cancel_ok h]
    simp only
    omega
  · rw [cancel_ok h]
  · rw [cancel_ok h, pairs_ok h]
    simp only
    omega
  · rw [cancel_ok ho, hz]
    simp
  · rw [pairs_ok ho, hz]
/-- the names -/
def name : Nat → List UInt8
  | 0 => [112, 108, 117, 115]
  | 1 => [109, 105, 110, 117, 115]
  | 2 => [99, 104, 97, 114, 103, 101]
  | _ => []
def nameI (k : Int) : List UInt8 := if k < 0 then [] else name k.toNat
theorem nameI_nat (k : Nat) : nameI (k : Int) = name k := by unfold nameI; rw [if_neg (by omega)]; rfl
theorem nameI_out {k : Int} (h : k < 0 ∨ 3 ≤ k) : nameI k = [] := by
  unfold nameI
  split
  · rfl
  · obtain ⟨n, rfl⟩ : ∃ n : Nat, k = (n : Int) := ⟨k.toNat, by omega⟩
    match n, (show 3 ≤ n by omega) with
    | n + 3, _ => rfl
def kindI (s : List UInt8) : Int := if name 0 = s then 0 else if name 1 = s then 1 else if name 2 = s then 2 else 0
def kindB (s : List UInt8) : Bool := decide (name 0 = s) || (decide (name 1 = s) || decide (name 2 = s))
theorem kind_name (k : Nat) (hk : k < 3) : kindI (name k) = (k : Int) ∧ kindB (name k) = true := by
  match k, hk with
  | 0, _ => decide
  | 1, _ => decide
  | 2, _ => decide
theorem kind_nil : kindI [] = 0 ∧ kindB [] = false := by decide
end Go.Proofs.YtohgdmlpffeoiaaGreatDoor.Ctr
namespace Go.Proofs.YtohgdmlpffeoiaaGreatDoor.Amt
open Wd (cut brk)

abbrev Bs := List UInt8
structure Amt where
  k : Int
  n : Int
  c : Int
  f : Fil.Flt
deriving DecidableEq
def zero : Amt := ⟨0, 0, 0, Fil.zero⟩
def sX : Bs := [120]
def sPower : Bs := [112, 111, 119, 101, 114]
def sLife : Bs := [108, 105, 102, 101]
def sHand : Bs := [104, 97, 110, 100]
def sThat : Bs := [116, 104, 97, 116]
def wordsL : List Bs := [[], sX, [], sPower, [], sLife, sHand, sThat]
def sCount : Bs := [99, 111, 117, 110, 116, 40]
def sCtrs : Bs := [99, 111, 117, 110, 116, 101, 114, 115, 40]
def bareB (n c : Int) (f : Fil.Flt) : Bool := decide (n = 0) && (decide (c = 0) && decide (f = Fil.zero))
noncomputable def okB (a : Amt) : Bool :=
  if a.k = 0 then Fil.within a.n 1000000 && bareB 0 a.c a.f
  else if a.k = 2 then (decide (1 ≤ a.n) && decide (a.n ≤ 99) && Fil.validB a.f) && bareB 0 a.c Fil.zero
  else if a.k = 4 then decide (Ctr.nameI a.c ≠ []) && bareB a.n 0 a.f
  else (decide (1 ≤ a.k) && decide (a.k ≤ 7)) && bareB a.n a.c a.f
noncomputable def cnt (f : Fil.Flt) : Bs := sCount ++ Fil.textF f ++ [41]
def wordI (k : Int) : Bs := wordsL.getD k.toNat []
noncomputable def raw (a : Amt) : Bs :=
  if a.k = 0 then Lib.itoa a.n
  else if a.k = 2 then (if a.n = 1 then cnt a.f else Lib.itoa a.n ++ [42] ++ cnt a.f)
  else if a.k = 4 then sCtrs ++ Ctr.nameI a.c ++ [41]
  else wordI a.k
noncomputable def textA (a : Amt) : Bs := if okB a then raw a else []
theorem textA_ok {a : Amt} (h : okB a = true) : textA a = raw a := by unfold textA; rw [if_pos h]
theorem textA_bad {a : Amt} (h : okB a = false) : textA a = [] := by unfold textA; rw [if_neg (by simp [h])]
theorem bare_iff {n c : Int} {f : Fil.Flt} : bareB n c f = true ↔ n = 0 ∧ c = 0 ∧ f = Fil.zero := by simp [bareB]
/-- the four ways to be valid -/
theorem ok_cases {a : Amt} (h : okB a = true) : (∃ n : Nat, n ≤ 1000000 ∧ a = ⟨0, n, 0, Fil.zero⟩) ∨ (∃ n : Nat, 1 ≤ n ∧ n ≤ 99 ∧ Fil.validB a.f = true ∧ a = ⟨2, n, 0, a.f⟩) ∨
    (∃ c : Nat, c < 3 ∧ a = ⟨4, 0, c, Fil.zero⟩) ∨ (∃ k : Nat, (k = 1 ∨ k = 3 ∨ k = 5 ∨ k = 6 ∨ k = 7) ∧ a = ⟨k, 0, 0, Fil.zero⟩) := by
  obtain ⟨k, n, c, f⟩ := a
  unfold okB at h
  simp only at h
  split at h
  · rename_i hk
    subst hk
    simp only [Bool.and_eq_true, bare_iff, Fil.within_iff] at h
    obtain ⟨⟨h1, h2⟩, _, h3, h4⟩ := h
    subst h3 h4
    exact .inl ⟨n.toNat, by omega, by rw [Amt.mk.injEq]; exact ⟨rfl, by omega, rfl, rfl⟩⟩
  · split at h
    · rename_i hk
      subst hk
      simp only [Bool.and_eq_true, bare_iff, decide_eq_true_eq] at h
      obtain ⟨⟨⟨h1, h2⟩, h3⟩, _, h4, _⟩ := h
      subst h4
      exact .inr (.inl ⟨n.toNat, by omega, by omega, h3, by rw [Amt.mk.injEq]; exact ⟨rfl, by omega, rfl, rfl⟩⟩)
    · split at h
      · rename_i hk
        subst hk
        simp only [Bool.and_eq_true, bare_iff, decide_eq_true_eq] at h
        obtain ⟨h1, h2, _, h3⟩ := h
        subst h2 h3
        have h4 : 0 ≤ c ∧ c < 3 := by
          rcases Int.lt_or_le c 0 with h4 | h4
          · exact absurd (Ctr.nameI_out (.inl h4)) h1
          · rcases Int.lt_or_le c 3 with h5 | h5
            · exact ⟨h4, h5⟩
            · exact absurd (Ctr.nameI_out (.inr h5)) h1
        exact .inr (.inr (.inl ⟨c.toNat, by omega, by rw [Amt.mk.injEq]; exact ⟨rfl, rfl, by omega, rfl⟩⟩))
      · simp only [Bool.and_eq_true, bare_iff, decide_eq_true_eq] at h
        obtain ⟨⟨h1, h2⟩, h3, h4, h5⟩ := h
        subst h3 h4 h5
        exact .inr (.inr (.inr ⟨k.toNat, by omega, by rw [Amt.mk.injEq]; exact ⟨by omega, rfl, rfl, rfl⟩⟩))
theorem ok_const {n : Int} (h0 : 0 ≤ n) (h1 : n ≤ 1000000) : okB ⟨0, n, 0, Fil.zero⟩ = true := by
  simp [okB, bareB, Fil.within, h0, h1]
theorem ok_count {n : Int} {f : Fil.Flt} (h0 : 1 ≤ n) (h1 : n ≤ 99) (h : Fil.validB f = true) : okB ⟨2, n, 0, f⟩ = true := by
  simp [okB, bareB, h0, h1, h]
theorem ok_ctr : ∀ c : Nat, c < 3 → okB ⟨4, 0, c, Fil.zero⟩ = true := by
  intro c hc
  match c, hc with
  | 0, _ => simp [okB, bareB, Ctr.nameI, Ctr.name]
  | 1, _ => simp [okB, bareB, Ctr.nameI, Ctr.name]
  | 2, _ => simp [okB, bareB, Ctr.nameI, Ctr.name]
theorem ok_word {k : Nat} (h : k = 1 ∨ k = 3 ∨ k = 5 ∨ k = 6 ∨ k = 7) : okB ⟨k, 0, 0, Fil.zero⟩ = true := by
  rcases h with rfl | rfl | rfl | rfl | rfl <;> simp [okB, bareB]
/-! the reader -/
def kindW (s : Bs) : Int := if s = sX then 1 else if s = sPower then 3 else if s = sLife then 5 else if s = sHand then 6 else if s = sThat then 7 else 0
def trim (s : Bs) : Bs := if s.getLast? = some 41 then s.dropLast else s
def factor (s : Bs) : Int × Bs := if (cut s [42]).2.2 then (Fil.num (cut s [42]).1, (cut s [42]).2.1) else (1, s)
noncomputable def readA (s : Bs) : Amt :=
  if 0 < kindW s then ⟨kindW s, 0, 0, Fil.zero⟩
  else if sCtrs.isPrefixOf s then ⟨4, 0, Ctr.kindI (trim (s.drop 9)), Fil.zero⟩
  else if sCount.isPrefixOf (factor s).2 then ⟨2, (factor s).1, 0, Fil.parseV (trim ((factor s).2.drop 6))⟩
  else ⟨0, Fil.num s, 0, Fil.zero⟩
theorem factor_no {s : Bs} (h : cut s [42] = (s, [], false)) : factor s = (1, s) := by unfold factor; rw [h]; rfl
theorem factor_yes {s d r : Bs} (h : cut s [42] = (d, r, true)) : factor s = (Fil.num d, r) := by unfold factor; rw [h]; rfl
theorem trim_end (x : Bs) : trim (x ++ [41]) = x := by simp [trim]
theorem kindW_head {b : UInt8} {t : Bs} (h : b ≠ 120 ∧ b ≠ 112 ∧ b ≠ 108 ∧ b ≠ 104 ∧ b ≠ 116) : kindW (b :: t) = 0 := by
  simp [kindW, sX, sPower, sLife, sHand, sThat, h]
/-- a digit first -/
theorem digit_head {n : Int} (h : 0 ≤ n) : ∃ b t, Lib.itoa n = b :: t ∧ 48 ≤ b.toNat ∧ b.toNat ≤ 57 ∧ ∀ x ∈ t, 48 ≤ x.toNat ∧ x.toNat ≤ 57 := by
  have h1 := Num.decDigits_digit n.toNat
  have h2 := Num.decDigits_ne n.toNat
  rw [Num.itoa_nonneg h]
  cases hd : Lib.decDigits n.toNat with
  | nil => exact absurd hd h2
  | cons b t =>
    rw [hd] at h1
    exact ⟨b, t, rfl, (h1 b (by simp)).1, (h1 b (by simp)).2, fun x hx => h1 x (by simp [hx])⟩
theorem digit_not {b : UInt8} (h : b.toNat ≤ 57) {c : UInt8} (hc : 57 < c.toNat) : b ≠ c := by rintro rfl; omega
theorem digit_ne {b : UInt8} (h : 48 ≤ b.toNat) {c : UInt8} (hc : c.toNat < 48) : b ≠ c := by rintro rfl; omega
theorem digit_plain {b : UInt8} (h0 : 48 ≤ b.toNat) (h1 : b.toNat ≤ 57) : b ≠ 42 ∧ brk b = false := by
  refine ⟨digit_ne h0 (by decide), ?_⟩
  have e1 : b ≠ 40 := digit_ne h0 (by decide)
  have e2 : b ≠ 41 := digit_ne h0 (by decide)
  have e3 : b ≠ 91 := digit_not h1 (by decide)
  have e4 : b ≠ 93 := digit_not h1 (by decide)
  simp [brk, e1, e2, e3, e4]
theorem itoa_plain {n : Int} (h : 0 ≤ n) : Ct.PlainP 42 (Lib.itoa n) := by
  obtain ⟨b, t, e, h0, h1, h2⟩ := digit_head h
  rw [e]
  intro x hx
  rcases List.mem_cons.1 hx with rfl | hx
  · exact digit_plain h0 h1
  · exact digit_plain (h2 x hx).1 (h2 x hx).2
theorem kindW_digit {n : Int} (h : 0 ≤ n) (r : Bs) : kindW (Lib.itoa n ++ r) = 0 ∧ sCtrs.isPrefixOf (Lib.itoa n ++ r) = false ∧ sCount.isPrefixOf (Lib.itoa n ++ r) = false := by
  obtain ⟨b, t, e, h0, h1, _⟩ := digit_head h
  rw [e, List.cons_append]
  have hb : (99 == b) = false := by simpa using (Ne.symm (digit_not h1 (c := 99) (by decide)))
  refine ⟨kindW_head ⟨digit_not h1 (by decide), digit_not h1 (by decide), digit_not h1 (by decide), digit_not h1 (by decide), digit_not h1 (by decide)⟩, ?_, ?_⟩
  · simp [sCtrs, List.isPrefixOf, hb]
  · simp [sCount, List.isPrefixOf, hb]
/-- a filter's text holds no bracket -/
theorem text_brk {f : Fil.Flt} (h : Fil.validB f = true) : ∀ b ∈ Fil.textF f, brk b = false := by
  rw [Fil.textF_valid h]
  unfold Fil.textP
  split
  · decide
  · intro b hb
    rcases Ct.mem_join hb with rfl | ⟨p, hp, hbp⟩
    · decide
    · exact (Fil.rest_plain (Fil.valid_of h) 13 0 p hp b hbp).2
theorem depAt_in {l r : Bs} (h : ∀ b ∈ l, brk b = false) : ∀ j, j ≤ l.length → Wd.depAt (sCount ++ l ++ r) (6 + j) = 1
  | 0, _ => by
    show Wd.depAt (99 :: 111 :: 117 :: 110 :: 116 :: 40 :: (l ++ r)) 6 = 1
    simp [Wd.depAt, Wd.stepD]
  | j + 1, hj => by
    show Wd.stepD (Wd.depAt (sCount ++ l ++ r) (6 + j)) ((sCount ++ l ++ r).getD (6 + j) 0) = 1
    rw [depAt_in h j (by omega)]
    have : (sCount ++ l ++ r).getD (6 + j) 0 = l[j] := by
      rw [List.append_assoc, List.getD, List.getElem?_append_right (by simp [sCount]), List.getElem?_append_left (by simp [sCount]; omega)]
      simp [sCount, show 6 + j - 6 = j by omega, List.getElem?_eq_getElem (show j < l.length by omega)]
    rw [this, Wd.stepD_plain (h _ (List.getElem_mem (by omega)))]
/-- no star outside of brackets in a count -/
theorem cut_cnt {f : Fil.Flt} (h : Fil.validB f = true) : cut (cnt f) [42] = (cnt f, [], false) := by
  have hb := text_brk h
  refine Wd.cut_none (by simp) fun j hj => ?_
  unfold Wd.cutP
  rcases Nat.lt_or_ge j 6 with h6 | h6
  · have : ([42] : Bs).isPrefixOf ((cnt f).drop j) = false := by
      unfold cnt sCount
      match j, h6 with
      | 0, _ => rfl
      | 1, _ => rfl
      | 2, _ => rfl
      | 3, _ => rfl
      | 4, _ => rfl
      | 5, _ => rfl
    rw [this, Bool.and_false]
  · obtain ⟨i, rfl⟩ : ∃ i, j = 6 + i := ⟨j - 6, by omega⟩
    have hl : (cnt f).length = 6 + (Fil.textF f).length + 1 := by simp [cnt, sCount]; omega
    have : Wd.depAt (cnt f) (6 + i) = 1 := depAt_in hb i (by omega)
    rw [this]
    rfl
theorem sCount_cnt (f : Fil.Flt) : sCount.isPrefixOf (cnt f) = true := by
  unfold cnt
  rw [List.append_assoc]
  exact Fil.pre_self _ _
theorem drop_cnt (f : Fil.Flt) : (cnt f).drop 6 = Fil.textF f ++ [41] := by
  unfold cnt
  rw [List.append_assoc]
  exact List.drop_left (l₁ := sCount)
theorem cnt_head (f : Fil.Flt) : ∃ t, cnt f = 99 :: 111 :: 117 :: 110 :: 116 :: 40 :: t := ⟨Fil.textF f ++ [41], rfl⟩
theorem kindW_cnt (f : Fil.Flt) : kindW (cnt f) = 0 ∧ sCtrs.isPrefixOf (cnt f) = false := by
  obtain ⟨t, e⟩ := cnt_head f
  rw [e]
  exact ⟨kindW_head (by decide), rfl⟩
theorem num_itoa {n : Int} (h0 : 0 ≤ n) (h1 : n ≤ 1000000) : Fil.num (Lib.itoa n) = n := by
  unfold Fil.num
  rw [Num.numberL_itoa_in (by omega) h1]
  rfl
theorem kind_ctr : ∀ c : Nat, c < 3 → kindW (sCtrs ++ Ctr.nameI c ++ [41]) = 0 ∧ sCtrs.isPrefixOf (sCtrs ++ Ctr.nameI c ++ [41]) = true ∧ (sCtrs ++ Ctr.nameI c ++ [41]).drop 9 = Ctr.nameI c ++ [41] ∧ Ctr.kindI (Ctr.nameI c) = c := by
  intro c hc
  match c, hc with
  | 0, _ => decide
  | 1, _ => decide
  | 2, _ => decide
theorem kind_word {k : Nat} (h : k = 1 ∨ k = 3 ∨ k = 5 ∨ k = 6 ∨ k = 7) : kindW (wordI k) = k := by
  rcases h with rfl | rfl | rfl | rfl | rfl <;> decide
theorem raw_const (n : Int) : raw ⟨0, n, 0, Fil.zero⟩ = Lib.itoa n := by unfold raw; rw [if_pos rfl]
theorem raw_count (n : Int) (f : Fil.Flt) : raw ⟨2, n, 0, f⟩ = if n = 1 then cnt f else Lib.itoa n ++ [42] ++ cnt f := by unfold raw; rw [if_neg (by simp), if_pos rfl]
theorem raw_ctr (c : Int) : raw ⟨4, 0, c, Fil.zero⟩ = sCtrs ++ Ctr.nameI c ++ [41] := by unfold raw; rw [if_neg (by simp), if_neg (by simp), if_pos rfl]
theorem raw_word {k : Nat} (h : k = 1 ∨ k = 3 ∨ k = 5 ∨ k = 6 ∨ k = 7) : raw ⟨k, 0, 0, Fil.zero⟩ = wordI k := by
  unfold raw
  rw [if_neg (by simp only; omega), if_neg (by simp only; omega), if_neg (by simp only; omega)]
/-- the reader finds what was written -/
theorem read_text {a : Amt} (h : okB a = true) : readA (textA a) = a := by
  rw [textA_ok h]
  rcases ok_cases h with ⟨n, h1, rfl⟩ | ⟨n, h0, h1, hv, ha⟩ | ⟨c, h1, rfl⟩ | ⟨k, h1, rfl⟩
  · rw [raw_const]
    have h3 := kindW_digit (n := n) (by omega) []
    rw [List.append_nil] at h3
    have hc := factor_no (Ct.cut_plain (itoa_plain (n := n) (by omega)))
    unfold readA
    rw [hc, h3.1, h3.2.1, h3.2.2, num_itoa (by omega) (by omega)]
    rfl
  · rw [ha, raw_count]
    have hp := (Fil.parse_text hv).1
    split
    · rename_i e
      have e' : n = 1 := by omega
      subst e'
      unfold readA
      rw [factor_no (cut_cnt hv), (kindW_cnt a.f).1, (kindW_cnt a.f).2, sCount_cnt, drop_cnt, trim_end, hp]
      rfl
    · have h3 := kindW_digit (n := n) (by omega) ([42] ++ cnt a.f)
      have hc : cut (Lib.itoa n ++ ([42] ++ cnt a.f)) [42] = (Lib.itoa n, cnt a.f, true) := Ct.cut_at (itoa_plain (n := n) (by omega))
      unfold readA
      rw [List.append_assoc, factor_yes hc, h3.1, h3.2.1, sCount_cnt, drop_cnt, trim_end, hp, num_itoa (by omega) (by omega)]
      rfl
  · rw [raw_ctr]
    obtain ⟨h2, h3, h4, h5⟩ := kind_ctr c h1
    unfold readA
    rw [h2, h3, h4, trim_end, h5]
    rfl
  · rw [raw_word h1]
    unfold readA
    rw [kind_word h1, if_pos (by omega)]
def Is_ (a : Amt) (s : Bs) : Prop := okB a = true ∧ textA a = s
theorem is_read {a : Amt} {s : Bs} (h : Is_ a s) : readA s = a := by rw [← h.2]; exact read_text h.1
theorem is_one {a b : Amt} {s : Bs} (h : Is_ a s) (h' : Is_ b s) : a = b := by rw [← is_read h, is_read h']
theorem is_none {s : Bs} (h : ¬ Is_ (readA s) s) : ∀ a, ¬ Is_ a s := fun a ha => h (by rw [is_read ha]; exact ha)
theorem raw_ne {a : Amt} (h : okB a = true) : raw a ≠ [] := by
  rcases ok_cases h with ⟨n, h1, rfl⟩ | ⟨n, h0, h1, hv, ha⟩ | ⟨c, h1, rfl⟩ | ⟨k, h1, rfl⟩
  · rw [raw_const]; exact Num.itoa_ne _
  · rw [ha, raw_count]
    split
    · simp [cnt, sCount]
    · simp
  · rw [raw_ctr]; simp [sCtrs]
  · rw [raw_word h1]
    rcases h1 with rfl | rfl | rfl | rfl | rfl <;> decide
theorem textA_nil {a : Amt} : textA a = [] ↔ okB a = false := by
  constructor
  · intro e
    cases h : okB a with
    | false => rfl
    | true => rw [textA_ok h] at e; exact absurd e (raw_ne h)
  · exact textA_bad
theorem is_nil (a : Amt) : ¬ Is_ a [] := fun h => by have h2 := textA_nil.1 h.2; rw [h.1] at h2; cases h2
end Go.Proofs.YtohgdmlpffeoiaaGreatDoor.Amt
namespace Go.Proofs.YtohgdmlpffeoiaaGreatDoor.Amt
open Wd (cut brk)

def starTo (s : Bs) : Nat → Int × Bs
  | 0 => (1, s)
  | i + 1 => if s.getD i 0 = 42 then (Fil.num (s.take i), s.drop (i + 1)) else starTo s i
def starE (s : Bs) : Int × Bs := starTo s (min s.length 3)
def insideB (b s : Bs) : Bool := decide (b.length + 1 ≤ s.length) && (b.isPrefixOf s && s.getD (s.length - 1) 0 == 41)
def insideV (b s : Bs) : Bs := if insideB b s then (s.take (s.length - 1)).drop b.length else []
noncomputable def lastA (s : Bs) : Amt := ⟨2, (starE s).1, 0, Fil.parseV (insideV sCount (starE s).2)⟩
theorem dec_small : ∀ n : Nat, n < 100 → (∃ b, Lib.itoa (n : Int) = [b] ∧ b ≠ 42) ∨ ∃ b c, Lib.itoa (n : Int) = [b, c] ∧ b ≠ 42 ∧ c ≠ 42 := by
  intro n hn
  obtain ⟨b, t, e, h0, h1, h2⟩ := digit_head (n := (n : Int)) (by omega)
  have hl : (Lib.itoa (n : Int)).length ≤ 2 := by
    rw [Num.itoa_nonneg (by omega)]
    exact Num.decDigits_len 1 _ (by simp; omega)
  rw [e] at hl ⊢
  have hb : b ≠ 42 := (digit_plain h0 h1).1
  match t, h2, hl with
  | [], _, _ => exact .inl ⟨b, rfl, hb⟩
  | [c], h2, _ => exact .inr ⟨b, c, rfl, hb, (digit_plain (h2 c (by simp)).1 (h2 c (by simp)).2).1⟩
  | _ :: _ :: _, _, hl => simp at hl
theorem star_count {n : Nat} {f : Fil.Flt} (h0 : 1 ≤ n) (h1 : n ≤ 99) : starE (raw ⟨2, n, 0, f⟩) = ((n : Int), cnt f) := by
  rw [raw_count]
  split
  · rename_i e
    have e' : n = 1 := by omega
    subst e'
    obtain ⟨t, e⟩ := cnt_head f
    unfold starE
    rw [e, show min (99 :: 111 :: 117 :: 110 :: 116 :: 40 :: t : Bs).length 3 = 3 by simp]
    simp [starTo]
  · have hn : Fil.num (Lib.itoa (n : Int)) = n := num_itoa (by omega) (by omega)
    obtain ⟨t, e⟩ := cnt_head f
    rcases dec_small n (by omega) with ⟨b, hb, hb1⟩ | ⟨b, c, hb, hb1, hc1⟩
    · rw [hb] at hn
      unfold starE
      rw [hb, e, show min ([b] ++ [42] ++ 99 :: 111 :: 117 :: 110 :: 116 :: 40 :: t : Bs).length 3 = 3 by simp]
      simp [starTo, hn]
    · rw [hb] at hn
      unfold starE
      rw [hb, e, show min ([b, c] ++ [42] ++ 99 :: 111 :: 117 :: 110 :: 116 :: 40 :: t : Bs).length 3 = 3 by simp]
      simp [starTo, hn]
theorem inside_cnt (f : Fil.Flt) : insideB sCount (cnt f) = true ∧ insideV sCount (cnt f) = Fil.textF f := by
  have hl : (cnt f).length = 6 + (Fil.textF f).length + 1 := by simp [cnt, sCount]; omega
  have h1 : insideB sCount (cnt f) = true := by
    unfold insideB
    rw [sCount_cnt, hl, show 6 + (Fil.textF f).length + 1 - 1 = (sCount ++ Fil.textF f).length by simp [sCount]; omega]
    have : (cnt f).getD (sCount ++ Fil.textF f).length 0 = 41 := by
      unfold cnt
      rw [List.getD, List.getElem?_append_right (Nat.le_refl _)]
      simp
    rw [this]
    simp [sCount]
  refine ⟨h1, ?_⟩
  unfold insideV
  rw [if_pos h1, hl, show 6 + (Fil.textF f).length + 1 - 1 = (sCount ++ Fil.textF f).length by simp [sCount]; omega]
  unfold cnt
  rw [List.take_left, List.drop_left]
theorem last_of {n : Int} {f : Fil.Flt} {s : Bs} (h : Is_ ⟨2, n, 0, f⟩ s) : insideB sCount (starE s).2 = true ∧ Fil.parseE (insideV sCount (starE s).2) = 0 ∧ lastA s = ⟨2, n, 0, f⟩ := by
  obtain ⟨h1, h2⟩ := h
  rw [textA_ok h1] at h2
  rcases ok_cases h1 with ⟨m, _, e⟩ | ⟨m, m0, m1, hv, e⟩ | ⟨c, _, e⟩ | ⟨k, hk, e⟩
  · injection e with e; cases e
  · injection e with _ e
    subst e
    have hs := star_count (f := f) m0 m1
    rw [h2] at hs
    have hp := Fil.parse_text hv
    have hi := inside_cnt f
    unfold lastA
    rw [hs]
    simp only
    rw [hi.2]
    exact ⟨hi.1, hp.2, by rw [hp.1]⟩
  · injection e with e; cases e
  · injection e with e; omega
/-- nothing found: there is no such amount -/
theorem none_of {s : Bs} (h1 : ∀ k : Nat, (k = 1 ∨ k = 3 ∨ k = 5 ∨ k = 6 ∨ k = 7) → textA ⟨k, 0, 0, Fil.zero⟩ ≠ s) (h2 : ∀ c : Nat, c < 3 → textA ⟨4, 0, c, Fil.zero⟩ ≠ s)
    (h3 : ∀ n : Nat, ¬ Is_ ⟨0, n, 0, Fil.zero⟩ s) (h4 : ∀ n f, ¬ Is_ ⟨2, n, 0, f⟩ s) : ∀ a, ¬ Is_ a s := by
  intro a ha
  rcases ok_cases ha.1 with ⟨m, _, e⟩ | ⟨m, m0, m1, hv, e⟩ | ⟨c, hc, e⟩ | ⟨k, hk, e⟩
  · rw [e] at ha; exact h3 m ha
  · rw [e] at ha; exact h4 _ _ ha
  · rw [e] at ha; exact h2 c hc ha.2
  · rw [e] at ha; exact h1 k hk ha.2
theorem word_is {k : Nat} {s : Bs} (hk : k = 1 ∨ k = 3 ∨ k = 5 ∨ k = 6 ∨ k = 7) (h : textA ⟨k, 0, 0, Fil.zero⟩ = s) : Is_ ⟨k, 0, 0, Fil.zero⟩ s := ⟨ok_word hk, h⟩
theorem ctr_is {c : Nat} {s : Bs} (hc : c < 3) (h : textA ⟨4, 0, c, Fil.zero⟩ = s) : Is_ ⟨4, 0, c, Fil.zero⟩ s := ⟨ok_ctr c hc, h⟩
theorem const_is {n : Int} {s : Bs} (h : Num.numberL s = some n) (h0 : 0 ≤ n) : Is_ ⟨0, n, 0, Fil.zero⟩ s := by
  obtain ⟨_, h2, h3⟩ := Num.numberL_some.1 h
  refine ⟨ok_const h0 h2, ?_⟩
  rw [textA_ok (ok_const h0 h2), raw_const, h3]
theorem const_no {s : Bs} (h : Num.numberL s = none ∨ ∃ n : Int, Num.numberL s = some n ∧ n < 0) : ∀ n : Nat, ¬ Is_ ⟨0, n, 0, Fil.zero⟩ s := by
  intro n hn
  obtain ⟨h1, h2⟩ := hn
  rw [textA_ok h1, raw_const] at h2
  have h3 : (n : Int) ≤ 1000000 := by
    rcases ok_cases h1 with ⟨m, hm, e⟩ | ⟨m, _, _, _, e⟩ | ⟨c, _, e⟩ | ⟨k, hk, e⟩
    · injection e with _ e; omega
    · injection e with e; cases e
    · injection e with e; cases e
    · injection e with e; omega
  have h4 : Num.numberL s = some (n : Int) := by rw [← h2]; exact Num.numberL_itoa_in (by omega) h3
  rcases h with h | ⟨m, h, hm⟩
  · rw [h] at h4; cases h4
  · rw [h] at h4; injection h4 with h4; omega
theorem inside_ne {s : Bs} (h : insideB sCount (starE s).2 = true) : s ≠ [] := by
  rintro rfl
  exact absurd h (by decide)
theorem last_is {s : Bs} (hi : insideB sCount (starE s).2 = true) (h : textA (lastA s) = s) : Is_ (lastA s) s := by
  refine ⟨?_, h⟩
  cases hv : okB (lastA s) with
  | true => rfl
  | false => rw [textA_bad hv] at h; exact absurd h.symm (inside_ne hi)
theorem last_no {s : Bs} (h : insideB sCount (starE s).2 = false ∨ Fil.parseE (insideV sCount (starE s).2) ≠ 0 ∨ textA (lastA s) ≠ s) : ∀ n f, ¬ Is_ ⟨2, n, 0, f⟩ s := by
  intro n f hn
  obtain ⟨h1, h2, h3⟩ := last_of hn
  rcases h with h | h | h
  · rw [h] at h1; cases h1
  · exact h h2
  · rw [h3] at h; exact h hn.2
end Go.Proofs.YtohgdmlpffeoiaaGreatDoor.Amt
namespace Go.Proofs.YtohgdmlpffeoiaaGreatDoor
open Go.RowKit

theorem Blk.rangeM {w : World} {b : Nat} {cs : Array Value} {t : TypeId} (h : Blk w b cs t) {o : Nat} {xs : Array Value} (hm : ∀ (j : Nat) v, xs[j]? = some v → cs[o + j]? = some v) : w.rangeAt b o xs.toList := fun j v hv => by
  rw [h.cell]
  exact hm j v (by simpa using hv)
theorem Blk.thereM {w : World} {b : Nat} {cs : Array Value} {t : TypeId} (h : Blk w b cs t) {o n : Nat} (ho : o + n ≤ cs.size) : w.there b o n := fun j hj => by
  exact ⟨by rw [h.cell, Array.getElem?_eq_getElem (show o + j < cs.size by omega)]; rfl, h.free _⟩
section
variable {P : Program}
theorem run_loadV {w : World} {b j : Nat} {cs : Array Value} {T' T : TypeId} {v : Value} {D : TypeDesc} (hk : Blk w b cs T') (hv : cs[j]? = some v) (hu : P.underlying T = some D) (hd : D.isRow = false) :
    (loadVar T ⟨b, j, none⟩).run P w = .ok v w := by
  have hagg : (isAgg T).run P w = .ok false w := by
    unfold isAgg
    rw [Sem.run_bind, run_underlying hu w]
    cases D <;> simp_all
  have hc := hk.cell j
  rw [hv] at hc
  simp [loadVar, Sem.run_bind, hagg, hc]
/-- one cell of a block loaded, at a region's list -/
theorem wpList_loadV {ops : Array Oper} {rest : List Oper} {a : Act} {w : World} {Q : Exit → Act → World → Prop} {d : Option Tmp} {ty T : TypeId} {ps : String} {af : Array Edge} {gd : Option (Nat × Bool)} (x : Operand)
    (hw : Region.wanted { dst := d, op := .load T x, type := ty, pos := ps, after := af, guard := gd } (yielded ops a.tmps) = true)
    {b j : Nat} {cs : Array Value} {T' : TypeId} {v : Value} {D : TypeDesc} (hx : a.eval x = .pointer (some ⟨b, j, none⟩)) (hk : Blk w b cs T') (hv : cs[j]? = some v) (hu : P.underlying T = some D) (hd : D.isRow = false)
    (h : wpList P ops Q rest (a.put d v) w) : wpList P ops Q ({ dst := d, op := .load T x, type := ty, pos := ps, after := af, guard := gd } :: rest) a w := by
  unfold wpList
  rw [if_pos hw]
  refine .inl ?_
  unfold Oper.wp execOp
  simp only [hx, Instr.loadAt, Instr.sureAddr, Sem.run_bind, Sem.run_pure, Result.andThen_ok, run_loadV hk hv hu hd]
  exact h
/-- a part of a struct loaded whole, at a region's list -/
theorem wpList_loadM {ops : Array Oper} {rest : List Oper} {a : Act} {w : World} {Q : Exit → Act → World → Prop} {d : Option Tmp} {ty T : TypeId} {ps : String} {af : Array Edge} {gd : Option (Nat × Bool)} (x : Operand)
    (hw : Region.wanted { dst := d, op := .load T x, type := ty, pos := ps, after := af, guard := gd } (yielded ops a.tmps) = true)
    {b o : Nat} {cs xs : Array Value} {T' : TypeId} {D : TypeDesc} (hx : a.eval x = .pointer (some ⟨b, o, none⟩)) (hk : Blk w b cs T') (hm : ∀ (j : Nat) v, xs[j]? = some v → cs[o + j]? = some v) (hu : P.underlying T = some D) (hd : D.isRow = true) (hn : (P.info? T).map (·.size) = some xs.size)
    (h : wpList P ops Q rest (a.put d (.agg xs)) w) : wpList P ops Q ({ dst := d, op := .load T x, type := ty, pos := ps, after := af, guard := gd } :: rest) a w := by
  unfold wpList
  rw [if_pos hw]
  refine .inl (wp_load_mid T x rfl b o hx xs.toList _ (hk.rangeM hm) hu hd (by simpa using hn) ?_)
  simpa using h
/-- a part of a struct stored whole, at a region's list -/
theorem wpList_storeM {ops : Array Oper} {rest : List Oper} {a : Act} {w : World} {Q : Exit → Act → World → Prop} {d : Option Tmp} {ty T : TypeId} {ps : String} {af : Array Edge} (x y : Operand)
    {b o : Nat} {cs vs : Array Value} {T' : TypeId} (hx : a.eval x = .pointer (some ⟨b, o, none⟩)) (hy : a.eval y = .agg vs) (hk : Blk w b cs T') (ho : o + vs.size ≤ cs.size) (hi : (P.info? T).map (·.size) = some vs.size) (h1 : vs.all (·.oneCell') = true)
    (h : wpList P ops Q rest (a.put d undef) (w.setCells b o vs.toList)) : wpList P ops Q ({ dst := d, op := .store T x y, type := ty, pos := ps, after := af, guard := none } :: rest) a w :=
  wpList_store_mid rfl T x y rfl b o vs hx hy (hk.thereM ho) hi h1 h
end
/-- three integers and a part -/
def cells3 (k n c : Int) (xs : Array Value) : Array Value := #[.int .i64 k, .int .i64 n, .int .i64 c] ++ xs
theorem cells3_size (k n c : Int) (xs : Array Value) : (cells3 k n c xs).size = xs.size + 3 := by simp [cells3]; omega
theorem cells3_0 (k n c : Int) (xs : Array Value) : (cells3 k n c xs)[0]? = some (.int .i64 k) := by simp [cells3, Array.getElem?_append]
theorem cells3_1 (k n c : Int) (xs : Array Value) : (cells3 k n c xs)[1]? = some (.int .i64 n) := by simp [cells3, Array.getElem?_append]
theorem cells3_2 (k n c : Int) (xs : Array Value) : (cells3 k n c xs)[2]? = some (.int .i64 c) := by simp [cells3, Array.getElem?_append]
theorem cells3_at (k n c : Int) (xs : Array Value) (j : Nat) : (cells3 k n c xs)[3 + j]? = xs[j]? := by
  simp [cells3, Array.getElem?_append, show ¬ 3 + j < 3 by omega, show 3 + j - 3 = j by omega]
theorem cells3_part (k n c : Int) (xs : Array Value) (j : Nat) (v : Value) (h : xs[j]? = some v) : (cells3 k n c xs)[3 + j]? = some v := by rw [cells3_at]; exact h
theorem cells3_one {k n c : Int} {xs : Array Value} (h : xs.all (·.oneCell') = true) : (cells3 k n c xs).all (·.oneCell') = true := by
  unfold cells3
  rw [Array.all_append, h]
  simp [Value.oneCell']
theorem cells3_get (k n c : Int) (xs : Array Value) (j : Nat) : (cells3 k n c xs)[j]? = if j = 0 then some (.int .i64 k) else if j = 1 then some (.int .i64 n) else if j = 2 then some (.int .i64 c) else xs[j - 3]? := by
  match j with
  | 0 => exact cells3_0 ..
  | 1 => exact cells3_1 ..
  | 2 => exact cells3_2 ..
  | j + 3 => rw [Nat.add_comm j 3, cells3_at, if_neg (by omega), if_neg (by omega), if_neg (by omega)]; congr 1; omega
theorem cells3_set0 (k n c x : Int) (xs : Array Value) : (cells3 k n c xs).setIfInBounds 0 (.int .i64 x) = cells3 x n c xs := by
  apply Array.ext_getElem?
  intro j
  have := cells3_size k n c xs
  rw [Array.getElem?_setIfInBounds, cells3_get, cells3_get]
  by_cases h : 0 = j
  · subst h; rw [if_pos rfl, if_pos (by omega)]; rfl
  · have h' : ¬ j = 0 := by omega
    simp only [if_neg h, if_neg h']
theorem cells3_set1 (k n c x : Int) (xs : Array Value) : (cells3 k n c xs).setIfInBounds 1 (.int .i64 x) = cells3 k x c xs := by
  apply Array.ext_getElem?
  intro j
  have := cells3_size k n c xs
  rw [Array.getElem?_setIfInBounds, cells3_get, cells3_get]
  by_cases h : 1 = j
  · subst h; rw [if_pos rfl, if_pos (by omega)]; rfl
  · have h' : ¬ j = 1 := by omega
    simp only [if_neg h, if_neg h']
theorem cells3_set2 (k n c x : Int) (xs : Array Value) : (cells3 k n c xs).setIfInBounds 2 (.int .i64 x) = cells3 k n x xs := by
  apply Array.ext_getElem?
  intro j
  have := cells3_size k n c xs
  rw [Array.getElem?_setIfInBounds, cells3_get, cells3_get]
  by_cases h : 2 = j
  · subst h; rw [if_pos rfl, if_pos (by omega)]; rfl
  · have h' : ¬ j = 2 := by omega
    simp only [if_neg h, if_neg h']
theorem cells3_laid {k n c : Int} {xs ys : Array Value} (h : ys.size = xs.size) : laidAt (cells3 k n c xs) 3 ys.toList = cells3 k n c ys := by
  have hs := cells3_size k n c xs
  apply Array.ext_getElem?
  intro j
  rw [laidAt_get _ _ _ _ (by simp; omega), cells3_get, cells3_get]
  by_cases hj : 3 ≤ j
  · have e0 : ¬ j = 0 := by omega
    have e1 : ¬ j = 1 := by omega
    have e2 : ¬ j = 2 := by omega
    simp only [if_neg e0, if_neg e1, if_neg e2]
    by_cases h2 : j < 3 + ys.toList.length
    · rw [if_pos ⟨hj, h2⟩]; simp
    · rw [if_neg (by omega)]
      simp only [Array.length_toList] at h2
      rw [Array.getElem?_eq_none (by omega), Array.getElem?_eq_none (by omega)]
  · rw [if_neg (by omega)]
    have h3 : j = 0 ∨ j = 1 ∨ j = 2 := by omega
    rcases h3 with rfl | rfl | rfl <;> rfl
theorem Blk.part3 {w : World} {b : Nat} {k n c : Int} {xs : Array Value} {t : TypeId} (h : Blk w b (cells3 k n c xs) t) {ys : Array Value} (hs : ys.size = xs.size) : Blk (w.setCells b 3 ys.toList) b (cells3 k n c ys) t := by
  rw [← cells3_laid (k := k) (n := n) (c := c) hs]
  exact h.laid
section
variable {P : Program}
theorem run_storeV {w : World} {b j : Nat} {cs : Array Value} {T' T : TypeId} {v : Value} (hk : Blk w b cs T') (hj : j < cs.size) (hi : (P.info? T).map (·.size) = some 1) (h1 : v.oneCell' = true) :
    (storeVar T ⟨b, j, none⟩ v).run P w = .ok () (w.setCells b j [v]) := by
  cases hq : P.info? T with
  | none => rw [hq] at hi; cases hi
  | some i =>
    rw [hq] at hi
    have hs : i.size = 1 := by simpa using hi
    exact Lib.rl_storeVar_one T i hq hs ⟨b, j, none⟩ v (cs[j]) h1 w (by rw [hk.cell, Array.getElem?_eq_getElem hj]) (hk.free j)
/-- a scalar stored into a cell of a block, at a region's list -/
theorem wpList_storeV {ops : Array Oper} {rest : List Oper} {a : Act} {w : World} {Q : Exit → Act → World → Prop} {d : Option Tmp} {ty T : TypeId} {ps : String} {af : Array Edge} (x y : Operand)
    {b j : Nat} {cs : Array Value} {T' : TypeId} {v : Value} (hx : a.eval x = .pointer (some ⟨b, j, none⟩)) (hy : a.eval y = v) (hk : Blk w b cs T') (hj : j < cs.size) (hi : (P.info? T).map (·.size) = some 1) (h1 : v.oneCell' = true)
    (h : wpList P ops Q rest (a.put d undef) (w.setCells b j [v])) : wpList P ops Q ({ dst := d, op := .store T x y, type := ty, pos := ps, after := af, guard := none } :: rest) a w :=
  wpList_plain rfl fun _ hK => by
    unfold Oper.wp execOp
    simp only [hx, hy, Instr.storeAt, Instr.sureAddr, Sem.run_bind, Sem.run_pure, Result.andThen_ok, run_storeV hk hj hi h1]
    exact hK _ _ h
end
theorem Blk.stored {w : World} {b o : Nat} {cs cs' : Array Value} {t : TypeId} {vs : List Value} (h : Blk w b cs t) (e : laidAt cs o vs = cs') : Blk (w.setCells b o vs) b cs' t := e ▸ h.laid
theorem cells3_put0 (k n c x : Int) (xs : Array Value) : laidAt (cells3 k n c xs) 0 [.int .i64 x] = cells3 x n c xs := by
  simp only [laidAt]
  exact cells3_set0 k n c x xs
theorem cells3_put1 (k n c x : Int) (xs : Array Value) : laidAt (cells3 k n c xs) 1 [.int .i64 x] = cells3 k x c xs := by
  simp only [laidAt]
  exact cells3_set1 k n c x xs
theorem cells3_put2 (k n c x : Int) (xs : Array Value) : laidAt (cells3 k n c xs) 2 [.int .i64 x] = cells3 k n x xs := by
  simp only [laidAt]
  exact cells3_set2 k n c x xs
/-! short words for walks that are written by a program -/
theorem pu (a : Act) (d : Tmp) (v : Value) : a.put (some d) v = { a with tmps := a.tmps.setIfInBounds d v } := rfl
theorem sB {α : Type} (l : List α) (i : Nat) (v : α) : l.toArray.setIfInBounds i v = (l.set i v).toArray := by simp
theorem s0 {α : Type} (a b : α) (l : List α) : (a :: l).set 0 b = b :: l := rfl
theorem sS {α : Type} (a b : α) (l : List α) (n : Nat) : (a :: l).set (n + 1) b = a :: l.set n b := rfl
/-- an operation run, its slot its own -/
theorem rN {P : Program} {ops : Array Oper} {rest : List Oper} {o : Oper} {a : Act} {w : World} {Q : Exit → Act → World → Prop} {v : Value}
    (hw : Region.wanted o (yielded ops a.tmps) = true) (hy : (execOp a.eval o).run P w = .ok (.value v) w) (h : wpList P ops Q rest (a.put o.dst v) w) : wpList P ops Q (o :: rest) a w := wpList_runV _ rfl hw hy h
/-- an operation left out, its slot its own -/
theorem kN {P : Program} {ops : Array Oper} {rest : List Oper} {o : Oper} {a : Act} {w : World} {Q : Exit → Act → World → Prop}
    (hw : Region.wanted o (yielded ops a.tmps) = false) (h : wpList P ops Q rest (a.put o.dst undef) w) : wpList P ops Q (o :: rest) a w := wpList_skipV _ rfl hw h
end Go.Proofs.YtohgdmlpffeoiaaGreatDoor
