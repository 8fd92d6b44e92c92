/-
  MERGED: Struct, FilCell, FilParseB, FilParse. By an AI agent.
-/
import Derived.Test.YtboealolklojiaaGreatDoorBlk
import Derived.Deep.MidRow
import Derived.Deep.RegionHeld3
import Derived.WalkKit
import Derived.Test.YtboealolklojiaaGreatDoorFilKit
import Derived.Deep.Cut
import Derived.Test.YtboealolklojiaaGreatDoorFilText
namespace Go.Proofs.YtboealolklojiaaGreatDoor
open Go.RowKit

theorem Blk.rangeS {w : World} {b : Nat} {cs : Array Value} {t : TypeId} (h : Blk w b cs t) : w.rangeAt b 0 cs.toList := fun j v hv => by
  rw [Nat.zero_add, h.cell j]
  simpa using hv
theorem Blk.thereS {w : World} {b : Nat} {cs : Array Value} {t : TypeId} (h : Blk w b cs t) : w.there b 0 cs.size := fun j hj => by
  rw [Nat.zero_add]
  exact ⟨by rw [h.cell j, Array.getElem?_eq_getElem hj]; rfl, h.free j⟩
def laidAt (cs : Array Value) (o : Nat) : List Value → Array Value
  | [] => cs
  | v :: vs => laidAt (cs.setIfInBounds o v) (o + 1) vs
theorem laidAt_size : ∀ (vs : List Value) (cs : Array Value) (o : Nat), (laidAt cs o vs).size = cs.size
  | [], _, _ => rfl
  | v :: vs, cs, o => by rw [laidAt, laidAt_size vs]; simp
theorem laidAt_get : ∀ (vs : List Value) (cs : Array Value) (o j : Nat), o + vs.length ≤ cs.size → (laidAt cs o vs)[j]? = if o ≤ j ∧ j < o + vs.length then vs[j - o]? else cs[j]?
  | [], cs, o, j, _ => by rw [laidAt, if_neg (by simp)]
  | v :: vs, cs, o, j, h => by
    simp only [List.length_cons] at h ⊢
    rw [laidAt, laidAt_get vs _ _ j (by simp; omega)]
    by_cases h1 : o + 1 ≤ j ∧ j < o + 1 + vs.length
    · rw [if_pos h1, if_pos ⟨by omega, by omega⟩]
      obtain ⟨d, hd⟩ : ∃ d, j = o + 1 + d := ⟨j - (o + 1), by omega⟩
      subst hd
      rw [show o + 1 + d - (o + 1) = d by omega, show o + 1 + d - o = d + 1 by omega, List.getElem?_cons_succ]
    · rw [if_neg h1]
      by_cases h2 : j = o
      · subst h2
        rw [if_pos ⟨by omega, by omega⟩, Nat.sub_self, List.getElem?_cons_zero, Array.getElem?_setIfInBounds_self_of_lt (by omega)]
      · rw [if_neg (by omega), Array.getElem?_setIfInBounds_ne (by omega)]
theorem laidAt_whole {cs vs : Array Value} (h : vs.size = cs.size) : laidAt cs 0 vs.toList = vs := by
  apply Array.ext_getElem?
  intro j
  rw [laidAt_get _ _ _ _ (by simp [h])]
  simp only [Nat.zero_le, Nat.zero_add, true_and, Nat.sub_zero, Array.length_toList, Array.getElem?_toList]
  by_cases hj : j < vs.size
  · rw [if_pos hj]
  · rw [if_neg hj, Array.getElem?_eq_none (by omega), Array.getElem?_eq_none (by omega)]
theorem Blk.laid : ∀ {vs : List Value} {w : World} {b o : Nat} {cs : Array Value} {t : TypeId}, Blk w b cs t → Blk (w.setCells b o vs) b (laidAt cs o vs) t
  | [], _, _, _, _, _, h => h
  | v :: vs, w, b, o, cs, t, h => by
    show Blk ((w.setCell ⟨b, o, none⟩ v).setCells b (o + 1) vs) b (laidAt (cs.setIfInBounds o v) (o + 1) vs) t
    exact Blk.laid (h.set o v)
/-- a block stored whole -/
theorem Blk.whole {w : World} {b : Nat} {cs : Array Value} {t : TypeId} (h : Blk w b cs t) (vs : Array Value) (hn : vs.size = cs.size) : Blk (w.setCells b 0 vs.toList) b vs t := by
  have := h.laid (o := 0) (vs := vs.toList)
  rw [laidAt_whole hn] at this
  exact this
theorem Blk.wholeElse : ∀ (vs : List Value) {w : World} {b g o : Nat} {cs : Array Value} {t : TypeId}, Blk w b cs t → b ≠ g → Blk (w.setCells g o vs) b cs t
  | [], _, _, _, _, _, _, h, _ => h
  | v :: vs, w, b, g, o, cs, t, h, hg => by
    show Blk ((w.setCell ⟨g, o, none⟩ v).setCells g (o + 1) vs) b cs t
    exact Blk.wholeElse vs (h.other hg o v) hg
theorem below_whole : ∀ (vs : List Value) {C : Nat} {w0 w : World} {b o : Nat}, Below C w0 w → C ≤ b → Below C w0 (w.setCells b o vs)
  | [], _, _, _, _, _, h, _ => h
  | v :: vs, C, w0, w, b, o, h, hC => by
    show Below C w0 ((w.setCell ⟨b, o, none⟩ v).setCells b (o + 1) vs)
    exact below_whole vs (h.setCell (by exact hC) v) hC
theorem cell_wholeElse (vs : List Value) {w : World} {b g o : Nat} (p : Nat) (hg : b ≠ g) : (w.setCells g o vs).cell? ⟨b, p, none⟩ = w.cell? ⟨b, p, none⟩ :=
  World.cell?_setCells_out g vs o w ⟨b, p, none⟩ fun e => absurd e hg
theorem size_whole : ∀ (vs : List Value) (w : World) (b o : Nat), (w.setCells b o vs).heap.size = w.heap.size
  | [], _, _, _ => rfl
  | v :: vs, w, b, o => by
    show ((w.setCell ⟨b, o, none⟩ v).setCells b (o + 1) vs).heap.size = _
    rw [size_whole vs]; simp
section
variable {P : Program}
/-- a struct loaded whole, at a region's list -/
theorem wpList_loadS {ops : Array Oper} {rest : List Oper} {a : Act} {w : World} {Q : Exit → Act → World → Prop} {d : Option Tmp} {ty T : TypeId} {ps : String} {af : Array Edge} {gd : Option (Nat × Bool)} (x : Operand)
    (hw : Region.wanted { dst := d, op := .load T x, type := ty, pos := ps, after := af, guard := gd } (yielded ops a.tmps) = true)
    {b : Nat} {cs : Array Value} {D : TypeDesc} (hx : a.eval x = .pointer (some ⟨b, 0, none⟩)) (hk : Blk w b cs T) (hu : P.underlying T = some D) (hd : D.isRow = true) (hn : (P.info? T).map (·.size) = some cs.size)
    (h : wpList P ops Q rest (a.put d (.agg cs)) w) : wpList P ops Q ({ dst := d, op := .load T x, type := ty, pos := ps, after := af, guard := gd } :: rest) a w := by
  unfold wpList
  rw [if_pos hw]
  refine .inl (wp_load_mid T x rfl b 0 hx cs.toList _ hk.rangeS hu hd (by simpa using hn) ?_)
  simpa using h
theorem wp_loadS {o : Oper} {a : Act} {w : World} {K : Act → World → Prop} {Q : Exit → Act → World → Prop} {T : TypeId} (x : Operand) (ho : o.op = .load T x)
    {b : Nat} {cs : Array Value} {D : TypeDesc} (hx : a.eval x = .pointer (some ⟨b, 0, none⟩)) (hk : Blk w b cs T) (hu : P.underlying T = some D) (hd : D.isRow = true) (hn : (P.info? T).map (·.size) = some cs.size)
    (h : K (a.put o.dst (.agg cs)) w) : Oper.wp P o a w K Q := by
  refine wp_load_mid T x ho b 0 hx cs.toList _ hk.rangeS hu hd (by simpa using hn) ?_
  simpa using h
theorem wp_storeS {o : Oper} {a : Act} {w : World} {K : Act → World → Prop} {Q : Exit → Act → World → Prop} {T : TypeId} (x y : Operand) (ho : o.op = .store T x y)
    {b : Nat} {cs vs : Array Value} (hx : a.eval x = .pointer (some ⟨b, 0, none⟩)) (hy : a.eval y = .agg vs) (hk : Blk w b cs T) (hn : vs.size = cs.size) (hi : (P.info? T).map (·.size) = some vs.size) (h1 : vs.all (·.oneCell') = true)
    (h : K (a.put o.dst undef) (w.setCells b 0 vs.toList)) : Oper.wp P o a w K Q :=
  wp_store_mid T x y ho b 0 vs hx hy (by have := hk.thereS; rw [← hn] at this; exact this) hi h1 h
theorem wpList_storeS {ops : Array Oper} {rest : List Oper} {a : Act} {w : World} {Q : Exit → Act → World → Prop} {d : Option Tmp} {ty T : TypeId} {ps : String} {af : Array Edge} (x y : Operand)
    {b : Nat} {cs vs : Array Value} (hx : a.eval x = .pointer (some ⟨b, 0, none⟩)) (hy : a.eval y = .agg vs) (hk : Blk w b cs T) (hn : vs.size = cs.size) (hi : (P.info? T).map (·.size) = some vs.size) (h1 : vs.all (·.oneCell') = true)
    (h : wpList P ops Q rest (a.put d undef) (w.setCells b 0 vs.toList)) : wpList P ops Q ({ dst := d, op := .store T x y, type := ty, pos := ps, after := af, guard := none } :: rest) a w :=
  wpList_store_mid rfl T x y rfl b 0 vs hx hy (by have := hk.thereS; rw [← hn] at this; exact this) hi h1 h
theorem wpList_runV {ops : Array Oper} {rest : List Oper} {o : Oper} {a : Act} {w : World} {Q : Exit → Act → World → Prop} (d : Option Tmp) {v : Value} (hd : o.dst = d)
    (hw : Region.wanted o (yielded ops a.tmps) = true) (hy : (execOp a.eval o).run P w = .ok (.value v) w)
    (h : wpList P ops Q rest (a.put d v) w) : wpList P ops Q (o :: rest) a w := by
  subst hd
  unfold wpList
  rw [if_pos hw]
  refine .inl ?_
  unfold Oper.wp
  rw [hy]
  exact h
theorem wpList_skipV {ops : Array Oper} {rest : List Oper} {o : Oper} {a : Act} {w : World} {Q : Exit → Act → World → Prop} (d : Option Tmp) (hd : o.dst = d)
    (hw : Region.wanted o (yielded ops a.tmps) = false) (h : wpList P ops Q rest (a.put d undef) w) : wpList P ops Q (o :: rest) a w := by
  subst hd
  exact wpList_skip hw h
/-- an operation that leaves another world (an alloc) -/
theorem wpList_runWV {ops : Array Oper} {rest : List Oper} {o : Oper} {a : Act} {w : World} {Q : Exit → Act → World → Prop} (d : Option Tmp) {v : Value} {w' : World} (hd : o.dst = d)
    (hw : Region.wanted o (yielded ops a.tmps) = true) (hy : (execOp a.eval o).run P w = .ok (.value v) w')
    (h : wpList P ops Q rest (a.put d v) w') : wpList P ops Q (o :: rest) a w := by
  subst hd
  unfold wpList
  rw [if_pos hw]
  refine .inl ?_
  unfold Oper.wp
  rw [hy]
  exact h
theorem Blk.readS {w : World} {b : Nat} {cs : Array Value} {T : TypeId} {D : TypeDesc} (hk : Blk w b cs T) (hu : P.underlying T = some D) (hd : D.isRow = true) (hn : (P.info? T).map (·.size) = some cs.size) :
    (loadVar T ⟨b, 0, none⟩).run P w = .ok (.agg cs) w := by
  have := run_loadVar_mid (P := P) w b 0 T cs.toList D hk.rangeS hu hd (by simpa using hn)
  simpa using this
theorem results_cell {fn : Func} {tmps : Array Value} {w : World} {x : Tmp} {T : TypeId} {A : Addr} {v : Value} (h : fn.results = #[.cell x T]) (ha : tmps.getD x undef = .pointer (some A)) (hL : (loadVar T A).run P w = .ok v w) :
    (results fn tmps).run P w = .ok v w := by
  have ha' : tmps[x]?.getD undef = .pointer (some A) := by simpa using ha
  simp [results, h, ha', asAddr, hL]
theorem results_cell_tmp {fn : Func} {tmps : Array Value} {w : World} {x y : Tmp} {T : TypeId} {A : Addr} {v u : Value} (h : fn.results = #[.cell x T, .tmp y]) (ha : tmps.getD x undef = .pointer (some A)) (hu : tmps.getD y undef = u) (hL : (loadVar T A).run P w = .ok v w) :
    (results fn tmps).run P w = .ok (.tuple #[v, u]) w := by
  have ha' : tmps[x]?.getD undef = .pointer (some A) := by simpa using ha
  have hu' : tmps[y]?.getD undef = u := by simpa using hu
  simp [results, h, ha', hu', asAddr, hL]
end
end Go.Proofs.YtboealolklojiaaGreatDoor
namespace Go.Proofs.YtboealolklojiaaGreatDoor
open Go.RowKit
open Wd (Bs)

def cellsA (a : Fil.Acc) (gs : ByteArray) : Array Value := #[.int .i64 (a.zone : Int), .int .i64 (a.who : Int), .int .i64 (a.self : Int), .int .i64 (a.types : Int), .int .i64 (a.ntypes : Int), .int .i64 (a.colors : Int), .int .i64 (a.ncolors : Int), .string gs, .int .i64 (a.keys : Int), .int .i64 (a.tap : Int), .int .i64 a.pow.kind, .int .i64 a.pow.n, .int .i64 a.tough.kind, .int .i64 a.tough.n, .int .i64 a.val.kind, .int .i64 a.val.n]
def cellsZ : Array Value := #[.int .i64 0, .int .i64 0, .int .i64 0, .int .i64 0, .int .i64 0, .int .i64 0, .int .i64 0, .string ⟨#[]⟩, .int .i64 0, .int .i64 0, .int .i64 0, .int .i64 0, .int .i64 0, .int .i64 0, .int .i64 0, .int .i64 0]
theorem cellsA_one (a : Fil.Acc) (gs : ByteArray) : (cellsA a gs).all (·.oneCell') = true := by simp [cellsA, Value.oneCell']
theorem cellsZ_one : cellsZ.all (·.oneCell') = true := by simp [cellsZ, Value.oneCell']
theorem infoTF (a : Fil.Acc) (gs : ByteArray) : (Tryz.prog.info? 25).map (·.size) = some (cellsA a gs).size := by rw [sizeTF]; rfl
theorem infoTFZ : (Tryz.prog.info? 25).map (·.size) = some cellsZ.size := by rw [sizeTF]; rfl
theorem readA {w : World} {b : Nat} {a : Fil.Acc} {gs : ByteArray} (hk : Blk w b (cellsA a gs) 25) : (loadVar 25 ⟨b, 0, none⟩).run Tryz.prog w = .ok (.agg (cellsA a gs)) w := hk.readS Tryz.underlying25 rfl (infoTF a gs)
theorem readZ {w : World} {b : Nat} (hk : Blk w b cellsZ 25) : (loadVar 25 ⟨b, 0, none⟩).run Tryz.prog w = .ok (.agg cellsZ) w := hk.readS Tryz.underlying25 rfl infoTFZ
end Go.Proofs.YtboealolklojiaaGreatDoor
namespace Go.Proofs.YtboealolklojiaaGreatDoor
open Go.RowKit
open Wd (Bs)

set_option maxHeartbeats 8000000 in
set_option maxRecDepth 100000 in
theorem parseWalk (s : ByteArray) (w : World) (hE : Env w) (a : Fil.Acc) (fs : ByteArray) (v q : Bool) (tx : ByteArray) (hq : (tx.toList == s.toList) = q)
    (HRD : Hid (∀ W, Env W → Calls Tryz.prog 44 #[.string s] W fun e w' => e = .returned (.agg #[.int .i64 (a.zone : Int), .int .i64 (a.who : Int), .int .i64 (a.self : Int), .int .i64 (a.types : Int), .int .i64 (a.ntypes : Int), .int .i64 (a.colors : Int), .int .i64 (a.ncolors : Int), .string fs, .int .i64 (a.keys : Int), .int .i64 (a.tap : Int), .int .i64 a.pow.kind, .int .i64 a.pow.n, .int .i64 a.tough.kind, .int .i64 a.tough.n, .int .i64 a.val.kind, .int .i64 a.val.n]) ∧ Below W.heap.size W w'))
    (HIS : Hid (∀ W, Env W → Calls Tryz.prog 7 #[.agg (cellsA a fs)] W fun e w' => e = .returned (.bool v) ∧ Below W.heap.size W w'))
    (HTX : Hid (∀ W, Env W → Calls Tryz.prog 9 #[.agg (cellsA a fs)] W fun e w' => e = .returned (.string tx) ∧ Below W.heap.size W w')) :
    Calls Tryz.prog 11 #[.string s] w fun e w' => e = .returned (if (v && q) = true then .tuple #[.agg (cellsA a fs), .int .i64 0] else .tuple #[.agg cellsZ, .int .i64 3]) ∧ Below w.heap.size w w' := by
  obtain ⟨w0, hw0⟩ : ∃ w0, w0 = w.alloc (.cells cellsZ 25) := ⟨_, rfl⟩
  have hb0 : Below w.heap.size w w0 := by rw [hw0]; exact (Below.refl _ _).alloc (Nat.le_refl _) _
  have HR0 : Hid (Blk w0 w.heap.size cellsZ 25) := Lib.hid (by rw [hw0]; exact Blk.new w _ _)
  have HE := Lib.hid (fun (W : World) (hb : Below w.heap.size w W) => hE.below hb)
  have HB0 := Lib.hid hb0
  have HQ := Lib.hid hq
  clear hE hb0 hq
  go_enter Tryz.func11, Tryz.ntmps11
  go_wp2_with fail
  rw [show w.alloc (.cells #[.int .i64 0, .int .i64 0, .int .i64 0, .int .i64 0, .int .i64 0, .int .i64 0, .int .i64 0, .string ⟨#[]⟩, .int .i64 0, .int .i64 0, .int .i64 0, .int .i64 0, .int .i64 0, .int .i64 0, .int .i64 0, .int .i64 0] 25) = w0 from hw0.symm]
  clear hw0
  refine (HRD.out _ (HE.out _ HB0.out)).mono ?_
  rintro e w1 ⟨rfl, hb⟩
  have HB : Hid (Below w.heap.size w (w1.alloc (.cells (cellsA a fs) 25))) := Lib.hid ((HB0.out.trans (hb.mono HB0.out.size)).alloc (Nat.le_trans HB0.out.size hb.size) _)
  have HR : Hid (Blk (w1.alloc (.cells (cellsA a fs) 25)) w.heap.size cellsZ 25) := Lib.hid ((HR0.out.below hb HR0.out.lt).alloc _)
  have HK : Hid (Blk (w1.alloc (.cells (cellsA a fs) 25)) w1.heap.size (cellsA a fs) 25) := Lib.hid (Blk.new w1 _ _)
  clear hb HR0 HB0
  go_upto_region 2 with fail
  obtain ⟨w2, hw2⟩ : ∃ v, v = w1.alloc (.cells (cellsA a fs) 25) := ⟨_, rfl⟩
  obtain ⟨F, hF⟩ : ∃ v, v = w1.heap.size := ⟨_, rfl⟩
  rw [← hw2] at HB HR HK
  rw [← hF] at HK
  rw [show w1.alloc (.cells #[.int .i64 (a.zone : Int), .int .i64 (a.who : Int), .int .i64 (a.self : Int), .int .i64 (a.types : Int), .int .i64 (a.ntypes : Int), .int .i64 (a.colors : Int), .int .i64 (a.ncolors : Int), .string fs, .int .i64 (a.keys : Int), .int .i64 (a.tap : Int), .int .i64 a.pow.kind, .int .i64 a.pow.n, .int .i64 a.tough.kind, .int .i64 a.tough.n, .int .i64 a.val.kind, .int .i64 a.val.n] 25) = w2 from hw2.symm, ← hF]
  clear hw2 hF
  generalize Value.agg #[.int .i64 (a.zone : Int), .int .i64 (a.who : Int), .int .i64 (a.self : Int), .int .i64 (a.types : Int), .int .i64 (a.ntypes : Int), .int .i64 (a.colors : Int), .int .i64 (a.ncolors : Int), .string fs, .int .i64 (a.keys : Int), .int .i64 (a.tap : Int), .int .i64 a.pow.kind, .int .i64 a.pow.n, .int .i64 a.tough.kind, .int .i64 a.tough.n, .int .i64 a.val.kind, .int .i64 a.val.n] = vA
  have hq : (tx.toList == s.toList) = q := HQ.out
  refine wp_region_lit ?_
  refine wpList_loadS (.tmp 4) (by rfl) rfl HK.out Tryz.underlying25 rfl (infoTF _ _) ?_
  simp only [Act.put, List.setIfInBounds_toArray, List.set_cons_zero, List.set_cons_succ]
  go_wp2_with fail
  refine (HIS.out _ (HE.out _ HB.out)).mono ?_
  rintro e wi ⟨rfl, hb⟩
  have HKI := Lib.hid (HK.out.below hb HK.out.lt)
  have HRI := Lib.hid (HR.out.below hb HR.out.lt)
  have HBI := Lib.hid (HB.out.trans (hb.mono HB.out.size))
  clear hb HK HR HB
  go_simp
  rename_i hKK
  refine hKK _ _ ?_
  clear hKK
  try simp only [Act.put, List.setIfInBounds_toArray, List.set_cons_zero, List.set_cons_succ]
  cases v with
  | false =>
    refine wpList_runV (some 9) (v := ?_) rfl (by rfl) ?_ ?_
    rotate_left
    · (go_simp; (try with_reducible rfl))
    simp only [Act.put, List.setIfInBounds_toArray, List.set_cons_zero, List.set_cons_succ]
    refine wpList_runV (some 10) (v := ?_) rfl (by rfl) ?_ ?_
    rotate_left
    · (go_simp; (try with_reducible rfl))
    simp only [Act.put, List.setIfInBounds_toArray, List.set_cons_zero, List.set_cons_succ]
    refine wpList_skipV (some 11) rfl (by rfl) ?_
    simp only [Act.put, List.setIfInBounds_toArray, List.set_cons_zero, List.set_cons_succ]
    refine wpList_skipV (some 12) rfl (by rfl) ?_
    simp only [Act.put, List.setIfInBounds_toArray, List.set_cons_zero, List.set_cons_succ]
    refine wpList_skipV (some 13) rfl (by rfl) ?_
    simp only [Act.put, List.setIfInBounds_toArray, List.set_cons_zero, List.set_cons_succ]
    refine wpList_skipV (some 14) rfl (by rfl) ?_
    simp only [Act.put, List.setIfInBounds_toArray, List.set_cons_zero, List.set_cons_succ]
    refine wpList_runV (some 15) (v := ?_) rfl (by rfl) ?_ ?_
    rotate_left
    · (go_simp; (try with_reducible rfl))
    simp only [Act.put, List.setIfInBounds_toArray, List.set_cons_zero, List.set_cons_succ]
    go_upto_region 3 with fail
    refine wp_region_lit ?_
    refine wpList_runV (some 16) (v := .agg cellsZ) rfl (by rfl) (by go_simp; rfl) ?_
    simp only [Act.put, List.setIfInBounds_toArray, List.set_cons_zero, List.set_cons_succ]
    refine wpList_storeS (.tmp 2) (.tmp 16) rfl rfl HRI.out rfl infoTFZ cellsZ_one ?_
    have HRF := Lib.hid (HRI.out.whole cellsZ rfl)
    have HBF := Lib.hid (below_whole cellsZ.toList (o := 0) HBI.out (Nat.le_refl _))
    generalize World.setCells _ _ _ _ = wf at HRF HBF ⊢
    have hL := readZ HRF.out
    go_wp2_with fail
    exact bodyPost_ret (v := .tuple #[.agg cellsZ, .int .i64 3]) (results_cell_tmp Tryz.results11 (by rfl) (by rfl) hL) rfl ⟨rfl, HBF.out⟩
  | true =>
    refine wpList_runV (some 9) (v := ?_) rfl (by rfl) ?_ ?_
    rotate_left
    · (go_simp; (try with_reducible rfl))
    simp only [Act.put, List.setIfInBounds_toArray, List.set_cons_zero, List.set_cons_succ]
    refine wpList_runV (some 10) (v := ?_) rfl (by rfl) ?_ ?_
    rotate_left
    · (go_simp; (try with_reducible rfl))
    simp only [Act.put, List.setIfInBounds_toArray, List.set_cons_zero, List.set_cons_succ]
    refine wpList_loadS (.tmp 4) (by rfl) rfl HKI.out Tryz.underlying25 rfl (infoTF _ _) ?_
    simp only [Act.put, List.setIfInBounds_toArray, List.set_cons_zero, List.set_cons_succ]
    go_wp2_with fail
    refine (HTX.out _ (HE.out _ HBI.out)).mono ?_
    rintro e wt ⟨rfl, hb⟩
    have HKT := Lib.hid (HKI.out.below hb HKI.out.lt)
    have HRT := Lib.hid (HRI.out.below hb HRI.out.lt)
    have HBT := Lib.hid (HBI.out.trans (hb.mono HBI.out.size))
    clear hb HKI HRI HBI
    go_simp
    rename_i hKK
    refine hKK _ _ ?_
    clear hKK
    try simp only [Act.put, List.setIfInBounds_toArray, List.set_cons_zero, List.set_cons_succ]
    cases q with
    | false =>
      refine wpList_runV (some 13) (v := ?_) rfl (by rfl) ?_ ?_
      rotate_left
      · (go_simp; (try with_reducible rfl))
      simp only [Act.put, List.setIfInBounds_toArray, List.set_cons_zero, List.set_cons_succ]
      refine wpList_runV (some 14) (v := .bool true) rfl (by rfl) ?_ ?_
      · (go_simp; (try with_reducible rfl))
      simp only [Act.put, List.setIfInBounds_toArray, List.set_cons_zero, List.set_cons_succ]
      refine wpList_runV (some 15) (v := ?_) rfl (by rfl) ?_ ?_
      rotate_left
      · (go_simp; (try with_reducible rfl))
      simp only [Act.put, List.setIfInBounds_toArray, List.set_cons_zero, List.set_cons_succ]
      go_upto_region 3 with fail
      refine wp_region_lit ?_
      refine wpList_runV (some 16) (v := .agg cellsZ) rfl (by rfl) (by go_simp; rfl) ?_
      simp only [Act.put, List.setIfInBounds_toArray, List.set_cons_zero, List.set_cons_succ]
      refine wpList_storeS (.tmp 2) (.tmp 16) rfl rfl HRT.out rfl infoTFZ cellsZ_one ?_
      have HRF := Lib.hid (HRT.out.whole cellsZ rfl)
      have HBF := Lib.hid (below_whole cellsZ.toList (o := 0) HBT.out (Nat.le_refl _))
      generalize World.setCells _ _ _ _ = wf at HRF HBF ⊢
      have hL := readZ HRF.out
      go_wp2_with fail
      exact bodyPost_ret (v := .tuple #[.agg cellsZ, .int .i64 3]) (results_cell_tmp Tryz.results11 (by rfl) (by rfl) hL) rfl ⟨rfl, HBF.out⟩
    | true =>
      refine wpList_runV (some 13) (v := ?_) rfl (by rfl) ?_ ?_
      rotate_left
      · (go_simp; (try with_reducible rfl))
      simp only [Act.put, List.setIfInBounds_toArray, List.set_cons_zero, List.set_cons_succ]
      refine wpList_runV (some 14) (v := .bool false) rfl (by rfl) ?_ ?_
      · (go_simp; (try with_reducible rfl))
      simp only [Act.put, List.setIfInBounds_toArray, List.set_cons_zero, List.set_cons_succ]
      refine wpList_runV (some 15) (v := ?_) rfl (by rfl) ?_ ?_
      rotate_left
      · (go_simp; (try with_reducible rfl))
      simp only [Act.put, List.setIfInBounds_toArray, List.set_cons_zero, List.set_cons_succ]
      go_upto_region 4 with fail
      refine wp_region_lit ?_
      refine wpList_loadS (.tmp 4) (by rfl) rfl HKT.out Tryz.underlying25 rfl (infoTF _ _) ?_
      simp only [Act.put, List.setIfInBounds_toArray, List.set_cons_zero, List.set_cons_succ]
      refine wpList_storeS (.tmp 2) (.tmp 17) rfl rfl HRT.out rfl (infoTF _ _) (cellsA_one _ _) ?_
      have HRF := Lib.hid (HRT.out.whole (cellsA a fs) rfl)
      have HBF := Lib.hid (below_whole (cellsA a fs).toList (o := 0) HBT.out (Nat.le_refl _))
      generalize World.setCells _ _ _ _ = wf at HRF HBF ⊢
      have hL := readA HRF.out
      go_wp2_with fail
      exact bodyPost_ret (v := .tuple #[.agg (cellsA a fs), .int .i64 0]) (results_cell_tmp Tryz.results11 (by rfl) (by rfl) hL) rfl ⟨rfl, HBF.out⟩
end Go.Proofs.YtboealolklojiaaGreatDoor
namespace Go.Proofs.YtboealolklojiaaGreatDoor
open Go.RowKit
open Wd (Bs)

/-- a valid filter holds no negative numbers but in its bounds -/
theorem acc_of {f : Fil.Flt} (h : Fil.validB f = true) : ∃ a : Fil.Acc, f = a.flt := by
  have v := Fil.valid_of h
  refine ⟨⟨f.zone.toNat, f.who.toNat, f.self.toNat, f.types.toNat, f.ntypes.toNat, f.colors.toNat, f.ncolors.toNat, f.sub, f.keys.toNat, f.tap.toNat, f.pow, f.tough, f.val⟩, ?_⟩
  unfold Fil.Acc.flt
  rw [Int.toNat_of_nonneg v.zone.1, Int.toNat_of_nonneg v.who.1, Int.toNat_of_nonneg v.self.1, Int.toNat_of_nonneg v.types.1, Int.toNat_of_nonneg v.ntypes.1, Int.toNat_of_nonneg v.colors.1, Int.toNat_of_nonneg v.ncolors.1, Int.toNat_of_nonneg v.keys.1, Int.toNat_of_nonneg v.tap.1]
set_option maxRecDepth 100000 in
/-- Text of any filter -/
theorem filText (f : Fil.Flt) (fs : ByteArray) (hf : f.sub = fs.data.toList) (hs : fs.size ≤ maxLen) (w : World) (hE : Env w) :
    Calls Tryz.prog 9 #[.agg #[.int .i64 f.zone, .int .i64 f.who, .int .i64 f.self, .int .i64 f.types, .int .i64 f.ntypes, .int .i64 f.colors, .int .i64 f.ncolors, .string fs, .int .i64 f.keys, .int .i64 f.tap, .int .i64 f.pow.kind, .int .i64 f.pow.n, .int .i64 f.tough.kind, .int .i64 f.tough.n, .int .i64 f.val.kind, .int .i64 f.val.n]] w fun e w' => e = .returned (str (Fil.textF f)) ∧ Below w.heap.size w w' := by
  cases hvb : Fil.validB f with
  | true =>
    obtain ⟨a, rfl⟩ := acc_of hvb
    exact filTextA a fs hf hs w hE
  | false =>
    have HC := Lib.hid (fun W hW => filIs f fs hf hs W hW)
    have HVB := Lib.hid hvb
    have HT := Lib.hid (Fil.textF_bad hvb)
    have hb0 : Below w.heap.size w (w.alloc (.cells #[.int .i64 f.zone, .int .i64 f.who, .int .i64 f.self, .int .i64 f.types, .int .i64 f.ntypes, .int .i64 f.colors, .int .i64 f.ncolors, .string fs, .int .i64 f.keys, .int .i64 f.tap, .int .i64 f.pow.kind, .int .i64 f.pow.n, .int .i64 f.tough.kind, .int .i64 f.tough.n, .int .i64 f.val.kind, .int .i64 f.val.n] 25)) := (Below.refl _ _).alloc (Nat.le_refl _) _
    have HB := Lib.hid hb0
    have HE := Lib.hid (hE.below hb0)
    clear hvb hb0 hE hf hs
    go_enter Tryz.func9, Tryz.ntmps9
    go_wp2_with fail
    refine (HC.out _ HE.out).mono ?_
    rw [HVB.out]
    rintro e w1 ⟨rfl, hb1⟩
    go_wp2_with fail
    go_ret
    exact ⟨by rw [HT.out]; rfl, HB.out.trans (hb1.mono HB.out.size)⟩
/-- what Parse answers: a filter with its subtype's bytes, an error -/
def ParseRes (s : Bs) (w : World) (e : Ending) (w' : World) : Prop :=
  (∃ (a : Fil.Acc) (fs : ByteArray), Fil.parseV s = a.flt ∧ Fil.parseE s = 0 ∧ Fil.validB a.flt = true ∧ Fil.textF a.flt = s ∧ a.sub = fs.data.toList ∧ e = .returned (.tuple #[.agg #[.int .i64 (a.zone : Int), .int .i64 (a.who : Int), .int .i64 (a.self : Int), .int .i64 (a.types : Int), .int .i64 (a.ntypes : Int), .int .i64 (a.colors : Int), .int .i64 (a.ncolors : Int), .string fs, .int .i64 (a.keys : Int), .int .i64 (a.tap : Int), .int .i64 a.pow.kind, .int .i64 a.pow.n, .int .i64 a.tough.kind, .int .i64 a.tough.n, .int .i64 a.val.kind, .int .i64 a.val.n], .int .i64 0]) ∧ Below w.heap.size w w') ∨
  (Fil.parseV s = Fil.zero ∧ Fil.parseE s = 3 ∧ e = .returned (.tuple #[.agg #[.int .i64 0, .int .i64 0, .int .i64 0, .int .i64 0, .int .i64 0, .int .i64 0, .int .i64 0, .string ⟨#[]⟩, .int .i64 0, .int .i64 0, .int .i64 0, .int .i64 0, .int .i64 0, .int .i64 0, .int .i64 0, .int .i64 0], .int .i64 3]) ∧ Below w.heap.size w w')
/-- what a parser's walk leaves, read as the answer -/
theorem parseRes_of {s : ByteArray} {a : Fil.Acc} {fs tx : ByteArray} {w w' : World} {e : Ending} (hsub : a.sub = fs.data.toList) (htx : tx.data.toList = Fil.textF a.flt)
    (hyes : Fil.validB a.flt = true → Fil.textF a.flt = s.data.toList → Fil.parseV s.data.toList = a.flt ∧ Fil.parseE s.data.toList = 0)
    (hno : ¬ Fil.Is_ a.flt s.data.toList → Fil.parseV s.data.toList = Fil.zero ∧ Fil.parseE s.data.toList = 3)
    (he : e = .returned (if (Fil.validB a.flt && (tx.toList == s.toList)) = true then .tuple #[.agg (cellsA a fs), .int .i64 0] else .tuple #[.agg cellsZ, .int .i64 3])) (hb : Below w.heap.size w w') : ParseRes s.data.toList w e w' := by
  by_cases h : Fil.Is_ a.flt s.data.toList
  · have h2 : (tx.toList == s.toList) = true := bytes_eq (by rw [htx]; exact h.2)
    rw [h.1, h2, if_pos (by rfl)] at he
    have h3 := hyes h.1 h.2
    exact .inl ⟨a, fs, h3.1, h3.2, h.1, h.2, hsub, he, hb⟩
  · have h3 := hno h
    have h4 : (Fil.validB a.flt && (tx.toList == s.toList)) = false := by
      cases hv : Fil.validB a.flt with
      | false => rfl
      | true => exact bytes_ne (by rw [htx]; exact fun e => h ⟨hv, e⟩)
    rw [h4, if_neg (by decide)] at he
    exact .inr ⟨h3.1, h3.2, he, hb⟩
theorem filParse (s : ByteArray) (w : World) (hs : s.size ≤ 1000000) (hE : Env w) : Calls Tryz.prog 11 #[.string s] w (ParseRes s.data.toList w) := by
  obtain ⟨a, fs, hr, hsub, hfl, hcall⟩ := filReadAcc s hs
  have hm : fs.size ≤ maxLen := by unfold maxLen; omega
  obtain ⟨tx, htx, etx⟩ := exists_bytes (Fil.textF a.flt)
  refine (parseWalk s w hE a fs (Fil.validB a.flt) _ tx rfl (Lib.hid hcall) (Lib.hid fun W hW => filIs a.flt fs hsub hm W hW) (Lib.hid fun W hW => by rw [← etx]; exact filText a.flt fs hsub hm W hW)).mono fun e w' ⟨he, hb⟩ => ?_
  exact parseRes_of hsub htx (fun h1 h2 => by rw [← hr]; exact Fil.parse_yes (by rw [hr]; exact h1) (by rw [hr]; exact h2)) (fun h => Fil.parse_no (by rw [hr]; exact h)) he hb
end Go.Proofs.YtboealolklojiaaGreatDoor
