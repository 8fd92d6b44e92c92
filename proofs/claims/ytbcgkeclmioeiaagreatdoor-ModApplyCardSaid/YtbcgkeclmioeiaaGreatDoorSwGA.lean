/-
  MERGED: Struct, FilCell, FilParse, FilEq, FilParseC, FilHand, FilLit, StructB, FilCells, Cat, ModPlain, DrawKit, ModCell. By an AI agent.
-/
import Derived.Test.YtbcgkeclmioeiaaGreatDoorBlk
import Derived.Deep.MidRow
import Derived.Deep.RegionHeld3
import Derived.WalkKit
import Derived.Test.YtbcgkeclmioeiaaGreatDoorFilKit
import Derived.Test.YtbcgkeclmioeiaaGreatDoorFilIs
import Derived.Laws.StructEq
import Derived.ChangeKeysEq
import Derived.Test.YtbcgkeclmioeiaaGreatDoorHand
import Derived.Deep.Cut
import Derived.Lib.ReflectliteSwap
import Derived.Test.YtbcgkeclmioeiaaGreatDoorFilTake
import Derived.Test.YtbcgkeclmioeiaaGreatDoorFilRef
import Derived.Laws.Tables
namespace Go.Proofs.YtbcgkeclmioeiaaGreatDoor
open Go.RowKit

theorem Blk.rangeS {w : World} {b : Nat} {cs : Array Value} {t : TypeId} (h : Blk w b cs t) : w.rangeAt b 0 cs.toList := fun j v hv => by
  rw [Nat.zero_add, h.cell j]
  simpa using hv
theorem Blk.thereS {w : World} {b : Nat} {cs : Array Value} {t : TypeId} (h : Blk w b cs t) : w.there b 0 cs.size := fun j hj => by
  rw [Nat.zero_add]
  exact ⟨by rw [h.cell j, Array.getElem?_eq_getElem hj]; rfl, h.free j⟩
def laidAt (cs : Array Value) (o : Nat) : List Value → Array Value
  | [] => cs
  | v :: vs => laidAt (cs.setIfInBounds o v) (o + 1) vs
theorem laidAt_size : ∀ (vs : List Value) (cs : Array Value) (o : Nat), (laidAt cs o vs).size = cs.size
  | [], _, _ => rfl
  | v :: vs, cs, o => by rw [laidAt, laidAt_size vs]; simp
theorem laidAt_get : ∀ (vs : List Value) (cs : Array Value) (o j : Nat), o + vs.length ≤ cs.size → (laidAt cs o vs)[j]? = if o ≤ j ∧ j < o + vs.length then vs[j - o]? else cs[j]?
  | [], cs, o, j, _ => by rw [laidAt, if_neg (by simp)]
  | v :: vs, cs, o, j, h => by
    simp only [List.length_cons] at h ⊢
    rw [laidAt, laidAt_get vs _ _ j (by simp; omega)]
    by_cases h1 : o + 1 ≤ j ∧ j < o + 1 + vs.length
    · rw [if_pos h1, if_pos ⟨by omega, by omega⟩]
      obtain ⟨d, hd⟩ : ∃ d, j = o + 1 + d := ⟨j - (o + 1), by omega⟩
      subst hd
      rw [show o + 1 + d - (o + 1) = d by omega, show o + 1 + d - o = d + 1 by omega, List.getElem?_cons_succ]
    · rw [if_neg h1]
      by_cases h2 : j = o
      · subst h2
        rw [if_pos ⟨by omega, by omega⟩, Nat.sub_self, List.getElem?_cons_zero, Array.getElem?_setIfInBounds_self_of_lt (by omega)]
      · rw [if_neg (by omega), Array.getElem?_setIfInBounds_ne (by omega)]
theorem laidAt_whole {cs vs : Array Value} (h : vs.size = cs.size) : laidAt cs 0 vs.toList = vs := by
  apply Array.ext_getElem?
  intro j
  rw [laidAt_get _ _ _ _ (by simp [h])]
  simp only [Nat.zero_le, Nat.zero_add, true_and, Nat.sub_zero, Array.length_toList, Array.getElem?_toList]
  by_cases hj : j < vs.size
  · rw [if_pos hj]
  · rw [if_neg hj, Array.getElem?_eq_none (by omega), Array.getElem?_eq_none (by omega)]
theorem Blk.laid : ∀ {vs : List Value} {w : World} {b o : Nat} {cs : Array Value} {t : TypeId}, Blk w b cs t → Blk (w.setCells b o vs) b (laidAt cs o vs) t
  | [], _, _, _, _, _, h => h
  | v :: vs, w, b, o, cs, t, h => by
    show Blk ((w.setCell ⟨b, o, none⟩ v).setCells b (o + 1) vs) b (laidAt (cs.setIfInBounds o v) (o + 1) vs) t
    exact Blk.laid (h.set o v)
/-- a block stored whole -/
theorem Blk.whole {w : World} {b : Nat} {cs : Array Value} {t : TypeId} (h : Blk w b cs t) (vs : Array Value) (hn : vs.size = cs.size) : Blk (w.setCells b 0 vs.toList) b vs t := by
  have := h.laid (o := 0) (vs := vs.toList)
  rw [laidAt_whole hn] at this
  exact this
theorem Blk.wholeElse : ∀ (vs : List Value) {w : World} {b g o : Nat} {cs : Array Value} {t : TypeId}, Blk w b cs t → b ≠ g → Blk (w.setCells g o vs) b cs t
  | [], _, _, _, _, _, _, h, _ => h
  | v :: vs, w, b, g, o, cs, t, h, hg => by
    show Blk ((w.setCell ⟨g, o, none⟩ v).setCells g (o + 1) vs) b cs t
    exact Blk.wholeElse vs (h.other hg o v) hg
theorem below_whole : ∀ (vs : List Value) {C : Nat} {w0 w : World} {b o : Nat}, Below C w0 w → C ≤ b → Below C w0 (w.setCells b o vs)
  | [], _, _, _, _, _, h, _ => h
  | v :: vs, C, w0, w, b, o, h, hC => by
    show Below C w0 ((w.setCell ⟨b, o, none⟩ v).setCells b (o + 1) vs)
    exact below_whole vs (h.setCell (by exact hC) v) hC
theorem cell_wholeElse (vs : List Value) {w : World} {b g o : Nat} (p : Nat) (hg : b ≠ g) : (w.setCells g o vs).cell? ⟨b, p, none⟩ = w.cell? ⟨b, p, none⟩ :=
  World.cell?_setCells_out g vs o w ⟨b, p, none⟩ fun e => absurd e hg
theorem size_whole : ∀ (vs : List Value) (w : World) (b o : Nat), (w.setCells b o vs).heap.size = w.heap.size
  | [], _, _, _ => rfl
  | v :: vs, w, b, o => by
    show ((w.setCell ⟨b, o, none⟩ v).setCells b (o + 1) vs).heap.size = _
    rw [size_whole vs]; simp
section
variable {P : Program}
/-- a struct loaded whole, at a region's list -/
theorem wpList_loadS {ops : Array Oper} {rest : List Oper} {a : Act} {w : World} {Q : Exit → Act → World → Prop} {d : Option Tmp} {ty T : TypeId} {ps : String} {af : Array Edge} {gd : Option (Nat × Bool)} (x : Operand)
    (hw : Region.wanted { dst := d, op := .load T x, type := ty, pos := ps, after := af, guard := gd } (yielded ops a.tmps) = true)
    {b : Nat} {cs : Array Value} {D : TypeDesc} (hx : a.eval x = .pointer (some ⟨b, 0, none⟩)) (hk : Blk w b cs T) (hu : P.underlying T = some D) (hd : D.isRow = true) (hn : (P.info? T).map (·.size) = some cs.size)
    (h : wpList P ops Q rest (a.put d (.agg cs)) w) : wpList P ops Q ({ dst := d, op := .load T x, type := ty, pos := ps, after := af, guard := gd } :: rest) a w := by
  unfold wpList
  rw [if_pos hw]
  refine .inl (wp_load_mid T x rfl b 0 hx cs.toList _ hk.rangeS hu hd (by simpa using hn) ?_)
  simpa using h
theorem wp_loadS {o : Oper} {a : Act} {w : World} {K : Act → World → Prop} {Q : Exit → Act → World → Prop} {T : TypeId} (x : Operand) (ho : o.op = .load T x)
    {b : Nat} {cs : Array Value} {D : TypeDesc} (hx : a.eval x = .pointer (some ⟨b, 0, none⟩)) (hk : Blk w b cs T) (hu : P.underlying T = some D) (hd : D.isRow = true) (hn : (P.info? T).map (·.size) = some cs.size)
    (h : K (a.put o.dst (.agg cs)) w) : Oper.wp P o a w K Q := by
  refine wp_load_mid T x ho b 0 hx cs.toList _ hk.rangeS hu hd (by simpa using hn) ?_
  simpa using h
theorem wp_storeS {o : Oper} {a : Act} {w : World} {K : Act → World → Prop} {Q : Exit → Act → World → Prop} {T : TypeId} (x y : Operand) (ho : o.op = .store T x y)
    {b : Nat} {cs vs : Array Value} (hx : a.eval x = .pointer (some ⟨b, 0, none⟩)) (hy : a.eval y = .agg vs) (hk : Blk w b cs T) (hn : vs.size = cs.size) (hi : (P.info? T).map (·.size) = some vs.size) (h1 : vs.all (·.oneCell') = true)
    (h : K (a.put o.dst undef) (w.setCells b 0 vs.toList)) : Oper.wp P o a w K Q :=
  wp_store_mid T x y ho b 0 vs hx hy (by have := hk.thereS; rw [← hn] at this; exact this) hi h1 h
theorem wpList_storeS {ops : Array Oper} {rest : List Oper} {a : Act} {w : World} {Q : Exit → Act → World → Prop} {d : Option Tmp} {ty T : TypeId} {ps : String} {af : Array Edge} (x y : Operand)
    {b : Nat} {cs vs : Array Value} (hx : a.eval x = .pointer (some ⟨b, 0, none⟩)) (hy : a.eval y = .agg vs) (hk : Blk w b cs T) (hn : vs.size = cs.size) (hi : (P.info? T).map (·.size) = some vs.size) (h1 : vs.all (·.oneCell') = true)
    (h : wpList P ops Q rest (a.put d undef) (w.setCells b 0 vs.toList)) : wpList P ops Q ({ dst := d, op := .store T x y, type := ty, pos := ps, after := af, guard := none } :: rest) a w :=
  wpList_store_mid rfl T x y rfl b 0 vs hx hy (by have := hk.thereS; rw [← hn] at this; exact this) hi h1 h
theorem wpList_runV {ops : Array Oper} {rest : List Oper} {o : Oper} {a : Act} {w : World} {Q : Exit → Act → World → Prop} (d : Option Tmp) {v : Value} (hd : o.dst = d)
    (hw : Region.wanted o (yielded ops a.tmps) = true) (hy : (execOp a.eval o).run P w = .ok (.value v) w)
    (h : wpList P ops Q rest (a.put d v) w) : wpList P ops Q (o :: rest) a w := by
  subst hd
  unfold wpList
  rw [if_pos hw]
  refine .inl ?_
  unfold Oper.wp
  rw [hy]
  exact h
theorem wpList_skipV {ops : Array Oper} {rest : List Oper} {o : Oper} {a : Act} {w : World} {Q : Exit → Act → World → Prop} (d : Option Tmp) (hd : o.dst = d)
    (hw : Region.wanted o (yielded ops a.tmps) = false) (h : wpList P ops Q rest (a.put d undef) w) : wpList P ops Q (o :: rest) a w := by
  subst hd
  exact wpList_skip hw h
/-- an operation that leaves another world (an alloc) -/
theorem wpList_runWV {ops : Array Oper} {rest : List Oper} {o : Oper} {a : Act} {w : World} {Q : Exit → Act → World → Prop} (d : Option Tmp) {v : Value} {w' : World} (hd : o.dst = d)
    (hw : Region.wanted o (yielded ops a.tmps) = true) (hy : (execOp a.eval o).run P w = .ok (.value v) w')
    (h : wpList P ops Q rest (a.put d v) w') : wpList P ops Q (o :: rest) a w := by
  subst hd
  unfold wpList
  rw [if_pos hw]
  refine .inl ?_
  unfold Oper.wp
  rw [hy]
  exact h
theorem Blk.readS {w : World} {b : Nat} {cs : Array Value} {T : TypeId} {D : TypeDesc} (hk : Blk w b cs T) (hu : P.underlying T = some D) (hd : D.isRow = true) (hn : (P.info? T).map (·.size) = some cs.size) :
    (loadVar T ⟨b, 0, none⟩).run P w = .ok (.agg cs) w := by
  have := run_loadVar_mid (P := P) w b 0 T cs.toList D hk.rangeS hu hd (by simpa using hn)
  simpa using this
theorem results_cell {fn : Func} {tmps : Array Value} {w : World} {x : Tmp} {T : TypeId} {A : Addr} {v : Value} (h : fn.results = #[.cell x T]) (ha : tmps.getD x undef = .pointer (some A)) (hL : (loadVar T A).run P w = .ok v w) :
    (results fn tmps).run P w = .ok v w := by
  have ha' : tmps[x]?.getD undef = .pointer (some A) := by simpa using ha
  simp [results, h, ha', asAddr, hL]
theorem results_cell_tmp {fn : Func} {tmps : Array Value} {w : World} {x y : Tmp} {T : TypeId} {A : Addr} {v u : Value} (h : fn.results = #[.cell x T, .tmp y]) (ha : tmps.getD x undef = .pointer (some A)) (hu : tmps.getD y undef = u) (hL : (loadVar T A).run P w = .ok v w) :
    (results fn tmps).run P w = .ok (.tuple #[v, u]) w := by
  have ha' : tmps[x]?.getD undef = .pointer (some A) := by simpa using ha
  have hu' : tmps[y]?.getD undef = u := by simpa using hu
  simp [results, h, ha', hu', asAddr, hL]
end
end Go.Proofs.YtbcgkeclmioeiaaGreatDoor
namespace Go.Proofs.YtbcgkeclmioeiaaGreatDoor
open Go.RowKit
open Wd (Bs)

def cellsA (a : Fil.Acc) (gs : ByteArray) : Array Value := #[.int .i64 (a.zone : Int), .int .i64 (a.who : Int), .int .i64 (a.self : Int), .int .i64 (a.types : Int), .int .i64 (a.ntypes : Int), .int .i64 (a.colors : Int), .int .i64 (a.ncolors : Int), .string gs, .int .i64 (a.keys : Int), .int .i64 (a.tap : Int), .int .i64 a.pow.kind, .int .i64 a.pow.n, .int .i64 a.tough.kind, .int .i64 a.tough.n, .int .i64 a.val.kind, .int .i64 a.val.n]
def cellsZ : Array Value := #[.int .i64 0, .int .i64 0, .int .i64 0, .int .i64 0, .int .i64 0, .int .i64 0, .int .i64 0, .string ⟨#[]⟩, .int .i64 0, .int .i64 0, .int .i64 0, .int .i64 0, .int .i64 0, .int .i64 0, .int .i64 0, .int .i64 0]
theorem cellsA_one (a : Fil.Acc) (gs : ByteArray) : (cellsA a gs).all (·.oneCell') = true := by simp [cellsA, Value.oneCell']
theorem cellsZ_one : cellsZ.all (·.oneCell') = true := by simp [cellsZ, Value.oneCell']
theorem infoTF (a : Fil.Acc) (gs : ByteArray) : (Tryz.prog.info? 25).map (·.size) = some (cellsA a gs).size := by rw [sizeTF]; rfl
theorem infoTFZ : (Tryz.prog.info? 25).map (·.size) = some cellsZ.size := by rw [sizeTF]; rfl
theorem readA {w : World} {b : Nat} {a : Fil.Acc} {gs : ByteArray} (hk : Blk w b (cellsA a gs) 25) : (loadVar 25 ⟨b, 0, none⟩).run Tryz.prog w = .ok (.agg (cellsA a gs)) w := hk.readS Tryz.underlying25 rfl (infoTF a gs)
theorem readZ {w : World} {b : Nat} (hk : Blk w b cellsZ 25) : (loadVar 25 ⟨b, 0, none⟩).run Tryz.prog w = .ok (.agg cellsZ) w := hk.readS Tryz.underlying25 rfl infoTFZ
end Go.Proofs.YtbcgkeclmioeiaaGreatDoor
namespace Go.Proofs.YtbcgkeclmioeiaaGreatDoor
open Go.RowKit
open Wd (Bs)

/-- a valid filter holds no negative numbers but in its bounds -/
theorem acc_of {f : Fil.Flt} (h : Fil.validB f = true) : ∃ a : Fil.Acc, f = a.flt := by
  have v := Fil.valid_of h
  refine ⟨⟨f.zone.toNat, f.who.toNat, f.self.toNat, f.types.toNat, f.ntypes.toNat, f.colors.toNat, f.ncolors.toNat, f.sub, f.keys.toNat, f.tap.toNat, f.pow, f.tough, f.val⟩, ?_⟩
  unfold Fil.Acc.flt
  rw [Int.toNat_of_nonneg v.zone.1, Int.toNat_of_nonneg v.who.1, Int.toNat_of_nonneg v.self.1, Int.toNat_of_nonneg v.types.1, Int.toNat_of_nonneg v.ntypes.1, Int.toNat_of_nonneg v.colors.1, Int.toNat_of_nonneg v.ncolors.1, Int.toNat_of_nonneg v.keys.1, Int.toNat_of_nonneg v.tap.1]


theorem filter_one (x : Bs) : [x].filter (fun x => !(x == [])) = Fil.one x := by
  unfold Fil.one
  cases x <;> rfl
theorem filter_all {l : List Bs} (h : ∀ x ∈ l, x ≠ []) : l.filter (fun x => !(x == [])) = l := List.filter_eq_self.2 fun x hx => by
  have := h x hx
  cases x with
  | nil => exact absurd rfl this
  | cons a r => rfl
/-- all words, the empty ones too, are a filter's parts -/
theorem raw_parts {a : Fil.Acc} (h : Fil.Valid a.flt) : ((((((([Fil.tbl Fil.zonesL a.zone, Fil.tbl Fil.whoL a.who, Fil.tbl Fil.selfL a.self] ++ Fil.maskW Fil.typeW [] a.types 31) ++ Fil.maskW Fil.typeW Fil.sNon a.ntypes 31) ++ Fil.maskW Col.name [] a.colors 31) ++
    Fil.maskW Col.name Fil.sNon a.ncolors 31) ++ Fil.one (Fil.subW a.sub)) ++ Fil.maskW Kw.name Fil.sWith a.keys 31) ++ [Fil.tbl Fil.tapL a.tap, Fil.bdW Fil.sPow a.pow, Fil.bdW Fil.sTough a.tough, Fil.bdW Fil.sVal a.val]).filter (fun x => !(x == [])) = Fil.parts a.flt := by
  have b3 : a.types < 2 ^ 6 := by have := h.types.2; change (a.types : Int) ≤ 63 at this; omega
  have b4 : a.ntypes < 2 ^ 6 := by have := h.ntypes.2; change (a.ntypes : Int) ≤ 63 at this; omega
  have b5 : a.colors < 2 ^ 5 := by have := h.colors.2; change (a.colors : Int) ≤ 31 at this; omega
  have b6 : a.ncolors < 2 ^ 5 := by have := h.ncolors.2; change (a.ncolors : Int) ≤ 31 at this; omega
  have b8 : a.keys < 2 ^ 17 := by have := h.keys.2; change (a.keys : Int) ≤ 131071 at this; omega
  rw [maskW_full b3 (by omega), maskW_full b4 (by omega), maskW_full b5 (by omega), maskW_full b6 (by omega), maskW_full b8 (by omega)]
  have k : ∀ i, (Fil.seg a.flt i).filter (fun x => !(x == [])) = Fil.seg a.flt i := fun i => filter_all fun x hx => (Fil.seg_plain h i hx).2
  have k3 := k 3; have k4 := k 4; have k5 := k 5; have k6 := k 6; have k7 := k 7; have k8 := k 8
  change (Fil.maskW Fil.typeW [] a.types 6).filter _ = Fil.maskW Fil.typeW [] a.types 6 at k3
  change (Fil.maskW Fil.typeW Fil.sNon a.ntypes 6).filter _ = Fil.maskW Fil.typeW Fil.sNon a.ntypes 6 at k4
  change (Fil.maskW Col.name [] a.colors 5).filter _ = Fil.maskW Col.name [] a.colors 5 at k5
  change (Fil.maskW Col.name Fil.sNon a.ncolors 5).filter _ = Fil.maskW Col.name Fil.sNon a.ncolors 5 at k6
  change (Fil.one (Fil.subW a.sub)).filter _ = Fil.one (Fil.subW a.sub) at k7
  change (Fil.maskW Kw.name Fil.sWith a.keys 17).filter _ = Fil.maskW Kw.name Fil.sWith a.keys 17 at k8
  have e3 : ∀ x y z : Bs, [x, y, z] = [x] ++ ([y] ++ [z]) := fun _ _ _ => rfl
  have e4 : ∀ x y z u : Bs, [x, y, z, u] = [x] ++ ([y] ++ ([z] ++ [u])) := fun _ _ _ _ => rfl
  rw [e3, e4]
  simp only [List.filter_append, filter_one, k3, k4, k5, k6, k7, k8, List.append_assoc]
  show _ = Fil.one (Fil.tbl Fil.zonesL a.zone) ++ (Fil.one (Fil.tbl Fil.whoL a.who) ++ (Fil.one (Fil.tbl Fil.selfL a.self) ++ (Fil.maskW Fil.typeW [] a.types 6 ++ (Fil.maskW Fil.typeW Fil.sNon a.ntypes 6 ++ (Fil.maskW Col.name [] a.colors 5 ++ (Fil.maskW Col.name Fil.sNon a.ncolors 5 ++
    (Fil.one (Fil.subW a.sub) ++ (Fil.maskW Kw.name Fil.sWith a.keys 17 ++ (Fil.one (Fil.tbl Fil.tapL a.tap) ++ (Fil.one (Fil.bdW Fil.sPow a.pow) ++ (Fil.one (Fil.bdW Fil.sTough a.tough) ++ (Fil.one (Fil.bdW Fil.sVal a.val) ++ []))))))))))))
  rw [List.append_nil]
theorem maskW_len (nm : Nat → Bs) (pre : Bs) (m n : Nat) : (Fil.maskW nm pre m n).length ≤ n := by
  unfold Fil.maskW
  rw [List.length_map]
  exact Nat.le_trans (List.length_filter_le _ _) (by simp)
/-! how long a text is -/
theorem one_len (x : Bs) : (Fil.one x).length ≤ 1 := by unfold Fil.one; split <;> simp
theorem parts_len (f : Fil.Flt) : (Fil.parts f).length ≤ 60 := by
  show (Fil.seg f 0 ++ (Fil.seg f 1 ++ (Fil.seg f 2 ++ (Fil.seg f 3 ++ (Fil.seg f 4 ++ (Fil.seg f 5 ++ (Fil.seg f 6 ++ (Fil.seg f 7 ++ (Fil.seg f 8 ++ (Fil.seg f 9 ++ (Fil.seg f 10 ++ (Fil.seg f 11 ++ (Fil.seg f 12 ++ []))))))))))))).length ≤ 60
  simp only [List.length_append, List.length_nil]
  have h0 : (Fil.seg f 0).length ≤ 1 := one_len _
  have h1 : (Fil.seg f 1).length ≤ 1 := one_len _
  have h2 : (Fil.seg f 2).length ≤ 1 := one_len _
  have h3 : (Fil.seg f 3).length ≤ 6 := maskW_len _ _ _ _
  have h4 : (Fil.seg f 4).length ≤ 6 := maskW_len _ _ _ _
  have h5 : (Fil.seg f 5).length ≤ 5 := maskW_len _ _ _ _
  have h6 : (Fil.seg f 6).length ≤ 5 := maskW_len _ _ _ _
  have h7 : (Fil.seg f 7).length ≤ 1 := one_len _
  have h8 : (Fil.seg f 8).length ≤ 17 := maskW_len _ _ _ _
  have h9 : (Fil.seg f 9).length ≤ 1 := one_len _
  have h10 : (Fil.seg f 10).length ≤ 1 := one_len _
  have h11 : (Fil.seg f 11).length ≤ 1 := one_len _
  have h12 : (Fil.seg f 12).length ≤ 1 := one_len _
  omega
theorem tbl_len {l : List Bs} (h : (l.all fun p => decide (p.length ≤ 50)) = true) (x : Int) : (Fil.tbl l x).length ≤ 50 := by
  unfold Fil.tbl
  rw [List.getD]
  cases hx : l[x.toNat]? with
  | none => exact Nat.zero_le _
  | some p => simpa using List.all_eq_true.1 h p (List.mem_of_getElem? hx)
theorem bdW_len {nm : Bs} (hn : nm.length ≤ 5) {b : Fil.Bd} (hv : Fil.bdB b = true) : (Fil.bdW nm b).length ≤ 50 := by
  obtain ⟨h0, h1, h2, h3, -⟩ := Fil.bd_valid hv
  unfold Fil.bdW
  split
  · exact Nat.zero_le _
  · have e1 := sign_len b.kind.toNat
    have e2 := Num.itoa_len (n := b.n) (by omega) (by omega)
    rw [List.length_append, List.length_append]
    omega
theorem sub_len {s : Bs} (h : Fil.subB s = true) : s.length ≤ 32 := by
  by_cases h0 : s = []
  · rw [h0]; decide
  · exact (Ln.name_p (Fil.sub_name h h0)).2.1
theorem seg_len {f : Fil.Flt} (h : Fil.Valid f) (i : Nat) {w : Bs} (hw : w ∈ Fil.seg f i) : w.length ≤ 50 := by
  have o : ∀ {x : Bs}, x.length ≤ 50 → w ∈ Fil.one x → w.length ≤ 50 := by
    intro x hx hw
    obtain ⟨rfl, -⟩ := Fil.mem_one hw
    exact hx
  have mk : ∀ {nm : Nat → Bs} {pre : Bs} {m n : Nat}, (∀ k, k < n → (pre ++ nm k).length ≤ 50) → w ∈ Fil.maskW nm pre m n → w.length ≤ 50 := by
    intro nm pre m n h1 hw
    obtain ⟨k, hk, _, rfl⟩ := Fil.mem_maskW hw
    exact h1 k hk
  match i, hw with
  | 0, hw => exact o (tbl_len (by decide) _) hw
  | 1, hw => exact o (tbl_len (by decide) _) hw
  | 2, hw => exact o (tbl_len (by decide) _) hw
  | 3, hw => exact mk (by decide +kernel) hw
  | 4, hw => exact mk (by decide +kernel) hw
  | 5, hw => exact mk (by decide +kernel) hw
  | 6, hw => exact mk (by decide +kernel) hw
  | 7, hw =>
    refine o ?_ hw
    have := sub_len h.sub
    unfold Fil.subW
    split
    · exact Nat.zero_le _
    · rw [List.length_append]; have : Fil.sSub.length = 4 := rfl; omega
  | 8, hw => exact mk (by decide +kernel) hw
  | 9, hw => exact o (tbl_len (by decide) _) hw
  | 10, hw => exact o (bdW_len (by decide) h.pow) hw
  | 11, hw => exact o (bdW_len (by decide) h.tough) hw
  | 12, hw => exact o (bdW_len (by decide) h.val) hw
  | n + 13, hw => cases hw
theorem from_len {f : Fil.Flt} (h : Fil.Valid f) : ∀ (n i : Nat) {w : Bs}, w ∈ Fil.from_ f i n → w.length ≤ 50
  | 0, _, _, hw => by cases hw
  | n + 1, i, w, hw => by
    rcases List.mem_append.1 hw with h1 | h1
    · exact seg_len h i h1
    · exact from_len h n (i + 1) h1
theorem text_len {f : Fil.Flt} (h : Fil.Valid f) : (Lib.join (Fil.parts f) [32]).length ≤ 4000 := by
  have h1 := join_len_le (c := 32) (m := 50) (ps := Fil.parts f) fun p hp => from_len h 13 0 hp
  have h2 := parts_len f
  omega
/-- what Parse answers: a filter with its subtype's bytes, an error -/
def ParseRes (s : Bs) (w : World) (e : Ending) (w' : World) : Prop :=
  (∃ (a : Fil.Acc) (fs : ByteArray), Fil.parseV s = a.flt ∧ Fil.parseE s = 0 ∧ Fil.validB a.flt = true ∧ Fil.textF a.flt = s ∧ a.sub = fs.data.toList ∧ e = .returned (.tuple #[.agg #[.int .i64 (a.zone : Int), .int .i64 (a.who : Int), .int .i64 (a.self : Int), .int .i64 (a.types : Int), .int .i64 (a.ntypes : Int), .int .i64 (a.colors : Int), .int .i64 (a.ncolors : Int), .string fs, .int .i64 (a.keys : Int), .int .i64 (a.tap : Int), .int .i64 a.pow.kind, .int .i64 a.pow.n, .int .i64 a.tough.kind, .int .i64 a.tough.n, .int .i64 a.val.kind, .int .i64 a.val.n], .int .i64 0]) ∧ Below w.heap.size w w') ∨
  (Fil.parseV s = Fil.zero ∧ Fil.parseE s = 3 ∧ e = .returned (.tuple #[.agg #[.int .i64 0, .int .i64 0, .int .i64 0, .int .i64 0, .int .i64 0, .int .i64 0, .int .i64 0, .string ⟨#[]⟩, .int .i64 0, .int .i64 0, .int .i64 0, .int .i64 0, .int .i64 0, .int .i64 0, .int .i64 0, .int .i64 0], .int .i64 3]) ∧ Below w.heap.size w w')
end Go.Proofs.YtbcgkeclmioeiaaGreatDoor
namespace Go.Proofs.YtbcgkeclmioeiaaGreatDoor
open Go.RowKit
open Wd (Bs)

theorem partInt (xs : Array Value) (i : Nat) (v : Value) (h : xs[i]? = some v) (w : World) : (part 3 xs i).run Tryz.prog w = .ok v w :=
  run_part_plain w (by kernel_rfl) h
theorem partStr (xs : Array Value) (i : Nat) (v : Value) (h : xs[i]? = some v) (w : World) : (part 9 xs i).run Tryz.prog w = .ok v w :=
  run_part_plain w (by kernel_rfl) h
theorem eqFields_step (d : Nat) (xs ys : Array Value) (f : Field) (fs : List Field) (hn : f.name ≠ "_") (u v : Value) {s r : Bool} (w : World) (ha : (part f.type xs f.offset).run Tryz.prog w = .ok u w) (hb : (part f.type ys f.offset).run Tryz.prog w = .ok v w)
    (hs : (Op.equalIn d f.type u v).run Tryz.prog w = .ok s w) (h : (Op.eqFields d xs ys fs).run Tryz.prog w = .ok r w) : (Op.eqFields d xs ys (f :: fs)).run Tryz.prog w = .ok (s && r) w := by
  simp only [Op.eqFields, Sem.run_bind, Sem.run_ite, if_pos hn, ha, hb, Result.andThen_ok, hs]
  cases s
  · simp
  · simp [h]
def eqB (p q : Fil.Bd) : Bool := p.kind == q.kind && (p.n == q.n && true)
theorem eqB_iff {p q : Fil.Bd} : eqB p q = true ↔ p = q := by
  cases p; cases q
  simp [eqB]
theorem run_eq_bd (d : Nat) (p q : Fil.Bd) (w : World) : (Op.equalIn (d + 1 + 1) 23 (.agg #[.int .i64 p.kind, .int .i64 p.n]) (.agg #[.int .i64 q.kind, .int .i64 q.n])).run Tryz.prog w = .ok (eqB p q) w := by
  rw [run_equalIn_struct w (d + 1) 23 _ _ (by kernel_rfl) (by kernel_rfl)]
  simp only [Program.fieldsOf, Tryz.underlying23]
  have k2 := eqFields_step (d + 1) #[.int .i64 p.kind, .int .i64 p.n] #[.int .i64 q.kind, .int .i64 q.n] { name := "N", type := 3, offset := 1, embedded := false, tag := "", pkgPath := "", byteOffset := 8 } [] (by decide) _ _ w (partInt _ 1 _ rfl w) (partInt _ 1 _ rfl w) (run_equalIn_int w d 3 .i64 .i64 p.n q.n Tryz.underlying3) (r := true) (by simp [Op.eqFields])
  exact eqFields_step (d + 1) #[.int .i64 p.kind, .int .i64 p.n] #[.int .i64 q.kind, .int .i64 q.n] { name := "Kind", type := 3, offset := 0, embedded := false, tag := "", pkgPath := "", byteOffset := 0 } _ (by decide) _ _ w (partInt _ 0 _ rfl w) (partInt _ 0 _ rfl w) (run_equalIn_int w d 3 .i64 .i64 p.kind q.kind Tryz.underlying3) k2
def eqF (f g : Fil.Flt) : Bool := f.zone == g.zone && (f.who == g.who && (f.self == g.self && (f.types == g.types && (f.ntypes == g.ntypes && (f.colors == g.colors && (f.ncolors == g.ncolors && (f.sub == g.sub && (f.keys == g.keys && (f.tap == g.tap && (eqB f.pow g.pow && (eqB f.tough g.tough && (eqB f.val g.val && true))))))))))))
theorem eqF_iff {f g : Fil.Flt} : eqF f g = true ↔ f = g := by
  cases f; cases g
  simp [eqF, eqB_iff]
theorem eqF_refl (f : Fil.Flt) : eqF f f = true := eqF_iff.2 rfl
theorem run_eq_str (d : Nat) (a b : ByteArray) (w : World) : (Op.equalIn (d + 1) 9 (.string a) (.string b)).run Tryz.prog w = .ok (a.data.toList == b.data.toList) w := by
  rw [run_equalIn_string w d 9 a b Tryz.underlying9]
  congr 1
  rw [Bool.eq_iff_iff]
  simp [Lib.toList_data]
theorem part_pow (f : Fil.Flt) (fs : ByteArray) (w : World) : (part 23 #[.int .i64 f.zone, .int .i64 f.who, .int .i64 f.self, .int .i64 f.types, .int .i64 f.ntypes, .int .i64 f.colors, .int .i64 f.ncolors, .string fs, .int .i64 f.keys, .int .i64 f.tap, .int .i64 f.pow.kind, .int .i64 f.pow.n, .int .i64 f.tough.kind, .int .i64 f.tough.n, .int .i64 f.val.kind, .int .i64 f.val.n] 10).run Tryz.prog w = .ok (.agg #[.int .i64 f.pow.kind, .int .i64 f.pow.n]) w := by kernel_rfl
theorem part_tough (f : Fil.Flt) (fs : ByteArray) (w : World) : (part 23 #[.int .i64 f.zone, .int .i64 f.who, .int .i64 f.self, .int .i64 f.types, .int .i64 f.ntypes, .int .i64 f.colors, .int .i64 f.ncolors, .string fs, .int .i64 f.keys, .int .i64 f.tap, .int .i64 f.pow.kind, .int .i64 f.pow.n, .int .i64 f.tough.kind, .int .i64 f.tough.n, .int .i64 f.val.kind, .int .i64 f.val.n] 12).run Tryz.prog w = .ok (.agg #[.int .i64 f.tough.kind, .int .i64 f.tough.n]) w := by kernel_rfl
theorem part_val (f : Fil.Flt) (fs : ByteArray) (w : World) : (part 23 #[.int .i64 f.zone, .int .i64 f.who, .int .i64 f.self, .int .i64 f.types, .int .i64 f.ntypes, .int .i64 f.colors, .int .i64 f.ncolors, .string fs, .int .i64 f.keys, .int .i64 f.tap, .int .i64 f.pow.kind, .int .i64 f.pow.n, .int .i64 f.tough.kind, .int .i64 f.tough.n, .int .i64 f.val.kind, .int .i64 f.val.n] 14).run Tryz.prog w = .ok (.agg #[.int .i64 f.val.kind, .int .i64 f.val.n]) w := by kernel_rfl
theorem run_eq_fltD (d : Nat) (f g : Fil.Flt) (fs gs : ByteArray) (hf : f.sub = fs.data.toList) (hg : g.sub = gs.data.toList) (w : World) : (Op.equalIn (d + 1 + 1 + 1) 25 (.agg #[.int .i64 f.zone, .int .i64 f.who, .int .i64 f.self, .int .i64 f.types, .int .i64 f.ntypes, .int .i64 f.colors, .int .i64 f.ncolors, .string fs, .int .i64 f.keys, .int .i64 f.tap, .int .i64 f.pow.kind, .int .i64 f.pow.n, .int .i64 f.tough.kind, .int .i64 f.tough.n, .int .i64 f.val.kind, .int .i64 f.val.n]) (.agg #[.int .i64 g.zone, .int .i64 g.who, .int .i64 g.self, .int .i64 g.types, .int .i64 g.ntypes, .int .i64 g.colors, .int .i64 g.ncolors, .string gs, .int .i64 g.keys, .int .i64 g.tap, .int .i64 g.pow.kind, .int .i64 g.pow.n, .int .i64 g.tough.kind, .int .i64 g.tough.n, .int .i64 g.val.kind, .int .i64 g.val.n])).run Tryz.prog w = .ok (eqF f g) w := by
  rw [run_equalIn_struct w (d + 1 + 1) 25 _ _ (by kernel_rfl) (by kernel_rfl)]
  simp only [Program.fieldsOf, Tryz.underlying25]
  have k12 := eqFields_step (d + 1 + 1) #[.int .i64 f.zone, .int .i64 f.who, .int .i64 f.self, .int .i64 f.types, .int .i64 f.ntypes, .int .i64 f.colors, .int .i64 f.ncolors, .string fs, .int .i64 f.keys, .int .i64 f.tap, .int .i64 f.pow.kind, .int .i64 f.pow.n, .int .i64 f.tough.kind, .int .i64 f.tough.n, .int .i64 f.val.kind, .int .i64 f.val.n] #[.int .i64 g.zone, .int .i64 g.who, .int .i64 g.self, .int .i64 g.types, .int .i64 g.ntypes, .int .i64 g.colors, .int .i64 g.ncolors, .string gs, .int .i64 g.keys, .int .i64 g.tap, .int .i64 g.pow.kind, .int .i64 g.pow.n, .int .i64 g.tough.kind, .int .i64 g.tough.n, .int .i64 g.val.kind, .int .i64 g.val.n] { name := "Value", type := 23, offset := 14, embedded := false, tag := "", pkgPath := "", byteOffset := 120 } [] (by decide) _ _ w (part_val f fs w) (part_val g gs w) (run_eq_bd d f.val g.val w) (r := true) (by simp [Op.eqFields])
  have k11 := eqFields_step (d + 1 + 1) #[.int .i64 f.zone, .int .i64 f.who, .int .i64 f.self, .int .i64 f.types, .int .i64 f.ntypes, .int .i64 f.colors, .int .i64 f.ncolors, .string fs, .int .i64 f.keys, .int .i64 f.tap, .int .i64 f.pow.kind, .int .i64 f.pow.n, .int .i64 f.tough.kind, .int .i64 f.tough.n, .int .i64 f.val.kind, .int .i64 f.val.n] #[.int .i64 g.zone, .int .i64 g.who, .int .i64 g.self, .int .i64 g.types, .int .i64 g.ntypes, .int .i64 g.colors, .int .i64 g.ncolors, .string gs, .int .i64 g.keys, .int .i64 g.tap, .int .i64 g.pow.kind, .int .i64 g.pow.n, .int .i64 g.tough.kind, .int .i64 g.tough.n, .int .i64 g.val.kind, .int .i64 g.val.n] { name := "Tough", type := 23, offset := 12, embedded := false, tag := "", pkgPath := "", byteOffset := 104 } _ (by decide) _ _ w (part_tough f fs w) (part_tough g gs w) (run_eq_bd d f.tough g.tough w) k12
  have k10 := eqFields_step (d + 1 + 1) #[.int .i64 f.zone, .int .i64 f.who, .int .i64 f.self, .int .i64 f.types, .int .i64 f.ntypes, .int .i64 f.colors, .int .i64 f.ncolors, .string fs, .int .i64 f.keys, .int .i64 f.tap, .int .i64 f.pow.kind, .int .i64 f.pow.n, .int .i64 f.tough.kind, .int .i64 f.tough.n, .int .i64 f.val.kind, .int .i64 f.val.n] #[.int .i64 g.zone, .int .i64 g.who, .int .i64 g.self, .int .i64 g.types, .int .i64 g.ntypes, .int .i64 g.colors, .int .i64 g.ncolors, .string gs, .int .i64 g.keys, .int .i64 g.tap, .int .i64 g.pow.kind, .int .i64 g.pow.n, .int .i64 g.tough.kind, .int .i64 g.tough.n, .int .i64 g.val.kind, .int .i64 g.val.n] { name := "Power", type := 23, offset := 10, embedded := false, tag := "", pkgPath := "", byteOffset := 88 } _ (by decide) _ _ w (part_pow f fs w) (part_pow g gs w) (run_eq_bd d f.pow g.pow w) k11
  have k9 := eqFields_step (d + 1 + 1) #[.int .i64 f.zone, .int .i64 f.who, .int .i64 f.self, .int .i64 f.types, .int .i64 f.ntypes, .int .i64 f.colors, .int .i64 f.ncolors, .string fs, .int .i64 f.keys, .int .i64 f.tap, .int .i64 f.pow.kind, .int .i64 f.pow.n, .int .i64 f.tough.kind, .int .i64 f.tough.n, .int .i64 f.val.kind, .int .i64 f.val.n] #[.int .i64 g.zone, .int .i64 g.who, .int .i64 g.self, .int .i64 g.types, .int .i64 g.ntypes, .int .i64 g.colors, .int .i64 g.ncolors, .string gs, .int .i64 g.keys, .int .i64 g.tap, .int .i64 g.pow.kind, .int .i64 g.pow.n, .int .i64 g.tough.kind, .int .i64 g.tough.n, .int .i64 g.val.kind, .int .i64 g.val.n] { name := "Tap", type := 3, offset := 9, embedded := false, tag := "", pkgPath := "", byteOffset := 80 } _ (by decide) _ _ w (partInt _ 9 _ rfl w) (partInt _ 9 _ rfl w) (run_equalIn_int w (d + 1) 3 .i64 .i64 f.tap g.tap Tryz.underlying3) k10
  have k8 := eqFields_step (d + 1 + 1) #[.int .i64 f.zone, .int .i64 f.who, .int .i64 f.self, .int .i64 f.types, .int .i64 f.ntypes, .int .i64 f.colors, .int .i64 f.ncolors, .string fs, .int .i64 f.keys, .int .i64 f.tap, .int .i64 f.pow.kind, .int .i64 f.pow.n, .int .i64 f.tough.kind, .int .i64 f.tough.n, .int .i64 f.val.kind, .int .i64 f.val.n] #[.int .i64 g.zone, .int .i64 g.who, .int .i64 g.self, .int .i64 g.types, .int .i64 g.ntypes, .int .i64 g.colors, .int .i64 g.ncolors, .string gs, .int .i64 g.keys, .int .i64 g.tap, .int .i64 g.pow.kind, .int .i64 g.pow.n, .int .i64 g.tough.kind, .int .i64 g.tough.n, .int .i64 g.val.kind, .int .i64 g.val.n] { name := "Keys", type := 3, offset := 8, embedded := false, tag := "", pkgPath := "", byteOffset := 72 } _ (by decide) _ _ w (partInt _ 8 _ rfl w) (partInt _ 8 _ rfl w) (run_equalIn_int w (d + 1) 3 .i64 .i64 f.keys g.keys Tryz.underlying3) k9
  have k7 := eqFields_step (d + 1 + 1) #[.int .i64 f.zone, .int .i64 f.who, .int .i64 f.self, .int .i64 f.types, .int .i64 f.ntypes, .int .i64 f.colors, .int .i64 f.ncolors, .string fs, .int .i64 f.keys, .int .i64 f.tap, .int .i64 f.pow.kind, .int .i64 f.pow.n, .int .i64 f.tough.kind, .int .i64 f.tough.n, .int .i64 f.val.kind, .int .i64 f.val.n] #[.int .i64 g.zone, .int .i64 g.who, .int .i64 g.self, .int .i64 g.types, .int .i64 g.ntypes, .int .i64 g.colors, .int .i64 g.ncolors, .string gs, .int .i64 g.keys, .int .i64 g.tap, .int .i64 g.pow.kind, .int .i64 g.pow.n, .int .i64 g.tough.kind, .int .i64 g.tough.n, .int .i64 g.val.kind, .int .i64 g.val.n] { name := "Sub", type := 9, offset := 7, embedded := false, tag := "", pkgPath := "", byteOffset := 56 } _ (by decide) _ _ w (partStr _ 7 _ rfl w) (partStr _ 7 _ rfl w) (run_eq_str (d + 1) fs gs w) k8
  have k6 := eqFields_step (d + 1 + 1) #[.int .i64 f.zone, .int .i64 f.who, .int .i64 f.self, .int .i64 f.types, .int .i64 f.ntypes, .int .i64 f.colors, .int .i64 f.ncolors, .string fs, .int .i64 f.keys, .int .i64 f.tap, .int .i64 f.pow.kind, .int .i64 f.pow.n, .int .i64 f.tough.kind, .int .i64 f.tough.n, .int .i64 f.val.kind, .int .i64 f.val.n] #[.int .i64 g.zone, .int .i64 g.who, .int .i64 g.self, .int .i64 g.types, .int .i64 g.ntypes, .int .i64 g.colors, .int .i64 g.ncolors, .string gs, .int .i64 g.keys, .int .i64 g.tap, .int .i64 g.pow.kind, .int .i64 g.pow.n, .int .i64 g.tough.kind, .int .i64 g.tough.n, .int .i64 g.val.kind, .int .i64 g.val.n] { name := "NotColors", type := 3, offset := 6, embedded := false, tag := "", pkgPath := "", byteOffset := 48 } _ (by decide) _ _ w (partInt _ 6 _ rfl w) (partInt _ 6 _ rfl w) (run_equalIn_int w (d + 1) 3 .i64 .i64 f.ncolors g.ncolors Tryz.underlying3) k7
  have k5 := eqFields_step (d + 1 + 1) #[.int .i64 f.zone, .int .i64 f.who, .int .i64 f.self, .int .i64 f.types, .int .i64 f.ntypes, .int .i64 f.colors, .int .i64 f.ncolors, .string fs, .int .i64 f.keys, .int .i64 f.tap, .int .i64 f.pow.kind, .int .i64 f.pow.n, .int .i64 f.tough.kind, .int .i64 f.tough.n, .int .i64 f.val.kind, .int .i64 f.val.n] #[.int .i64 g.zone, .int .i64 g.who, .int .i64 g.self, .int .i64 g.types, .int .i64 g.ntypes, .int .i64 g.colors, .int .i64 g.ncolors, .string gs, .int .i64 g.keys, .int .i64 g.tap, .int .i64 g.pow.kind, .int .i64 g.pow.n, .int .i64 g.tough.kind, .int .i64 g.tough.n, .int .i64 g.val.kind, .int .i64 g.val.n] { name := "Colors", type := 3, offset := 5, embedded := false, tag := "", pkgPath := "", byteOffset := 40 } _ (by decide) _ _ w (partInt _ 5 _ rfl w) (partInt _ 5 _ rfl w) (run_equalIn_int w (d + 1) 3 .i64 .i64 f.colors g.colors Tryz.underlying3) k6
  have k4 := eqFields_step (d + 1 + 1) #[.int .i64 f.zone, .int .i64 f.who, .int .i64 f.self, .int .i64 f.types, .int .i64 f.ntypes, .int .i64 f.colors, .int .i64 f.ncolors, .string fs, .int .i64 f.keys, .int .i64 f.tap, .int .i64 f.pow.kind, .int .i64 f.pow.n, .int .i64 f.tough.kind, .int .i64 f.tough.n, .int .i64 f.val.kind, .int .i64 f.val.n] #[.int .i64 g.zone, .int .i64 g.who, .int .i64 g.self, .int .i64 g.types, .int .i64 g.ntypes, .int .i64 g.colors, .int .i64 g.ncolors, .string gs, .int .i64 g.keys, .int .i64 g.tap, .int .i64 g.pow.kind, .int .i64 g.pow.n, .int .i64 g.tough.kind, .int .i64 g.tough.n, .int .i64 g.val.kind, .int .i64 g.val.n] { name := "NotTypes", type := 3, offset := 4, embedded := false, tag := "", pkgPath := "", byteOffset := 32 } _ (by decide) _ _ w (partInt _ 4 _ rfl w) (partInt _ 4 _ rfl w) (run_equalIn_int w (d + 1) 3 .i64 .i64 f.ntypes g.ntypes Tryz.underlying3) k5
  have k3 := eqFields_step (d + 1 + 1) #[.int .i64 f.zone, .int .i64 f.who, .int .i64 f.self, .int .i64 f.types, .int .i64 f.ntypes, .int .i64 f.colors, .int .i64 f.ncolors, .string fs, .int .i64 f.keys, .int .i64 f.tap, .int .i64 f.pow.kind, .int .i64 f.pow.n, .int .i64 f.tough.kind, .int .i64 f.tough.n, .int .i64 f.val.kind, .int .i64 f.val.n] #[.int .i64 g.zone, .int .i64 g.who, .int .i64 g.self, .int .i64 g.types, .int .i64 g.ntypes, .int .i64 g.colors, .int .i64 g.ncolors, .string gs, .int .i64 g.keys, .int .i64 g.tap, .int .i64 g.pow.kind, .int .i64 g.pow.n, .int .i64 g.tough.kind, .int .i64 g.tough.n, .int .i64 g.val.kind, .int .i64 g.val.n] { name := "Types", type := 3, offset := 3, embedded := false, tag := "", pkgPath := "", byteOffset := 24 } _ (by decide) _ _ w (partInt _ 3 _ rfl w) (partInt _ 3 _ rfl w) (run_equalIn_int w (d + 1) 3 .i64 .i64 f.types g.types Tryz.underlying3) k4
  have k2 := eqFields_step (d + 1 + 1) #[.int .i64 f.zone, .int .i64 f.who, .int .i64 f.self, .int .i64 f.types, .int .i64 f.ntypes, .int .i64 f.colors, .int .i64 f.ncolors, .string fs, .int .i64 f.keys, .int .i64 f.tap, .int .i64 f.pow.kind, .int .i64 f.pow.n, .int .i64 f.tough.kind, .int .i64 f.tough.n, .int .i64 f.val.kind, .int .i64 f.val.n] #[.int .i64 g.zone, .int .i64 g.who, .int .i64 g.self, .int .i64 g.types, .int .i64 g.ntypes, .int .i64 g.colors, .int .i64 g.ncolors, .string gs, .int .i64 g.keys, .int .i64 g.tap, .int .i64 g.pow.kind, .int .i64 g.pow.n, .int .i64 g.tough.kind, .int .i64 g.tough.n, .int .i64 g.val.kind, .int .i64 g.val.n] { name := "Self", type := 3, offset := 2, embedded := false, tag := "", pkgPath := "", byteOffset := 16 } _ (by decide) _ _ w (partInt _ 2 _ rfl w) (partInt _ 2 _ rfl w) (run_equalIn_int w (d + 1) 3 .i64 .i64 f.self g.self Tryz.underlying3) k3
  have k1 := eqFields_step (d + 1 + 1) #[.int .i64 f.zone, .int .i64 f.who, .int .i64 f.self, .int .i64 f.types, .int .i64 f.ntypes, .int .i64 f.colors, .int .i64 f.ncolors, .string fs, .int .i64 f.keys, .int .i64 f.tap, .int .i64 f.pow.kind, .int .i64 f.pow.n, .int .i64 f.tough.kind, .int .i64 f.tough.n, .int .i64 f.val.kind, .int .i64 f.val.n] #[.int .i64 g.zone, .int .i64 g.who, .int .i64 g.self, .int .i64 g.types, .int .i64 g.ntypes, .int .i64 g.colors, .int .i64 g.ncolors, .string gs, .int .i64 g.keys, .int .i64 g.tap, .int .i64 g.pow.kind, .int .i64 g.pow.n, .int .i64 g.tough.kind, .int .i64 g.tough.n, .int .i64 g.val.kind, .int .i64 g.val.n] { name := "Who", type := 3, offset := 1, embedded := false, tag := "", pkgPath := "", byteOffset := 8 } _ (by decide) _ _ w (partInt _ 1 _ rfl w) (partInt _ 1 _ rfl w) (run_equalIn_int w (d + 1) 3 .i64 .i64 f.who g.who Tryz.underlying3) k2
  have k0 := eqFields_step (d + 1 + 1) #[.int .i64 f.zone, .int .i64 f.who, .int .i64 f.self, .int .i64 f.types, .int .i64 f.ntypes, .int .i64 f.colors, .int .i64 f.ncolors, .string fs, .int .i64 f.keys, .int .i64 f.tap, .int .i64 f.pow.kind, .int .i64 f.pow.n, .int .i64 f.tough.kind, .int .i64 f.tough.n, .int .i64 f.val.kind, .int .i64 f.val.n] #[.int .i64 g.zone, .int .i64 g.who, .int .i64 g.self, .int .i64 g.types, .int .i64 g.ntypes, .int .i64 g.colors, .int .i64 g.ncolors, .string gs, .int .i64 g.keys, .int .i64 g.tap, .int .i64 g.pow.kind, .int .i64 g.pow.n, .int .i64 g.tough.kind, .int .i64 g.tough.n, .int .i64 g.val.kind, .int .i64 g.val.n] { name := "Zone", type := 3, offset := 0, embedded := false, tag := "", pkgPath := "", byteOffset := 0 } _ (by decide) _ _ w (partInt _ 0 _ rfl w) (partInt _ 0 _ rfl w) (run_equalIn_int w (d + 1) 3 .i64 .i64 f.zone g.zone Tryz.underlying3) k1
  rw [← hf, ← hg] at k0
  rw [k0]
  rfl
theorem run_eq_flt (f g : Fil.Flt) (fs gs : ByteArray) (hf : f.sub = fs.data.toList) (hg : g.sub = gs.data.toList) (w : World) : (Op.equalIn 10000 25 (.agg #[.int .i64 f.zone, .int .i64 f.who, .int .i64 f.self, .int .i64 f.types, .int .i64 f.ntypes, .int .i64 f.colors, .int .i64 f.ncolors, .string fs, .int .i64 f.keys, .int .i64 f.tap, .int .i64 f.pow.kind, .int .i64 f.pow.n, .int .i64 f.tough.kind, .int .i64 f.tough.n, .int .i64 f.val.kind, .int .i64 f.val.n]) (.agg #[.int .i64 g.zone, .int .i64 g.who, .int .i64 g.self, .int .i64 g.types, .int .i64 g.ntypes, .int .i64 g.colors, .int .i64 g.ncolors, .string gs, .int .i64 g.keys, .int .i64 g.tap, .int .i64 g.pow.kind, .int .i64 g.pow.n, .int .i64 g.tough.kind, .int .i64 g.tough.n, .int .i64 g.val.kind, .int .i64 g.val.n])).run Tryz.prog w = .ok (eqF f g) w := run_eq_fltD 9997 f g fs gs hf hg w
end Go.Proofs.YtbcgkeclmioeiaaGreatDoor
namespace Go.Proofs.YtbcgkeclmioeiaaGreatDoor
open Go.RowKit
open Wd (Bs)

theorem run_eq_zero (W : World) : (Op.equalIn 10000 25 (.agg cellsZ) (.agg cellsZ)).run Tryz.prog W = .ok true W := by
  have h := run_eq_flt Fil.zero Fil.zero ⟨#[]⟩ ⟨#[]⟩ rfl rfl W
  rw [eqF_refl] at h
  exact h
theorem run_eq_self (a : Fil.Acc) (fs : ByteArray) (h : a.sub = fs.data.toList) (W : World) : (Op.equalIn 10000 25 (.agg (cellsA a fs)) (.agg (cellsA a fs))).run Tryz.prog W = .ok true W := by
  have h := run_eq_flt a.flt a.flt fs fs h h W
  rw [eqF_refl] at h
  exact h
theorem acc_flt_inj {a b : Fil.Acc} (h : a.flt = b.flt) : a = b := by
  obtain ⟨a1, a2, a3, a4, a5, a6, a7, a8, a9, a10, a11, a12, a13⟩ := a
  obtain ⟨b1, b2, b3, b4, b5, b6, b7, b8, b9, b10, b11, b12, b13⟩ := b
  unfold Fil.Acc.flt at h
  injection h with h1 h2 h3 h4 h5 h6 h7 h8 h9 h10 h11 h12 h13
  rw [Fil.Acc.mk.injEq]
  simp only at h1 h2 h3 h4 h5 h6 h7 h9 h10
  exact ⟨by omega, by omega, by omega, by omega, by omega, by omega, by omega, h8, by omega, by omega, h11, h12, h13⟩
theorem bytes_one {a b : ByteArray} (h : a.data.toList = b.data.toList) : a = b := by
  cases a; cases b
  simp at h
  rw [h]
theorem parseRes_yes {s : Bs} {a : Fil.Acc} {fs : ByteArray} (hfs : a.sub = fs.data.toList) (h1 : Fil.parseV s = a.flt) (h2 : Fil.parseE s = 0) {w w' : World} {e : Ending} (h : ParseRes s w e w') :
    e = .returned (.tuple #[.agg (cellsA a fs), .int .i64 0]) ∧ Below w.heap.size w w' := by
  rcases h with ⟨b, gs, h4, h5, h6, h7, h8, h9, h10⟩ | ⟨h4, h5, h6, h7⟩
  · rw [h1] at h4
    have e1 := acc_flt_inj h4
    subst e1
    have e2 := bytes_one (hfs.symm.trans h8)
    subst e2
    exact ⟨h9, h10⟩
  · rw [h2] at h5; cases h5
theorem parseRes_no {s : Bs} (h2 : Fil.parseE s = 3) {w w' : World} {e : Ending} (h : ParseRes s w e w') :
    e = .returned (.tuple #[.agg cellsZ, .int .i64 3]) ∧ Below w.heap.size w w' := by
  rcases h with ⟨a, fs, h4, h5, h6, h7, h8, h9, h10⟩ | ⟨h4, h5, h6, h7⟩
  · rw [h2] at h5; cases h5
  · exact ⟨h6, h7⟩
end Go.Proofs.YtbcgkeclmioeiaaGreatDoor
namespace Go.Proofs.YtbcgkeclmioeiaaGreatDoor
open Go.RowKit

section
variable {ops : Array Oper} {Q : Exit → Act → World → Prop} {md : Region.Mode} {S : World → Prop}
theorem take_loadF (i : Nat) (d : Option Tmp) {oi : Oper} {fuel : Nat} {listed : Array Bool} {a : Act} {w : World} (hi : ops[i]? = some oi) (hd : oi.dst = d)
    (hs : Region.noSelect ops = true) (hf : Region.free md ops listed i = true) (hr : (Region.ready md ops listed).contains i = true)
    {b : Nat} {cs : Array Value} (hQ : ∀ c a w, Q (.panic c) (a.put d (.agg cs)) w → Q (.panic c) a w) (hw : Region.wanted oi (yielded ops a.tmps) = true) (x : Operand) (ho : oi.op = .load 25 x)
    (hx : a.eval x = .pointer (some ⟨b, 0, none⟩)) (hk : ∀ w, S w → Blk w b cs 25) (hn : cs.size = 16) (hS : S w)
    (h : wpAnyH Tryz.prog md ops Q S fuel (listed.setIfInBounds i true) (a.put d (.agg cs)) w) : wpAnyH Tryz.prog md ops Q S (fuel + 1) listed a w :=
  take_run i d hi hd hs hf hr hQ hw (fun w' h' => by
    unfold execOp
    have hl := run_loadVar_mid (P := Tryz.prog) w' b 0 25 cs.toList _ (hk w' h').range Tryz.underlying25 rfl (by rw [sizeTF]; simp [hn])
    simp only [ho, hx, Instr.loadAt, Instr.sureAddr, Sem.run_bind, Sem.run_pure, Result.andThen_ok, hl]) hS h
end
end Go.Proofs.YtbcgkeclmioeiaaGreatDoor
namespace Go.Proofs.YtbcgkeclmioeiaaGreatDoor
open Go.RowKit

/-- the text of a valid filter is short -/
theorem textF_len {f : Fil.Flt} (h : Fil.validB f = true) : (Fil.textF f).length ≤ 4000 := by
  rw [Fil.textF_valid h]
  unfold Fil.textP
  split
  · decide
  · exact text_len (Fil.valid_of h)
end Go.Proofs.YtbcgkeclmioeiaaGreatDoor
namespace Go.Proofs.YtbcgkeclmioeiaaGreatDoor
open Go.RowKit

theorem Blk.rangeM {w : World} {b : Nat} {cs : Array Value} {t : TypeId} (h : Blk w b cs t) {o : Nat} {xs : Array Value} (hm : ∀ (j : Nat) v, xs[j]? = some v → cs[o + j]? = some v) : w.rangeAt b o xs.toList := fun j v hv => by
  rw [h.cell]
  exact hm j v (by simpa using hv)
theorem Blk.thereM {w : World} {b : Nat} {cs : Array Value} {t : TypeId} (h : Blk w b cs t) {o n : Nat} (ho : o + n ≤ cs.size) : w.there b o n := fun j hj => by
  exact ⟨by rw [h.cell, Array.getElem?_eq_getElem (show o + j < cs.size by omega)]; rfl, h.free _⟩
section
variable {P : Program}
theorem run_loadV {w : World} {b j : Nat} {cs : Array Value} {T' T : TypeId} {v : Value} {D : TypeDesc} (hk : Blk w b cs T') (hv : cs[j]? = some v) (hu : P.underlying T = some D) (hd : D.isRow = false) :
    (loadVar T ⟨b, j, none⟩).run P w = .ok v w := by
  have hagg : (isAgg T).run P w = .ok false w := by
    unfold isAgg
    rw [Sem.run_bind, run_underlying hu w]
    cases D <;> simp_all
  have hc := hk.cell j
  rw [hv] at hc
  simp [loadVar, Sem.run_bind, hagg, hc]
/-- one cell of a block loaded, at a region's list -/
theorem wpList_loadV {ops : Array Oper} {rest : List Oper} {a : Act} {w : World} {Q : Exit → Act → World → Prop} {d : Option Tmp} {ty T : TypeId} {ps : String} {af : Array Edge} {gd : Option (Nat × Bool)} (x : Operand)
    (hw : Region.wanted { dst := d, op := .load T x, type := ty, pos := ps, after := af, guard := gd } (yielded ops a.tmps) = true)
    {b j : Nat} {cs : Array Value} {T' : TypeId} {v : Value} {D : TypeDesc} (hx : a.eval x = .pointer (some ⟨b, j, none⟩)) (hk : Blk w b cs T') (hv : cs[j]? = some v) (hu : P.underlying T = some D) (hd : D.isRow = false)
    (h : wpList P ops Q rest (a.put d v) w) : wpList P ops Q ({ dst := d, op := .load T x, type := ty, pos := ps, after := af, guard := gd } :: rest) a w := by
  unfold wpList
  rw [if_pos hw]
  refine .inl ?_
  unfold Oper.wp execOp
  simp only [hx, Instr.loadAt, Instr.sureAddr, Sem.run_bind, Sem.run_pure, Result.andThen_ok, run_loadV hk hv hu hd]
  exact h
/-- a part of a struct loaded whole, at a region's list -/
theorem wpList_loadM {ops : Array Oper} {rest : List Oper} {a : Act} {w : World} {Q : Exit → Act → World → Prop} {d : Option Tmp} {ty T : TypeId} {ps : String} {af : Array Edge} {gd : Option (Nat × Bool)} (x : Operand)
    (hw : Region.wanted { dst := d, op := .load T x, type := ty, pos := ps, after := af, guard := gd } (yielded ops a.tmps) = true)
    {b o : Nat} {cs xs : Array Value} {T' : TypeId} {D : TypeDesc} (hx : a.eval x = .pointer (some ⟨b, o, none⟩)) (hk : Blk w b cs T') (hm : ∀ (j : Nat) v, xs[j]? = some v → cs[o + j]? = some v) (hu : P.underlying T = some D) (hd : D.isRow = true) (hn : (P.info? T).map (·.size) = some xs.size)
    (h : wpList P ops Q rest (a.put d (.agg xs)) w) : wpList P ops Q ({ dst := d, op := .load T x, type := ty, pos := ps, after := af, guard := gd } :: rest) a w := by
  unfold wpList
  rw [if_pos hw]
  refine .inl (wp_load_mid T x rfl b o hx xs.toList _ (hk.rangeM hm) hu hd (by simpa using hn) ?_)
  simpa using h
/-- a part of a struct stored whole, at a region's list -/
theorem wpList_storeM {ops : Array Oper} {rest : List Oper} {a : Act} {w : World} {Q : Exit → Act → World → Prop} {d : Option Tmp} {ty T : TypeId} {ps : String} {af : Array Edge} (x y : Operand)
    {b o : Nat} {cs vs : Array Value} {T' : TypeId} (hx : a.eval x = .pointer (some ⟨b, o, none⟩)) (hy : a.eval y = .agg vs) (hk : Blk w b cs T') (ho : o + vs.size ≤ cs.size) (hi : (P.info? T).map (·.size) = some vs.size) (h1 : vs.all (·.oneCell') = true)
    (h : wpList P ops Q rest (a.put d undef) (w.setCells b o vs.toList)) : wpList P ops Q ({ dst := d, op := .store T x y, type := ty, pos := ps, after := af, guard := none } :: rest) a w :=
  wpList_store_mid rfl T x y rfl b o vs hx hy (hk.thereM ho) hi h1 h
end
/-- three integers and a part -/
def cells3 (k n c : Int) (xs : Array Value) : Array Value := #[.int .i64 k, .int .i64 n, .int .i64 c] ++ xs
theorem cells3_size (k n c : Int) (xs : Array Value) : (cells3 k n c xs).size = xs.size + 3 := by simp [cells3]; omega
theorem cells3_0 (k n c : Int) (xs : Array Value) : (cells3 k n c xs)[0]? = some (.int .i64 k) := by simp [cells3, Array.getElem?_append]
theorem cells3_1 (k n c : Int) (xs : Array Value) : (cells3 k n c xs)[1]? = some (.int .i64 n) := by simp [cells3, Array.getElem?_append]
theorem cells3_2 (k n c : Int) (xs : Array Value) : (cells3 k n c xs)[2]? = some (.int .i64 c) := by simp [cells3, Array.getElem?_append]
theorem cells3_at (k n c : Int) (xs : Array Value) (j : Nat) : (cells3 k n c xs)[3 + j]? = xs[j]? := by
  simp [cells3, Array.getElem?_append, show ¬ 3 + j < 3 by omega, show 3 + j - 3 = j by omega]
theorem cells3_part (k n c : Int) (xs : Array Value) (j : Nat) (v : Value) (h : xs[j]? = some v) : (cells3 k n c xs)[3 + j]? = some v := by rw [cells3_at]; exact h
theorem cells3_one {k n c : Int} {xs : Array Value} (h : xs.all (·.oneCell') = true) : (cells3 k n c xs).all (·.oneCell') = true := by
  unfold cells3
  rw [Array.all_append, h]
  simp [Value.oneCell']
theorem cells3_get (k n c : Int) (xs : Array Value) (j : Nat) : (cells3 k n c xs)[j]? = if j = 0 then some (.int .i64 k) else if j = 1 then some (.int .i64 n) else if j = 2 then some (.int .i64 c) else xs[j - 3]? := by
  match j with
  | 0 => exact cells3_0 ..
  | 1 => exact cells3_1 ..
  | 2 => exact cells3_2 ..
  | j + 3 => rw [Nat.add_comm j 3, cells3_at, if_neg (by omega), if_neg (by omega), if_neg (by omega)]; congr 1; omega
theorem cells3_set0 (k n c x : Int) (xs : Array Value) : (cells3 k n c xs).setIfInBounds 0 (.int .i64 x) = cells3 x n c xs := by
  apply Array.ext_getElem?
  intro j
  have := cells3_size k n c xs
  rw [Array.getElem?_setIfInBounds, cells3_get, cells3_get]
  by_cases h : 0 = j
  · subst h; rw [if_pos rfl, if_pos (by omega)]; rfl
  · have h' : ¬ j = 0 := by omega
    simp only [if_neg h, if_neg h']
theorem cells3_set1 (k n c x : Int) (xs : Array Value) : (cells3 k n c xs).setIfInBounds 1 (.int .i64 x) = cells3 k x c xs := by
  apply Array.ext_getElem?
  intro j
  have := cells3_size k n c xs
  rw [Array.getElem?_setIfInBounds, cells3_get, cells3_get]
  by_cases h : 1 = j
  · subst h; rw [if_pos rfl, if_pos (by omega)]; rfl
  · have h' : ¬ j = 1 := by omega
    simp only [if_neg h, if_neg h']
theorem cells3_set2 (k n c x : Int) (xs : Array Value) : (cells3 k n c xs).setIfInBounds 2 (.int .i64 x) = cells3 k n x xs := by
  apply Array.ext_getElem?
  intro j
  have := cells3_size k n c xs
  rw [Array.getElem?_setIfInBounds, cells3_get, cells3_get]
  by_cases h : 2 = j
  · subst h; rw [if_pos rfl, if_pos (by omega)]; rfl
  · have h' : ¬ j = 2 := by omega
    simp only [if_neg h, if_neg h']
theorem cells3_laid {k n c : Int} {xs ys : Array Value} (h : ys.size = xs.size) : laidAt (cells3 k n c xs) 3 ys.toList = cells3 k n c ys := by
  have hs := cells3_size k n c xs
  apply Array.ext_getElem?
  intro j
  rw [laidAt_get _ _ _ _ (by simp; omega), cells3_get, cells3_get]
  by_cases hj : 3 ≤ j
  · have e0 : ¬ j = 0 := by omega
    have e1 : ¬ j = 1 := by omega
    have e2 : ¬ j = 2 := by omega
    simp only [if_neg e0, if_neg e1, if_neg e2]
    by_cases h2 : j < 3 + ys.toList.length
    · rw [if_pos ⟨hj, h2⟩]; simp
    · rw [if_neg (by omega)]
      simp only [Array.length_toList] at h2
      rw [Array.getElem?_eq_none (by omega), Array.getElem?_eq_none (by omega)]
  · rw [if_neg (by omega)]
    have h3 : j = 0 ∨ j = 1 ∨ j = 2 := by omega
    rcases h3 with rfl | rfl | rfl <;> rfl
theorem Blk.part3 {w : World} {b : Nat} {k n c : Int} {xs : Array Value} {t : TypeId} (h : Blk w b (cells3 k n c xs) t) {ys : Array Value} (hs : ys.size = xs.size) : Blk (w.setCells b 3 ys.toList) b (cells3 k n c ys) t := by
  rw [← cells3_laid (k := k) (n := n) (c := c) hs]
  exact h.laid
section
variable {P : Program}
theorem run_storeV {w : World} {b j : Nat} {cs : Array Value} {T' T : TypeId} {v : Value} (hk : Blk w b cs T') (hj : j < cs.size) (hi : (P.info? T).map (·.size) = some 1) (h1 : v.oneCell' = true) :
    (storeVar T ⟨b, j, none⟩ v).run P w = .ok () (w.setCells b j [v]) := by
  cases hq : P.info? T with
  | none => rw [hq] at hi; cases hi
  | some i =>
    rw [hq] at hi
    have hs : i.size = 1 := by simpa using hi
    exact Lib.rl_storeVar_one T i hq hs ⟨b, j, none⟩ v (cs[j]) h1 w (by rw [hk.cell, Array.getElem?_eq_getElem hj]) (hk.free j)
/-- a scalar stored into a cell of a block, at a region's list -/
theorem wpList_storeV {ops : Array Oper} {rest : List Oper} {a : Act} {w : World} {Q : Exit → Act → World → Prop} {d : Option Tmp} {ty T : TypeId} {ps : String} {af : Array Edge} (x y : Operand)
    {b j : Nat} {cs : Array Value} {T' : TypeId} {v : Value} (hx : a.eval x = .pointer (some ⟨b, j, none⟩)) (hy : a.eval y = v) (hk : Blk w b cs T') (hj : j < cs.size) (hi : (P.info? T).map (·.size) = some 1) (h1 : v.oneCell' = true)
    (h : wpList P ops Q rest (a.put d undef) (w.setCells b j [v])) : wpList P ops Q ({ dst := d, op := .store T x y, type := ty, pos := ps, after := af, guard := none } :: rest) a w :=
  wpList_plain rfl fun _ hK => by
    unfold Oper.wp execOp
    simp only [hx, hy, Instr.storeAt, Instr.sureAddr, Sem.run_bind, Sem.run_pure, Result.andThen_ok, run_storeV hk hj hi h1]
    exact hK _ _ h
end
theorem Blk.stored {w : World} {b o : Nat} {cs cs' : Array Value} {t : TypeId} {vs : List Value} (h : Blk w b cs t) (e : laidAt cs o vs = cs') : Blk (w.setCells b o vs) b cs' t := e ▸ h.laid
theorem cells3_put0 (k n c x : Int) (xs : Array Value) : laidAt (cells3 k n c xs) 0 [.int .i64 x] = cells3 x n c xs := by
  simp only [laidAt]
  exact cells3_set0 k n c x xs
theorem cells3_put1 (k n c x : Int) (xs : Array Value) : laidAt (cells3 k n c xs) 1 [.int .i64 x] = cells3 k x c xs := by
  simp only [laidAt]
  exact cells3_set1 k n c x xs
theorem cells3_put2 (k n c x : Int) (xs : Array Value) : laidAt (cells3 k n c xs) 2 [.int .i64 x] = cells3 k n x xs := by
  simp only [laidAt]
  exact cells3_set2 k n c x xs
/-! short words for walks that are written by a program -/
theorem pu (a : Act) (d : Tmp) (v : Value) : a.put (some d) v = { a with tmps := a.tmps.setIfInBounds d v } := rfl
theorem sB {α : Type} (l : List α) (i : Nat) (v : α) : l.toArray.setIfInBounds i v = (l.set i v).toArray := by simp
theorem s0 {α : Type} (a b : α) (l : List α) : (a :: l).set 0 b = b :: l := rfl
theorem sS {α : Type} (a b : α) (l : List α) (n : Nat) : (a :: l).set (n + 1) b = a :: l.set n b := rfl
/-- an operation run, its slot its own -/
theorem rN {P : Program} {ops : Array Oper} {rest : List Oper} {o : Oper} {a : Act} {w : World} {Q : Exit → Act → World → Prop} {v : Value}
    (hw : Region.wanted o (yielded ops a.tmps) = true) (hy : (execOp a.eval o).run P w = .ok (.value v) w) (h : wpList P ops Q rest (a.put o.dst v) w) : wpList P ops Q (o :: rest) a w := wpList_runV _ rfl hw hy h
/-- an operation left out, its slot its own -/
theorem kN {P : Program} {ops : Array Oper} {rest : List Oper} {o : Oper} {a : Act} {w : World} {Q : Exit → Act → World → Prop}
    (hw : Region.wanted o (yielded ops a.tmps) = false) (h : wpList P ops Q rest (a.put o.dst undef) w) : wpList P ops Q (o :: rest) a w := wpList_skipV _ rfl hw h
end Go.Proofs.YtbcgkeclmioeiaaGreatDoor
namespace Go.Proofs.YtbcgkeclmioeiaaGreatDoor
open Go.RowKit
open Wd (Bs)

def cellsF (f : Fil.Flt) (fs : ByteArray) : Array Value := #[.int .i64 f.zone, .int .i64 f.who, .int .i64 f.self, .int .i64 f.types, .int .i64 f.ntypes, .int .i64 f.colors, .int .i64 f.ncolors, .string fs, .int .i64 f.keys, .int .i64 f.tap, .int .i64 f.pow.kind, .int .i64 f.pow.n, .int .i64 f.tough.kind, .int .i64 f.tough.n, .int .i64 f.val.kind, .int .i64 f.val.n]
theorem cellsF_acc (a : Fil.Acc) (fs : ByteArray) : cellsF a.flt fs = cellsA a fs := rfl
theorem cellsF_zero : cellsF Fil.zero ⟨#[]⟩ = cellsZ := rfl
theorem cellsF_size (f : Fil.Flt) (fs : ByteArray) : (cellsF f fs).size = 16 := rfl
theorem cellsZ_size : cellsZ.size = 16 := rfl
theorem cellsF_one (f : Fil.Flt) (fs : ByteArray) : (cellsF f fs).all (·.oneCell') = true := by simp [cellsF, Value.oneCell']
theorem infoTF16 {xs : Array Value} (h : xs.size = 16) : (Tryz.prog.info? 25).map (·.size) = some xs.size := by rw [sizeTF, h]
theorem str_of {x : ByteArray} {l : Bs} (h : x.data.toList = l) : (.string x : Value) = str l := by
  unfold str
  congr 1
  exact bytes_one (by rw [h])
theorem below_same {f : FuncId} {args : Array Value} {v : Value} {w : World} (h : Calls Tryz.prog f args w fun e w' => e = .returned v ∧ w = w') : Calls Tryz.prog f args w fun e w' => e = .returned v ∧ Below w.heap.size w w' :=
  h.mono fun _ _ ⟨he, hw⟩ => ⟨he, hw ▸ Below.refl _ _⟩
theorem below_same' {f : FuncId} {args : Array Value} {v : Value} {w : World} (h : Calls Tryz.prog f args w fun e w' => e = .returned v ∧ w' = w) : Calls Tryz.prog f args w fun e w' => e = .returned v ∧ Below w.heap.size w w' :=
  h.mono fun _ _ ⟨he, hw⟩ => ⟨he, hw ▸ Below.refl _ _⟩
def fsOf (f : Fil.Flt) : ByteArray := ⟨f.sub.toArray⟩
theorem fsOf_sub (f : Fil.Flt) : f.sub = (fsOf f).data.toList := rfl
theorem fs_eq {f : Fil.Flt} {fs : ByteArray} (h : f.sub = fs.data.toList) : fs = fsOf f := bytes_one (by rw [← h]; exact fsOf_sub f)
theorem size_of (l : Bs) : (ByteArray.mk l.toArray).size = l.length := by
  show l.toArray.size = l.length
  simp
theorem cut_le (l sep : Bs) : (Wd.cut l sep).1.length ≤ l.length ∧ (Wd.cut l sep).2.1.length ≤ l.length := by
  unfold Wd.cut
  split
  · simp
  · split
    · simp; omega
    · simp
theorem cutPre (s p : ByteArray) (w : World) : Calls Tryz.prog 84 #[.string s, .string p] w fun e w' => e = .returned (.tuple #[.string ⟨(if p.data.toList.isPrefixOf s.data.toList then s.data.toList.drop p.data.toList.length else s.data.toList).toArray⟩, .bool (p.data.toList.isPrefixOf s.data.toList)]) ∧ Below w.heap.size w w' := by
  refine (below_same (strCutPrefix s p w)).mono ?_
  rintro e w1 ⟨rfl, hb⟩
  refine ⟨?_, hb⟩
  split
  · rfl
  · rfl
theorem fs_le {fs : ByteArray} (h : fs.size ≤ 1000) : fs.size ≤ maxLen := by unfold maxLen; omega
end Go.Proofs.YtbcgkeclmioeiaaGreatDoor
namespace Go.Proofs.YtbcgkeclmioeiaaGreatDoor
open Go.RowKit

def cat : List (Array Value) → Array Value
  | [] => #[]
  | x :: l => x ++ cat l
def sizes (l : List (Array Value)) : Nat := (l.map (·.size)).sum
theorem cat_size : ∀ l, (cat l).size = sizes l
  | [] => rfl
  | x :: l => by simp [cat, sizes, cat_size l]
theorem cat_app : ∀ (a b : List (Array Value)), cat (a ++ b) = cat a ++ cat b
  | [], b => by simp [cat]
  | x :: a, b => by simp [cat, cat_app a b, Array.append_assoc]
/-- a part's cells, behind the parts ahead of it -/
theorem cat_part (pre : List (Array Value)) (x : Array Value) (post : List (Array Value)) {o : Nat} (ho : sizes pre = o) (j : Nat) (v : Value) (h : x[j]? = some v) : (cat (pre ++ x :: post))[o + j]? = some v := by
  have hj : j < x.size := (Array.getElem?_eq_some_iff.1 h).1
  rw [cat_app, cat, Array.getElem?_append, cat_size, ho, if_neg (by omega), show o + j - o = j by omega, Array.getElem?_append, if_pos hj]
  exact h
theorem cat_cell (pre : List (Array Value)) (v : Value) (post : List (Array Value)) {o : Nat} (ho : sizes pre = o) : (cat (pre ++ #[v] :: post))[o]? = some v := cat_part pre #[v] post ho 0 v rfl
/-- a part stored whole -/
theorem cat_laid (pre : List (Array Value)) (x y : Array Value) (post : List (Array Value)) {o : Nat} (ho : sizes pre = o) (hs : y.size = x.size) : laidAt (cat (pre ++ x :: post)) o y.toList = cat (pre ++ y :: post) := by
  have h1 : (cat (pre ++ x :: post)).size = o + x.size + sizes post := by rw [cat_app, cat]; simp [cat_size, ho]; omega
  apply Array.ext_getElem?
  intro j
  rw [laidAt_get _ _ _ _ (by simp; omega), cat_app, cat_app, cat, cat]
  simp only [Array.length_toList, Array.getElem?_append, cat_size, ho, Array.getElem?_toList]
  by_cases h2 : o ≤ j ∧ j < o + y.size
  · rw [if_pos h2, if_neg (by omega), if_pos (by omega)]
  · rw [if_neg h2]
    by_cases h3 : j < o
    · rw [if_pos h3, if_pos h3]
    · rw [if_neg h3, if_neg h3, if_neg (by omega), if_neg (by omega), hs]
theorem cat_put (pre : List (Array Value)) (u v : Value) (post : List (Array Value)) {o : Nat} (ho : sizes pre = o) : laidAt (cat (pre ++ #[u] :: post)) o [v] = cat (pre ++ #[v] :: post) := cat_laid pre #[u] #[v] post ho rfl
/-- a part of a part stored: what is stored lies inside part x from its offset p on -/
theorem cat_deep (pre : List (Array Value)) (x y : Array Value) (post : List (Array Value)) {o p : Nat} {vs : List Value} (ho : sizes pre = o) (hp : p + vs.length ≤ x.size) (h : laidAt x p vs = y) : laidAt (cat (pre ++ x :: post)) (o + p) vs = cat (pre ++ y :: post) := by
  subst h
  have h1 : (cat (pre ++ x :: post)).size = o + x.size + sizes post := by rw [cat_app, cat]; simp [cat_size, ho]; omega
  apply Array.ext_getElem?
  intro j
  rw [laidAt_get _ _ _ _ (by omega), cat_app, cat_app, cat, cat]
  simp only [Array.getElem?_append, cat_size, ho, laidAt_size]
  by_cases h2 : o + p ≤ j ∧ j < o + p + vs.length
  · rw [if_pos h2, if_neg (by omega), if_pos (by omega), laidAt_get _ _ _ _ hp, if_pos (by omega)]
    congr 1
    omega
  · rw [if_neg h2]
    by_cases h3 : j < o
    · rw [if_pos h3, if_pos h3]
    · rw [if_neg h3, if_neg h3]
      by_cases h4 : j - o < x.size
      · rw [if_pos h4, if_pos h4, laidAt_get _ _ _ _ hp, if_neg (by omega)]
      · rw [if_neg h4, if_neg h4]
theorem cat_one : ∀ {l : List (Array Value)}, (∀ x ∈ l, x.all (·.oneCell') = true) → (cat l).all (·.oneCell') = true
  | [], _ => by simp [cat]
  | x :: l, h => by
    have h1 := h x (by simp)
    have h2 := cat_one (l := l) fun y hy => h y (List.mem_cons_of_mem _ hy)
    rw [cat, Array.all_append, h1, h2, Bool.and_self]
theorem one_nil : (cat []).all (·.oneCell') = true := by simp [cat]
theorem one_cons {x : Array Value} {l : List (Array Value)} (h1 : x.all (·.oneCell') = true) (h2 : (cat l).all (·.oneCell') = true) : (cat (x :: l)).all (·.oneCell') = true := by
  rw [cat, Array.all_append, h1, h2, Bool.and_self]
theorem one_int (k : IntKind) (n : Int) : (#[.int k n] : Array Value).all (·.oneCell') = true := by simp [Value.oneCell']
theorem one_str (s : ByteArray) : (#[.string s] : Array Value).all (·.oneCell') = true := by simp [Value.oneCell']
theorem one_bool (b : Bool) : (#[.bool b] : Array Value).all (·.oneCell') = true := by simp [Value.oneCell']
theorem one_slice (a : Option Addr) (n c : Nat) : (#[.slice a n c] : Array Value).all (·.oneCell') = true := by simp [Value.oneCell']
/-! a struct among the arguments: its cells parted -/
theorem cat_list : ∀ (l : List (Array Value)), (cat l).toList = (l.map (·.toList)).flatten
  | [] => rfl
  | x :: l => by simp [cat, cat_list l]
theorem part_step (cs : List Value) (o n : Nat) {a r : List Value} (h1 : (cs.drop o).take n = a) (h2 : cs.drop (o + n) = r) : cs.drop o = a ++ r := by
  rw [← h1, ← h2, ← List.drop_drop]
  exact (List.take_append_drop n (cs.drop o)).symm
theorem part_end (cs : List Value) {n : Nat} (h : cs.length = n) : cs.drop n = [] := List.drop_eq_nil_of_le (by omega)
theorem agg_list (x : Array Value) : Value.agg ⟨x.toList⟩ = .agg x := rfl
theorem one_of (l : List Value) (h : l.length = 1) : ∃ v, l = [v] := by
  match l, h with
  | [v], _ => exact ⟨v, rfl⟩
end Go.Proofs.YtbcgkeclmioeiaaGreatDoor
namespace Go.Proofs.YtbcgkeclmioeiaaGreatDoor.Mo

abbrev Bs := List UInt8
structure Md where
  k : Int
  n : Int
  m : Int
  sub : Bs
  f : Fil.Flt
deriving DecidableEq
def zero : Md := ⟨0, 0, 0, [], Fil.zero⟩
/-! the texts of types -/
def tyN (t : Nat) : Bs := Lib.join (Ln.wordsOf t 2) [43]
def ptN (s : Bs) : Option Nat := (List.range 64).find? fun m => decide (1 ≤ m) && tyN m == s
def ptI (s : Bs) : Int := match ptN s with | some m => (m : Int) | none => 0
theorem ty_apart : ∀ m, m < 64 → ∀ j, j < m → 1 ≤ j → tyN j ≠ tyN m := by decide +kernel
theorem pt_text {t : Nat} (h1 : 1 ≤ t) (h : t ≤ 63) : ptI (tyN t) = t := by
  have e : ptN (tyN t) = some t := by
    unfold ptN
    rw [List.find?_range_eq_some]
    refine ⟨by simp [h1], by simp; omega, fun j hj => ?_⟩
    by_cases hj1 : 1 ≤ j
    · simp [ty_apart t (by omega) j hj hj1]
    · simp; omega
  unfold ptI
  rw [e]
/-! validity -/
def typesB (n : Int) : Bool := decide (1 ≤ n) && (decide (n ≤ 63) && (n.toNat &&& 6 == 0))
def inB (lo hi n : Int) : Bool := decide (lo ≤ n) && decide (n ≤ hi)
theorem inB_iff {lo hi n : Int} : inB lo hi n = true ↔ lo ≤ n ∧ n ≤ hi := by simp [inB]
/-- the fields n, m, sub, f are zero where the kind does not use them -/
noncomputable def okB (x : Md) : Bool :=
  if x.k = 1 ∨ x.k = 10 ∨ x.k = 14 then decide (x.n = 0) && (decide (x.m = 0) && (decide (x.sub = []) && decide (x.f = Fil.zero)))
  else if x.k = 2 ∨ x.k = 3 then typesB x.n && (decide (x.m = 0) && (decide (x.sub = []) && decide (x.f = Fil.zero)))
  else if x.k = 4 ∨ x.k = 5 then Ln.isSub x.sub && (decide (x.n = 0) && (decide (x.m = 0) && decide (x.f = Fil.zero)))
  else if x.k = 6 then inB 0 31 x.n && (decide (x.m = 0) && (decide (x.sub = []) && decide (x.f = Fil.zero)))
  else if x.k = 7 then inB 1 31 x.n && (decide (x.m = 0) && (decide (x.sub = []) && decide (x.f = Fil.zero)))
  else if x.k = 8 ∨ x.k = 9 then inB 1 131071 x.n && (decide (x.m = 0) && (decide (x.sub = []) && decide (x.f = Fil.zero)))
  else if x.k = 11 then Fil.validB x.f && (decide (x.n = 0) && (decide (x.m = 0) && decide (x.sub = [])))
  else if x.k = 12 then (inB 0 99 x.n && inB 0 99 x.m) && (decide (x.sub = []) && decide (x.f = Fil.zero))
  else if x.k = 13 then (inB (-99) 99 x.n && inB (-99) 99 x.m) && (decide (x.sub = []) && decide (x.f = Fil.zero))
  else false
/-- the ways to be valid -/
theorem ok_cases {x : Md} (h : okB x = true) :
    ((x.k = 1 ∨ x.k = 10 ∨ x.k = 14) ∧ x = ⟨x.k, 0, 0, [], Fil.zero⟩) ∨
    (∃ t : Nat, (x.k = 2 ∨ x.k = 3) ∧ 1 ≤ t ∧ t ≤ 63 ∧ t &&& 6 = 0 ∧ x = ⟨x.k, t, 0, [], Fil.zero⟩) ∨
    ((x.k = 4 ∨ x.k = 5) ∧ Ln.isSub x.sub = true ∧ x = ⟨x.k, 0, 0, x.sub, Fil.zero⟩) ∨
    (∃ c : Nat, (x.k = 6 ∨ (x.k = 7 ∧ 1 ≤ c)) ∧ c ≤ 31 ∧ x = ⟨x.k, c, 0, [], Fil.zero⟩) ∨
    (∃ c : Nat, (x.k = 8 ∨ x.k = 9) ∧ 1 ≤ c ∧ c ≤ 131071 ∧ x = ⟨x.k, c, 0, [], Fil.zero⟩) ∨
    (x.k = 11 ∧ Fil.validB x.f = true ∧ x = ⟨11, 0, 0, [], x.f⟩) ∨
    (x.k = 12 ∧ 0 ≤ x.n ∧ x.n ≤ 99 ∧ 0 ≤ x.m ∧ x.m ≤ 99 ∧ x = ⟨12, x.n, x.m, [], Fil.zero⟩) ∨
    (x.k = 13 ∧ -99 ≤ x.n ∧ x.n ≤ 99 ∧ -99 ≤ x.m ∧ x.m ≤ 99 ∧ x = ⟨13, x.n, x.m, [], Fil.zero⟩) := by
  obtain ⟨k, n, m, sub, f⟩ := x
  unfold okB typesB at h
  simp only at h ⊢
  split at h
  · rename_i hk
    simp only [Bool.and_eq_true, decide_eq_true_eq] at h
    obtain ⟨rfl, rfl, rfl, rfl⟩ := h
    exact .inl ⟨hk, rfl⟩
  · split at h
    · rename_i hk
      simp only [Bool.and_eq_true, decide_eq_true_eq, beq_iff_eq] at h
      obtain ⟨⟨h1, h2, h3⟩, rfl, rfl, rfl⟩ := h
      exact .inr (.inl ⟨n.toNat, hk, by omega, by omega, h3, by rw [Md.mk.injEq]; exact ⟨rfl, by omega, rfl, rfl, rfl⟩⟩)
    · split at h
      · rename_i hk
        simp only [Bool.and_eq_true, decide_eq_true_eq] at h
        obtain ⟨h1, rfl, rfl, rfl⟩ := h
        exact .inr (.inr (.inl ⟨hk, h1, rfl⟩))
      · split at h
        · rename_i hk
          simp only [Bool.and_eq_true, decide_eq_true_eq, inB_iff] at h
          obtain ⟨⟨h1, h2⟩, rfl, rfl, rfl⟩ := h
          exact .inr (.inr (.inr (.inl ⟨n.toNat, .inl hk, by omega, by rw [Md.mk.injEq]; exact ⟨rfl, by omega, rfl, rfl, rfl⟩⟩)))
        · split at h
          · rename_i hk
            simp only [Bool.and_eq_true, decide_eq_true_eq, inB_iff] at h
            obtain ⟨⟨h1, h2⟩, rfl, rfl, rfl⟩ := h
            exact .inr (.inr (.inr (.inl ⟨n.toNat, .inr ⟨hk, by omega⟩, by omega, by rw [Md.mk.injEq]; exact ⟨rfl, by omega, rfl, rfl, rfl⟩⟩)))
          · split at h
            · rename_i hk
              simp only [Bool.and_eq_true, decide_eq_true_eq, inB_iff] at h
              obtain ⟨⟨h1, h2⟩, rfl, rfl, rfl⟩ := h
              exact .inr (.inr (.inr (.inr (.inl ⟨n.toNat, hk, by omega, by omega, by rw [Md.mk.injEq]; exact ⟨rfl, by omega, rfl, rfl, rfl⟩⟩))))
            · split at h
              · rename_i hk
                simp only [Bool.and_eq_true, decide_eq_true_eq] at h
                obtain ⟨h1, rfl, rfl, rfl⟩ := h
                subst hk
                exact .inr (.inr (.inr (.inr (.inr (.inl ⟨rfl, h1, rfl⟩)))))
              · split at h
                · rename_i hk
                  simp only [Bool.and_eq_true, decide_eq_true_eq, inB_iff] at h
                  obtain ⟨⟨⟨h1, h2⟩, h3, h4⟩, rfl, rfl⟩ := h
                  subst hk
                  exact .inr (.inr (.inr (.inr (.inr (.inr (.inl ⟨rfl, h1, h2, h3, h4, rfl⟩))))))
                · split at h
                  · rename_i hk
                    simp only [Bool.and_eq_true, decide_eq_true_eq, inB_iff] at h
                    obtain ⟨⟨⟨h1, h2⟩, h3, h4⟩, rfl, rfl⟩ := h
                    subst hk
                    exact .inr (.inr (.inr (.inr (.inr (.inr (.inr ⟨rfl, h1, h2, h3, h4, rfl⟩))))))
                  · cases h
/-! texts -/
def sControl : Bs := [99, 111, 110, 116, 114, 111, 108]
def sTypes : Bs := [116, 121, 112, 101, 115, 61]
def sTypesA : Bs := [116, 121, 112, 101, 115, 43, 61]
def sSub : Bs := [115, 117, 98, 61]
def sSubA : Bs := [115, 117, 98, 43, 61]
def sColors : Bs := [99, 111, 108, 111, 114, 115, 61]
def sColorsA : Bs := [99, 111, 108, 111, 114, 115, 43, 61]
def sKeysA : Bs := [107, 101, 121, 115, 43, 61]
def sKeysD : Bs := [107, 101, 121, 115, 45, 61]
def sBlank : Bs := [98, 108, 97, 110, 107]
def sPtC : Bs := [112, 116, 61, 99, 111, 117, 110, 116, 40]
def sPt : Bs := [112, 116, 61]
def sPtA : Bs := [112, 116, 43, 61]
def sSwitch : Bs := [112, 116, 45, 115, 119, 105, 116, 99, 104]
def pairS (n m : Int) : Bs := Lib.itoa n ++ 47 :: Lib.itoa m
noncomputable def raw (x : Md) : Bs :=
  if x.k = 1 then sControl
  else if x.k = 2 then sTypes ++ tyN x.n.toNat
  else if x.k = 3 then sTypesA ++ tyN x.n.toNat
  else if x.k = 4 then sSub ++ x.sub
  else if x.k = 5 then sSubA ++ x.sub
  else if x.k = 6 then sColors ++ Col.textN x.n.toNat
  else if x.k = 7 then sColorsA ++ Col.textN x.n.toNat
  else if x.k = 8 then sKeysA ++ Kw.textN x.n.toNat
  else if x.k = 9 then sKeysD ++ Kw.textN x.n.toNat
  else if x.k = 10 then sBlank
  else if x.k = 11 then sPtC ++ Fil.textF x.f ++ [41]
  else if x.k = 12 then sPt ++ pairS x.n x.m
  else if x.k = 13 then sPtA ++ pairS x.n x.m
  else sSwitch
noncomputable def textM (x : Md) : Bs := if okB x then raw x else []
theorem textM_ok {x : Md} (h : okB x = true) : textM x = raw x := by unfold textM; rw [if_pos h]
theorem textM_bad {x : Md} (h : okB x = false) : textM x = [] := by unfold textM; rw [if_neg (by simp [h])]
/-! the chapter's reader -/
def pairTo (s : Bs) : Nat → Nat → Option (Int × Int)
  | _, 0 => none
  | i, d + 1 => if s.getD i 0 = 47 then some (Fil.num (s.take i), Fil.num (s.drop (i + 1))) else pairTo s (i + 1) d
def pairO (s : Bs) : Int × Int := (pairTo s 0 s.length).getD (0, 0)
noncomputable def guess (s : Bs) : Md :=
  if s = sControl then ⟨1, 0, 0, [], Fil.zero⟩
  else if s = sBlank then ⟨10, 0, 0, [], Fil.zero⟩
  else if s = sSwitch then ⟨14, 0, 0, [], Fil.zero⟩
  else if sTypes.isPrefixOf s then ⟨2, ptI (s.drop 6), 0, [], Fil.zero⟩
  else if sTypesA.isPrefixOf s then ⟨3, ptI (s.drop 7), 0, [], Fil.zero⟩
  else if sSub.isPrefixOf s then ⟨4, 0, 0, s.drop 4, Fil.zero⟩
  else if sSubA.isPrefixOf s then ⟨5, 0, 0, s.drop 5, Fil.zero⟩
  else if sColors.isPrefixOf s then ⟨6, Col.parseI (s.drop 7), 0, [], Fil.zero⟩
  else if sColorsA.isPrefixOf s then ⟨7, Col.parseI (s.drop 8), 0, [], Fil.zero⟩
  else if sKeysA.isPrefixOf s then ⟨8, Kw.parseI (s.drop 6), 0, [], Fil.zero⟩
  else if sKeysD.isPrefixOf s then ⟨9, Kw.parseI (s.drop 6), 0, [], Fil.zero⟩
  else if sPtC.isPrefixOf s ∧ s.drop 9 ≠ [] then ⟨11, 0, 0, [], Fil.parseV ((s.drop 9).dropLast)⟩
  else if sPt.isPrefixOf s then ⟨12, (pairO (s.drop 3)).1, (pairO (s.drop 3)).2, [], Fil.zero⟩
  else if sPtA.isPrefixOf s then ⟨13, (pairO (s.drop 4)).1, (pairO (s.drop 4)).2, [], Fil.zero⟩
  else zero
theorem itoa_slash {n : Int} : ∀ b ∈ Lib.itoa n, b ≠ 47 := by
  intro b hb
  have key : ∀ u : Nat, ∀ x ∈ Lib.decDigits u, x ≠ 47 := fun u x hx => by
    have := Num.decDigits_digit u x hx
    rintro rfl
    simp at this
  rcases Int.lt_or_le n 0 with h | h
  · rw [Num.itoa_neg h] at hb
    rcases List.mem_append.1 hb with h1 | h1
    · rw [List.mem_singleton] at h1; subst h1; decide
    · exact key _ b h1
  · rw [Num.itoa_nonneg h] at hb
    exact key _ b hb
theorem pairTo_at {p r : Bs} (h : ∀ b ∈ p, b ≠ 47) : ∀ d i, i + d = (p ++ 47 :: r).length → i ≤ p.length → pairTo (p ++ 47 :: r) i d = some (Fil.num p, Fil.num r)
  | 0, i, h1, h2 => by simp at h1; omega
  | d + 1, i, h1, h2 => by
    unfold pairTo
    rcases Nat.lt_or_eq_of_le h2 with hlt | rfl
    · rw [if_neg, pairTo_at h d (i + 1) (by omega) (by omega)]
      rw [List.getD, List.getElem?_append_left hlt, List.getElem?_eq_getElem hlt]
      exact h _ (List.getElem_mem hlt)
    · rw [if_pos (by simp [List.getD])]
      simp
theorem pair_text {n m : Int} (h0 : -1000000 ≤ n) (h1 : n ≤ 1000000) (h2 : -1000000 ≤ m) (h3 : m ≤ 1000000) : pairO (pairS n m) = (n, m) := by
  unfold pairO pairS
  rw [pairTo_at itoa_slash _ 0 (by omega) (by omega)]
  unfold Fil.num
  rw [Num.numberL_itoa_in h0 h1, Num.numberL_itoa_in h2 h3]
  rfl
theorem itoa_first (n : Int) : ∃ b t, Lib.itoa n = b :: t ∧ b.toNat ≤ 57 := by
  have key : ∀ u : Nat, ∃ b t, Lib.decDigits u = b :: t ∧ b.toNat ≤ 57 := fun u => by
    have h1 := Num.decDigits_digit u
    have h2 := Num.decDigits_ne u
    cases hd : Lib.decDigits u with
    | nil => exact absurd hd h2
    | cons b t => rw [hd] at h1; exact ⟨b, t, rfl, (h1 b (by simp)).2⟩
  rcases Int.lt_or_le n 0 with h | h
  · rw [Num.itoa_neg h]; exact ⟨45, _, rfl, by decide⟩
  · rw [Num.itoa_nonneg h]; exact key _
theorem guess_control : guess sControl = ⟨1, 0, 0, [], Fil.zero⟩ := by unfold guess; rw [if_pos rfl]
theorem guess_blank : guess sBlank = ⟨10, 0, 0, [], Fil.zero⟩ := by unfold guess; rw [if_neg (by decide), if_pos rfl]
theorem guess_switch : guess sSwitch = ⟨14, 0, 0, [], Fil.zero⟩ := by unfold guess; rw [if_neg (by decide), if_neg (by decide), if_pos rfl]
theorem guess_types (r : Bs) : guess (sTypes ++ r) = ⟨2, ptI r, 0, [], Fil.zero⟩ := by simp [guess, sControl, sBlank, sSwitch, sTypes]
theorem guess_typesA (r : Bs) : guess (sTypesA ++ r) = ⟨3, ptI r, 0, [], Fil.zero⟩ := by simp [guess, sControl, sBlank, sSwitch, sTypes, sTypesA]
theorem guess_sub (r : Bs) : guess (sSub ++ r) = ⟨4, 0, 0, r, Fil.zero⟩ := by simp [guess, sControl, sBlank, sSwitch, sTypes, sTypesA, sSub]
theorem guess_subA (r : Bs) : guess (sSubA ++ r) = ⟨5, 0, 0, r, Fil.zero⟩ := by simp [guess, sControl, sBlank, sSwitch, sTypes, sTypesA, sSub, sSubA]
theorem guess_colors (r : Bs) : guess (sColors ++ r) = ⟨6, Col.parseI r, 0, [], Fil.zero⟩ := by simp [guess, sControl, sBlank, sSwitch, sTypes, sTypesA, sSub, sSubA, sColors]
theorem guess_colorsA (r : Bs) : guess (sColorsA ++ r) = ⟨7, Col.parseI r, 0, [], Fil.zero⟩ := by simp [guess, sControl, sBlank, sSwitch, sTypes, sTypesA, sSub, sSubA, sColors, sColorsA]
theorem guess_keysA (r : Bs) : guess (sKeysA ++ r) = ⟨8, Kw.parseI r, 0, [], Fil.zero⟩ := by simp [guess, sControl, sBlank, sSwitch, sTypes, sTypesA, sSub, sSubA, sColors, sColorsA, sKeysA]
theorem guess_keysD (r : Bs) : guess (sKeysD ++ r) = ⟨9, Kw.parseI r, 0, [], Fil.zero⟩ := by simp [guess, sControl, sBlank, sSwitch, sTypes, sTypesA, sSub, sSubA, sColors, sColorsA, sKeysA, sKeysD]
theorem guess_count (r : Bs) : guess (sPtC ++ r ++ [41]) = ⟨11, 0, 0, [], Fil.parseV r⟩ := by simp [guess, sControl, sBlank, sSwitch, sTypes, sTypesA, sSub, sSubA, sColors, sColorsA, sKeysA, sKeysD, sPtC]
theorem guess_pt {r : Bs} (h : ∃ b t, r = b :: t ∧ b.toNat ≤ 57) : guess (sPt ++ r) = ⟨12, (pairO r).1, (pairO r).2, [], Fil.zero⟩ := by
  obtain ⟨b, t, rfl, hb⟩ := h
  have h1 : ¬ b = 99 := by rintro rfl; simp at hb
  simp [guess, sControl, sBlank, sSwitch, sTypes, sTypesA, sSub, sSubA, sColors, sColorsA, sKeysA, sKeysD, sPtC, sPt, Ne.symm h1]
theorem guess_ptA (r : Bs) : guess (sPtA ++ r) = ⟨13, (pairO r).1, (pairO r).2, [], Fil.zero⟩ := by simp [guess, sControl, sBlank, sSwitch, sTypes, sTypesA, sSub, sSubA, sColors, sColorsA, sKeysA, sKeysD, sPtC, sPt, sPtA]
theorem pairS_first (n m : Int) : ∃ b t, pairS n m = b :: t ∧ b.toNat ≤ 57 := by
  obtain ⟨b, t, e, h⟩ := itoa_first n
  exact ⟨b, t ++ 47 :: Lib.itoa m, by unfold pairS; rw [e]; rfl, h⟩
/-- the reader finds what was written -/
theorem guess_text {x : Md} (h : okB x = true) : guess (textM x) = x := by
  rw [textM_ok h]
  rcases ok_cases h with ⟨hk, e⟩ | ⟨t, hk, h1, h2, _, e⟩ | ⟨hk, _, e⟩ | ⟨c, hk, h2, e⟩ | ⟨c, hk, h1, h2, e⟩ | ⟨_, hv, e⟩ | ⟨_, h1, h2, h3, h4, e⟩ | ⟨_, h1, h2, h3, h4, e⟩
  · rcases hk with hk | hk | hk <;> rw [hk] at e <;> rw [e]
    · rw [show raw ⟨1, 0, 0, [], Fil.zero⟩ = sControl by simp [raw], guess_control]
    · rw [show raw ⟨10, 0, 0, [], Fil.zero⟩ = sBlank by simp [raw], guess_blank]
    · rw [show raw ⟨14, 0, 0, [], Fil.zero⟩ = sSwitch by simp [raw], guess_switch]
  · rcases hk with hk | hk <;> rw [hk] at e <;> rw [e]
    · rw [show raw ⟨2, t, 0, [], Fil.zero⟩ = sTypes ++ tyN t by simp [raw], guess_types, pt_text h1 h2]
    · rw [show raw ⟨3, t, 0, [], Fil.zero⟩ = sTypesA ++ tyN t by simp [raw], guess_typesA, pt_text h1 h2]
  · rcases hk with hk | hk <;> rw [hk] at e <;> rw [e]
    · rw [show raw ⟨4, 0, 0, x.sub, Fil.zero⟩ = sSub ++ x.sub by simp [raw], guess_sub]
    · rw [show raw ⟨5, 0, 0, x.sub, Fil.zero⟩ = sSubA ++ x.sub by simp [raw], guess_subA]
  · rcases hk with hk | ⟨hk, _⟩ <;> rw [hk] at e <;> rw [e]
    · rw [show raw ⟨6, c, 0, [], Fil.zero⟩ = sColors ++ Col.textN c by simp [raw], guess_colors, (Col.parse_text h2).1]
    · rw [show raw ⟨7, c, 0, [], Fil.zero⟩ = sColorsA ++ Col.textN c by simp [raw], guess_colorsA, (Col.parse_text h2).1]
  · rcases hk with hk | hk <;> rw [hk] at e <;> rw [e]
    · rw [show raw ⟨8, c, 0, [], Fil.zero⟩ = sKeysA ++ Kw.textN c by simp [raw], guess_keysA, (Kw.parse_text h2).1]
    · rw [show raw ⟨9, c, 0, [], Fil.zero⟩ = sKeysD ++ Kw.textN c by simp [raw], guess_keysD, (Kw.parse_text h2).1]
  · rw [e]
    rw [show raw ⟨11, 0, 0, [], x.f⟩ = sPtC ++ Fil.textF x.f ++ [41] by simp [raw], guess_count, (Fil.parse_text hv).1]
  · rw [e]
    rw [show raw ⟨12, x.n, x.m, [], Fil.zero⟩ = sPt ++ pairS x.n x.m by simp [raw], guess_pt (pairS_first _ _), pair_text (by omega) (by omega) (by omega) (by omega)]
  · rw [e]
    rw [show raw ⟨13, x.n, x.m, [], Fil.zero⟩ = sPtA ++ pairS x.n x.m by simp [raw], guess_ptA, pair_text (by omega) (by omega) (by omega) (by omega)]
def Is_ (x : Md) (s : Bs) : Prop := okB x = true ∧ textM x = s
theorem is_guess {x : Md} {s : Bs} (h : Is_ x s) : guess s = x := by rw [← h.2]; exact guess_text h.1
theorem is_one {x y : Md} {s : Bs} (h : Is_ x s) (h' : Is_ y s) : x = y := by rw [← is_guess h, is_guess h']
theorem raw_ne {x : Md} (h : okB x = true) : raw x ≠ [] := by
  rcases ok_cases h with ⟨hk, e⟩ | ⟨t, hk, h1, h2, _, e⟩ | ⟨hk, _, e⟩ | ⟨c, hk, h2, e⟩ | ⟨c, hk, h1, h2, e⟩ | ⟨hk, hv, e⟩ | ⟨hk, h1, h2, h3, h4, e⟩ | ⟨hk, h1, h2, h3, h4, e⟩
  · rcases hk with hk | hk | hk <;> simp [raw, hk, sControl, sBlank, sSwitch]
  · rcases hk with hk | hk <;> simp [raw, hk, sTypes, sTypesA]
  · rcases hk with hk | hk <;> simp [raw, hk, sSub, sSubA]
  · rcases hk with hk | ⟨hk, _⟩ <;> simp [raw, hk, sColors, sColorsA]
  · rcases hk with hk | hk <;> simp [raw, hk, sKeysA, sKeysD]
  · simp [raw, hk, sPtC]
  · simp [raw, hk, sPt]
  · simp [raw, hk, sPtA]
theorem textM_nil {x : Md} : textM x = [] ↔ okB x = false := by
  constructor
  · intro e
    cases h : okB x with
    | false => rfl
    | true => rw [textM_ok h] at e; exact absurd e (raw_ne h)
  · exact textM_bad
/-- what Parse answers -/
noncomputable def pB (s : Bs) : Bool := okB (guess s) && (textM (guess s) == s)
noncomputable def pV (s : Bs) : Md := if pB s = true then guess s else zero
noncomputable def pE (s : Bs) : Int := if pB s = true then 0 else 3
theorem p_text {x : Md} (h : okB x = true) : pV (textM x) = x ∧ pE (textM x) = 0 := by
  have hb : pB (textM x) = true := by unfold pB; rw [guess_text h, h]; simp
  unfold pV pE
  rw [if_pos hb, if_pos hb]
  exact ⟨guess_text h, rfl⟩
theorem p_no {s : Bs} (h : pB s = false) : pV s = zero ∧ pE s = 3 := by
  unfold pV pE
  rw [if_neg (by rw [h]; decide), if_neg (by rw [h]; decide)]
  exact ⟨rfl, rfl⟩
theorem p_yes {s : Bs} (h : pB s = true) : okB (pV s) = true ∧ textM (pV s) = s ∧ pE s = 0 := by
  unfold pV pE
  rw [if_pos h, if_pos h]
  unfold pB at h
  simp only [Bool.and_eq_true, beq_iff_eq] at h
  exact ⟨h.1, h.2, rfl⟩
/-- another reader that finds what was written answers the same -/
theorem p_any {s : Bs} (g : Md) (hg : ∀ x, Is_ x s → g = x) : (okB g && (textM g == s)) = pB s ∧ (pB s = true → g = guess s) := by
  cases hb : pB s with
  | true =>
    obtain ⟨h1, h2, _⟩ := p_yes hb
    have e := hg _ ⟨h1, h2⟩
    rw [e, h1, h2]
    refine ⟨by simp, fun _ => ?_⟩
    unfold pV
    rw [if_pos hb]
  | false =>
    refine ⟨?_, fun h => by cases h⟩
    cases hq : (okB g && (textM g == s)) with
    | false => rfl
    | true =>
      simp only [Bool.and_eq_true, beq_iff_eq] at hq
      have e := is_guess ⟨hq.1, hq.2⟩
      unfold pB at hb
      rw [e, hq.1, hq.2] at hb
      simp at hb
end Go.Proofs.YtbcgkeclmioeiaaGreatDoor.Mo
namespace Go.Proofs.YtbcgkeclmioeiaaGreatDoor
open Go.RowKit
open Wd (Bs)

section
variable {ops : Array Oper} {Q : Exit → Act → World → Prop} {md : Region.Mode} {S : World → Prop} {P : Program}
theorem take_loadV (i : Nat) (d : Option Tmp) {oi : Oper} {fuel : Nat} {listed : Array Bool} {a : Act} {w : World} (hi : ops[i]? = some oi) (hd : oi.dst = d)
    (hs : Region.noSelect ops = true) (hf : Region.free md ops listed i = true) (hr : (Region.ready md ops listed).contains i = true)
    {b j : Nat} {cs : Array Value} {T' T : TypeId} {v : Value} {D : TypeDesc} (hQ : ∀ c a w, Q (.panic c) (a.put d v) w → Q (.panic c) a w) (hw : Region.wanted oi (yielded ops a.tmps) = true) (x : Operand) (ho : oi.op = .load T x)
    (hx : a.eval x = .pointer (some ⟨b, j, none⟩)) (hk : ∀ w, S w → Blk w b cs T') (hv : cs[j]? = some v) (hu : P.underlying T = some D) (hr' : D.isRow = false) (hS : S w)
    (h : wpAnyH P md ops Q S fuel (listed.setIfInBounds i true) (a.put d v) w) : wpAnyH P md ops Q S (fuel + 1) listed a w :=
  take_run i d hi hd hs hf hr hQ hw (fun w' h' => by
    unfold execOp
    simp only [ho, hx, Instr.loadAt, Instr.sureAddr, Sem.run_bind, Sem.run_pure, Result.andThen_ok, run_loadV (hk w' h') hv hu hr']) hS h
theorem take_loadS (i : Nat) (d : Option Tmp) {oi : Oper} {fuel : Nat} {listed : Array Bool} {a : Act} {w : World} (hi : ops[i]? = some oi) (hd : oi.dst = d)
    (hs : Region.noSelect ops = true) (hf : Region.free md ops listed i = true) (hr : (Region.ready md ops listed).contains i = true)
    {b : Nat} {cs : Array Value} {T : TypeId} {D : TypeDesc} (hQ : ∀ c a w, Q (.panic c) (a.put d (.agg cs)) w → Q (.panic c) a w) (hw : Region.wanted oi (yielded ops a.tmps) = true) (x : Operand) (ho : oi.op = .load T x)
    (hx : a.eval x = .pointer (some ⟨b, 0, none⟩)) (hk : ∀ w, S w → Blk w b cs T) (hu : P.underlying T = some D) (hr' : D.isRow = true) (hn : (P.info? T).map (·.size) = some cs.size) (hS : S w)
    (h : wpAnyH P md ops Q S fuel (listed.setIfInBounds i true) (a.put d (.agg cs)) w) : wpAnyH P md ops Q S (fuel + 1) listed a w :=
  take_run i d hi hd hs hf hr hQ hw (fun w' h' => by
    unfold execOp
    simp only [ho, hx, Instr.loadAt, Instr.sureAddr, Sem.run_bind, Sem.run_pure, Result.andThen_ok, (hk w' h').readS hu hr' hn]) hS h
end
/-- a call in a region that draws: its frame said from the region's first world on -/
theorem callBase {P : Program} {f : FuncId} {args : Array Value} {R : Ending → World → Prop} {C : Nat} {w0 W : World} (hb : Below C w0 W) (hC : C ≤ w0.heap.size)
    (h : Calls P f args W fun e w' => R e w' ∧ Below W.heap.size W w') : Calls P f args W fun e w' => R e w' ∧ Below C w0 w' :=
  h.mono fun _ _ ⟨he, hb'⟩ => ⟨he, hb.trans (hb'.mono (Nat.le_trans hC hb.size))⟩
theorem laid_all {cs vs : Array Value} {n : Nat} (h : vs.size = n) (h' : cs.size = n) : laidAt cs 0 vs.toList = vs := laidAt_whole (h.trans h'.symm)
theorem fit_1 {cs : Array Value} {j n : Nat} (h : cs.size = n) (hj : j < n) : j < cs.size := h ▸ hj
theorem fit_2 {cs vs : Array Value} {o n m : Nat} (h : cs.size = n) (h' : vs.size = m) (ho : o + m ≤ n) : o + vs.size ≤ cs.size := by rw [h, h']; exact ho
/-- a scalar stored in a region that draws -/
theorem step_storeV {P : Program} {ops : Array Oper} {o : Oper} {a : Act} {w : World} {K : Act → World → Prop} {Q : Exit → Act → World → Prop} {E : Prop} {T : TypeId} (hgd : o.guard = none) (hd : o.dst = none) (x y : Operand) (ho : o.op = .store T x y)
    {b j : Nat} {cs : Array Value} {T' : TypeId} {v : Value} (hx : a.eval x = .pointer (some ⟨b, j, none⟩)) (hy : a.eval y = v) (hk : Blk w b cs T') (hj : j < cs.size) (hi : (P.info? T).map (·.size) = some 1) (h1 : v.oneCell' = true)
    (h : K a (w.setCells b j [v])) : if Region.wanted o (yielded ops a.tmps) = true then Oper.wp P o a w K Q else E := by
  have h' : K (a.put o.dst undef) (w.setCells b j [v]) := by rw [hd]; exact h
  rw [if_pos (by simp [Region.wanted, hgd])]
  unfold Oper.wp execOp
  simp only [ho, hx, hy, Instr.storeAt, Instr.sureAddr, Sem.run_bind, Sem.run_pure, Result.andThen_ok, run_storeV hk hj hi h1]
  exact h'
/-- a struct built of parts, its cells known -/
theorem run_buildOp {P : Program} {o : Oper} {ev : Operand → Value} {w : World} {t : TypeId} (parts : Array (Nat × Operand)) (vals : List (Nat × Value)) {cells : Array Value} (ho : o.op = .build t parts) (hv : parts.toList.map (fun p => (p.1, ev p.2)) = vals) (h : P.built t vals = some cells) :
    (execOp ev o).run P w = .ok (.value (.agg cells)) w := by
  subst hv
  have hr := run_build (P := P) w t (parts.map fun (i, x) => (i, ev x)) cells (by rw [Array.toList_map]; exact h)
  unfold execOp
  simp only [ho, Sem.run_bind, Sem.run_pure, hr, Result.andThen_ok]
end Go.Proofs.YtbcgkeclmioeiaaGreatDoor
namespace Go.Proofs.YtbcgkeclmioeiaaGreatDoor
open Go.RowKit
open Wd (Bs)

theorem sizeTMo : (Tryz.prog.info? 39).map (·.size) = some 20 := by kernel_rfl
theorem infoTMo20 {xs : Array Value} (h : xs.size = 20) : (Tryz.prog.info? 39).map (·.size) = some xs.size := by rw [sizeTMo, h]
/-- a struct's part read, whole -/
theorem part_struct {T : TypeId} {D : TypeDesc} {c : Nat} (hu : Tryz.prog.underlying T = some D) (hD : D.isRow = true) (hc : ∀ w, (sizeOf T).run Tryz.prog w = .ok c w) (pre : List (Array Value)) (x : Array Value) (post : List (Array Value)) {o : Nat} (ho : sizes pre = o) (hx : x.size = c) (w : World) :
    (part T (cat (pre ++ x :: post)) o).run Tryz.prog w = .ok (.agg x) w := by
  have hagg : (isAgg T).run Tryz.prog w = .ok true w := by
    unfold isAgg
    rw [Sem.run_bind, run_underlying hu w]
    cases D <;> simp_all
  have hs : (cat (pre ++ x :: post)).size = o + x.size + sizes post := by rw [cat_app, cat]; simp [cat_size, ho]; omega
  have he : (cat (pre ++ x :: post)).extract o (o + c) = x := by
    apply Array.ext_getElem?
    intro j
    rw [Array.getElem?_extract]
    split
    · rename_i hj
      rw [hs] at hj
      have hjx : j < x.size := by omega
      rw [Array.getElem?_eq_getElem hjx]
      exact cat_part pre x post ho j _ (Array.getElem?_eq_getElem hjx)
    · rename_i hj
      rw [hs] at hj
      rw [Array.getElem?_eq_none (by omega)]
  simp [part, Sem.run_bind, hagg, hc, he]
def eqMo (a b : Mo.Md) : Bool := a.k == b.k && (a.n == b.n && (a.m == b.m && (a.sub == b.sub && (eqF a.f b.f && true))))
theorem eqMo_iff {a b : Mo.Md} : eqMo a b = true ↔ a = b := by
  obtain ⟨k, n, m, s, f⟩ := a
  obtain ⟨k', n', m', s', f'⟩ := b
  simp [eqMo, eqF_iff]
/-- a modification's cells -/
def mO (k n m : Int) (s : ByteArray) (F : Array Value) : Array Value := cat [#[.int .i64 k], #[.int .i64 n], #[.int .i64 m], #[.string s], F]
theorem run_eq_mod (k n m k' n' m' : Int) (s s' : ByteArray) (f g : Fil.Flt) (fs gs : ByteArray) (hf : f.sub = fs.data.toList) (hg : g.sub = gs.data.toList) (w : World) :
    (Op.equalIn 10000 39 (.agg (mO k n m s (cellsF f fs))) (.agg (mO k' n' m' s' (cellsF g gs)))).run Tryz.prog w = .ok (eqMo ⟨k, n, m, s.data.toList, f⟩ ⟨k', n', m', s'.data.toList, g⟩) w := by
  unfold mO
  rw [run_equalIn_struct w 9999 39 _ _ (by kernel_rfl) (by kernel_rfl)]
  simp only [Program.fieldsOf, Tryz.underlying39]
  have p0 : ∀ (k n m : Int) (s : ByteArray) (F : Array Value), (cat [#[.int .i64 k], #[.int .i64 n], #[.int .i64 m], #[.string s], F])[0]? = some (.int .i64 k) := fun k n m s F => cat_cell [] (.int .i64 k) [#[.int .i64 n], #[.int .i64 m], #[.string s], F] (o := 0) rfl
  have p1 : ∀ (k n m : Int) (s : ByteArray) (F : Array Value), (cat [#[.int .i64 k], #[.int .i64 n], #[.int .i64 m], #[.string s], F])[1]? = some (.int .i64 n) := fun k n m s F => cat_cell [#[.int .i64 k]] (.int .i64 n) [#[.int .i64 m], #[.string s], F] (o := 1) rfl
  have p2 : ∀ (k n m : Int) (s : ByteArray) (F : Array Value), (cat [#[.int .i64 k], #[.int .i64 n], #[.int .i64 m], #[.string s], F])[2]? = some (.int .i64 m) := fun k n m s F => cat_cell [#[.int .i64 k], #[.int .i64 n]] (.int .i64 m) [#[.string s], F] (o := 2) rfl
  have p3 : ∀ (k n m : Int) (s : ByteArray) (F : Array Value), (cat [#[.int .i64 k], #[.int .i64 n], #[.int .i64 m], #[.string s], F])[3]? = some (.string s) := fun k n m s F => cat_cell [#[.int .i64 k], #[.int .i64 n], #[.int .i64 m]] (.string s) [F] (o := 3) rfl
  have p4 : ∀ (k n m : Int) (s : ByteArray) (F : Array Value), F.size = 16 → ∀ w, (part 25 (cat [#[.int .i64 k], #[.int .i64 n], #[.int .i64 m], #[.string s], F]) 4).run Tryz.prog w = .ok (.agg F) w := fun k n m s F h w => part_struct Tryz.underlying25 rfl (fun w => by kernel_rfl) [#[.int .i64 k], #[.int .i64 n], #[.int .i64 m], #[.string s]] F [] (o := 4) rfl h w
  have k4 := eqFields_step 9999 _ _ { name := "Filter", type := 25, offset := 4, embedded := false, tag := "", pkgPath := "", byteOffset := 40 } [] (by decide) _ _ w (p4 k n m s (cellsF f fs) (cellsF_size f fs) w) (p4 k' n' m' s' (cellsF g gs) (cellsF_size g gs) w) (run_eq_fltD 9996 f g fs gs hf hg w) (r := true) (by simp [Op.eqFields])
  have k3 := eqFields_step 9999 _ _ { name := "Sub", type := 9, offset := 3, embedded := false, tag := "", pkgPath := "", byteOffset := 24 } _ (by decide) _ _ w (partStr _ 3 _ (p3 k n m s _) w) (partStr _ 3 _ (p3 k' n' m' s' _) w) (run_eq_str 9998 s s' w) k4
  have k2 := eqFields_step 9999 _ _ { name := "M", type := 3, offset := 2, embedded := false, tag := "", pkgPath := "", byteOffset := 16 } _ (by decide) _ _ w (partInt _ 2 _ (p2 k n m s _) w) (partInt _ 2 _ (p2 k' n' m' s' _) w) (run_equalIn_int w 9998 3 .i64 .i64 m m' Tryz.underlying3) k3
  have k1 := eqFields_step 9999 _ _ { name := "N", type := 3, offset := 1, embedded := false, tag := "", pkgPath := "", byteOffset := 8 } _ (by decide) _ _ w (partInt _ 1 _ (p1 k n m s _) w) (partInt _ 1 _ (p1 k' n' m' s' _) w) (run_equalIn_int w 9998 3 .i64 .i64 n n' Tryz.underlying3) k2
  exact eqFields_step 9999 _ _ { name := "Kind", type := 3, offset := 0, embedded := false, tag := "", pkgPath := "", byteOffset := 0 } _ (by decide) _ _ w (partInt _ 0 _ (p0 k n m s _) w) (partInt _ 0 _ (p0 k' n' m' s' _) w) (run_equalIn_int w 9998 3 .i64 .i64 k k' Tryz.underlying3) k1
theorem built_kind (k : Int) : Tryz.prog.built 39 [(0, .int .i64 k)] = some (mO k 0 0 ⟨#[]⟩ cellsZ) := by kernel_rfl
theorem mO_sz {k n m : Int} {s : ByteArray} {F : Array Value} (h : F.size = 16) : (mO k n m s F).size = 20 := by
  unfold mO
  rw [cat_size]
  simp [sizes, h]
theorem mO_one {k n m : Int} {s : ByteArray} {F : Array Value} (h : F.all (·.oneCell') = true) : (mO k n m s F).all (·.oneCell') = true := one_cons (one_int _ _) (one_cons (one_int _ _) (one_cons (one_int _ _) (one_cons (one_str _) (one_cons h one_nil))))
theorem mO_0 {k n m : Int} {s : ByteArray} {F : Array Value} : (mO k n m s F)[0]? = some (.int .i64 k) := cat_cell [] _ _ (o := 0) rfl
theorem mO_1 {k n m : Int} {s : ByteArray} {F : Array Value} : (mO k n m s F)[1]? = some (.int .i64 n) := cat_cell [#[.int .i64 k]] _ _ (o := 1) rfl
theorem mO_2 {k n m : Int} {s : ByteArray} {F : Array Value} : (mO k n m s F)[2]? = some (.int .i64 m) := cat_cell [#[.int .i64 k], #[.int .i64 n]] _ _ (o := 2) rfl
theorem mO_3 {k n m : Int} {s : ByteArray} {F : Array Value} : (mO k n m s F)[3]? = some (.string s) := cat_cell [#[.int .i64 k], #[.int .i64 n], #[.int .i64 m]] _ _ (o := 3) rfl
theorem mO_f {k n m : Int} {s : ByteArray} {F : Array Value} (j : Nat) (v : Value) (h : F[j]? = some v) : (mO k n m s F)[4 + j]? = some v := cat_part [#[.int .i64 k], #[.int .i64 n], #[.int .i64 m], #[.string s]] F [] (o := 4) rfl j v h
theorem mO_p1 {k n m x : Int} {s : ByteArray} {F : Array Value} : laidAt (mO k n m s F) 1 [.int .i64 x] = mO k x m s F := cat_put [#[.int .i64 k]] _ _ _ (o := 1) rfl
theorem mO_p2 {k n m x : Int} {s : ByteArray} {F : Array Value} : laidAt (mO k n m s F) 2 [.int .i64 x] = mO k n x s F := cat_put [#[.int .i64 k], #[.int .i64 n]] _ _ _ (o := 2) rfl
theorem mO_p3 {k n m : Int} {s x : ByteArray} {F : Array Value} : laidAt (mO k n m s F) 3 [.string x] = mO k n m x F := cat_put [#[.int .i64 k], #[.int .i64 n], #[.int .i64 m]] _ _ _ (o := 3) rfl
theorem mO_pf {k n m : Int} {s : ByteArray} {F G : Array Value} (h : G.size = F.size) : laidAt (mO k n m s F) 4 G.toList = mO k n m s G := cat_laid [#[.int .i64 k], #[.int .i64 n], #[.int .i64 m], #[.string s]] F G [] (o := 4) rfl h
theorem mO_whole {k n m k' n' m' : Int} {s s' : ByteArray} {F G : Array Value} (hF : F.size = 16) (hG : G.size = 16) : laidAt (mO k n m s F) 0 (mO k' n' m' s' G).toList = mO k' n' m' s' G := laidAt_whole (by rw [mO_sz hF, mO_sz hG])
/-- a modification's cells out of its plain fields -/
def cellsX (x : Mo.Md) : Array Value := mO x.k x.n x.m ⟨x.sub.toArray⟩ (cellsF x.f (fsOf x.f))
theorem cellsX_sz (x : Mo.Md) : (cellsX x).size = 20 := mO_sz (cellsF_size _ _)
theorem cellsX_one (x : Mo.Md) : (cellsX x).all (·.oneCell') = true := mO_one (cellsF_one _ _)
theorem cellsX_of {k n m : Int} {s : ByteArray} {f : Fil.Flt} {fs : ByteArray} (hf : f.sub = fs.data.toList) : mO k n m s (cellsF f fs) = cellsX ⟨k, n, m, s.data.toList, f⟩ := by rw [fs_eq hf]; rfl
/-- the zero modification -/
def mZ : Array Value := mO 0 0 0 ⟨#[]⟩ cellsZ
end Go.Proofs.YtbcgkeclmioeiaaGreatDoor
namespace Go.Proofs.YtbcgkeclmioeiaaGreatDoor.Mo
/-- what a kind asks of the fields that it uses -/
noncomputable def okK (x : Md) : Bool :=
  if x.k = 1 ∨ x.k = 10 ∨ x.k = 14 then true
  else if x.k = 2 ∨ x.k = 3 then typesB x.n
  else if x.k = 4 ∨ x.k = 5 then Ln.isSub x.sub
  else if x.k = 6 then inB 0 31 x.n
  else if x.k = 7 then inB 1 31 x.n
  else if x.k = 8 ∨ x.k = 9 then inB 1 131071 x.n
  else if x.k = 11 then Fil.validB x.f
  else if x.k = 12 then inB 0 99 x.n && inB 0 99 x.m
  else if x.k = 13 then inB (-99) 99 x.n && inB (-99) 99 x.m
  else false
/-- the fields that a kind uses, and zeros -/
def usedM (x : Md) : Md :=
  if x.k = 2 ∨ x.k = 3 ∨ x.k = 6 ∨ x.k = 7 ∨ x.k = 8 ∨ x.k = 9 then ⟨x.k, x.n, 0, [], Fil.zero⟩
  else if x.k = 4 ∨ x.k = 5 then ⟨x.k, 0, 0, x.sub, Fil.zero⟩
  else if x.k = 11 then ⟨x.k, 0, 0, [], x.f⟩
  else if x.k = 12 ∨ x.k = 13 then ⟨x.k, x.n, x.m, [], Fil.zero⟩
  else ⟨x.k, 0, 0, [], Fil.zero⟩
theorem okB_via (x : Md) : okB x = (okK x && eqMo x (usedM x)) := by
  obtain ⟨k, n, m, s, f⟩ := x
  rw [Bool.eq_iff_iff, Bool.and_eq_true, eqMo_iff]
  by_cases h1 : k = 1 ∨ k = 10 ∨ k = 14
  · rcases h1 with rfl | rfl | rfl <;> simp [okB, okK, usedM]
  by_cases h2 : k = 2 ∨ k = 3
  · rcases h2 with rfl | rfl <;> simp [okB, okK, usedM]
  by_cases h4 : k = 4 ∨ k = 5
  · rcases h4 with rfl | rfl <;> simp [okB, okK, usedM]
  by_cases h6 : k = 6
  · subst h6; simp [okB, okK, usedM]
  by_cases h7 : k = 7
  · subst h7; simp [okB, okK, usedM]
  by_cases h8 : k = 8 ∨ k = 9
  · rcases h8 with rfl | rfl <;> simp [okB, okK, usedM]
  by_cases h11 : k = 11
  · subst h11; simp [okB, okK, usedM]
  by_cases h12 : k = 12
  · subst h12; simp [okB, okK, usedM]
  by_cases h13 : k = 13
  · subst h13; simp [okB, okK, usedM]
  simp [okB, okK, h1, h2, h4, h6, h7, h8, h11, h12, h13]
def isKind (k : Int) : Bool := k == 1 || k == 10 || k == 14 || k == 2 || k == 3 || k == 4 || k == 5 || k == 6 || k == 7 || k == 8 || k == 9 || k == 11 || k == 12 || k == 13
theorem ok_not {x : Md} (h : isKind x.k = false) : okB x = false := by
  cases hb : okB x with
  | false => rfl
  | true =>
    exfalso
    simp only [isKind, Bool.or_eq_false_iff, beq_eq_false_iff_ne] at h
    rcases ok_cases hb with ⟨hk, e⟩ | ⟨t, hk, h1, h2, _, e⟩ | ⟨hk, _, e⟩ | ⟨c, hk, h2, e⟩ | ⟨c, hk, h1, h2, e⟩ | ⟨hk, hv, e⟩ | ⟨hk, h1, h2, h3, h4, e⟩ | ⟨hk, h1, h2, h3, h4, e⟩ <;> omega
section
variable {k n m : Int} {s : Bs} {f : Fil.Flt}
theorem ok_1 (hk : k = 1 ∨ k = 10 ∨ k = 14) : okB ⟨k, n, m, s, f⟩ = (true && eqMo ⟨k, n, m, s, f⟩ ⟨k, 0, 0, [], Fil.zero⟩) := by
  rw [okB_via]
  rcases hk with rfl | rfl | rfl <;> simp [okK, usedM]
theorem ok_2 {v1 v2 : Bool} (hk : k = 2 ∨ k = 3) (hT : typesB n = (v1 && v2)) : okB ⟨k, n, m, s, f⟩ = ((v1 && v2) && eqMo ⟨k, n, m, s, f⟩ ⟨k, n, 0, [], Fil.zero⟩) := by
  rw [okB_via, ← hT]
  rcases hk with rfl | rfl <;> simp [okK, usedM]
theorem ok_4 {v : Bool} (hk : k = 4 ∨ k = 5) (hS : Ln.isSub s = v) : okB ⟨k, n, m, s, f⟩ = (v && eqMo ⟨k, n, m, s, f⟩ ⟨k, 0, 0, s, Fil.zero⟩) := by
  rw [okB_via, ← hS]
  rcases hk with rfl | rfl <;> simp [okK, usedM]
theorem ok_6 {v : Bool} (hk : k = 6) (h : inB 0 31 n = v) : okB ⟨k, n, m, s, f⟩ = (v && eqMo ⟨k, n, m, s, f⟩ ⟨k, n, 0, [], Fil.zero⟩) := by
  rw [okB_via, ← h]
  subst hk; simp [okK, usedM]
theorem ok_7 {v1 v2 : Bool} (hk : k = 7) (h : inB 1 31 n = (v1 && v2)) : okB ⟨k, n, m, s, f⟩ = ((v1 && v2) && eqMo ⟨k, n, m, s, f⟩ ⟨k, n, 0, [], Fil.zero⟩) := by
  rw [okB_via, ← h]
  subst hk; simp [okK, usedM]
theorem ok_8 {v1 v2 : Bool} (hk : k = 8 ∨ k = 9) (h : inB 1 131071 n = (v1 && v2)) : okB ⟨k, n, m, s, f⟩ = ((v1 && v2) && eqMo ⟨k, n, m, s, f⟩ ⟨k, n, 0, [], Fil.zero⟩) := by
  rw [okB_via, ← h]
  rcases hk with rfl | rfl <;> simp [okK, usedM]
theorem ok_11 {v : Bool} (hk : k = 11) (h : Fil.validB f = v) : okB ⟨k, n, m, s, f⟩ = (v && eqMo ⟨k, n, m, s, f⟩ ⟨k, 0, 0, [], f⟩) := by
  rw [okB_via, ← h]
  subst hk; simp [okK, usedM]
theorem ok_12 {v1 v2 : Bool} (hk : k = 12) (h1 : inB 0 99 n = v1) (h2 : inB 0 99 m = v2) : okB ⟨k, n, m, s, f⟩ = ((v1 && v2) && eqMo ⟨k, n, m, s, f⟩ ⟨k, n, m, [], Fil.zero⟩) := by
  rw [okB_via, ← h1, ← h2]
  subst hk; simp [okK, usedM]
theorem ok_13 {v1 v2 : Bool} (hk : k = 13) (h1 : inB (-99) 99 n = v1) (h2 : inB (-99) 99 m = v2) : okB ⟨k, n, m, s, f⟩ = ((v1 && v2) && eqMo ⟨k, n, m, s, f⟩ ⟨k, n, m, [], Fil.zero⟩) := by
  rw [okB_via, ← h1, ← h2]
  subst hk; simp [okK, usedM]
end
end Go.Proofs.YtbcgkeclmioeiaaGreatDoor.Mo
