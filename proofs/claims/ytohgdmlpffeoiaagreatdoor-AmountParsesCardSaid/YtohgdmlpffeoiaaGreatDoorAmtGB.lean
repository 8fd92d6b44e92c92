/-
  MERGED: FCtr, FWordI, FCtrR, AmtCell, AmtEnv, Frame, AmtIsA, AmtIsB, AmtIsC, AmtIs. By an AI agent.
-/
import Derived.Test.YtohgdmlpffeoiaaGreatDoorAmtGA
import Derived.Test.YtohgdmlpffeoiaaGreatDoorFWord
import Derived.WalkKit
import Derived.WalkLawsBesides
import Derived.BigQuiet
import Derived.Deep.QuietTactic
import Derived.Handy
import Derived.Lib.Hide
import Derived.Lib.SlicesS
import Derived.Test.YtohgdmlpffeoiaaGreatDoorShelfI
import Derived.Test.YtohgdmlpffeoiaaGreatDoorRows
import Derived.Lib.LaidTab
import Derived.LaidMore
import Derived.Stop.LaidErr
import Derived.LaidLaws
import Derived.MakeChecks
import Derived.Lay
import Derived.OpenShut
import Derived.HandedShaped
import Derived.ProofKit
import Derived.Carry
import Derived.ChangeSame
import Derived.Deep.Cut
namespace Go.Proofs.YtohgdmlpffeoiaaGreatDoor
open Go.RowKit
open Wd (Bs)


theorem counterIsKind (k : Int) (w : World) :
    Calls Tryz.prog 33 #[.int .i64 k] w fun e w' => e = .returned (.bool (decide (0 ≤ k) && decide (k < 3))) ∧ w = w' := by
  rcases Int.lt_or_le k 0 with h0 | h0
  · go_enter Tryz.func33, Tryz.ntmps33
    go_wp2
    go_ret
    exact ⟨ret_bool (by simp; omega), rfl⟩
  · rcases Int.lt_or_le k 3 with h1 | h1
    · go_enter Tryz.func33, Tryz.ntmps33
      go_wp2
      go_ret
      exact ⟨ret_bool (by simp; omega), rfl⟩
    · go_enter Tryz.func33, Tryz.ntmps33
      go_wp2
      go_ret
      exact ⟨ret_bool (by simp; omega), rfl⟩
theorem gNamesK : Tryz.prog.globalNamed "cardgame/counter.names" = some 0 := by kernel_rfl
/-- the variable of the names holds the three names -/
structure EnvK (w : World) : Prop where
  names : w.var? Tryz.prog "cardgame/counter.names" = some #[.string ⟨#[112, 108, 117, 115]⟩, .string ⟨#[109, 105, 110, 117, 115]⟩, .string ⟨#[99, 104, 97, 114, 103, 101]⟩]
theorem EnvK.below {w w' : World} (h : EnvK w) (hb : Below w.heap.size w w') : EnvK w' := ⟨var_below hb h.names⟩
theorem EnvK.cell {w : World} (h : EnvK w) (k : Nat) (hk : k < 3) : w.cell? ⟨0, k, none⟩ = some (.string ⟨(Ctr.name k).toArray⟩) := by
  rw [World.var?_cell gNamesK h.names k]
  match k, hk with
  | 0, _ => rfl
  | 1, _ => rfl
  | 2, _ => rfl
set_option maxRecDepth 100000 in
theorem counterName (i : Int) (w : World) (hE : EnvK w) :
    Calls Tryz.prog 16 #[.int .i64 i] w fun e w' => e = .returned (str (Ctr.nameI i)) ∧ w = w' := by
  by_cases ho : i < 0 ∨ 3 ≤ i
  · have HN := Lib.hid (Ctr.nameI_out ho)
    have HB : Hid ((decide (0 ≤ i) && decide (i < 3)) = false) := Lib.hid (by simp; omega)
    clear ho
    go_enter Tryz.func16, Tryz.ntmps16
    go_wp2_with fail
    refine (counterIsKind _ _).mono ?_
    rw [HB.out]
    rintro e w1 ⟨rfl, rfl⟩
    go_wp2
    go_ret
    exact ⟨by rw [HN.out]; rfl, rfl⟩
  · obtain ⟨k, rfl⟩ : ∃ k : Nat, i = (k : Int) := ⟨i.toNat, by omega⟩
    have hk : k < 3 := by omega
    have hc := hE.cell k hk
    have HN := Lib.hid (Ctr.nameI_nat k)
    have HB : Hid ((decide (0 ≤ (k : Int)) && decide ((k : Int) < 3)) = true) := Lib.hid (by simp; omega)
    clear ho hE
    go_enter Tryz.func16, Tryz.ntmps16
    go_wp2_with fail
    refine (counterIsKind _ _).mono ?_
    rw [HB.out]
    rintro e w1 ⟨rfl, rfl⟩
    go_wp2
    go_ret
    exact ⟨by rw [HN.out]; rfl, rfl⟩
/-- no name below k is s -/
def NoName (s : List UInt8) (k : Nat) : Prop := ∀ j, j < k → ¬ Ctr.name j = s
theorem NoName.next {s : List UInt8} {k : Nat} (h : NoName s k) (hn : ¬ Ctr.name k = s) : NoName s (k + 1) := fun j hj => by
  by_cases e : j = k
  · rw [e]; exact hn
  · exact h j (by omega)
theorem kind_hit {s : List UInt8} {k : Nat} (hk : k < 3) (h : Ctr.name k = s) : Ctr.kindI s = (k : Int) ∧ Ctr.kindB s = true := by
  rw [← h]; exact Ctr.kind_name k hk
theorem kind_none {s : List UInt8} (h : NoName s 3) : Ctr.kindI s = 0 ∧ Ctr.kindB s = false := by
  have h0 := h 0 (by omega)
  have h1 := h 1 (by omega)
  have h2 := h 2 (by omega)
  unfold Ctr.kindI Ctr.kindB
  rw [if_neg h0, if_neg h1, if_neg h2]
  simp [h0, h1, h2]
theorem ret_kind {a c : Int} {b d : Bool} (h : a = c) (h' : b = d) : Ending.returned (.tuple #[.int .i64 a, .bool b]) = .returned (.tuple #[.int .i64 c, .bool d]) := by rw [h, h']
theorem bytes_sameK {s x : ByteArray} (h : s.data.toList = x.data.toList) : s = x := ByteArray.ext (Array.toList_inj.1 h)
theorem indexStr_0 (w : World) : (Instr.index 52 (.agg #[.string ⟨#[112, 108, 117, 115]⟩, .string ⟨#[109, 105, 110, 117, 115]⟩, .string ⟨#[99, 104, 97, 114, 103, 101]⟩]) (.int .i64 0)).run Tryz.prog w = .ok (str (Ctr.name 0)) w := by kernel_rfl
theorem indexStr_1 (w : World) : (Instr.index 52 (.agg #[.string ⟨#[112, 108, 117, 115]⟩, .string ⟨#[109, 105, 110, 117, 115]⟩, .string ⟨#[99, 104, 97, 114, 103, 101]⟩]) (.int .i64 1)).run Tryz.prog w = .ok (str (Ctr.name 1)) w := by kernel_rfl
theorem indexStr_2 (w : World) : (Instr.index 52 (.agg #[.string ⟨#[112, 108, 117, 115]⟩, .string ⟨#[109, 105, 110, 117, 115]⟩, .string ⟨#[99, 104, 97, 114, 103, 101]⟩]) (.int .i64 2)).run Tryz.prog w = .ok (str (Ctr.name 2)) w := by kernel_rfl
theorem indexStr (k : Nat) (hk : k < 3) (w : World) : (Instr.index 52 (.agg #[.string ⟨#[112, 108, 117, 115]⟩, .string ⟨#[109, 105, 110, 117, 115]⟩, .string ⟨#[99, 104, 97, 114, 103, 101]⟩]) (.int .i64 (k : Int))).run Tryz.prog w = .ok (str (Ctr.name k)) w := by
  match k, hk with
  | 0, _ => exact indexStr_0 w
  | 1, _ => exact indexStr_1 w
  | 2, _ => exact indexStr_2 w
set_option maxRecDepth 100000 in
theorem counterKind (s : ByteArray) (w : World) (hE : EnvK w) :
    Calls Tryz.prog 64 #[.string s] w fun e w' => e = .returned (.tuple #[.int .i64 (Ctr.kindI s.data.toList), .bool (Ctr.kindB s.data.toList)]) ∧ w = w' := by
  have e0 := hE.cell 0 (by decide)
  have e1 := hE.cell 1 (by decide)
  have e2 := hE.cell 2 (by decide)
  simp only [Ctr.name] at e0 e1 e2
  go_enter Tryz.func64, Tryz.ntmps64
  go_wp2
  go_loop [7] (fun i => ∃ k : Nat, k ≤ 3 ∧ i = .int .i64 (k : Int) ∧ NoName s.data.toList k) (fun i => 3 - (intOf i).toNat)
  case atStart => exact ⟨0, by omega, rfl, fun j hj => absurd hj (by omega)⟩
  case round =>
    obtain ⟨k, hk, rfl, hno⟩ := hrel
    have HNO := Lib.hid hno
    clear hno
    by_cases hlt : k < 3
    · have hi := indexStr k hlt
      obtain ⟨sx, hsx, ex⟩ := exists_bytes (Ctr.name k)
      rw [ex] at hi
      cases ht : (sx.toList == s.toList) with
      | true =>
        have HP := Lib.hid (kind_hit (s := s.data.toList) hlt (by rw [← hsx, (Lib.bytes_beq_iff _ _).1 ht]))
        clear hsx ex
        go_wp2
        go_ret2
        exact ⟨ret_kind HP.out.1.symm HP.out.2.symm, rfl⟩
      | false =>
        have HN := Lib.hid (HNO.out.next (k := k) (by rw [← hsx]; intro e; exact (Lib.bytes_beq_false_iff _ _).1 ht (bytes_sameK e)))
        clear hsx ex
        go_wp2
        go_round
        case rel => exact ⟨k + 1, by omega, by go_num, HN.out⟩
        case measure => simp [intOf]; omega
    · obtain rfl : k = 3 := by omega
      have HP := Lib.hid (kind_none HNO.out)
      go_wp2
      go_ret2
      exact ⟨ret_kind HP.out.1.symm HP.out.2.symm, rfl⟩
end Go.Proofs.YtohgdmlpffeoiaaGreatDoor
namespace Go.Proofs.YtohgdmlpffeoiaaGreatDoor
open Go.RowKit
open Wd (Bs)

set_option maxRecDepth 100000 in
theorem wordIndex (v : Value) (l : List Bs) (s : ByteArray) (w : World) (hv : Strs w v l) :
    Calls Tryz.prog 62 #[v, .string s] w fun e w' => e = .returned (.int .i64 (idx l s.data.toList)) ∧ w = w' := by
  rcases hv.shape with ⟨b, k, rfl, rfl⟩ | ⟨b, o, k, rfl, p, q, n1, m1, d⟩
  · go_enter Tryz.func62, Tryz.ntmps62
    go_wp2_with fail
    refine (Tryz.slices_Index_string_empty _ _ _ _).mono ?_
    rintro e w1 ⟨rfl, rfl⟩
    go_wp2_with fail
    go_ret
    exact ⟨rfl, rfl⟩
  · unfold maxLen at m1
    have D := Lib.hid d
    clear d hv
    go_enter Tryz.func62, Tryz.ntmps62
    go_wp2_with fail
    refine (Tryz.slices_Index_string b o l.length k (l.map ba) s _ (by simp) (by omega) (fun j hj => ?_)).mono ?_
    · have hj' : j < l.length := by simpa using hj
      rw [ba_getD l j hj']
      exact D.out j l[j] (List.getElem?_eq_getElem hj')
    rintro e w1 ⟨rfl, rfl⟩
    go_wp2_with fail
    go_ret
    exact ⟨ret_int (by rw [List.take_of_length_le (by simp)]; rfl), rfl⟩
end Go.Proofs.YtohgdmlpffeoiaaGreatDoor
namespace Go.Proofs.YtohgdmlpffeoiaaGreatDoor
open Go.RowKit
open Wd (Bs)

set_option maxRecDepth 100000 in
theorem refName12 (i : Int) (w : World) :
    Calls Tryz.prog 18 #[.int .i64 i] w fun e w' => e = .returned (str (Ctr.nameI i)) ∧ w = w' := by
  by_cases e0 : i = 0
  · subst e0
    go_enter Tryz.func18, Tryz.ntmps18
    go_wp2
    go_ret
    exact ⟨rfl, rfl⟩
  by_cases e1 : i = 1
  · subst e1
    go_enter Tryz.func18, Tryz.ntmps18
    go_wp2
    go_ret
    exact ⟨rfl, rfl⟩
  by_cases e2 : i = 2
  · subst e2
    go_enter Tryz.func18, Tryz.ntmps18
    go_wp2
    go_ret
    exact ⟨rfl, rfl⟩
  have HN := Lib.hid (Ctr.nameI_out (k := i) (by omega))
  have t0 : (i == 0) = false := by simpa using e0
  have t1 : (i == 1) = false := by simpa using e1
  have t2 : (i == 2) = false := by simpa using e2
  go_enter Tryz.func18, Tryz.ntmps18
  go_wp2
  go_ret
  exact ⟨by rw [HN.out]; rfl, rfl⟩
end Go.Proofs.YtohgdmlpffeoiaaGreatDoor
namespace Go.Proofs.YtohgdmlpffeoiaaGreatDoor
open Go.RowKit
open Wd (Bs)

def cellsF (f : Fil.Flt) (fs : ByteArray) : Array Value := #[.int .i64 f.zone, .int .i64 f.who, .int .i64 f.self, .int .i64 f.types, .int .i64 f.ntypes, .int .i64 f.colors, .int .i64 f.ncolors, .string fs, .int .i64 f.keys, .int .i64 f.tap, .int .i64 f.pow.kind, .int .i64 f.pow.n, .int .i64 f.tough.kind, .int .i64 f.tough.n, .int .i64 f.val.kind, .int .i64 f.val.n]
theorem cellsF_acc (a : Fil.Acc) (fs : ByteArray) : cellsF a.flt fs = cellsA a fs := rfl
theorem cellsF_zero : cellsF Fil.zero ⟨#[]⟩ = cellsZ := rfl
theorem cellsF_size (f : Fil.Flt) (fs : ByteArray) : (cellsF f fs).size = 16 := rfl
theorem cellsZ_size : cellsZ.size = 16 := rfl
theorem cellsF_one (f : Fil.Flt) (fs : ByteArray) : (cellsF f fs).all (·.oneCell') = true := by simp [cellsF, Value.oneCell']
def cellsMZ : Array Value := cells3 0 0 0 cellsZ
theorem cellsMZ_size : cellsMZ.size = 19 := rfl
theorem sizeTM : (Tryz.prog.info? 27).map (·.size) = some 19 := by kernel_rfl
theorem infoTM {k n c : Int} {xs : Array Value} (h : xs.size = 16) : (Tryz.prog.info? 27).map (·.size) = some (cells3 k n c xs).size := by rw [sizeTM, cells3_size, h]
theorem infoTF16 {xs : Array Value} (h : xs.size = 16) : (Tryz.prog.info? 25).map (·.size) = some xs.size := by rw [sizeTF, h]
theorem part_filter {k n c : Int} {xs : Array Value} (h : xs.size = 16) (w : World) : (part 25 (cells3 k n c xs) 3).run Tryz.prog w = .ok (.agg xs) w := by
  have hagg : (isAgg 25).run Tryz.prog w = .ok true w := by
    unfold isAgg
    rw [Sem.run_bind, run_underlying Tryz.underlying25 w]
    simp
  have he : (cells3 k n c xs).extract 3 (3 + 16) = xs := by
    apply Array.ext_getElem?
    intro j
    rw [Array.getElem?_extract]
    split
    · exact cells3_at k n c xs j
    · rename_i hj
      rw [cells3_size, h] at hj
      rw [Array.getElem?_eq_none (by omega)]
  simp [part, Sem.run_bind, hagg, he]
def eqM (a b : Amt.Amt) : Bool := a.k == b.k && (a.n == b.n && (a.c == b.c && (eqF a.f b.f && true)))
theorem eqM_iff {a b : Amt.Amt} : eqM a b = true ↔ a = b := by
  obtain ⟨k, n, c, f⟩ := a
  obtain ⟨k', n', c', f'⟩ := b
  simp [eqM, eqF_iff]
theorem run_eq_amt (k n c k' n' c' : Int) (f g : Fil.Flt) (fs gs : ByteArray) (hf : f.sub = fs.data.toList) (hg : g.sub = gs.data.toList) (w : World) :
    (Op.equalIn 10000 27 (.agg (cells3 k n c (cellsF f fs))) (.agg (cells3 k' n' c' (cellsF g gs)))).run Tryz.prog w = .ok (eqM ⟨k, n, c, f⟩ ⟨k', n', c', g⟩) w := by
  rw [run_equalIn_struct w 9999 27 _ _ (by kernel_rfl) (by kernel_rfl)]
  simp only [Program.fieldsOf, Tryz.underlying27]
  have k3 := eqFields_step 9999 (cells3 k n c (cellsF f fs)) (cells3 k' n' c' (cellsF g gs)) { name := "Filter", type := 25, offset := 3, embedded := false, tag := "", pkgPath := "", byteOffset := 24 } [] (by decide) _ _ w (part_filter (cellsF_size f fs) w) (part_filter (cellsF_size g gs) w) (run_eq_fltD 9996 f g fs gs hf hg w) (r := true) (by simp [Op.eqFields])
  have k2 := eqFields_step 9999 (cells3 k n c (cellsF f fs)) (cells3 k' n' c' (cellsF g gs)) { name := "Counter", type := 3, offset := 2, embedded := false, tag := "", pkgPath := "", byteOffset := 16 } _ (by decide) _ _ w (partInt _ 2 _ (cells3_2 ..) w) (partInt _ 2 _ (cells3_2 ..) w) (run_equalIn_int w 9998 3 .i64 .i64 c c' Tryz.underlying3) k3
  have k1 := eqFields_step 9999 (cells3 k n c (cellsF f fs)) (cells3 k' n' c' (cellsF g gs)) { name := "N", type := 3, offset := 1, embedded := false, tag := "", pkgPath := "", byteOffset := 8 } _ (by decide) _ _ w (partInt _ 1 _ (cells3_1 ..) w) (partInt _ 1 _ (cells3_1 ..) w) (run_equalIn_int w 9998 3 .i64 .i64 n n' Tryz.underlying3) k2
  exact eqFields_step 9999 (cells3 k n c (cellsF f fs)) (cells3 k' n' c' (cellsF g gs)) { name := "Kind", type := 3, offset := 0, embedded := false, tag := "", pkgPath := "", byteOffset := 0 } _ (by decide) _ _ w (partInt _ 0 _ (cells3_0 ..) w) (partInt _ 0 _ (cells3_0 ..) w) (run_equalIn_int w 9998 3 .i64 .i64 k k' Tryz.underlying3) k1
theorem eqM_bare (n c : Int) (f : Fil.Flt) : eqM ⟨0, n, c, f⟩ ⟨0, 0, 0, Fil.zero⟩ = Amt.bareB n c f := by
  rw [Bool.eq_iff_iff, eqM_iff, Amt.bare_iff, Amt.Amt.mk.injEq]
  simp
theorem cells3_sz {k n c : Int} {xs : Array Value} (h : xs.size = 16) : (cells3 k n c xs).size = 19 := by rw [cells3_size, h]
theorem infoTM19 {xs : Array Value} (h : xs.size = 19) : (Tryz.prog.info? 27).map (·.size) = some xs.size := by rw [sizeTM, h]
/-- what the listed variables give -/
structure EnvA (w : World) : Prop where
  fil : Env w
  ctr : EnvK w
theorem EnvA.below {w w' : World} (h : EnvA w) (hb : Below w.heap.size w w') : EnvA w' := ⟨h.fil.below hb, h.ctr.below hb⟩
theorem eqM_zero (a : Amt.Amt) : eqM a ⟨0, 0, 0, Fil.zero⟩ = decide (a = Amt.zero) := by
  rw [Bool.eq_iff_iff, eqM_iff, decide_eq_true_iff]
  rfl
end Go.Proofs.YtohgdmlpffeoiaaGreatDoor
namespace Go.Proofs.YtohgdmlpffeoiaaGreatDoor
open Go.RowKit Go.ChangeShapes Go.WideShapes
open Go.ChangeMaps (open_string)
open Wd (Bs)

/-- the list of this seat's rows -/
def seatLaid : List (String × DataW Unit) := Rows.amountIsRow.laid

/-- An array of strings that reads as the list holds the list's texts, cell for cell. -/
theorem cells_of_strs {H : Type} {enc : TypeId × Value → H} {P : Program} {w : World} {base : Nat} {sp : Nat → Bool} {held : Bool} {fuel : Nat} {t e : TypeId} {n : Nat} {cs : List Value} {zs : List (List UInt8)} {p : List MemPlace}
    (ht : P.underlying t = some (.array n e)) (he : P.underlying e = some .string) (hce : P.cellsOf e = 1) (hct : P.cellsOf t = n)
    (h : DataW.trod enc P w base sp held fuel t cs = some (.agg (zs.map fun z => .lit (.string z)), p)) : cs = zs.map str := by
  cases fuel with
  | zero => simp [DataW.trod] at h
  | succ fuel =>
    simp only [DataW.trod, ht, hce, hct, Nat.mul_one] at h
    split at h
    · rename_i hl
      obtain ⟨xs, hm, hx⟩ := Option.map_eq_some_iff.1 h
      have hxs : xs.map (·.1) = zs.map fun z => (DataW.lit (.string z) : DataW H) := by
        have := congrArg Prod.fst hx
        simpa using this
      have hxl : xs.length = n := by simpa using Lib.mapM_length hm
      have hzl : zs.length = n := by
        have := congrArg List.length hxs
        simp at this
        omega
      apply List.ext_getElem?
      intro i
      by_cases hi : i < n
      · obtain ⟨b, hb, hf⟩ := Lib.mapM_at hm i i (by simp [hi])
        obtain ⟨s, hc, rfl, _⟩ := DataW.trod_string he hf
        have h1 : cs[i]? = some (.string s) := by
          have := congrArg (·[0]?) hc
          simpa [List.getElem?_take, List.getElem?_drop] using this
        have h2 : (xs.map (·.1))[i]? = some (DataW.lit (.string s.data.toList) : DataW H) := by simp [hb]
        rw [hxs] at h2
        simp only [List.getElem?_map, Option.map_eq_some_iff, DataW.lit.injEq, Lit.string.injEq] at h2
        obtain ⟨z', hz', e'⟩ := h2
        rw [h1, List.getElem?_map, hz', e']
        rfl
      · rw [List.getElem?_eq_none (by omega), List.getElem?_eq_none (by simp; omega)]
    · cases h

theorem gWordsType : (Tryz.prog.globals[1]?).map (·.type) = some 67 := by kernel_rfl
theorem cellsWords : Tryz.prog.cellsOf 67 = 8 := by kernel_rfl
theorem gCtrType : (Tryz.prog.globals[0]?).map (·.type) = some 52 := by kernel_rfl
theorem cellsCtr : Tryz.prog.cellsOf 52 = 3 := by kernel_rfl
theorem cellsTM : Tryz.prog.cellsOf 27 = 19 := by kernel_rfl
theorem gNamesType : (Tryz.prog.globals[2]?).map (·.type) = some 70 := by kernel_rfl
theorem cellsNames : Tryz.prog.cellsOf 70 = 5 := by kernel_rfl
theorem cellsStr : Tryz.prog.cellsOf 9 = 1 := by kernel_rfl
theorem cellsInt : Tryz.prog.cellsOf 3 = 1 := by kernel_rfl
theorem cellsTF : Tryz.prog.cellsOf 25 = 16 := by kernel_rfl
theorem cellsTB : Tryz.prog.cellsOf 23 = 2 := by kernel_rfl
theorem gPow : Tryz.prog.globalNamed "internal/strconv.uint64pow10" = some 3 := by kernel_rfl
theorem gPowType : (Tryz.prog.globals[3]?).map (·.type) = some 116 := by kernel_rfl
theorem gSyn : Tryz.prog.globalNamed "strconv.ErrSyntax" = some 4 := by kernel_rfl
theorem gSynType : (Tryz.prog.globals[4]?).map (·.type) = some 78 := by kernel_rfl
theorem gRng : Tryz.prog.globalNamed "strconv.ErrRange" = some 5 := by kernel_rfl
theorem gRngType : (Tryz.prog.globals[5]?).map (·.type) = some 78 := by kernel_rfl
theorem cellsArr : Tryz.prog.cellsOf 116 = 20 := by kernel_rfl
theorem cellsU64 : Tryz.prog.cellsOf 58 = 1 := by kernel_rfl
theorem cellsErr : Tryz.prog.cellsOf 135 = 1 := by kernel_rfl
theorem starErr : "*" ++ "errors.errorString" = "*errors.errorString" := by decide
theorem rowErr (u : TypeId) (h : Tryz.prog.typeName? 3 u = some "*errors.errorString") : u = 133 :=
  typeName_ptr_named (nm := "errors.errorString") (by rw [starErr]; kernel_rfl) (by kernel_rfl) (by decide) u (by rw [starErr]; exact h)
theorem powList : (("internal/strconv.uint64pow10", Rows.laid_internal_strconv_uint64pow10) : String × DataW Unit) = ("internal/strconv.uint64pow10", Lib.tabData .u64 Lib.pow10Tab) := by
  refine Prod.ext rfl ?_
  show Rows.laid_internal_strconv_uint64pow10 = Lib.tabData .u64 Lib.pow10Tab
  kernel_rfl
theorem plainList : (seatLaid.all fun x => x.2.handleName?.isNone) = true := by kernel_rfl
theorem len_of_shaped {W : World} (h : W.ShapedOpen Tryz.prog) : LenEnv W :=
  cell_of_shapedOpen_int (zero := #[.int .i64 0]) (t := 3) h (of_decide_eq_true (by kernel_rfl)) (by kernel_rfl) rfl (by kernel_rfl) (by kernel_rfl) Tryz.underlying3
theorem env_of_laid {W : World} (h : laidMetH Tryz.prog seatLaid W) (hs : W.ShapedOpen Tryz.prog) : EnvA W := by
  rw [MakeChecks.laidMetH_plain _ _ _ plainList] at h
  have h1 : laidMet Tryz.prog (("internal/strconv.uint64pow10", Rows.laid_internal_strconv_uint64pow10) :: ("strconv.ErrRange", Rows.laid_strconv_ErrRange) :: ("strconv.ErrSyntax", Rows.laid_strconv_ErrSyntax) :: ("cardgame/counter.names", Rows.laid_cardgame_counter_names) :: ("cardgame/color.names", Rows.laid_cardgame_color_names) :: [("cardgame/line.words", Rows.laid_cardgame_line_words)]) W := h.tail.tail
  have h2 := h1.tail
  have h3 := h2.tail
  have h4 := h3.tail
  have h5 := h4.tail
  have h6 := h5.tail
  rw [powList] at h1
  have hr := laid_sentinel h2 gRng gRngType Tryz.underlying78 rowErr Tryz.underlying133 Tryz.underlying135 rfl rfl Tryz.underlying9 cellsErr cellsStr
  have hs' := laid_sentinel h3 gSyn gSynType Tryz.underlying78 rowErr Tryz.underlying133 Tryz.underlying135 rfl rfl Tryz.underlying9 cellsErr cellsStr
  obtain ⟨a, _, hv, _⟩ := hr
  obtain ⟨b, _, hw, _⟩ := hs'
  have hk : EnvK W := by
    obtain ⟨ps, ⟨g', t', cs, fuel, p, q, hg', ht', hvar, hd, _, _⟩, _⟩ := h4
    obtain rfl := Option.some.inj (gNamesK.symm.trans hg')
    obtain rfl := Option.some.inj (gCtrType.symm.trans ht')
    have hcs := cells_of_strs (zs := [[112, 108, 117, 115], [109, 105, 110, 117, 115], [99, 104, 97, 114, 103, 101]]) Tryz.underlying52 Tryz.underlying9 cellsStr cellsCtr hd
    refine ⟨hvar.trans ?_⟩
    rw [show cs = cs.toList.toArray from rfl, hcs]
    rfl
  have hn : EnvC W := by
    obtain ⟨ps, ⟨g', t', cs, fuel, p, q, hg', ht', hvar, hd, _, _⟩, _⟩ := h5
    obtain rfl := Option.some.inj (gNames.symm.trans hg')
    obtain rfl := Option.some.inj (gNamesType.symm.trans ht')
    have hcs := cells_of_strs (zs := [[97, 109, 98, 101, 114], [99, 111, 98, 97, 108, 116], [106, 101, 116], [114, 117, 98, 121], [101, 109, 101, 114, 97, 108, 100]]) Tryz.underlying70 Tryz.underlying9 cellsStr cellsNames hd
    refine ⟨hvar.trans ?_⟩
    rw [show cs = cs.toList.toArray from rfl, hcs]
    rfl
  have hl : EnvL W := by
    obtain ⟨ps, ⟨g', t', cs, fuel, p, q, hg', ht', hvar, hd, _, _⟩, _⟩ := h6
    obtain rfl := Option.some.inj (gWords.symm.trans hg')
    obtain rfl := Option.some.inj (gWordsType.symm.trans ht')
    have hcs := cells_of_strs (zs := Ln.words) Tryz.underlying67 Tryz.underlying9 cellsStr cellsWords hd
    refine ⟨len_of_shaped hs, hvar.trans ?_⟩
    rw [show cs = cs.toList.toArray from rfl, hcs]
  exact ⟨⟨⟨Lib.tabIs_of_head gPow gPowType Tryz.underlying116 Tryz.underlying58 cellsU64 cellsArr h1, ⟨_, _, hw⟩, ⟨_, _, hv⟩⟩, hl, hn⟩, hk⟩
theorem own : ownKnob Tryz.prog.godebug = none := by kernel_rfl
theorem laidOut : laidOutB Tryz.prog = true := by kernel_rfl
/-- The world that is laid by a function meets the list. -/
theorem laid_met (os : Os) (args : Array Value) : laidMetH Tryz.prog seatLaid ((World.laidAll Tryz.prog os seatLaid).forCall (fun _ _ => 0) ⟨#[], args, []⟩).memory := by
  rw [MakeChecks.laidMetH_plain _ _ _ plainList]
  exact laidMet_laidAll _ (by kernel_rfl) (by kernel_rfl)
theorem laid_shaped (os : Os) : (World.laidAll Tryz.prog os seatLaid).Shaped Tryz.prog := World.shaped_of_ZipB (by kernel_rfl) (by kernel_rfl)
section
variable {H : Type} {enc : TypeId × Value → H}
/-- the kit's two bridges in one: a condition on the listed variables, and the world's shape -/
theorem handed_both {a : Assume} {C : Checked} {os : Os} {f : FuncId} {fn : Func} {s : ChangeSpec} {conds : List PathCond} {apart fresh handsOn again : Bool} {X : World → Array Value → Prop}
    (hX : ∀ (w w' : World) (args : Array Value), w.heap = w'.heap → X w args → X w' args)
    (own : ownKnob C.prog.godebug = none) (started : os.Started) (noInit : C.prog.inits.idxOf? f = none) (hfn : C.prog.funcs[f]? = some fn)
    (witness : ∃ (w : World) (tape : Tape) (i : Input), w.os = os ∧ (w.forCall tape i).Shaped C.prog ∧ i.vars = [] ∧ Input.okWide C.prog (w.forCall tape i) .any w.heap.size f i ∧
      ((s.pre enc C.prog fn conds apart (w.forCall tape i).memory i.args ∧ X (w.forCall tape i).memory i.args) ∧ sizedMet enc C.prog fn (OpenSpec.ofChange s) apart (w.forCall tape i).memory i.args) ∧ a.holds C.prog (lone (Frame.enter C.prog f i.args .normal) [] (w.forCall tape i)))
    (contract : ∀ (W : World) (base : Nat) (args : Array Value) (ds gs : List (DataW H)) (before : List MemPlace),
      (∀ (j : Nat) t v, fn.params[j]? = some t → args[j]? = some v → Value.okWide C.prog W .any base t v) →
      DataW.Whole enc C.prog fn.params.toList s.vars apart W args.toList ds gs before →
      conds.all (PathCond.test C.prog ⟨fn.params.toList, ds, s.plain.varTypes C.prog, gs⟩) = true →
      (DataW.weightsEach C.prog (fn.params.toList ++ s.plain.varTypes C.prog) (ds ++ gs)).all (· ≤ reachBytes) = true → X W args → W.ShapedOpen C.prog →
      a.holds C.prog (lone (Frame.enter C.prog f args .normal) [] W) →
      Calls C.prog f args W fun e W' => ∃ v, e = .returned v ∧ s.post enc C.prog fn apart fresh handsOn again W args v W') :
    ReturnsInHanded a C os f .any (fun w args => (s.pre enc C.prog fn conds apart w args ∧ X w args) ∧ sizedMet enc C.prog fn (OpenSpec.ofChange s) apart w args) (s.post enc C.prog fn apart fresh handsOn again) := by
  refine returnsInHanded_of_calls own started noInit witness ?_
  intro w tape i _ hsh _ hok hpre hholds
  obtain ⟨_, _, _, fn', hfn', _, _, _, _, hval⟩ := hok
  obtain rfl : fn' = fn := Option.some.inj (hfn'.symm.trans hfn)
  obtain ⟨⟨⟨ds, gs, before, hw, hc⟩, hx⟩, hz⟩ := hpre
  refine (contract (w.forCall tape i) w.heap.size i.args ds gs before hval (DataW.Whole.of_heap (w' := w.forCall tape i) (by rfl) hw) hc (hz.weights hw) (hX _ _ _ (by rfl) hx) hsh hholds).mono fun e W' ⟨v, he, hp⟩ => ?_
  subst he
  exact ChangeSpec.post_blind hp
variable {W : World}
theorem int_cell {fuel : Nat} {held : Bool} {sp : Nat → Bool} {v : Value} {x : DataW H × List MemPlace} (h : DataW.trod enc Tryz.prog W 0 sp held fuel 3 [v] = some x) : ∃ z : Int, v = .int .i64 z := by
  obtain ⟨z, e, _, _⟩ := DataW.trod_int Tryz.underlying3 h
  exact ⟨z, by simpa using e⟩
theorem str_cell {fuel : Nat} {held : Bool} {sp : Nat → Bool} {v : Value} {x : DataW H × List MemPlace} (h : DataW.trod enc Tryz.prog W 0 sp held fuel 9 [v] = some x) : ∃ s : ByteArray, v = .string s ∧ s.size ≤ maxLen := by
  obtain ⟨s, e, _, hs⟩ := DataW.trod_string Tryz.underlying9 h
  exact ⟨s, by simpa using e, hs⟩
theorem bd_cells {fuel : Nat} {a b : Value} {x : DataW H × List MemPlace} (hf : DataW.trod enc Tryz.prog W 0 (fun _ => true) true fuel 23 [a, b] = some x) : ∃ p : Fil.Bd, a = .int .i64 p.kind ∧ b = .int .i64 p.n := by
  obtain ⟨xs, n, _, _, _, hl, hg⟩ := DataW.trod_struct Tryz.underlying23 hf
  have hl2 : xs.length = 2 := hl
  have k : ∀ i (hi : i < 2), ∃ y, xs[i]? = some y := fun i hi => ⟨_, List.getElem?_eq_getElem (by omega)⟩
  obtain ⟨y0, e0⟩ := k 0 (by omega)
  obtain ⟨y1, e1⟩ := k 1 (by omega)
  have g0 : DataW.trod enc Tryz.prog W 0 (fun _ => true) true n 3 ((([a, b] : List Value).drop 0).take (Tryz.prog.cellsOf 3)) = xs[0]? := hg 0 _ rfl
  have g1 : DataW.trod enc Tryz.prog W 0 (fun _ => true) true n 3 ((([a, b] : List Value).drop 1).take (Tryz.prog.cellsOf 3)) = xs[1]? := hg 1 _ rfl
  rw [cellsInt, e0] at g0
  rw [cellsInt, e1] at g1
  obtain ⟨z0, rfl⟩ := int_cell (v := a) g0
  obtain ⟨z1, rfl⟩ := int_cell (v := b) g1
  exact ⟨⟨z0, z1⟩, rfl, rfl⟩
theorem list2 {α : Type} (l : List α) (h : (⟨l⟩ : Array α).size = 2) : ∃ a b, l = [a, b] := by
  match l, h with
  | [a, b], _ => exact ⟨a, b, rfl⟩
theorem uncons {α : Type} {l : List α} {n : Nat} (h : l.length = n + 1) : ∃ a r, l = a :: r ∧ r.length = n := by
  cases l with
  | nil => cases h
  | cons a r => exact ⟨a, r, rfl, by simpa using h⟩
theorem list16 {α : Type} (l : List α) (h : (⟨l⟩ : Array α).size = 16) : ∃ c0 c1 c2 c3 c4 c5 c6 c7 c8 c9 c10 c11 c12 c13 c14 c15, l = [c0, c1, c2, c3, c4, c5, c6, c7, c8, c9, c10, c11, c12, c13, c14, c15] := by
  have h0 : l.length = 16 := h
  obtain ⟨c0, r0, rfl, h1⟩ := uncons h0
  obtain ⟨c1, r1, rfl, h2⟩ := uncons h1
  obtain ⟨c2, r2, rfl, h3⟩ := uncons h2
  obtain ⟨c3, r3, rfl, h4⟩ := uncons h3
  obtain ⟨c4, r4, rfl, h5⟩ := uncons h4
  obtain ⟨c5, r5, rfl, h6⟩ := uncons h5
  obtain ⟨c6, r6, rfl, h7⟩ := uncons h6
  obtain ⟨c7, r7, rfl, h8⟩ := uncons h7
  obtain ⟨c8, r8, rfl, h9⟩ := uncons h8
  obtain ⟨c9, r9, rfl, h10⟩ := uncons h9
  obtain ⟨c10, r10, rfl, h11⟩ := uncons h10
  obtain ⟨c11, r11, rfl, h12⟩ := uncons h11
  obtain ⟨c12, r12, rfl, h13⟩ := uncons h12
  obtain ⟨c13, r13, rfl, h14⟩ := uncons h13
  obtain ⟨c14, r14, rfl, h15⟩ := uncons h14
  obtain ⟨c15, r15, rfl, h16⟩ := uncons h15
  obtain rfl := List.eq_nil_of_length_eq_zero h16
  exact ⟨c0, c1, c2, c3, c4, c5, c6, c7, c8, c9, c10, c11, c12, c13, c14, c15, rfl⟩
set_option maxRecDepth 100000 in
theorem open_bd {b0 : Nat} {v : Value} {d : DataW H} {ps : List MemPlace} (hok : Value.okWide Tryz.prog W .any b0 23 v) (hd : DataW.Trod enc Tryz.prog W 0 (fun _ => true) true 23 v d ps) : ∃ p : Fil.Bd, v = .agg #[.int .i64 p.kind, .int .i64 p.n] := by
  obtain ⟨cs, rfl, hsz⟩ := okWide_struct Tryz.underlying23 hok
  rw [cellsTB] at hsz
  obtain ⟨l⟩ := cs
  obtain ⟨a, b, rfl⟩ := list2 l hsz
  obtain ⟨fuel, hf⟩ := hd
  obtain ⟨p, rfl, rfl⟩ := bd_cells hf
  exact ⟨p, rfl⟩
set_option maxRecDepth 100000 in
theorem flt_cells {fuel : Nat} {cs : List Value} {x : DataW H × List MemPlace} (hf : DataW.trod enc Tryz.prog W 0 (fun _ => true) true fuel 25 cs = some x) (hsz : cs.length = 16) :
    ∃ (f : Fil.Flt) (fs : ByteArray), cs = (cellsF f fs).toList ∧ f.sub = fs.data.toList ∧ fs.size ≤ maxLen := by
  obtain ⟨c0, c1, c2, c3, c4, c5, c6, c7, c8, c9, c10, c11, c12, c13, c14, c15, rfl⟩ := list16 cs hsz
  obtain ⟨xs, n, _, _, _, hl, hg⟩ := DataW.trod_struct Tryz.underlying25 hf
  have hl13 : xs.length = 13 := hl
  have k : ∀ i (hi : i < 13), ∃ y, xs[i]? = some y := fun i hi => ⟨_, List.getElem?_eq_getElem (by omega)⟩
  obtain ⟨y0, e0⟩ := k 0 (by omega)
  have g0 : DataW.trod enc Tryz.prog W 0 (fun _ => true) true n 3 ((([c0, c1, c2, c3, c4, c5, c6, c7, c8, c9, c10, c11, c12, c13, c14, c15] : List Value).drop 0).take (Tryz.prog.cellsOf 3)) = xs[0]? := hg 0 _ rfl
  rw [cellsInt, e0] at g0
  obtain ⟨y1, e1⟩ := k 1 (by omega)
  have g1 : DataW.trod enc Tryz.prog W 0 (fun _ => true) true n 3 ((([c0, c1, c2, c3, c4, c5, c6, c7, c8, c9, c10, c11, c12, c13, c14, c15] : List Value).drop 1).take (Tryz.prog.cellsOf 3)) = xs[1]? := hg 1 _ rfl
  rw [cellsInt, e1] at g1
  obtain ⟨y2, e2⟩ := k 2 (by omega)
  have g2 : DataW.trod enc Tryz.prog W 0 (fun _ => true) true n 3 ((([c0, c1, c2, c3, c4, c5, c6, c7, c8, c9, c10, c11, c12, c13, c14, c15] : List Value).drop 2).take (Tryz.prog.cellsOf 3)) = xs[2]? := hg 2 _ rfl
  rw [cellsInt, e2] at g2
  obtain ⟨y3, e3⟩ := k 3 (by omega)
  have g3 : DataW.trod enc Tryz.prog W 0 (fun _ => true) true n 3 ((([c0, c1, c2, c3, c4, c5, c6, c7, c8, c9, c10, c11, c12, c13, c14, c15] : List Value).drop 3).take (Tryz.prog.cellsOf 3)) = xs[3]? := hg 3 _ rfl
  rw [cellsInt, e3] at g3
  obtain ⟨y4, e4⟩ := k 4 (by omega)
  have g4 : DataW.trod enc Tryz.prog W 0 (fun _ => true) true n 3 ((([c0, c1, c2, c3, c4, c5, c6, c7, c8, c9, c10, c11, c12, c13, c14, c15] : List Value).drop 4).take (Tryz.prog.cellsOf 3)) = xs[4]? := hg 4 _ rfl
  rw [cellsInt, e4] at g4
  obtain ⟨y5, e5⟩ := k 5 (by omega)
  have g5 : DataW.trod enc Tryz.prog W 0 (fun _ => true) true n 3 ((([c0, c1, c2, c3, c4, c5, c6, c7, c8, c9, c10, c11, c12, c13, c14, c15] : List Value).drop 5).take (Tryz.prog.cellsOf 3)) = xs[5]? := hg 5 _ rfl
  rw [cellsInt, e5] at g5
  obtain ⟨y6, e6⟩ := k 6 (by omega)
  have g6 : DataW.trod enc Tryz.prog W 0 (fun _ => true) true n 3 ((([c0, c1, c2, c3, c4, c5, c6, c7, c8, c9, c10, c11, c12, c13, c14, c15] : List Value).drop 6).take (Tryz.prog.cellsOf 3)) = xs[6]? := hg 6 _ rfl
  rw [cellsInt, e6] at g6
  obtain ⟨y7, e7⟩ := k 7 (by omega)
  have g7 : DataW.trod enc Tryz.prog W 0 (fun _ => true) true n 9 ((([c0, c1, c2, c3, c4, c5, c6, c7, c8, c9, c10, c11, c12, c13, c14, c15] : List Value).drop 7).take (Tryz.prog.cellsOf 9)) = xs[7]? := hg 7 _ rfl
  rw [cellsStr, e7] at g7
  obtain ⟨y8, e8⟩ := k 8 (by omega)
  have g8 : DataW.trod enc Tryz.prog W 0 (fun _ => true) true n 3 ((([c0, c1, c2, c3, c4, c5, c6, c7, c8, c9, c10, c11, c12, c13, c14, c15] : List Value).drop 8).take (Tryz.prog.cellsOf 3)) = xs[8]? := hg 8 _ rfl
  rw [cellsInt, e8] at g8
  obtain ⟨y9, e9⟩ := k 9 (by omega)
  have g9 : DataW.trod enc Tryz.prog W 0 (fun _ => true) true n 3 ((([c0, c1, c2, c3, c4, c5, c6, c7, c8, c9, c10, c11, c12, c13, c14, c15] : List Value).drop 9).take (Tryz.prog.cellsOf 3)) = xs[9]? := hg 9 _ rfl
  rw [cellsInt, e9] at g9
  obtain ⟨y10, e10⟩ := k 10 (by omega)
  have g10 : DataW.trod enc Tryz.prog W 0 (fun _ => true) true n 23 ((([c0, c1, c2, c3, c4, c5, c6, c7, c8, c9, c10, c11, c12, c13, c14, c15] : List Value).drop 10).take (Tryz.prog.cellsOf 23)) = xs[10]? := hg 10 _ rfl
  rw [cellsTB, e10] at g10
  obtain ⟨y11, e11⟩ := k 11 (by omega)
  have g11 : DataW.trod enc Tryz.prog W 0 (fun _ => true) true n 23 ((([c0, c1, c2, c3, c4, c5, c6, c7, c8, c9, c10, c11, c12, c13, c14, c15] : List Value).drop 12).take (Tryz.prog.cellsOf 23)) = xs[11]? := hg 11 _ rfl
  rw [cellsTB, e11] at g11
  obtain ⟨y12, e12⟩ := k 12 (by omega)
  have g12 : DataW.trod enc Tryz.prog W 0 (fun _ => true) true n 23 ((([c0, c1, c2, c3, c4, c5, c6, c7, c8, c9, c10, c11, c12, c13, c14, c15] : List Value).drop 14).take (Tryz.prog.cellsOf 23)) = xs[12]? := hg 12 _ rfl
  rw [cellsTB, e12] at g12
  obtain ⟨z0, rfl⟩ := int_cell (v := c0) g0
  obtain ⟨z1, rfl⟩ := int_cell (v := c1) g1
  obtain ⟨z2, rfl⟩ := int_cell (v := c2) g2
  obtain ⟨z3, rfl⟩ := int_cell (v := c3) g3
  obtain ⟨z4, rfl⟩ := int_cell (v := c4) g4
  obtain ⟨z5, rfl⟩ := int_cell (v := c5) g5
  obtain ⟨z6, rfl⟩ := int_cell (v := c6) g6
  obtain ⟨z7, rfl, h7⟩ := str_cell (v := c7) g7
  obtain ⟨z8, rfl⟩ := int_cell (v := c8) g8
  obtain ⟨z9, rfl⟩ := int_cell (v := c9) g9
  obtain ⟨z10, rfl, rfl⟩ := bd_cells (a := c10) (b := c11) g10
  obtain ⟨z11, rfl, rfl⟩ := bd_cells (a := c12) (b := c13) g11
  obtain ⟨z12, rfl, rfl⟩ := bd_cells (a := c14) (b := c15) g12
  exact ⟨⟨z0, z1, z2, z3, z4, z5, z6, z7.data.toList, z8, z9, z10, z11, z12⟩, z7, rfl, rfl, h7⟩
theorem cells3_list (k n c : Int) (xs : Array Value) : (⟨.int .i64 k :: .int .i64 n :: .int .i64 c :: xs.toList⟩ : Array Value) = cells3 k n c xs := by
  apply Array.ext'
  simp [cells3]
set_option maxHeartbeats 4000000 in
set_option maxRecDepth 100000 in
theorem open_amt {b0 : Nat} {v : Value} {d : DataW H} {ps : List MemPlace} (hok : Value.okWide Tryz.prog W .any b0 27 v) (hd : DataW.Trod enc Tryz.prog W 0 (fun _ => true) true 27 v d ps) :
    ∃ (k n c : Int) (f : Fil.Flt) (fs : ByteArray), v = .agg (cells3 k n c (cellsF f fs)) ∧ f.sub = fs.data.toList ∧ fs.size ≤ maxLen := by
  obtain ⟨cs, rfl, hsz⟩ := okWide_struct Tryz.underlying27 hok
  rw [cellsTM] at hsz
  obtain ⟨l⟩ := cs
  have h0 : l.length = 19 := hsz
  obtain ⟨c0, r0, rfl, h1⟩ := uncons h0
  obtain ⟨c1, r1, rfl, h2⟩ := uncons h1
  obtain ⟨c2, r2, rfl, h3⟩ := uncons h2
  obtain ⟨fuel, hf⟩ := hd
  obtain ⟨xs, n, _, _, _, hl, hg⟩ := DataW.trod_struct Tryz.underlying27 hf
  have hl4 : xs.length = 4 := hl
  have k : ∀ i (hi : i < 4), ∃ y, xs[i]? = some y := fun i hi => ⟨_, List.getElem?_eq_getElem (by omega)⟩
  obtain ⟨y0, e0⟩ := k 0 (by omega)
  have g0 : DataW.trod enc Tryz.prog W 0 (fun _ => true) true n 3 (((c0 :: c1 :: c2 :: r2 : List Value).drop 0).take (Tryz.prog.cellsOf 3)) = xs[0]? := hg 0 _ rfl
  rw [cellsInt, e0] at g0
  obtain ⟨y1, e1⟩ := k 1 (by omega)
  have g1 : DataW.trod enc Tryz.prog W 0 (fun _ => true) true n 3 (((c0 :: c1 :: c2 :: r2 : List Value).drop 1).take (Tryz.prog.cellsOf 3)) = xs[1]? := hg 1 _ rfl
  rw [cellsInt, e1] at g1
  obtain ⟨y2, e2⟩ := k 2 (by omega)
  have g2 : DataW.trod enc Tryz.prog W 0 (fun _ => true) true n 3 (((c0 :: c1 :: c2 :: r2 : List Value).drop 2).take (Tryz.prog.cellsOf 3)) = xs[2]? := hg 2 _ rfl
  rw [cellsInt, e2] at g2
  obtain ⟨y3, e3⟩ := k 3 (by omega)
  have g3 : DataW.trod enc Tryz.prog W 0 (fun _ => true) true n 25 (((c0 :: c1 :: c2 :: r2 : List Value).drop 3).take (Tryz.prog.cellsOf 25)) = xs[3]? := hg 3 _ rfl
  rw [cellsTF, e3] at g3
  obtain ⟨z0, rfl⟩ := int_cell (v := c0) g0
  obtain ⟨z1, rfl⟩ := int_cell (v := c1) g1
  obtain ⟨z2, rfl⟩ := int_cell (v := c2) g2
  have g3' : DataW.trod enc Tryz.prog W 0 (fun _ => true) true n 25 r2 = some y3 := by
    rw [← g3]
    congr 1
    exact (List.take_of_length_le (by omega)).symm
  obtain ⟨f, fs, rfl, h5, h6⟩ := flt_cells g3' h3
  exact ⟨z0, z1, z2, f, fs, by rw [cells3_list], h5, h6⟩
end
end Go.Proofs.YtohgdmlpffeoiaaGreatDoor
namespace Go.Proofs.YtohgdmlpffeoiaaGreatDoor.Frame
open Go.ChangeShapes Go.WideShapes Go.RowKit
/-- a byte's number as a byte -/
theorem byte_of {n : Int} (h : (Lit.int .u8 n).wf = true) : ∃ c : UInt8, n = (c.toNat : Int) := by
  have h2 : 0 ≤ n ∧ n ≤ 255 := bounds_u8 h
  exact ⟨UInt8.ofNat n.toNat, by rw [UInt8.toNat_ofNat_of_lt' (by simp; omega)]; omega⟩
theorem u16_of {n : Int} (h : (Lit.int .u16 n).wf = true) : ∃ c : Nat, c < 65536 ∧ n = (c : Int) := by
  have h2 : 0 ≤ n ∧ n ≤ 65535 := bounds_u16 h
  exact ⟨n.toNat, by omega, by omega⟩
theorem u32_of {n : Int} (h : (Lit.int .u32 n).wf = true) : ∃ c : Nat, c < 4294967296 ∧ n = (c : Int) := by
  have h2 : 0 ≤ n ∧ n ≤ 4294967295 := bounds_u32 h
  exact ⟨n.toNat, by omega, by omega⟩
variable {H : Type} {enc : TypeId × Value → H} {P : Program}

theorem trodAll_below (hl : laidOutB P = true) {W W' : World} (hb : Below W.heap.size W W') :
    ∀ {ts : List TypeId} {vs : List Value} {ds : List (DataW H)} {ps : List MemPlace}, (ts.all fun t => P.readableRec t && decide (t < P.types.size)) = true →
      DataW.TrodAll enc P W 0 (fun _ => true) true ts vs ds ps → (∀ x ∈ ps, x.block < W.heap.size) →
      DataW.TrodAll enc P W' 0 (fun b => decide (b < W.heap.size)) true ts vs ds ps
  | [], vs, ds, ps, _, h, _ => by
    obtain ⟨rfl, rfl, rfl⟩ := trodAll_nil h
    exact trodAll_mk0
  | t :: ts, vs, ds, ps, hr, h, hlt => by
    obtain ⟨v, vs', d, ds', p, q, rfl, rfl, rfl, h0, h1⟩ := trodAll_cons h
    simp only [List.all_cons, Bool.and_eq_true, decide_eq_true_eq] at hr
    exact trodAll_cons_mk (Below.trod hl hr.1.1 hr.1.2 h0 hb (fun x hx => hlt x (List.mem_append_left _ hx)))
      (trodAll_below hl hb (by simpa using hr.2) h1 (fun x hx => hlt x (List.mem_append_right _ hx)))

theorem post_law {f : Func} {s : ChangeSpec} {tb : TypeId} {W W' : World} {args : Array Value} {ds gs : List (DataW H)} {before : List MemPlace} {apart : Bool}
    (hl : laidOutB P = true) (hr : (f.params.toList.all fun t => P.readableRec t && decide (t < P.types.size)) = true) (hres : f.resultTypes = #[tb]) (htb : P.underlying tb = some .bool) (hvars : s.vars = [])
    (hW : DataW.Whole enc P f.params.toList s.vars apart W args.toList ds gs before) (hspec : s.fn H ds = { results := [.lit (.bool true)], args := ds }) (hb : Below W.heap.size W W') :
    s.post enc P f apart true false false W args (.bool true) W' := by
  have hW' := hW
  have hlt := hW.lt
  obtain ⟨p, q, hA, hV, rfl, _, _⟩ := hW
  rw [hvars] at hV
  obtain ⟨rfl, rfl⟩ := trodVars_none hV
  simp only [List.append_nil] at hW' hlt
  refine ⟨ds, [], p, [], p, [], hW', ?_, ?_, ?_, hb.frame _, fun h => by cases h⟩
  · rw [List.append_nil, hspec, hres]
    exact trodAll_cons_mk (shut_bool htb true) trodAll_mk0
  · rw [List.append_nil, hspec]
    exact trodAll_below hl hb hr hA hlt
  · rw [List.append_nil, hspec, hvars]
    rfl
end Go.Proofs.YtohgdmlpffeoiaaGreatDoor.Frame
namespace Go.Proofs.YtohgdmlpffeoiaaGreatDoor
open Go.RowKit
open Wd (Bs)

set_option maxHeartbeats 8000000 in
set_option maxRecDepth 100000 in
theorem isCount (n c : Int) (f : Fil.Flt) (fs : ByteArray) (w : World)
    (v1 v2 v3 q : Bool) (h1 : decide (1 ≤ n) = v1) (h2 : decide (n ≤ 99) = v2) (h0 : v1 = true → decide (0 ≤ n) = true) (h4 : v2 = true → decide (n ≤ 1000000) = true)
    (HI : Hid (∀ W, Below w.heap.size w W → Calls Tryz.prog 15 #[.agg (cellsF f fs)] W fun e w' => e = .returned (.bool v3) ∧ Below W.heap.size W w'))
    (HQ : Hid (∀ W : World, (Op.equalIn 10000 27 (.agg (cells3 0 0 c cellsZ)) (.agg (cells3 0 0 0 cellsZ))).run Tryz.prog W = .ok q W)) :
    Calls Tryz.prog 9 #[.agg (cells3 2 n c (cellsF f fs))] w fun e w' => e = .returned (.bool ((v1 && (v2 && v3)) && q)) ∧ Below w.heap.size w w' := by

  have B0 := Lib.hid (Below.refl w.heap.size w)
  go_enter Tryz.func9, Tryz.ntmps9
  go_upto_region 0 with fail
  refine wp_region_lit ?_
  obtain ⟨w1, hw⟩ : ∃ v, v = w.alloc (.cells (cells3 2 n c (cellsF f fs)) 27) := ⟨_, rfl⟩
  obtain ⟨pA, hp⟩ : ∃ v, v = w.heap.size := ⟨_, rfl⟩
  have B1 : Hid (Below w.heap.size w w1) := Lib.hid (by rw [hw]; exact B0.out.alloc B0.out.size _)
  have LEA : Hid (w.heap.size ≤ pA) := Lib.hid (by rw [hp]; exact B0.out.size)
  have KA1 : Hid (Blk w1 pA (cells3 2 n c (cellsF f fs)) 27) := Lib.hid (by rw [hw, hp]; exact Blk.new _ _ _)
  with_reducible refine wpList_runWV (some 1) (v := .pointer (some ⟨pA, 0, none⟩)) (w' := w1) ?_ ?_ ?_ ?_
  · rfl
  · rfl
  · rw [hw, hp]; (go_simp; (try rfl))
  simp only [pu, sB, s0, sS]
  clear hw hp
  clear B0
  (with_reducible refine rN (v := .bool false) ?_ ?_ ?_); (· rfl); (· go_simp; (try with_reducible rfl)); simp only [pu, sB, s0, sS]
  go_upto_region 1 with fail
  refine wp_region_lit ?_
  (with_reducible refine rN (v := .bool true) ?_ ?_ ?_); (· rfl); (· go_simp; (try with_reducible rfl)); simp only [pu, sB, s0, sS]
  go_upto_region 2 with fail
  refine wp_region_lit ?_
  with_reducible refine wpList_loadS (.tmp 1) ?_ ?_ KA1.out Tryz.underlying27 ?_ (infoTM19 (cells3_sz (cellsF_size f fs))) ?_
  · rfl
  · rfl
  · rfl
  simp only [pu, sB, s0, sS]
  obtain ⟨w2, hw⟩ : ∃ v, v = w1.alloc (.cells (cells3 0 0 0 cellsZ) 27) := ⟨_, rfl⟩
  obtain ⟨pU, hp⟩ : ∃ v, v = w1.heap.size := ⟨_, rfl⟩
  have B2 : Hid (Below w.heap.size w w2) := Lib.hid (by rw [hw]; exact B1.out.alloc B1.out.size _)
  have LEU : Hid (w.heap.size ≤ pU) := Lib.hid (by rw [hp]; exact B1.out.size)
  have KA2 := Lib.hid (show Blk w2 pA (cells3 2 n c (cellsF f fs)) 27 by rw [hw]; exact KA1.out.alloc _)
  have NEAU : Hid (pA ≠ pU) := Lib.hid (by rw [hp]; exact Nat.ne_of_lt KA1.out.lt)
  have NEUA : Hid (pU ≠ pA) := Lib.hid (Ne.symm NEAU.out)
  have KU2 : Hid (Blk w2 pU (cells3 0 0 0 cellsZ) 27) := Lib.hid (by rw [hw, hp]; exact Blk.new _ _ _)
  with_reducible refine wpList_runWV (some 4) (v := .pointer (some ⟨pU, 0, none⟩)) (w' := w2) ?_ ?_ ?_ ?_
  · rfl
  · rfl
  · rw [hw, hp]; (go_simp; (try rfl))
  simp only [pu, sB, s0, sS]
  clear hw hp
  clear B1 KA1
  have KU3 := Lib.hid (KU2.out.stored (o := 0) (vs := (cells3 2 n c (cellsF f fs)).toList) (laidAt_whole (Eq.trans (cells3_sz (cellsF_size f fs)) (Eq.symm (cells3_sz cellsZ_size)))))
  have KA3 := Lib.hid (KA2.out.wholeElse ((cells3 2 n c (cellsF f fs)).toList) (o := 0) NEAU.out)
  have B3 := Lib.hid (below_whole ((cells3 2 n c (cellsF f fs)).toList) (o := 0) B2.out LEU.out)
  with_reducible refine wpList_storeM (.tmp 4) (.tmp 5) (o := 0) (vs := (cells3 2 n c (cellsF f fs))) ?_ ?_ KU2.out ?_ (infoTM19 (cells3_sz (cellsF_size f fs))) (cells3_one (cellsF_one f fs)) ?_
  · rfl
  · rfl
  · exact (by have h0 : (cells3 0 0 0 cellsZ).size = 19 := (cells3_sz cellsZ_size); have h1 : (cells3 2 n c (cellsF f fs)).size = 19 := (cells3_sz (cellsF_size f fs)); omega)
  (try simp only [Act.put])
  generalize World.setCells _ _ _ _ = w3 at KA3 KU3 B3 ⊢
  clear B2 KA2 KU2
  go_upto_region 3 with fail
  refine wp_region_lit ?_
  (with_reducible refine rN (v := .pointer (some ⟨pU, 0, none⟩)) ?_ ?_ ?_); (· rfl); (· go_simp; (try rfl)); simp only [pu, sB, s0, sS]
  have KU4 := Lib.hid (KU3.out.stored (o := 0) (vs := [.int .i64 0]) (cells3_put0 _ _ _ _ _))
  have KA4 := Lib.hid (KA3.out.wholeElse ([.int .i64 0]) (o := 0) NEAU.out)
  have B4 := Lib.hid (below_whole ([.int .i64 0]) (o := 0) B3.out LEU.out)
  with_reducible refine wpList_storeV (.tmp 6) (.const (.int .i64 0)) (j := 0) (v := .int .i64 0) ?_ ?_ KU3.out ?_ (by kernel_rfl) (by simp [Value.oneCell']) ?_
  · rfl
  · rfl
  · exact (by have h0 : (cells3 2 n c (cellsF f fs)).size = 19 := (cells3_sz (cellsF_size f fs)); omega)
  (try simp only [Act.put])
  generalize World.setCells _ _ _ _ = w4 at KA4 KU4 B4 ⊢
  clear B3 KA3 KU3
  go_upto_region 4 with fail
  refine wp_region_lit ?_
  (with_reducible refine rN (v := .pointer (some ⟨pA, 0, none⟩)) ?_ ?_ ?_); (· rfl); (· go_simp; (try rfl)); simp only [pu, sB, s0, sS]
  with_reducible refine wpList_loadV (.tmp 7) (j := 0) (v := .int .i64 2) ?_ ?_ KA4.out ?_ Tryz.underlying3 ?_ ?_
  · rfl
  · rfl
  · exact (cells3_0 ..)
  · rfl
  simp only [pu, sB, s0, sS]
  go_upto_region 5 with fail
  refine wp_region_lit ?_
  iterate 2 ((with_reducible refine rN (v := .bool true) ?_ ?_ ?_); (· rfl); (· go_simp; (try with_reducible rfl)); simp only [pu, sB, s0, sS])
  cases v1 with
  | false =>
    go_upto_region 13 with fail
    refine wp_region_lit ?_
    (with_reducible refine rN (v := .pointer (some ⟨pA, 1, none⟩)) ?_ ?_ ?_); (· rfl); (· go_simp; (try rfl)); simp only [pu, sB, s0, sS]
    with_reducible refine wpList_loadV (.tmp 21) (j := 1) (v := .int .i64 n) ?_ ?_ KA4.out ?_ Tryz.underlying3 ?_ ?_
    · rfl
    · rfl
    · exact (cells3_1 ..)
    · rfl
    simp only [pu, sB, s0, sS]
    iterate 2 ((with_reducible refine rN (v := .bool false) ?_ ?_ ?_); (· rfl); (· go_simp; (try with_reducible rfl)); simp only [pu, sB, s0, sS])
    iterate 3 ((with_reducible refine kN ?_ ?_); (· rfl); simp only [pu, sB, s0, sS])
    iterate 2 ((with_reducible refine rN (v := .bool false) ?_ ?_ ?_); (· rfl); (· go_simp; (try with_reducible rfl)); simp only [pu, sB, s0, sS])
    iterate 3 ((with_reducible refine kN ?_ ?_); (· rfl); simp only [pu, sB, s0, sS])
    iterate 2 ((with_reducible refine rN (v := .bool false) ?_ ?_ ?_); (· rfl); (· go_simp; (try with_reducible rfl)); simp only [pu, sB, s0, sS])
    go_upto_region 14 with fail
    refine wp_region_lit ?_
    (with_reducible refine rN (v := .agg cellsZ) ?_ ?_ ?_); (· rfl); (· go_simp; rfl); simp only [pu, sB, s0, sS]
    (with_reducible refine rN (v := .pointer (some ⟨pU, 3, none⟩)) ?_ ?_ ?_); (· rfl); (· go_simp; (try rfl)); simp only [pu, sB, s0, sS]
    have KU5 := Lib.hid (KU4.out.stored (o := 3) (vs := cellsZ.toList) (cells3_laid (by rw [cellsZ_size, (cellsF_size f fs)])))
    have KA5 := Lib.hid (KA4.out.wholeElse (cellsZ.toList) (o := 3) NEAU.out)
    have B5 := Lib.hid (below_whole (cellsZ.toList) (o := 3) B4.out LEU.out)
    with_reducible refine wpList_storeM (.tmp 35) (.tmp 34) (o := 3) (vs := cellsZ) ?_ ?_ KU4.out ?_ (infoTF16 cellsZ_size) cellsZ_one ?_
    · rfl
    · rfl
    · exact (by have h0 : (cells3 0 n c (cellsF f fs)).size = 19 := (cells3_sz (cellsF_size f fs)); have h1 : cellsZ.size = 16 := cellsZ_size; omega)
    (try simp only [Act.put])
    generalize World.setCells _ _ _ _ = w5 at KA5 KU5 B5 ⊢
    clear B4 KA4 KU4
    go_upto_region 15 with fail
    refine wp_region_lit ?_
    iterate 2 ((with_reducible refine rN (v := .bool false) ?_ ?_ ?_); (· rfl); (· go_simp; (try with_reducible rfl)); simp only [pu, sB, s0, sS])
    iterate 3 ((with_reducible refine kN ?_ ?_); (· rfl); simp only [pu, sB, s0, sS])
    iterate 2 ((with_reducible refine rN (v := .bool false) ?_ ?_ ?_); (· rfl); (· go_simp; (try with_reducible rfl)); simp only [pu, sB, s0, sS])
    iterate 3 ((with_reducible refine kN ?_ ?_); (· rfl); simp only [pu, sB, s0, sS])
    iterate 2 ((with_reducible refine rN (v := .bool false) ?_ ?_ ?_); (· rfl); (· go_simp; (try with_reducible rfl)); simp only [pu, sB, s0, sS])
    go_upto_region 16 with fail
    refine wp_region_lit ?_
    (with_reducible refine rN (v := .pointer (some ⟨pU, 1, none⟩)) ?_ ?_ ?_); (· rfl); (· go_simp; (try rfl)); simp only [pu, sB, s0, sS]
    have KU6 := Lib.hid (KU5.out.stored (o := 1) (vs := [.int .i64 0]) (cells3_put1 _ _ _ _ _))
    have KA6 := Lib.hid (KA5.out.wholeElse ([.int .i64 0]) (o := 1) NEAU.out)
    have B6 := Lib.hid (below_whole ([.int .i64 0]) (o := 1) B5.out LEU.out)
    with_reducible refine wpList_storeV (.tmp 47) (.const (.int .i64 0)) (j := 1) (v := .int .i64 0) ?_ ?_ KU5.out ?_ (by kernel_rfl) (by simp [Value.oneCell']) ?_
    · rfl
    · rfl
    · exact (by have h0 : (cells3 0 n c cellsZ).size = 19 := (cells3_sz cellsZ_size); omega)
    (try simp only [Act.put])
    generalize World.setCells _ _ _ _ = w6 at KA6 KU6 B6 ⊢
    clear B5 KA5 KU5
    go_upto_region 20 with fail
    refine wp_region_lit ?_
    iterate 2 ((with_reducible refine rN (v := .bool false) ?_ ?_ ?_); (· rfl); (· go_simp; (try with_reducible rfl)); simp only [pu, sB, s0, sS])
    iterate 3 ((with_reducible refine kN ?_ ?_); (· rfl); simp only [pu, sB, s0, sS])
    iterate 2 ((with_reducible refine rN (v := .bool false) ?_ ?_ ?_); (· rfl); (· go_simp; (try with_reducible rfl)); simp only [pu, sB, s0, sS])
    go_wp2_with fail
    go_ret
    exact ⟨rfl, B6.out⟩
  | true =>
    have h0 := h0 rfl
    cases v2 with
    | false =>
      go_upto_region 13 with fail
      refine wp_region_lit ?_
      (with_reducible refine rN (v := .pointer (some ⟨pA, 1, none⟩)) ?_ ?_ ?_); (· rfl); (· go_simp; (try rfl)); simp only [pu, sB, s0, sS]
      with_reducible refine wpList_loadV (.tmp 21) (j := 1) (v := .int .i64 n) ?_ ?_ KA4.out ?_ Tryz.underlying3 ?_ ?_
      · rfl
      · rfl
      · exact (cells3_1 ..)
      · rfl
      simp only [pu, sB, s0, sS]
      iterate 2 ((with_reducible refine rN (v := .bool true) ?_ ?_ ?_); (· rfl); (· go_simp; (try with_reducible rfl)); simp only [pu, sB, s0, sS])
      (with_reducible refine rN (v := .pointer (some ⟨pA, 1, none⟩)) ?_ ?_ ?_); (· rfl); (· go_simp; (try rfl)); simp only [pu, sB, s0, sS]
      with_reducible refine wpList_loadV (.tmp 25) (j := 1) (v := .int .i64 n) ?_ ?_ KA4.out ?_ Tryz.underlying3 ?_ ?_
      · rfl
      · rfl
      · exact (cells3_1 ..)
      · rfl
      simp only [pu, sB, s0, sS]
      iterate 3 ((with_reducible refine rN (v := .bool false) ?_ ?_ ?_); (· rfl); (· go_simp; (try with_reducible rfl)); simp only [pu, sB, s0, sS])
      iterate 3 ((with_reducible refine kN ?_ ?_); (· rfl); simp only [pu, sB, s0, sS])
      iterate 2 ((with_reducible refine rN (v := .bool false) ?_ ?_ ?_); (· rfl); (· go_simp; (try with_reducible rfl)); simp only [pu, sB, s0, sS])
      go_upto_region 14 with fail
      refine wp_region_lit ?_
      (with_reducible refine rN (v := .agg cellsZ) ?_ ?_ ?_); (· rfl); (· go_simp; rfl); simp only [pu, sB, s0, sS]
      (with_reducible refine rN (v := .pointer (some ⟨pU, 3, none⟩)) ?_ ?_ ?_); (· rfl); (· go_simp; (try rfl)); simp only [pu, sB, s0, sS]
      have KU5 := Lib.hid (KU4.out.stored (o := 3) (vs := cellsZ.toList) (cells3_laid (by rw [cellsZ_size, (cellsF_size f fs)])))
      have KA5 := Lib.hid (KA4.out.wholeElse (cellsZ.toList) (o := 3) NEAU.out)
      have B5 := Lib.hid (below_whole (cellsZ.toList) (o := 3) B4.out LEU.out)
      with_reducible refine wpList_storeM (.tmp 35) (.tmp 34) (o := 3) (vs := cellsZ) ?_ ?_ KU4.out ?_ (infoTF16 cellsZ_size) cellsZ_one ?_
      · rfl
      · rfl
      · exact (by have h0 : (cells3 0 n c (cellsF f fs)).size = 19 := (cells3_sz (cellsF_size f fs)); have h1 : cellsZ.size = 16 := cellsZ_size; omega)
      (try simp only [Act.put])
      generalize World.setCells _ _ _ _ = w5 at KA5 KU5 B5 ⊢
      clear B4 KA4 KU4
      go_upto_region 15 with fail
      refine wp_region_lit ?_
      iterate 2 ((with_reducible refine rN (v := .bool false) ?_ ?_ ?_); (· rfl); (· go_simp; (try with_reducible rfl)); simp only [pu, sB, s0, sS])
      iterate 3 ((with_reducible refine kN ?_ ?_); (· rfl); simp only [pu, sB, s0, sS])
      iterate 2 ((with_reducible refine rN (v := .bool false) ?_ ?_ ?_); (· rfl); (· go_simp; (try with_reducible rfl)); simp only [pu, sB, s0, sS])
      iterate 3 ((with_reducible refine kN ?_ ?_); (· rfl); simp only [pu, sB, s0, sS])
      iterate 2 ((with_reducible refine rN (v := .bool false) ?_ ?_ ?_); (· rfl); (· go_simp; (try with_reducible rfl)); simp only [pu, sB, s0, sS])
      go_upto_region 16 with fail
      refine wp_region_lit ?_
      (with_reducible refine rN (v := .pointer (some ⟨pU, 1, none⟩)) ?_ ?_ ?_); (· rfl); (· go_simp; (try rfl)); simp only [pu, sB, s0, sS]
      have KU6 := Lib.hid (KU5.out.stored (o := 1) (vs := [.int .i64 0]) (cells3_put1 _ _ _ _ _))
      have KA6 := Lib.hid (KA5.out.wholeElse ([.int .i64 0]) (o := 1) NEAU.out)
      have B6 := Lib.hid (below_whole ([.int .i64 0]) (o := 1) B5.out LEU.out)
      with_reducible refine wpList_storeV (.tmp 47) (.const (.int .i64 0)) (j := 1) (v := .int .i64 0) ?_ ?_ KU5.out ?_ (by kernel_rfl) (by simp [Value.oneCell']) ?_
      · rfl
      · rfl
      · exact (by have h0 : (cells3 0 n c cellsZ).size = 19 := (cells3_sz cellsZ_size); omega)
      (try simp only [Act.put])
      generalize World.setCells _ _ _ _ = w6 at KA6 KU6 B6 ⊢
      clear B5 KA5 KU5
      go_upto_region 20 with fail
      refine wp_region_lit ?_
      iterate 2 ((with_reducible refine rN (v := .bool false) ?_ ?_ ?_); (· rfl); (· go_simp; (try with_reducible rfl)); simp only [pu, sB, s0, sS])
      iterate 3 ((with_reducible refine kN ?_ ?_); (· rfl); simp only [pu, sB, s0, sS])
      iterate 2 ((with_reducible refine rN (v := .bool false) ?_ ?_ ?_); (· rfl); (· go_simp; (try with_reducible rfl)); simp only [pu, sB, s0, sS])
      go_wp2_with fail
      go_ret
      exact ⟨rfl, B6.out⟩
    | true =>
      have h4 := h4 rfl
      cases v3 with
      | false =>
        go_upto_region 13 with fail
        refine wp_region_lit ?_
        (with_reducible refine rN (v := .pointer (some ⟨pA, 1, none⟩)) ?_ ?_ ?_); (· rfl); (· go_simp; (try rfl)); simp only [pu, sB, s0, sS]
        with_reducible refine wpList_loadV (.tmp 21) (j := 1) (v := .int .i64 n) ?_ ?_ KA4.out ?_ Tryz.underlying3 ?_ ?_
        · rfl
        · rfl
        · exact (cells3_1 ..)
        · rfl
        simp only [pu, sB, s0, sS]
        iterate 2 ((with_reducible refine rN (v := .bool true) ?_ ?_ ?_); (· rfl); (· go_simp; (try with_reducible rfl)); simp only [pu, sB, s0, sS])
        (with_reducible refine rN (v := .pointer (some ⟨pA, 1, none⟩)) ?_ ?_ ?_); (· rfl); (· go_simp; (try rfl)); simp only [pu, sB, s0, sS]
        with_reducible refine wpList_loadV (.tmp 25) (j := 1) (v := .int .i64 n) ?_ ?_ KA4.out ?_ Tryz.underlying3 ?_ ?_
        · rfl
        · rfl
        · exact (cells3_1 ..)
        · rfl
        simp only [pu, sB, s0, sS]
        iterate 3 ((with_reducible refine rN (v := .bool true) ?_ ?_ ?_); (· rfl); (· go_simp; (try with_reducible rfl)); simp only [pu, sB, s0, sS])
        (with_reducible refine rN (v := .pointer (some ⟨pA, 3, none⟩)) ?_ ?_ ?_); (· rfl); (· go_simp; (try rfl)); simp only [pu, sB, s0, sS]
        with_reducible refine wpList_loadM (.tmp 30) (o := 3) (xs := (cellsF f fs)) ?_ ?_ KA4.out ?_ Tryz.underlying25 ?_ (infoTF16 (cellsF_size f fs)) ?_
        · rfl
        · rfl
        · exact cells3_part _ _ _ _
        · rfl
        simp only [pu, sB, s0, sS]
        go_wp2_with fail
        refine (HI.out _ B4.out).mono ?_
        rintro e w5 ⟨rfl, hb⟩
        have B5 := Lib.hid (B4.out.trans (hb.mono B4.out.size))
        have KA5 := Lib.hid (KA4.out.below hb KA4.out.lt)
        have KU5 := Lib.hid (KU4.out.below hb KU4.out.lt)
        clear hb
        clear B4 KA4 KU4
        go_simp
        rename_i hKK
        refine hKK _ _ ?_
        clear hKK
        try simp only [pu, sB, s0, sS]
        iterate 2 ((with_reducible refine rN (v := .bool false) ?_ ?_ ?_); (· rfl); (· go_simp; (try with_reducible rfl)); simp only [pu, sB, s0, sS])
        go_upto_region 14 with fail
        refine wp_region_lit ?_
        (with_reducible refine rN (v := .agg cellsZ) ?_ ?_ ?_); (· rfl); (· go_simp; rfl); simp only [pu, sB, s0, sS]
        (with_reducible refine rN (v := .pointer (some ⟨pU, 3, none⟩)) ?_ ?_ ?_); (· rfl); (· go_simp; (try rfl)); simp only [pu, sB, s0, sS]
        have KU6 := Lib.hid (KU5.out.stored (o := 3) (vs := cellsZ.toList) (cells3_laid (by rw [cellsZ_size, (cellsF_size f fs)])))
        have KA6 := Lib.hid (KA5.out.wholeElse (cellsZ.toList) (o := 3) NEAU.out)
        have B6 := Lib.hid (below_whole (cellsZ.toList) (o := 3) B5.out LEU.out)
        with_reducible refine wpList_storeM (.tmp 35) (.tmp 34) (o := 3) (vs := cellsZ) ?_ ?_ KU5.out ?_ (infoTF16 cellsZ_size) cellsZ_one ?_
        · rfl
        · rfl
        · exact (by have h0 : (cells3 0 n c (cellsF f fs)).size = 19 := (cells3_sz (cellsF_size f fs)); have h1 : cellsZ.size = 16 := cellsZ_size; omega)
        (try simp only [Act.put])
        generalize World.setCells _ _ _ _ = w6 at KA6 KU6 B6 ⊢
        clear B5 KA5 KU5
        go_upto_region 15 with fail
        refine wp_region_lit ?_
        iterate 2 ((with_reducible refine rN (v := .bool false) ?_ ?_ ?_); (· rfl); (· go_simp; (try with_reducible rfl)); simp only [pu, sB, s0, sS])
        iterate 3 ((with_reducible refine kN ?_ ?_); (· rfl); simp only [pu, sB, s0, sS])
        iterate 2 ((with_reducible refine rN (v := .bool false) ?_ ?_ ?_); (· rfl); (· go_simp; (try with_reducible rfl)); simp only [pu, sB, s0, sS])
        iterate 3 ((with_reducible refine kN ?_ ?_); (· rfl); simp only [pu, sB, s0, sS])
        iterate 2 ((with_reducible refine rN (v := .bool false) ?_ ?_ ?_); (· rfl); (· go_simp; (try with_reducible rfl)); simp only [pu, sB, s0, sS])
        go_upto_region 16 with fail
        refine wp_region_lit ?_
        (with_reducible refine rN (v := .pointer (some ⟨pU, 1, none⟩)) ?_ ?_ ?_); (· rfl); (· go_simp; (try rfl)); simp only [pu, sB, s0, sS]
        have KU7 := Lib.hid (KU6.out.stored (o := 1) (vs := [.int .i64 0]) (cells3_put1 _ _ _ _ _))
        have KA7 := Lib.hid (KA6.out.wholeElse ([.int .i64 0]) (o := 1) NEAU.out)
        have B7 := Lib.hid (below_whole ([.int .i64 0]) (o := 1) B6.out LEU.out)
        with_reducible refine wpList_storeV (.tmp 47) (.const (.int .i64 0)) (j := 1) (v := .int .i64 0) ?_ ?_ KU6.out ?_ (by kernel_rfl) (by simp [Value.oneCell']) ?_
        · rfl
        · rfl
        · exact (by have h0 : (cells3 0 n c cellsZ).size = 19 := (cells3_sz cellsZ_size); omega)
        (try simp only [Act.put])
        generalize World.setCells _ _ _ _ = w7 at KA7 KU7 B7 ⊢
        clear B6 KA6 KU6
        go_upto_region 20 with fail
        refine wp_region_lit ?_
        iterate 2 ((with_reducible refine rN (v := .bool false) ?_ ?_ ?_); (· rfl); (· go_simp; (try with_reducible rfl)); simp only [pu, sB, s0, sS])
        iterate 3 ((with_reducible refine kN ?_ ?_); (· rfl); simp only [pu, sB, s0, sS])
        iterate 2 ((with_reducible refine rN (v := .bool false) ?_ ?_ ?_); (· rfl); (· go_simp; (try with_reducible rfl)); simp only [pu, sB, s0, sS])
        go_wp2_with fail
        go_ret
        exact ⟨rfl, B7.out⟩
      | true =>
        go_upto_region 13 with fail
        refine wp_region_lit ?_
        (with_reducible refine rN (v := .pointer (some ⟨pA, 1, none⟩)) ?_ ?_ ?_); (· rfl); (· go_simp; (try rfl)); simp only [pu, sB, s0, sS]
        with_reducible refine wpList_loadV (.tmp 21) (j := 1) (v := .int .i64 n) ?_ ?_ KA4.out ?_ Tryz.underlying3 ?_ ?_
        · rfl
        · rfl
        · exact (cells3_1 ..)
        · rfl
        simp only [pu, sB, s0, sS]
        iterate 2 ((with_reducible refine rN (v := .bool true) ?_ ?_ ?_); (· rfl); (· go_simp; (try with_reducible rfl)); simp only [pu, sB, s0, sS])
        (with_reducible refine rN (v := .pointer (some ⟨pA, 1, none⟩)) ?_ ?_ ?_); (· rfl); (· go_simp; (try rfl)); simp only [pu, sB, s0, sS]
        with_reducible refine wpList_loadV (.tmp 25) (j := 1) (v := .int .i64 n) ?_ ?_ KA4.out ?_ Tryz.underlying3 ?_ ?_
        · rfl
        · rfl
        · exact (cells3_1 ..)
        · rfl
        simp only [pu, sB, s0, sS]
        iterate 3 ((with_reducible refine rN (v := .bool true) ?_ ?_ ?_); (· rfl); (· go_simp; (try with_reducible rfl)); simp only [pu, sB, s0, sS])
        (with_reducible refine rN (v := .pointer (some ⟨pA, 3, none⟩)) ?_ ?_ ?_); (· rfl); (· go_simp; (try rfl)); simp only [pu, sB, s0, sS]
        with_reducible refine wpList_loadM (.tmp 30) (o := 3) (xs := (cellsF f fs)) ?_ ?_ KA4.out ?_ Tryz.underlying25 ?_ (infoTF16 (cellsF_size f fs)) ?_
        · rfl
        · rfl
        · exact cells3_part _ _ _ _
        · rfl
        simp only [pu, sB, s0, sS]
        go_wp2_with fail
        refine (HI.out _ B4.out).mono ?_
        rintro e w5 ⟨rfl, hb⟩
        have B5 := Lib.hid (B4.out.trans (hb.mono B4.out.size))
        have KA5 := Lib.hid (KA4.out.below hb KA4.out.lt)
        have KU5 := Lib.hid (KU4.out.below hb KU4.out.lt)
        clear hb
        clear B4 KA4 KU4
        go_simp
        rename_i hKK
        refine hKK _ _ ?_
        clear hKK
        try simp only [pu, sB, s0, sS]
        iterate 2 ((with_reducible refine rN (v := .bool true) ?_ ?_ ?_); (· rfl); (· go_simp; (try with_reducible rfl)); simp only [pu, sB, s0, sS])
        go_upto_region 14 with fail
        refine wp_region_lit ?_
        (with_reducible refine rN (v := .agg cellsZ) ?_ ?_ ?_); (· rfl); (· go_simp; rfl); simp only [pu, sB, s0, sS]
        (with_reducible refine rN (v := .pointer (some ⟨pU, 3, none⟩)) ?_ ?_ ?_); (· rfl); (· go_simp; (try rfl)); simp only [pu, sB, s0, sS]
        have KU6 := Lib.hid (KU5.out.stored (o := 3) (vs := cellsZ.toList) (cells3_laid (by rw [cellsZ_size, (cellsF_size f fs)])))
        have KA6 := Lib.hid (KA5.out.wholeElse (cellsZ.toList) (o := 3) NEAU.out)
        have B6 := Lib.hid (below_whole (cellsZ.toList) (o := 3) B5.out LEU.out)
        with_reducible refine wpList_storeM (.tmp 35) (.tmp 34) (o := 3) (vs := cellsZ) ?_ ?_ KU5.out ?_ (infoTF16 cellsZ_size) cellsZ_one ?_
        · rfl
        · rfl
        · exact (by have h0 : (cells3 0 n c (cellsF f fs)).size = 19 := (cells3_sz (cellsF_size f fs)); have h1 : cellsZ.size = 16 := cellsZ_size; omega)
        (try simp only [Act.put])
        generalize World.setCells _ _ _ _ = w6 at KA6 KU6 B6 ⊢
        clear B5 KA5 KU5
        go_upto_region 15 with fail
        refine wp_region_lit ?_
        iterate 2 ((with_reducible refine rN (v := .bool true) ?_ ?_ ?_); (· rfl); (· go_simp; (try with_reducible rfl)); simp only [pu, sB, s0, sS])
        (with_reducible refine rN (v := .pointer (some ⟨pA, 1, none⟩)) ?_ ?_ ?_); (· rfl); (· go_simp; (try rfl)); simp only [pu, sB, s0, sS]
        with_reducible refine wpList_loadV (.tmp 38) (j := 1) (v := .int .i64 n) ?_ ?_ KA6.out ?_ Tryz.underlying3 ?_ ?_
        · rfl
        · rfl
        · exact (cells3_1 ..)
        · rfl
        simp only [pu, sB, s0, sS]
        iterate 3 ((with_reducible refine rN (v := .bool true) ?_ ?_ ?_); (· rfl); (· go_simp; (try with_reducible rfl)); simp only [pu, sB, s0, sS])
        (with_reducible refine rN (v := .pointer (some ⟨pA, 1, none⟩)) ?_ ?_ ?_); (· rfl); (· go_simp; (try rfl)); simp only [pu, sB, s0, sS]
        with_reducible refine wpList_loadV (.tmp 43) (j := 1) (v := .int .i64 n) ?_ ?_ KA6.out ?_ Tryz.underlying3 ?_ ?_
        · rfl
        · rfl
        · exact (cells3_1 ..)
        · rfl
        simp only [pu, sB, s0, sS]
        iterate 3 ((with_reducible refine rN (v := .bool true) ?_ ?_ ?_); (· rfl); (· go_simp; (try with_reducible rfl)); simp only [pu, sB, s0, sS])
        go_upto_region 16 with fail
        refine wp_region_lit ?_
        (with_reducible refine rN (v := .pointer (some ⟨pU, 1, none⟩)) ?_ ?_ ?_); (· rfl); (· go_simp; (try rfl)); simp only [pu, sB, s0, sS]
        have KU7 := Lib.hid (KU6.out.stored (o := 1) (vs := [.int .i64 0]) (cells3_put1 _ _ _ _ _))
        have KA7 := Lib.hid (KA6.out.wholeElse ([.int .i64 0]) (o := 1) NEAU.out)
        have B7 := Lib.hid (below_whole ([.int .i64 0]) (o := 1) B6.out LEU.out)
        with_reducible refine wpList_storeV (.tmp 47) (.const (.int .i64 0)) (j := 1) (v := .int .i64 0) ?_ ?_ KU6.out ?_ (by kernel_rfl) (by simp [Value.oneCell']) ?_
        · rfl
        · rfl
        · exact (by have h0 : (cells3 0 n c cellsZ).size = 19 := (cells3_sz cellsZ_size); omega)
        (try simp only [Act.put])
        generalize World.setCells _ _ _ _ = w7 at KA7 KU7 B7 ⊢
        clear B6 KA6 KU6
        have hq := HQ.out
        cases q with
        | false =>
          go_upto_region 20 with fail
          refine wp_region_lit ?_
          iterate 2 ((with_reducible refine rN (v := .bool true) ?_ ?_ ?_); (· rfl); (· go_simp; (try with_reducible rfl)); simp only [pu, sB, s0, sS])
          with_reducible refine wpList_loadS (.tmp 4) ?_ ?_ KU7.out Tryz.underlying27 ?_ (infoTM19 (cells3_sz cellsZ_size)) ?_
          · rfl
          · rfl
          · rfl
          simp only [pu, sB, s0, sS]
          (with_reducible refine rN (v := .agg (cells3 0 0 0 cellsZ)) ?_ ?_ ?_); (· rfl); (· go_simp; rfl); simp only [pu, sB, s0, sS]
          iterate 3 ((with_reducible refine rN (v := .bool false) ?_ ?_ ?_); (· rfl); (· go_simp; (try with_reducible rfl)); simp only [pu, sB, s0, sS])
          go_wp2_with fail
          go_ret
          exact ⟨rfl, B7.out⟩
        | true =>
          go_upto_region 20 with fail
          refine wp_region_lit ?_
          iterate 2 ((with_reducible refine rN (v := .bool true) ?_ ?_ ?_); (· rfl); (· go_simp; (try with_reducible rfl)); simp only [pu, sB, s0, sS])
          with_reducible refine wpList_loadS (.tmp 4) ?_ ?_ KU7.out Tryz.underlying27 ?_ (infoTM19 (cells3_sz cellsZ_size)) ?_
          · rfl
          · rfl
          · rfl
          simp only [pu, sB, s0, sS]
          (with_reducible refine rN (v := .agg (cells3 0 0 0 cellsZ)) ?_ ?_ ?_); (· rfl); (· go_simp; rfl); simp only [pu, sB, s0, sS]
          iterate 3 ((with_reducible refine rN (v := .bool true) ?_ ?_ ?_); (· rfl); (· go_simp; (try with_reducible rfl)); simp only [pu, sB, s0, sS])
          go_wp2_with fail
          go_ret
          exact ⟨rfl, B7.out⟩
end Go.Proofs.YtohgdmlpffeoiaaGreatDoor
namespace Go.Proofs.YtohgdmlpffeoiaaGreatDoor
open Go.RowKit
open Wd (Bs)

set_option maxHeartbeats 8000000 in
set_option maxRecDepth 100000 in
theorem isConst (n c : Int) (f : Fil.Flt) (fs : ByteArray) (w : World)
    (v1 v2 q : Bool) (h1 : decide (0 ≤ n) = v1) (h2 : decide (n ≤ 1000000) = v2) (HQ : Hid (∀ W : World, (Op.equalIn 10000 27 (.agg (cells3 0 0 c (cellsF f fs))) (.agg (cells3 0 0 0 cellsZ))).run Tryz.prog W = .ok q W)) :
    Calls Tryz.prog 9 #[.agg (cells3 0 n c (cellsF f fs))] w fun e w' => e = .returned (.bool ((v1 && v2) && q)) ∧ Below w.heap.size w w' := by

  have B0 := Lib.hid (Below.refl w.heap.size w)
  go_enter Tryz.func9, Tryz.ntmps9
  go_upto_region 0 with fail
  refine wp_region_lit ?_
  obtain ⟨w1, hw⟩ : ∃ v, v = w.alloc (.cells (cells3 0 n c (cellsF f fs)) 27) := ⟨_, rfl⟩
  obtain ⟨pA, hp⟩ : ∃ v, v = w.heap.size := ⟨_, rfl⟩
  have B1 : Hid (Below w.heap.size w w1) := Lib.hid (by rw [hw]; exact B0.out.alloc B0.out.size _)
  have LEA : Hid (w.heap.size ≤ pA) := Lib.hid (by rw [hp]; exact B0.out.size)
  have KA1 : Hid (Blk w1 pA (cells3 0 n c (cellsF f fs)) 27) := Lib.hid (by rw [hw, hp]; exact Blk.new _ _ _)
  with_reducible refine wpList_runWV (some 1) (v := .pointer (some ⟨pA, 0, none⟩)) (w' := w1) ?_ ?_ ?_ ?_
  · rfl
  · rfl
  · rw [hw, hp]; (go_simp; (try rfl))
  simp only [pu, sB, s0, sS]
  clear hw hp
  clear B0
  (with_reducible refine rN (v := .bool false) ?_ ?_ ?_); (· rfl); (· go_simp; (try with_reducible rfl)); simp only [pu, sB, s0, sS]
  go_upto_region 1 with fail
  refine wp_region_lit ?_
  (with_reducible refine rN (v := .bool true) ?_ ?_ ?_); (· rfl); (· go_simp; (try with_reducible rfl)); simp only [pu, sB, s0, sS]
  go_upto_region 2 with fail
  refine wp_region_lit ?_
  with_reducible refine wpList_loadS (.tmp 1) ?_ ?_ KA1.out Tryz.underlying27 ?_ (infoTM19 (cells3_sz (cellsF_size f fs))) ?_
  · rfl
  · rfl
  · rfl
  simp only [pu, sB, s0, sS]
  obtain ⟨w2, hw⟩ : ∃ v, v = w1.alloc (.cells (cells3 0 0 0 cellsZ) 27) := ⟨_, rfl⟩
  obtain ⟨pU, hp⟩ : ∃ v, v = w1.heap.size := ⟨_, rfl⟩
  have B2 : Hid (Below w.heap.size w w2) := Lib.hid (by rw [hw]; exact B1.out.alloc B1.out.size _)
  have LEU : Hid (w.heap.size ≤ pU) := Lib.hid (by rw [hp]; exact B1.out.size)
  have KA2 := Lib.hid (show Blk w2 pA (cells3 0 n c (cellsF f fs)) 27 by rw [hw]; exact KA1.out.alloc _)
  have NEAU : Hid (pA ≠ pU) := Lib.hid (by rw [hp]; exact Nat.ne_of_lt KA1.out.lt)
  have NEUA : Hid (pU ≠ pA) := Lib.hid (Ne.symm NEAU.out)
  have KU2 : Hid (Blk w2 pU (cells3 0 0 0 cellsZ) 27) := Lib.hid (by rw [hw, hp]; exact Blk.new _ _ _)
  with_reducible refine wpList_runWV (some 4) (v := .pointer (some ⟨pU, 0, none⟩)) (w' := w2) ?_ ?_ ?_ ?_
  · rfl
  · rfl
  · rw [hw, hp]; (go_simp; (try rfl))
  simp only [pu, sB, s0, sS]
  clear hw hp
  clear B1 KA1
  have KU3 := Lib.hid (KU2.out.stored (o := 0) (vs := (cells3 0 n c (cellsF f fs)).toList) (laidAt_whole (Eq.trans (cells3_sz (cellsF_size f fs)) (Eq.symm (cells3_sz cellsZ_size)))))
  have KA3 := Lib.hid (KA2.out.wholeElse ((cells3 0 n c (cellsF f fs)).toList) (o := 0) NEAU.out)
  have B3 := Lib.hid (below_whole ((cells3 0 n c (cellsF f fs)).toList) (o := 0) B2.out LEU.out)
  with_reducible refine wpList_storeM (.tmp 4) (.tmp 5) (o := 0) (vs := (cells3 0 n c (cellsF f fs))) ?_ ?_ KU2.out ?_ (infoTM19 (cells3_sz (cellsF_size f fs))) (cells3_one (cellsF_one f fs)) ?_
  · rfl
  · rfl
  · exact (by have h0 : (cells3 0 0 0 cellsZ).size = 19 := (cells3_sz cellsZ_size); have h1 : (cells3 0 n c (cellsF f fs)).size = 19 := (cells3_sz (cellsF_size f fs)); omega)
  (try simp only [Act.put])
  generalize World.setCells _ _ _ _ = w3 at KA3 KU3 B3 ⊢
  clear B2 KA2 KU2
  go_upto_region 3 with fail
  refine wp_region_lit ?_
  (with_reducible refine rN (v := .pointer (some ⟨pU, 0, none⟩)) ?_ ?_ ?_); (· rfl); (· go_simp; (try rfl)); simp only [pu, sB, s0, sS]
  have KU4 := Lib.hid (KU3.out.stored (o := 0) (vs := [.int .i64 0]) (cells3_put0 _ _ _ _ _))
  have KA4 := Lib.hid (KA3.out.wholeElse ([.int .i64 0]) (o := 0) NEAU.out)
  have B4 := Lib.hid (below_whole ([.int .i64 0]) (o := 0) B3.out LEU.out)
  with_reducible refine wpList_storeV (.tmp 6) (.const (.int .i64 0)) (j := 0) (v := .int .i64 0) ?_ ?_ KU3.out ?_ (by kernel_rfl) (by simp [Value.oneCell']) ?_
  · rfl
  · rfl
  · exact (by have h0 : (cells3 0 n c (cellsF f fs)).size = 19 := (cells3_sz (cellsF_size f fs)); omega)
  (try simp only [Act.put])
  generalize World.setCells _ _ _ _ = w4 at KA4 KU4 B4 ⊢
  clear B3 KA3 KU3
  go_upto_region 4 with fail
  refine wp_region_lit ?_
  (with_reducible refine rN (v := .pointer (some ⟨pA, 0, none⟩)) ?_ ?_ ?_); (· rfl); (· go_simp; (try rfl)); simp only [pu, sB, s0, sS]
  with_reducible refine wpList_loadV (.tmp 7) (j := 0) (v := .int .i64 0) ?_ ?_ KA4.out ?_ Tryz.underlying3 ?_ ?_
  · rfl
  · rfl
  · exact (cells3_0 ..)
  · rfl
  simp only [pu, sB, s0, sS]
  go_upto_region 5 with fail
  refine wp_region_lit ?_
  iterate 2 ((with_reducible refine rN (v := .bool false) ?_ ?_ ?_); (· rfl); (· go_simp; (try with_reducible rfl)); simp only [pu, sB, s0, sS])
  go_upto_region 6 with fail
  refine wp_region_lit ?_
  iterate 2 ((with_reducible refine rN (v := .bool true) ?_ ?_ ?_); (· rfl); (· go_simp; (try with_reducible rfl)); simp only [pu, sB, s0, sS])
  cases v1 with
  | false =>
    go_upto_region 15 with fail
    refine wp_region_lit ?_
    iterate 2 ((with_reducible refine rN (v := .bool true) ?_ ?_ ?_); (· rfl); (· go_simp; (try with_reducible rfl)); simp only [pu, sB, s0, sS])
    (with_reducible refine rN (v := .pointer (some ⟨pA, 1, none⟩)) ?_ ?_ ?_); (· rfl); (· go_simp; (try rfl)); simp only [pu, sB, s0, sS]
    with_reducible refine wpList_loadV (.tmp 38) (j := 1) (v := .int .i64 n) ?_ ?_ KA4.out ?_ Tryz.underlying3 ?_ ?_
    · rfl
    · rfl
    · exact (cells3_1 ..)
    · rfl
    simp only [pu, sB, s0, sS]
    iterate 3 ((with_reducible refine rN (v := .bool false) ?_ ?_ ?_); (· rfl); (· go_simp; (try with_reducible rfl)); simp only [pu, sB, s0, sS])
    iterate 3 ((with_reducible refine kN ?_ ?_); (· rfl); simp only [pu, sB, s0, sS])
    iterate 2 ((with_reducible refine rN (v := .bool false) ?_ ?_ ?_); (· rfl); (· go_simp; (try with_reducible rfl)); simp only [pu, sB, s0, sS])
    go_upto_region 16 with fail
    refine wp_region_lit ?_
    (with_reducible refine rN (v := .pointer (some ⟨pU, 1, none⟩)) ?_ ?_ ?_); (· rfl); (· go_simp; (try rfl)); simp only [pu, sB, s0, sS]
    have KU5 := Lib.hid (KU4.out.stored (o := 1) (vs := [.int .i64 0]) (cells3_put1 _ _ _ _ _))
    have KA5 := Lib.hid (KA4.out.wholeElse ([.int .i64 0]) (o := 1) NEAU.out)
    have B5 := Lib.hid (below_whole ([.int .i64 0]) (o := 1) B4.out LEU.out)
    with_reducible refine wpList_storeV (.tmp 47) (.const (.int .i64 0)) (j := 1) (v := .int .i64 0) ?_ ?_ KU4.out ?_ (by kernel_rfl) (by simp [Value.oneCell']) ?_
    · rfl
    · rfl
    · exact (by have h0 : (cells3 0 n c (cellsF f fs)).size = 19 := (cells3_sz (cellsF_size f fs)); omega)
    (try simp only [Act.put])
    generalize World.setCells _ _ _ _ = w5 at KA5 KU5 B5 ⊢
    clear B4 KA4 KU4
    go_upto_region 20 with fail
    refine wp_region_lit ?_
    iterate 2 ((with_reducible refine rN (v := .bool false) ?_ ?_ ?_); (· rfl); (· go_simp; (try with_reducible rfl)); simp only [pu, sB, s0, sS])
    iterate 3 ((with_reducible refine kN ?_ ?_); (· rfl); simp only [pu, sB, s0, sS])
    iterate 2 ((with_reducible refine rN (v := .bool false) ?_ ?_ ?_); (· rfl); (· go_simp; (try with_reducible rfl)); simp only [pu, sB, s0, sS])
    go_wp2_with fail
    go_ret
    exact ⟨rfl, B5.out⟩
  | true =>
    cases v2 with
    | false =>
      go_upto_region 15 with fail
      refine wp_region_lit ?_
      iterate 2 ((with_reducible refine rN (v := .bool true) ?_ ?_ ?_); (· rfl); (· go_simp; (try with_reducible rfl)); simp only [pu, sB, s0, sS])
      (with_reducible refine rN (v := .pointer (some ⟨pA, 1, none⟩)) ?_ ?_ ?_); (· rfl); (· go_simp; (try rfl)); simp only [pu, sB, s0, sS]
      with_reducible refine wpList_loadV (.tmp 38) (j := 1) (v := .int .i64 n) ?_ ?_ KA4.out ?_ Tryz.underlying3 ?_ ?_
      · rfl
      · rfl
      · exact (cells3_1 ..)
      · rfl
      simp only [pu, sB, s0, sS]
      iterate 3 ((with_reducible refine rN (v := .bool true) ?_ ?_ ?_); (· rfl); (· go_simp; (try with_reducible rfl)); simp only [pu, sB, s0, sS])
      (with_reducible refine rN (v := .pointer (some ⟨pA, 1, none⟩)) ?_ ?_ ?_); (· rfl); (· go_simp; (try rfl)); simp only [pu, sB, s0, sS]
      with_reducible refine wpList_loadV (.tmp 43) (j := 1) (v := .int .i64 n) ?_ ?_ KA4.out ?_ Tryz.underlying3 ?_ ?_
      · rfl
      · rfl
      · exact (cells3_1 ..)
      · rfl
      simp only [pu, sB, s0, sS]
      iterate 3 ((with_reducible refine rN (v := .bool false) ?_ ?_ ?_); (· rfl); (· go_simp; (try with_reducible rfl)); simp only [pu, sB, s0, sS])
      go_upto_region 16 with fail
      refine wp_region_lit ?_
      (with_reducible refine rN (v := .pointer (some ⟨pU, 1, none⟩)) ?_ ?_ ?_); (· rfl); (· go_simp; (try rfl)); simp only [pu, sB, s0, sS]
      have KU5 := Lib.hid (KU4.out.stored (o := 1) (vs := [.int .i64 0]) (cells3_put1 _ _ _ _ _))
      have KA5 := Lib.hid (KA4.out.wholeElse ([.int .i64 0]) (o := 1) NEAU.out)
      have B5 := Lib.hid (below_whole ([.int .i64 0]) (o := 1) B4.out LEU.out)
      with_reducible refine wpList_storeV (.tmp 47) (.const (.int .i64 0)) (j := 1) (v := .int .i64 0) ?_ ?_ KU4.out ?_ (by kernel_rfl) (by simp [Value.oneCell']) ?_
      · rfl
      · rfl
      · exact (by have h0 : (cells3 0 n c (cellsF f fs)).size = 19 := (cells3_sz (cellsF_size f fs)); omega)
      (try simp only [Act.put])
      generalize World.setCells _ _ _ _ = w5 at KA5 KU5 B5 ⊢
      clear B4 KA4 KU4
      go_upto_region 20 with fail
      refine wp_region_lit ?_
      iterate 2 ((with_reducible refine rN (v := .bool false) ?_ ?_ ?_); (· rfl); (· go_simp; (try with_reducible rfl)); simp only [pu, sB, s0, sS])
      iterate 3 ((with_reducible refine kN ?_ ?_); (· rfl); simp only [pu, sB, s0, sS])
      iterate 2 ((with_reducible refine rN (v := .bool false) ?_ ?_ ?_); (· rfl); (· go_simp; (try with_reducible rfl)); simp only [pu, sB, s0, sS])
      go_wp2_with fail
      go_ret
      exact ⟨rfl, B5.out⟩
    | true =>
      go_upto_region 15 with fail
      refine wp_region_lit ?_
      iterate 2 ((with_reducible refine rN (v := .bool true) ?_ ?_ ?_); (· rfl); (· go_simp; (try with_reducible rfl)); simp only [pu, sB, s0, sS])
      (with_reducible refine rN (v := .pointer (some ⟨pA, 1, none⟩)) ?_ ?_ ?_); (· rfl); (· go_simp; (try rfl)); simp only [pu, sB, s0, sS]
      with_reducible refine wpList_loadV (.tmp 38) (j := 1) (v := .int .i64 n) ?_ ?_ KA4.out ?_ Tryz.underlying3 ?_ ?_
      · rfl
      · rfl
      · exact (cells3_1 ..)
      · rfl
      simp only [pu, sB, s0, sS]
      iterate 3 ((with_reducible refine rN (v := .bool true) ?_ ?_ ?_); (· rfl); (· go_simp; (try with_reducible rfl)); simp only [pu, sB, s0, sS])
      (with_reducible refine rN (v := .pointer (some ⟨pA, 1, none⟩)) ?_ ?_ ?_); (· rfl); (· go_simp; (try rfl)); simp only [pu, sB, s0, sS]
      with_reducible refine wpList_loadV (.tmp 43) (j := 1) (v := .int .i64 n) ?_ ?_ KA4.out ?_ Tryz.underlying3 ?_ ?_
      · rfl
      · rfl
      · exact (cells3_1 ..)
      · rfl
      simp only [pu, sB, s0, sS]
      iterate 3 ((with_reducible refine rN (v := .bool true) ?_ ?_ ?_); (· rfl); (· go_simp; (try with_reducible rfl)); simp only [pu, sB, s0, sS])
      go_upto_region 16 with fail
      refine wp_region_lit ?_
      (with_reducible refine rN (v := .pointer (some ⟨pU, 1, none⟩)) ?_ ?_ ?_); (· rfl); (· go_simp; (try rfl)); simp only [pu, sB, s0, sS]
      have KU5 := Lib.hid (KU4.out.stored (o := 1) (vs := [.int .i64 0]) (cells3_put1 _ _ _ _ _))
      have KA5 := Lib.hid (KA4.out.wholeElse ([.int .i64 0]) (o := 1) NEAU.out)
      have B5 := Lib.hid (below_whole ([.int .i64 0]) (o := 1) B4.out LEU.out)
      with_reducible refine wpList_storeV (.tmp 47) (.const (.int .i64 0)) (j := 1) (v := .int .i64 0) ?_ ?_ KU4.out ?_ (by kernel_rfl) (by simp [Value.oneCell']) ?_
      · rfl
      · rfl
      · exact (by have h0 : (cells3 0 n c (cellsF f fs)).size = 19 := (cells3_sz (cellsF_size f fs)); omega)
      (try simp only [Act.put])
      generalize World.setCells _ _ _ _ = w5 at KA5 KU5 B5 ⊢
      clear B4 KA4 KU4
      have hq := HQ.out
      cases q with
      | false =>
        go_upto_region 20 with fail
        refine wp_region_lit ?_
        iterate 2 ((with_reducible refine rN (v := .bool true) ?_ ?_ ?_); (· rfl); (· go_simp; (try with_reducible rfl)); simp only [pu, sB, s0, sS])
        with_reducible refine wpList_loadS (.tmp 4) ?_ ?_ KU5.out Tryz.underlying27 ?_ (infoTM19 (cells3_sz (cellsF_size f fs))) ?_
        · rfl
        · rfl
        · rfl
        simp only [pu, sB, s0, sS]
        (with_reducible refine rN (v := .agg (cells3 0 0 0 cellsZ)) ?_ ?_ ?_); (· rfl); (· go_simp; rfl); simp only [pu, sB, s0, sS]
        iterate 3 ((with_reducible refine rN (v := .bool false) ?_ ?_ ?_); (· rfl); (· go_simp; (try with_reducible rfl)); simp only [pu, sB, s0, sS])
        go_wp2_with fail
        go_ret
        exact ⟨rfl, B5.out⟩
      | true =>
        go_upto_region 20 with fail
        refine wp_region_lit ?_
        iterate 2 ((with_reducible refine rN (v := .bool true) ?_ ?_ ?_); (· rfl); (· go_simp; (try with_reducible rfl)); simp only [pu, sB, s0, sS])
        with_reducible refine wpList_loadS (.tmp 4) ?_ ?_ KU5.out Tryz.underlying27 ?_ (infoTM19 (cells3_sz (cellsF_size f fs))) ?_
        · rfl
        · rfl
        · rfl
        simp only [pu, sB, s0, sS]
        (with_reducible refine rN (v := .agg (cells3 0 0 0 cellsZ)) ?_ ?_ ?_); (· rfl); (· go_simp; rfl); simp only [pu, sB, s0, sS]
        iterate 3 ((with_reducible refine rN (v := .bool true) ?_ ?_ ?_); (· rfl); (· go_simp; (try with_reducible rfl)); simp only [pu, sB, s0, sS])
        go_wp2_with fail
        go_ret
        exact ⟨rfl, B5.out⟩

set_option maxHeartbeats 8000000 in
set_option maxRecDepth 100000 in
theorem isCtr (n c : Int) (tx : ByteArray) (f : Fil.Flt) (fs : ByteArray) (w : World)
    (v q : Bool) (hv : tx.toList.isEmpty = !v)
    (HN : Hid (∀ W, Below w.heap.size w W → Calls Tryz.prog 16 #[.int .i64 c] W fun e w' => e = .returned (.string tx) ∧ Below W.heap.size W w')) (HQ : Hid (∀ W : World, (Op.equalIn 10000 27 (.agg (cells3 0 n 0 (cellsF f fs))) (.agg (cells3 0 0 0 cellsZ))).run Tryz.prog W = .ok q W)) :
    Calls Tryz.prog 9 #[.agg (cells3 4 n c (cellsF f fs))] w fun e w' => e = .returned (.bool (v && q)) ∧ Below w.heap.size w w' := by

  have B0 := Lib.hid (Below.refl w.heap.size w)
  go_enter Tryz.func9, Tryz.ntmps9
  go_upto_region 0 with fail
  refine wp_region_lit ?_
  obtain ⟨w1, hw⟩ : ∃ v, v = w.alloc (.cells (cells3 4 n c (cellsF f fs)) 27) := ⟨_, rfl⟩
  obtain ⟨pA, hp⟩ : ∃ v, v = w.heap.size := ⟨_, rfl⟩
  have B1 : Hid (Below w.heap.size w w1) := Lib.hid (by rw [hw]; exact B0.out.alloc B0.out.size _)
  have LEA : Hid (w.heap.size ≤ pA) := Lib.hid (by rw [hp]; exact B0.out.size)
  have KA1 : Hid (Blk w1 pA (cells3 4 n c (cellsF f fs)) 27) := Lib.hid (by rw [hw, hp]; exact Blk.new _ _ _)
  with_reducible refine wpList_runWV (some 1) (v := .pointer (some ⟨pA, 0, none⟩)) (w' := w1) ?_ ?_ ?_ ?_
  · rfl
  · rfl
  · rw [hw, hp]; (go_simp; (try rfl))
  simp only [pu, sB, s0, sS]
  clear hw hp
  clear B0
  (with_reducible refine rN (v := .bool false) ?_ ?_ ?_); (· rfl); (· go_simp; (try with_reducible rfl)); simp only [pu, sB, s0, sS]
  go_upto_region 1 with fail
  refine wp_region_lit ?_
  (with_reducible refine rN (v := .bool true) ?_ ?_ ?_); (· rfl); (· go_simp; (try with_reducible rfl)); simp only [pu, sB, s0, sS]
  go_upto_region 2 with fail
  refine wp_region_lit ?_
  with_reducible refine wpList_loadS (.tmp 1) ?_ ?_ KA1.out Tryz.underlying27 ?_ (infoTM19 (cells3_sz (cellsF_size f fs))) ?_
  · rfl
  · rfl
  · rfl
  simp only [pu, sB, s0, sS]
  obtain ⟨w2, hw⟩ : ∃ v, v = w1.alloc (.cells (cells3 0 0 0 cellsZ) 27) := ⟨_, rfl⟩
  obtain ⟨pU, hp⟩ : ∃ v, v = w1.heap.size := ⟨_, rfl⟩
  have B2 : Hid (Below w.heap.size w w2) := Lib.hid (by rw [hw]; exact B1.out.alloc B1.out.size _)
  have LEU : Hid (w.heap.size ≤ pU) := Lib.hid (by rw [hp]; exact B1.out.size)
  have KA2 := Lib.hid (show Blk w2 pA (cells3 4 n c (cellsF f fs)) 27 by rw [hw]; exact KA1.out.alloc _)
  have NEAU : Hid (pA ≠ pU) := Lib.hid (by rw [hp]; exact Nat.ne_of_lt KA1.out.lt)
  have NEUA : Hid (pU ≠ pA) := Lib.hid (Ne.symm NEAU.out)
  have KU2 : Hid (Blk w2 pU (cells3 0 0 0 cellsZ) 27) := Lib.hid (by rw [hw, hp]; exact Blk.new _ _ _)
  with_reducible refine wpList_runWV (some 4) (v := .pointer (some ⟨pU, 0, none⟩)) (w' := w2) ?_ ?_ ?_ ?_
  · rfl
  · rfl
  · rw [hw, hp]; (go_simp; (try rfl))
  simp only [pu, sB, s0, sS]
  clear hw hp
  clear B1 KA1
  have KU3 := Lib.hid (KU2.out.stored (o := 0) (vs := (cells3 4 n c (cellsF f fs)).toList) (laidAt_whole (Eq.trans (cells3_sz (cellsF_size f fs)) (Eq.symm (cells3_sz cellsZ_size)))))
  have KA3 := Lib.hid (KA2.out.wholeElse ((cells3 4 n c (cellsF f fs)).toList) (o := 0) NEAU.out)
  have B3 := Lib.hid (below_whole ((cells3 4 n c (cellsF f fs)).toList) (o := 0) B2.out LEU.out)
  with_reducible refine wpList_storeM (.tmp 4) (.tmp 5) (o := 0) (vs := (cells3 4 n c (cellsF f fs))) ?_ ?_ KU2.out ?_ (infoTM19 (cells3_sz (cellsF_size f fs))) (cells3_one (cellsF_one f fs)) ?_
  · rfl
  · rfl
  · exact (by have h0 : (cells3 0 0 0 cellsZ).size = 19 := (cells3_sz cellsZ_size); have h1 : (cells3 4 n c (cellsF f fs)).size = 19 := (cells3_sz (cellsF_size f fs)); omega)
  (try simp only [Act.put])
  generalize World.setCells _ _ _ _ = w3 at KA3 KU3 B3 ⊢
  clear B2 KA2 KU2
  go_upto_region 3 with fail
  refine wp_region_lit ?_
  (with_reducible refine rN (v := .pointer (some ⟨pU, 0, none⟩)) ?_ ?_ ?_); (· rfl); (· go_simp; (try rfl)); simp only [pu, sB, s0, sS]
  have KU4 := Lib.hid (KU3.out.stored (o := 0) (vs := [.int .i64 0]) (cells3_put0 _ _ _ _ _))
  have KA4 := Lib.hid (KA3.out.wholeElse ([.int .i64 0]) (o := 0) NEAU.out)
  have B4 := Lib.hid (below_whole ([.int .i64 0]) (o := 0) B3.out LEU.out)
  with_reducible refine wpList_storeV (.tmp 6) (.const (.int .i64 0)) (j := 0) (v := .int .i64 0) ?_ ?_ KU3.out ?_ (by kernel_rfl) (by simp [Value.oneCell']) ?_
  · rfl
  · rfl
  · exact (by have h0 : (cells3 4 n c (cellsF f fs)).size = 19 := (cells3_sz (cellsF_size f fs)); omega)
  (try simp only [Act.put])
  generalize World.setCells _ _ _ _ = w4 at KA4 KU4 B4 ⊢
  clear B3 KA3 KU3
  go_upto_region 4 with fail
  refine wp_region_lit ?_
  (with_reducible refine rN (v := .pointer (some ⟨pA, 0, none⟩)) ?_ ?_ ?_); (· rfl); (· go_simp; (try rfl)); simp only [pu, sB, s0, sS]
  with_reducible refine wpList_loadV (.tmp 7) (j := 0) (v := .int .i64 4) ?_ ?_ KA4.out ?_ Tryz.underlying3 ?_ ?_
  · rfl
  · rfl
  · exact (cells3_0 ..)
  · rfl
  simp only [pu, sB, s0, sS]
  go_upto_region 5 with fail
  refine wp_region_lit ?_
  iterate 2 ((with_reducible refine rN (v := .bool false) ?_ ?_ ?_); (· rfl); (· go_simp; (try with_reducible rfl)); simp only [pu, sB, s0, sS])
  go_upto_region 6 with fail
  refine wp_region_lit ?_
  iterate 2 ((with_reducible refine rN (v := .bool false) ?_ ?_ ?_); (· rfl); (· go_simp; (try with_reducible rfl)); simp only [pu, sB, s0, sS])
  go_upto_region 7 with fail
  refine wp_region_lit ?_
  iterate 2 ((with_reducible refine rN (v := .bool true) ?_ ?_ ?_); (· rfl); (· go_simp; (try with_reducible rfl)); simp only [pu, sB, s0, sS])
  cases v with
  | false =>
    go_upto_region 17 with fail
    refine wp_region_lit ?_
    (with_reducible refine rN (v := .pointer (some ⟨pA, 2, none⟩)) ?_ ?_ ?_); (· rfl); (· go_simp; (try rfl)); simp only [pu, sB, s0, sS]
    with_reducible refine wpList_loadV (.tmp 48) (j := 2) (v := .int .i64 c) ?_ ?_ KA4.out ?_ Tryz.underlying3 ?_ ?_
    · rfl
    · rfl
    · exact (cells3_2 ..)
    · rfl
    simp only [pu, sB, s0, sS]
    go_wp2_with fail
    refine (HN.out _ B4.out).mono ?_
    rintro e w5 ⟨rfl, hb⟩
    have B5 := Lib.hid (B4.out.trans (hb.mono B4.out.size))
    have KA5 := Lib.hid (KA4.out.below hb KA4.out.lt)
    have KU5 := Lib.hid (KU4.out.below hb KU4.out.lt)
    clear hb
    clear B4 KA4 KU4
    go_simp
    rename_i hKK
    refine hKK _ _ ?_
    clear hKK
    try simp only [pu, sB, s0, sS]
    iterate 2 ((with_reducible refine rN (v := .bool false) ?_ ?_ ?_); (· rfl); (· go_simp; (try with_reducible rfl)); simp only [pu, sB, s0, sS])
    go_upto_region 18 with fail
    refine wp_region_lit ?_
    (with_reducible refine rN (v := .pointer (some ⟨pU, 2, none⟩)) ?_ ?_ ?_); (· rfl); (· go_simp; (try rfl)); simp only [pu, sB, s0, sS]
    have KU6 := Lib.hid (KU5.out.stored (o := 2) (vs := [.int .i64 0]) (cells3_put2 _ _ _ _ _))
    have KA6 := Lib.hid (KA5.out.wholeElse ([.int .i64 0]) (o := 2) NEAU.out)
    have B6 := Lib.hid (below_whole ([.int .i64 0]) (o := 2) B5.out LEU.out)
    with_reducible refine wpList_storeV (.tmp 52) (.const (.int .i64 0)) (j := 2) (v := .int .i64 0) ?_ ?_ KU5.out ?_ (by kernel_rfl) (by simp [Value.oneCell']) ?_
    · rfl
    · rfl
    · exact (by have h0 : (cells3 0 n c (cellsF f fs)).size = 19 := (cells3_sz (cellsF_size f fs)); omega)
    (try simp only [Act.put])
    generalize World.setCells _ _ _ _ = w6 at KA6 KU6 B6 ⊢
    clear B5 KA5 KU5
    go_upto_region 20 with fail
    refine wp_region_lit ?_
    iterate 2 ((with_reducible refine rN (v := .bool false) ?_ ?_ ?_); (· rfl); (· go_simp; (try with_reducible rfl)); simp only [pu, sB, s0, sS])
    iterate 3 ((with_reducible refine kN ?_ ?_); (· rfl); simp only [pu, sB, s0, sS])
    iterate 2 ((with_reducible refine rN (v := .bool false) ?_ ?_ ?_); (· rfl); (· go_simp; (try with_reducible rfl)); simp only [pu, sB, s0, sS])
    go_wp2_with fail
    go_ret
    exact ⟨rfl, B6.out⟩
  | true =>
    go_upto_region 17 with fail
    refine wp_region_lit ?_
    (with_reducible refine rN (v := .pointer (some ⟨pA, 2, none⟩)) ?_ ?_ ?_); (· rfl); (· go_simp; (try rfl)); simp only [pu, sB, s0, sS]
    with_reducible refine wpList_loadV (.tmp 48) (j := 2) (v := .int .i64 c) ?_ ?_ KA4.out ?_ Tryz.underlying3 ?_ ?_
    · rfl
    · rfl
    · exact (cells3_2 ..)
    · rfl
    simp only [pu, sB, s0, sS]
    go_wp2_with fail
    refine (HN.out _ B4.out).mono ?_
    rintro e w5 ⟨rfl, hb⟩
    have B5 := Lib.hid (B4.out.trans (hb.mono B4.out.size))
    have KA5 := Lib.hid (KA4.out.below hb KA4.out.lt)
    have KU5 := Lib.hid (KU4.out.below hb KU4.out.lt)
    clear hb
    clear B4 KA4 KU4
    go_simp
    rename_i hKK
    refine hKK _ _ ?_
    clear hKK
    try simp only [pu, sB, s0, sS]
    iterate 2 ((with_reducible refine rN (v := .bool true) ?_ ?_ ?_); (· rfl); (· go_simp; (try with_reducible rfl)); simp only [pu, sB, s0, sS])
    go_upto_region 18 with fail
    refine wp_region_lit ?_
    (with_reducible refine rN (v := .pointer (some ⟨pU, 2, none⟩)) ?_ ?_ ?_); (· rfl); (· go_simp; (try rfl)); simp only [pu, sB, s0, sS]
    have KU6 := Lib.hid (KU5.out.stored (o := 2) (vs := [.int .i64 0]) (cells3_put2 _ _ _ _ _))
    have KA6 := Lib.hid (KA5.out.wholeElse ([.int .i64 0]) (o := 2) NEAU.out)
    have B6 := Lib.hid (below_whole ([.int .i64 0]) (o := 2) B5.out LEU.out)
    with_reducible refine wpList_storeV (.tmp 52) (.const (.int .i64 0)) (j := 2) (v := .int .i64 0) ?_ ?_ KU5.out ?_ (by kernel_rfl) (by simp [Value.oneCell']) ?_
    · rfl
    · rfl
    · exact (by have h0 : (cells3 0 n c (cellsF f fs)).size = 19 := (cells3_sz (cellsF_size f fs)); omega)
    (try simp only [Act.put])
    generalize World.setCells _ _ _ _ = w6 at KA6 KU6 B6 ⊢
    clear B5 KA5 KU5
    have hq := HQ.out
    cases q with
    | false =>
      go_upto_region 20 with fail
      refine wp_region_lit ?_
      iterate 2 ((with_reducible refine rN (v := .bool true) ?_ ?_ ?_); (· rfl); (· go_simp; (try with_reducible rfl)); simp only [pu, sB, s0, sS])
      with_reducible refine wpList_loadS (.tmp 4) ?_ ?_ KU6.out Tryz.underlying27 ?_ (infoTM19 (cells3_sz (cellsF_size f fs))) ?_
      · rfl
      · rfl
      · rfl
      simp only [pu, sB, s0, sS]
      (with_reducible refine rN (v := .agg (cells3 0 0 0 cellsZ)) ?_ ?_ ?_); (· rfl); (· go_simp; rfl); simp only [pu, sB, s0, sS]
      iterate 3 ((with_reducible refine rN (v := .bool false) ?_ ?_ ?_); (· rfl); (· go_simp; (try with_reducible rfl)); simp only [pu, sB, s0, sS])
      go_wp2_with fail
      go_ret
      exact ⟨rfl, B6.out⟩
    | true =>
      go_upto_region 20 with fail
      refine wp_region_lit ?_
      iterate 2 ((with_reducible refine rN (v := .bool true) ?_ ?_ ?_); (· rfl); (· go_simp; (try with_reducible rfl)); simp only [pu, sB, s0, sS])
      with_reducible refine wpList_loadS (.tmp 4) ?_ ?_ KU6.out Tryz.underlying27 ?_ (infoTM19 (cells3_sz (cellsF_size f fs))) ?_
      · rfl
      · rfl
      · rfl
      simp only [pu, sB, s0, sS]
      (with_reducible refine rN (v := .agg (cells3 0 0 0 cellsZ)) ?_ ?_ ?_); (· rfl); (· go_simp; rfl); simp only [pu, sB, s0, sS]
      iterate 3 ((with_reducible refine rN (v := .bool true) ?_ ?_ ?_); (· rfl); (· go_simp; (try with_reducible rfl)); simp only [pu, sB, s0, sS])
      go_wp2_with fail
      go_ret
      exact ⟨rfl, B6.out⟩
end Go.Proofs.YtohgdmlpffeoiaaGreatDoor
namespace Go.Proofs.YtohgdmlpffeoiaaGreatDoor
open Go.RowKit
open Wd (Bs)

set_option maxHeartbeats 8000000 in
set_option maxRecDepth 100000 in
theorem isWord1 (n c : Int) (f : Fil.Flt) (fs : ByteArray) (w : World)
    (q : Bool) (HQ : Hid (∀ W : World, (Op.equalIn 10000 27 (.agg (cells3 0 n c (cellsF f fs))) (.agg (cells3 0 0 0 cellsZ))).run Tryz.prog W = .ok q W)) :
    Calls Tryz.prog 9 #[.agg (cells3 1 n c (cellsF f fs))] w fun e w' => e = .returned (.bool q) ∧ Below w.heap.size w w' := by

  have B0 := Lib.hid (Below.refl w.heap.size w)
  go_enter Tryz.func9, Tryz.ntmps9
  go_upto_region 0 with fail
  refine wp_region_lit ?_
  obtain ⟨w1, hw⟩ : ∃ v, v = w.alloc (.cells (cells3 1 n c (cellsF f fs)) 27) := ⟨_, rfl⟩
  obtain ⟨pA, hp⟩ : ∃ v, v = w.heap.size := ⟨_, rfl⟩
  have B1 : Hid (Below w.heap.size w w1) := Lib.hid (by rw [hw]; exact B0.out.alloc B0.out.size _)
  have LEA : Hid (w.heap.size ≤ pA) := Lib.hid (by rw [hp]; exact B0.out.size)
  have KA1 : Hid (Blk w1 pA (cells3 1 n c (cellsF f fs)) 27) := Lib.hid (by rw [hw, hp]; exact Blk.new _ _ _)
  with_reducible refine wpList_runWV (some 1) (v := .pointer (some ⟨pA, 0, none⟩)) (w' := w1) ?_ ?_ ?_ ?_
  · rfl
  · rfl
  · rw [hw, hp]; (go_simp; (try rfl))
  simp only [pu, sB, s0, sS]
  clear hw hp
  clear B0
  (with_reducible refine rN (v := .bool false) ?_ ?_ ?_); (· rfl); (· go_simp; (try with_reducible rfl)); simp only [pu, sB, s0, sS]
  go_upto_region 1 with fail
  refine wp_region_lit ?_
  (with_reducible refine rN (v := .bool true) ?_ ?_ ?_); (· rfl); (· go_simp; (try with_reducible rfl)); simp only [pu, sB, s0, sS]
  go_upto_region 2 with fail
  refine wp_region_lit ?_
  with_reducible refine wpList_loadS (.tmp 1) ?_ ?_ KA1.out Tryz.underlying27 ?_ (infoTM19 (cells3_sz (cellsF_size f fs))) ?_
  · rfl
  · rfl
  · rfl
  simp only [pu, sB, s0, sS]
  obtain ⟨w2, hw⟩ : ∃ v, v = w1.alloc (.cells (cells3 0 0 0 cellsZ) 27) := ⟨_, rfl⟩
  obtain ⟨pU, hp⟩ : ∃ v, v = w1.heap.size := ⟨_, rfl⟩
  have B2 : Hid (Below w.heap.size w w2) := Lib.hid (by rw [hw]; exact B1.out.alloc B1.out.size _)
  have LEU : Hid (w.heap.size ≤ pU) := Lib.hid (by rw [hp]; exact B1.out.size)
  have KA2 := Lib.hid (show Blk w2 pA (cells3 1 n c (cellsF f fs)) 27 by rw [hw]; exact KA1.out.alloc _)
  have NEAU : Hid (pA ≠ pU) := Lib.hid (by rw [hp]; exact Nat.ne_of_lt KA1.out.lt)
  have NEUA : Hid (pU ≠ pA) := Lib.hid (Ne.symm NEAU.out)
  have KU2 : Hid (Blk w2 pU (cells3 0 0 0 cellsZ) 27) := Lib.hid (by rw [hw, hp]; exact Blk.new _ _ _)
  with_reducible refine wpList_runWV (some 4) (v := .pointer (some ⟨pU, 0, none⟩)) (w' := w2) ?_ ?_ ?_ ?_
  · rfl
  · rfl
  · rw [hw, hp]; (go_simp; (try rfl))
  simp only [pu, sB, s0, sS]
  clear hw hp
  clear B1 KA1
  have KU3 := Lib.hid (KU2.out.stored (o := 0) (vs := (cells3 1 n c (cellsF f fs)).toList) (laidAt_whole (Eq.trans (cells3_sz (cellsF_size f fs)) (Eq.symm (cells3_sz cellsZ_size)))))
  have KA3 := Lib.hid (KA2.out.wholeElse ((cells3 1 n c (cellsF f fs)).toList) (o := 0) NEAU.out)
  have B3 := Lib.hid (below_whole ((cells3 1 n c (cellsF f fs)).toList) (o := 0) B2.out LEU.out)
  with_reducible refine wpList_storeM (.tmp 4) (.tmp 5) (o := 0) (vs := (cells3 1 n c (cellsF f fs))) ?_ ?_ KU2.out ?_ (infoTM19 (cells3_sz (cellsF_size f fs))) (cells3_one (cellsF_one f fs)) ?_
  · rfl
  · rfl
  · exact (by have h0 : (cells3 0 0 0 cellsZ).size = 19 := (cells3_sz cellsZ_size); have h1 : (cells3 1 n c (cellsF f fs)).size = 19 := (cells3_sz (cellsF_size f fs)); omega)
  (try simp only [Act.put])
  generalize World.setCells _ _ _ _ = w3 at KA3 KU3 B3 ⊢
  clear B2 KA2 KU2
  go_upto_region 3 with fail
  refine wp_region_lit ?_
  (with_reducible refine rN (v := .pointer (some ⟨pU, 0, none⟩)) ?_ ?_ ?_); (· rfl); (· go_simp; (try rfl)); simp only [pu, sB, s0, sS]
  have KU4 := Lib.hid (KU3.out.stored (o := 0) (vs := [.int .i64 0]) (cells3_put0 _ _ _ _ _))
  have KA4 := Lib.hid (KA3.out.wholeElse ([.int .i64 0]) (o := 0) NEAU.out)
  have B4 := Lib.hid (below_whole ([.int .i64 0]) (o := 0) B3.out LEU.out)
  with_reducible refine wpList_storeV (.tmp 6) (.const (.int .i64 0)) (j := 0) (v := .int .i64 0) ?_ ?_ KU3.out ?_ (by kernel_rfl) (by simp [Value.oneCell']) ?_
  · rfl
  · rfl
  · exact (by have h0 : (cells3 1 n c (cellsF f fs)).size = 19 := (cells3_sz (cellsF_size f fs)); omega)
  (try simp only [Act.put])
  generalize World.setCells _ _ _ _ = w4 at KA4 KU4 B4 ⊢
  clear B3 KA3 KU3
  go_upto_region 4 with fail
  refine wp_region_lit ?_
  (with_reducible refine rN (v := .pointer (some ⟨pA, 0, none⟩)) ?_ ?_ ?_); (· rfl); (· go_simp; (try rfl)); simp only [pu, sB, s0, sS]
  with_reducible refine wpList_loadV (.tmp 7) (j := 0) (v := .int .i64 1) ?_ ?_ KA4.out ?_ Tryz.underlying3 ?_ ?_
  · rfl
  · rfl
  · exact (cells3_0 ..)
  · rfl
  simp only [pu, sB, s0, sS]
  go_upto_region 5 with fail
  refine wp_region_lit ?_
  iterate 2 ((with_reducible refine rN (v := .bool false) ?_ ?_ ?_); (· rfl); (· go_simp; (try with_reducible rfl)); simp only [pu, sB, s0, sS])
  go_upto_region 6 with fail
  refine wp_region_lit ?_
  iterate 2 ((with_reducible refine rN (v := .bool false) ?_ ?_ ?_); (· rfl); (· go_simp; (try with_reducible rfl)); simp only [pu, sB, s0, sS])
  go_upto_region 7 with fail
  refine wp_region_lit ?_
  iterate 2 ((with_reducible refine rN (v := .bool false) ?_ ?_ ?_); (· rfl); (· go_simp; (try with_reducible rfl)); simp only [pu, sB, s0, sS])
  go_upto_region 8 with fail
  refine wp_region_lit ?_
  iterate 2 ((with_reducible refine rN (v := .bool true) ?_ ?_ ?_); (· rfl); (· go_simp; (try with_reducible rfl)); simp only [pu, sB, s0, sS])
  have hq := HQ.out
  cases q with
  | false =>
    go_upto_region 20 with fail
    refine wp_region_lit ?_
    iterate 2 ((with_reducible refine rN (v := .bool true) ?_ ?_ ?_); (· rfl); (· go_simp; (try with_reducible rfl)); simp only [pu, sB, s0, sS])
    with_reducible refine wpList_loadS (.tmp 4) ?_ ?_ KU4.out Tryz.underlying27 ?_ (infoTM19 (cells3_sz (cellsF_size f fs))) ?_
    · rfl
    · rfl
    · rfl
    simp only [pu, sB, s0, sS]
    (with_reducible refine rN (v := .agg (cells3 0 0 0 cellsZ)) ?_ ?_ ?_); (· rfl); (· go_simp; rfl); simp only [pu, sB, s0, sS]
    iterate 3 ((with_reducible refine rN (v := .bool false) ?_ ?_ ?_); (· rfl); (· go_simp; (try with_reducible rfl)); simp only [pu, sB, s0, sS])
    go_wp2_with fail
    go_ret
    exact ⟨rfl, B4.out⟩
  | true =>
    go_upto_region 20 with fail
    refine wp_region_lit ?_
    iterate 2 ((with_reducible refine rN (v := .bool true) ?_ ?_ ?_); (· rfl); (· go_simp; (try with_reducible rfl)); simp only [pu, sB, s0, sS])
    with_reducible refine wpList_loadS (.tmp 4) ?_ ?_ KU4.out Tryz.underlying27 ?_ (infoTM19 (cells3_sz (cellsF_size f fs))) ?_
    · rfl
    · rfl
    · rfl
    simp only [pu, sB, s0, sS]
    (with_reducible refine rN (v := .agg (cells3 0 0 0 cellsZ)) ?_ ?_ ?_); (· rfl); (· go_simp; rfl); simp only [pu, sB, s0, sS]
    iterate 3 ((with_reducible refine rN (v := .bool true) ?_ ?_ ?_); (· rfl); (· go_simp; (try with_reducible rfl)); simp only [pu, sB, s0, sS])
    go_wp2_with fail
    go_ret
    exact ⟨rfl, B4.out⟩

set_option maxHeartbeats 8000000 in
set_option maxRecDepth 100000 in
theorem isWord3 (n c : Int) (f : Fil.Flt) (fs : ByteArray) (w : World)
    (q : Bool) (HQ : Hid (∀ W : World, (Op.equalIn 10000 27 (.agg (cells3 0 n c (cellsF f fs))) (.agg (cells3 0 0 0 cellsZ))).run Tryz.prog W = .ok q W)) :
    Calls Tryz.prog 9 #[.agg (cells3 3 n c (cellsF f fs))] w fun e w' => e = .returned (.bool q) ∧ Below w.heap.size w w' := by

  have B0 := Lib.hid (Below.refl w.heap.size w)
  go_enter Tryz.func9, Tryz.ntmps9
  go_upto_region 0 with fail
  refine wp_region_lit ?_
  obtain ⟨w1, hw⟩ : ∃ v, v = w.alloc (.cells (cells3 3 n c (cellsF f fs)) 27) := ⟨_, rfl⟩
  obtain ⟨pA, hp⟩ : ∃ v, v = w.heap.size := ⟨_, rfl⟩
  have B1 : Hid (Below w.heap.size w w1) := Lib.hid (by rw [hw]; exact B0.out.alloc B0.out.size _)
  have LEA : Hid (w.heap.size ≤ pA) := Lib.hid (by rw [hp]; exact B0.out.size)
  have KA1 : Hid (Blk w1 pA (cells3 3 n c (cellsF f fs)) 27) := Lib.hid (by rw [hw, hp]; exact Blk.new _ _ _)
  with_reducible refine wpList_runWV (some 1) (v := .pointer (some ⟨pA, 0, none⟩)) (w' := w1) ?_ ?_ ?_ ?_
  · rfl
  · rfl
  · rw [hw, hp]; (go_simp; (try rfl))
  simp only [pu, sB, s0, sS]
  clear hw hp
  clear B0
  (with_reducible refine rN (v := .bool false) ?_ ?_ ?_); (· rfl); (· go_simp; (try with_reducible rfl)); simp only [pu, sB, s0, sS]
  go_upto_region 1 with fail
  refine wp_region_lit ?_
  (with_reducible refine rN (v := .bool true) ?_ ?_ ?_); (· rfl); (· go_simp; (try with_reducible rfl)); simp only [pu, sB, s0, sS]
  go_upto_region 2 with fail
  refine wp_region_lit ?_
  with_reducible refine wpList_loadS (.tmp 1) ?_ ?_ KA1.out Tryz.underlying27 ?_ (infoTM19 (cells3_sz (cellsF_size f fs))) ?_
  · rfl
  · rfl
  · rfl
  simp only [pu, sB, s0, sS]
  obtain ⟨w2, hw⟩ : ∃ v, v = w1.alloc (.cells (cells3 0 0 0 cellsZ) 27) := ⟨_, rfl⟩
  obtain ⟨pU, hp⟩ : ∃ v, v = w1.heap.size := ⟨_, rfl⟩
  have B2 : Hid (Below w.heap.size w w2) := Lib.hid (by rw [hw]; exact B1.out.alloc B1.out.size _)
  have LEU : Hid (w.heap.size ≤ pU) := Lib.hid (by rw [hp]; exact B1.out.size)
  have KA2 := Lib.hid (show Blk w2 pA (cells3 3 n c (cellsF f fs)) 27 by rw [hw]; exact KA1.out.alloc _)
  have NEAU : Hid (pA ≠ pU) := Lib.hid (by rw [hp]; exact Nat.ne_of_lt KA1.out.lt)
  have NEUA : Hid (pU ≠ pA) := Lib.hid (Ne.symm NEAU.out)
  have KU2 : Hid (Blk w2 pU (cells3 0 0 0 cellsZ) 27) := Lib.hid (by rw [hw, hp]; exact Blk.new _ _ _)
  with_reducible refine wpList_runWV (some 4) (v := .pointer (some ⟨pU, 0, none⟩)) (w' := w2) ?_ ?_ ?_ ?_
  · rfl
  · rfl
  · rw [hw, hp]; (go_simp; (try rfl))
  simp only [pu, sB, s0, sS]
  clear hw hp
  clear B1 KA1
  have KU3 := Lib.hid (KU2.out.stored (o := 0) (vs := (cells3 3 n c (cellsF f fs)).toList) (laidAt_whole (Eq.trans (cells3_sz (cellsF_size f fs)) (Eq.symm (cells3_sz cellsZ_size)))))
  have KA3 := Lib.hid (KA2.out.wholeElse ((cells3 3 n c (cellsF f fs)).toList) (o := 0) NEAU.out)
  have B3 := Lib.hid (below_whole ((cells3 3 n c (cellsF f fs)).toList) (o := 0) B2.out LEU.out)
  with_reducible refine wpList_storeM (.tmp 4) (.tmp 5) (o := 0) (vs := (cells3 3 n c (cellsF f fs))) ?_ ?_ KU2.out ?_ (infoTM19 (cells3_sz (cellsF_size f fs))) (cells3_one (cellsF_one f fs)) ?_
  · rfl
  · rfl
  · exact (by have h0 : (cells3 0 0 0 cellsZ).size = 19 := (cells3_sz cellsZ_size); have h1 : (cells3 3 n c (cellsF f fs)).size = 19 := (cells3_sz (cellsF_size f fs)); omega)
  (try simp only [Act.put])
  generalize World.setCells _ _ _ _ = w3 at KA3 KU3 B3 ⊢
  clear B2 KA2 KU2
  go_upto_region 3 with fail
  refine wp_region_lit ?_
  (with_reducible refine rN (v := .pointer (some ⟨pU, 0, none⟩)) ?_ ?_ ?_); (· rfl); (· go_simp; (try rfl)); simp only [pu, sB, s0, sS]
  have KU4 := Lib.hid (KU3.out.stored (o := 0) (vs := [.int .i64 0]) (cells3_put0 _ _ _ _ _))
  have KA4 := Lib.hid (KA3.out.wholeElse ([.int .i64 0]) (o := 0) NEAU.out)
  have B4 := Lib.hid (below_whole ([.int .i64 0]) (o := 0) B3.out LEU.out)
  with_reducible refine wpList_storeV (.tmp 6) (.const (.int .i64 0)) (j := 0) (v := .int .i64 0) ?_ ?_ KU3.out ?_ (by kernel_rfl) (by simp [Value.oneCell']) ?_
  · rfl
  · rfl
  · exact (by have h0 : (cells3 3 n c (cellsF f fs)).size = 19 := (cells3_sz (cellsF_size f fs)); omega)
  (try simp only [Act.put])
  generalize World.setCells _ _ _ _ = w4 at KA4 KU4 B4 ⊢
  clear B3 KA3 KU3
  go_upto_region 4 with fail
  refine wp_region_lit ?_
  (with_reducible refine rN (v := .pointer (some ⟨pA, 0, none⟩)) ?_ ?_ ?_); (· rfl); (· go_simp; (try rfl)); simp only [pu, sB, s0, sS]
  with_reducible refine wpList_loadV (.tmp 7) (j := 0) (v := .int .i64 3) ?_ ?_ KA4.out ?_ Tryz.underlying3 ?_ ?_
  · rfl
  · rfl
  · exact (cells3_0 ..)
  · rfl
  simp only [pu, sB, s0, sS]
  go_upto_region 5 with fail
  refine wp_region_lit ?_
  iterate 2 ((with_reducible refine rN (v := .bool false) ?_ ?_ ?_); (· rfl); (· go_simp; (try with_reducible rfl)); simp only [pu, sB, s0, sS])
  go_upto_region 6 with fail
  refine wp_region_lit ?_
  iterate 2 ((with_reducible refine rN (v := .bool false) ?_ ?_ ?_); (· rfl); (· go_simp; (try with_reducible rfl)); simp only [pu, sB, s0, sS])
  go_upto_region 7 with fail
  refine wp_region_lit ?_
  iterate 2 ((with_reducible refine rN (v := .bool false) ?_ ?_ ?_); (· rfl); (· go_simp; (try with_reducible rfl)); simp only [pu, sB, s0, sS])
  go_upto_region 8 with fail
  refine wp_region_lit ?_
  iterate 2 ((with_reducible refine rN (v := .bool false) ?_ ?_ ?_); (· rfl); (· go_simp; (try with_reducible rfl)); simp only [pu, sB, s0, sS])
  go_upto_region 9 with fail
  refine wp_region_lit ?_
  iterate 2 ((with_reducible refine rN (v := .bool true) ?_ ?_ ?_); (· rfl); (· go_simp; (try with_reducible rfl)); simp only [pu, sB, s0, sS])
  have hq := HQ.out
  cases q with
  | false =>
    go_upto_region 20 with fail
    refine wp_region_lit ?_
    iterate 2 ((with_reducible refine rN (v := .bool true) ?_ ?_ ?_); (· rfl); (· go_simp; (try with_reducible rfl)); simp only [pu, sB, s0, sS])
    with_reducible refine wpList_loadS (.tmp 4) ?_ ?_ KU4.out Tryz.underlying27 ?_ (infoTM19 (cells3_sz (cellsF_size f fs))) ?_
    · rfl
    · rfl
    · rfl
    simp only [pu, sB, s0, sS]
    (with_reducible refine rN (v := .agg (cells3 0 0 0 cellsZ)) ?_ ?_ ?_); (· rfl); (· go_simp; rfl); simp only [pu, sB, s0, sS]
    iterate 3 ((with_reducible refine rN (v := .bool false) ?_ ?_ ?_); (· rfl); (· go_simp; (try with_reducible rfl)); simp only [pu, sB, s0, sS])
    go_wp2_with fail
    go_ret
    exact ⟨rfl, B4.out⟩
  | true =>
    go_upto_region 20 with fail
    refine wp_region_lit ?_
    iterate 2 ((with_reducible refine rN (v := .bool true) ?_ ?_ ?_); (· rfl); (· go_simp; (try with_reducible rfl)); simp only [pu, sB, s0, sS])
    with_reducible refine wpList_loadS (.tmp 4) ?_ ?_ KU4.out Tryz.underlying27 ?_ (infoTM19 (cells3_sz (cellsF_size f fs))) ?_
    · rfl
    · rfl
    · rfl
    simp only [pu, sB, s0, sS]
    (with_reducible refine rN (v := .agg (cells3 0 0 0 cellsZ)) ?_ ?_ ?_); (· rfl); (· go_simp; rfl); simp only [pu, sB, s0, sS]
    iterate 3 ((with_reducible refine rN (v := .bool true) ?_ ?_ ?_); (· rfl); (· go_simp; (try with_reducible rfl)); simp only [pu, sB, s0, sS])
    go_wp2_with fail
    go_ret
    exact ⟨rfl, B4.out⟩

set_option maxHeartbeats 8000000 in
set_option maxRecDepth 100000 in
theorem isWord5 (n c : Int) (f : Fil.Flt) (fs : ByteArray) (w : World)
    (q : Bool) (HQ : Hid (∀ W : World, (Op.equalIn 10000 27 (.agg (cells3 0 n c (cellsF f fs))) (.agg (cells3 0 0 0 cellsZ))).run Tryz.prog W = .ok q W)) :
    Calls Tryz.prog 9 #[.agg (cells3 5 n c (cellsF f fs))] w fun e w' => e = .returned (.bool q) ∧ Below w.heap.size w w' := by

  have B0 := Lib.hid (Below.refl w.heap.size w)
  go_enter Tryz.func9, Tryz.ntmps9
  go_upto_region 0 with fail
  refine wp_region_lit ?_
  obtain ⟨w1, hw⟩ : ∃ v, v = w.alloc (.cells (cells3 5 n c (cellsF f fs)) 27) := ⟨_, rfl⟩
  obtain ⟨pA, hp⟩ : ∃ v, v = w.heap.size := ⟨_, rfl⟩
  have B1 : Hid (Below w.heap.size w w1) := Lib.hid (by rw [hw]; exact B0.out.alloc B0.out.size _)
  have LEA : Hid (w.heap.size ≤ pA) := Lib.hid (by rw [hp]; exact B0.out.size)
  have KA1 : Hid (Blk w1 pA (cells3 5 n c (cellsF f fs)) 27) := Lib.hid (by rw [hw, hp]; exact Blk.new _ _ _)
  with_reducible refine wpList_runWV (some 1) (v := .pointer (some ⟨pA, 0, none⟩)) (w' := w1) ?_ ?_ ?_ ?_
  · rfl
  · rfl
  · rw [hw, hp]; (go_simp; (try rfl))
  simp only [pu, sB, s0, sS]
  clear hw hp
  clear B0
  (with_reducible refine rN (v := .bool false) ?_ ?_ ?_); (· rfl); (· go_simp; (try with_reducible rfl)); simp only [pu, sB, s0, sS]
  go_upto_region 1 with fail
  refine wp_region_lit ?_
  (with_reducible refine rN (v := .bool true) ?_ ?_ ?_); (· rfl); (· go_simp; (try with_reducible rfl)); simp only [pu, sB, s0, sS]
  go_upto_region 2 with fail
  refine wp_region_lit ?_
  with_reducible refine wpList_loadS (.tmp 1) ?_ ?_ KA1.out Tryz.underlying27 ?_ (infoTM19 (cells3_sz (cellsF_size f fs))) ?_
  · rfl
  · rfl
  · rfl
  simp only [pu, sB, s0, sS]
  obtain ⟨w2, hw⟩ : ∃ v, v = w1.alloc (.cells (cells3 0 0 0 cellsZ) 27) := ⟨_, rfl⟩
  obtain ⟨pU, hp⟩ : ∃ v, v = w1.heap.size := ⟨_, rfl⟩
  have B2 : Hid (Below w.heap.size w w2) := Lib.hid (by rw [hw]; exact B1.out.alloc B1.out.size _)
  have LEU : Hid (w.heap.size ≤ pU) := Lib.hid (by rw [hp]; exact B1.out.size)
  have KA2 := Lib.hid (show Blk w2 pA (cells3 5 n c (cellsF f fs)) 27 by rw [hw]; exact KA1.out.alloc _)
  have NEAU : Hid (pA ≠ pU) := Lib.hid (by rw [hp]; exact Nat.ne_of_lt KA1.out.lt)
  have NEUA : Hid (pU ≠ pA) := Lib.hid (Ne.symm NEAU.out)
  have KU2 : Hid (Blk w2 pU (cells3 0 0 0 cellsZ) 27) := Lib.hid (by rw [hw, hp]; exact Blk.new _ _ _)
  with_reducible refine wpList_runWV (some 4) (v := .pointer (some ⟨pU, 0, none⟩)) (w' := w2) ?_ ?_ ?_ ?_
  · rfl
  · rfl
  · rw [hw, hp]; (go_simp; (try rfl))
  simp only [pu, sB, s0, sS]
  clear hw hp
  clear B1 KA1
  have KU3 := Lib.hid (KU2.out.stored (o := 0) (vs := (cells3 5 n c (cellsF f fs)).toList) (laidAt_whole (Eq.trans (cells3_sz (cellsF_size f fs)) (Eq.symm (cells3_sz cellsZ_size)))))
  have KA3 := Lib.hid (KA2.out.wholeElse ((cells3 5 n c (cellsF f fs)).toList) (o := 0) NEAU.out)
  have B3 := Lib.hid (below_whole ((cells3 5 n c (cellsF f fs)).toList) (o := 0) B2.out LEU.out)
  with_reducible refine wpList_storeM (.tmp 4) (.tmp 5) (o := 0) (vs := (cells3 5 n c (cellsF f fs))) ?_ ?_ KU2.out ?_ (infoTM19 (cells3_sz (cellsF_size f fs))) (cells3_one (cellsF_one f fs)) ?_
  · rfl
  · rfl
  · exact (by have h0 : (cells3 0 0 0 cellsZ).size = 19 := (cells3_sz cellsZ_size); have h1 : (cells3 5 n c (cellsF f fs)).size = 19 := (cells3_sz (cellsF_size f fs)); omega)
  (try simp only [Act.put])
  generalize World.setCells _ _ _ _ = w3 at KA3 KU3 B3 ⊢
  clear B2 KA2 KU2
  go_upto_region 3 with fail
  refine wp_region_lit ?_
  (with_reducible refine rN (v := .pointer (some ⟨pU, 0, none⟩)) ?_ ?_ ?_); (· rfl); (· go_simp; (try rfl)); simp only [pu, sB, s0, sS]
  have KU4 := Lib.hid (KU3.out.stored (o := 0) (vs := [.int .i64 0]) (cells3_put0 _ _ _ _ _))
  have KA4 := Lib.hid (KA3.out.wholeElse ([.int .i64 0]) (o := 0) NEAU.out)
  have B4 := Lib.hid (below_whole ([.int .i64 0]) (o := 0) B3.out LEU.out)
  with_reducible refine wpList_storeV (.tmp 6) (.const (.int .i64 0)) (j := 0) (v := .int .i64 0) ?_ ?_ KU3.out ?_ (by kernel_rfl) (by simp [Value.oneCell']) ?_
  · rfl
  · rfl
  · exact (by have h0 : (cells3 5 n c (cellsF f fs)).size = 19 := (cells3_sz (cellsF_size f fs)); omega)
  (try simp only [Act.put])
  generalize World.setCells _ _ _ _ = w4 at KA4 KU4 B4 ⊢
  clear B3 KA3 KU3
  go_upto_region 4 with fail
  refine wp_region_lit ?_
  (with_reducible refine rN (v := .pointer (some ⟨pA, 0, none⟩)) ?_ ?_ ?_); (· rfl); (· go_simp; (try rfl)); simp only [pu, sB, s0, sS]
  with_reducible refine wpList_loadV (.tmp 7) (j := 0) (v := .int .i64 5) ?_ ?_ KA4.out ?_ Tryz.underlying3 ?_ ?_
  · rfl
  · rfl
  · exact (cells3_0 ..)
  · rfl
  simp only [pu, sB, s0, sS]
  go_upto_region 5 with fail
  refine wp_region_lit ?_
  iterate 2 ((with_reducible refine rN (v := .bool false) ?_ ?_ ?_); (· rfl); (· go_simp; (try with_reducible rfl)); simp only [pu, sB, s0, sS])
  go_upto_region 6 with fail
  refine wp_region_lit ?_
  iterate 2 ((with_reducible refine rN (v := .bool false) ?_ ?_ ?_); (· rfl); (· go_simp; (try with_reducible rfl)); simp only [pu, sB, s0, sS])
  go_upto_region 7 with fail
  refine wp_region_lit ?_
  iterate 2 ((with_reducible refine rN (v := .bool false) ?_ ?_ ?_); (· rfl); (· go_simp; (try with_reducible rfl)); simp only [pu, sB, s0, sS])
  go_upto_region 8 with fail
  refine wp_region_lit ?_
  iterate 2 ((with_reducible refine rN (v := .bool false) ?_ ?_ ?_); (· rfl); (· go_simp; (try with_reducible rfl)); simp only [pu, sB, s0, sS])
  go_upto_region 9 with fail
  refine wp_region_lit ?_
  iterate 2 ((with_reducible refine rN (v := .bool false) ?_ ?_ ?_); (· rfl); (· go_simp; (try with_reducible rfl)); simp only [pu, sB, s0, sS])
  go_upto_region 10 with fail
  refine wp_region_lit ?_
  iterate 2 ((with_reducible refine rN (v := .bool true) ?_ ?_ ?_); (· rfl); (· go_simp; (try with_reducible rfl)); simp only [pu, sB, s0, sS])
  have hq := HQ.out
  cases q with
  | false =>
    go_upto_region 20 with fail
    refine wp_region_lit ?_
    iterate 2 ((with_reducible refine rN (v := .bool true) ?_ ?_ ?_); (· rfl); (· go_simp; (try with_reducible rfl)); simp only [pu, sB, s0, sS])
    with_reducible refine wpList_loadS (.tmp 4) ?_ ?_ KU4.out Tryz.underlying27 ?_ (infoTM19 (cells3_sz (cellsF_size f fs))) ?_
    · rfl
    · rfl
    · rfl
    simp only [pu, sB, s0, sS]
    (with_reducible refine rN (v := .agg (cells3 0 0 0 cellsZ)) ?_ ?_ ?_); (· rfl); (· go_simp; rfl); simp only [pu, sB, s0, sS]
    iterate 3 ((with_reducible refine rN (v := .bool false) ?_ ?_ ?_); (· rfl); (· go_simp; (try with_reducible rfl)); simp only [pu, sB, s0, sS])
    go_wp2_with fail
    go_ret
    exact ⟨rfl, B4.out⟩
  | true =>
    go_upto_region 20 with fail
    refine wp_region_lit ?_
    iterate 2 ((with_reducible refine rN (v := .bool true) ?_ ?_ ?_); (· rfl); (· go_simp; (try with_reducible rfl)); simp only [pu, sB, s0, sS])
    with_reducible refine wpList_loadS (.tmp 4) ?_ ?_ KU4.out Tryz.underlying27 ?_ (infoTM19 (cells3_sz (cellsF_size f fs))) ?_
    · rfl
    · rfl
    · rfl
    simp only [pu, sB, s0, sS]
    (with_reducible refine rN (v := .agg (cells3 0 0 0 cellsZ)) ?_ ?_ ?_); (· rfl); (· go_simp; rfl); simp only [pu, sB, s0, sS]
    iterate 3 ((with_reducible refine rN (v := .bool true) ?_ ?_ ?_); (· rfl); (· go_simp; (try with_reducible rfl)); simp only [pu, sB, s0, sS])
    go_wp2_with fail
    go_ret
    exact ⟨rfl, B4.out⟩

set_option maxHeartbeats 8000000 in
set_option maxRecDepth 100000 in
theorem isWord6 (n c : Int) (f : Fil.Flt) (fs : ByteArray) (w : World)
    (q : Bool) (HQ : Hid (∀ W : World, (Op.equalIn 10000 27 (.agg (cells3 0 n c (cellsF f fs))) (.agg (cells3 0 0 0 cellsZ))).run Tryz.prog W = .ok q W)) :
    Calls Tryz.prog 9 #[.agg (cells3 6 n c (cellsF f fs))] w fun e w' => e = .returned (.bool q) ∧ Below w.heap.size w w' := by

  have B0 := Lib.hid (Below.refl w.heap.size w)
  go_enter Tryz.func9, Tryz.ntmps9
  go_upto_region 0 with fail
  refine wp_region_lit ?_
  obtain ⟨w1, hw⟩ : ∃ v, v = w.alloc (.cells (cells3 6 n c (cellsF f fs)) 27) := ⟨_, rfl⟩
  obtain ⟨pA, hp⟩ : ∃ v, v = w.heap.size := ⟨_, rfl⟩
  have B1 : Hid (Below w.heap.size w w1) := Lib.hid (by rw [hw]; exact B0.out.alloc B0.out.size _)
  have LEA : Hid (w.heap.size ≤ pA) := Lib.hid (by rw [hp]; exact B0.out.size)
  have KA1 : Hid (Blk w1 pA (cells3 6 n c (cellsF f fs)) 27) := Lib.hid (by rw [hw, hp]; exact Blk.new _ _ _)
  with_reducible refine wpList_runWV (some 1) (v := .pointer (some ⟨pA, 0, none⟩)) (w' := w1) ?_ ?_ ?_ ?_
  · rfl
  · rfl
  · rw [hw, hp]; (go_simp; (try rfl))
  simp only [pu, sB, s0, sS]
  clear hw hp
  clear B0
  (with_reducible refine rN (v := .bool false) ?_ ?_ ?_); (· rfl); (· go_simp; (try with_reducible rfl)); simp only [pu, sB, s0, sS]
  go_upto_region 1 with fail
  refine wp_region_lit ?_
  (with_reducible refine rN (v := .bool true) ?_ ?_ ?_); (· rfl); (· go_simp; (try with_reducible rfl)); simp only [pu, sB, s0, sS]
  go_upto_region 2 with fail
  refine wp_region_lit ?_
  with_reducible refine wpList_loadS (.tmp 1) ?_ ?_ KA1.out Tryz.underlying27 ?_ (infoTM19 (cells3_sz (cellsF_size f fs))) ?_
  · rfl
  · rfl
  · rfl
  simp only [pu, sB, s0, sS]
  obtain ⟨w2, hw⟩ : ∃ v, v = w1.alloc (.cells (cells3 0 0 0 cellsZ) 27) := ⟨_, rfl⟩
  obtain ⟨pU, hp⟩ : ∃ v, v = w1.heap.size := ⟨_, rfl⟩
  have B2 : Hid (Below w.heap.size w w2) := Lib.hid (by rw [hw]; exact B1.out.alloc B1.out.size _)
  have LEU : Hid (w.heap.size ≤ pU) := Lib.hid (by rw [hp]; exact B1.out.size)
  have KA2 := Lib.hid (show Blk w2 pA (cells3 6 n c (cellsF f fs)) 27 by rw [hw]; exact KA1.out.alloc _)
  have NEAU : Hid (pA ≠ pU) := Lib.hid (by rw [hp]; exact Nat.ne_of_lt KA1.out.lt)
  have NEUA : Hid (pU ≠ pA) := Lib.hid (Ne.symm NEAU.out)
  have KU2 : Hid (Blk w2 pU (cells3 0 0 0 cellsZ) 27) := Lib.hid (by rw [hw, hp]; exact Blk.new _ _ _)
  with_reducible refine wpList_runWV (some 4) (v := .pointer (some ⟨pU, 0, none⟩)) (w' := w2) ?_ ?_ ?_ ?_
  · rfl
  · rfl
  · rw [hw, hp]; (go_simp; (try rfl))
  simp only [pu, sB, s0, sS]
  clear hw hp
  clear B1 KA1
  have KU3 := Lib.hid (KU2.out.stored (o := 0) (vs := (cells3 6 n c (cellsF f fs)).toList) (laidAt_whole (Eq.trans (cells3_sz (cellsF_size f fs)) (Eq.symm (cells3_sz cellsZ_size)))))
  have KA3 := Lib.hid (KA2.out.wholeElse ((cells3 6 n c (cellsF f fs)).toList) (o := 0) NEAU.out)
  have B3 := Lib.hid (below_whole ((cells3 6 n c (cellsF f fs)).toList) (o := 0) B2.out LEU.out)
  with_reducible refine wpList_storeM (.tmp 4) (.tmp 5) (o := 0) (vs := (cells3 6 n c (cellsF f fs))) ?_ ?_ KU2.out ?_ (infoTM19 (cells3_sz (cellsF_size f fs))) (cells3_one (cellsF_one f fs)) ?_
  · rfl
  · rfl
  · exact (by have h0 : (cells3 0 0 0 cellsZ).size = 19 := (cells3_sz cellsZ_size); have h1 : (cells3 6 n c (cellsF f fs)).size = 19 := (cells3_sz (cellsF_size f fs)); omega)
  (try simp only [Act.put])
  generalize World.setCells _ _ _ _ = w3 at KA3 KU3 B3 ⊢
  clear B2 KA2 KU2
  go_upto_region 3 with fail
  refine wp_region_lit ?_
  (with_reducible refine rN (v := .pointer (some ⟨pU, 0, none⟩)) ?_ ?_ ?_); (· rfl); (· go_simp; (try rfl)); simp only [pu, sB, s0, sS]
  have KU4 := Lib.hid (KU3.out.stored (o := 0) (vs := [.int .i64 0]) (cells3_put0 _ _ _ _ _))
  have KA4 := Lib.hid (KA3.out.wholeElse ([.int .i64 0]) (o := 0) NEAU.out)
  have B4 := Lib.hid (below_whole ([.int .i64 0]) (o := 0) B3.out LEU.out)
  with_reducible refine wpList_storeV (.tmp 6) (.const (.int .i64 0)) (j := 0) (v := .int .i64 0) ?_ ?_ KU3.out ?_ (by kernel_rfl) (by simp [Value.oneCell']) ?_
  · rfl
  · rfl
  · exact (by have h0 : (cells3 6 n c (cellsF f fs)).size = 19 := (cells3_sz (cellsF_size f fs)); omega)
  (try simp only [Act.put])
  generalize World.setCells _ _ _ _ = w4 at KA4 KU4 B4 ⊢
  clear B3 KA3 KU3
  go_upto_region 4 with fail
  refine wp_region_lit ?_
  (with_reducible refine rN (v := .pointer (some ⟨pA, 0, none⟩)) ?_ ?_ ?_); (· rfl); (· go_simp; (try rfl)); simp only [pu, sB, s0, sS]
  with_reducible refine wpList_loadV (.tmp 7) (j := 0) (v := .int .i64 6) ?_ ?_ KA4.out ?_ Tryz.underlying3 ?_ ?_
  · rfl
  · rfl
  · exact (cells3_0 ..)
  · rfl
  simp only [pu, sB, s0, sS]
  go_upto_region 5 with fail
  refine wp_region_lit ?_
  iterate 2 ((with_reducible refine rN (v := .bool false) ?_ ?_ ?_); (· rfl); (· go_simp; (try with_reducible rfl)); simp only [pu, sB, s0, sS])
  go_upto_region 6 with fail
  refine wp_region_lit ?_
  iterate 2 ((with_reducible refine rN (v := .bool false) ?_ ?_ ?_); (· rfl); (· go_simp; (try with_reducible rfl)); simp only [pu, sB, s0, sS])
  go_upto_region 7 with fail
  refine wp_region_lit ?_
  iterate 2 ((with_reducible refine rN (v := .bool false) ?_ ?_ ?_); (· rfl); (· go_simp; (try with_reducible rfl)); simp only [pu, sB, s0, sS])
  go_upto_region 8 with fail
  refine wp_region_lit ?_
  iterate 2 ((with_reducible refine rN (v := .bool false) ?_ ?_ ?_); (· rfl); (· go_simp; (try with_reducible rfl)); simp only [pu, sB, s0, sS])
  go_upto_region 9 with fail
  refine wp_region_lit ?_
  iterate 2 ((with_reducible refine rN (v := .bool false) ?_ ?_ ?_); (· rfl); (· go_simp; (try with_reducible rfl)); simp only [pu, sB, s0, sS])
  go_upto_region 10 with fail
  refine wp_region_lit ?_
  iterate 2 ((with_reducible refine rN (v := .bool false) ?_ ?_ ?_); (· rfl); (· go_simp; (try with_reducible rfl)); simp only [pu, sB, s0, sS])
  go_upto_region 11 with fail
  refine wp_region_lit ?_
  iterate 2 ((with_reducible refine rN (v := .bool true) ?_ ?_ ?_); (· rfl); (· go_simp; (try with_reducible rfl)); simp only [pu, sB, s0, sS])
  have hq := HQ.out
  cases q with
  | false =>
    go_upto_region 20 with fail
    refine wp_region_lit ?_
    iterate 2 ((with_reducible refine rN (v := .bool true) ?_ ?_ ?_); (· rfl); (· go_simp; (try with_reducible rfl)); simp only [pu, sB, s0, sS])
    with_reducible refine wpList_loadS (.tmp 4) ?_ ?_ KU4.out Tryz.underlying27 ?_ (infoTM19 (cells3_sz (cellsF_size f fs))) ?_
    · rfl
    · rfl
    · rfl
    simp only [pu, sB, s0, sS]
    (with_reducible refine rN (v := .agg (cells3 0 0 0 cellsZ)) ?_ ?_ ?_); (· rfl); (· go_simp; rfl); simp only [pu, sB, s0, sS]
    iterate 3 ((with_reducible refine rN (v := .bool false) ?_ ?_ ?_); (· rfl); (· go_simp; (try with_reducible rfl)); simp only [pu, sB, s0, sS])
    go_wp2_with fail
    go_ret
    exact ⟨rfl, B4.out⟩
  | true =>
    go_upto_region 20 with fail
    refine wp_region_lit ?_
    iterate 2 ((with_reducible refine rN (v := .bool true) ?_ ?_ ?_); (· rfl); (· go_simp; (try with_reducible rfl)); simp only [pu, sB, s0, sS])
    with_reducible refine wpList_loadS (.tmp 4) ?_ ?_ KU4.out Tryz.underlying27 ?_ (infoTM19 (cells3_sz (cellsF_size f fs))) ?_
    · rfl
    · rfl
    · rfl
    simp only [pu, sB, s0, sS]
    (with_reducible refine rN (v := .agg (cells3 0 0 0 cellsZ)) ?_ ?_ ?_); (· rfl); (· go_simp; rfl); simp only [pu, sB, s0, sS]
    iterate 3 ((with_reducible refine rN (v := .bool true) ?_ ?_ ?_); (· rfl); (· go_simp; (try with_reducible rfl)); simp only [pu, sB, s0, sS])
    go_wp2_with fail
    go_ret
    exact ⟨rfl, B4.out⟩

set_option maxHeartbeats 8000000 in
set_option maxRecDepth 100000 in
theorem isWord7 (n c : Int) (f : Fil.Flt) (fs : ByteArray) (w : World)
    (q : Bool) (HQ : Hid (∀ W : World, (Op.equalIn 10000 27 (.agg (cells3 0 n c (cellsF f fs))) (.agg (cells3 0 0 0 cellsZ))).run Tryz.prog W = .ok q W)) :
    Calls Tryz.prog 9 #[.agg (cells3 7 n c (cellsF f fs))] w fun e w' => e = .returned (.bool q) ∧ Below w.heap.size w w' := by

  have B0 := Lib.hid (Below.refl w.heap.size w)
  go_enter Tryz.func9, Tryz.ntmps9
  go_upto_region 0 with fail
  refine wp_region_lit ?_
  obtain ⟨w1, hw⟩ : ∃ v, v = w.alloc (.cells (cells3 7 n c (cellsF f fs)) 27) := ⟨_, rfl⟩
  obtain ⟨pA, hp⟩ : ∃ v, v = w.heap.size := ⟨_, rfl⟩
  have B1 : Hid (Below w.heap.size w w1) := Lib.hid (by rw [hw]; exact B0.out.alloc B0.out.size _)
  have LEA : Hid (w.heap.size ≤ pA) := Lib.hid (by rw [hp]; exact B0.out.size)
  have KA1 : Hid (Blk w1 pA (cells3 7 n c (cellsF f fs)) 27) := Lib.hid (by rw [hw, hp]; exact Blk.new _ _ _)
  with_reducible refine wpList_runWV (some 1) (v := .pointer (some ⟨pA, 0, none⟩)) (w' := w1) ?_ ?_ ?_ ?_
  · rfl
  · rfl
  · rw [hw, hp]; (go_simp; (try rfl))
  simp only [pu, sB, s0, sS]
  clear hw hp
  clear B0
  (with_reducible refine rN (v := .bool false) ?_ ?_ ?_); (· rfl); (· go_simp; (try with_reducible rfl)); simp only [pu, sB, s0, sS]
  go_upto_region 1 with fail
  refine wp_region_lit ?_
  (with_reducible refine rN (v := .bool true) ?_ ?_ ?_); (· rfl); (· go_simp; (try with_reducible rfl)); simp only [pu, sB, s0, sS]
  go_upto_region 2 with fail
  refine wp_region_lit ?_
  with_reducible refine wpList_loadS (.tmp 1) ?_ ?_ KA1.out Tryz.underlying27 ?_ (infoTM19 (cells3_sz (cellsF_size f fs))) ?_
  · rfl
  · rfl
  · rfl
  simp only [pu, sB, s0, sS]
  obtain ⟨w2, hw⟩ : ∃ v, v = w1.alloc (.cells (cells3 0 0 0 cellsZ) 27) := ⟨_, rfl⟩
  obtain ⟨pU, hp⟩ : ∃ v, v = w1.heap.size := ⟨_, rfl⟩
  have B2 : Hid (Below w.heap.size w w2) := Lib.hid (by rw [hw]; exact B1.out.alloc B1.out.size _)
  have LEU : Hid (w.heap.size ≤ pU) := Lib.hid (by rw [hp]; exact B1.out.size)
  have KA2 := Lib.hid (show Blk w2 pA (cells3 7 n c (cellsF f fs)) 27 by rw [hw]; exact KA1.out.alloc _)
  have NEAU : Hid (pA ≠ pU) := Lib.hid (by rw [hp]; exact Nat.ne_of_lt KA1.out.lt)
  have NEUA : Hid (pU ≠ pA) := Lib.hid (Ne.symm NEAU.out)
  have KU2 : Hid (Blk w2 pU (cells3 0 0 0 cellsZ) 27) := Lib.hid (by rw [hw, hp]; exact Blk.new _ _ _)
  with_reducible refine wpList_runWV (some 4) (v := .pointer (some ⟨pU, 0, none⟩)) (w' := w2) ?_ ?_ ?_ ?_
  · rfl
  · rfl
  · rw [hw, hp]; (go_simp; (try rfl))
  simp only [pu, sB, s0, sS]
  clear hw hp
  clear B1 KA1
  have KU3 := Lib.hid (KU2.out.stored (o := 0) (vs := (cells3 7 n c (cellsF f fs)).toList) (laidAt_whole (Eq.trans (cells3_sz (cellsF_size f fs)) (Eq.symm (cells3_sz cellsZ_size)))))
  have KA3 := Lib.hid (KA2.out.wholeElse ((cells3 7 n c (cellsF f fs)).toList) (o := 0) NEAU.out)
  have B3 := Lib.hid (below_whole ((cells3 7 n c (cellsF f fs)).toList) (o := 0) B2.out LEU.out)
  with_reducible refine wpList_storeM (.tmp 4) (.tmp 5) (o := 0) (vs := (cells3 7 n c (cellsF f fs))) ?_ ?_ KU2.out ?_ (infoTM19 (cells3_sz (cellsF_size f fs))) (cells3_one (cellsF_one f fs)) ?_
  · rfl
  · rfl
  · exact (by have h0 : (cells3 0 0 0 cellsZ).size = 19 := (cells3_sz cellsZ_size); have h1 : (cells3 7 n c (cellsF f fs)).size = 19 := (cells3_sz (cellsF_size f fs)); omega)
  (try simp only [Act.put])
  generalize World.setCells _ _ _ _ = w3 at KA3 KU3 B3 ⊢
  clear B2 KA2 KU2
  go_upto_region 3 with fail
  refine wp_region_lit ?_
  (with_reducible refine rN (v := .pointer (some ⟨pU, 0, none⟩)) ?_ ?_ ?_); (· rfl); (· go_simp; (try rfl)); simp only [pu, sB, s0, sS]
  have KU4 := Lib.hid (KU3.out.stored (o := 0) (vs := [.int .i64 0]) (cells3_put0 _ _ _ _ _))
  have KA4 := Lib.hid (KA3.out.wholeElse ([.int .i64 0]) (o := 0) NEAU.out)
  have B4 := Lib.hid (below_whole ([.int .i64 0]) (o := 0) B3.out LEU.out)
  with_reducible refine wpList_storeV (.tmp 6) (.const (.int .i64 0)) (j := 0) (v := .int .i64 0) ?_ ?_ KU3.out ?_ (by kernel_rfl) (by simp [Value.oneCell']) ?_
  · rfl
  · rfl
  · exact (by have h0 : (cells3 7 n c (cellsF f fs)).size = 19 := (cells3_sz (cellsF_size f fs)); omega)
  (try simp only [Act.put])
  generalize World.setCells _ _ _ _ = w4 at KA4 KU4 B4 ⊢
  clear B3 KA3 KU3
  go_upto_region 4 with fail
  refine wp_region_lit ?_
  (with_reducible refine rN (v := .pointer (some ⟨pA, 0, none⟩)) ?_ ?_ ?_); (· rfl); (· go_simp; (try rfl)); simp only [pu, sB, s0, sS]
  with_reducible refine wpList_loadV (.tmp 7) (j := 0) (v := .int .i64 7) ?_ ?_ KA4.out ?_ Tryz.underlying3 ?_ ?_
  · rfl
  · rfl
  · exact (cells3_0 ..)
  · rfl
  simp only [pu, sB, s0, sS]
  go_upto_region 5 with fail
  refine wp_region_lit ?_
  iterate 2 ((with_reducible refine rN (v := .bool false) ?_ ?_ ?_); (· rfl); (· go_simp; (try with_reducible rfl)); simp only [pu, sB, s0, sS])
  go_upto_region 6 with fail
  refine wp_region_lit ?_
  iterate 2 ((with_reducible refine rN (v := .bool false) ?_ ?_ ?_); (· rfl); (· go_simp; (try with_reducible rfl)); simp only [pu, sB, s0, sS])
  go_upto_region 7 with fail
  refine wp_region_lit ?_
  iterate 2 ((with_reducible refine rN (v := .bool false) ?_ ?_ ?_); (· rfl); (· go_simp; (try with_reducible rfl)); simp only [pu, sB, s0, sS])
  go_upto_region 8 with fail
  refine wp_region_lit ?_
  iterate 2 ((with_reducible refine rN (v := .bool false) ?_ ?_ ?_); (· rfl); (· go_simp; (try with_reducible rfl)); simp only [pu, sB, s0, sS])
  go_upto_region 9 with fail
  refine wp_region_lit ?_
  iterate 2 ((with_reducible refine rN (v := .bool false) ?_ ?_ ?_); (· rfl); (· go_simp; (try with_reducible rfl)); simp only [pu, sB, s0, sS])
  go_upto_region 10 with fail
  refine wp_region_lit ?_
  iterate 2 ((with_reducible refine rN (v := .bool false) ?_ ?_ ?_); (· rfl); (· go_simp; (try with_reducible rfl)); simp only [pu, sB, s0, sS])
  go_upto_region 11 with fail
  refine wp_region_lit ?_
  iterate 2 ((with_reducible refine rN (v := .bool false) ?_ ?_ ?_); (· rfl); (· go_simp; (try with_reducible rfl)); simp only [pu, sB, s0, sS])
  go_upto_region 12 with fail
  refine wp_region_lit ?_
  iterate 2 ((with_reducible refine rN (v := .bool true) ?_ ?_ ?_); (· rfl); (· go_simp; (try with_reducible rfl)); simp only [pu, sB, s0, sS])
  have hq := HQ.out
  cases q with
  | false =>
    go_upto_region 20 with fail
    refine wp_region_lit ?_
    iterate 2 ((with_reducible refine rN (v := .bool true) ?_ ?_ ?_); (· rfl); (· go_simp; (try with_reducible rfl)); simp only [pu, sB, s0, sS])
    with_reducible refine wpList_loadS (.tmp 4) ?_ ?_ KU4.out Tryz.underlying27 ?_ (infoTM19 (cells3_sz (cellsF_size f fs))) ?_
    · rfl
    · rfl
    · rfl
    simp only [pu, sB, s0, sS]
    (with_reducible refine rN (v := .agg (cells3 0 0 0 cellsZ)) ?_ ?_ ?_); (· rfl); (· go_simp; rfl); simp only [pu, sB, s0, sS]
    iterate 3 ((with_reducible refine rN (v := .bool false) ?_ ?_ ?_); (· rfl); (· go_simp; (try with_reducible rfl)); simp only [pu, sB, s0, sS])
    go_wp2_with fail
    go_ret
    exact ⟨rfl, B4.out⟩
  | true =>
    go_upto_region 20 with fail
    refine wp_region_lit ?_
    iterate 2 ((with_reducible refine rN (v := .bool true) ?_ ?_ ?_); (· rfl); (· go_simp; (try with_reducible rfl)); simp only [pu, sB, s0, sS])
    with_reducible refine wpList_loadS (.tmp 4) ?_ ?_ KU4.out Tryz.underlying27 ?_ (infoTM19 (cells3_sz (cellsF_size f fs))) ?_
    · rfl
    · rfl
    · rfl
    simp only [pu, sB, s0, sS]
    (with_reducible refine rN (v := .agg (cells3 0 0 0 cellsZ)) ?_ ?_ ?_); (· rfl); (· go_simp; rfl); simp only [pu, sB, s0, sS]
    iterate 3 ((with_reducible refine rN (v := .bool true) ?_ ?_ ?_); (· rfl); (· go_simp; (try with_reducible rfl)); simp only [pu, sB, s0, sS])
    go_wp2_with fail
    go_ret
    exact ⟨rfl, B4.out⟩

set_option maxHeartbeats 8000000 in
set_option maxRecDepth 100000 in
theorem isOther (k n c : Int) (f : Fil.Flt) (fs : ByteArray) (w : World)
    (h2 : (k == 2) = false) (h0 : (k == 0) = false) (h4 : (k == 4) = false) (h1 : (k == 1) = false) (h3 : (k == 3) = false) (h5 : (k == 5) = false) (h6 : (k == 6) = false) (h7 : (k == 7) = false) :
    Calls Tryz.prog 9 #[.agg (cells3 k n c (cellsF f fs))] w fun e w' => e = .returned (.bool false) ∧ Below w.heap.size w w' := by

  have B0 := Lib.hid (Below.refl w.heap.size w)
  go_enter Tryz.func9, Tryz.ntmps9
  go_upto_region 0 with fail
  refine wp_region_lit ?_
  obtain ⟨w1, hw⟩ : ∃ v, v = w.alloc (.cells (cells3 k n c (cellsF f fs)) 27) := ⟨_, rfl⟩
  obtain ⟨pA, hp⟩ : ∃ v, v = w.heap.size := ⟨_, rfl⟩
  have B1 : Hid (Below w.heap.size w w1) := Lib.hid (by rw [hw]; exact B0.out.alloc B0.out.size _)
  have LEA : Hid (w.heap.size ≤ pA) := Lib.hid (by rw [hp]; exact B0.out.size)
  have KA1 : Hid (Blk w1 pA (cells3 k n c (cellsF f fs)) 27) := Lib.hid (by rw [hw, hp]; exact Blk.new _ _ _)
  with_reducible refine wpList_runWV (some 1) (v := .pointer (some ⟨pA, 0, none⟩)) (w' := w1) ?_ ?_ ?_ ?_
  · rfl
  · rfl
  · rw [hw, hp]; (go_simp; (try rfl))
  simp only [pu, sB, s0, sS]
  clear hw hp
  clear B0
  (with_reducible refine rN (v := .bool false) ?_ ?_ ?_); (· rfl); (· go_simp; (try with_reducible rfl)); simp only [pu, sB, s0, sS]
  go_upto_region 1 with fail
  refine wp_region_lit ?_
  (with_reducible refine rN (v := .bool true) ?_ ?_ ?_); (· rfl); (· go_simp; (try with_reducible rfl)); simp only [pu, sB, s0, sS]
  go_upto_region 2 with fail
  refine wp_region_lit ?_
  with_reducible refine wpList_loadS (.tmp 1) ?_ ?_ KA1.out Tryz.underlying27 ?_ (infoTM19 (cells3_sz (cellsF_size f fs))) ?_
  · rfl
  · rfl
  · rfl
  simp only [pu, sB, s0, sS]
  obtain ⟨w2, hw⟩ : ∃ v, v = w1.alloc (.cells (cells3 0 0 0 cellsZ) 27) := ⟨_, rfl⟩
  obtain ⟨pU, hp⟩ : ∃ v, v = w1.heap.size := ⟨_, rfl⟩
  have B2 : Hid (Below w.heap.size w w2) := Lib.hid (by rw [hw]; exact B1.out.alloc B1.out.size _)
  have LEU : Hid (w.heap.size ≤ pU) := Lib.hid (by rw [hp]; exact B1.out.size)
  have KA2 := Lib.hid (show Blk w2 pA (cells3 k n c (cellsF f fs)) 27 by rw [hw]; exact KA1.out.alloc _)
  have NEAU : Hid (pA ≠ pU) := Lib.hid (by rw [hp]; exact Nat.ne_of_lt KA1.out.lt)
  have NEUA : Hid (pU ≠ pA) := Lib.hid (Ne.symm NEAU.out)
  have KU2 : Hid (Blk w2 pU (cells3 0 0 0 cellsZ) 27) := Lib.hid (by rw [hw, hp]; exact Blk.new _ _ _)
  with_reducible refine wpList_runWV (some 4) (v := .pointer (some ⟨pU, 0, none⟩)) (w' := w2) ?_ ?_ ?_ ?_
  · rfl
  · rfl
  · rw [hw, hp]; (go_simp; (try rfl))
  simp only [pu, sB, s0, sS]
  clear hw hp
  clear B1 KA1
  have KU3 := Lib.hid (KU2.out.stored (o := 0) (vs := (cells3 k n c (cellsF f fs)).toList) (laidAt_whole (Eq.trans (cells3_sz (cellsF_size f fs)) (Eq.symm (cells3_sz cellsZ_size)))))
  have KA3 := Lib.hid (KA2.out.wholeElse ((cells3 k n c (cellsF f fs)).toList) (o := 0) NEAU.out)
  have B3 := Lib.hid (below_whole ((cells3 k n c (cellsF f fs)).toList) (o := 0) B2.out LEU.out)
  with_reducible refine wpList_storeM (.tmp 4) (.tmp 5) (o := 0) (vs := (cells3 k n c (cellsF f fs))) ?_ ?_ KU2.out ?_ (infoTM19 (cells3_sz (cellsF_size f fs))) (cells3_one (cellsF_one f fs)) ?_
  · rfl
  · rfl
  · exact (by have h0 : (cells3 0 0 0 cellsZ).size = 19 := (cells3_sz cellsZ_size); have h1 : (cells3 k n c (cellsF f fs)).size = 19 := (cells3_sz (cellsF_size f fs)); omega)
  (try simp only [Act.put])
  generalize World.setCells _ _ _ _ = w3 at KA3 KU3 B3 ⊢
  clear B2 KA2 KU2
  go_upto_region 3 with fail
  refine wp_region_lit ?_
  (with_reducible refine rN (v := .pointer (some ⟨pU, 0, none⟩)) ?_ ?_ ?_); (· rfl); (· go_simp; (try rfl)); simp only [pu, sB, s0, sS]
  have KU4 := Lib.hid (KU3.out.stored (o := 0) (vs := [.int .i64 0]) (cells3_put0 _ _ _ _ _))
  have KA4 := Lib.hid (KA3.out.wholeElse ([.int .i64 0]) (o := 0) NEAU.out)
  have B4 := Lib.hid (below_whole ([.int .i64 0]) (o := 0) B3.out LEU.out)
  with_reducible refine wpList_storeV (.tmp 6) (.const (.int .i64 0)) (j := 0) (v := .int .i64 0) ?_ ?_ KU3.out ?_ (by kernel_rfl) (by simp [Value.oneCell']) ?_
  · rfl
  · rfl
  · exact (by have h0 : (cells3 k n c (cellsF f fs)).size = 19 := (cells3_sz (cellsF_size f fs)); omega)
  (try simp only [Act.put])
  generalize World.setCells _ _ _ _ = w4 at KA4 KU4 B4 ⊢
  clear B3 KA3 KU3
  go_upto_region 4 with fail
  refine wp_region_lit ?_
  (with_reducible refine rN (v := .pointer (some ⟨pA, 0, none⟩)) ?_ ?_ ?_); (· rfl); (· go_simp; (try rfl)); simp only [pu, sB, s0, sS]
  with_reducible refine wpList_loadV (.tmp 7) (j := 0) (v := .int .i64 k) ?_ ?_ KA4.out ?_ Tryz.underlying3 ?_ ?_
  · rfl
  · rfl
  · exact (cells3_0 ..)
  · rfl
  simp only [pu, sB, s0, sS]
  go_upto_region 5 with fail
  refine wp_region_lit ?_
  iterate 2 ((with_reducible refine rN (v := .bool false) ?_ ?_ ?_); (· rfl); (· go_simp; (try with_reducible rfl)); simp only [pu, sB, s0, sS])
  go_upto_region 6 with fail
  refine wp_region_lit ?_
  iterate 2 ((with_reducible refine rN (v := .bool false) ?_ ?_ ?_); (· rfl); (· go_simp; (try with_reducible rfl)); simp only [pu, sB, s0, sS])
  go_upto_region 7 with fail
  refine wp_region_lit ?_
  iterate 2 ((with_reducible refine rN (v := .bool false) ?_ ?_ ?_); (· rfl); (· go_simp; (try with_reducible rfl)); simp only [pu, sB, s0, sS])
  go_upto_region 8 with fail
  refine wp_region_lit ?_
  iterate 2 ((with_reducible refine rN (v := .bool false) ?_ ?_ ?_); (· rfl); (· go_simp; (try with_reducible rfl)); simp only [pu, sB, s0, sS])
  go_upto_region 9 with fail
  refine wp_region_lit ?_
  iterate 2 ((with_reducible refine rN (v := .bool false) ?_ ?_ ?_); (· rfl); (· go_simp; (try with_reducible rfl)); simp only [pu, sB, s0, sS])
  go_upto_region 10 with fail
  refine wp_region_lit ?_
  iterate 2 ((with_reducible refine rN (v := .bool false) ?_ ?_ ?_); (· rfl); (· go_simp; (try with_reducible rfl)); simp only [pu, sB, s0, sS])
  go_upto_region 11 with fail
  refine wp_region_lit ?_
  iterate 2 ((with_reducible refine rN (v := .bool false) ?_ ?_ ?_); (· rfl); (· go_simp; (try with_reducible rfl)); simp only [pu, sB, s0, sS])
  go_upto_region 12 with fail
  refine wp_region_lit ?_
  iterate 2 ((with_reducible refine rN (v := .bool false) ?_ ?_ ?_); (· rfl); (· go_simp; (try with_reducible rfl)); simp only [pu, sB, s0, sS])
  go_upto_region 19 with fail
  refine wp_region_lit ?_
  (with_reducible refine rN (v := .bool false) ?_ ?_ ?_); (· rfl); (· go_simp; (try with_reducible rfl)); simp only [pu, sB, s0, sS]
  go_wp2_with fail
  go_ret
  exact ⟨rfl, B4.out⟩
end Go.Proofs.YtohgdmlpffeoiaaGreatDoor
namespace Go.Proofs.YtohgdmlpffeoiaaGreatDoor
open Go.RowKit
open Wd (Bs)

set_option maxHeartbeats 2000000 in
theorem amtIs (k n c : Int) (f : Fil.Flt) (fs : ByteArray) (hf : f.sub = fs.data.toList) (hs : fs.size ≤ maxLen) (w : World) (hE : EnvA w) :
    Calls Tryz.prog 9 #[.agg (cells3 k n c (cellsF f fs))] w fun e w' => e = .returned (.bool (Amt.okB ⟨k, n, c, f⟩)) ∧ Below w.heap.size w w' := by
  have EZ : ∀ W : World, (Op.equalIn 10000 27 (.agg (cells3 0 n c (cellsF f fs))) (.agg (cells3 0 0 0 cellsZ))).run Tryz.prog W = .ok (Amt.bareB n c f) W := fun W => by
    rw [← eqM_bare]; exact run_eq_amt 0 n c 0 0 0 f Fil.zero fs ⟨#[]⟩ hf rfl W
  by_cases h2 : k = 2
  · subst h2
    refine (isCount n c f fs w (decide (1 ≤ n)) (decide (n ≤ 99)) (Fil.validB f) (Amt.bareB 0 c Fil.zero) rfl rfl (fun h => by simp at h ⊢; omega) (fun h => by simp at h ⊢; omega)
      (Lib.hid fun W hb => filIs f fs hf hs W (hE.fil.below hb)) (Lib.hid fun W => by rw [← eqM_bare]; exact run_eq_amt 0 0 c 0 0 0 Fil.zero Fil.zero ⟨#[]⟩ ⟨#[]⟩ rfl rfl W)).mono ?_
    rintro e w1 ⟨rfl, hb⟩
    exact ⟨by simp [Amt.okB, Bool.and_assoc], hb⟩
  by_cases h0 : k = 0
  · subst h0
    refine (isConst n c f fs w (decide (0 ≤ n)) (decide (n ≤ 1000000)) (Amt.bareB 0 c f) rfl rfl (Lib.hid fun W => by rw [← eqM_bare]; exact run_eq_amt 0 0 c 0 0 0 f Fil.zero fs ⟨#[]⟩ hf rfl W)).mono ?_
    rintro e w1 ⟨rfl, hb⟩
    exact ⟨by simp [Amt.okB, Fil.within], hb⟩
  by_cases h4 : k = 4
  · subst h4
    refine (isCtr n c ⟨(Ctr.nameI c).toArray⟩ f fs w (decide (Ctr.nameI c ≠ [])) (Amt.bareB n 0 f) ?_ (Lib.hid fun W hb => (counterName c W (hE.ctr.below hb)).mono (by rintro e w1 ⟨rfl, rfl⟩; exact ⟨rfl, Below.refl _ _⟩)) (Lib.hid fun W => by rw [← eqM_bare]; exact run_eq_amt 0 n 0 0 0 0 f Fil.zero fs ⟨#[]⟩ hf rfl W)).mono ?_
    · rw [Lib.toList_data]
      cases Ctr.nameI c <;> simp
    rintro e w1 ⟨rfl, hb⟩
    exact ⟨by simp [Amt.okB], hb⟩
  by_cases h1 : k = 1
  · subst h1
    refine (isWord1 n c f fs w _ (Lib.hid EZ)).mono ?_
    rintro e w1 ⟨rfl, hb⟩
    exact ⟨by simp [Amt.okB], hb⟩
  by_cases h3 : k = 3
  · subst h3
    refine (isWord3 n c f fs w _ (Lib.hid EZ)).mono ?_
    rintro e w1 ⟨rfl, hb⟩
    exact ⟨by simp [Amt.okB], hb⟩
  by_cases h5 : k = 5
  · subst h5
    refine (isWord5 n c f fs w _ (Lib.hid EZ)).mono ?_
    rintro e w1 ⟨rfl, hb⟩
    exact ⟨by simp [Amt.okB], hb⟩
  by_cases h6 : k = 6
  · subst h6
    refine (isWord6 n c f fs w _ (Lib.hid EZ)).mono ?_
    rintro e w1 ⟨rfl, hb⟩
    exact ⟨by simp [Amt.okB], hb⟩
  by_cases h7 : k = 7
  · subst h7
    refine (isWord7 n c f fs w _ (Lib.hid EZ)).mono ?_
    rintro e w1 ⟨rfl, hb⟩
    exact ⟨by simp [Amt.okB], hb⟩
  refine (isOther k n c f fs w (by simpa using h2) (by simpa using h0) (by simpa using h4) (by simpa using h1) (by simpa using h3) (by simpa using h5) (by simpa using h6) (by simpa using h7)).mono ?_
  rintro e w1 ⟨rfl, hb⟩
  refine ⟨?_, hb⟩
  have : (decide (1 ≤ k) && decide (k ≤ 7)) = false := by
    cases hd : (decide (1 ≤ k) && decide (k ≤ 7)) with
    | false => rfl
    | true => simp only [Bool.and_eq_true, decide_eq_true_eq] at hd; omega
  simp [Amt.okB, h0, h2, h4, this]
end Go.Proofs.YtohgdmlpffeoiaaGreatDoor
