/-
  MERGED: FilKit, Struct, FilCell, FilParseB, FilParse, FilEq, FilParseC, FilAliveA, FilHand, FilLit, StructB, FilCells, Cat, TgPlain, DrawKit, Mm, LoadM, Ms, Mr. By an AI agent.
-/
import Derived.Test.YtkohfomiigcifaaGreatDoorFilReadP
import Derived.Deep.MidRow
import Derived.Test.YtkohfomiigcifaaGreatDoorBlk
import Derived.Deep.RegionHeld3
import Derived.WalkKit
import Derived.Deep.Cut
import Derived.Test.YtkohfomiigcifaaGreatDoorFilText
import Derived.Test.YtkohfomiigcifaaGreatDoorFilIs
import Derived.Laws.StructEq
import Derived.ChangeKeysEq
import Derived.Test.YtkohfomiigcifaaGreatDoorHand
import Derived.Lib.ReflectliteSwap
import Derived.Test.YtkohfomiigcifaaGreatDoorFilTake
import Derived.Test.YtkohfomiigcifaaGreatDoorFilRef
import Derived.Test.YtkohfomiigcifaaGreatDoorFWord
import Derived.Laws.Tables
import Derived.StillTail
namespace Go.Proofs.YtkohfomiigcifaaGreatDoor
open Go.RowKit
open Wd (Bs)

theorem sizeTF : (Tryz.prog.info? 25).map (·.size) = some 16 := by kernel_rfl
theorem Blk.range {w : World} {b : Nat} {cs : Array Value} {t : TypeId} (h : Blk w b cs t) : w.rangeAt b 0 cs.toList := fun j v hv => by
  rw [Nat.zero_add, h.cell j]
  simpa using hv
theorem Blk.load16 {w : World} {b : Nat} {cs : Array Value} (h : Blk w b cs 25) (hn : cs.size = 16) : (Instr.loadAt 25 (.pointer (some ⟨b, 0, none⟩))).run Tryz.prog w = .ok (.agg cs) w := by
  have := run_loadAt_mid (P := Tryz.prog) w b 0 25 cs.toList _ h.range Tryz.underlying25 rfl (by rw [sizeTF]; simp [hn])
  simpa using this
theorem Blk.there {w : World} {b : Nat} {cs : Array Value} {t : TypeId} (h : Blk w b cs t) : w.there b 0 cs.size := fun j hj => by
  rw [Nat.zero_add]
  exact ⟨by rw [h.cell j, Array.getElem?_eq_getElem hj]; rfl, h.free j⟩
theorem Blk.store16 {w : World} {b : Nat} {cs : Array Value} (h : Blk w b cs 25) (hn : cs.size = 16) (a : Fil.Acc) (fs : ByteArray) :
    (Instr.storeAt 25 (.pointer (some ⟨b, 0, none⟩)) (.agg #[.int .i64 (a.zone : Int), .int .i64 (a.who : Int), .int .i64 (a.self : Int), .int .i64 (a.types : Int), .int .i64 (a.ntypes : Int), .int .i64 (a.colors : Int), .int .i64 (a.ncolors : Int), .string fs, .int .i64 (a.keys : Int), .int .i64 (a.tap : Int), .int .i64 a.pow.kind, .int .i64 a.pow.n, .int .i64 a.tough.kind, .int .i64 a.tough.n, .int .i64 a.val.kind, .int .i64 a.val.n])).run Tryz.prog w = .ok () (Go.Proofs.YtkohfomiigcifaaGreatDoor.set16 w b a fs) :=
  run_storeAt_mid (P := Tryz.prog) w b 0 25 #[.int .i64 (a.zone : Int), .int .i64 (a.who : Int), .int .i64 (a.self : Int), .int .i64 (a.types : Int), .int .i64 (a.ntypes : Int), .int .i64 (a.colors : Int), .int .i64 (a.ncolors : Int), .string fs, .int .i64 (a.keys : Int), .int .i64 (a.tap : Int), .int .i64 a.pow.kind, .int .i64 a.pow.n, .int .i64 a.tough.kind, .int .i64 a.tough.n, .int .i64 a.val.kind, .int .i64 a.val.n] (by have := h.there; rw [hn] at this; exact this) (by rw [sizeTF]; rfl) (by simp [Value.oneCell'])
def zero16 (w : World) (b : Nat) : World := ((((((((((((((((w.setCell ⟨b, 0, none⟩ (.int .i64 0)).setCell ⟨b, 1, none⟩ (.int .i64 0)).setCell ⟨b, 2, none⟩ (.int .i64 0)).setCell ⟨b, 3, none⟩ (.int .i64 0)).setCell ⟨b, 4, none⟩ (.int .i64 0)).setCell ⟨b, 5, none⟩ (.int .i64 0)).setCell ⟨b, 6, none⟩ (.int .i64 0)).setCell ⟨b, 7, none⟩ (.string ⟨#[]⟩)).setCell ⟨b, 8, none⟩ (.int .i64 0)).setCell ⟨b, 9, none⟩ (.int .i64 0)).setCell ⟨b, 10, none⟩ (.int .i64 0)).setCell ⟨b, 11, none⟩ (.int .i64 0)).setCell ⟨b, 12, none⟩ (.int .i64 0)).setCell ⟨b, 13, none⟩ (.int .i64 0)).setCell ⟨b, 14, none⟩ (.int .i64 0)).setCell ⟨b, 15, none⟩ (.int .i64 0))
theorem Blk.zero16 {w : World} {b : Nat} {t : TypeId} (h : Blk w b #[.int .i64 0, .int .i64 0, .int .i64 0, .int .i64 0, .int .i64 0, .int .i64 0, .int .i64 0, .string ⟨#[]⟩, .int .i64 0, .int .i64 0, .int .i64 0, .int .i64 0, .int .i64 0, .int .i64 0, .int .i64 0, .int .i64 0] t) : Blk (zero16 w b) b #[.int .i64 0, .int .i64 0, .int .i64 0, .int .i64 0, .int .i64 0, .int .i64 0, .int .i64 0, .string ⟨#[]⟩, .int .i64 0, .int .i64 0, .int .i64 0, .int .i64 0, .int .i64 0, .int .i64 0, .int .i64 0, .int .i64 0] t := by
  have h0 : Blk (w.setCell ⟨b, 0, none⟩ (.int .i64 0)) b #[.int .i64 0, .int .i64 0, .int .i64 0, .int .i64 0, .int .i64 0, .int .i64 0, .int .i64 0, .string ⟨#[]⟩, .int .i64 0, .int .i64 0, .int .i64 0, .int .i64 0, .int .i64 0, .int .i64 0, .int .i64 0, .int .i64 0] t := h.set 0 _
  have h1 : Blk ((w.setCell ⟨b, 0, none⟩ (.int .i64 0)).setCell ⟨b, 1, none⟩ (.int .i64 0)) b #[.int .i64 0, .int .i64 0, .int .i64 0, .int .i64 0, .int .i64 0, .int .i64 0, .int .i64 0, .string ⟨#[]⟩, .int .i64 0, .int .i64 0, .int .i64 0, .int .i64 0, .int .i64 0, .int .i64 0, .int .i64 0, .int .i64 0] t := h0.set 1 _
  have h2 : Blk (((w.setCell ⟨b, 0, none⟩ (.int .i64 0)).setCell ⟨b, 1, none⟩ (.int .i64 0)).setCell ⟨b, 2, none⟩ (.int .i64 0)) b #[.int .i64 0, .int .i64 0, .int .i64 0, .int .i64 0, .int .i64 0, .int .i64 0, .int .i64 0, .string ⟨#[]⟩, .int .i64 0, .int .i64 0, .int .i64 0, .int .i64 0, .int .i64 0, .int .i64 0, .int .i64 0, .int .i64 0] t := h1.set 2 _
  have h3 : Blk ((((w.setCell ⟨b, 0, none⟩ (.int .i64 0)).setCell ⟨b, 1, none⟩ (.int .i64 0)).setCell ⟨b, 2, none⟩ (.int .i64 0)).setCell ⟨b, 3, none⟩ (.int .i64 0)) b #[.int .i64 0, .int .i64 0, .int .i64 0, .int .i64 0, .int .i64 0, .int .i64 0, .int .i64 0, .string ⟨#[]⟩, .int .i64 0, .int .i64 0, .int .i64 0, .int .i64 0, .int .i64 0, .int .i64 0, .int .i64 0, .int .i64 0] t := h2.set 3 _
  have h4 : Blk (((((w.setCell ⟨b, 0, none⟩ (.int .i64 0)).setCell ⟨b, 1, none⟩ (.int .i64 0)).setCell ⟨b, 2, none⟩ (.int .i64 0)).setCell ⟨b, 3, none⟩ (.int .i64 0)).setCell ⟨b, 4, none⟩ (.int .i64 0)) b #[.int .i64 0, .int .i64 0, .int .i64 0, .int .i64 0, .int .i64 0, .int .i64 0, .int .i64 0, .string ⟨#[]⟩, .int .i64 0, .int .i64 0, .int .i64 0, .int .i64 0, .int .i64 0, .int .i64 0, .int .i64 0, .int .i64 0] t := h3.set 4 _
  have h5 : Blk ((((((w.setCell ⟨b, 0, none⟩ (.int .i64 0)).setCell ⟨b, 1, none⟩ (.int .i64 0)).setCell ⟨b, 2, none⟩ (.int .i64 0)).setCell ⟨b, 3, none⟩ (.int .i64 0)).setCell ⟨b, 4, none⟩ (.int .i64 0)).setCell ⟨b, 5, none⟩ (.int .i64 0)) b #[.int .i64 0, .int .i64 0, .int .i64 0, .int .i64 0, .int .i64 0, .int .i64 0, .int .i64 0, .string ⟨#[]⟩, .int .i64 0, .int .i64 0, .int .i64 0, .int .i64 0, .int .i64 0, .int .i64 0, .int .i64 0, .int .i64 0] t := h4.set 5 _
  have h6 : Blk (((((((w.setCell ⟨b, 0, none⟩ (.int .i64 0)).setCell ⟨b, 1, none⟩ (.int .i64 0)).setCell ⟨b, 2, none⟩ (.int .i64 0)).setCell ⟨b, 3, none⟩ (.int .i64 0)).setCell ⟨b, 4, none⟩ (.int .i64 0)).setCell ⟨b, 5, none⟩ (.int .i64 0)).setCell ⟨b, 6, none⟩ (.int .i64 0)) b #[.int .i64 0, .int .i64 0, .int .i64 0, .int .i64 0, .int .i64 0, .int .i64 0, .int .i64 0, .string ⟨#[]⟩, .int .i64 0, .int .i64 0, .int .i64 0, .int .i64 0, .int .i64 0, .int .i64 0, .int .i64 0, .int .i64 0] t := h5.set 6 _
  have h7 : Blk ((((((((w.setCell ⟨b, 0, none⟩ (.int .i64 0)).setCell ⟨b, 1, none⟩ (.int .i64 0)).setCell ⟨b, 2, none⟩ (.int .i64 0)).setCell ⟨b, 3, none⟩ (.int .i64 0)).setCell ⟨b, 4, none⟩ (.int .i64 0)).setCell ⟨b, 5, none⟩ (.int .i64 0)).setCell ⟨b, 6, none⟩ (.int .i64 0)).setCell ⟨b, 7, none⟩ (.string ⟨#[]⟩)) b #[.int .i64 0, .int .i64 0, .int .i64 0, .int .i64 0, .int .i64 0, .int .i64 0, .int .i64 0, .string ⟨#[]⟩, .int .i64 0, .int .i64 0, .int .i64 0, .int .i64 0, .int .i64 0, .int .i64 0, .int .i64 0, .int .i64 0] t := h6.set 7 _
  have h8 : Blk (((((((((w.setCell ⟨b, 0, none⟩ (.int .i64 0)).setCell ⟨b, 1, none⟩ (.int .i64 0)).setCell ⟨b, 2, none⟩ (.int .i64 0)).setCell ⟨b, 3, none⟩ (.int .i64 0)).setCell ⟨b, 4, none⟩ (.int .i64 0)).setCell ⟨b, 5, none⟩ (.int .i64 0)).setCell ⟨b, 6, none⟩ (.int .i64 0)).setCell ⟨b, 7, none⟩ (.string ⟨#[]⟩)).setCell ⟨b, 8, none⟩ (.int .i64 0)) b #[.int .i64 0, .int .i64 0, .int .i64 0, .int .i64 0, .int .i64 0, .int .i64 0, .int .i64 0, .string ⟨#[]⟩, .int .i64 0, .int .i64 0, .int .i64 0, .int .i64 0, .int .i64 0, .int .i64 0, .int .i64 0, .int .i64 0] t := h7.set 8 _
  have h9 : Blk ((((((((((w.setCell ⟨b, 0, none⟩ (.int .i64 0)).setCell ⟨b, 1, none⟩ (.int .i64 0)).setCell ⟨b, 2, none⟩ (.int .i64 0)).setCell ⟨b, 3, none⟩ (.int .i64 0)).setCell ⟨b, 4, none⟩ (.int .i64 0)).setCell ⟨b, 5, none⟩ (.int .i64 0)).setCell ⟨b, 6, none⟩ (.int .i64 0)).setCell ⟨b, 7, none⟩ (.string ⟨#[]⟩)).setCell ⟨b, 8, none⟩ (.int .i64 0)).setCell ⟨b, 9, none⟩ (.int .i64 0)) b #[.int .i64 0, .int .i64 0, .int .i64 0, .int .i64 0, .int .i64 0, .int .i64 0, .int .i64 0, .string ⟨#[]⟩, .int .i64 0, .int .i64 0, .int .i64 0, .int .i64 0, .int .i64 0, .int .i64 0, .int .i64 0, .int .i64 0] t := h8.set 9 _
  have h10 : Blk (((((((((((w.setCell ⟨b, 0, none⟩ (.int .i64 0)).setCell ⟨b, 1, none⟩ (.int .i64 0)).setCell ⟨b, 2, none⟩ (.int .i64 0)).setCell ⟨b, 3, none⟩ (.int .i64 0)).setCell ⟨b, 4, none⟩ (.int .i64 0)).setCell ⟨b, 5, none⟩ (.int .i64 0)).setCell ⟨b, 6, none⟩ (.int .i64 0)).setCell ⟨b, 7, none⟩ (.string ⟨#[]⟩)).setCell ⟨b, 8, none⟩ (.int .i64 0)).setCell ⟨b, 9, none⟩ (.int .i64 0)).setCell ⟨b, 10, none⟩ (.int .i64 0)) b #[.int .i64 0, .int .i64 0, .int .i64 0, .int .i64 0, .int .i64 0, .int .i64 0, .int .i64 0, .string ⟨#[]⟩, .int .i64 0, .int .i64 0, .int .i64 0, .int .i64 0, .int .i64 0, .int .i64 0, .int .i64 0, .int .i64 0] t := h9.set 10 _
  have h11 : Blk ((((((((((((w.setCell ⟨b, 0, none⟩ (.int .i64 0)).setCell ⟨b, 1, none⟩ (.int .i64 0)).setCell ⟨b, 2, none⟩ (.int .i64 0)).setCell ⟨b, 3, none⟩ (.int .i64 0)).setCell ⟨b, 4, none⟩ (.int .i64 0)).setCell ⟨b, 5, none⟩ (.int .i64 0)).setCell ⟨b, 6, none⟩ (.int .i64 0)).setCell ⟨b, 7, none⟩ (.string ⟨#[]⟩)).setCell ⟨b, 8, none⟩ (.int .i64 0)).setCell ⟨b, 9, none⟩ (.int .i64 0)).setCell ⟨b, 10, none⟩ (.int .i64 0)).setCell ⟨b, 11, none⟩ (.int .i64 0)) b #[.int .i64 0, .int .i64 0, .int .i64 0, .int .i64 0, .int .i64 0, .int .i64 0, .int .i64 0, .string ⟨#[]⟩, .int .i64 0, .int .i64 0, .int .i64 0, .int .i64 0, .int .i64 0, .int .i64 0, .int .i64 0, .int .i64 0] t := h10.set 11 _
  have h12 : Blk (((((((((((((w.setCell ⟨b, 0, none⟩ (.int .i64 0)).setCell ⟨b, 1, none⟩ (.int .i64 0)).setCell ⟨b, 2, none⟩ (.int .i64 0)).setCell ⟨b, 3, none⟩ (.int .i64 0)).setCell ⟨b, 4, none⟩ (.int .i64 0)).setCell ⟨b, 5, none⟩ (.int .i64 0)).setCell ⟨b, 6, none⟩ (.int .i64 0)).setCell ⟨b, 7, none⟩ (.string ⟨#[]⟩)).setCell ⟨b, 8, none⟩ (.int .i64 0)).setCell ⟨b, 9, none⟩ (.int .i64 0)).setCell ⟨b, 10, none⟩ (.int .i64 0)).setCell ⟨b, 11, none⟩ (.int .i64 0)).setCell ⟨b, 12, none⟩ (.int .i64 0)) b #[.int .i64 0, .int .i64 0, .int .i64 0, .int .i64 0, .int .i64 0, .int .i64 0, .int .i64 0, .string ⟨#[]⟩, .int .i64 0, .int .i64 0, .int .i64 0, .int .i64 0, .int .i64 0, .int .i64 0, .int .i64 0, .int .i64 0] t := h11.set 12 _
  have h13 : Blk ((((((((((((((w.setCell ⟨b, 0, none⟩ (.int .i64 0)).setCell ⟨b, 1, none⟩ (.int .i64 0)).setCell ⟨b, 2, none⟩ (.int .i64 0)).setCell ⟨b, 3, none⟩ (.int .i64 0)).setCell ⟨b, 4, none⟩ (.int .i64 0)).setCell ⟨b, 5, none⟩ (.int .i64 0)).setCell ⟨b, 6, none⟩ (.int .i64 0)).setCell ⟨b, 7, none⟩ (.string ⟨#[]⟩)).setCell ⟨b, 8, none⟩ (.int .i64 0)).setCell ⟨b, 9, none⟩ (.int .i64 0)).setCell ⟨b, 10, none⟩ (.int .i64 0)).setCell ⟨b, 11, none⟩ (.int .i64 0)).setCell ⟨b, 12, none⟩ (.int .i64 0)).setCell ⟨b, 13, none⟩ (.int .i64 0)) b #[.int .i64 0, .int .i64 0, .int .i64 0, .int .i64 0, .int .i64 0, .int .i64 0, .int .i64 0, .string ⟨#[]⟩, .int .i64 0, .int .i64 0, .int .i64 0, .int .i64 0, .int .i64 0, .int .i64 0, .int .i64 0, .int .i64 0] t := h12.set 13 _
  have h14 : Blk (((((((((((((((w.setCell ⟨b, 0, none⟩ (.int .i64 0)).setCell ⟨b, 1, none⟩ (.int .i64 0)).setCell ⟨b, 2, none⟩ (.int .i64 0)).setCell ⟨b, 3, none⟩ (.int .i64 0)).setCell ⟨b, 4, none⟩ (.int .i64 0)).setCell ⟨b, 5, none⟩ (.int .i64 0)).setCell ⟨b, 6, none⟩ (.int .i64 0)).setCell ⟨b, 7, none⟩ (.string ⟨#[]⟩)).setCell ⟨b, 8, none⟩ (.int .i64 0)).setCell ⟨b, 9, none⟩ (.int .i64 0)).setCell ⟨b, 10, none⟩ (.int .i64 0)).setCell ⟨b, 11, none⟩ (.int .i64 0)).setCell ⟨b, 12, none⟩ (.int .i64 0)).setCell ⟨b, 13, none⟩ (.int .i64 0)).setCell ⟨b, 14, none⟩ (.int .i64 0)) b #[.int .i64 0, .int .i64 0, .int .i64 0, .int .i64 0, .int .i64 0, .int .i64 0, .int .i64 0, .string ⟨#[]⟩, .int .i64 0, .int .i64 0, .int .i64 0, .int .i64 0, .int .i64 0, .int .i64 0, .int .i64 0, .int .i64 0] t := h13.set 14 _
  have h15 : Blk ((((((((((((((((w.setCell ⟨b, 0, none⟩ (.int .i64 0)).setCell ⟨b, 1, none⟩ (.int .i64 0)).setCell ⟨b, 2, none⟩ (.int .i64 0)).setCell ⟨b, 3, none⟩ (.int .i64 0)).setCell ⟨b, 4, none⟩ (.int .i64 0)).setCell ⟨b, 5, none⟩ (.int .i64 0)).setCell ⟨b, 6, none⟩ (.int .i64 0)).setCell ⟨b, 7, none⟩ (.string ⟨#[]⟩)).setCell ⟨b, 8, none⟩ (.int .i64 0)).setCell ⟨b, 9, none⟩ (.int .i64 0)).setCell ⟨b, 10, none⟩ (.int .i64 0)).setCell ⟨b, 11, none⟩ (.int .i64 0)).setCell ⟨b, 12, none⟩ (.int .i64 0)).setCell ⟨b, 13, none⟩ (.int .i64 0)).setCell ⟨b, 14, none⟩ (.int .i64 0)).setCell ⟨b, 15, none⟩ (.int .i64 0)) b #[.int .i64 0, .int .i64 0, .int .i64 0, .int .i64 0, .int .i64 0, .int .i64 0, .int .i64 0, .string ⟨#[]⟩, .int .i64 0, .int .i64 0, .int .i64 0, .int .i64 0, .int .i64 0, .int .i64 0, .int .i64 0, .int .i64 0] t := h14.set 15 _
  exact h15
theorem below_zero16 {C : Nat} {w0 w : World} {b : Nat} (h : Below C w0 w) (hC : C ≤ b) : Below C w0 (zero16 w b) :=
  ((((((((((((((((h.setCell (by exact hC) _).setCell (by exact hC) _).setCell (by exact hC) _).setCell (by exact hC) _).setCell (by exact hC) _).setCell (by exact hC) _).setCell (by exact hC) _).setCell (by exact hC) _).setCell (by exact hC) _).setCell (by exact hC) _).setCell (by exact hC) _).setCell (by exact hC) _).setCell (by exact hC) _).setCell (by exact hC) _).setCell (by exact hC) _).setCell (by exact hC) _)
theorem Blk.storeZ {w : World} {b : Nat} {cs : Array Value} (h : Blk w b cs 25) (hn : cs.size = 16) : (Instr.storeAt 25 (.pointer (some ⟨b, 0, none⟩)) (.agg #[.int .i64 0, .int .i64 0, .int .i64 0, .int .i64 0, .int .i64 0, .int .i64 0, .int .i64 0, .string ⟨#[]⟩, .int .i64 0, .int .i64 0, .int .i64 0, .int .i64 0, .int .i64 0, .int .i64 0, .int .i64 0, .int .i64 0])).run Tryz.prog w = .ok () (Go.Proofs.YtkohfomiigcifaaGreatDoor.zero16 w b) :=
  run_storeAt_mid (P := Tryz.prog) w b 0 25 #[.int .i64 0, .int .i64 0, .int .i64 0, .int .i64 0, .int .i64 0, .int .i64 0, .int .i64 0, .string ⟨#[]⟩, .int .i64 0, .int .i64 0, .int .i64 0, .int .i64 0, .int .i64 0, .int .i64 0, .int .i64 0, .int .i64 0] (by have := h.there; rw [hn] at this; exact this) (by rw [sizeTF]; rfl) (by simp [Value.oneCell'])
/-! the two operations at a region's list, guarded ones that are wanted too -/
theorem wpList_loadF {ops : Array Oper} {rest : List Oper} {a : Act} {w : World} {Q : Exit → Act → World → Prop} {d : Option Tmp} {ty : TypeId} {ps : String} {af : Array Edge} {gd : Option (Nat × Bool)} (x : Operand)
    (hw : Region.wanted { dst := d, op := .load 25 x, type := ty, pos := ps, after := af, guard := gd } (yielded ops a.tmps) = true)
    {b : Nat} {cs : Array Value} (hx : a.eval x = .pointer (some ⟨b, 0, none⟩)) (hk : Blk w b cs 25) (hn : cs.size = 16) (h : wpList Tryz.prog ops Q rest (a.put d (.agg cs)) w) :
    wpList Tryz.prog ops Q ({ dst := d, op := .load 25 x, type := ty, pos := ps, after := af, guard := gd } :: rest) a w := by
  unfold wpList
  rw [if_pos hw]
  refine .inl (wp_load_mid 25 x rfl b 0 hx cs.toList _ hk.range Tryz.underlying25 rfl (by rw [sizeTF]; simp [hn]) ?_)
  simpa using h
theorem wpList_storeF {ops : Array Oper} {rest : List Oper} {c : Act} {w : World} {Q : Exit → Act → World → Prop} {d : Option Tmp} {ty : TypeId} {ps : String} {af : Array Edge} (x y : Operand)
    {b : Nat} {cs : Array Value} {a : Fil.Acc} {fs : ByteArray} (hx : c.eval x = .pointer (some ⟨b, 0, none⟩)) (hy : c.eval y = .agg #[.int .i64 (a.zone : Int), .int .i64 (a.who : Int), .int .i64 (a.self : Int), .int .i64 (a.types : Int), .int .i64 (a.ntypes : Int), .int .i64 (a.colors : Int), .int .i64 (a.ncolors : Int), .string fs, .int .i64 (a.keys : Int), .int .i64 (a.tap : Int), .int .i64 a.pow.kind, .int .i64 a.pow.n, .int .i64 a.tough.kind, .int .i64 a.tough.n, .int .i64 a.val.kind, .int .i64 a.val.n]) (hk : Blk w b cs 25) (hn : cs.size = 16) (h : wpList Tryz.prog ops Q rest (c.put d undef) (Go.Proofs.YtkohfomiigcifaaGreatDoor.set16 w b a fs)) :
    wpList Tryz.prog ops Q ({ dst := d, op := .store 25 x y, type := ty, pos := ps, after := af, guard := none } :: rest) c w :=
  wpList_store_mid rfl 25 x y rfl b 0 #[.int .i64 (a.zone : Int), .int .i64 (a.who : Int), .int .i64 (a.self : Int), .int .i64 (a.types : Int), .int .i64 (a.ntypes : Int), .int .i64 (a.colors : Int), .int .i64 (a.ncolors : Int), .string fs, .int .i64 (a.keys : Int), .int .i64 (a.tap : Int), .int .i64 a.pow.kind, .int .i64 a.pow.n, .int .i64 a.tough.kind, .int .i64 a.tough.n, .int .i64 a.val.kind, .int .i64 a.val.n] hx hy (by have := hk.there; rw [hn] at this; exact this) (by rw [sizeTF]; rfl) (by simp [Value.oneCell']) h
theorem wpList_storeZ {ops : Array Oper} {rest : List Oper} {c : Act} {w : World} {Q : Exit → Act → World → Prop} {d : Option Tmp} {ty : TypeId} {ps : String} {af : Array Edge} (x y : Operand)
    {b : Nat} {cs : Array Value} (hx : c.eval x = .pointer (some ⟨b, 0, none⟩)) (hy : c.eval y = .agg #[.int .i64 0, .int .i64 0, .int .i64 0, .int .i64 0, .int .i64 0, .int .i64 0, .int .i64 0, .string ⟨#[]⟩, .int .i64 0, .int .i64 0, .int .i64 0, .int .i64 0, .int .i64 0, .int .i64 0, .int .i64 0, .int .i64 0]) (hk : Blk w b cs 25) (hn : cs.size = 16) (h : wpList Tryz.prog ops Q rest (c.put d undef) (Go.Proofs.YtkohfomiigcifaaGreatDoor.zero16 w b)) :
    wpList Tryz.prog ops Q ({ dst := d, op := .store 25 x y, type := ty, pos := ps, after := af, guard := none } :: rest) c w :=
  wpList_store_mid rfl 25 x y rfl b 0 #[.int .i64 0, .int .i64 0, .int .i64 0, .int .i64 0, .int .i64 0, .int .i64 0, .int .i64 0, .string ⟨#[]⟩, .int .i64 0, .int .i64 0, .int .i64 0, .int .i64 0, .int .i64 0, .int .i64 0, .int .i64 0, .int .i64 0] hx hy (by have := hk.there; rw [hn] at this; exact this) (by rw [sizeTF]; rfl) (by simp [Value.oneCell']) h
end Go.Proofs.YtkohfomiigcifaaGreatDoor
namespace Go.Proofs.YtkohfomiigcifaaGreatDoor
open Go.RowKit

theorem Blk.rangeS {w : World} {b : Nat} {cs : Array Value} {t : TypeId} (h : Blk w b cs t) : w.rangeAt b 0 cs.toList := fun j v hv => by
  rw [Nat.zero_add, h.cell j]
  simpa using hv
theorem Blk.thereS {w : World} {b : Nat} {cs : Array Value} {t : TypeId} (h : Blk w b cs t) : w.there b 0 cs.size := fun j hj => by
  rw [Nat.zero_add]
  exact ⟨by rw [h.cell j, Array.getElem?_eq_getElem hj]; rfl, h.free j⟩
def laidAt (cs : Array Value) (o : Nat) : List Value → Array Value
  | [] => cs
  | v :: vs => laidAt (cs.setIfInBounds o v) (o + 1) vs
theorem laidAt_size : ∀ (vs : List Value) (cs : Array Value) (o : Nat), (laidAt cs o vs).size = cs.size
  | [], _, _ => rfl
  | v :: vs, cs, o => by rw [laidAt, laidAt_size vs]; simp
theorem laidAt_get : ∀ (vs : List Value) (cs : Array Value) (o j : Nat), o + vs.length ≤ cs.size → (laidAt cs o vs)[j]? = if o ≤ j ∧ j < o + vs.length then vs[j - o]? else cs[j]?
  | [], cs, o, j, _ => by rw [laidAt, if_neg (by simp)]
  | v :: vs, cs, o, j, h => by
    simp only [List.length_cons] at h ⊢
    rw [laidAt, laidAt_get vs _ _ j (by simp; omega)]
    by_cases h1 : o + 1 ≤ j ∧ j < o + 1 + vs.length
    · rw [if_pos h1, if_pos ⟨by omega, by omega⟩]
      obtain ⟨d, hd⟩ : ∃ d, j = o + 1 + d := ⟨j - (o + 1), by omega⟩
      subst hd
      rw [show o + 1 + d - (o + 1) = d by omega, show o + 1 + d - o = d + 1 by omega, List.getElem?_cons_succ]
    · rw [if_neg h1]
      by_cases h2 : j = o
      · subst h2
        rw [if_pos ⟨by omega, by omega⟩, Nat.sub_self, List.getElem?_cons_zero, Array.getElem?_setIfInBounds_self_of_lt (by omega)]
      · rw [if_neg (by omega), Array.getElem?_setIfInBounds_ne (by omega)]
theorem laidAt_whole {cs vs : Array Value} (h : vs.size = cs.size) : laidAt cs 0 vs.toList = vs := by
  apply Array.ext_getElem?
  intro j
  rw [laidAt_get _ _ _ _ (by simp [h])]
  simp only [Nat.zero_le, Nat.zero_add, true_and, Nat.sub_zero, Array.length_toList, Array.getElem?_toList]
  by_cases hj : j < vs.size
  · rw [if_pos hj]
  · rw [if_neg hj, Array.getElem?_eq_none (by omega), Array.getElem?_eq_none (by omega)]
theorem Blk.laid : ∀ {vs : List Value} {w : World} {b o : Nat} {cs : Array Value} {t : TypeId}, Blk w b cs t → Blk (w.setCells b o vs) b (laidAt cs o vs) t
  | [], _, _, _, _, _, h => h
  | v :: vs, w, b, o, cs, t, h => by
    show Blk ((w.setCell ⟨b, o, none⟩ v).setCells b (o + 1) vs) b (laidAt (cs.setIfInBounds o v) (o + 1) vs) t
    exact Blk.laid (h.set o v)
/-- a block stored whole -/
theorem Blk.whole {w : World} {b : Nat} {cs : Array Value} {t : TypeId} (h : Blk w b cs t) (vs : Array Value) (hn : vs.size = cs.size) : Blk (w.setCells b 0 vs.toList) b vs t := by
  have := h.laid (o := 0) (vs := vs.toList)
  rw [laidAt_whole hn] at this
  exact this
theorem Blk.wholeElse : ∀ (vs : List Value) {w : World} {b g o : Nat} {cs : Array Value} {t : TypeId}, Blk w b cs t → b ≠ g → Blk (w.setCells g o vs) b cs t
  | [], _, _, _, _, _, _, h, _ => h
  | v :: vs, w, b, g, o, cs, t, h, hg => by
    show Blk ((w.setCell ⟨g, o, none⟩ v).setCells g (o + 1) vs) b cs t
    exact Blk.wholeElse vs (h.other hg o v) hg
theorem below_whole : ∀ (vs : List Value) {C : Nat} {w0 w : World} {b o : Nat}, Below C w0 w → C ≤ b → Below C w0 (w.setCells b o vs)
  | [], _, _, _, _, _, h, _ => h
  | v :: vs, C, w0, w, b, o, h, hC => by
    show Below C w0 ((w.setCell ⟨b, o, none⟩ v).setCells b (o + 1) vs)
    exact below_whole vs (h.setCell (by exact hC) v) hC
theorem cell_wholeElse (vs : List Value) {w : World} {b g o : Nat} (p : Nat) (hg : b ≠ g) : (w.setCells g o vs).cell? ⟨b, p, none⟩ = w.cell? ⟨b, p, none⟩ :=
  World.cell?_setCells_out g vs o w ⟨b, p, none⟩ fun e => absurd e hg
theorem size_whole : ∀ (vs : List Value) (w : World) (b o : Nat), (w.setCells b o vs).heap.size = w.heap.size
  | [], _, _, _ => rfl
  | v :: vs, w, b, o => by
    show ((w.setCell ⟨b, o, none⟩ v).setCells b (o + 1) vs).heap.size = _
    rw [size_whole vs]; simp
section
variable {P : Program}
/-- a struct loaded whole, at a region's list -/
theorem wpList_loadS {ops : Array Oper} {rest : List Oper} {a : Act} {w : World} {Q : Exit → Act → World → Prop} {d : Option Tmp} {ty T : TypeId} {ps : String} {af : Array Edge} {gd : Option (Nat × Bool)} (x : Operand)
    (hw : Region.wanted { dst := d, op := .load T x, type := ty, pos := ps, after := af, guard := gd } (yielded ops a.tmps) = true)
    {b : Nat} {cs : Array Value} {D : TypeDesc} (hx : a.eval x = .pointer (some ⟨b, 0, none⟩)) (hk : Blk w b cs T) (hu : P.underlying T = some D) (hd : D.isRow = true) (hn : (P.info? T).map (·.size) = some cs.size)
    (h : wpList P ops Q rest (a.put d (.agg cs)) w) : wpList P ops Q ({ dst := d, op := .load T x, type := ty, pos := ps, after := af, guard := gd } :: rest) a w := by
  unfold wpList
  rw [if_pos hw]
  refine .inl (wp_load_mid T x rfl b 0 hx cs.toList _ hk.rangeS hu hd (by simpa using hn) ?_)
  simpa using h
theorem wp_loadS {o : Oper} {a : Act} {w : World} {K : Act → World → Prop} {Q : Exit → Act → World → Prop} {T : TypeId} (x : Operand) (ho : o.op = .load T x)
    {b : Nat} {cs : Array Value} {D : TypeDesc} (hx : a.eval x = .pointer (some ⟨b, 0, none⟩)) (hk : Blk w b cs T) (hu : P.underlying T = some D) (hd : D.isRow = true) (hn : (P.info? T).map (·.size) = some cs.size)
    (h : K (a.put o.dst (.agg cs)) w) : Oper.wp P o a w K Q := by
  refine wp_load_mid T x ho b 0 hx cs.toList _ hk.rangeS hu hd (by simpa using hn) ?_
  simpa using h
theorem wp_storeS {o : Oper} {a : Act} {w : World} {K : Act → World → Prop} {Q : Exit → Act → World → Prop} {T : TypeId} (x y : Operand) (ho : o.op = .store T x y)
    {b : Nat} {cs vs : Array Value} (hx : a.eval x = .pointer (some ⟨b, 0, none⟩)) (hy : a.eval y = .agg vs) (hk : Blk w b cs T) (hn : vs.size = cs.size) (hi : (P.info? T).map (·.size) = some vs.size) (h1 : vs.all (·.oneCell') = true)
    (h : K (a.put o.dst undef) (w.setCells b 0 vs.toList)) : Oper.wp P o a w K Q :=
  wp_store_mid T x y ho b 0 vs hx hy (by have := hk.thereS; rw [← hn] at this; exact this) hi h1 h
theorem wpList_storeS {ops : Array Oper} {rest : List Oper} {a : Act} {w : World} {Q : Exit → Act → World → Prop} {d : Option Tmp} {ty T : TypeId} {ps : String} {af : Array Edge} (x y : Operand)
    {b : Nat} {cs vs : Array Value} (hx : a.eval x = .pointer (some ⟨b, 0, none⟩)) (hy : a.eval y = .agg vs) (hk : Blk w b cs T) (hn : vs.size = cs.size) (hi : (P.info? T).map (·.size) = some vs.size) (h1 : vs.all (·.oneCell') = true)
    (h : wpList P ops Q rest (a.put d undef) (w.setCells b 0 vs.toList)) : wpList P ops Q ({ dst := d, op := .store T x y, type := ty, pos := ps, after := af, guard := none } :: rest) a w :=
  wpList_store_mid rfl T x y rfl b 0 vs hx hy (by have := hk.thereS; rw [← hn] at this; exact this) hi h1 h
theorem wpList_runV {ops : Array Oper} {rest : List Oper} {o : Oper} {a : Act} {w : World} {Q : Exit → Act → World → Prop} (d : Option Tmp) {v : Value} (hd : o.dst = d)
    (hw : Region.wanted o (yielded ops a.tmps) = true) (hy : (execOp a.eval o).run P w = .ok (.value v) w)
    (h : wpList P ops Q rest (a.put d v) w) : wpList P ops Q (o :: rest) a w := by
  subst hd
  unfold wpList
  rw [if_pos hw]
  refine .inl ?_
  unfold Oper.wp
  rw [hy]
  exact h
theorem wpList_skipV {ops : Array Oper} {rest : List Oper} {o : Oper} {a : Act} {w : World} {Q : Exit → Act → World → Prop} (d : Option Tmp) (hd : o.dst = d)
    (hw : Region.wanted o (yielded ops a.tmps) = false) (h : wpList P ops Q rest (a.put d undef) w) : wpList P ops Q (o :: rest) a w := by
  subst hd
  exact wpList_skip hw h
/-- an operation that leaves another world (an alloc) -/
theorem wpList_runWV {ops : Array Oper} {rest : List Oper} {o : Oper} {a : Act} {w : World} {Q : Exit → Act → World → Prop} (d : Option Tmp) {v : Value} {w' : World} (hd : o.dst = d)
    (hw : Region.wanted o (yielded ops a.tmps) = true) (hy : (execOp a.eval o).run P w = .ok (.value v) w')
    (h : wpList P ops Q rest (a.put d v) w') : wpList P ops Q (o :: rest) a w := by
  subst hd
  unfold wpList
  rw [if_pos hw]
  refine .inl ?_
  unfold Oper.wp
  rw [hy]
  exact h
theorem Blk.readS {w : World} {b : Nat} {cs : Array Value} {T : TypeId} {D : TypeDesc} (hk : Blk w b cs T) (hu : P.underlying T = some D) (hd : D.isRow = true) (hn : (P.info? T).map (·.size) = some cs.size) :
    (loadVar T ⟨b, 0, none⟩).run P w = .ok (.agg cs) w := by
  have := run_loadVar_mid (P := P) w b 0 T cs.toList D hk.rangeS hu hd (by simpa using hn)
  simpa using this
theorem results_cell {fn : Func} {tmps : Array Value} {w : World} {x : Tmp} {T : TypeId} {A : Addr} {v : Value} (h : fn.results = #[.cell x T]) (ha : tmps.getD x undef = .pointer (some A)) (hL : (loadVar T A).run P w = .ok v w) :
    (results fn tmps).run P w = .ok v w := by
  have ha' : tmps[x]?.getD undef = .pointer (some A) := by simpa using ha
  simp [results, h, ha', asAddr, hL]
theorem results_cell_tmp {fn : Func} {tmps : Array Value} {w : World} {x y : Tmp} {T : TypeId} {A : Addr} {v u : Value} (h : fn.results = #[.cell x T, .tmp y]) (ha : tmps.getD x undef = .pointer (some A)) (hu : tmps.getD y undef = u) (hL : (loadVar T A).run P w = .ok v w) :
    (results fn tmps).run P w = .ok (.tuple #[v, u]) w := by
  have ha' : tmps[x]?.getD undef = .pointer (some A) := by simpa using ha
  have hu' : tmps[y]?.getD undef = u := by simpa using hu
  simp [results, h, ha', hu', asAddr, hL]
end
end Go.Proofs.YtkohfomiigcifaaGreatDoor
namespace Go.Proofs.YtkohfomiigcifaaGreatDoor
open Go.RowKit
open Wd (Bs)

def cellsA (a : Fil.Acc) (gs : ByteArray) : Array Value := #[.int .i64 (a.zone : Int), .int .i64 (a.who : Int), .int .i64 (a.self : Int), .int .i64 (a.types : Int), .int .i64 (a.ntypes : Int), .int .i64 (a.colors : Int), .int .i64 (a.ncolors : Int), .string gs, .int .i64 (a.keys : Int), .int .i64 (a.tap : Int), .int .i64 a.pow.kind, .int .i64 a.pow.n, .int .i64 a.tough.kind, .int .i64 a.tough.n, .int .i64 a.val.kind, .int .i64 a.val.n]
def cellsZ : Array Value := #[.int .i64 0, .int .i64 0, .int .i64 0, .int .i64 0, .int .i64 0, .int .i64 0, .int .i64 0, .string ⟨#[]⟩, .int .i64 0, .int .i64 0, .int .i64 0, .int .i64 0, .int .i64 0, .int .i64 0, .int .i64 0, .int .i64 0]
theorem cellsA_one (a : Fil.Acc) (gs : ByteArray) : (cellsA a gs).all (·.oneCell') = true := by simp [cellsA, Value.oneCell']
theorem cellsZ_one : cellsZ.all (·.oneCell') = true := by simp [cellsZ, Value.oneCell']
theorem infoTF (a : Fil.Acc) (gs : ByteArray) : (Tryz.prog.info? 25).map (·.size) = some (cellsA a gs).size := by rw [sizeTF]; rfl
theorem infoTFZ : (Tryz.prog.info? 25).map (·.size) = some cellsZ.size := by rw [sizeTF]; rfl
theorem readA {w : World} {b : Nat} {a : Fil.Acc} {gs : ByteArray} (hk : Blk w b (cellsA a gs) 25) : (loadVar 25 ⟨b, 0, none⟩).run Tryz.prog w = .ok (.agg (cellsA a gs)) w := hk.readS Tryz.underlying25 rfl (infoTF a gs)
theorem readZ {w : World} {b : Nat} (hk : Blk w b cellsZ 25) : (loadVar 25 ⟨b, 0, none⟩).run Tryz.prog w = .ok (.agg cellsZ) w := hk.readS Tryz.underlying25 rfl infoTFZ
end Go.Proofs.YtkohfomiigcifaaGreatDoor
namespace Go.Proofs.YtkohfomiigcifaaGreatDoor
open Go.RowKit
open Wd (Bs)

set_option maxHeartbeats 8000000 in
set_option maxRecDepth 100000 in
theorem parseWalk (s : ByteArray) (w : World) (hE : Env w) (a : Fil.Acc) (fs : ByteArray) (v q : Bool) (tx : ByteArray) (hq : (tx.toList == s.toList) = q)
    (HRD : Hid (∀ W, Env W → Calls Tryz.prog 133 #[.string s] W fun e w' => e = .returned (.agg #[.int .i64 (a.zone : Int), .int .i64 (a.who : Int), .int .i64 (a.self : Int), .int .i64 (a.types : Int), .int .i64 (a.ntypes : Int), .int .i64 (a.colors : Int), .int .i64 (a.ncolors : Int), .string fs, .int .i64 (a.keys : Int), .int .i64 (a.tap : Int), .int .i64 a.pow.kind, .int .i64 a.pow.n, .int .i64 a.tough.kind, .int .i64 a.tough.n, .int .i64 a.val.kind, .int .i64 a.val.n]) ∧ Below W.heap.size W w'))
    (HIS : Hid (∀ W, Env W → Calls Tryz.prog 23 #[.agg (cellsA a fs)] W fun e w' => e = .returned (.bool v) ∧ Below W.heap.size W w'))
    (HTX : Hid (∀ W, Env W → Calls Tryz.prog 51 #[.agg (cellsA a fs)] W fun e w' => e = .returned (.string tx) ∧ Below W.heap.size W w')) :
    Calls Tryz.prog 106 #[.string s] w fun e w' => e = .returned (if (v && q) = true then .tuple #[.agg (cellsA a fs), .int .i64 0] else .tuple #[.agg cellsZ, .int .i64 3]) ∧ Below w.heap.size w w' := by
  obtain ⟨w0, hw0⟩ : ∃ w0, w0 = w.alloc (.cells cellsZ 25) := ⟨_, rfl⟩
  have hb0 : Below w.heap.size w w0 := by rw [hw0]; exact (Below.refl _ _).alloc (Nat.le_refl _) _
  have HR0 : Hid (Blk w0 w.heap.size cellsZ 25) := Lib.hid (by rw [hw0]; exact Blk.new w _ _)
  have HE := Lib.hid (fun (W : World) (hb : Below w.heap.size w W) => hE.below hb)
  have HB0 := Lib.hid hb0
  have HQ := Lib.hid hq
  clear hE hb0 hq
  go_enter Tryz.func106, Tryz.ntmps106
  go_wp2_with fail
  rw [show w.alloc (.cells #[.int .i64 0, .int .i64 0, .int .i64 0, .int .i64 0, .int .i64 0, .int .i64 0, .int .i64 0, .string ⟨#[]⟩, .int .i64 0, .int .i64 0, .int .i64 0, .int .i64 0, .int .i64 0, .int .i64 0, .int .i64 0, .int .i64 0] 25) = w0 from hw0.symm]
  clear hw0
  refine (HRD.out _ (HE.out _ HB0.out)).mono ?_
  rintro e w1 ⟨rfl, hb⟩
  have HB : Hid (Below w.heap.size w (w1.alloc (.cells (cellsA a fs) 25))) := Lib.hid ((HB0.out.trans (hb.mono HB0.out.size)).alloc (Nat.le_trans HB0.out.size hb.size) _)
  have HR : Hid (Blk (w1.alloc (.cells (cellsA a fs) 25)) w.heap.size cellsZ 25) := Lib.hid ((HR0.out.below hb HR0.out.lt).alloc _)
  have HK : Hid (Blk (w1.alloc (.cells (cellsA a fs) 25)) w1.heap.size (cellsA a fs) 25) := Lib.hid (Blk.new w1 _ _)
  clear hb HR0 HB0
  go_upto_region 2 with fail
  obtain ⟨w2, hw2⟩ : ∃ v, v = w1.alloc (.cells (cellsA a fs) 25) := ⟨_, rfl⟩
  obtain ⟨F, hF⟩ : ∃ v, v = w1.heap.size := ⟨_, rfl⟩
  rw [← hw2] at HB HR HK
  rw [← hF] at HK
  rw [show w1.alloc (.cells #[.int .i64 (a.zone : Int), .int .i64 (a.who : Int), .int .i64 (a.self : Int), .int .i64 (a.types : Int), .int .i64 (a.ntypes : Int), .int .i64 (a.colors : Int), .int .i64 (a.ncolors : Int), .string fs, .int .i64 (a.keys : Int), .int .i64 (a.tap : Int), .int .i64 a.pow.kind, .int .i64 a.pow.n, .int .i64 a.tough.kind, .int .i64 a.tough.n, .int .i64 a.val.kind, .int .i64 a.val.n] 25) = w2 from hw2.symm, ← hF]
  clear hw2 hF
  generalize Value.agg #[.int .i64 (a.zone : Int), .int .i64 (a.who : Int), .int .i64 (a.self : Int), .int .i64 (a.types : Int), .int .i64 (a.ntypes : Int), .int .i64 (a.colors : Int), .int .i64 (a.ncolors : Int), .string fs, .int .i64 (a.keys : Int), .int .i64 (a.tap : Int), .int .i64 a.pow.kind, .int .i64 a.pow.n, .int .i64 a.tough.kind, .int .i64 a.tough.n, .int .i64 a.val.kind, .int .i64 a.val.n] = vA
  have hq : (tx.toList == s.toList) = q := HQ.out
  refine wp_region_lit ?_
  refine wpList_loadS (.tmp 4) (by rfl) rfl HK.out Tryz.underlying25 rfl (infoTF _ _) ?_
  simp only [Act.put, List.setIfInBounds_toArray, List.set_cons_zero, List.set_cons_succ]
  go_wp2_with fail
  refine (HIS.out _ (HE.out _ HB.out)).mono ?_
  rintro e wi ⟨rfl, hb⟩
  have HKI := Lib.hid (HK.out.below hb HK.out.lt)
  have HRI := Lib.hid (HR.out.below hb HR.out.lt)
  have HBI := Lib.hid (HB.out.trans (hb.mono HB.out.size))
  clear hb HK HR HB
  go_simp
  rename_i hKK
  refine hKK _ _ ?_
  clear hKK
  try simp only [Act.put, List.setIfInBounds_toArray, List.set_cons_zero, List.set_cons_succ]
  cases v with
  | false =>
    refine wpList_runV (some 9) (v := ?_) rfl (by rfl) ?_ ?_
    rotate_left
    · (go_simp; (try with_reducible rfl))
    simp only [Act.put, List.setIfInBounds_toArray, List.set_cons_zero, List.set_cons_succ]
    refine wpList_runV (some 10) (v := ?_) rfl (by rfl) ?_ ?_
    rotate_left
    · (go_simp; (try with_reducible rfl))
    simp only [Act.put, List.setIfInBounds_toArray, List.set_cons_zero, List.set_cons_succ]
    refine wpList_skipV (some 11) rfl (by rfl) ?_
    simp only [Act.put, List.setIfInBounds_toArray, List.set_cons_zero, List.set_cons_succ]
    refine wpList_skipV (some 12) rfl (by rfl) ?_
    simp only [Act.put, List.setIfInBounds_toArray, List.set_cons_zero, List.set_cons_succ]
    refine wpList_skipV (some 13) rfl (by rfl) ?_
    simp only [Act.put, List.setIfInBounds_toArray, List.set_cons_zero, List.set_cons_succ]
    refine wpList_skipV (some 14) rfl (by rfl) ?_
    simp only [Act.put, List.setIfInBounds_toArray, List.set_cons_zero, List.set_cons_succ]
    refine wpList_runV (some 15) (v := ?_) rfl (by rfl) ?_ ?_
    rotate_left
    · (go_simp; (try with_reducible rfl))
    simp only [Act.put, List.setIfInBounds_toArray, List.set_cons_zero, List.set_cons_succ]
    go_upto_region 3 with fail
    refine wp_region_lit ?_
    refine wpList_runV (some 16) (v := .agg cellsZ) rfl (by rfl) (by go_simp; rfl) ?_
    simp only [Act.put, List.setIfInBounds_toArray, List.set_cons_zero, List.set_cons_succ]
    refine wpList_storeS (.tmp 2) (.tmp 16) rfl rfl HRI.out rfl infoTFZ cellsZ_one ?_
    have HRF := Lib.hid (HRI.out.whole cellsZ rfl)
    have HBF := Lib.hid (below_whole cellsZ.toList (o := 0) HBI.out (Nat.le_refl _))
    generalize World.setCells _ _ _ _ = wf at HRF HBF ⊢
    have hL := readZ HRF.out
    go_wp2_with fail
    exact bodyPost_ret (v := .tuple #[.agg cellsZ, .int .i64 3]) (results_cell_tmp Tryz.results106 (by rfl) (by rfl) hL) rfl ⟨rfl, HBF.out⟩
  | true =>
    refine wpList_runV (some 9) (v := ?_) rfl (by rfl) ?_ ?_
    rotate_left
    · (go_simp; (try with_reducible rfl))
    simp only [Act.put, List.setIfInBounds_toArray, List.set_cons_zero, List.set_cons_succ]
    refine wpList_runV (some 10) (v := ?_) rfl (by rfl) ?_ ?_
    rotate_left
    · (go_simp; (try with_reducible rfl))
    simp only [Act.put, List.setIfInBounds_toArray, List.set_cons_zero, List.set_cons_succ]
    refine wpList_loadS (.tmp 4) (by rfl) rfl HKI.out Tryz.underlying25 rfl (infoTF _ _) ?_
    simp only [Act.put, List.setIfInBounds_toArray, List.set_cons_zero, List.set_cons_succ]
    go_wp2_with fail
    refine (HTX.out _ (HE.out _ HBI.out)).mono ?_
    rintro e wt ⟨rfl, hb⟩
    have HKT := Lib.hid (HKI.out.below hb HKI.out.lt)
    have HRT := Lib.hid (HRI.out.below hb HRI.out.lt)
    have HBT := Lib.hid (HBI.out.trans (hb.mono HBI.out.size))
    clear hb HKI HRI HBI
    go_simp
    rename_i hKK
    refine hKK _ _ ?_
    clear hKK
    try simp only [Act.put, List.setIfInBounds_toArray, List.set_cons_zero, List.set_cons_succ]
    cases q with
    | false =>
      refine wpList_runV (some 13) (v := ?_) rfl (by rfl) ?_ ?_
      rotate_left
      · (go_simp; (try with_reducible rfl))
      simp only [Act.put, List.setIfInBounds_toArray, List.set_cons_zero, List.set_cons_succ]
      refine wpList_runV (some 14) (v := .bool true) rfl (by rfl) ?_ ?_
      · (go_simp; (try with_reducible rfl))
      simp only [Act.put, List.setIfInBounds_toArray, List.set_cons_zero, List.set_cons_succ]
      refine wpList_runV (some 15) (v := ?_) rfl (by rfl) ?_ ?_
      rotate_left
      · (go_simp; (try with_reducible rfl))
      simp only [Act.put, List.setIfInBounds_toArray, List.set_cons_zero, List.set_cons_succ]
      go_upto_region 3 with fail
      refine wp_region_lit ?_
      refine wpList_runV (some 16) (v := .agg cellsZ) rfl (by rfl) (by go_simp; rfl) ?_
      simp only [Act.put, List.setIfInBounds_toArray, List.set_cons_zero, List.set_cons_succ]
      refine wpList_storeS (.tmp 2) (.tmp 16) rfl rfl HRT.out rfl infoTFZ cellsZ_one ?_
      have HRF := Lib.hid (HRT.out.whole cellsZ rfl)
      have HBF := Lib.hid (below_whole cellsZ.toList (o := 0) HBT.out (Nat.le_refl _))
      generalize World.setCells _ _ _ _ = wf at HRF HBF ⊢
      have hL := readZ HRF.out
      go_wp2_with fail
      exact bodyPost_ret (v := .tuple #[.agg cellsZ, .int .i64 3]) (results_cell_tmp Tryz.results106 (by rfl) (by rfl) hL) rfl ⟨rfl, HBF.out⟩
    | true =>
      refine wpList_runV (some 13) (v := ?_) rfl (by rfl) ?_ ?_
      rotate_left
      · (go_simp; (try with_reducible rfl))
      simp only [Act.put, List.setIfInBounds_toArray, List.set_cons_zero, List.set_cons_succ]
      refine wpList_runV (some 14) (v := .bool false) rfl (by rfl) ?_ ?_
      · (go_simp; (try with_reducible rfl))
      simp only [Act.put, List.setIfInBounds_toArray, List.set_cons_zero, List.set_cons_succ]
      refine wpList_runV (some 15) (v := ?_) rfl (by rfl) ?_ ?_
      rotate_left
      · (go_simp; (try with_reducible rfl))
      simp only [Act.put, List.setIfInBounds_toArray, List.set_cons_zero, List.set_cons_succ]
      go_upto_region 4 with fail
      refine wp_region_lit ?_
      refine wpList_loadS (.tmp 4) (by rfl) rfl HKT.out Tryz.underlying25 rfl (infoTF _ _) ?_
      simp only [Act.put, List.setIfInBounds_toArray, List.set_cons_zero, List.set_cons_succ]
      refine wpList_storeS (.tmp 2) (.tmp 17) rfl rfl HRT.out rfl (infoTF _ _) (cellsA_one _ _) ?_
      have HRF := Lib.hid (HRT.out.whole (cellsA a fs) rfl)
      have HBF := Lib.hid (below_whole (cellsA a fs).toList (o := 0) HBT.out (Nat.le_refl _))
      generalize World.setCells _ _ _ _ = wf at HRF HBF ⊢
      have hL := readA HRF.out
      go_wp2_with fail
      exact bodyPost_ret (v := .tuple #[.agg (cellsA a fs), .int .i64 0]) (results_cell_tmp Tryz.results106 (by rfl) (by rfl) hL) rfl ⟨rfl, HBF.out⟩
end Go.Proofs.YtkohfomiigcifaaGreatDoor
namespace Go.Proofs.YtkohfomiigcifaaGreatDoor
open Go.RowKit
open Wd (Bs)

/-- a valid filter holds no negative numbers but in its bounds -/
theorem acc_of {f : Fil.Flt} (h : Fil.validB f = true) : ∃ a : Fil.Acc, f = a.flt := by
  have v := Fil.valid_of h
  refine ⟨⟨f.zone.toNat, f.who.toNat, f.self.toNat, f.types.toNat, f.ntypes.toNat, f.colors.toNat, f.ncolors.toNat, f.sub, f.keys.toNat, f.tap.toNat, f.pow, f.tough, f.val⟩, ?_⟩
  unfold Fil.Acc.flt
  rw [Int.toNat_of_nonneg v.zone.1, Int.toNat_of_nonneg v.who.1, Int.toNat_of_nonneg v.self.1, Int.toNat_of_nonneg v.types.1, Int.toNat_of_nonneg v.ntypes.1, Int.toNat_of_nonneg v.colors.1, Int.toNat_of_nonneg v.ncolors.1, Int.toNat_of_nonneg v.keys.1, Int.toNat_of_nonneg v.tap.1]
set_option maxRecDepth 100000 in
/-- Text of any filter -/
theorem filText (f : Fil.Flt) (fs : ByteArray) (hf : f.sub = fs.data.toList) (hs : fs.size ≤ maxLen) (w : World) (hE : Env w) :
    Calls Tryz.prog 51 #[.agg #[.int .i64 f.zone, .int .i64 f.who, .int .i64 f.self, .int .i64 f.types, .int .i64 f.ntypes, .int .i64 f.colors, .int .i64 f.ncolors, .string fs, .int .i64 f.keys, .int .i64 f.tap, .int .i64 f.pow.kind, .int .i64 f.pow.n, .int .i64 f.tough.kind, .int .i64 f.tough.n, .int .i64 f.val.kind, .int .i64 f.val.n]] w fun e w' => e = .returned (str (Fil.textF f)) ∧ Below w.heap.size w w' := by
  cases hvb : Fil.validB f with
  | true =>
    obtain ⟨a, rfl⟩ := acc_of hvb
    exact filTextA a fs hf hs w hE
  | false =>
    have HC := Lib.hid (fun W hW => filIs f fs hf hs W hW)
    have HVB := Lib.hid hvb
    have HT := Lib.hid (Fil.textF_bad hvb)
    have hb0 : Below w.heap.size w (w.alloc (.cells #[.int .i64 f.zone, .int .i64 f.who, .int .i64 f.self, .int .i64 f.types, .int .i64 f.ntypes, .int .i64 f.colors, .int .i64 f.ncolors, .string fs, .int .i64 f.keys, .int .i64 f.tap, .int .i64 f.pow.kind, .int .i64 f.pow.n, .int .i64 f.tough.kind, .int .i64 f.tough.n, .int .i64 f.val.kind, .int .i64 f.val.n] 25)) := (Below.refl _ _).alloc (Nat.le_refl _) _
    have HB := Lib.hid hb0
    have HE := Lib.hid (hE.below hb0)
    clear hvb hb0 hE hf hs
    go_enter Tryz.func51, Tryz.ntmps51
    go_wp2_with fail
    refine (HC.out _ HE.out).mono ?_
    rw [HVB.out]
    rintro e w1 ⟨rfl, hb1⟩
    go_wp2_with fail
    go_ret
    exact ⟨by rw [HT.out]; rfl, HB.out.trans (hb1.mono HB.out.size)⟩
/-- what Parse answers: a filter with its subtype's bytes, an error -/
def ParseRes (s : Bs) (w : World) (e : Ending) (w' : World) : Prop :=
  (∃ (a : Fil.Acc) (fs : ByteArray), Fil.parseV s = a.flt ∧ Fil.parseE s = 0 ∧ Fil.validB a.flt = true ∧ Fil.textF a.flt = s ∧ a.sub = fs.data.toList ∧ e = .returned (.tuple #[.agg #[.int .i64 (a.zone : Int), .int .i64 (a.who : Int), .int .i64 (a.self : Int), .int .i64 (a.types : Int), .int .i64 (a.ntypes : Int), .int .i64 (a.colors : Int), .int .i64 (a.ncolors : Int), .string fs, .int .i64 (a.keys : Int), .int .i64 (a.tap : Int), .int .i64 a.pow.kind, .int .i64 a.pow.n, .int .i64 a.tough.kind, .int .i64 a.tough.n, .int .i64 a.val.kind, .int .i64 a.val.n], .int .i64 0]) ∧ Below w.heap.size w w') ∨
  (Fil.parseV s = Fil.zero ∧ Fil.parseE s = 3 ∧ e = .returned (.tuple #[.agg #[.int .i64 0, .int .i64 0, .int .i64 0, .int .i64 0, .int .i64 0, .int .i64 0, .int .i64 0, .string ⟨#[]⟩, .int .i64 0, .int .i64 0, .int .i64 0, .int .i64 0, .int .i64 0, .int .i64 0, .int .i64 0, .int .i64 0], .int .i64 3]) ∧ Below w.heap.size w w')
/-- what a parser's walk leaves, read as the answer -/
theorem parseRes_of {s : ByteArray} {a : Fil.Acc} {fs tx : ByteArray} {w w' : World} {e : Ending} (hsub : a.sub = fs.data.toList) (htx : tx.data.toList = Fil.textF a.flt)
    (hyes : Fil.validB a.flt = true → Fil.textF a.flt = s.data.toList → Fil.parseV s.data.toList = a.flt ∧ Fil.parseE s.data.toList = 0)
    (hno : ¬ Fil.Is_ a.flt s.data.toList → Fil.parseV s.data.toList = Fil.zero ∧ Fil.parseE s.data.toList = 3)
    (he : e = .returned (if (Fil.validB a.flt && (tx.toList == s.toList)) = true then .tuple #[.agg (cellsA a fs), .int .i64 0] else .tuple #[.agg cellsZ, .int .i64 3])) (hb : Below w.heap.size w w') : ParseRes s.data.toList w e w' := by
  by_cases h : Fil.Is_ a.flt s.data.toList
  · have h2 : (tx.toList == s.toList) = true := bytes_eq (by rw [htx]; exact h.2)
    rw [h.1, h2, if_pos (by rfl)] at he
    have h3 := hyes h.1 h.2
    exact .inl ⟨a, fs, h3.1, h3.2, h.1, h.2, hsub, he, hb⟩
  · have h3 := hno h
    have h4 : (Fil.validB a.flt && (tx.toList == s.toList)) = false := by
      cases hv : Fil.validB a.flt with
      | false => rfl
      | true => exact bytes_ne (by rw [htx]; exact fun e => h ⟨hv, e⟩)
    rw [h4, if_neg (by decide)] at he
    exact .inr ⟨h3.1, h3.2, he, hb⟩
theorem filParse (s : ByteArray) (w : World) (hs : s.size ≤ 1000000) (hE : Env w) : Calls Tryz.prog 106 #[.string s] w (ParseRes s.data.toList w) := by
  obtain ⟨a, fs, hr, hsub, hfl, hcall⟩ := filReadAcc s hs
  have hm : fs.size ≤ maxLen := by unfold maxLen; omega
  obtain ⟨tx, htx, etx⟩ := exists_bytes (Fil.textF a.flt)
  refine (parseWalk s w hE a fs (Fil.validB a.flt) _ tx rfl (Lib.hid hcall) (Lib.hid fun W hW => filIs a.flt fs hsub hm W hW) (Lib.hid fun W hW => by rw [← etx]; exact filText a.flt fs hsub hm W hW)).mono fun e w' ⟨he, hb⟩ => ?_
  exact parseRes_of hsub htx (fun h1 h2 => by rw [← hr]; exact Fil.parse_yes (by rw [hr]; exact h1) (by rw [hr]; exact h2)) (fun h => Fil.parse_no (by rw [hr]; exact h)) he hb
end Go.Proofs.YtkohfomiigcifaaGreatDoor
namespace Go.Proofs.YtkohfomiigcifaaGreatDoor
open Go.RowKit
open Wd (Bs)

theorem partInt (xs : Array Value) (i : Nat) (v : Value) (h : xs[i]? = some v) (w : World) : (part 3 xs i).run Tryz.prog w = .ok v w :=
  run_part_plain w (by kernel_rfl) h
theorem partStr (xs : Array Value) (i : Nat) (v : Value) (h : xs[i]? = some v) (w : World) : (part 9 xs i).run Tryz.prog w = .ok v w :=
  run_part_plain w (by kernel_rfl) h
theorem eqFields_step (d : Nat) (xs ys : Array Value) (f : Field) (fs : List Field) (hn : f.name ≠ "_") (u v : Value) {s r : Bool} (w : World) (ha : (part f.type xs f.offset).run Tryz.prog w = .ok u w) (hb : (part f.type ys f.offset).run Tryz.prog w = .ok v w)
    (hs : (Op.equalIn d f.type u v).run Tryz.prog w = .ok s w) (h : (Op.eqFields d xs ys fs).run Tryz.prog w = .ok r w) : (Op.eqFields d xs ys (f :: fs)).run Tryz.prog w = .ok (s && r) w := by
  simp only [Op.eqFields, Sem.run_bind, Sem.run_ite, if_pos hn, ha, hb, Result.andThen_ok, hs]
  cases s
  · simp
  · simp [h]
def eqB (p q : Fil.Bd) : Bool := p.kind == q.kind && (p.n == q.n && true)
theorem eqB_iff {p q : Fil.Bd} : eqB p q = true ↔ p = q := by
  cases p; cases q
  simp [eqB]
theorem run_eq_bd (d : Nat) (p q : Fil.Bd) (w : World) : (Op.equalIn (d + 1 + 1) 23 (.agg #[.int .i64 p.kind, .int .i64 p.n]) (.agg #[.int .i64 q.kind, .int .i64 q.n])).run Tryz.prog w = .ok (eqB p q) w := by
  rw [run_equalIn_struct w (d + 1) 23 _ _ (by kernel_rfl) (by kernel_rfl)]
  simp only [Program.fieldsOf, Tryz.underlying23]
  have k2 := eqFields_step (d + 1) #[.int .i64 p.kind, .int .i64 p.n] #[.int .i64 q.kind, .int .i64 q.n] { name := "N", type := 3, offset := 1, embedded := false, tag := "", pkgPath := "", byteOffset := 8 } [] (by decide) _ _ w (partInt _ 1 _ rfl w) (partInt _ 1 _ rfl w) (run_equalIn_int w d 3 .i64 .i64 p.n q.n Tryz.underlying3) (r := true) (by simp [Op.eqFields])
  exact eqFields_step (d + 1) #[.int .i64 p.kind, .int .i64 p.n] #[.int .i64 q.kind, .int .i64 q.n] { name := "Kind", type := 3, offset := 0, embedded := false, tag := "", pkgPath := "", byteOffset := 0 } _ (by decide) _ _ w (partInt _ 0 _ rfl w) (partInt _ 0 _ rfl w) (run_equalIn_int w d 3 .i64 .i64 p.kind q.kind Tryz.underlying3) k2
def eqF (f g : Fil.Flt) : Bool := f.zone == g.zone && (f.who == g.who && (f.self == g.self && (f.types == g.types && (f.ntypes == g.ntypes && (f.colors == g.colors && (f.ncolors == g.ncolors && (f.sub == g.sub && (f.keys == g.keys && (f.tap == g.tap && (eqB f.pow g.pow && (eqB f.tough g.tough && (eqB f.val g.val && true))))))))))))
theorem eqF_iff {f g : Fil.Flt} : eqF f g = true ↔ f = g := by
  cases f; cases g
  simp [eqF, eqB_iff]
theorem eqF_refl (f : Fil.Flt) : eqF f f = true := eqF_iff.2 rfl
theorem run_eq_str (d : Nat) (a b : ByteArray) (w : World) : (Op.equalIn (d + 1) 9 (.string a) (.string b)).run Tryz.prog w = .ok (a.data.toList == b.data.toList) w := by
  rw [run_equalIn_string w d 9 a b Tryz.underlying9]
  congr 1
  rw [Bool.eq_iff_iff]
  simp [Lib.toList_data]
theorem part_pow (f : Fil.Flt) (fs : ByteArray) (w : World) : (part 23 #[.int .i64 f.zone, .int .i64 f.who, .int .i64 f.self, .int .i64 f.types, .int .i64 f.ntypes, .int .i64 f.colors, .int .i64 f.ncolors, .string fs, .int .i64 f.keys, .int .i64 f.tap, .int .i64 f.pow.kind, .int .i64 f.pow.n, .int .i64 f.tough.kind, .int .i64 f.tough.n, .int .i64 f.val.kind, .int .i64 f.val.n] 10).run Tryz.prog w = .ok (.agg #[.int .i64 f.pow.kind, .int .i64 f.pow.n]) w := by kernel_rfl
theorem part_tough (f : Fil.Flt) (fs : ByteArray) (w : World) : (part 23 #[.int .i64 f.zone, .int .i64 f.who, .int .i64 f.self, .int .i64 f.types, .int .i64 f.ntypes, .int .i64 f.colors, .int .i64 f.ncolors, .string fs, .int .i64 f.keys, .int .i64 f.tap, .int .i64 f.pow.kind, .int .i64 f.pow.n, .int .i64 f.tough.kind, .int .i64 f.tough.n, .int .i64 f.val.kind, .int .i64 f.val.n] 12).run Tryz.prog w = .ok (.agg #[.int .i64 f.tough.kind, .int .i64 f.tough.n]) w := by kernel_rfl
theorem part_val (f : Fil.Flt) (fs : ByteArray) (w : World) : (part 23 #[.int .i64 f.zone, .int .i64 f.who, .int .i64 f.self, .int .i64 f.types, .int .i64 f.ntypes, .int .i64 f.colors, .int .i64 f.ncolors, .string fs, .int .i64 f.keys, .int .i64 f.tap, .int .i64 f.pow.kind, .int .i64 f.pow.n, .int .i64 f.tough.kind, .int .i64 f.tough.n, .int .i64 f.val.kind, .int .i64 f.val.n] 14).run Tryz.prog w = .ok (.agg #[.int .i64 f.val.kind, .int .i64 f.val.n]) w := by kernel_rfl
theorem run_eq_fltD (d : Nat) (f g : Fil.Flt) (fs gs : ByteArray) (hf : f.sub = fs.data.toList) (hg : g.sub = gs.data.toList) (w : World) : (Op.equalIn (d + 1 + 1 + 1) 25 (.agg #[.int .i64 f.zone, .int .i64 f.who, .int .i64 f.self, .int .i64 f.types, .int .i64 f.ntypes, .int .i64 f.colors, .int .i64 f.ncolors, .string fs, .int .i64 f.keys, .int .i64 f.tap, .int .i64 f.pow.kind, .int .i64 f.pow.n, .int .i64 f.tough.kind, .int .i64 f.tough.n, .int .i64 f.val.kind, .int .i64 f.val.n]) (.agg #[.int .i64 g.zone, .int .i64 g.who, .int .i64 g.self, .int .i64 g.types, .int .i64 g.ntypes, .int .i64 g.colors, .int .i64 g.ncolors, .string gs, .int .i64 g.keys, .int .i64 g.tap, .int .i64 g.pow.kind, .int .i64 g.pow.n, .int .i64 g.tough.kind, .int .i64 g.tough.n, .int .i64 g.val.kind, .int .i64 g.val.n])).run Tryz.prog w = .ok (eqF f g) w := by
  rw [run_equalIn_struct w (d + 1 + 1) 25 _ _ (by kernel_rfl) (by kernel_rfl)]
  simp only [Program.fieldsOf, Tryz.underlying25]
  have k12 := eqFields_step (d + 1 + 1) #[.int .i64 f.zone, .int .i64 f.who, .int .i64 f.self, .int .i64 f.types, .int .i64 f.ntypes, .int .i64 f.colors, .int .i64 f.ncolors, .string fs, .int .i64 f.keys, .int .i64 f.tap, .int .i64 f.pow.kind, .int .i64 f.pow.n, .int .i64 f.tough.kind, .int .i64 f.tough.n, .int .i64 f.val.kind, .int .i64 f.val.n] #[.int .i64 g.zone, .int .i64 g.who, .int .i64 g.self, .int .i64 g.types, .int .i64 g.ntypes, .int .i64 g.colors, .int .i64 g.ncolors, .string gs, .int .i64 g.keys, .int .i64 g.tap, .int .i64 g.pow.kind, .int .i64 g.pow.n, .int .i64 g.tough.kind, .int .i64 g.tough.n, .int .i64 g.val.kind, .int .i64 g.val.n] { name := "Value", type := 23, offset := 14, embedded := false, tag := "", pkgPath := "", byteOffset := 120 } [] (by decide) _ _ w (part_val f fs w) (part_val g gs w) (run_eq_bd d f.val g.val w) (r := true) (by simp [Op.eqFields])
  have k11 := eqFields_step (d + 1 + 1) #[.int .i64 f.zone, .int .i64 f.who, .int .i64 f.self, .int .i64 f.types, .int .i64 f.ntypes, .int .i64 f.colors, .int .i64 f.ncolors, .string fs, .int .i64 f.keys, .int .i64 f.tap, .int .i64 f.pow.kind, .int .i64 f.pow.n, .int .i64 f.tough.kind, .int .i64 f.tough.n, .int .i64 f.val.kind, .int .i64 f.val.n] #[.int .i64 g.zone, .int .i64 g.who, .int .i64 g.self, .int .i64 g.types, .int .i64 g.ntypes, .int .i64 g.colors, .int .i64 g.ncolors, .string gs, .int .i64 g.keys, .int .i64 g.tap, .int .i64 g.pow.kind, .int .i64 g.pow.n, .int .i64 g.tough.kind, .int .i64 g.tough.n, .int .i64 g.val.kind, .int .i64 g.val.n] { name := "Tough", type := 23, offset := 12, embedded := false, tag := "", pkgPath := "", byteOffset := 104 } _ (by decide) _ _ w (part_tough f fs w) (part_tough g gs w) (run_eq_bd d f.tough g.tough w) k12
  have k10 := eqFields_step (d + 1 + 1) #[.int .i64 f.zone, .int .i64 f.who, .int .i64 f.self, .int .i64 f.types, .int .i64 f.ntypes, .int .i64 f.colors, .int .i64 f.ncolors, .string fs, .int .i64 f.keys, .int .i64 f.tap, .int .i64 f.pow.kind, .int .i64 f.pow.n, .int .i64 f.tough.kind, .int .i64 f.tough.n, .int .i64 f.val.kind, .int .i64 f.val.n] #[.int .i64 g.zone, .int .i64 g.who, .int .i64 g.self, .int .i64 g.types, .int .i64 g.ntypes, .int .i64 g.colors, .int .i64 g.ncolors, .string gs, .int .i64 g.keys, .int .i64 g.tap, .int .i64 g.pow.kind, .int .i64 g.pow.n, .int .i64 g.tough.kind, .int .i64 g.tough.n, .int .i64 g.val.kind, .int .i64 g.val.n] { name := "Power", type := 23, offset := 10, embedded := false, tag := "", pkgPath := "", byteOffset := 88 } _ (by decide) _ _ w (part_pow f fs w) (part_pow g gs w) (run_eq_bd d f.pow g.pow w) k11
  have k9 := eqFields_step (d + 1 + 1) #[.int .i64 f.zone, .int .i64 f.who, .int .i64 f.self, .int .i64 f.types, .int .i64 f.ntypes, .int .i64 f.colors, .int .i64 f.ncolors, .string fs, .int .i64 f.keys, .int .i64 f.tap, .int .i64 f.pow.kind, .int .i64 f.pow.n, .int .i64 f.tough.kind, .int .i64 f.tough.n, .int .i64 f.val.kind, .int .i64 f.val.n] #[.int .i64 g.zone, .int .i64 g.who, .int .i64 g.self, .int .i64 g.types, .int .i64 g.ntypes, .int .i64 g.colors, .int .i64 g.ncolors, .string gs, .int .i64 g.keys, .int .i64 g.tap, .int .i64 g.pow.kind, .int .i64 g.pow.n, .int .i64 g.tough.kind, .int .i64 g.tough.n, .int .i64 g.val.kind, .int .i64 g.val.n] { name := "Tap", type := 3, offset := 9, embedded := false, tag := "", pkgPath := "", byteOffset := 80 } _ (by decide) _ _ w (partInt _ 9 _ rfl w) (partInt _ 9 _ rfl w) (run_equalIn_int w (d + 1) 3 .i64 .i64 f.tap g.tap Tryz.underlying3) k10
  have k8 := eqFields_step (d + 1 + 1) #[.int .i64 f.zone, .int .i64 f.who, .int .i64 f.self, .int .i64 f.types, .int .i64 f.ntypes, .int .i64 f.colors, .int .i64 f.ncolors, .string fs, .int .i64 f.keys, .int .i64 f.tap, .int .i64 f.pow.kind, .int .i64 f.pow.n, .int .i64 f.tough.kind, .int .i64 f.tough.n, .int .i64 f.val.kind, .int .i64 f.val.n] #[.int .i64 g.zone, .int .i64 g.who, .int .i64 g.self, .int .i64 g.types, .int .i64 g.ntypes, .int .i64 g.colors, .int .i64 g.ncolors, .string gs, .int .i64 g.keys, .int .i64 g.tap, .int .i64 g.pow.kind, .int .i64 g.pow.n, .int .i64 g.tough.kind, .int .i64 g.tough.n, .int .i64 g.val.kind, .int .i64 g.val.n] { name := "Keys", type := 3, offset := 8, embedded := false, tag := "", pkgPath := "", byteOffset := 72 } _ (by decide) _ _ w (partInt _ 8 _ rfl w) (partInt _ 8 _ rfl w) (run_equalIn_int w (d + 1) 3 .i64 .i64 f.keys g.keys Tryz.underlying3) k9
  have k7 := eqFields_step (d + 1 + 1) #[.int .i64 f.zone, .int .i64 f.who, .int .i64 f.self, .int .i64 f.types, .int .i64 f.ntypes, .int .i64 f.colors, .int .i64 f.ncolors, .string fs, .int .i64 f.keys, .int .i64 f.tap, .int .i64 f.pow.kind, .int .i64 f.pow.n, .int .i64 f.tough.kind, .int .i64 f.tough.n, .int .i64 f.val.kind, .int .i64 f.val.n] #[.int .i64 g.zone, .int .i64 g.who, .int .i64 g.self, .int .i64 g.types, .int .i64 g.ntypes, .int .i64 g.colors, .int .i64 g.ncolors, .string gs, .int .i64 g.keys, .int .i64 g.tap, .int .i64 g.pow.kind, .int .i64 g.pow.n, .int .i64 g.tough.kind, .int .i64 g.tough.n, .int .i64 g.val.kind, .int .i64 g.val.n] { name := "Sub", type := 9, offset := 7, embedded := false, tag := "", pkgPath := "", byteOffset := 56 } _ (by decide) _ _ w (partStr _ 7 _ rfl w) (partStr _ 7 _ rfl w) (run_eq_str (d + 1) fs gs w) k8
  have k6 := eqFields_step (d + 1 + 1) #[.int .i64 f.zone, .int .i64 f.who, .int .i64 f.self, .int .i64 f.types, .int .i64 f.ntypes, .int .i64 f.colors, .int .i64 f.ncolors, .string fs, .int .i64 f.keys, .int .i64 f.tap, .int .i64 f.pow.kind, .int .i64 f.pow.n, .int .i64 f.tough.kind, .int .i64 f.tough.n, .int .i64 f.val.kind, .int .i64 f.val.n] #[.int .i64 g.zone, .int .i64 g.who, .int .i64 g.self, .int .i64 g.types, .int .i64 g.ntypes, .int .i64 g.colors, .int .i64 g.ncolors, .string gs, .int .i64 g.keys, .int .i64 g.tap, .int .i64 g.pow.kind, .int .i64 g.pow.n, .int .i64 g.tough.kind, .int .i64 g.tough.n, .int .i64 g.val.kind, .int .i64 g.val.n] { name := "NotColors", type := 3, offset := 6, embedded := false, tag := "", pkgPath := "", byteOffset := 48 } _ (by decide) _ _ w (partInt _ 6 _ rfl w) (partInt _ 6 _ rfl w) (run_equalIn_int w (d + 1) 3 .i64 .i64 f.ncolors g.ncolors Tryz.underlying3) k7
  have k5 := eqFields_step (d + 1 + 1) #[.int .i64 f.zone, .int .i64 f.who, .int .i64 f.self, .int .i64 f.types, .int .i64 f.ntypes, .int .i64 f.colors, .int .i64 f.ncolors, .string fs, .int .i64 f.keys, .int .i64 f.tap, .int .i64 f.pow.kind, .int .i64 f.pow.n, .int .i64 f.tough.kind, .int .i64 f.tough.n, .int .i64 f.val.kind, .int .i64 f.val.n] #[.int .i64 g.zone, .int .i64 g.who, .int .i64 g.self, .int .i64 g.types, .int .i64 g.ntypes, .int .i64 g.colors, .int .i64 g.ncolors, .string gs, .int .i64 g.keys, .int .i64 g.tap, .int .i64 g.pow.kind, .int .i64 g.pow.n, .int .i64 g.tough.kind, .int .i64 g.tough.n, .int .i64 g.val.kind, .int .i64 g.val.n] { name := "Colors", type := 3, offset := 5, embedded := false, tag := "", pkgPath := "", byteOffset := 40 } _ (by decide) _ _ w (partInt _ 5 _ rfl w) (partInt _ 5 _ rfl w) (run_equalIn_int w (d + 1) 3 .i64 .i64 f.colors g.colors Tryz.underlying3) k6
  have k4 := eqFields_step (d + 1 + 1) #[.int .i64 f.zone, .int .i64 f.who, .int .i64 f.self, .int .i64 f.types, .int .i64 f.ntypes, .int .i64 f.colors, .int .i64 f.ncolors, .string fs, .int .i64 f.keys, .int .i64 f.tap, .int .i64 f.pow.kind, .int .i64 f.pow.n, .int .i64 f.tough.kind, .int .i64 f.tough.n, .int .i64 f.val.kind, .int .i64 f.val.n] #[.int .i64 g.zone, .int .i64 g.who, .int .i64 g.self, .int .i64 g.types, .int .i64 g.ntypes, .int .i64 g.colors, .int .i64 g.ncolors, .string gs, .int .i64 g.keys, .int .i64 g.tap, .int .i64 g.pow.kind, .int .i64 g.pow.n, .int .i64 g.tough.kind, .int .i64 g.tough.n, .int .i64 g.val.kind, .int .i64 g.val.n] { name := "NotTypes", type := 3, offset := 4, embedded := false, tag := "", pkgPath := "", byteOffset := 32 } _ (by decide) _ _ w (partInt _ 4 _ rfl w) (partInt _ 4 _ rfl w) (run_equalIn_int w (d + 1) 3 .i64 .i64 f.ntypes g.ntypes Tryz.underlying3) k5
  have k3 := eqFields_step (d + 1 + 1) #[.int .i64 f.zone, .int .i64 f.who, .int .i64 f.self, .int .i64 f.types, .int .i64 f.ntypes, .int .i64 f.colors, .int .i64 f.ncolors, .string fs, .int .i64 f.keys, .int .i64 f.tap, .int .i64 f.pow.kind, .int .i64 f.pow.n, .int .i64 f.tough.kind, .int .i64 f.tough.n, .int .i64 f.val.kind, .int .i64 f.val.n] #[.int .i64 g.zone, .int .i64 g.who, .int .i64 g.self, .int .i64 g.types, .int .i64 g.ntypes, .int .i64 g.colors, .int .i64 g.ncolors, .string gs, .int .i64 g.keys, .int .i64 g.tap, .int .i64 g.pow.kind, .int .i64 g.pow.n, .int .i64 g.tough.kind, .int .i64 g.tough.n, .int .i64 g.val.kind, .int .i64 g.val.n] { name := "Types", type := 3, offset := 3, embedded := false, tag := "", pkgPath := "", byteOffset := 24 } _ (by decide) _ _ w (partInt _ 3 _ rfl w) (partInt _ 3 _ rfl w) (run_equalIn_int w (d + 1) 3 .i64 .i64 f.types g.types Tryz.underlying3) k4
  have k2 := eqFields_step (d + 1 + 1) #[.int .i64 f.zone, .int .i64 f.who, .int .i64 f.self, .int .i64 f.types, .int .i64 f.ntypes, .int .i64 f.colors, .int .i64 f.ncolors, .string fs, .int .i64 f.keys, .int .i64 f.tap, .int .i64 f.pow.kind, .int .i64 f.pow.n, .int .i64 f.tough.kind, .int .i64 f.tough.n, .int .i64 f.val.kind, .int .i64 f.val.n] #[.int .i64 g.zone, .int .i64 g.who, .int .i64 g.self, .int .i64 g.types, .int .i64 g.ntypes, .int .i64 g.colors, .int .i64 g.ncolors, .string gs, .int .i64 g.keys, .int .i64 g.tap, .int .i64 g.pow.kind, .int .i64 g.pow.n, .int .i64 g.tough.kind, .int .i64 g.tough.n, .int .i64 g.val.kind, .int .i64 g.val.n] { name := "Self", type := 3, offset := 2, embedded := false, tag := "", pkgPath := "", byteOffset := 16 } _ (by decide) _ _ w (partInt _ 2 _ rfl w) (partInt _ 2 _ rfl w) (run_equalIn_int w (d + 1) 3 .i64 .i64 f.self g.self Tryz.underlying3) k3
  have k1 := eqFields_step (d + 1 + 1) #[.int .i64 f.zone, .int .i64 f.who, .int .i64 f.self, .int .i64 f.types, .int .i64 f.ntypes, .int .i64 f.colors, .int .i64 f.ncolors, .string fs, .int .i64 f.keys, .int .i64 f.tap, .int .i64 f.pow.kind, .int .i64 f.pow.n, .int .i64 f.tough.kind, .int .i64 f.tough.n, .int .i64 f.val.kind, .int .i64 f.val.n] #[.int .i64 g.zone, .int .i64 g.who, .int .i64 g.self, .int .i64 g.types, .int .i64 g.ntypes, .int .i64 g.colors, .int .i64 g.ncolors, .string gs, .int .i64 g.keys, .int .i64 g.tap, .int .i64 g.pow.kind, .int .i64 g.pow.n, .int .i64 g.tough.kind, .int .i64 g.tough.n, .int .i64 g.val.kind, .int .i64 g.val.n] { name := "Who", type := 3, offset := 1, embedded := false, tag := "", pkgPath := "", byteOffset := 8 } _ (by decide) _ _ w (partInt _ 1 _ rfl w) (partInt _ 1 _ rfl w) (run_equalIn_int w (d + 1) 3 .i64 .i64 f.who g.who Tryz.underlying3) k2
  have k0 := eqFields_step (d + 1 + 1) #[.int .i64 f.zone, .int .i64 f.who, .int .i64 f.self, .int .i64 f.types, .int .i64 f.ntypes, .int .i64 f.colors, .int .i64 f.ncolors, .string fs, .int .i64 f.keys, .int .i64 f.tap, .int .i64 f.pow.kind, .int .i64 f.pow.n, .int .i64 f.tough.kind, .int .i64 f.tough.n, .int .i64 f.val.kind, .int .i64 f.val.n] #[.int .i64 g.zone, .int .i64 g.who, .int .i64 g.self, .int .i64 g.types, .int .i64 g.ntypes, .int .i64 g.colors, .int .i64 g.ncolors, .string gs, .int .i64 g.keys, .int .i64 g.tap, .int .i64 g.pow.kind, .int .i64 g.pow.n, .int .i64 g.tough.kind, .int .i64 g.tough.n, .int .i64 g.val.kind, .int .i64 g.val.n] { name := "Zone", type := 3, offset := 0, embedded := false, tag := "", pkgPath := "", byteOffset := 0 } _ (by decide) _ _ w (partInt _ 0 _ rfl w) (partInt _ 0 _ rfl w) (run_equalIn_int w (d + 1) 3 .i64 .i64 f.zone g.zone Tryz.underlying3) k1
  rw [← hf, ← hg] at k0
  rw [k0]
  rfl
theorem run_eq_flt (f g : Fil.Flt) (fs gs : ByteArray) (hf : f.sub = fs.data.toList) (hg : g.sub = gs.data.toList) (w : World) : (Op.equalIn 10000 25 (.agg #[.int .i64 f.zone, .int .i64 f.who, .int .i64 f.self, .int .i64 f.types, .int .i64 f.ntypes, .int .i64 f.colors, .int .i64 f.ncolors, .string fs, .int .i64 f.keys, .int .i64 f.tap, .int .i64 f.pow.kind, .int .i64 f.pow.n, .int .i64 f.tough.kind, .int .i64 f.tough.n, .int .i64 f.val.kind, .int .i64 f.val.n]) (.agg #[.int .i64 g.zone, .int .i64 g.who, .int .i64 g.self, .int .i64 g.types, .int .i64 g.ntypes, .int .i64 g.colors, .int .i64 g.ncolors, .string gs, .int .i64 g.keys, .int .i64 g.tap, .int .i64 g.pow.kind, .int .i64 g.pow.n, .int .i64 g.tough.kind, .int .i64 g.tough.n, .int .i64 g.val.kind, .int .i64 g.val.n])).run Tryz.prog w = .ok (eqF f g) w := run_eq_fltD 9997 f g fs gs hf hg w
end Go.Proofs.YtkohfomiigcifaaGreatDoor
namespace Go.Proofs.YtkohfomiigcifaaGreatDoor
open Go.RowKit
open Wd (Bs)

theorem run_eq_zero (W : World) : (Op.equalIn 10000 25 (.agg cellsZ) (.agg cellsZ)).run Tryz.prog W = .ok true W := by
  have h := run_eq_flt Fil.zero Fil.zero ⟨#[]⟩ ⟨#[]⟩ rfl rfl W
  rw [eqF_refl] at h
  exact h
theorem run_eq_self (a : Fil.Acc) (fs : ByteArray) (h : a.sub = fs.data.toList) (W : World) : (Op.equalIn 10000 25 (.agg (cellsA a fs)) (.agg (cellsA a fs))).run Tryz.prog W = .ok true W := by
  have h := run_eq_flt a.flt a.flt fs fs h h W
  rw [eqF_refl] at h
  exact h
theorem acc_flt_inj {a b : Fil.Acc} (h : a.flt = b.flt) : a = b := by
  obtain ⟨a1, a2, a3, a4, a5, a6, a7, a8, a9, a10, a11, a12, a13⟩ := a
  obtain ⟨b1, b2, b3, b4, b5, b6, b7, b8, b9, b10, b11, b12, b13⟩ := b
  unfold Fil.Acc.flt at h
  injection h with h1 h2 h3 h4 h5 h6 h7 h8 h9 h10 h11 h12 h13
  rw [Fil.Acc.mk.injEq]
  simp only at h1 h2 h3 h4 h5 h6 h7 h9 h10
  exact ⟨by omega, by omega, by omega, by omega, by omega, by omega, by omega, h8, by omega, by omega, h11, h12, h13⟩
theorem bytes_one {a b : ByteArray} (h : a.data.toList = b.data.toList) : a = b := by
  cases a; cases b
  simp at h
  rw [h]
theorem parseRes_yes {s : Bs} {a : Fil.Acc} {fs : ByteArray} (hfs : a.sub = fs.data.toList) (h1 : Fil.parseV s = a.flt) (h2 : Fil.parseE s = 0) {w w' : World} {e : Ending} (h : ParseRes s w e w') :
    e = .returned (.tuple #[.agg (cellsA a fs), .int .i64 0]) ∧ Below w.heap.size w w' := by
  rcases h with ⟨b, gs, h4, h5, h6, h7, h8, h9, h10⟩ | ⟨h4, h5, h6, h7⟩
  · rw [h1] at h4
    have e1 := acc_flt_inj h4
    subst e1
    have e2 := bytes_one (hfs.symm.trans h8)
    subst e2
    exact ⟨h9, h10⟩
  · rw [h2] at h5; cases h5
theorem parseRes_no {s : Bs} (h2 : Fil.parseE s = 3) {w w' : World} {e : Ending} (h : ParseRes s w e w') :
    e = .returned (.tuple #[.agg cellsZ, .int .i64 3]) ∧ Below w.heap.size w w' := by
  rcases h with ⟨a, fs, h4, h5, h6, h7, h8, h9, h10⟩ | ⟨h4, h5, h6, h7⟩
  · rw [h2] at h5; cases h5
  · exact ⟨h6, h7⟩
end Go.Proofs.YtkohfomiigcifaaGreatDoor
namespace Go.Proofs.YtkohfomiigcifaaGreatDoor
open Go.RowKit
open Wd (Bs)

def aliveA : Fil.Acc := ⟨0, 1, 2, 1, 0, 0, 0, [], 1, 0, ⟨1, 3⟩, Fil.zeroB, Fil.zeroB⟩
def aliveS : Bs := [121, 111, 117, 114, 115, 32, 111, 116, 104, 101, 114, 32, 99, 114, 101, 97, 116, 117, 114, 101, 32, 119, 105, 116, 104, 58, 102, 108, 121, 105, 110, 103, 32, 112, 111, 119, 101, 114, 62, 61, 51]
def aliveS2 : Bs := [99, 114, 101, 97, 116, 117, 114, 101, 32, 121, 111, 117, 114, 115]
def oneA : Fil.Acc := ⟨0, 0, 0, 1, 0, 0, 0, [], 0, 0, Fil.zeroB, Fil.zeroB, Fil.zeroB⟩
theorem sub_nil : Fil.subB [] = true := by unfold Fil.subB; simp
theorem valid_alive : Fil.validB aliveA.flt = true := by
  unfold Fil.validB
  rw [show Fil.subB aliveA.flt.sub = true from sub_nil]
  decide +kernel
theorem valid_zero : Fil.validB Fil.zero = true := by
  unfold Fil.validB
  rw [show Fil.subB Fil.zero.sub = true from sub_nil]
  decide +kernel
theorem valid_one : Fil.validB oneA.flt = true := by
  unfold Fil.validB
  rw [show Fil.subB oneA.flt.sub = true from sub_nil]
  decide +kernel
theorem text_alive : Fil.textF aliveA.flt = aliveS := by
  rw [Fil.textF_valid valid_alive]
  decide +kernel
theorem text_zero : Fil.textF Fil.zero = Fil.sAny := by
  rw [Fil.textF_valid valid_zero]
  decide +kernel
theorem text_one : Fil.textF oneA.flt ≠ aliveS2 := by
  rw [Fil.textF_valid valid_one]
  decide +kernel
theorem read_bad : Fil.readP aliveS2 = oneA.flt := by decide +kernel
theorem parse_bad : Fil.parseV aliveS2 = Fil.zero ∧ Fil.parseE aliveS2 = 3 := Fil.parse_no fun h => by
  have := h.2
  rw [read_bad] at this
  exact text_one this
theorem acc_inj {a b : Fil.Acc} (h : a.flt = b.flt) : a = b := by
  cases a; cases b
  simp only [Fil.Acc.flt, Fil.Flt.mk.injEq] at h
  obtain ⟨h0, h1, h2, h3, h4, h5, h6, h7, h8, h9, h10, h11, h12⟩ := h
  rw [Fil.Acc.mk.injEq]
  exact ⟨by omega, by omega, by omega, by omega, by omega, by omega, by omega, h7, by omega, by omega, h10, h11, h12⟩
theorem bytes_none {s : ByteArray} (h : s.data.toList = []) : s = ⟨#[]⟩ := by
  cases s with | mk a => cases a with | mk l => simp at h; rw [h]
/-- Parse at a text whose filter is known -/
theorem parseAt (s : ByteArray) (q : Fil.Acc) (hq : Fil.validB q.flt = true) (ht : Fil.textF q.flt = s.data.toList) (hn : q.sub = []) (hs : s.size ≤ 1000000) (W : World) (hE : Env W) :
    Calls Tryz.prog 106 #[.string s] W fun e w' => e = .returned (.tuple #[.agg #[.int .i64 (q.zone : Int), .int .i64 (q.who : Int), .int .i64 (q.self : Int), .int .i64 (q.types : Int), .int .i64 (q.ntypes : Int), .int .i64 (q.colors : Int), .int .i64 (q.ncolors : Int), .string ⟨#[]⟩, .int .i64 (q.keys : Int), .int .i64 (q.tap : Int), .int .i64 q.pow.kind, .int .i64 q.pow.n, .int .i64 q.tough.kind, .int .i64 q.tough.n, .int .i64 q.val.kind, .int .i64 q.val.n], .int .i64 0]) ∧ Below W.heap.size W w' :=
  (filParse s W hs hE).mono fun e w' h => by
    have hp := Fil.parse_text hq
    rw [ht] at hp
    rcases h with ⟨a, fs, h1, h2, _, _, h5, h6, h7⟩ | ⟨h1, h2, _, _⟩
    · obtain rfl : q = a := acc_inj (hp.1.symm.trans h1)
      obtain rfl : fs = ⟨#[]⟩ := bytes_none (h5.symm.trans hn)
      exact ⟨h6, h7⟩
    · rw [hp.2] at h2; cases h2
theorem parseNone (s : ByteArray) (he : Fil.parseE s.data.toList = 3) (hs : s.size ≤ 1000000) (W : World) (hE : Env W) :
    Calls Tryz.prog 106 #[.string s] W fun e w' => e = .returned (.tuple #[.agg #[.int .i64 0, .int .i64 0, .int .i64 0, .int .i64 0, .int .i64 0, .int .i64 0, .int .i64 0, .string ⟨#[]⟩, .int .i64 0, .int .i64 0, .int .i64 0, .int .i64 0, .int .i64 0, .int .i64 0, .int .i64 0, .int .i64 0], .int .i64 3]) ∧ Below W.heap.size W w' :=
  (filParse s W hs hE).mono fun e w' h => by
    rcases h with ⟨_, _, _, h2, _⟩ | ⟨_, _, h3, h4⟩
    · rw [he] at h2; cases h2
    · exact ⟨h3, h4⟩
theorem aliveP1 (W : World) (hE : Env W) : Calls Tryz.prog 106 #[.string ⟨#[121, 111, 117, 114, 115, 32, 111, 116, 104, 101, 114, 32, 99, 114, 101, 97, 116, 117, 114, 101, 32, 119, 105, 116, 104, 58, 102, 108, 121, 105, 110, 103, 32, 112, 111, 119, 101, 114, 62, 61, 51]⟩] W fun e w' => e = .returned (.tuple #[.agg #[.int .i64 0, .int .i64 1, .int .i64 2, .int .i64 1, .int .i64 0, .int .i64 0, .int .i64 0, .string ⟨#[]⟩, .int .i64 1, .int .i64 0, .int .i64 1, .int .i64 3, .int .i64 0, .int .i64 0, .int .i64 0, .int .i64 0], .int .i64 0]) ∧ Below W.heap.size W w' :=
  parseAt ⟨#[121, 111, 117, 114, 115, 32, 111, 116, 104, 101, 114, 32, 99, 114, 101, 97, 116, 117, 114, 101, 32, 119, 105, 116, 104, 58, 102, 108, 121, 105, 110, 103, 32, 112, 111, 119, 101, 114, 62, 61, 51]⟩ aliveA valid_alive text_alive rfl (by decide) W hE
theorem aliveP2 (W : World) (hE : Env W) : Calls Tryz.prog 106 #[.string ⟨#[97, 110, 121]⟩] W fun e w' => e = .returned (.tuple #[.agg #[.int .i64 0, .int .i64 0, .int .i64 0, .int .i64 0, .int .i64 0, .int .i64 0, .int .i64 0, .string ⟨#[]⟩, .int .i64 0, .int .i64 0, .int .i64 0, .int .i64 0, .int .i64 0, .int .i64 0, .int .i64 0, .int .i64 0], .int .i64 0]) ∧ Below W.heap.size W w' :=
  parseAt ⟨#[97, 110, 121]⟩ Fil.zeroA valid_zero text_zero rfl (by decide) W hE
theorem aliveP3 (W : World) (hE : Env W) : Calls Tryz.prog 106 #[.string ⟨#[99, 114, 101, 97, 116, 117, 114, 101, 32, 121, 111, 117, 114, 115]⟩] W fun e w' => e = .returned (.tuple #[.agg #[.int .i64 0, .int .i64 0, .int .i64 0, .int .i64 0, .int .i64 0, .int .i64 0, .int .i64 0, .string ⟨#[]⟩, .int .i64 0, .int .i64 0, .int .i64 0, .int .i64 0, .int .i64 0, .int .i64 0, .int .i64 0, .int .i64 0], .int .i64 3]) ∧ Below W.heap.size W w' :=
  parseNone ⟨#[99, 114, 101, 97, 116, 117, 114, 101, 32, 121, 111, 117, 114, 115]⟩ parse_bad.2 (by decide) W hE
theorem aliveTx (W : World) (hE : Env W) : Calls Tryz.prog 51 #[.agg #[.int .i64 0, .int .i64 1, .int .i64 2, .int .i64 1, .int .i64 0, .int .i64 0, .int .i64 0, .string ⟨#[]⟩, .int .i64 1, .int .i64 0, .int .i64 1, .int .i64 3, .int .i64 0, .int .i64 0, .int .i64 0, .int .i64 0]] W fun e w' => e = .returned (.string ⟨#[121, 111, 117, 114, 115, 32, 111, 116, 104, 101, 114, 32, 99, 114, 101, 97, 116, 117, 114, 101, 32, 119, 105, 116, 104, 58, 102, 108, 121, 105, 110, 103, 32, 112, 111, 119, 101, 114, 62, 61, 51]⟩) ∧ Below W.heap.size W w' := by
  have h := filText aliveA.flt ⟨#[]⟩ rfl (by decide) W hE
  rw [text_alive] at h
  exact h
theorem aliveIs (W : World) (hE : Env W) : Calls Tryz.prog 23 #[.agg #[.int .i64 0, .int .i64 0, .int .i64 0, .int .i64 0, .int .i64 0, .int .i64 0, .int .i64 0, .string ⟨#[]⟩, .int .i64 0, .int .i64 3, .int .i64 0, .int .i64 0, .int .i64 0, .int .i64 0, .int .i64 0, .int .i64 0]] W fun e w' => e = .returned (.bool false) ∧ Below W.heap.size W w' := by
  have h := filIs ⟨0, 0, 0, 0, 0, 0, 0, [], 0, 3, Fil.zeroB, Fil.zeroB, Fil.zeroB⟩ ⟨#[]⟩ rfl (by decide) W hE
  have hv : Fil.validB ⟨0, 0, 0, 0, 0, 0, 0, [], 0, 3, Fil.zeroB, Fil.zeroB, Fil.zeroB⟩ = false := by
    unfold Fil.validB
    rw [show Fil.subB (⟨0, 0, 0, 0, 0, 0, 0, [], 0, 3, Fil.zeroB, Fil.zeroB, Fil.zeroB⟩ : Fil.Flt).sub = true from sub_nil]
    decide +kernel
  rw [hv] at h
  exact h
end Go.Proofs.YtkohfomiigcifaaGreatDoor
namespace Go.Proofs.YtkohfomiigcifaaGreatDoor
open Go.RowKit

section
variable {ops : Array Oper} {Q : Exit → Act → World → Prop} {md : Region.Mode} {S : World → Prop}
theorem take_loadF (i : Nat) (d : Option Tmp) {oi : Oper} {fuel : Nat} {listed : Array Bool} {a : Act} {w : World} (hi : ops[i]? = some oi) (hd : oi.dst = d)
    (hs : Region.noSelect ops = true) (hf : Region.free md ops listed i = true) (hr : (Region.ready md ops listed).contains i = true)
    {b : Nat} {cs : Array Value} (hQ : ∀ c a w, Q (.panic c) (a.put d (.agg cs)) w → Q (.panic c) a w) (hw : Region.wanted oi (yielded ops a.tmps) = true) (x : Operand) (ho : oi.op = .load 25 x)
    (hx : a.eval x = .pointer (some ⟨b, 0, none⟩)) (hk : ∀ w, S w → Blk w b cs 25) (hn : cs.size = 16) (hS : S w)
    (h : wpAnyH Tryz.prog md ops Q S fuel (listed.setIfInBounds i true) (a.put d (.agg cs)) w) : wpAnyH Tryz.prog md ops Q S (fuel + 1) listed a w :=
  take_run i d hi hd hs hf hr hQ hw (fun w' h' => by
    unfold execOp
    have hl := run_loadVar_mid (P := Tryz.prog) w' b 0 25 cs.toList _ (hk w' h').range Tryz.underlying25 rfl (by rw [sizeTF]; simp [hn])
    simp only [ho, hx, Instr.loadAt, Instr.sureAddr, Sem.run_bind, Sem.run_pure, Result.andThen_ok, hl]) hS h
end
end Go.Proofs.YtkohfomiigcifaaGreatDoor
namespace Go.Proofs.YtkohfomiigcifaaGreatDoor
open Go.RowKit

/-- the text of a valid filter is short -/
theorem textF_len {f : Fil.Flt} (h : Fil.validB f = true) : (Fil.textF f).length ≤ 4000 := by
  rw [Fil.textF_valid h]
  unfold Fil.textP
  split
  · decide
  · exact text_len (Fil.valid_of h)
end Go.Proofs.YtkohfomiigcifaaGreatDoor
namespace Go.Proofs.YtkohfomiigcifaaGreatDoor
open Go.RowKit

theorem Blk.rangeM {w : World} {b : Nat} {cs : Array Value} {t : TypeId} (h : Blk w b cs t) {o : Nat} {xs : Array Value} (hm : ∀ (j : Nat) v, xs[j]? = some v → cs[o + j]? = some v) : w.rangeAt b o xs.toList := fun j v hv => by
  rw [h.cell]
  exact hm j v (by simpa using hv)
theorem Blk.thereM {w : World} {b : Nat} {cs : Array Value} {t : TypeId} (h : Blk w b cs t) {o n : Nat} (ho : o + n ≤ cs.size) : w.there b o n := fun j hj => by
  exact ⟨by rw [h.cell, Array.getElem?_eq_getElem (show o + j < cs.size by omega)]; rfl, h.free _⟩
section
variable {P : Program}
theorem run_loadV {w : World} {b j : Nat} {cs : Array Value} {T' T : TypeId} {v : Value} {D : TypeDesc} (hk : Blk w b cs T') (hv : cs[j]? = some v) (hu : P.underlying T = some D) (hd : D.isRow = false) :
    (loadVar T ⟨b, j, none⟩).run P w = .ok v w := by
  have hagg : (isAgg T).run P w = .ok false w := by
    unfold isAgg
    rw [Sem.run_bind, run_underlying hu w]
    cases D <;> simp_all
  have hc := hk.cell j
  rw [hv] at hc
  simp [loadVar, Sem.run_bind, hagg, hc]
/-- one cell of a block loaded, at a region's list -/
theorem wpList_loadV {ops : Array Oper} {rest : List Oper} {a : Act} {w : World} {Q : Exit → Act → World → Prop} {d : Option Tmp} {ty T : TypeId} {ps : String} {af : Array Edge} {gd : Option (Nat × Bool)} (x : Operand)
    (hw : Region.wanted { dst := d, op := .load T x, type := ty, pos := ps, after := af, guard := gd } (yielded ops a.tmps) = true)
    {b j : Nat} {cs : Array Value} {T' : TypeId} {v : Value} {D : TypeDesc} (hx : a.eval x = .pointer (some ⟨b, j, none⟩)) (hk : Blk w b cs T') (hv : cs[j]? = some v) (hu : P.underlying T = some D) (hd : D.isRow = false)
    (h : wpList P ops Q rest (a.put d v) w) : wpList P ops Q ({ dst := d, op := .load T x, type := ty, pos := ps, after := af, guard := gd } :: rest) a w := by
  unfold wpList
  rw [if_pos hw]
  refine .inl ?_
  unfold Oper.wp execOp
  simp only [hx, Instr.loadAt, Instr.sureAddr, Sem.run_bind, Sem.run_pure, Result.andThen_ok, run_loadV hk hv hu hd]
  exact h
/-- a part of a struct loaded whole, at a region's list -/
theorem wpList_loadM {ops : Array Oper} {rest : List Oper} {a : Act} {w : World} {Q : Exit → Act → World → Prop} {d : Option Tmp} {ty T : TypeId} {ps : String} {af : Array Edge} {gd : Option (Nat × Bool)} (x : Operand)
    (hw : Region.wanted { dst := d, op := .load T x, type := ty, pos := ps, after := af, guard := gd } (yielded ops a.tmps) = true)
    {b o : Nat} {cs xs : Array Value} {T' : TypeId} {D : TypeDesc} (hx : a.eval x = .pointer (some ⟨b, o, none⟩)) (hk : Blk w b cs T') (hm : ∀ (j : Nat) v, xs[j]? = some v → cs[o + j]? = some v) (hu : P.underlying T = some D) (hd : D.isRow = true) (hn : (P.info? T).map (·.size) = some xs.size)
    (h : wpList P ops Q rest (a.put d (.agg xs)) w) : wpList P ops Q ({ dst := d, op := .load T x, type := ty, pos := ps, after := af, guard := gd } :: rest) a w := by
  unfold wpList
  rw [if_pos hw]
  refine .inl (wp_load_mid T x rfl b o hx xs.toList _ (hk.rangeM hm) hu hd (by simpa using hn) ?_)
  simpa using h
/-- a part of a struct stored whole, at a region's list -/
theorem wpList_storeM {ops : Array Oper} {rest : List Oper} {a : Act} {w : World} {Q : Exit → Act → World → Prop} {d : Option Tmp} {ty T : TypeId} {ps : String} {af : Array Edge} (x y : Operand)
    {b o : Nat} {cs vs : Array Value} {T' : TypeId} (hx : a.eval x = .pointer (some ⟨b, o, none⟩)) (hy : a.eval y = .agg vs) (hk : Blk w b cs T') (ho : o + vs.size ≤ cs.size) (hi : (P.info? T).map (·.size) = some vs.size) (h1 : vs.all (·.oneCell') = true)
    (h : wpList P ops Q rest (a.put d undef) (w.setCells b o vs.toList)) : wpList P ops Q ({ dst := d, op := .store T x y, type := ty, pos := ps, after := af, guard := none } :: rest) a w :=
  wpList_store_mid rfl T x y rfl b o vs hx hy (hk.thereM ho) hi h1 h
end
/-- three integers and a part -/
def cells3 (k n c : Int) (xs : Array Value) : Array Value := #[.int .i64 k, .int .i64 n, .int .i64 c] ++ xs
theorem cells3_size (k n c : Int) (xs : Array Value) : (cells3 k n c xs).size = xs.size + 3 := by simp [cells3]; omega
theorem cells3_0 (k n c : Int) (xs : Array Value) : (cells3 k n c xs)[0]? = some (.int .i64 k) := by simp [cells3, Array.getElem?_append]
theorem cells3_1 (k n c : Int) (xs : Array Value) : (cells3 k n c xs)[1]? = some (.int .i64 n) := by simp [cells3, Array.getElem?_append]
theorem cells3_2 (k n c : Int) (xs : Array Value) : (cells3 k n c xs)[2]? = some (.int .i64 c) := by simp [cells3, Array.getElem?_append]
theorem cells3_at (k n c : Int) (xs : Array Value) (j : Nat) : (cells3 k n c xs)[3 + j]? = xs[j]? := by
  simp [cells3, Array.getElem?_append, show ¬ 3 + j < 3 by omega, show 3 + j - 3 = j by omega]
theorem cells3_part (k n c : Int) (xs : Array Value) (j : Nat) (v : Value) (h : xs[j]? = some v) : (cells3 k n c xs)[3 + j]? = some v := by rw [cells3_at]; exact h
theorem cells3_one {k n c : Int} {xs : Array Value} (h : xs.all (·.oneCell') = true) : (cells3 k n c xs).all (·.oneCell') = true := by
  unfold cells3
  rw [Array.all_append, h]
  simp [Value.oneCell']
theorem cells3_get (k n c : Int) (xs : Array Value) (j : Nat) : (cells3 k n c xs)[j]? = if j = 0 then some (.int .i64 k) else if j = 1 then some (.int .i64 n) else if j = 2 then some (.int .i64 c) else xs[j - 3]? := by
  match j with
  | 0 => exact cells3_0 ..
  | 1 => exact cells3_1 ..
  | 2 => exact cells3_2 ..
  | j + 3 => rw [Nat.add_comm j 3, cells3_at, if_neg (by omega), if_neg (by omega), if_neg (by omega)]; congr 1; omega
theorem cells3_set0 (k n c x : Int) (xs : Array Value) : (cells3 k n c xs).setIfInBounds 0 (.int .i64 x) = cells3 x n c xs := by
  apply Array.ext_getElem?
  intro j
  have := cells3_size k n c xs
  rw [Array.getElem?_setIfInBounds, cells3_get, cells3_get]
  by_cases h : 0 = j
  · subst h; rw [if_pos rfl, if_pos (by omega)]; rfl
  · have h' : ¬ j = 0 := by omega
    simp only [if_neg h, if_neg h']
theorem cells3_set1 (k n c x : Int) (xs : Array Value) : (cells3 k n c xs).setIfInBounds 1 (.int .i64 x) = cells3 k x c xs := by
  apply Array.ext_getElem?
  intro j
  have := cells3_size k n c xs
  rw [Array.getElem?_setIfInBounds, cells3_get, cells3_get]
  by_cases h : 1 = j
  · subst h; rw [if_pos rfl, if_pos (by omega)]; rfl
  · have h' : ¬ j = 1 := by omega
    simp only [if_neg h, if_neg h']
theorem cells3_set2 (k n c x : Int) (xs : Array Value) : (cells3 k n c xs).setIfInBounds 2 (.int .i64 x) = cells3 k n x xs := by
  apply Array.ext_getElem?
  intro j
  have := cells3_size k n c xs
  rw [Array.getElem?_setIfInBounds, cells3_get, cells3_get]
  by_cases h : 2 = j
  · subst h; rw [if_pos rfl, if_pos (by omega)]; rfl
  · have h' : ¬ j = 2 := by omega
    simp only [if_neg h, if_neg h']
theorem cells3_laid {k n c : Int} {xs ys : Array Value} (h : ys.size = xs.size) : laidAt (cells3 k n c xs) 3 ys.toList = cells3 k n c ys := by
  have hs := cells3_size k n c xs
  apply Array.ext_getElem?
  intro j
  rw [laidAt_get _ _ _ _ (by simp; omega), cells3_get, cells3_get]
  by_cases hj : 3 ≤ j
  · have e0 : ¬ j = 0 := by omega
    have e1 : ¬ j = 1 := by omega
    have e2 : ¬ j = 2 := by omega
    simp only [if_neg e0, if_neg e1, if_neg e2]
    by_cases h2 : j < 3 + ys.toList.length
    · rw [if_pos ⟨hj, h2⟩]; simp
    · rw [if_neg (by omega)]
      simp only [Array.length_toList] at h2
      rw [Array.getElem?_eq_none (by omega), Array.getElem?_eq_none (by omega)]
  · rw [if_neg (by omega)]
    have h3 : j = 0 ∨ j = 1 ∨ j = 2 := by omega
    rcases h3 with rfl | rfl | rfl <;> rfl
theorem Blk.part3 {w : World} {b : Nat} {k n c : Int} {xs : Array Value} {t : TypeId} (h : Blk w b (cells3 k n c xs) t) {ys : Array Value} (hs : ys.size = xs.size) : Blk (w.setCells b 3 ys.toList) b (cells3 k n c ys) t := by
  rw [← cells3_laid (k := k) (n := n) (c := c) hs]
  exact h.laid
section
variable {P : Program}
theorem run_storeV {w : World} {b j : Nat} {cs : Array Value} {T' T : TypeId} {v : Value} (hk : Blk w b cs T') (hj : j < cs.size) (hi : (P.info? T).map (·.size) = some 1) (h1 : v.oneCell' = true) :
    (storeVar T ⟨b, j, none⟩ v).run P w = .ok () (w.setCells b j [v]) := by
  cases hq : P.info? T with
  | none => rw [hq] at hi; cases hi
  | some i =>
    rw [hq] at hi
    have hs : i.size = 1 := by simpa using hi
    exact Lib.rl_storeVar_one T i hq hs ⟨b, j, none⟩ v (cs[j]) h1 w (by rw [hk.cell, Array.getElem?_eq_getElem hj]) (hk.free j)
/-- a scalar stored into a cell of a block, at a region's list -/
theorem wpList_storeV {ops : Array Oper} {rest : List Oper} {a : Act} {w : World} {Q : Exit → Act → World → Prop} {d : Option Tmp} {ty T : TypeId} {ps : String} {af : Array Edge} (x y : Operand)
    {b j : Nat} {cs : Array Value} {T' : TypeId} {v : Value} (hx : a.eval x = .pointer (some ⟨b, j, none⟩)) (hy : a.eval y = v) (hk : Blk w b cs T') (hj : j < cs.size) (hi : (P.info? T).map (·.size) = some 1) (h1 : v.oneCell' = true)
    (h : wpList P ops Q rest (a.put d undef) (w.setCells b j [v])) : wpList P ops Q ({ dst := d, op := .store T x y, type := ty, pos := ps, after := af, guard := none } :: rest) a w :=
  wpList_plain rfl fun _ hK => by
    unfold Oper.wp execOp
    simp only [hx, hy, Instr.storeAt, Instr.sureAddr, Sem.run_bind, Sem.run_pure, Result.andThen_ok, run_storeV hk hj hi h1]
    exact hK _ _ h
end
theorem Blk.stored {w : World} {b o : Nat} {cs cs' : Array Value} {t : TypeId} {vs : List Value} (h : Blk w b cs t) (e : laidAt cs o vs = cs') : Blk (w.setCells b o vs) b cs' t := e ▸ h.laid
theorem cells3_put0 (k n c x : Int) (xs : Array Value) : laidAt (cells3 k n c xs) 0 [.int .i64 x] = cells3 x n c xs := by
  simp only [laidAt]
  exact cells3_set0 k n c x xs
theorem cells3_put1 (k n c x : Int) (xs : Array Value) : laidAt (cells3 k n c xs) 1 [.int .i64 x] = cells3 k x c xs := by
  simp only [laidAt]
  exact cells3_set1 k n c x xs
theorem cells3_put2 (k n c x : Int) (xs : Array Value) : laidAt (cells3 k n c xs) 2 [.int .i64 x] = cells3 k n x xs := by
  simp only [laidAt]
  exact cells3_set2 k n c x xs
/-! short words for walks that are written by a program -/
theorem pu (a : Act) (d : Tmp) (v : Value) : a.put (some d) v = { a with tmps := a.tmps.setIfInBounds d v } := rfl
theorem sB {α : Type} (l : List α) (i : Nat) (v : α) : l.toArray.setIfInBounds i v = (l.set i v).toArray := by simp
theorem s0 {α : Type} (a b : α) (l : List α) : (a :: l).set 0 b = b :: l := rfl
theorem sS {α : Type} (a b : α) (l : List α) (n : Nat) : (a :: l).set (n + 1) b = a :: l.set n b := rfl
/-- an operation run, its slot its own -/
theorem rN {P : Program} {ops : Array Oper} {rest : List Oper} {o : Oper} {a : Act} {w : World} {Q : Exit → Act → World → Prop} {v : Value}
    (hw : Region.wanted o (yielded ops a.tmps) = true) (hy : (execOp a.eval o).run P w = .ok (.value v) w) (h : wpList P ops Q rest (a.put o.dst v) w) : wpList P ops Q (o :: rest) a w := wpList_runV _ rfl hw hy h
/-- an operation left out, its slot its own -/
theorem kN {P : Program} {ops : Array Oper} {rest : List Oper} {o : Oper} {a : Act} {w : World} {Q : Exit → Act → World → Prop}
    (hw : Region.wanted o (yielded ops a.tmps) = false) (h : wpList P ops Q rest (a.put o.dst undef) w) : wpList P ops Q (o :: rest) a w := wpList_skipV _ rfl hw h
end Go.Proofs.YtkohfomiigcifaaGreatDoor
namespace Go.Proofs.YtkohfomiigcifaaGreatDoor
open Go.RowKit
open Wd (Bs)

def cellsF (f : Fil.Flt) (fs : ByteArray) : Array Value := #[.int .i64 f.zone, .int .i64 f.who, .int .i64 f.self, .int .i64 f.types, .int .i64 f.ntypes, .int .i64 f.colors, .int .i64 f.ncolors, .string fs, .int .i64 f.keys, .int .i64 f.tap, .int .i64 f.pow.kind, .int .i64 f.pow.n, .int .i64 f.tough.kind, .int .i64 f.tough.n, .int .i64 f.val.kind, .int .i64 f.val.n]
theorem cellsF_acc (a : Fil.Acc) (fs : ByteArray) : cellsF a.flt fs = cellsA a fs := rfl
theorem cellsF_zero : cellsF Fil.zero ⟨#[]⟩ = cellsZ := rfl
theorem cellsF_size (f : Fil.Flt) (fs : ByteArray) : (cellsF f fs).size = 16 := rfl
theorem cellsZ_size : cellsZ.size = 16 := rfl
theorem cellsF_one (f : Fil.Flt) (fs : ByteArray) : (cellsF f fs).all (·.oneCell') = true := by simp [cellsF, Value.oneCell']
theorem infoTF16 {xs : Array Value} (h : xs.size = 16) : (Tryz.prog.info? 25).map (·.size) = some xs.size := by rw [sizeTF, h]
theorem str_of {x : ByteArray} {l : Bs} (h : x.data.toList = l) : (.string x : Value) = str l := by
  unfold str
  congr 1
  exact bytes_one (by rw [h])
theorem below_same {f : FuncId} {args : Array Value} {v : Value} {w : World} (h : Calls Tryz.prog f args w fun e w' => e = .returned v ∧ w = w') : Calls Tryz.prog f args w fun e w' => e = .returned v ∧ Below w.heap.size w w' :=
  h.mono fun _ _ ⟨he, hw⟩ => ⟨he, hw ▸ Below.refl _ _⟩
theorem below_same' {f : FuncId} {args : Array Value} {v : Value} {w : World} (h : Calls Tryz.prog f args w fun e w' => e = .returned v ∧ w' = w) : Calls Tryz.prog f args w fun e w' => e = .returned v ∧ Below w.heap.size w w' :=
  h.mono fun _ _ ⟨he, hw⟩ => ⟨he, hw ▸ Below.refl _ _⟩
def fsOf (f : Fil.Flt) : ByteArray := ⟨f.sub.toArray⟩
theorem fsOf_sub (f : Fil.Flt) : f.sub = (fsOf f).data.toList := rfl
theorem fs_eq {f : Fil.Flt} {fs : ByteArray} (h : f.sub = fs.data.toList) : fs = fsOf f := bytes_one (by rw [← h]; exact fsOf_sub f)
theorem size_of (l : Bs) : (ByteArray.mk l.toArray).size = l.length := by
  show l.toArray.size = l.length
  simp
theorem cut_le (l sep : Bs) : (Wd.cut l sep).1.length ≤ l.length ∧ (Wd.cut l sep).2.1.length ≤ l.length := by
  unfold Wd.cut
  split
  · simp
  · split
    · simp; omega
    · simp
theorem filParseM (s : ByteArray) (hs : s.size ≤ 1000000) (w : World) (hE : Env w) :
    Calls Tryz.prog 106 #[.string s] w fun e w' => e = .returned (.tuple #[.agg (cellsF (Fil.parseV s.data.toList) (fsOf (Fil.parseV s.data.toList))), .int .i64 (Fil.parseE s.data.toList)]) ∧ Below w.heap.size w w' := by
  refine (filParse s w hs hE).mono ?_
  rintro e w1 (⟨a, fs, h1, h2, _, _, h5, rfl, hb⟩ | ⟨h1, h2, rfl, hb⟩)
  · refine ⟨?_, hb⟩
    rw [h1, h2, ← fs_eq (f := a.flt) h5]
    rfl
  · refine ⟨?_, hb⟩
    rw [h1, h2]
    rfl
theorem cutPre (s p : ByteArray) (w : World) : Calls Tryz.prog 104 #[.string s, .string p] w fun e w' => e = .returned (.tuple #[.string ⟨(if p.data.toList.isPrefixOf s.data.toList then s.data.toList.drop p.data.toList.length else s.data.toList).toArray⟩, .bool (p.data.toList.isPrefixOf s.data.toList)]) ∧ Below w.heap.size w w' := by
  refine (below_same (strCutPrefix s p w)).mono ?_
  rintro e w1 ⟨rfl, hb⟩
  refine ⟨?_, hb⟩
  split
  · rfl
  · rfl
theorem fs_le {fs : ByteArray} (h : fs.size ≤ 1000) : fs.size ≤ maxLen := by unfold maxLen; omega
end Go.Proofs.YtkohfomiigcifaaGreatDoor
namespace Go.Proofs.YtkohfomiigcifaaGreatDoor
open Go.RowKit

def cat : List (Array Value) → Array Value
  | [] => #[]
  | x :: l => x ++ cat l
def sizes (l : List (Array Value)) : Nat := (l.map (·.size)).sum
theorem cat_size : ∀ l, (cat l).size = sizes l
  | [] => rfl
  | x :: l => by simp [cat, sizes, cat_size l]
theorem cat_app : ∀ (a b : List (Array Value)), cat (a ++ b) = cat a ++ cat b
  | [], b => by simp [cat]
  | x :: a, b => by simp [cat, cat_app a b, Array.append_assoc]
/-- a part's cells, behind the parts ahead of it -/
theorem cat_part (pre : List (Array Value)) (x : Array Value) (post : List (Array Value)) {o : Nat} (ho : sizes pre = o) (j : Nat) (v : Value) (h : x[j]? = some v) : (cat (pre ++ x :: post))[o + j]? = some v := by
  have hj : j < x.size := (Array.getElem?_eq_some_iff.1 h).1
  rw [cat_app, cat, Array.getElem?_append, cat_size, ho, if_neg (by omega), show o + j - o = j by omega, Array.getElem?_append, if_pos hj]
  exact h
theorem cat_cell (pre : List (Array Value)) (v : Value) (post : List (Array Value)) {o : Nat} (ho : sizes pre = o) : (cat (pre ++ #[v] :: post))[o]? = some v := cat_part pre #[v] post ho 0 v rfl
/-- a part stored whole -/
theorem cat_laid (pre : List (Array Value)) (x y : Array Value) (post : List (Array Value)) {o : Nat} (ho : sizes pre = o) (hs : y.size = x.size) : laidAt (cat (pre ++ x :: post)) o y.toList = cat (pre ++ y :: post) := by
  have h1 : (cat (pre ++ x :: post)).size = o + x.size + sizes post := by rw [cat_app, cat]; simp [cat_size, ho]; omega
  apply Array.ext_getElem?
  intro j
  rw [laidAt_get _ _ _ _ (by simp; omega), cat_app, cat_app, cat, cat]
  simp only [Array.length_toList, Array.getElem?_append, cat_size, ho, Array.getElem?_toList]
  by_cases h2 : o ≤ j ∧ j < o + y.size
  · rw [if_pos h2, if_neg (by omega), if_pos (by omega)]
  · rw [if_neg h2]
    by_cases h3 : j < o
    · rw [if_pos h3, if_pos h3]
    · rw [if_neg h3, if_neg h3, if_neg (by omega), if_neg (by omega), hs]
theorem cat_put (pre : List (Array Value)) (u v : Value) (post : List (Array Value)) {o : Nat} (ho : sizes pre = o) : laidAt (cat (pre ++ #[u] :: post)) o [v] = cat (pre ++ #[v] :: post) := cat_laid pre #[u] #[v] post ho rfl
/-- a part of a part stored: what is stored lies inside part x from its offset p on -/
theorem cat_deep (pre : List (Array Value)) (x y : Array Value) (post : List (Array Value)) {o p : Nat} {vs : List Value} (ho : sizes pre = o) (hp : p + vs.length ≤ x.size) (h : laidAt x p vs = y) : laidAt (cat (pre ++ x :: post)) (o + p) vs = cat (pre ++ y :: post) := by
  subst h
  have h1 : (cat (pre ++ x :: post)).size = o + x.size + sizes post := by rw [cat_app, cat]; simp [cat_size, ho]; omega
  apply Array.ext_getElem?
  intro j
  rw [laidAt_get _ _ _ _ (by omega), cat_app, cat_app, cat, cat]
  simp only [Array.getElem?_append, cat_size, ho, laidAt_size]
  by_cases h2 : o + p ≤ j ∧ j < o + p + vs.length
  · rw [if_pos h2, if_neg (by omega), if_pos (by omega), laidAt_get _ _ _ _ hp, if_pos (by omega)]
    congr 1
    omega
  · rw [if_neg h2]
    by_cases h3 : j < o
    · rw [if_pos h3, if_pos h3]
    · rw [if_neg h3, if_neg h3]
      by_cases h4 : j - o < x.size
      · rw [if_pos h4, if_pos h4, laidAt_get _ _ _ _ hp, if_neg (by omega)]
      · rw [if_neg h4, if_neg h4]
theorem cat_one : ∀ {l : List (Array Value)}, (∀ x ∈ l, x.all (·.oneCell') = true) → (cat l).all (·.oneCell') = true
  | [], _ => by simp [cat]
  | x :: l, h => by
    have h1 := h x (by simp)
    have h2 := cat_one (l := l) fun y hy => h y (List.mem_cons_of_mem _ hy)
    rw [cat, Array.all_append, h1, h2, Bool.and_self]
theorem one_nil : (cat []).all (·.oneCell') = true := by simp [cat]
theorem one_cons {x : Array Value} {l : List (Array Value)} (h1 : x.all (·.oneCell') = true) (h2 : (cat l).all (·.oneCell') = true) : (cat (x :: l)).all (·.oneCell') = true := by
  rw [cat, Array.all_append, h1, h2, Bool.and_self]
theorem one_int (k : IntKind) (n : Int) : (#[.int k n] : Array Value).all (·.oneCell') = true := by simp [Value.oneCell']
theorem one_str (s : ByteArray) : (#[.string s] : Array Value).all (·.oneCell') = true := by simp [Value.oneCell']
theorem one_bool (b : Bool) : (#[.bool b] : Array Value).all (·.oneCell') = true := by simp [Value.oneCell']
theorem one_slice (a : Option Addr) (n c : Nat) : (#[.slice a n c] : Array Value).all (·.oneCell') = true := by simp [Value.oneCell']
/-! a struct among the arguments: its cells parted -/
theorem cat_list : ∀ (l : List (Array Value)), (cat l).toList = (l.map (·.toList)).flatten
  | [] => rfl
  | x :: l => by simp [cat, cat_list l]
theorem part_step (cs : List Value) (o n : Nat) {a r : List Value} (h1 : (cs.drop o).take n = a) (h2 : cs.drop (o + n) = r) : cs.drop o = a ++ r := by
  rw [← h1, ← h2, ← List.drop_drop]
  exact (List.take_append_drop n (cs.drop o)).symm
theorem part_end (cs : List Value) {n : Nat} (h : cs.length = n) : cs.drop n = [] := List.drop_eq_nil_of_le (by omega)
theorem agg_list (x : Array Value) : Value.agg ⟨x.toList⟩ = .agg x := rfl
theorem one_of (l : List Value) (h : l.length = 1) : ∃ v, l = [v] := by
  match l, h with
  | [v], _ => exact ⟨v, rfl⟩
end Go.Proofs.YtkohfomiigcifaaGreatDoor
namespace Go.Proofs.YtkohfomiigcifaaGreatDoor.Tg
open Wd (cut brk)

abbrev Bs := List UInt8
structure Td where
  k : Int
  n : Int
  f : Fil.Flt
deriving DecidableEq
def zero : Td := ⟨0, 0, Fil.zero⟩
def usesW (k : Int) : Bool := decide (8 ≤ k ∧ k ≤ 13)
def usesF (k : Int) : Bool := decide (1 ≤ k ∧ k ≤ 7 ∨ k = 9 ∨ k = 14)
def zoneK (k : Int) : Int := if k = 9 then 5 else 0
def whoB (n : Int) : Bool := decide (0 ≤ n ∧ n ≤ 2)
/-- valid -/
noncomputable def okB (x : Td) : Bool :=
  (usesW x.k || usesF x.k) && ((if usesW x.k then whoB x.n else decide (x.n = 0)) && (if usesF x.k then Fil.validB x.f && decide (x.f.zone = zoneK x.k) else decide (x.f = Fil.zero)))
theorem ok_parts {x : Td} (h : okB x = true) : 1 ≤ x.k ∧ x.k ≤ 14 ∧ 0 ≤ x.n ∧ x.n ≤ 2 ∧ (usesW x.k = false → x.n = 0) ∧ (usesF x.k = false → x.f = Fil.zero) ∧ (usesF x.k = true → Fil.validB x.f = true ∧ x.f.zone = zoneK x.k) := by
  unfold okB at h
  simp only [Bool.and_eq_true, Bool.or_eq_true] at h
  obtain ⟨h1, h2, h3⟩ := h
  have hk : 1 ≤ x.k ∧ x.k ≤ 14 := by
    simp only [usesW, usesF, decide_eq_true_eq] at h1
    omega
  have hn : 0 ≤ x.n ∧ x.n ≤ 2 := by
    cases hw : usesW x.k with
    | true => rw [hw] at h2; simpa [whoB] using h2
    | false => rw [hw] at h2; simp at h2; omega
  refine ⟨hk.1, hk.2, hn.1, hn.2, fun hw => ?_, fun hf => ?_, fun hf => ?_⟩
  · rw [hw] at h2; simpa using h2
  · rw [hf] at h3; simpa using h3
  · rw [hf] at h3; simpa using h3
/-! texts -/
def headsL : List Bs := [[], [101, 110, 116, 101, 114, 115], [108, 101, 97, 118, 101, 115], [100, 105, 101, 115], [97, 116, 116, 97, 99, 107, 115], [98, 108, 111, 99, 107, 115], [100, 101, 97, 108, 115], [100, 101, 97, 108, 116], [100, 114, 97, 119, 115], [99, 97, 115, 116, 115], [117, 112, 107, 101, 101, 112], [101, 110, 100], [103, 97, 105, 110, 115], [108, 111, 115, 101, 115], [112, 108, 97, 99, 101, 100]]
def playersL : List Bs := [[97, 110, 121], [121, 111, 117], [111, 112, 112, 111, 110, 101, 110, 116, 115]]
def headL (k : Nat) : Bs := headsL.getD k []
def whoL (n : Nat) : Bs := playersL.getD n []
/-- the word for players -/
def whoT (n : Int) : Bs := if whoB n then whoL n.toNat else []
noncomputable def partF (f : Fil.Flt) : Bs := if Fil.validB f then 40 :: (Fil.textF f ++ [41]) else []
noncomputable def raw (x : Td) : Bs := headL x.k.toNat ++ ((if usesW x.k then 32 :: whoT x.n else []) ++ (if usesF x.k then 32 :: partF x.f else []))
noncomputable def textT (x : Td) : Bs := if okB x then raw x else []
theorem textT_ok {x : Td} (h : okB x = true) : textT x = raw x := by unfold textT; rw [if_pos h]
theorem textT_bad {x : Td} (h : okB x = false) : textT x = [] := by unfold textT; rw [if_neg (by simp [h])]
theorem heads_some : ∀ k, k < 15 → 1 ≤ k → (headL k).isEmpty = false := by decide
theorem heads_plain : ∀ k, k < 15 → Ct.plainB 32 (headL k) = true := by decide
theorem whos_plain : ∀ n, n < 3 → Ct.plainB 32 (whoL n) = true := by decide
theorem whos_some : ∀ n, n < 3 → (whoL n).isEmpty = false := by decide
theorem raw_ne {x : Td} (h : okB x = true) : raw x ≠ [] := by
  have hr := ok_parts h
  intro e
  have h1 := heads_some x.k.toNat (by omega) (by omega)
  unfold raw at e
  rw [(List.append_eq_nil_iff.1 e).1] at h1
  cases h1
theorem textT_nil {x : Td} : textT x = [] ↔ okB x = false := by
  constructor
  · intro e
    cases h : okB x with
    | false => rfl
    | true => rw [textT_ok h] at e; exact absurd e (raw_ne h)
  · exact textT_bad
theorem whoT_nil (n : Int) : (whoT n).isEmpty = !whoB n := by
  unfold whoT
  cases h : whoB n with
  | false => rfl
  | true =>
    unfold whoB at h
    simp only [decide_eq_true_eq] at h
    exact whos_some n.toNat (by omega)
/-! the program's reader -/
/-- a filter in brackets, read -/
def inside (s : Bs) : Option Bs := if [40].isPrefixOf s && Lib.hasSuffix (s.drop 1) [41] then some ((s.drop 1).take ((s.drop 1).length - 1)) else none
noncomputable def encV (s : Bs) : Fil.Flt := match inside s with | some m => Fil.parseV m | none => Fil.zero
noncomputable def encE (s : Bs) : Int := match inside s with | some m => Fil.parseE m | none => 3
theorem inside_text (m : Bs) : inside (40 :: (m ++ [41])) = some m := by
  unfold inside Lib.hasSuffix
  simp
theorem enc_text {f : Fil.Flt} (h : Fil.validB f = true) : encV (partF f) = f := by
  unfold encV partF
  rw [if_pos h, inside_text]
  exact (Fil.parse_text h).1
/-- the rest behind the first blank; the part before it -/
def hd (s : Bs) : Bs := (cut s [32]).1
def tl (s : Bs) : Bs := (cut s [32]).2.1
noncomputable def readK (s : Bs) : Int := idx headsL (hd s)
noncomputable def restK (s : Bs) : Bs := if usesW (readK s) then tl (tl s) else tl s
noncomputable def readT (s : Bs) : Td := ⟨readK s, if usesW (readK s) then idx playersL (hd (tl s)) else 0, if usesF (readK s) then encV (restK s) else Fil.zero⟩
theorem idx_heads : ∀ k, k < 15 → idx headsL (headL k) = k := by
  intro k hk
  refine idx_hit (k := k) ?_ ?_
  · unfold headL
    rw [List.getD, List.getElem?_eq_getElem (show k < headsL.length from hk)]
    rfl
  · have key : ∀ k, k < 15 → ∀ j, j < k → headsL[j]? ≠ some (headL k) := by decide
    intro j y hj hy e
    exact key k hk j hj (by rw [hy, e])
theorem idx_players : ∀ n, n < 3 → idx playersL (whoL n) = n := by
  intro k hk
  refine idx_hit (k := k) ?_ ?_
  · unfold whoL
    rw [List.getD, List.getElem?_eq_getElem (show k < playersL.length from hk)]
    rfl
  · have key : ∀ k, k < 3 → ∀ j, j < k → playersL[j]? ≠ some (whoL k) := by decide
    intro j y hj hy e
    exact key k hk j hj (by rw [hy, e])
theorem cut_word {p r : Bs} (h : Ct.plainB 32 p = true) : hd (p ++ 32 :: r) = p ∧ tl (p ++ 32 :: r) = r := by
  unfold hd tl
  rw [Ct.cut_at (Ct.plain_of h)]
  exact ⟨rfl, rfl⟩
theorem cut_whole {p : Bs} (h : Ct.plainB 32 p = true) : hd p = p := by
  unfold hd
  rw [Ct.cut_plain (Ct.plain_of h)]
theorem read_raw {x : Td} (h : okB x = true) : readT (raw x) = x := by
  obtain ⟨h1, h2, h3, h4, h5, h6, h7⟩ := ok_parts h
  have hk : x.k.toNat < 15 := by omega
  have hp := heads_plain _ hk
  have hw : whoT x.n = whoL x.n.toNat := by unfold whoT; rw [if_pos (by unfold whoB; simp only [decide_eq_true_eq]; omega)]
  have hwp := whos_plain x.n.toNat (by omega)
  have hki : idx headsL (headL x.k.toNat) = x.k := by rw [idx_heads _ hk]; omega
  have hwi : idx playersL (whoL x.n.toNat) = x.n := by rw [idx_players _ (by omega)]; omega
  have hu : usesW x.k = true ∨ usesF x.k = true := by
    simp only [usesW, usesF, decide_eq_true_eq]; omega
  have key : readK (raw x) = x.k ∧ (usesW x.k = true → hd (tl (raw x)) = whoT x.n) ∧ (usesF x.k = true → restK (raw x) = partF x.f) := by
    cases hW : usesW x.k with
    | false =>
      have hF : usesF x.k = true := by rw [hW] at hu; simpa using hu
      have hr : raw x = headL x.k.toNat ++ 32 :: partF x.f := by unfold raw; rw [hW, hF]; simp
      have hc := cut_word (r := partF x.f) hp
      rw [← hr] at hc
      have e1 : readK (raw x) = x.k := by unfold readK; rw [hc.1, hki]
      refine ⟨e1, (fun e => by cases e), fun _ => ?_⟩
      unfold restK
      rw [e1, hW, hc.2]
      rfl
    | true =>
      cases hF : usesF x.k with
      | false =>
        have hr : raw x = headL x.k.toNat ++ 32 :: whoT x.n := by unfold raw; rw [hW, hF]; simp
        have hc := cut_word (r := whoT x.n) hp
        rw [← hr] at hc
        have e1 : readK (raw x) = x.k := by unfold readK; rw [hc.1, hki]
        refine ⟨e1, (fun _ => ?_), (fun e => by cases e)⟩
        rw [hc.2, hw]
        exact cut_whole hwp
      | true =>
        have hr : raw x = headL x.k.toNat ++ 32 :: (whoT x.n ++ 32 :: partF x.f) := by unfold raw; rw [hW, hF]; simp
        have hc := cut_word (r := whoT x.n ++ 32 :: partF x.f) hp
        rw [← hr] at hc
        have hd2 := cut_word (r := partF x.f) hwp
        rw [← hw] at hd2
        have e1 : readK (raw x) = x.k := by unfold readK; rw [hc.1, hki]
        refine ⟨e1, (fun _ => ?_), fun _ => ?_⟩
        · rw [hc.2]; exact hd2.1
        · unfold restK
          rw [e1, hW, hc.2]
          exact hd2.2
  obtain ⟨e1, e2, e3⟩ := key
  unfold readT
  rw [e1]
  obtain ⟨k, n, f⟩ := x
  simp only at *
  rw [Td.mk.injEq]
  refine ⟨rfl, ?_, ?_⟩
  · cases hW : usesW k with
    | true => rw [if_pos rfl, e2 hW, hw, hwi]
    | false => rw [if_neg (by decide), h5 hW]
  · cases hF : usesF k with
    | true => rw [if_pos rfl, e3 hF, enc_text (h7 hF).1]
    | false => rw [if_neg (by decide), h6 hF]
theorem read_text {x : Td} (h : okB x = true) : readT (textT x) = x := by rw [textT_ok h]; exact read_raw h
/-- what Parse answers -/
noncomputable def pB (s : Bs) : Bool := okB (readT s) && (textT (readT s) == s)
noncomputable def pV (s : Bs) : Td := if pB s = true then readT s else zero
noncomputable def pE (s : Bs) : Int := if pB s = true then 0 else 3
theorem p_text {x : Td} (h : okB x = true) : pV (textT x) = x ∧ pE (textT x) = 0 := by
  have hb : pB (textT x) = true := by unfold pB; rw [read_text h, h]; simp
  unfold pV pE
  rw [if_pos hb, if_pos hb]
  exact ⟨read_text h, rfl⟩
theorem p_no {s : Bs} (h : pB s = false) : pV s = zero ∧ pE s = 3 := by
  unfold pV pE
  rw [if_neg (by rw [h]; decide), if_neg (by rw [h]; decide)]
  exact ⟨rfl, rfl⟩
theorem p_yes {s : Bs} (h : pB s = true) : okB (pV s) = true ∧ textT (pV s) = s ∧ pE s = 0 ∧ pV s = readT s := by
  unfold pV pE
  rw [if_pos h, if_pos h]
  unfold pB at h
  simp only [Bool.and_eq_true, beq_iff_eq] at h
  exact ⟨h.1, h.2, rfl, rfl⟩
theorem p_nil : pB [] = false := by
  cases h : pB [] with
  | false => rfl
  | true =>
    obtain ⟨h1, h2, _⟩ := p_yes h
    rw [textT_nil] at h2
    rw [h1] at h2
    cases h2
/-! the chapter's search -/
/-- what the search tries before the filter -/
def beginL (k n : Nat) : Bs := headL k ++ ((if usesW k then 32 :: whoL n else []) ++ [32, 40])
noncomputable def candF (s : Bs) (k n : Nat) : Fil.Flt := if usesF k && (decide ((beginL k n).length < s.length) && (s.take (beginL k n).length == beginL k n)) then Fil.parseV ((s.take (s.length - 1)).drop (beginL k n).length) else Fil.zero
noncomputable def cand (s : Bs) (k n : Nat) : Td := ⟨k, n, candF s k n⟩
noncomputable def hitC (s : Bs) (k n : Nat) : Bool := okB (cand s k n) && (textT (cand s k n) == s)
/-- no kind up to k, and at k no player up to n, has the text -/
def NoC (s : Bs) (k n : Nat) : Prop := ∀ i j, 1 ≤ i → i < k ∧ j ≤ 2 ∨ i = k ∧ j < n → hitC s i j = false
theorem NoC.zero (s : Bs) : NoC s 1 0 := fun i j h1 hij => by omega
theorem NoC.next {s : Bs} {k n : Nat} (h : NoC s k n) (hk : hitC s k n = false) : NoC s k (n + 1) := fun i j h1 hij => by
  by_cases e : i = k ∧ j = n
  · obtain ⟨rfl, rfl⟩ := e; exact hk
  · exact h i j h1 (by omega)
theorem NoC.row {s : Bs} {k : Nat} (h : NoC s k 3) : NoC s (k + 1) 0 := fun i j h1 hij => h i j h1 (by omega)
theorem cand_hit {s : Bs} {k n : Nat} (h : hitC s k n = true) : pV s = cand s k n ∧ pE s = 0 := by
  unfold hitC at h
  simp only [Bool.and_eq_true, beq_iff_eq] at h
  obtain ⟨h1, h2⟩ := h
  have := p_text h1
  rw [h2] at this
  exact this
theorem cand_text {x : Td} (h : okB x = true) : cand (textT x) x.k.toNat x.n.toNat = x := by
  obtain ⟨h1, h2, h3, h4, h5, h6, h7⟩ := ok_parts h
  obtain ⟨k, n, f⟩ := x
  simp only at *
  have ek : ((k.toNat : Nat) : Int) = k := by omega
  have en : ((n.toNat : Nat) : Int) = n := by omega
  unfold cand
  rw [ek, en, Td.mk.injEq]
  refine ⟨rfl, rfl, ?_⟩
  unfold candF
  rw [ek]
  cases hF : usesF k with
  | false => rw [if_neg (by simp), h6 hF]
  | true =>
    have hv := (h7 hF).1
    have hw : whoT n = whoL n.toNat := by unfold whoT; rw [if_pos (by unfold whoB; simp only [decide_eq_true_eq]; omega)]
    have e : textT ⟨k, n, f⟩ = beginL k.toNat n.toNat ++ (Fil.textF f ++ [41]) := by
      rw [textT_ok h]
      unfold raw beginL
      simp only
      rw [ek, hF, hw, if_pos rfl]
      unfold partF
      rw [if_pos hv]
      split <;> simp
    rw [e]
    have hc : (decide ((beginL k.toNat n.toNat).length < (beginL k.toNat n.toNat ++ (Fil.textF f ++ [41])).length) && ((beginL k.toNat n.toNat ++ (Fil.textF f ++ [41])).take (beginL k.toNat n.toNat).length == beginL k.toNat n.toNat)) = true := by
      rw [List.take_left]
      simp
    rw [hc, if_pos (by rfl)]
    have em : ((beginL k.toNat n.toNat ++ (Fil.textF f ++ [41])).take ((beginL k.toNat n.toNat ++ (Fil.textF f ++ [41])).length - 1)).drop (beginL k.toNat n.toNat).length = Fil.textF f := by
      have e2 : beginL k.toNat n.toNat ++ (Fil.textF f ++ [41]) = (beginL k.toNat n.toNat ++ Fil.textF f) ++ [41] := by simp
      have e3 : ((beginL k.toNat n.toNat ++ Fil.textF f) ++ [41]).length - 1 = (beginL k.toNat n.toNat ++ Fil.textF f).length := by simp
      rw [e2, e3, List.take_left, List.drop_left]
    rw [em]
    exact (Fil.parse_text hv).1
theorem search_no {s : Bs} (h : NoC s 15 0) : pV s = zero ∧ pE s = 3 := by
  cases hb : pB s with
  | false => exact p_no hb
  | true =>
    exfalso
    obtain ⟨h1, h2, _, _⟩ := p_yes hb
    have hc := cand_text h1
    have hp := ok_parts h1
    rw [h2] at hc
    have := h (pV s).k.toNat (pV s).n.toNat (by omega) (.inl ⟨by omega, by omega⟩)
    unfold hitC at this
    rw [hc, h1, h2] at this
    simp at this
end Go.Proofs.YtkohfomiigcifaaGreatDoor.Tg
namespace Go.Proofs.YtkohfomiigcifaaGreatDoor
open Go.RowKit
open Wd (Bs)

section
variable {ops : Array Oper} {Q : Exit → Act → World → Prop} {md : Region.Mode} {S : World → Prop} {P : Program}
theorem take_loadV (i : Nat) (d : Option Tmp) {oi : Oper} {fuel : Nat} {listed : Array Bool} {a : Act} {w : World} (hi : ops[i]? = some oi) (hd : oi.dst = d)
    (hs : Region.noSelect ops = true) (hf : Region.free md ops listed i = true) (hr : (Region.ready md ops listed).contains i = true)
    {b j : Nat} {cs : Array Value} {T' T : TypeId} {v : Value} {D : TypeDesc} (hQ : ∀ c a w, Q (.panic c) (a.put d v) w → Q (.panic c) a w) (hw : Region.wanted oi (yielded ops a.tmps) = true) (x : Operand) (ho : oi.op = .load T x)
    (hx : a.eval x = .pointer (some ⟨b, j, none⟩)) (hk : ∀ w, S w → Blk w b cs T') (hv : cs[j]? = some v) (hu : P.underlying T = some D) (hr' : D.isRow = false) (hS : S w)
    (h : wpAnyH P md ops Q S fuel (listed.setIfInBounds i true) (a.put d v) w) : wpAnyH P md ops Q S (fuel + 1) listed a w :=
  take_run i d hi hd hs hf hr hQ hw (fun w' h' => by
    unfold execOp
    simp only [ho, hx, Instr.loadAt, Instr.sureAddr, Sem.run_bind, Sem.run_pure, Result.andThen_ok, run_loadV (hk w' h') hv hu hr']) hS h
theorem take_loadS (i : Nat) (d : Option Tmp) {oi : Oper} {fuel : Nat} {listed : Array Bool} {a : Act} {w : World} (hi : ops[i]? = some oi) (hd : oi.dst = d)
    (hs : Region.noSelect ops = true) (hf : Region.free md ops listed i = true) (hr : (Region.ready md ops listed).contains i = true)
    {b : Nat} {cs : Array Value} {T : TypeId} {D : TypeDesc} (hQ : ∀ c a w, Q (.panic c) (a.put d (.agg cs)) w → Q (.panic c) a w) (hw : Region.wanted oi (yielded ops a.tmps) = true) (x : Operand) (ho : oi.op = .load T x)
    (hx : a.eval x = .pointer (some ⟨b, 0, none⟩)) (hk : ∀ w, S w → Blk w b cs T) (hu : P.underlying T = some D) (hr' : D.isRow = true) (hn : (P.info? T).map (·.size) = some cs.size) (hS : S w)
    (h : wpAnyH P md ops Q S fuel (listed.setIfInBounds i true) (a.put d (.agg cs)) w) : wpAnyH P md ops Q S (fuel + 1) listed a w :=
  take_run i d hi hd hs hf hr hQ hw (fun w' h' => by
    unfold execOp
    simp only [ho, hx, Instr.loadAt, Instr.sureAddr, Sem.run_bind, Sem.run_pure, Result.andThen_ok, (hk w' h').readS hu hr' hn]) hS h
end
/-- a call in a region that draws: its frame said from the region's first world on -/
theorem callBase {P : Program} {f : FuncId} {args : Array Value} {R : Ending → World → Prop} {C : Nat} {w0 W : World} (hb : Below C w0 W) (hC : C ≤ w0.heap.size)
    (h : Calls P f args W fun e w' => R e w' ∧ Below W.heap.size W w') : Calls P f args W fun e w' => R e w' ∧ Below C w0 w' :=
  h.mono fun _ _ ⟨he, hb'⟩ => ⟨he, hb.trans (hb'.mono (Nat.le_trans hC hb.size))⟩
theorem laid_all {cs vs : Array Value} {n : Nat} (h : vs.size = n) (h' : cs.size = n) : laidAt cs 0 vs.toList = vs := laidAt_whole (h.trans h'.symm)
theorem fit_1 {cs : Array Value} {j n : Nat} (h : cs.size = n) (hj : j < n) : j < cs.size := h ▸ hj
theorem fit_2 {cs vs : Array Value} {o n m : Nat} (h : cs.size = n) (h' : vs.size = m) (ho : o + m ≤ n) : o + vs.size ≤ cs.size := by rw [h, h']; exact ho
/-- a scalar stored in a region that draws -/
theorem step_storeV {P : Program} {ops : Array Oper} {o : Oper} {a : Act} {w : World} {K : Act → World → Prop} {Q : Exit → Act → World → Prop} {E : Prop} {T : TypeId} (hgd : o.guard = none) (hd : o.dst = none) (x y : Operand) (ho : o.op = .store T x y)
    {b j : Nat} {cs : Array Value} {T' : TypeId} {v : Value} (hx : a.eval x = .pointer (some ⟨b, j, none⟩)) (hy : a.eval y = v) (hk : Blk w b cs T') (hj : j < cs.size) (hi : (P.info? T).map (·.size) = some 1) (h1 : v.oneCell' = true)
    (h : K a (w.setCells b j [v])) : if Region.wanted o (yielded ops a.tmps) = true then Oper.wp P o a w K Q else E := by
  have h' : K (a.put o.dst undef) (w.setCells b j [v]) := by rw [hd]; exact h
  rw [if_pos (by simp [Region.wanted, hgd])]
  unfold Oper.wp execOp
  simp only [ho, hx, hy, Instr.storeAt, Instr.sureAddr, Sem.run_bind, Sem.run_pure, Result.andThen_ok, run_storeV hk hj hi h1]
  exact h'
/-- a struct built of parts, its cells known -/
theorem run_buildOp {P : Program} {o : Oper} {ev : Operand → Value} {w : World} {t : TypeId} (parts : Array (Nat × Operand)) (vals : List (Nat × Value)) {cells : Array Value} (ho : o.op = .build t parts) (hv : parts.toList.map (fun p => (p.1, ev p.2)) = vals) (h : P.built t vals = some cells) :
    (execOp ev o).run P w = .ok (.value (.agg cells)) w := by
  subst hv
  have hr := run_build (P := P) w t (parts.map fun (i, x) => (i, ev x)) cells (by rw [Array.toList_map]; exact h)
  unfold execOp
  simp only [ho, Sem.run_bind, Sem.run_pure, hr, Result.andThen_ok]
end Go.Proofs.YtkohfomiigcifaaGreatDoor
namespace Go.Proofs.YtkohfomiigcifaaGreatDoor
open Go.RowKit

/-- a block: its place, its cells, its element type -/
abbrev Bk := Nat × Array Value × TypeId
def Kp (l : List Bk) (w : World) : Prop := ∀ (i : Nat) (x : Bk), l[i]? = some x → Blk w x.1 x.2.1 x.2.2
theorem Kp.at {l : List Bk} {w : World} (h : Kp l w) (i : Nat) {p : Nat} {cs : Array Value} {T : TypeId} (hi : l[i]? = some (p, cs, T)) : Blk w p cs T := h i (p, cs, T) hi
theorem Kp.below {l : List Bk} {w w' : World} (h : Kp l w) (hb : Below w.heap.size w w') : Kp l w' := fun i x hi => (h i x hi).below hb (h i x hi).lt
structure Mm (w0 w : World) (l : List Bk) : Prop where
  b : Below w0.heap.size w0 w
  k : Kp l w
  g : ∀ (i : Nat) (x : Bk), l[i]? = some x → w0.heap.size ≤ x.1
  n : ∀ (i j : Nat) (x y : Bk), l[i]? = some x → l[j]? = some y → i ≠ j → x.1 ≠ y.1
theorem Mm.nil (w : World) : Mm w w [] := ⟨Below.refl _ _, fun i x h => by simp at h, fun i x h => by simp at h, fun i j x y h => by simp at h⟩
section
variable {w0 w w' : World} {l : List Bk}
theorem Mm.at (M : Mm w0 w l) (i : Nat) {p : Nat} {cs : Array Value} {T : TypeId} (hi : l[i]? = some (p, cs, T)) : Blk w p cs T := M.k i (p, cs, T) hi
theorem Mm.call (M : Mm w0 w l) (hb : Below w.heap.size w w') : Mm w0 w' l := ⟨M.b.trans (hb.mono M.b.size), M.k.below hb, M.g, M.n⟩
theorem Mm.drew (M : Mm w0 w l) : Mm w0 w.drew l := ⟨M.b.drew, fun i x h => (M.k i x h).drew, M.g, M.n⟩
theorem Mm.alloc (M : Mm w0 w l) (cs : Array Value) (T : TypeId) : Mm w0 (w.alloc (.cells cs T)) (l ++ [(w.heap.size, cs, T)]) := by
  have key : ∀ (i : Nat) (x : Bk), (l ++ [(w.heap.size, cs, T)])[i]? = some x → l[i]? = some x ∨ (i = l.length ∧ x = (w.heap.size, cs, T)) := by
    intro i x h
    rw [List.getElem?_append] at h
    split at h
    · exact .inl h
    · rename_i hi
      by_cases he : i = l.length
      · subst he; simp at h; exact .inr ⟨rfl, h.symm⟩
      · rw [List.getElem?_eq_none (by simp; omega)] at h; cases h
  refine ⟨M.b.alloc M.b.size _, ?_, ?_, ?_⟩
  · intro i x h
    rcases key i x h with h | ⟨_, rfl⟩
    · exact (M.k i x h).alloc _
    · exact Blk.new _ _ _
  · intro i x h
    rcases key i x h with h | ⟨_, rfl⟩
    · exact M.g i x h
    · exact M.b.size
  · intro i j x y h h' hij
    rcases key i x h with h | ⟨e, rfl⟩
    · rcases key j y h' with h' | ⟨_, rfl⟩
      · exact M.n i j x y h h' hij
      · exact Nat.ne_of_lt (M.k i x h).lt
    · rcases key j y h' with h' | ⟨e', _⟩
      · exact Nat.ne_of_gt (M.k j y h').lt
      · exact absurd (e.trans e'.symm) hij
theorem Mm.store (M : Mm w0 w l) (i : Nat) {p : Nat} {cs : Array Value} {T : TypeId} (hi : l[i]? = some (p, cs, T)) (o : Nat) (vs : List Value) {cs' : Array Value} (e : laidAt cs o vs = cs') : Mm w0 (w.setCells p o vs) (l.set i (p, cs', T)) := by
  have hil : i < l.length := (List.getElem?_eq_some_iff.1 hi).1
  have key : ∀ (j : Nat) (x : Bk), (l.set i (p, cs', T))[j]? = some x → (j = i ∧ x = (p, cs', T)) ∨ (j ≠ i ∧ l[j]? = some x) := by
    intro j x h
    by_cases hj : j = i
    · subst hj; rw [List.getElem?_set_self hil] at h; exact .inl ⟨rfl, (Option.some.inj h).symm⟩
    · rw [List.getElem?_set_ne (Ne.symm hj)] at h; exact .inr ⟨hj, h⟩
  refine ⟨below_whole vs M.b (M.g i (p, cs, T) hi), ?_, ?_, ?_⟩
  · intro j x h
    rcases key j x h with ⟨_, rfl⟩ | ⟨hj, h⟩
    · exact (M.k i (p, cs, T) hi).stored e
    · exact (M.k j x h).wholeElse vs (M.n j i x (p, cs, T) h hi hj)
  · intro j x h
    rcases key j x h with ⟨_, rfl⟩ | ⟨hj, h⟩
    · exact M.g i (p, cs, T) hi
    · exact M.g j x h
  · intro a b x y h h' hab
    rcases key a x h with ⟨ea, rfl⟩ | ⟨ha, h⟩
    · rcases key b y h' with ⟨eb, _⟩ | ⟨hb, h'⟩
      · exact absurd (ea.trans eb.symm) hab
      · exact fun e => M.n b i y (p, cs, T) h' hi hb e.symm
    · rcases key b y h' with ⟨eb, rfl⟩ | ⟨hb, h'⟩
      · exact M.n a i x (p, cs, T) h hi ha
      · exact M.n a b x y h h' hab
theorem Mm.take (M : Mm w0 w l) (n : Nat) : Mm w0 w (l.take n) := by
  have key : ∀ (i : Nat) (x : Bk), (l.take n)[i]? = some x → l[i]? = some x := fun i x h => by
    rw [List.getElem?_take] at h
    split at h
    · exact h
    · cases h
  exact ⟨M.b, fun i x h => M.k i x (key i x h), fun i x h => M.g i x (key i x h), fun i j x y h h' => M.n i j x y (key i x h) (key j y h')⟩
/-- a further block, told -/
theorem Mm.add (M : Mm w0 w l) {p : Nat} {cs : Array Value} {T : TypeId} (hk : Blk w p cs T) (hg : w0.heap.size ≤ p) (hn : ∀ (i : Nat) (x : Bk), l[i]? = some x → x.1 ≠ p) : Mm w0 w (l ++ [(p, cs, T)]) := by
  have key : ∀ (i : Nat) (x : Bk), (l ++ [(p, cs, T)])[i]? = some x → l[i]? = some x ∨ (i = l.length ∧ x = (p, cs, T)) := by
    intro i x h
    rw [List.getElem?_append] at h
    split at h
    · exact .inl h
    · rename_i hi
      by_cases he : i = l.length
      · subst he; simp at h; exact .inr ⟨rfl, h.symm⟩
      · rw [List.getElem?_eq_none (by simp; omega)] at h; cases h
  refine ⟨M.b, ?_, ?_, ?_⟩
  · intro i x h
    rcases key i x h with h | ⟨_, rfl⟩
    · exact M.k i x h
    · exact hk
  · intro i x h
    rcases key i x h with h | ⟨_, rfl⟩
    · exact M.g i x h
    · exact hg
  · intro i j x y h h' hij
    rcases key i x h with h | ⟨e, rfl⟩
    · rcases key j y h' with h' | ⟨_, rfl⟩
      · exact M.n i j x y h h' hij
      · exact hn i x h
    · rcases key j y h' with h' | ⟨e', _⟩
      · exact fun e => hn j y h' e.symm
      · exact absurd (e.trans e'.symm) hij
/-- a block that a call has made -/
theorem Mm.fresh (M : Mm w0 w l) (hb : Below w.heap.size w w') {p : Nat} {cs : Array Value} {T : TypeId} (hk : Blk w' p cs T) (hp : w.heap.size ≤ p) : Mm w0 w' (l ++ [(p, cs, T)]) :=
  (M.call hb).add hk (Nat.le_trans M.b.size hp) fun i x h => Nat.ne_of_lt (Nat.lt_of_lt_of_le (M.k i x h).lt hp)
theorem whole_part {xs : Array Value} : ∀ (j : Nat) v, xs[j]? = some v → xs[0 + j]? = some v := fun j v h => by rw [Nat.zero_add]; exact h
variable {P : Program} {ops : Array Oper} {rest : List Oper} {o : Oper} {a a' : Act} {Q : Exit → Act → World → Prop}
/-- an operation run -/
theorem rA {v : Value}
    (h : wpList P ops Q rest a' w) (hw : Region.wanted o (yielded ops a.tmps) = true := by with_unfolding_all rfl) (hy : (execOp a.eval o).run P w = .ok (.value v) w := by (go_simp; try with_reducible rfl)) (ha : a.put o.dst v = a' := by (simp only [pu, sB, s0, sS]; try rfl)) : wpList P ops Q (o :: rest) a w := by
  subst ha
  exact rN hw hy h
/-- an operation run, its value and the proof told -/
theorem rB (v : Value) (hy : (execOp a.eval o).run P w = .ok (.value v) w)
    (h : wpList P ops Q rest a' w) (hw : Region.wanted o (yielded ops a.tmps) = true := by with_unfolding_all rfl) (ha : a.put o.dst v = a' := by (simp only [pu, sB, s0, sS]; try rfl)) : wpList P ops Q (o :: rest) a w := by
  subst ha
  exact rN hw hy h
/-- an operation left out -/
theorem kA
    (h : wpList P ops Q rest a' w) (hw : Region.wanted o (yielded ops a.tmps) = false := by with_unfolding_all rfl) (ha : a.put o.dst undef = a' := by (simp only [pu, sB, s0, sS]; try rfl)) : wpList P ops Q (o :: rest) a w := by
  subst ha
  exact kN hw h
/-- a call, its answer told -/
theorem wC {f : FuncId} {args : Array Value} {v : Value} (M : Mm w0 w l) (hc : Calls P f args w fun e w' => e = .returned v ∧ Below w.heap.size w w')
    (h : ∀ w', Mm w0 w' l → wpList P ops Q rest a' w') (hw : Region.wanted o (yielded ops a.tmps) = true := by with_unfolding_all rfl) (hr : (execOp a.eval o).run P w = .ok (.enter f args) w := by go_simp) (ha : a.put o.dst v = a' := by (simp only [pu, sB, s0, sS]; try rfl)) : wpList P ops Q (o :: rest) a w := by
  subst ha
  unfold wpList
  rw [if_pos hw]
  refine .inl ?_
  unfold Oper.wp
  rw [hr, Oper.upon_enter]
  refine hc.mono fun e w' hh => ?_
  obtain ⟨rfl, hb⟩ := hh
  exact h w' (M.call hb)
/-- a call, of whose answer something is told -/
theorem wCx {f : FuncId} {args : Array Value} {R : Ending → World → Prop} (M : Mm w0 w l) (hc : Calls P f args w fun e w' => R e w' ∧ Below w.heap.size w w')
    (h : ∀ e w', R e w' → Below w.heap.size w w' → Mm w0 w' l → ∃ v a', e = .returned v ∧ a.put o.dst v = a' ∧ wpList P ops Q rest a' w') (hw : Region.wanted o (yielded ops a.tmps) = true := by with_unfolding_all rfl) (hr : (execOp a.eval o).run P w = .ok (.enter f args) w := by go_simp) : wpList P ops Q (o :: rest) a w := by
  unfold wpList
  rw [if_pos hw]
  refine .inl ?_
  unfold Oper.wp
  rw [hr, Oper.upon_enter]
  refine hc.mono fun e w' hh => ?_
  obtain ⟨v, a', rfl, rfl, hq⟩ := h e w' hh.1 hh.2 (M.call hh.2)
  exact hq
/-- a call that answers with a block of its own -/
theorem wCn {f : FuncId} {args : Array Value} {v : Nat → Value} {cs : Array Value} {T : TypeId} (M : Mm w0 w l) (hc : Calls P f args w fun e w' => (∃ b, e = .returned (v b) ∧ Blk w' b cs T ∧ w.heap.size ≤ b) ∧ Below w.heap.size w w')
    (h : ∀ p w', Mm w0 w' (l ++ [(p, cs, T)]) → ∃ a', a.put o.dst (v p) = a' ∧ wpList P ops Q rest a' w') (hw : Region.wanted o (yielded ops a.tmps) = true := by with_unfolding_all rfl) (hr : (execOp a.eval o).run P w = .ok (.enter f args) w := by go_simp) : wpList P ops Q (o :: rest) a w := by
  unfold wpList
  rw [if_pos hw]
  refine .inl ?_
  unfold Oper.wp
  rw [hr, Oper.upon_enter]
  refine hc.mono fun e w' hh => ?_
  obtain ⟨⟨b, rfl, hk, hp⟩, hb⟩ := hh
  obtain ⟨a', rfl, hq⟩ := h b w' (M.fresh hb hk hp)
  exact hq
/-- a new block -/
theorem wA (cs : Array Value) {T : TypeId} (M : Mm w0 w l)
    (h : ∀ p w', Mm w0 w' (l ++ [(p, cs, T)]) → ∃ a', a.put o.dst (.pointer (some ⟨p, 0, none⟩)) = a' ∧ wpList P ops Q rest a' w') (hw : Region.wanted o (yielded ops a.tmps) = true := by with_unfolding_all rfl) (hr : (execOp a.eval o).run P w = .ok (.value (.pointer (some ⟨w.heap.size, 0, none⟩))) (w.alloc (.cells cs T)) := by (go_simp; try with_unfolding_all rfl)) : wpList P ops Q (o :: rest) a w := by
  obtain ⟨a', rfl, hq⟩ := h _ _ (M.alloc cs T)
  exact wpList_runWV _ rfl hw hr hq
/-- a part of a struct stored whole -/
theorem wS {d : Option Tmp} {ty T T' : TypeId} {ps : String} {af : Array Edge} {x y : Operand} (i : Nat) {p q : Nat} {cs vs cs' : Array Value} (M : Mm w0 w l) (e : laidAt cs q vs.toList = cs') (hi : (P.info? T).map (·.size) = some vs.size) (h1 : vs.all (·.oneCell') = true) (ho : q + vs.size ≤ cs.size)
    (h : ∀ w', Mm w0 w' (l.set i (p, cs', T')) → wpList P ops Q rest a' w') (hl : l[i]? = some (p, cs, T') := by with_unfolding_all rfl) (hx : a.eval x = .pointer (some ⟨p, q, none⟩) := by with_unfolding_all rfl) (hy : a.eval y = .agg vs := by with_unfolding_all rfl) (ha : a.put d undef = a' := by (simp only [Act.put]; try rfl)) : wpList P ops Q ({ dst := d, op := .store T x y, type := ty, pos := ps, after := af, guard := none } :: rest) a w := by
  subst ha
  exact wpList_storeM x y hx hy (M.at i hl) ho hi h1 (h _ (M.store i hl q vs.toList e))
/-- a scalar stored into a cell of a block -/
theorem wV {d : Option Tmp} {ty T T' : TypeId} {ps : String} {af : Array Edge} {x y : Operand} (i : Nat) {p j : Nat} {cs cs' : Array Value} {v : Value} (M : Mm w0 w l) (e : laidAt cs j [v] = cs') (hj : j < cs.size)
    (h : ∀ w', Mm w0 w' (l.set i (p, cs', T')) → wpList P ops Q rest a' w') (hl : l[i]? = some (p, cs, T') := by with_unfolding_all rfl) (hx : a.eval x = .pointer (some ⟨p, j, none⟩) := by with_unfolding_all rfl) (hy : a.eval y = v := by with_unfolding_all rfl) (hi : (P.info? T).map (·.size) = some 1 := by kernel_rfl) (h1 : v.oneCell' = true := by simp [Value.oneCell']) (ha : a.put d undef = a' := by (simp only [Act.put]; try rfl)) : wpList P ops Q ({ dst := d, op := .store T x y, type := ty, pos := ps, after := af, guard := none } :: rest) a w := by
  subst ha
  exact wpList_storeV x y hx hy (M.at i hl) hj hi h1 (h _ (M.store i hl j [v] e))
/-- a part of a struct loaded whole -/
theorem wL {d : Option Tmp} {ty T : TypeId} {ps : String} {af : Array Edge} {gd : Option (Nat × Bool)} {x : Operand} (i : Nat) {p q : Nat} {cs xs : Array Value} {T' : TypeId} {D : TypeDesc} (M : Mm w0 w l) (hm : ∀ (j : Nat) v, xs[j]? = some v → cs[q + j]? = some v) (hu : P.underlying T = some D) (hn : (P.info? T).map (·.size) = some xs.size)
    (h : wpList P ops Q rest a' w) (hl : l[i]? = some (p, cs, T') := by with_unfolding_all rfl) (hw : Region.wanted { dst := d, op := .load T x, type := ty, pos := ps, after := af, guard := gd } (yielded ops a.tmps) = true := by with_unfolding_all rfl) (hx : a.eval x = .pointer (some ⟨p, q, none⟩) := by with_unfolding_all rfl) (hd : D.isRow = true := by rfl) (ha : a.put d (.agg xs) = a' := by (simp only [pu, sB, s0, sS]; try rfl)) : wpList P ops Q ({ dst := d, op := .load T x, type := ty, pos := ps, after := af, guard := gd } :: rest) a w := by
  subst ha
  exact wpList_loadM x hw hx (M.at i hl) hm hu hd hn h
/-- a scalar loaded from a cell of a block -/
theorem wLv {d : Option Tmp} {ty T : TypeId} {ps : String} {af : Array Edge} {gd : Option (Nat × Bool)} {x : Operand} (i : Nat) {p j : Nat} {cs : Array Value} {T' : TypeId} {v : Value} {D : TypeDesc} (M : Mm w0 w l) (hv : cs[j]? = some v) (hu : P.underlying T = some D)
    (h : wpList P ops Q rest a' w) (hl : l[i]? = some (p, cs, T') := by with_unfolding_all rfl) (hw : Region.wanted { dst := d, op := .load T x, type := ty, pos := ps, after := af, guard := gd } (yielded ops a.tmps) = true := by with_unfolding_all rfl) (hx : a.eval x = .pointer (some ⟨p, j, none⟩) := by with_unfolding_all rfl) (hd : D.isRow = false := by rfl) (ha : a.put d v = a' := by (simp only [pu, sB, s0, sS]; try rfl)) : wpList P ops Q ({ dst := d, op := .load T x, type := ty, pos := ps, after := af, guard := gd } :: rest) a w := by
  subst ha
  exact wpList_loadV x hw hx (M.at i hl) hv hu hd h
/-- the same with the frame handed on: a call, a new block, a struct stored whole -/
theorem wCb {f : FuncId} {args : Array Value} {v : Value} (M : Mm w0 w l) (hc : Calls P f args w fun e w' => e = .returned v ∧ Below w.heap.size w w')
    (h : ∀ w', Below w.heap.size w w' → Mm w0 w' l → wpList P ops Q rest a' w') (hw : Region.wanted o (yielded ops a.tmps) = true := by with_unfolding_all rfl) (hr : (execOp a.eval o).run P w = .ok (.enter f args) w := by go_simp) (ha : a.put o.dst v = a' := by (simp only [pu, sB, s0, sS]; try rfl)) : wpList P ops Q (o :: rest) a w := by
  subst ha
  refine wCx M (R := fun e _ => e = .returned v) hc (fun e w' he hb M' => ⟨_, _, he, rfl, h w' hb M'⟩) hw hr
theorem wAb (cs : Array Value) {T : TypeId} (M : Mm w0 w l)
    (h : ∀ p w', Below w.heap.size w w' → w.heap.size ≤ p → Mm w0 w' (l ++ [(p, cs, T)]) → ∃ a', a.put o.dst (.pointer (some ⟨p, 0, none⟩)) = a' ∧ wpList P ops Q rest a' w') (hw : Region.wanted o (yielded ops a.tmps) = true := by with_unfolding_all rfl) (hr : (execOp a.eval o).run P w = .ok (.value (.pointer (some ⟨w.heap.size, 0, none⟩))) (w.alloc (.cells cs T)) := by (go_simp; try with_unfolding_all rfl)) : wpList P ops Q (o :: rest) a w := by
  obtain ⟨a', rfl, hq⟩ := h _ _ ((Below.refl _ _).alloc (Nat.le_refl _) _) (Nat.le_refl _) (M.alloc cs T)
  exact wpList_runWV _ rfl hw hr hq
theorem wSb {d : Option Tmp} {ty T T' : TypeId} {ps : String} {af : Array Edge} {x y : Operand} (i : Nat) {p q : Nat} {cs vs cs' : Array Value} (M : Mm w0 w l) (e : laidAt cs q vs.toList = cs') (hi : (P.info? T).map (·.size) = some vs.size) (h1 : vs.all (·.oneCell') = true) (ho : q + vs.size ≤ cs.size)
    (h : ∀ w', (∀ (C : Nat) (w1 : World), Below C w1 w → C ≤ p → Below C w1 w') → Mm w0 w' (l.set i (p, cs', T')) → wpList P ops Q rest a' w') (hl : l[i]? = some (p, cs, T') := by with_unfolding_all rfl) (hx : a.eval x = .pointer (some ⟨p, q, none⟩) := by with_unfolding_all rfl) (hy : a.eval y = .agg vs := by with_unfolding_all rfl) (ha : a.put d undef = a' := by (simp only [Act.put]; try rfl)) : wpList P ops Q ({ dst := d, op := .store T x y, type := ty, pos := ps, after := af, guard := none } :: rest) a w := by
  subst ha
  exact wpList_storeM x y hx hy (M.at i hl) ho hi h1 (h _ (fun C w1 hb hC => below_whole vs.toList hb hC) (M.store i hl q vs.toList e))
/-- a struct's result read -/
theorem Mm.read (M : Mm w0 w l) (i : Nat) {p : Nat} {cs : Array Value} {T : TypeId} {D : TypeDesc} (hu : P.underlying T = some D) (hn : (P.info? T).map (·.size) = some cs.size) (hl : l[i]? = some (p, cs, T)) (hd : D.isRow = true) : (loadVar T ⟨p, 0, none⟩).run P w = .ok (.agg cs) w := (M.at i hl).readS hu hd hn
end
end Go.Proofs.YtkohfomiigcifaaGreatDoor
namespace Go.Proofs.YtkohfomiigcifaaGreatDoor
open Go.RowKit

/-- a part of a struct read, and loaded in a region that draws -/
theorem Blk.readM {P : Program} {w : World} {b : Nat} {cs : Array Value} {t : TypeId} (h : Blk w b cs t) {o : Nat} {xs : Array Value} {T : TypeId} {D : TypeDesc} (hm : ∀ (j : Nat) v, xs[j]? = some v → cs[o + j]? = some v) (hu : P.underlying T = some D) (hd : D.isRow = true) (hn : (P.info? T).map (·.size) = some xs.size) :
    (loadVar T ⟨b, o, none⟩).run P w = .ok (.agg xs) w := by
  have := run_loadVar_mid (P := P) w b o T xs.toList D (h.rangeM hm) hu hd (by simpa using hn)
  simpa using this
section
variable {ops : Array Oper} {Q : Exit → Act → World → Prop} {md : Region.Mode} {S : World → Prop} {P : Program}
theorem take_loadM (i : Nat) (d : Option Tmp) {oi : Oper} {fuel : Nat} {listed : Array Bool} {a : Act} {w : World} (hi : ops[i]? = some oi) (hd : oi.dst = d)
    (hs : Region.noSelect ops = true) (hf : Region.free md ops listed i = true) (hr : (Region.ready md ops listed).contains i = true)
    {b o : Nat} {cs xs : Array Value} {T' T : TypeId} {D : TypeDesc} (hQ : ∀ c a w, Q (.panic c) (a.put d (.agg xs)) w → Q (.panic c) a w) (hw : Region.wanted oi (yielded ops a.tmps) = true) (x : Operand) (ho : oi.op = .load T x)
    (hx : a.eval x = .pointer (some ⟨b, o, none⟩)) (hk : ∀ w, S w → Blk w b cs T') (hm : ∀ (j : Nat) v, xs[j]? = some v → cs[o + j]? = some v) (hu : P.underlying T = some D) (hr' : D.isRow = true) (hn : (P.info? T).map (·.size) = some xs.size) (hS : S w)
    (h : wpAnyH P md ops Q S fuel (listed.setIfInBounds i true) (a.put d (.agg xs)) w) : wpAnyH P md ops Q S (fuel + 1) listed a w :=
  take_run i d hi hd hs hf hr hQ hw (fun w' h' => by
    unfold execOp
    simp only [ho, hx, Instr.loadAt, Instr.sureAddr, Sem.run_bind, Sem.run_pure, Result.andThen_ok, (hk w' h').readM hm hu hr' hn]) hS h
end
end Go.Proofs.YtkohfomiigcifaaGreatDoor
namespace Go.Proofs.YtkohfomiigcifaaGreatDoor
open Go.RowKit

section
variable {w0 w w' : World} {l : List Bk} {P : Program} {ops : Array Oper} {rest : List Oper} {o : Oper} {a a' : Act} {Q : Act → Prop} {Q' : Exit → Act → World → Prop}
/-- an operation run -/
theorem sA {v : Value} (h : wpStill P ops w Q rest a') (hw : Region.wanted o (yielded ops a.tmps) = true := by with_unfolding_all rfl) (hy : (execOp a.eval o).run P w = .ok (.value v) w := by (go_simp; try with_reducible rfl)) (ha : a.put o.dst v = a' := by (simp only [pu, sB, s0, sS]; try rfl)) : wpStill P ops w Q (o :: rest) a := by
  subst ha
  unfold wpStill
  rw [if_pos hw]
  unfold Oper.still
  rw [hy, Oper.stillUpon_value]
  exact h
theorem sBt (v : Value) (hy : (execOp a.eval o).run P w = .ok (.value v) w) (h : wpStill P ops w Q rest a') (hw : Region.wanted o (yielded ops a.tmps) = true := by with_unfolding_all rfl) (ha : a.put o.dst v = a' := by (simp only [pu, sB, s0, sS]; try rfl)) : wpStill P ops w Q (o :: rest) a := sA h hw hy ha
theorem sK (h : wpStill P ops w Q rest a') (hw : Region.wanted o (yielded ops a.tmps) = false := by with_unfolding_all rfl) (ha : a.put o.dst undef = a' := by (simp only [pu, sB, s0, sS]; try rfl)) : wpStill P ops w Q (o :: rest) a := by
  subst ha
  unfold wpStill
  rw [if_neg (by rw [hw]; decide)]
  exact h
theorem sR {d : Option Tmp} {ty T : TypeId} {ps : String} {af : Array Edge} {gd : Option (Nat × Bool)} {x : Operand} {b q : Nat} {xs : Array Value} {D : TypeDesc} (hr : w.rangeAt b q xs.toList) (hu : P.underlying T = some D) (hn : (P.info? T).map (·.size) = some xs.size)
    (h : wpStill P ops w Q rest a') (hw : Region.wanted { dst := d, op := .load T x, type := ty, pos := ps, after := af, guard := gd } (yielded ops a.tmps) = true := by with_unfolding_all rfl) (hx : a.eval x = .pointer (some ⟨b, q, none⟩) := by with_unfolding_all rfl) (hd : D.isRow = true := by rfl) (ha : a.put d (.agg xs) = a' := by (simp only [pu, sB, s0, sS]; try rfl)) :
    wpStill P ops w Q ({ dst := d, op := .load T x, type := ty, pos := ps, after := af, guard := gd } :: rest) a := by
  refine sA h hw ?_ ha
  have hL := run_loadVar_mid (P := P) w b q T xs.toList D hr hu hd (by simpa using hn)
  unfold execOp
  simp only [hx, Instr.loadAt, Instr.sureAddr, Sem.run_bind, Sem.run_pure, Result.andThen_ok, hL]
/-- a part of a struct in a block loaded whole -/
theorem sL {d : Option Tmp} {ty T : TypeId} {ps : String} {af : Array Edge} {gd : Option (Nat × Bool)} {x : Operand} (i : Nat) {p q : Nat} {cs xs : Array Value} {T' : TypeId} {D : TypeDesc} (M : Mm w0 w l) (hm : ∀ (j : Nat) v, xs[j]? = some v → cs[q + j]? = some v) (hu : P.underlying T = some D) (hn : (P.info? T).map (·.size) = some xs.size)
    (h : wpStill P ops w Q rest a') (hl : l[i]? = some (p, cs, T') := by with_unfolding_all rfl) (hw : Region.wanted { dst := d, op := .load T x, type := ty, pos := ps, after := af, guard := gd } (yielded ops a.tmps) = true := by with_unfolding_all rfl) (hx : a.eval x = .pointer (some ⟨p, q, none⟩) := by with_unfolding_all rfl) (hd : D.isRow = true := by rfl) (ha : a.put d (.agg xs) = a' := by (simp only [pu, sB, s0, sS]; try rfl)) :
    wpStill P ops w Q ({ dst := d, op := .load T x, type := ty, pos := ps, after := af, guard := gd } :: rest) a :=
  sR ((M.at i hl).rangeM hm) hu hn h hw hx hd ha
theorem sLv {d : Option Tmp} {ty T : TypeId} {ps : String} {af : Array Edge} {gd : Option (Nat × Bool)} {x : Operand} (i : Nat) {p j : Nat} {cs : Array Value} {T' : TypeId} {v : Value} {D : TypeDesc} (M : Mm w0 w l) (hv : cs[j]? = some v) (hu : P.underlying T = some D)
    (h : wpStill P ops w Q rest a') (hl : l[i]? = some (p, cs, T') := by with_unfolding_all rfl) (hw : Region.wanted { dst := d, op := .load T x, type := ty, pos := ps, after := af, guard := gd } (yielded ops a.tmps) = true := by with_unfolding_all rfl) (hx : a.eval x = .pointer (some ⟨p, j, none⟩) := by with_unfolding_all rfl) (hd : D.isRow = false := by rfl) (ha : a.put d v = a' := by (simp only [pu, sB, s0, sS]; try rfl)) :
    wpStill P ops w Q ({ dst := d, op := .load T x, type := ty, pos := ps, after := af, guard := gd } :: rest) a := by
  refine sA h hw ?_ ha
  unfold execOp
  simp only [hx, Instr.loadAt, Instr.sureAddr, Sem.run_bind, Sem.run_pure, Result.andThen_ok, run_loadV (M.at i hl) hv hu hd]
theorem sEnd {a'' : Act} (h : Q a'') (e : a = a'' := by rfl) : wpStill P ops w Q [] a := e ▸ h
/-- a struct of a row loaded, at a region's list -/
theorem wR {d : Option Tmp} {ty T : TypeId} {ps : String} {af : Array Edge} {gd : Option (Nat × Bool)} {x : Operand} {b q : Nat} {xs : Array Value} {D : TypeDesc} (hr : w.rangeAt b q xs.toList) (hu : P.underlying T = some D) (hn : (P.info? T).map (·.size) = some xs.size)
    (h : wpList P ops Q' rest a' w) (hw : Region.wanted { dst := d, op := .load T x, type := ty, pos := ps, after := af, guard := gd } (yielded ops a.tmps) = true := by with_unfolding_all rfl) (hx : a.eval x = .pointer (some ⟨b, q, none⟩) := by with_unfolding_all rfl) (hd : D.isRow = true := by rfl) (ha : a.put d (.agg xs) = a' := by (simp only [pu, sB, s0, sS]; try rfl)) :
    wpList P ops Q' ({ dst := d, op := .load T x, type := ty, pos := ps, after := af, guard := gd } :: rest) a w := by
  subst ha
  unfold wpList
  rw [if_pos hw]
  refine .inl (wp_load_mid T x rfl b q hx xs.toList _ hr hu hd (by simpa using hn) ?_)
  simpa using h
/-- one cell of a row's struct loaded -/
theorem wRv {d : Option Tmp} {ty T : TypeId} {ps : String} {af : Array Edge} {gd : Option (Nat × Bool)} {x : Operand} {b q j : Nat} {xs : Array Value} {v : Value} {D : TypeDesc} (hr : w.rangeAt b q xs.toList) (hv : xs[j]? = some v) (hu : P.underlying T = some D)
    (h : wpList P ops Q' rest a' w) (hw : Region.wanted { dst := d, op := .load T x, type := ty, pos := ps, after := af, guard := gd } (yielded ops a.tmps) = true := by with_unfolding_all rfl) (hx : a.eval x = .pointer (some ⟨b, q + j, none⟩) := by with_unfolding_all rfl) (hd : D.isRow = false := by rfl) (ha : a.put d v = a' := by (simp only [pu, sB, s0, sS]; try rfl)) :
    wpList P ops Q' ({ dst := d, op := .load T x, type := ty, pos := ps, after := af, guard := gd } :: rest) a w := by
  subst ha
  have hc : w.cell? ⟨b, q + j, none⟩ = some v := hr j v (by simpa using hv)
  have hagg : (isAgg T).run P w = .ok false w := by
    unfold isAgg
    rw [Sem.run_bind, run_underlying hu w]
    cases D <;> simp_all
  have hL : (loadVar T ⟨b, q + j, none⟩).run P w = .ok v w := by simp [loadVar, Sem.run_bind, hagg, hc]
  refine rN hw ?_ h
  unfold execOp
  simp only [hx, Instr.loadAt, Instr.sureAddr, Sem.run_bind, Sem.run_pure, Result.andThen_ok, hL]
end
section
variable {w0 w : World} {l : List Bk} {P : Program} {ops : Array Oper} {o oi : Oper} {a a' : Act} {Q : Exit → Act → World → Prop} {md : Region.Mode} {S : World → Prop} {fuel : Nat} {listed : Array Bool}
/-- an operation taken in a region that draws and makes memory -/
theorem tA (i : Nat) (d : Option Tmp) (hi : ops[i]? = some oi) (hd : oi.dst = d) {v : Value} (hS : S w) (h : wpAnyH P md ops Q S fuel (listed.setIfInBounds i true) a' w)
    (hy : ∀ w, S w → (execOp a.eval oi).run P w = .ok (.value v) w := by (intro w hS; go_simp; try with_reducible rfl)) (hQ : ∀ c a w, Q (.panic c) (a.put d v) w → Q (.panic c) a w := by exact fun _ _ _ h => h)
    (hs : Region.noSelect ops = true := by kernel_rfl) (hf : Region.free md ops listed i = true := by kernel_rfl) (hr : (Region.ready md ops listed).contains i = true := by kernel_rfl) (hw : Region.wanted oi (yielded ops a.tmps) = true := by with_unfolding_all rfl) (ha : a.put d v = a' := by (simp only [pu, sB, s0, sS]; try rfl)) : wpAnyH P md ops Q S (fuel + 1) listed a w := by
  subst ha
  exact take_run i d hi hd hs hf hr hQ hw hy hS h
theorem tB (i : Nat) (d : Option Tmp) (hi : ops[i]? = some oi) (hd : oi.dst = d) (v : Value) (hy : ∀ w, S w → (execOp a.eval oi).run P w = .ok (.value v) w) (hS : S w) (h : wpAnyH P md ops Q S fuel (listed.setIfInBounds i true) a' w)
    (hQ : ∀ c a w, Q (.panic c) (a.put d v) w → Q (.panic c) a w := by exact fun _ _ _ h => h)
    (hs : Region.noSelect ops = true := by kernel_rfl) (hf : Region.free md ops listed i = true := by kernel_rfl) (hr : (Region.ready md ops listed).contains i = true := by kernel_rfl) (hw : Region.wanted oi (yielded ops a.tmps) = true := by with_unfolding_all rfl) (ha : a.put d v = a' := by (simp only [pu, sB, s0, sS]; try rfl)) : wpAnyH P md ops Q S (fuel + 1) listed a w := by
  subst ha
  exact take_run i d hi hd hs hf hr hQ hw hy hS h
/-- a struct of a row, read -/
theorem runR {T : TypeId} {x : Operand} {b q : Nat} {xs : Array Value} {D : TypeDesc} (ho : o.op = .load T x) (hx : a.eval x = .pointer (some ⟨b, q, none⟩)) (hr : w.rangeAt b q xs.toList) (hu : P.underlying T = some D) (hn : (P.info? T).map (·.size) = some xs.size) (hd : D.isRow = true) : (execOp a.eval o).run P w = .ok (.value (.agg xs)) w := by
  have hL := run_loadVar_mid (P := P) w b q T xs.toList D hr hu hd (by simpa using hn)
  unfold execOp
  simp only [ho, hx, Instr.loadAt, Instr.sureAddr, Sem.run_bind, Sem.run_pure, Result.andThen_ok, hL]
/-- a scalar of a block, read -/
theorem runLv {T T' : TypeId} {x : Operand} {b j : Nat} {cs : Array Value} {v : Value} {D : TypeDesc} (ho : o.op = .load T x) (hx : a.eval x = .pointer (some ⟨b, j, none⟩)) (hk : Blk w b cs T') (hv : cs[j]? = some v) (hu : P.underlying T = some D) (hd : D.isRow = false) : (execOp a.eval o).run P w = .ok (.value v) w := by
  unfold execOp
  simp only [ho, hx, Instr.loadAt, Instr.sureAddr, Sem.run_bind, Sem.run_pure, Result.andThen_ok, run_loadV hk hv hu hd]
/-- a new block, one of the operations that may come next -/
theorem rdA {i : Nat} {cs : Array Value} {T : TypeId} {rs : List Nat} (d : Option Tmp) (ho : ops[i]? = some o) (hd : o.dst = d) (hgd : o.guard = none) (M : Mm w0 w l) (hr : (execOp a.eval o).run P w = .ok (.value (.pointer (some ⟨w.heap.size, 0, none⟩))) (w.alloc (.cells cs T)))
    (h : ∀ p w', Mm w0 w' (l ++ [(p, cs, T)]) → ∃ a', a.put d (.pointer (some ⟨p, 0, none⟩)) = a' ∧ S w' ∧ wpAnyH P md ops Q S fuel (listed.setIfInBounds i true) a' w') (hs : AllReadyH P md ops Q S fuel listed a w rs) : AllReadyH P md ops Q S fuel listed a w (i :: rs) := by
  refine AllReadyH.cons ho (fun K' hK => ?_) hs
  rw [if_pos (by simp [Region.wanted, hgd])]
  unfold Oper.wp
  rw [hr]
  subst hd
  obtain ⟨a', rfl, h1, h2⟩ := h _ _ (M.alloc cs T)
  exact hK.out _ _ h1 fun _ => h2
/-- a struct stored whole, the operation that comes next -/
theorem rdS {i k : Nat} {x y : Operand} {T : TypeId} {p : Nat} {cs vs : Array Value} (ho : ops[i]? = some o) (hd : o.dst = none) (hgd : o.guard = none) (hop : o.op = .store T x y) (M : Mm w0 w l) (hl : l[k]? = some (p, cs, T)) (hx : a.eval x = .pointer (some ⟨p, 0, none⟩)) (hy : a.eval y = .agg vs) (hn : vs.size = cs.size) (hi : (P.info? T).map (·.size) = some vs.size) (h1 : vs.all (·.oneCell') = true)
    (h : ∀ w', Mm w0 w' (l.set k (p, vs, T)) → S w' ∧ wpAnyH P md ops Q S fuel (listed.setIfInBounds i true) a w') : AllReadyH P md ops Q S fuel listed a w [i] := by
  refine AllReadyH.cons ho (fun K' hK => ?_) AllReadyH.nil
  rw [if_pos (by simp [Region.wanted, hgd])]
  have hh := h _ (M.store k hl 0 vs.toList (laidAt_whole hn))
  refine wp_storeS x y hop hx hy (M.at k hl) hn hi h1 ?_
  rw [hd]
  exact hK.out _ _ hh.1 fun _ => hh.2
end
end Go.Proofs.YtkohfomiigcifaaGreatDoor
namespace Go.Proofs.YtkohfomiigcifaaGreatDoor
open Go.RowKit

section
variable {w0 w w' : World} {l : List Bk} {P : Program} {ops : Array Oper} {rest : List Oper} {o : Oper} {a a' : Act} {Q : Exit → Act → World → Prop}
/-- the calls of Mm's file, the entry shown by the kernel -/
theorem vC {f : FuncId} {args : Array Value} {v : Value} (M : Mm w0 w l) (hc : Calls P f args w fun e w' => e = .returned v ∧ Below w.heap.size w w')
    (h : ∀ w', Mm w0 w' l → wpList P ops Q rest a' w') (hw : Region.wanted o (yielded ops a.tmps) = true := by with_unfolding_all rfl) (hr : (execOp a.eval o).run P w = .ok (.enter f args) w := by first | kernel_rfl | go_simp) (ha : a.put o.dst v = a' := by (simp only [pu, sB, s0, sS]; try rfl)) : wpList P ops Q (o :: rest) a w := wC M hc h hw hr ha
theorem vCx {f : FuncId} {args : Array Value} {R : Ending → World → Prop} (M : Mm w0 w l) (hc : Calls P f args w fun e w' => R e w' ∧ Below w.heap.size w w')
    (h : ∀ e w', R e w' → Below w.heap.size w w' → Mm w0 w' l → ∃ v a', e = .returned v ∧ a.put o.dst v = a' ∧ wpList P ops Q rest a' w') (hw : Region.wanted o (yielded ops a.tmps) = true := by with_unfolding_all rfl) (hr : (execOp a.eval o).run P w = .ok (.enter f args) w := by first | kernel_rfl | go_simp) : wpList P ops Q (o :: rest) a w := wCx M hc h hw hr
theorem vCn {f : FuncId} {args : Array Value} {v : Nat → Value} {cs : Array Value} {T : TypeId} (M : Mm w0 w l) (hc : Calls P f args w fun e w' => (∃ b, e = .returned (v b) ∧ Blk w' b cs T ∧ w.heap.size ≤ b) ∧ Below w.heap.size w w')
    (h : ∀ p w', Mm w0 w' (l ++ [(p, cs, T)]) → ∃ a', a.put o.dst (v p) = a' ∧ wpList P ops Q rest a' w') (hw : Region.wanted o (yielded ops a.tmps) = true := by with_unfolding_all rfl) (hr : (execOp a.eval o).run P w = .ok (.enter f args) w := by first | kernel_rfl | go_simp) : wpList P ops Q (o :: rest) a w := wCn M hc h hw hr
theorem vCb {f : FuncId} {args : Array Value} {v : Value} (M : Mm w0 w l) (hc : Calls P f args w fun e w' => e = .returned v ∧ Below w.heap.size w w')
    (h : ∀ w', Below w.heap.size w w' → Mm w0 w' l → wpList P ops Q rest a' w') (hw : Region.wanted o (yielded ops a.tmps) = true := by with_unfolding_all rfl) (hr : (execOp a.eval o).run P w = .ok (.enter f args) w := by first | kernel_rfl | go_simp) (ha : a.put o.dst v = a' := by (simp only [pu, sB, s0, sS]; try rfl)) : wpList P ops Q (o :: rest) a w := wCb M hc h hw hr ha
end
section
variable {w0 w : World} {l : List Bk} {P : Program} {ops : Array Oper} {oi : Oper} {a a' : Act} {Q : Exit → Act → World → Prop} {md : Region.Mode} {S : World → Prop} {fuel : Nat} {listed : Array Bool}
/-- an operation left out -/
theorem tK (i : Nat) (d : Option Tmp) (hi : ops[i]? = some oi) (hd : oi.dst = d) (hS : S w) (h : wpAnyH P md ops Q S fuel (listed.setIfInBounds i true) a' w)
    (hQ : ∀ c a w, Q (.panic c) (a.put d undef) w → Q (.panic c) a w := by exact fun _ _ _ h => h)
    (hs : Region.noSelect ops = true := by kernel_rfl) (hf : Region.free md ops listed i = true := by kernel_rfl) (hr : (Region.ready md ops listed).contains i = true := by kernel_rfl) (hw : Region.wanted oi (yielded ops a.tmps) = false := by with_unfolding_all rfl) (ha : a.put d undef = a' := by (simp only [pu, sB, s0, sS]; try rfl)) : wpAnyH P md ops Q S (fuel + 1) listed a w := by
  subst ha
  exact take_skip i d hi hd hs hf hr hQ hw hS h
/-- a scalar of a block loaded -/
theorem tLv (i : Nat) (d : Option Tmp) {T T' : TypeId} {x : Operand} {b j : Nat} {cs : Array Value} {v : Value} {D : TypeDesc} (hi : ops[i]? = some oi) (hd : oi.dst = d) (hk : ∀ w, S w → Blk w b cs T') (hv : cs[j]? = some v) (hu : P.underlying T = some D) (hS : S w) (h : wpAnyH P md ops Q S fuel (listed.setIfInBounds i true) a' w)
    (ho : oi.op = .load T x := by rfl) (hx : a.eval x = .pointer (some ⟨b, j, none⟩) := by rfl) (hrow : D.isRow = false := by rfl) (hQ : ∀ c a w, Q (.panic c) (a.put d v) w → Q (.panic c) a w := by exact fun _ _ _ h => h)
    (hs : Region.noSelect ops = true := by kernel_rfl) (hf : Region.free md ops listed i = true := by kernel_rfl) (hr : (Region.ready md ops listed).contains i = true := by kernel_rfl) (hw : Region.wanted oi (yielded ops a.tmps) = true := by with_unfolding_all rfl) (ha : a.put d v = a' := by (simp only [pu, sB, s0, sS]; try rfl)) : wpAnyH P md ops Q S (fuel + 1) listed a w := by
  subst ha
  exact take_loadV i d hi hd hs hf hr hQ hw x ho hx hk hv hu hrow hS h
/-- a part of a struct loaded -/
theorem tLm (i : Nat) (d : Option Tmp) {T T' : TypeId} {x : Operand} {b o : Nat} {cs xs : Array Value} {D : TypeDesc} (hi : ops[i]? = some oi) (hd : oi.dst = d) (hk : ∀ w, S w → Blk w b cs T') (hm : ∀ (j : Nat) v, xs[j]? = some v → cs[o + j]? = some v) (hu : P.underlying T = some D) (hn : (P.info? T).map (·.size) = some xs.size) (hS : S w) (h : wpAnyH P md ops Q S fuel (listed.setIfInBounds i true) a' w)
    (ho : oi.op = .load T x := by rfl) (hx : a.eval x = .pointer (some ⟨b, o, none⟩) := by rfl) (hrow : D.isRow = true := by rfl) (hQ : ∀ c a w, Q (.panic c) (a.put d (.agg xs)) w → Q (.panic c) a w := by exact fun _ _ _ h => h)
    (hs : Region.noSelect ops = true := by kernel_rfl) (hf : Region.free md ops listed i = true := by kernel_rfl) (hr : (Region.ready md ops listed).contains i = true := by kernel_rfl) (hw : Region.wanted oi (yielded ops a.tmps) = true := by with_unfolding_all rfl) (ha : a.put d (.agg xs) = a' := by (simp only [pu, sB, s0, sS]; try rfl)) : wpAnyH P md ops Q S (fuel + 1) listed a w := by
  subst ha
  exact take_loadM i d hi hd hs hf hr hQ hw x ho hx hk hm hu hrow hn hS h
/-- a call, the one operation that comes next; its answer told -/
theorem tC (i : Nat) (d : Option Tmp) {f : FuncId} {args : Array Value} {v : Value} (hi : ops[i]? = some oi) (hd : oi.dst = d) (hS : ∀ w', Below w.heap.size w w' → S w') (hc : Calls P f args w fun e w' => e = .returned v ∧ Below w.heap.size w w')
    (h : ∀ w', Below w.heap.size w w' → S w' → wpAnyH P md ops Q S fuel (listed.setIfInBounds i true) a' w')
    (hrs : Region.ready md ops listed = [i] := by kernel_rfl) (hw : Region.wanted oi (yielded ops a.tmps) = true := by with_unfolding_all rfl) (hr : (execOp a.eval oi).run P w = .ok (.enter f args) w := by first | kernel_rfl | go_simp) (ha : a.put d v = a' := by (simp only [pu, sB, s0, sS]; try rfl)) : wpAnyH P md ops Q S (fuel + 1) listed a w := by
  subst ha hd
  refine wpAnyH_ready hrs (by simp) (AllReadyH.cons hi (fun K' hK => ?_) AllReadyH.nil)
  rw [if_pos hw]
  unfold Oper.wp
  rw [hr, Oper.upon_enter]
  refine hc.mono fun e w' hh => ?_
  obtain ⟨rfl, hb⟩ := hh
  exact hK.out _ _ (hS w' hb) fun _ => h w' hb (hS w' hb)
/-- a call, of whose answer something is told -/
theorem tCx (i : Nat) (d : Option Tmp) {f : FuncId} {args : Array Value} {R : Ending → World → Prop} (hi : ops[i]? = some oi) (hd : oi.dst = d) (hS : ∀ w', Below w.heap.size w w' → S w') (hc : Calls P f args w fun e w' => R e w' ∧ Below w.heap.size w w')
    (h : ∀ e w', R e w' → Below w.heap.size w w' → S w' → ∃ v a', e = .returned v ∧ a.put d v = a' ∧ wpAnyH P md ops Q S fuel (listed.setIfInBounds i true) a' w')
    (hrs : Region.ready md ops listed = [i] := by kernel_rfl) (hw : Region.wanted oi (yielded ops a.tmps) = true := by with_unfolding_all rfl) (hr : (execOp a.eval oi).run P w = .ok (.enter f args) w := by first | kernel_rfl | go_simp) : wpAnyH P md ops Q S (fuel + 1) listed a w := by
  subst hd
  refine wpAnyH_ready hrs (by simp) (AllReadyH.cons hi (fun K' hK => ?_) AllReadyH.nil)
  rw [if_pos hw]
  unfold Oper.wp
  rw [hr, Oper.upon_enter]
  refine hc.mono fun e w' hh => ?_
  obtain ⟨v, a', rfl, rfl, hq⟩ := h e w' hh.1 hh.2 (hS w' hh.2)
  exact hK.out _ _ (hS w' hh.2) fun _ => hq
/-- a new block, the one operation that comes next -/
theorem tAl (i : Nat) (d : Option Tmp) (cs : Array Value) {T : TypeId} (hi : ops[i]? = some oi) (hd : oi.dst = d) (M : Mm w0 w l) (hS : ∀ w', Below w.heap.size w w' → S w')
    (h : ∀ p w', Mm w0 w' (l ++ [(p, cs, T)]) → S w' → ∃ a', a.put d (.pointer (some ⟨p, 0, none⟩)) = a' ∧ wpAnyH P md ops Q S fuel (listed.setIfInBounds i true) a' w')
    (hrs : Region.ready md ops listed = [i] := by kernel_rfl) (hw : Region.wanted oi (yielded ops a.tmps) = true := by with_unfolding_all rfl) (hr : (execOp a.eval oi).run P w = .ok (.value (.pointer (some ⟨w.heap.size, 0, none⟩))) (w.alloc (.cells cs T)) := by (go_simp; try with_unfolding_all rfl)) : wpAnyH P md ops Q S (fuel + 1) listed a w := by
  subst hd
  refine wpAnyH_ready hrs (by simp) (AllReadyH.cons hi (fun K' hK => ?_) AllReadyH.nil)
  rw [if_pos hw]
  unfold Oper.wp
  rw [hr]
  have hb : Below w.heap.size w (w.alloc (.cells cs T)) := (Below.refl _ _).alloc (Nat.le_refl _) _
  obtain ⟨a', rfl, h2⟩ := h _ _ (M.alloc cs T) (hS _ hb)
  exact hK.out _ _ (hS _ hb) fun _ => h2
end
end Go.Proofs.YtkohfomiigcifaaGreatDoor
