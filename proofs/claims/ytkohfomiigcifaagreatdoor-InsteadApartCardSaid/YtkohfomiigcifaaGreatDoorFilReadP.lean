/-
  CONTRACT OF LAYER 13 (filter): read. By an AI agent.
-/
import Derived.Test.YtkohfomiigcifaaGreatDoorFilReadB
namespace Go.Proofs.YtkohfomiigcifaaGreatDoor
open Go.RowKit
open Wd (Bs)

theorem Short.one (l : List Bs) {st : Fil.St} (h : Short st) : Short (Fil.rOne l st).2 := by
  unfold Fil.rOne
  split
  · exact h.adv
  · exact h
theorem Short.sub {st : Fil.St} (h : Short st) : Short (Fil.rSub st).2 := by
  unfold Fil.rSub
  split
  · exact h.adv
  · exact h
theorem Short.bd (nm : Bs) {st : Fil.St} (h : Short st) : Short (Fil.rBd nm st).2 := by
  unfold Fil.rBd
  split
  · exact h
  · exact h.adv
theorem sub_hit {st : Fil.St} (h : Fil.sSub.isPrefixOf st.1 = true) : Fil.rSub st = (st.1.drop 4, Fil.adv st) := by unfold Fil.rSub; rw [if_pos h]
theorem sub_miss {st : Fil.St} (h : Fil.sSub.isPrefixOf st.1 = false) : Fil.rSub st = ([], st) := by unfold Fil.rSub; rw [if_neg (by simp [h])]
/-- takeAfter as the reader of the subtype has it -/
theorem afterSub (b : Nat) (st : Fil.St) (w : World) (h : WAt w b st) (hs : Short st) :
    Calls Tryz.prog 148 #[.pointer (some ⟨b, 0, none⟩), .string ⟨#[115, 117, 98, 58]⟩] w fun e w' => ∃ ok, e = .returned (.tuple #[str (Fil.rSub st).1, .bool ok]) ∧ WAt w' b (Fil.rSub st).2 ∧ w.grownBy w' (some b) := by
  cases hp : Fil.sSub.isPrefixOf st.1 with
  | false =>
    rw [sub_miss hp]
    exact (afterMiss b st _ w h hp).mono fun e w' ⟨he, hw⟩ => ⟨false, he, by rw [← hw]; exact h, by rw [← hw]; exact World.grownBy.refl _ _⟩
  | true =>
    rw [sub_hit hp]
    exact (afterHit b st _ w h hp hs).mono fun e w' ⟨he, hw, hg⟩ => ⟨true, he, hw, hg⟩
def set16 (w : World) (b : Nat) (a : Fil.Acc) (fs : ByteArray) : World := ((((((((((((((((w.setCell ⟨b, 0, none⟩ (.int .i64 (a.zone : Int))).setCell ⟨b, 1, none⟩ (.int .i64 (a.who : Int))).setCell ⟨b, 2, none⟩ (.int .i64 (a.self : Int))).setCell ⟨b, 3, none⟩ (.int .i64 (a.types : Int))).setCell ⟨b, 4, none⟩ (.int .i64 (a.ntypes : Int))).setCell ⟨b, 5, none⟩ (.int .i64 (a.colors : Int))).setCell ⟨b, 6, none⟩ (.int .i64 (a.ncolors : Int))).setCell ⟨b, 7, none⟩ (.string fs)).setCell ⟨b, 8, none⟩ (.int .i64 (a.keys : Int))).setCell ⟨b, 9, none⟩ (.int .i64 (a.tap : Int))).setCell ⟨b, 10, none⟩ (.int .i64 a.pow.kind)).setCell ⟨b, 11, none⟩ (.int .i64 a.pow.n)).setCell ⟨b, 12, none⟩ (.int .i64 a.tough.kind)).setCell ⟨b, 13, none⟩ (.int .i64 a.tough.n)).setCell ⟨b, 14, none⟩ (.int .i64 a.val.kind)).setCell ⟨b, 15, none⟩ (.int .i64 a.val.n))
theorem Blk.set16 {w : World} {b : Nat} {a : Fil.Acc} {fs : ByteArray} {t : TypeId} (h : Blk w b #[.int .i64 (a.zone : Int), .int .i64 (a.who : Int), .int .i64 (a.self : Int), .int .i64 (a.types : Int), .int .i64 (a.ntypes : Int), .int .i64 (a.colors : Int), .int .i64 (a.ncolors : Int), .string fs, .int .i64 (a.keys : Int), .int .i64 (a.tap : Int), .int .i64 a.pow.kind, .int .i64 a.pow.n, .int .i64 a.tough.kind, .int .i64 a.tough.n, .int .i64 a.val.kind, .int .i64 a.val.n] t) (q : Fil.Acc) (qs : ByteArray) : Blk (set16 w b q qs) b #[.int .i64 (q.zone : Int), .int .i64 (q.who : Int), .int .i64 (q.self : Int), .int .i64 (q.types : Int), .int .i64 (q.ntypes : Int), .int .i64 (q.colors : Int), .int .i64 (q.ncolors : Int), .string qs, .int .i64 (q.keys : Int), .int .i64 (q.tap : Int), .int .i64 q.pow.kind, .int .i64 q.pow.n, .int .i64 q.tough.kind, .int .i64 q.tough.n, .int .i64 q.val.kind, .int .i64 q.val.n] t := by
  have h0 : Blk (w.setCell ⟨b, 0, none⟩ (.int .i64 (q.zone : Int))) b #[.int .i64 (q.zone : Int), .int .i64 (a.who : Int), .int .i64 (a.self : Int), .int .i64 (a.types : Int), .int .i64 (a.ntypes : Int), .int .i64 (a.colors : Int), .int .i64 (a.ncolors : Int), .string fs, .int .i64 (a.keys : Int), .int .i64 (a.tap : Int), .int .i64 a.pow.kind, .int .i64 a.pow.n, .int .i64 a.tough.kind, .int .i64 a.tough.n, .int .i64 a.val.kind, .int .i64 a.val.n] t := h.set 0 _
  have h1 : Blk ((w.setCell ⟨b, 0, none⟩ (.int .i64 (q.zone : Int))).setCell ⟨b, 1, none⟩ (.int .i64 (q.who : Int))) b #[.int .i64 (q.zone : Int), .int .i64 (q.who : Int), .int .i64 (a.self : Int), .int .i64 (a.types : Int), .int .i64 (a.ntypes : Int), .int .i64 (a.colors : Int), .int .i64 (a.ncolors : Int), .string fs, .int .i64 (a.keys : Int), .int .i64 (a.tap : Int), .int .i64 a.pow.kind, .int .i64 a.pow.n, .int .i64 a.tough.kind, .int .i64 a.tough.n, .int .i64 a.val.kind, .int .i64 a.val.n] t := h0.set 1 _
  have h2 : Blk (((w.setCell ⟨b, 0, none⟩ (.int .i64 (q.zone : Int))).setCell ⟨b, 1, none⟩ (.int .i64 (q.who : Int))).setCell ⟨b, 2, none⟩ (.int .i64 (q.self : Int))) b #[.int .i64 (q.zone : Int), .int .i64 (q.who : Int), .int .i64 (q.self : Int), .int .i64 (a.types : Int), .int .i64 (a.ntypes : Int), .int .i64 (a.colors : Int), .int .i64 (a.ncolors : Int), .string fs, .int .i64 (a.keys : Int), .int .i64 (a.tap : Int), .int .i64 a.pow.kind, .int .i64 a.pow.n, .int .i64 a.tough.kind, .int .i64 a.tough.n, .int .i64 a.val.kind, .int .i64 a.val.n] t := h1.set 2 _
  have h3 : Blk ((((w.setCell ⟨b, 0, none⟩ (.int .i64 (q.zone : Int))).setCell ⟨b, 1, none⟩ (.int .i64 (q.who : Int))).setCell ⟨b, 2, none⟩ (.int .i64 (q.self : Int))).setCell ⟨b, 3, none⟩ (.int .i64 (q.types : Int))) b #[.int .i64 (q.zone : Int), .int .i64 (q.who : Int), .int .i64 (q.self : Int), .int .i64 (q.types : Int), .int .i64 (a.ntypes : Int), .int .i64 (a.colors : Int), .int .i64 (a.ncolors : Int), .string fs, .int .i64 (a.keys : Int), .int .i64 (a.tap : Int), .int .i64 a.pow.kind, .int .i64 a.pow.n, .int .i64 a.tough.kind, .int .i64 a.tough.n, .int .i64 a.val.kind, .int .i64 a.val.n] t := h2.set 3 _
  have h4 : Blk (((((w.setCell ⟨b, 0, none⟩ (.int .i64 (q.zone : Int))).setCell ⟨b, 1, none⟩ (.int .i64 (q.who : Int))).setCell ⟨b, 2, none⟩ (.int .i64 (q.self : Int))).setCell ⟨b, 3, none⟩ (.int .i64 (q.types : Int))).setCell ⟨b, 4, none⟩ (.int .i64 (q.ntypes : Int))) b #[.int .i64 (q.zone : Int), .int .i64 (q.who : Int), .int .i64 (q.self : Int), .int .i64 (q.types : Int), .int .i64 (q.ntypes : Int), .int .i64 (a.colors : Int), .int .i64 (a.ncolors : Int), .string fs, .int .i64 (a.keys : Int), .int .i64 (a.tap : Int), .int .i64 a.pow.kind, .int .i64 a.pow.n, .int .i64 a.tough.kind, .int .i64 a.tough.n, .int .i64 a.val.kind, .int .i64 a.val.n] t := h3.set 4 _
  have h5 : Blk ((((((w.setCell ⟨b, 0, none⟩ (.int .i64 (q.zone : Int))).setCell ⟨b, 1, none⟩ (.int .i64 (q.who : Int))).setCell ⟨b, 2, none⟩ (.int .i64 (q.self : Int))).setCell ⟨b, 3, none⟩ (.int .i64 (q.types : Int))).setCell ⟨b, 4, none⟩ (.int .i64 (q.ntypes : Int))).setCell ⟨b, 5, none⟩ (.int .i64 (q.colors : Int))) b #[.int .i64 (q.zone : Int), .int .i64 (q.who : Int), .int .i64 (q.self : Int), .int .i64 (q.types : Int), .int .i64 (q.ntypes : Int), .int .i64 (q.colors : Int), .int .i64 (a.ncolors : Int), .string fs, .int .i64 (a.keys : Int), .int .i64 (a.tap : Int), .int .i64 a.pow.kind, .int .i64 a.pow.n, .int .i64 a.tough.kind, .int .i64 a.tough.n, .int .i64 a.val.kind, .int .i64 a.val.n] t := h4.set 5 _
  have h6 : Blk (((((((w.setCell ⟨b, 0, none⟩ (.int .i64 (q.zone : Int))).setCell ⟨b, 1, none⟩ (.int .i64 (q.who : Int))).setCell ⟨b, 2, none⟩ (.int .i64 (q.self : Int))).setCell ⟨b, 3, none⟩ (.int .i64 (q.types : Int))).setCell ⟨b, 4, none⟩ (.int .i64 (q.ntypes : Int))).setCell ⟨b, 5, none⟩ (.int .i64 (q.colors : Int))).setCell ⟨b, 6, none⟩ (.int .i64 (q.ncolors : Int))) b #[.int .i64 (q.zone : Int), .int .i64 (q.who : Int), .int .i64 (q.self : Int), .int .i64 (q.types : Int), .int .i64 (q.ntypes : Int), .int .i64 (q.colors : Int), .int .i64 (q.ncolors : Int), .string fs, .int .i64 (a.keys : Int), .int .i64 (a.tap : Int), .int .i64 a.pow.kind, .int .i64 a.pow.n, .int .i64 a.tough.kind, .int .i64 a.tough.n, .int .i64 a.val.kind, .int .i64 a.val.n] t := h5.set 6 _
  have h7 : Blk ((((((((w.setCell ⟨b, 0, none⟩ (.int .i64 (q.zone : Int))).setCell ⟨b, 1, none⟩ (.int .i64 (q.who : Int))).setCell ⟨b, 2, none⟩ (.int .i64 (q.self : Int))).setCell ⟨b, 3, none⟩ (.int .i64 (q.types : Int))).setCell ⟨b, 4, none⟩ (.int .i64 (q.ntypes : Int))).setCell ⟨b, 5, none⟩ (.int .i64 (q.colors : Int))).setCell ⟨b, 6, none⟩ (.int .i64 (q.ncolors : Int))).setCell ⟨b, 7, none⟩ (.string qs)) b #[.int .i64 (q.zone : Int), .int .i64 (q.who : Int), .int .i64 (q.self : Int), .int .i64 (q.types : Int), .int .i64 (q.ntypes : Int), .int .i64 (q.colors : Int), .int .i64 (q.ncolors : Int), .string qs, .int .i64 (a.keys : Int), .int .i64 (a.tap : Int), .int .i64 a.pow.kind, .int .i64 a.pow.n, .int .i64 a.tough.kind, .int .i64 a.tough.n, .int .i64 a.val.kind, .int .i64 a.val.n] t := h6.set 7 _
  have h8 : Blk (((((((((w.setCell ⟨b, 0, none⟩ (.int .i64 (q.zone : Int))).setCell ⟨b, 1, none⟩ (.int .i64 (q.who : Int))).setCell ⟨b, 2, none⟩ (.int .i64 (q.self : Int))).setCell ⟨b, 3, none⟩ (.int .i64 (q.types : Int))).setCell ⟨b, 4, none⟩ (.int .i64 (q.ntypes : Int))).setCell ⟨b, 5, none⟩ (.int .i64 (q.colors : Int))).setCell ⟨b, 6, none⟩ (.int .i64 (q.ncolors : Int))).setCell ⟨b, 7, none⟩ (.string qs)).setCell ⟨b, 8, none⟩ (.int .i64 (q.keys : Int))) b #[.int .i64 (q.zone : Int), .int .i64 (q.who : Int), .int .i64 (q.self : Int), .int .i64 (q.types : Int), .int .i64 (q.ntypes : Int), .int .i64 (q.colors : Int), .int .i64 (q.ncolors : Int), .string qs, .int .i64 (q.keys : Int), .int .i64 (a.tap : Int), .int .i64 a.pow.kind, .int .i64 a.pow.n, .int .i64 a.tough.kind, .int .i64 a.tough.n, .int .i64 a.val.kind, .int .i64 a.val.n] t := h7.set 8 _
  have h9 : Blk ((((((((((w.setCell ⟨b, 0, none⟩ (.int .i64 (q.zone : Int))).setCell ⟨b, 1, none⟩ (.int .i64 (q.who : Int))).setCell ⟨b, 2, none⟩ (.int .i64 (q.self : Int))).setCell ⟨b, 3, none⟩ (.int .i64 (q.types : Int))).setCell ⟨b, 4, none⟩ (.int .i64 (q.ntypes : Int))).setCell ⟨b, 5, none⟩ (.int .i64 (q.colors : Int))).setCell ⟨b, 6, none⟩ (.int .i64 (q.ncolors : Int))).setCell ⟨b, 7, none⟩ (.string qs)).setCell ⟨b, 8, none⟩ (.int .i64 (q.keys : Int))).setCell ⟨b, 9, none⟩ (.int .i64 (q.tap : Int))) b #[.int .i64 (q.zone : Int), .int .i64 (q.who : Int), .int .i64 (q.self : Int), .int .i64 (q.types : Int), .int .i64 (q.ntypes : Int), .int .i64 (q.colors : Int), .int .i64 (q.ncolors : Int), .string qs, .int .i64 (q.keys : Int), .int .i64 (q.tap : Int), .int .i64 a.pow.kind, .int .i64 a.pow.n, .int .i64 a.tough.kind, .int .i64 a.tough.n, .int .i64 a.val.kind, .int .i64 a.val.n] t := h8.set 9 _
  have h10 : Blk (((((((((((w.setCell ⟨b, 0, none⟩ (.int .i64 (q.zone : Int))).setCell ⟨b, 1, none⟩ (.int .i64 (q.who : Int))).setCell ⟨b, 2, none⟩ (.int .i64 (q.self : Int))).setCell ⟨b, 3, none⟩ (.int .i64 (q.types : Int))).setCell ⟨b, 4, none⟩ (.int .i64 (q.ntypes : Int))).setCell ⟨b, 5, none⟩ (.int .i64 (q.colors : Int))).setCell ⟨b, 6, none⟩ (.int .i64 (q.ncolors : Int))).setCell ⟨b, 7, none⟩ (.string qs)).setCell ⟨b, 8, none⟩ (.int .i64 (q.keys : Int))).setCell ⟨b, 9, none⟩ (.int .i64 (q.tap : Int))).setCell ⟨b, 10, none⟩ (.int .i64 q.pow.kind)) b #[.int .i64 (q.zone : Int), .int .i64 (q.who : Int), .int .i64 (q.self : Int), .int .i64 (q.types : Int), .int .i64 (q.ntypes : Int), .int .i64 (q.colors : Int), .int .i64 (q.ncolors : Int), .string qs, .int .i64 (q.keys : Int), .int .i64 (q.tap : Int), .int .i64 q.pow.kind, .int .i64 a.pow.n, .int .i64 a.tough.kind, .int .i64 a.tough.n, .int .i64 a.val.kind, .int .i64 a.val.n] t := h9.set 10 _
  have h11 : Blk ((((((((((((w.setCell ⟨b, 0, none⟩ (.int .i64 (q.zone : Int))).setCell ⟨b, 1, none⟩ (.int .i64 (q.who : Int))).setCell ⟨b, 2, none⟩ (.int .i64 (q.self : Int))).setCell ⟨b, 3, none⟩ (.int .i64 (q.types : Int))).setCell ⟨b, 4, none⟩ (.int .i64 (q.ntypes : Int))).setCell ⟨b, 5, none⟩ (.int .i64 (q.colors : Int))).setCell ⟨b, 6, none⟩ (.int .i64 (q.ncolors : Int))).setCell ⟨b, 7, none⟩ (.string qs)).setCell ⟨b, 8, none⟩ (.int .i64 (q.keys : Int))).setCell ⟨b, 9, none⟩ (.int .i64 (q.tap : Int))).setCell ⟨b, 10, none⟩ (.int .i64 q.pow.kind)).setCell ⟨b, 11, none⟩ (.int .i64 q.pow.n)) b #[.int .i64 (q.zone : Int), .int .i64 (q.who : Int), .int .i64 (q.self : Int), .int .i64 (q.types : Int), .int .i64 (q.ntypes : Int), .int .i64 (q.colors : Int), .int .i64 (q.ncolors : Int), .string qs, .int .i64 (q.keys : Int), .int .i64 (q.tap : Int), .int .i64 q.pow.kind, .int .i64 q.pow.n, .int .i64 a.tough.kind, .int .i64 a.tough.n, .int .i64 a.val.kind, .int .i64 a.val.n] t := h10.set 11 _
  have h12 : Blk (((((((((((((w.setCell ⟨b, 0, none⟩ (.int .i64 (q.zone : Int))).setCell ⟨b, 1, none⟩ (.int .i64 (q.who : Int))).setCell ⟨b, 2, none⟩ (.int .i64 (q.self : Int))).setCell ⟨b, 3, none⟩ (.int .i64 (q.types : Int))).setCell ⟨b, 4, none⟩ (.int .i64 (q.ntypes : Int))).setCell ⟨b, 5, none⟩ (.int .i64 (q.colors : Int))).setCell ⟨b, 6, none⟩ (.int .i64 (q.ncolors : Int))).setCell ⟨b, 7, none⟩ (.string qs)).setCell ⟨b, 8, none⟩ (.int .i64 (q.keys : Int))).setCell ⟨b, 9, none⟩ (.int .i64 (q.tap : Int))).setCell ⟨b, 10, none⟩ (.int .i64 q.pow.kind)).setCell ⟨b, 11, none⟩ (.int .i64 q.pow.n)).setCell ⟨b, 12, none⟩ (.int .i64 q.tough.kind)) b #[.int .i64 (q.zone : Int), .int .i64 (q.who : Int), .int .i64 (q.self : Int), .int .i64 (q.types : Int), .int .i64 (q.ntypes : Int), .int .i64 (q.colors : Int), .int .i64 (q.ncolors : Int), .string qs, .int .i64 (q.keys : Int), .int .i64 (q.tap : Int), .int .i64 q.pow.kind, .int .i64 q.pow.n, .int .i64 q.tough.kind, .int .i64 a.tough.n, .int .i64 a.val.kind, .int .i64 a.val.n] t := h11.set 12 _
  have h13 : Blk ((((((((((((((w.setCell ⟨b, 0, none⟩ (.int .i64 (q.zone : Int))).setCell ⟨b, 1, none⟩ (.int .i64 (q.who : Int))).setCell ⟨b, 2, none⟩ (.int .i64 (q.self : Int))).setCell ⟨b, 3, none⟩ (.int .i64 (q.types : Int))).setCell ⟨b, 4, none⟩ (.int .i64 (q.ntypes : Int))).setCell ⟨b, 5, none⟩ (.int .i64 (q.colors : Int))).setCell ⟨b, 6, none⟩ (.int .i64 (q.ncolors : Int))).setCell ⟨b, 7, none⟩ (.string qs)).setCell ⟨b, 8, none⟩ (.int .i64 (q.keys : Int))).setCell ⟨b, 9, none⟩ (.int .i64 (q.tap : Int))).setCell ⟨b, 10, none⟩ (.int .i64 q.pow.kind)).setCell ⟨b, 11, none⟩ (.int .i64 q.pow.n)).setCell ⟨b, 12, none⟩ (.int .i64 q.tough.kind)).setCell ⟨b, 13, none⟩ (.int .i64 q.tough.n)) b #[.int .i64 (q.zone : Int), .int .i64 (q.who : Int), .int .i64 (q.self : Int), .int .i64 (q.types : Int), .int .i64 (q.ntypes : Int), .int .i64 (q.colors : Int), .int .i64 (q.ncolors : Int), .string qs, .int .i64 (q.keys : Int), .int .i64 (q.tap : Int), .int .i64 q.pow.kind, .int .i64 q.pow.n, .int .i64 q.tough.kind, .int .i64 q.tough.n, .int .i64 a.val.kind, .int .i64 a.val.n] t := h12.set 13 _
  have h14 : Blk (((((((((((((((w.setCell ⟨b, 0, none⟩ (.int .i64 (q.zone : Int))).setCell ⟨b, 1, none⟩ (.int .i64 (q.who : Int))).setCell ⟨b, 2, none⟩ (.int .i64 (q.self : Int))).setCell ⟨b, 3, none⟩ (.int .i64 (q.types : Int))).setCell ⟨b, 4, none⟩ (.int .i64 (q.ntypes : Int))).setCell ⟨b, 5, none⟩ (.int .i64 (q.colors : Int))).setCell ⟨b, 6, none⟩ (.int .i64 (q.ncolors : Int))).setCell ⟨b, 7, none⟩ (.string qs)).setCell ⟨b, 8, none⟩ (.int .i64 (q.keys : Int))).setCell ⟨b, 9, none⟩ (.int .i64 (q.tap : Int))).setCell ⟨b, 10, none⟩ (.int .i64 q.pow.kind)).setCell ⟨b, 11, none⟩ (.int .i64 q.pow.n)).setCell ⟨b, 12, none⟩ (.int .i64 q.tough.kind)).setCell ⟨b, 13, none⟩ (.int .i64 q.tough.n)).setCell ⟨b, 14, none⟩ (.int .i64 q.val.kind)) b #[.int .i64 (q.zone : Int), .int .i64 (q.who : Int), .int .i64 (q.self : Int), .int .i64 (q.types : Int), .int .i64 (q.ntypes : Int), .int .i64 (q.colors : Int), .int .i64 (q.ncolors : Int), .string qs, .int .i64 (q.keys : Int), .int .i64 (q.tap : Int), .int .i64 q.pow.kind, .int .i64 q.pow.n, .int .i64 q.tough.kind, .int .i64 q.tough.n, .int .i64 q.val.kind, .int .i64 a.val.n] t := h13.set 14 _
  have h15 : Blk ((((((((((((((((w.setCell ⟨b, 0, none⟩ (.int .i64 (q.zone : Int))).setCell ⟨b, 1, none⟩ (.int .i64 (q.who : Int))).setCell ⟨b, 2, none⟩ (.int .i64 (q.self : Int))).setCell ⟨b, 3, none⟩ (.int .i64 (q.types : Int))).setCell ⟨b, 4, none⟩ (.int .i64 (q.ntypes : Int))).setCell ⟨b, 5, none⟩ (.int .i64 (q.colors : Int))).setCell ⟨b, 6, none⟩ (.int .i64 (q.ncolors : Int))).setCell ⟨b, 7, none⟩ (.string qs)).setCell ⟨b, 8, none⟩ (.int .i64 (q.keys : Int))).setCell ⟨b, 9, none⟩ (.int .i64 (q.tap : Int))).setCell ⟨b, 10, none⟩ (.int .i64 q.pow.kind)).setCell ⟨b, 11, none⟩ (.int .i64 q.pow.n)).setCell ⟨b, 12, none⟩ (.int .i64 q.tough.kind)).setCell ⟨b, 13, none⟩ (.int .i64 q.tough.n)).setCell ⟨b, 14, none⟩ (.int .i64 q.val.kind)).setCell ⟨b, 15, none⟩ (.int .i64 q.val.n)) b #[.int .i64 (q.zone : Int), .int .i64 (q.who : Int), .int .i64 (q.self : Int), .int .i64 (q.types : Int), .int .i64 (q.ntypes : Int), .int .i64 (q.colors : Int), .int .i64 (q.ncolors : Int), .string qs, .int .i64 (q.keys : Int), .int .i64 (q.tap : Int), .int .i64 q.pow.kind, .int .i64 q.pow.n, .int .i64 q.tough.kind, .int .i64 q.tough.n, .int .i64 q.val.kind, .int .i64 q.val.n] t := h14.set 15 _
  exact h15
theorem below16 {C : Nat} {w0 w : World} {b : Nat} {a : Fil.Acc} {fs : ByteArray} (h : Below C w0 w) (hC : C ≤ b) : Below C w0 (set16 w b a fs) :=
  ((((((((((((((((h.setCell (by exact hC) _).setCell (by exact hC) _).setCell (by exact hC) _).setCell (by exact hC) _).setCell (by exact hC) _).setCell (by exact hC) _).setCell (by exact hC) _).setCell (by exact hC) _).setCell (by exact hC) _).setCell (by exact hC) _).setCell (by exact hC) _).setCell (by exact hC) _).setCell (by exact hC) _).setCell (by exact hC) _).setCell (by exact hC) _).setCell (by exact hC) _)
theorem start_short {s : Bs} (h : s.length ≤ 1000000) : Short (Fil.q0 s) := by
  have := cut_both s
  exact ⟨Nat.le_trans this.1 h, Nat.le_trans this.2 h⟩
theorem ret_acc {p q : Fil.Acc} {ps qs : ByteArray} (h : p = q) (hs : ps = qs) : Ending.returned (.agg #[.int .i64 (p.zone : Int), .int .i64 (p.who : Int), .int .i64 (p.self : Int), .int .i64 (p.types : Int), .int .i64 (p.ntypes : Int), .int .i64 (p.colors : Int), .int .i64 (p.ncolors : Int), .string ps, .int .i64 (p.keys : Int), .int .i64 (p.tap : Int), .int .i64 p.pow.kind, .int .i64 p.pow.n, .int .i64 p.tough.kind, .int .i64 p.tough.n, .int .i64 p.val.kind, .int .i64 p.val.n]) = .returned (.agg #[.int .i64 (q.zone : Int), .int .i64 (q.who : Int), .int .i64 (q.self : Int), .int .i64 (q.types : Int), .int .i64 (q.ntypes : Int), .int .i64 (q.colors : Int), .int .i64 (q.ncolors : Int), .string qs, .int .i64 (q.keys : Int), .int .i64 (q.tap : Int), .int .i64 q.pow.kind, .int .i64 q.pow.n, .int .i64 q.tough.kind, .int .i64 q.tough.n, .int .i64 q.val.kind, .int .i64 q.val.n]) := by rw [h, hs]
set_option maxHeartbeats 16000000 in
set_option maxRecDepth 100000 in
theorem filReadAcc (s : ByteArray) (hs : s.size ≤ 1000000) : ∃ (a : Fil.Acc) (fs : ByteArray), Fil.readP s.data.toList = a.flt ∧ a.sub = fs.data.toList ∧ fs.size ≤ 1000000 ∧ ∀ w, Env w →
    Calls Tryz.prog 133 #[.string s] w fun e w' => e = .returned (.agg #[.int .i64 (a.zone : Int), .int .i64 (a.who : Int), .int .i64 (a.self : Int), .int .i64 (a.types : Int), .int .i64 (a.ntypes : Int), .int .i64 (a.colors : Int), .int .i64 (a.ncolors : Int), .string fs, .int .i64 (a.keys : Int), .int .i64 (a.tap : Int), .int .i64 a.pow.kind, .int .i64 a.pow.n, .int .i64 a.tough.kind, .int .i64 a.tough.n, .int .i64 a.val.kind, .int .i64 a.val.n]) ∧ Below w.heap.size w w' := by
  have hsl : s.data.toList.length ≤ 1000000 := by simpa using hs
  obtain ⟨s0, e0⟩ : ∃ x, Fil.q0 s.data.toList = x := ⟨_, rfl⟩
  have S0 : Hid (Short s0) := Lib.hid (by rw [← e0]; exact start_short hsl)
  obtain ⟨x0, s1, h0⟩ : ∃ x y, Fil.rOne Fil.zonesL s0 = (x, y) := ⟨_, _, rfl⟩
  have S1 : Hid (Short s1) := Lib.hid (by have := Short.one Fil.zonesL S0.out; rw [h0] at this; exact this)
  have e1 : Fil.q1 s.data.toList = s1 := by unfold Fil.q1; rw [e0, h0]
  obtain ⟨x1, s2, h1⟩ : ∃ x y, Fil.rOne Fil.whoL s1 = (x, y) := ⟨_, _, rfl⟩
  have S2 : Hid (Short s2) := Lib.hid (by have := Short.one Fil.whoL S1.out; rw [h1] at this; exact this)
  have e2 : Fil.q2 s.data.toList = s2 := by unfold Fil.q2; rw [e1, h1]
  obtain ⟨x2, s3, h2⟩ : ∃ x y, Fil.rOne Fil.selfL s2 = (x, y) := ⟨_, _, rfl⟩
  have S3 : Hid (Short s3) := Lib.hid (by have := Short.one Fil.selfL S2.out; rw [h2] at this; exact this)
  have e3 : Fil.q3 s.data.toList = s3 := by unfold Fil.q3; rw [e2, h2]
  obtain ⟨x3, s4, h3⟩ : ∃ x y, Fil.rMask Fil.typeW [] s3 6 = (x, y) := ⟨_, _, rfl⟩
  have S4 : Hid (Short s4) := Lib.hid (by have := Short.mask Fil.typeW [] S3.out 6; rw [h3] at this; exact this)
  have e4 : Fil.q4 s.data.toList = s4 := by unfold Fil.q4; rw [e3, h3]
  obtain ⟨x4, s5, h4⟩ : ∃ x y, Fil.rMask Fil.typeW Fil.sNon s4 6 = (x, y) := ⟨_, _, rfl⟩
  have S5 : Hid (Short s5) := Lib.hid (by have := Short.mask Fil.typeW Fil.sNon S4.out 6; rw [h4] at this; exact this)
  have e5 : Fil.q5 s.data.toList = s5 := by unfold Fil.q5; rw [e4, h4]
  obtain ⟨x5, s6, h5⟩ : ∃ x y, Fil.rMask Col.name [] s5 5 = (x, y) := ⟨_, _, rfl⟩
  have S6 : Hid (Short s6) := Lib.hid (by have := Short.mask Col.name [] S5.out 5; rw [h5] at this; exact this)
  have e6 : Fil.q6 s.data.toList = s6 := by unfold Fil.q6; rw [e5, h5]
  obtain ⟨x6, s7, h6⟩ : ∃ x y, Fil.rMask Col.name Fil.sNon s6 5 = (x, y) := ⟨_, _, rfl⟩
  have S7 : Hid (Short s7) := Lib.hid (by have := Short.mask Col.name Fil.sNon S6.out 5; rw [h6] at this; exact this)
  have e7 : Fil.q7 s.data.toList = s7 := by unfold Fil.q7; rw [e6, h6]
  obtain ⟨x7, s8, h7⟩ : ∃ x y, Fil.rSub s7 = (x, y) := ⟨_, _, rfl⟩
  have S8 : Hid (Short s8) := Lib.hid (by have := Short.sub S7.out; rw [h7] at this; exact this)
  have e8 : Fil.q8 s.data.toList = s8 := by unfold Fil.q8; rw [e7, h7]
  obtain ⟨x8, s9, h8⟩ : ∃ x y, Fil.rMask Kw.name Fil.sWith s8 17 = (x, y) := ⟨_, _, rfl⟩
  have S9 : Hid (Short s9) := Lib.hid (by have := Short.mask Kw.name Fil.sWith S8.out 17; rw [h8] at this; exact this)
  have e9 : Fil.q9 s.data.toList = s9 := by unfold Fil.q9; rw [e8, h8]
  obtain ⟨x9, s10, h9⟩ : ∃ x y, Fil.rOne Fil.tapL s9 = (x, y) := ⟨_, _, rfl⟩
  have S10 : Hid (Short s10) := Lib.hid (by have := Short.one Fil.tapL S9.out; rw [h9] at this; exact this)
  have e10 : Fil.q10 s.data.toList = s10 := by unfold Fil.q10; rw [e9, h9]
  obtain ⟨x10, s11, h10⟩ : ∃ x y, Fil.rBd Fil.sPow s10 = (x, y) := ⟨_, _, rfl⟩
  have S11 : Hid (Short s11) := Lib.hid (by have := Short.bd Fil.sPow S10.out; rw [h10] at this; exact this)
  have e11 : Fil.q11 s.data.toList = s11 := by unfold Fil.q11; rw [e10, h10]
  obtain ⟨x11, s12, h11⟩ : ∃ x y, Fil.rBd Fil.sTough s11 = (x, y) := ⟨_, _, rfl⟩
  have S12 : Hid (Short s12) := Lib.hid (by have := Short.bd Fil.sTough S11.out; rw [h11] at this; exact this)
  have e12 : Fil.q12 s.data.toList = s12 := by unfold Fil.q12; rw [e11, h11]
  obtain ⟨x12, s13, h12⟩ : ∃ x y, Fil.rBd Fil.sVal s12 = (x, y) := ⟨_, _, rfl⟩
  have S13 : Hid (Short s13) := Lib.hid (by have := Short.bd Fil.sVal S12.out; rw [h12] at this; exact this)
  obtain ⟨xs, hxs, exs⟩ := exists_bytes x7
  refine ⟨⟨x0, x1, x2, x3, x4, x5, x6, x7, x8, x9, x10, x11, x12⟩, xs, ?_, hxs.symm, ?_, ?_⟩
  · unfold Fil.readP Fil.Acc.flt
    rw [e0, e1, e2, e3, e4, e5, e6, e7, e8, e9, e10, e11, e12, h0, h1, h2, h3, h4, h5, h6, h7, h8, h9, h10, h11, h12]
  · have h1 : x7.length ≤ s7.1.length := by
      have : (Fil.rSub s7).1.length ≤ s7.1.length := by
        unfold Fil.rSub
        split
        · show (s7.1.drop 4).length ≤ _; rw [List.length_drop]; omega
        · exact Nat.zero_le _
      rw [h7] at this; exact this
    have h2 := S7.out.1
    rw [← hxs] at h1
    simp at h1
    omega
  · intro w hE
    have G0 := Lib.hid h0
    have G1 := Lib.hid h1
    have G2 := Lib.hid h2
    have G3 := Lib.hid h3
    have G4 := Lib.hid h4
    have G5 := Lib.hid h5
    have G6 := Lib.hid h6
    have G7 := Lib.hid h7
    have G8 := Lib.hid h8
    have G9 := Lib.hid h9
    have G10 := Lib.hid h10
    have G11 := Lib.hid h11
    have G12 := Lib.hid h12
    have GX := Lib.hid exs
    have hcut := wordCutFar s ⟨#[32]⟩
    obtain ⟨p, hp, ep⟩ := exists_bytes s0.1
    obtain ⟨q, hq, eq⟩ := exists_bytes s0.2
    obtain ⟨mm, hm⟩ : ∃ m, (Wd.cut s.data.toList [32]).2.2 = m := ⟨_, rfl⟩
    have HCUT : Hid (∀ W, Calls Tryz.prog 69 #[.string s, .string ⟨#[32]⟩] W fun e w' => e = .returned (.tuple #[.string p, .string q, .bool mm]) ∧ Below W.heap.size W w') := Lib.hid (fun W => by
      have h := hcut W (by omega) (by decide)
      unfold CutRes cutV at h
      have e1 : (Wd.cut s.data.toList [32]).1 = s0.1 := by rw [← e0]; rfl
      have e2 : (Wd.cut s.data.toList [32]).2.1 = s0.2 := by rw [← e0]; rfl
      change Calls _ _ _ W fun e w' => e = .returned (.tuple #[str (Wd.cut s.data.toList [32]).1, str (Wd.cut s.data.toList [32]).2.1, .bool (Wd.cut s.data.toList [32]).2.2]) ∧ _ at h
      rw [e1, e2, hm, ep, eq] at h
      exact h)
    have HPQ : Hid (#[Value.string p, Value.string q] = #[str s0.1, str s0.2]) := Lib.hid (by rw [ep, eq])
    have HE := Lib.hid (fun (W : World) (hb : Below w.heap.size w W) => hE.below hb)
    obtain ⟨b, hb⟩ : ∃ b, b = w.heap.size + 1 := ⟨_, rfl⟩
    obtain ⟨w1, hw1⟩ : ∃ w1, w1 = (w.alloc (.cells #[.int .i64 0, .int .i64 0, .int .i64 0, .int .i64 0, .int .i64 0, .int .i64 0, .int .i64 0, .string ⟨#[]⟩, .int .i64 0, .int .i64 0, .int .i64 0, .int .i64 0, .int .i64 0, .int .i64 0, .int .i64 0, .int .i64 0] 25)).alloc (.cells #[.string ⟨#[]⟩, .string ⟨#[]⟩] 110) := ⟨_, rfl⟩
    have B1 : Hid (Below w.heap.size w w1) := Lib.hid (by rw [hw1]; exact ((Below.refl _ _).alloc (Nat.le_refl _) _).alloc (by simp) _)
    have R1 : Hid (Blk w1 w.heap.size #[.int .i64 0, .int .i64 0, .int .i64 0, .int .i64 0, .int .i64 0, .int .i64 0, .int .i64 0, .string ⟨#[]⟩, .int .i64 0, .int .i64 0, .int .i64 0, .int .i64 0, .int .i64 0, .int .i64 0, .int .i64 0, .int .i64 0] 25) := Lib.hid (by rw [hw1]; exact (Blk.new w _ _).alloc _)
    have W1 : Hid (Blk w1 b #[.string ⟨#[]⟩, .string ⟨#[]⟩] 110) := Lib.hid (by
      have h := Blk.new (w.alloc (.cells #[.int .i64 0, .int .i64 0, .int .i64 0, .int .i64 0, .int .i64 0, .int .i64 0, .int .i64 0, .string ⟨#[]⟩, .int .i64 0, .int .i64 0, .int .i64 0, .int .i64 0, .int .i64 0, .int .i64 0, .int .i64 0, .int .i64 0] 25)) #[.string ⟨#[]⟩, .string ⟨#[]⟩] 110
      rw [hw1, hb]; simpa using h)
    have HBW : Hid (w.heap.size < b) := Lib.hid (by omega)
    clear e0 e1 e2 e3 e4 e5 e6 e7 e8 e9 e10 e11 e12 h0 h1 h2 h3 h4 h5 h6 h7 h8 h9 h10 h11 h12 exs hxs hcut hp hq ep eq hm hE hs hsl
    go_enter Tryz.func133, Tryz.ntmps133
    go_wp2_with fail
    rw [← hw1, ← hb]
    clear hw1 hb
    refine (HCUT.out _).mono ?_
    rintro e w2 ⟨rfl, hb2⟩
    have B2 := Lib.hid (B1.out.trans (hb2.mono B1.out.size))
    have R2 := Lib.hid (R1.out.below hb2 R1.out.lt)
    have k2 := W1.out.below hb2 W1.out.lt
    have K2 := Lib.hid k2
    have z0 := k2.free 0
    have z1 := k2.free 1
    have y0 : w2.cell? ⟨b, 0, none⟩ = some (.string ⟨#[]⟩) := k2.cell 0
    have y1 : w2.cell? ⟨b, 1, none⟩ = some (.string ⟨#[]⟩) := k2.cell 1
    clear hb2 k2 B1 R1 W1
    obtain ⟨w3, hw3⟩ : ∃ w3, w3 = ((w2.setCell ⟨b, 0, none⟩ (.string p)).setCell ⟨b, 1, none⟩ (.string q)).alloc (.cells #[.int .i64 0, .int .i64 0, .int .i64 0, .int .i64 0, .int .i64 0, .int .i64 0, .int .i64 0, .string ⟨#[]⟩, .int .i64 0, .int .i64 0, .int .i64 0, .int .i64 0, .int .i64 0, .int .i64 0, .int .i64 0, .int .i64 0] 25) := ⟨_, rfl⟩
    obtain ⟨F, hF⟩ : ∃ F, F = w2.heap.size := ⟨_, rfl⟩
    have HFb : Hid (F ≠ b) := Lib.hid (by have := K2.out.lt; omega)
    have HFw : Hid (w.heap.size ≤ F) := Lib.hid (by have := B2.out.size; omega)
    have HFR : Hid (F ≠ w.heap.size) := Lib.hid (by have := R2.out.lt; omega)
    have C0 : Hid (Below w.heap.size w w3) := Lib.hid (by rw [hw3]; exact ((B2.out.setCell (by exact Nat.le_of_lt HBW.out) _).setCell (by exact Nat.le_of_lt HBW.out) _).alloc (by simp; exact B2.out.size) _)
    have R0 : Hid (Blk w3 w.heap.size #[.int .i64 0, .int .i64 0, .int .i64 0, .int .i64 0, .int .i64 0, .int .i64 0, .int .i64 0, .string ⟨#[]⟩, .int .i64 0, .int .i64 0, .int .i64 0, .int .i64 0, .int .i64 0, .int .i64 0, .int .i64 0, .int .i64 0] 25) := Lib.hid (by rw [hw3]; exact ((R2.out.other (Nat.ne_of_lt HBW.out) _ _).other (Nat.ne_of_lt HBW.out) _ _).alloc _)
    have W0 : Hid (WAt w3 b s0) := Lib.hid (by rw [hw3]; unfold WAt; rw [← HPQ.out]; exact ((K2.out.set 0 _).set 1 _).alloc _)
    have F0 : Hid (Blk w3 F #[.int .i64 0, .int .i64 0, .int .i64 0, .int .i64 0, .int .i64 0, .int .i64 0, .int .i64 0, .string ⟨#[]⟩, .int .i64 0, .int .i64 0, .int .i64 0, .int .i64 0, .int .i64 0, .int .i64 0, .int .i64 0, .int .i64 0] 25) := Lib.hid (by
      have h := Blk.new ((w2.setCell ⟨b, 0, none⟩ (.string p)).setCell ⟨b, 1, none⟩ (.string q)) #[.int .i64 0, .int .i64 0, .int .i64 0, .int .i64 0, .int .i64 0, .int .i64 0, .int .i64 0, .string ⟨#[]⟩, .int .i64 0, .int .i64 0, .int .i64 0, .int .i64 0, .int .i64 0, .int .i64 0, .int .i64 0, .int .i64 0] 25
      rw [hw3, hF]; simpa using h)
    go_wp2_with fail
    rw [← hw3, ← hF]
    clear hw3 hF z0 z1 y0 y1 K2 R2 B2
    refine (tab_zonesL _).mono ?_
    rintro e t0 ⟨rfl, ht⟩
    have hbt : Below w3.heap.size w3 t0 := by rw [ht]; exact (Below.refl _ _).alloc (Nat.le_refl _) _
    have hkt : Blk t0 w3.heap.size (Fil.zonesL.map str).toArray 9 := by rw [ht]; exact Blk.new w3 _ _
    have HT := Lib.hid (filReadOne b w3.heap.size 6 s0 Fil.zonesL t0 (W0.out.below hbt W0.out.lt) S0.out rfl (by decide) rfl (fun k x hx => by rw [hkt.cell k]; simp [hx]))
    rw [G0.out] at HT
    have FT := Lib.hid (F0.out.below hbt F0.out.lt)
    have RT := Lib.hid (R0.out.below hbt R0.out.lt)
    have CT := Lib.hid (C0.out.trans (hbt.mono C0.out.size))
    clear ht hbt hkt F0 R0 C0 W0
    go_wp2_with fail
    refine HT.out.mono ?_
    rintro e r0 ⟨rfl, hw, hg⟩
    have kF := FT.out.grown hg HFb.out
    have FR := Lib.hid kF
    have RR := Lib.hid (RT.out.grown hg (Nat.ne_of_lt HBW.out))
    have CR := Lib.hid (CT.out.grown hg CT.out.size (fun j e => by injection e with e; rw [← e]; exact Nat.le_of_lt HBW.out))
    have WR : Hid (WAt r0 b s1) := Lib.hid hw
    have z0 := kF.free 0
    have y0 : r0.cell? ⟨F, 0, none⟩ = some (.int .i64 0) := kF.cell 0
    clear hw hg kF FT RT CT HT
    obtain ⟨v0, hv⟩ : ∃ v, v = r0.setCell ⟨F, 0, none⟩ (.int .i64 (x0 : Int)) := ⟨_, rfl⟩
    have F1 : Hid (Blk v0 F #[.int .i64 (x0 : Int), .int .i64 0, .int .i64 0, .int .i64 0, .int .i64 0, .int .i64 0, .int .i64 0, .string ⟨#[]⟩, .int .i64 0, .int .i64 0, .int .i64 0, .int .i64 0, .int .i64 0, .int .i64 0, .int .i64 0, .int .i64 0] 25) := Lib.hid (by rw [hv]; exact (FR.out.set 0 _))
    have W1 : Hid (WAt v0 b s1) := Lib.hid (by rw [hv]; exact ((show Blk _ b _ _ from WR.out).other HFb.out.symm _ _))
    have R1 : Hid (Blk v0 w.heap.size #[.int .i64 0, .int .i64 0, .int .i64 0, .int .i64 0, .int .i64 0, .int .i64 0, .int .i64 0, .string ⟨#[]⟩, .int .i64 0, .int .i64 0, .int .i64 0, .int .i64 0, .int .i64 0, .int .i64 0, .int .i64 0, .int .i64 0] 25) := Lib.hid (by rw [hv]; exact (RR.out.other HFR.out.symm _ _))
    have C1 : Hid (Below w.heap.size w v0) := Lib.hid (by rw [hv]; exact (CR.out.setCell (by exact HFw.out) _))
    clear FR WR RR CR
    go_wp2_with fail
    rw [← hv]
    clear hv z0 y0
    refine (tab_whoL _).mono ?_
    rintro e t1 ⟨rfl, ht⟩
    have hbt : Below v0.heap.size v0 t1 := by rw [ht]; exact (Below.refl _ _).alloc (Nat.le_refl _) _
    have hkt : Blk t1 v0.heap.size (Fil.whoL.map str).toArray 9 := by rw [ht]; exact Blk.new v0 _ _
    have HT := Lib.hid (filReadOne b v0.heap.size 3 s1 Fil.whoL t1 (W1.out.below hbt W1.out.lt) S1.out rfl (by decide) rfl (fun k x hx => by rw [hkt.cell k]; simp [hx]))
    rw [G1.out] at HT
    have FT := Lib.hid (F1.out.below hbt F1.out.lt)
    have RT := Lib.hid (R1.out.below hbt R1.out.lt)
    have CT := Lib.hid (C1.out.trans (hbt.mono C1.out.size))
    clear ht hbt hkt F1 R1 C1 W1
    go_wp2_with fail
    refine HT.out.mono ?_
    rintro e r1 ⟨rfl, hw, hg⟩
    have kF := FT.out.grown hg HFb.out
    have FR := Lib.hid kF
    have RR := Lib.hid (RT.out.grown hg (Nat.ne_of_lt HBW.out))
    have CR := Lib.hid (CT.out.grown hg CT.out.size (fun j e => by injection e with e; rw [← e]; exact Nat.le_of_lt HBW.out))
    have WR : Hid (WAt r1 b s2) := Lib.hid hw
    have z1 := kF.free 1
    have y1 : r1.cell? ⟨F, 1, none⟩ = some (.int .i64 0) := kF.cell 1
    clear hw hg kF FT RT CT HT
    obtain ⟨v1, hv⟩ : ∃ v, v = r1.setCell ⟨F, 1, none⟩ (.int .i64 (x1 : Int)) := ⟨_, rfl⟩
    have F2 : Hid (Blk v1 F #[.int .i64 (x0 : Int), .int .i64 (x1 : Int), .int .i64 0, .int .i64 0, .int .i64 0, .int .i64 0, .int .i64 0, .string ⟨#[]⟩, .int .i64 0, .int .i64 0, .int .i64 0, .int .i64 0, .int .i64 0, .int .i64 0, .int .i64 0, .int .i64 0] 25) := Lib.hid (by rw [hv]; exact (FR.out.set 1 _))
    have W2 : Hid (WAt v1 b s2) := Lib.hid (by rw [hv]; exact ((show Blk _ b _ _ from WR.out).other HFb.out.symm _ _))
    have R2 : Hid (Blk v1 w.heap.size #[.int .i64 0, .int .i64 0, .int .i64 0, .int .i64 0, .int .i64 0, .int .i64 0, .int .i64 0, .string ⟨#[]⟩, .int .i64 0, .int .i64 0, .int .i64 0, .int .i64 0, .int .i64 0, .int .i64 0, .int .i64 0, .int .i64 0] 25) := Lib.hid (by rw [hv]; exact (RR.out.other HFR.out.symm _ _))
    have C2 : Hid (Below w.heap.size w v1) := Lib.hid (by rw [hv]; exact (CR.out.setCell (by exact HFw.out) _))
    clear FR WR RR CR
    go_wp2_with fail
    rw [← hv]
    clear hv z1 y1
    refine (tab_selfL _).mono ?_
    rintro e t2 ⟨rfl, ht⟩
    have hbt : Below v1.heap.size v1 t2 := by rw [ht]; exact (Below.refl _ _).alloc (Nat.le_refl _) _
    have hkt : Blk t2 v1.heap.size (Fil.selfL.map str).toArray 9 := by rw [ht]; exact Blk.new v1 _ _
    have HT := Lib.hid (filReadOne b v1.heap.size 3 s2 Fil.selfL t2 (W2.out.below hbt W2.out.lt) S2.out rfl (by decide) rfl (fun k x hx => by rw [hkt.cell k]; simp [hx]))
    rw [G2.out] at HT
    have FT := Lib.hid (F2.out.below hbt F2.out.lt)
    have RT := Lib.hid (R2.out.below hbt R2.out.lt)
    have CT := Lib.hid (C2.out.trans (hbt.mono C2.out.size))
    clear ht hbt hkt F2 R2 C2 W2
    go_wp2_with fail
    refine HT.out.mono ?_
    rintro e r2 ⟨rfl, hw, hg⟩
    have kF := FT.out.grown hg HFb.out
    have FR := Lib.hid kF
    have RR := Lib.hid (RT.out.grown hg (Nat.ne_of_lt HBW.out))
    have CR := Lib.hid (CT.out.grown hg CT.out.size (fun j e => by injection e with e; rw [← e]; exact Nat.le_of_lt HBW.out))
    have WR : Hid (WAt r2 b s3) := Lib.hid hw
    have z2 := kF.free 2
    have y2 : r2.cell? ⟨F, 2, none⟩ = some (.int .i64 0) := kF.cell 2
    clear hw hg kF FT RT CT HT
    obtain ⟨v2, hv⟩ : ∃ v, v = r2.setCell ⟨F, 2, none⟩ (.int .i64 (x2 : Int)) := ⟨_, rfl⟩
    have F3 : Hid (Blk v2 F #[.int .i64 (x0 : Int), .int .i64 (x1 : Int), .int .i64 (x2 : Int), .int .i64 0, .int .i64 0, .int .i64 0, .int .i64 0, .string ⟨#[]⟩, .int .i64 0, .int .i64 0, .int .i64 0, .int .i64 0, .int .i64 0, .int .i64 0, .int .i64 0, .int .i64 0] 25) := Lib.hid (by rw [hv]; exact (FR.out.set 2 _))
    have W3 : Hid (WAt v2 b s3) := Lib.hid (by rw [hv]; exact ((show Blk _ b _ _ from WR.out).other HFb.out.symm _ _))
    have R3 : Hid (Blk v2 w.heap.size #[.int .i64 0, .int .i64 0, .int .i64 0, .int .i64 0, .int .i64 0, .int .i64 0, .int .i64 0, .string ⟨#[]⟩, .int .i64 0, .int .i64 0, .int .i64 0, .int .i64 0, .int .i64 0, .int .i64 0, .int .i64 0, .int .i64 0] 25) := Lib.hid (by rw [hv]; exact (RR.out.other HFR.out.symm _ _))
    have C3 : Hid (Below w.heap.size w v2) := Lib.hid (by rw [hv]; exact (CR.out.setCell (by exact HFw.out) _))
    clear FR WR RR CR
    go_wp2_with fail
    rw [← hv]
    clear hv z2 y2
    have HT := Lib.hid (filReadMaskT b ⟨#[]⟩ s3 v2 W3.out S3.out (by decide) C3.out (Nat.le_of_lt HBW.out) (fun W hW => HE.out W hW))
    have HTE : Hid (Fil.rMask Fil.typeW ((⟨#[]⟩ : ByteArray).data.toList) s3 6 = (x3, s4)) := Lib.hid G3.out
    rw [HTE.out] at HT
    clear HTE
    have FT := Lib.hid F3.out
    have RT := Lib.hid R3.out
    have CT := Lib.hid C3.out
    clear F3 R3 C3 W3
    refine HT.out.mono ?_
    rintro e r3 ⟨rfl, hw, hg⟩
    have kF := FT.out.grown hg HFb.out
    have FR := Lib.hid kF
    have RR := Lib.hid (RT.out.grown hg (Nat.ne_of_lt HBW.out))
    have CR := Lib.hid (CT.out.grown hg CT.out.size (fun j e => by injection e with e; rw [← e]; exact Nat.le_of_lt HBW.out))
    have WR : Hid (WAt r3 b s4) := Lib.hid hw
    have z3 := kF.free 3
    have y3 : r3.cell? ⟨F, 3, none⟩ = some (.int .i64 0) := kF.cell 3
    clear hw hg kF FT RT CT HT
    obtain ⟨v3, hv⟩ : ∃ v, v = r3.setCell ⟨F, 3, none⟩ (.int .i64 (x3 : Int)) := ⟨_, rfl⟩
    have F4 : Hid (Blk v3 F #[.int .i64 (x0 : Int), .int .i64 (x1 : Int), .int .i64 (x2 : Int), .int .i64 (x3 : Int), .int .i64 0, .int .i64 0, .int .i64 0, .string ⟨#[]⟩, .int .i64 0, .int .i64 0, .int .i64 0, .int .i64 0, .int .i64 0, .int .i64 0, .int .i64 0, .int .i64 0] 25) := Lib.hid (by rw [hv]; exact (FR.out.set 3 _))
    have W4 : Hid (WAt v3 b s4) := Lib.hid (by rw [hv]; exact ((show Blk _ b _ _ from WR.out).other HFb.out.symm _ _))
    have R4 : Hid (Blk v3 w.heap.size #[.int .i64 0, .int .i64 0, .int .i64 0, .int .i64 0, .int .i64 0, .int .i64 0, .int .i64 0, .string ⟨#[]⟩, .int .i64 0, .int .i64 0, .int .i64 0, .int .i64 0, .int .i64 0, .int .i64 0, .int .i64 0, .int .i64 0] 25) := Lib.hid (by rw [hv]; exact (RR.out.other HFR.out.symm _ _))
    have C4 : Hid (Below w.heap.size w v3) := Lib.hid (by rw [hv]; exact (CR.out.setCell (by exact HFw.out) _))
    clear FR WR RR CR
    go_wp2_with fail
    rw [← hv]
    clear hv z3 y3
    have HT := Lib.hid (filReadMaskT b ⟨#[110, 111, 110, 45]⟩ s4 v3 W4.out S4.out (by decide) C4.out (Nat.le_of_lt HBW.out) (fun W hW => HE.out W hW))
    have HTE : Hid (Fil.rMask Fil.typeW ((⟨#[110, 111, 110, 45]⟩ : ByteArray).data.toList) s4 6 = (x4, s5)) := Lib.hid G4.out
    rw [HTE.out] at HT
    clear HTE
    have FT := Lib.hid F4.out
    have RT := Lib.hid R4.out
    have CT := Lib.hid C4.out
    clear F4 R4 C4 W4
    refine HT.out.mono ?_
    rintro e r4 ⟨rfl, hw, hg⟩
    have kF := FT.out.grown hg HFb.out
    have FR := Lib.hid kF
    have RR := Lib.hid (RT.out.grown hg (Nat.ne_of_lt HBW.out))
    have CR := Lib.hid (CT.out.grown hg CT.out.size (fun j e => by injection e with e; rw [← e]; exact Nat.le_of_lt HBW.out))
    have WR : Hid (WAt r4 b s5) := Lib.hid hw
    have z4 := kF.free 4
    have y4 : r4.cell? ⟨F, 4, none⟩ = some (.int .i64 0) := kF.cell 4
    clear hw hg kF FT RT CT HT
    obtain ⟨v4, hv⟩ : ∃ v, v = r4.setCell ⟨F, 4, none⟩ (.int .i64 (x4 : Int)) := ⟨_, rfl⟩
    have F5 : Hid (Blk v4 F #[.int .i64 (x0 : Int), .int .i64 (x1 : Int), .int .i64 (x2 : Int), .int .i64 (x3 : Int), .int .i64 (x4 : Int), .int .i64 0, .int .i64 0, .string ⟨#[]⟩, .int .i64 0, .int .i64 0, .int .i64 0, .int .i64 0, .int .i64 0, .int .i64 0, .int .i64 0, .int .i64 0] 25) := Lib.hid (by rw [hv]; exact (FR.out.set 4 _))
    have W5 : Hid (WAt v4 b s5) := Lib.hid (by rw [hv]; exact ((show Blk _ b _ _ from WR.out).other HFb.out.symm _ _))
    have R5 : Hid (Blk v4 w.heap.size #[.int .i64 0, .int .i64 0, .int .i64 0, .int .i64 0, .int .i64 0, .int .i64 0, .int .i64 0, .string ⟨#[]⟩, .int .i64 0, .int .i64 0, .int .i64 0, .int .i64 0, .int .i64 0, .int .i64 0, .int .i64 0, .int .i64 0] 25) := Lib.hid (by rw [hv]; exact (RR.out.other HFR.out.symm _ _))
    have C5 : Hid (Below w.heap.size w v4) := Lib.hid (by rw [hv]; exact (CR.out.setCell (by exact HFw.out) _))
    clear FR WR RR CR
    go_wp2_with fail
    rw [← hv]
    clear hv z4 y4
    have HT := Lib.hid (filReadMaskC b ⟨#[]⟩ s5 v4 W5.out S5.out (by decide) C5.out (Nat.le_of_lt HBW.out) (fun W hW => HE.out W hW))
    have HTE : Hid (Fil.rMask Col.name ((⟨#[]⟩ : ByteArray).data.toList) s5 5 = (x5, s6)) := Lib.hid G5.out
    rw [HTE.out] at HT
    clear HTE
    have FT := Lib.hid F5.out
    have RT := Lib.hid R5.out
    have CT := Lib.hid C5.out
    clear F5 R5 C5 W5
    refine HT.out.mono ?_
    rintro e r5 ⟨rfl, hw, hg⟩
    have kF := FT.out.grown hg HFb.out
    have FR := Lib.hid kF
    have RR := Lib.hid (RT.out.grown hg (Nat.ne_of_lt HBW.out))
    have CR := Lib.hid (CT.out.grown hg CT.out.size (fun j e => by injection e with e; rw [← e]; exact Nat.le_of_lt HBW.out))
    have WR : Hid (WAt r5 b s6) := Lib.hid hw
    have z5 := kF.free 5
    have y5 : r5.cell? ⟨F, 5, none⟩ = some (.int .i64 0) := kF.cell 5
    clear hw hg kF FT RT CT HT
    obtain ⟨v5, hv⟩ : ∃ v, v = r5.setCell ⟨F, 5, none⟩ (.int .i64 (x5 : Int)) := ⟨_, rfl⟩
    have F6 : Hid (Blk v5 F #[.int .i64 (x0 : Int), .int .i64 (x1 : Int), .int .i64 (x2 : Int), .int .i64 (x3 : Int), .int .i64 (x4 : Int), .int .i64 (x5 : Int), .int .i64 0, .string ⟨#[]⟩, .int .i64 0, .int .i64 0, .int .i64 0, .int .i64 0, .int .i64 0, .int .i64 0, .int .i64 0, .int .i64 0] 25) := Lib.hid (by rw [hv]; exact (FR.out.set 5 _))
    have W6 : Hid (WAt v5 b s6) := Lib.hid (by rw [hv]; exact ((show Blk _ b _ _ from WR.out).other HFb.out.symm _ _))
    have R6 : Hid (Blk v5 w.heap.size #[.int .i64 0, .int .i64 0, .int .i64 0, .int .i64 0, .int .i64 0, .int .i64 0, .int .i64 0, .string ⟨#[]⟩, .int .i64 0, .int .i64 0, .int .i64 0, .int .i64 0, .int .i64 0, .int .i64 0, .int .i64 0, .int .i64 0] 25) := Lib.hid (by rw [hv]; exact (RR.out.other HFR.out.symm _ _))
    have C6 : Hid (Below w.heap.size w v5) := Lib.hid (by rw [hv]; exact (CR.out.setCell (by exact HFw.out) _))
    clear FR WR RR CR
    go_wp2_with fail
    rw [← hv]
    clear hv z5 y5
    have HT := Lib.hid (filReadMaskC b ⟨#[110, 111, 110, 45]⟩ s6 v5 W6.out S6.out (by decide) C6.out (Nat.le_of_lt HBW.out) (fun W hW => HE.out W hW))
    have HTE : Hid (Fil.rMask Col.name ((⟨#[110, 111, 110, 45]⟩ : ByteArray).data.toList) s6 5 = (x6, s7)) := Lib.hid G6.out
    rw [HTE.out] at HT
    clear HTE
    have FT := Lib.hid F6.out
    have RT := Lib.hid R6.out
    have CT := Lib.hid C6.out
    clear F6 R6 C6 W6
    refine HT.out.mono ?_
    rintro e r6 ⟨rfl, hw, hg⟩
    have kF := FT.out.grown hg HFb.out
    have FR := Lib.hid kF
    have RR := Lib.hid (RT.out.grown hg (Nat.ne_of_lt HBW.out))
    have CR := Lib.hid (CT.out.grown hg CT.out.size (fun j e => by injection e with e; rw [← e]; exact Nat.le_of_lt HBW.out))
    have WR : Hid (WAt r6 b s7) := Lib.hid hw
    have z6 := kF.free 6
    have y6 : r6.cell? ⟨F, 6, none⟩ = some (.int .i64 0) := kF.cell 6
    clear hw hg kF FT RT CT HT
    obtain ⟨v6, hv⟩ : ∃ v, v = r6.setCell ⟨F, 6, none⟩ (.int .i64 (x6 : Int)) := ⟨_, rfl⟩
    have F7 : Hid (Blk v6 F #[.int .i64 (x0 : Int), .int .i64 (x1 : Int), .int .i64 (x2 : Int), .int .i64 (x3 : Int), .int .i64 (x4 : Int), .int .i64 (x5 : Int), .int .i64 (x6 : Int), .string ⟨#[]⟩, .int .i64 0, .int .i64 0, .int .i64 0, .int .i64 0, .int .i64 0, .int .i64 0, .int .i64 0, .int .i64 0] 25) := Lib.hid (by rw [hv]; exact (FR.out.set 6 _))
    have W7 : Hid (WAt v6 b s7) := Lib.hid (by rw [hv]; exact ((show Blk _ b _ _ from WR.out).other HFb.out.symm _ _))
    have R7 : Hid (Blk v6 w.heap.size #[.int .i64 0, .int .i64 0, .int .i64 0, .int .i64 0, .int .i64 0, .int .i64 0, .int .i64 0, .string ⟨#[]⟩, .int .i64 0, .int .i64 0, .int .i64 0, .int .i64 0, .int .i64 0, .int .i64 0, .int .i64 0, .int .i64 0] 25) := Lib.hid (by rw [hv]; exact (RR.out.other HFR.out.symm _ _))
    have C7 : Hid (Below w.heap.size w v6) := Lib.hid (by rw [hv]; exact (CR.out.setCell (by exact HFw.out) _))
    clear FR WR RR CR
    go_wp2_with fail
    rw [← hv]
    clear hv z6 y6
    have HT := Lib.hid (afterSub b s7 v6 W7.out S7.out)
    rw [G7.out] at HT
    change Hid (Calls _ _ _ _ fun e w' => ∃ ok, e = .returned (.tuple #[str x7, .bool ok]) ∧ _) at HT
    rw [GX.out] at HT
    have FT := Lib.hid F7.out
    have RT := Lib.hid R7.out
    have CT := Lib.hid C7.out
    clear F7 R7 C7 W7
    refine HT.out.mono ?_
    rintro e r7 ⟨ok, rfl, hw, hg⟩
    have kF := FT.out.grown hg HFb.out
    have FR := Lib.hid kF
    have RR := Lib.hid (RT.out.grown hg (Nat.ne_of_lt HBW.out))
    have CR := Lib.hid (CT.out.grown hg CT.out.size (fun j e => by injection e with e; rw [← e]; exact Nat.le_of_lt HBW.out))
    have WR : Hid (WAt r7 b s8) := Lib.hid hw
    have z7 := kF.free 7
    have y7 : r7.cell? ⟨F, 7, none⟩ = some (.string ⟨#[]⟩) := kF.cell 7
    clear hw hg kF FT RT CT HT
    obtain ⟨v7, hv⟩ : ∃ v, v = r7.setCell ⟨F, 7, none⟩ (.string xs) := ⟨_, rfl⟩
    have F8 : Hid (Blk v7 F #[.int .i64 (x0 : Int), .int .i64 (x1 : Int), .int .i64 (x2 : Int), .int .i64 (x3 : Int), .int .i64 (x4 : Int), .int .i64 (x5 : Int), .int .i64 (x6 : Int), .string xs, .int .i64 0, .int .i64 0, .int .i64 0, .int .i64 0, .int .i64 0, .int .i64 0, .int .i64 0, .int .i64 0] 25) := Lib.hid (by rw [hv]; exact (FR.out.set 7 _))
    have W8 : Hid (WAt v7 b s8) := Lib.hid (by rw [hv]; exact ((show Blk _ b _ _ from WR.out).other HFb.out.symm _ _))
    have R8 : Hid (Blk v7 w.heap.size #[.int .i64 0, .int .i64 0, .int .i64 0, .int .i64 0, .int .i64 0, .int .i64 0, .int .i64 0, .string ⟨#[]⟩, .int .i64 0, .int .i64 0, .int .i64 0, .int .i64 0, .int .i64 0, .int .i64 0, .int .i64 0, .int .i64 0] 25) := Lib.hid (by rw [hv]; exact (RR.out.other HFR.out.symm _ _))
    have C8 : Hid (Below w.heap.size w v7) := Lib.hid (by rw [hv]; exact (CR.out.setCell (by exact HFw.out) _))
    clear FR WR RR CR
    go_wp2_with fail
    rw [← hv]
    clear hv z7 y7
    have HT := Lib.hid (filReadMaskK b ⟨#[119, 105, 116, 104, 58]⟩ s8 v7 W8.out S8.out (by decide) C8.out (Nat.le_of_lt HBW.out))
    have HTE : Hid (Fil.rMask Kw.name ((⟨#[119, 105, 116, 104, 58]⟩ : ByteArray).data.toList) s8 17 = (x8, s9)) := Lib.hid G8.out
    rw [HTE.out] at HT
    clear HTE
    have FT := Lib.hid F8.out
    have RT := Lib.hid R8.out
    have CT := Lib.hid C8.out
    clear F8 R8 C8 W8
    refine HT.out.mono ?_
    rintro e r8 ⟨rfl, hw, hg⟩
    have kF := FT.out.grown hg HFb.out
    have FR := Lib.hid kF
    have RR := Lib.hid (RT.out.grown hg (Nat.ne_of_lt HBW.out))
    have CR := Lib.hid (CT.out.grown hg CT.out.size (fun j e => by injection e with e; rw [← e]; exact Nat.le_of_lt HBW.out))
    have WR : Hid (WAt r8 b s9) := Lib.hid hw
    have z8 := kF.free 8
    have y8 : r8.cell? ⟨F, 8, none⟩ = some (.int .i64 0) := kF.cell 8
    clear hw hg kF FT RT CT HT
    obtain ⟨v8, hv⟩ : ∃ v, v = r8.setCell ⟨F, 8, none⟩ (.int .i64 (x8 : Int)) := ⟨_, rfl⟩
    have F9 : Hid (Blk v8 F #[.int .i64 (x0 : Int), .int .i64 (x1 : Int), .int .i64 (x2 : Int), .int .i64 (x3 : Int), .int .i64 (x4 : Int), .int .i64 (x5 : Int), .int .i64 (x6 : Int), .string xs, .int .i64 (x8 : Int), .int .i64 0, .int .i64 0, .int .i64 0, .int .i64 0, .int .i64 0, .int .i64 0, .int .i64 0] 25) := Lib.hid (by rw [hv]; exact (FR.out.set 8 _))
    have W9 : Hid (WAt v8 b s9) := Lib.hid (by rw [hv]; exact ((show Blk _ b _ _ from WR.out).other HFb.out.symm _ _))
    have R9 : Hid (Blk v8 w.heap.size #[.int .i64 0, .int .i64 0, .int .i64 0, .int .i64 0, .int .i64 0, .int .i64 0, .int .i64 0, .string ⟨#[]⟩, .int .i64 0, .int .i64 0, .int .i64 0, .int .i64 0, .int .i64 0, .int .i64 0, .int .i64 0, .int .i64 0] 25) := Lib.hid (by rw [hv]; exact (RR.out.other HFR.out.symm _ _))
    have C9 : Hid (Below w.heap.size w v8) := Lib.hid (by rw [hv]; exact (CR.out.setCell (by exact HFw.out) _))
    clear FR WR RR CR
    go_wp2_with fail
    rw [← hv]
    clear hv z8 y8
    refine (tab_tapL _).mono ?_
    rintro e t9 ⟨rfl, ht⟩
    have hbt : Below v8.heap.size v8 t9 := by rw [ht]; exact (Below.refl _ _).alloc (Nat.le_refl _) _
    have hkt : Blk t9 v8.heap.size (Fil.tapL.map str).toArray 9 := by rw [ht]; exact Blk.new v8 _ _
    have HT := Lib.hid (filReadOne b v8.heap.size 3 s9 Fil.tapL t9 (W9.out.below hbt W9.out.lt) S9.out rfl (by decide) rfl (fun k x hx => by rw [hkt.cell k]; simp [hx]))
    rw [G9.out] at HT
    have FT := Lib.hid (F9.out.below hbt F9.out.lt)
    have RT := Lib.hid (R9.out.below hbt R9.out.lt)
    have CT := Lib.hid (C9.out.trans (hbt.mono C9.out.size))
    clear ht hbt hkt F9 R9 C9 W9
    go_wp2_with fail
    refine HT.out.mono ?_
    rintro e r9 ⟨rfl, hw, hg⟩
    have kF := FT.out.grown hg HFb.out
    have FR := Lib.hid kF
    have RR := Lib.hid (RT.out.grown hg (Nat.ne_of_lt HBW.out))
    have CR := Lib.hid (CT.out.grown hg CT.out.size (fun j e => by injection e with e; rw [← e]; exact Nat.le_of_lt HBW.out))
    have WR : Hid (WAt r9 b s10) := Lib.hid hw
    have z9 := kF.free 9
    have y9 : r9.cell? ⟨F, 9, none⟩ = some (.int .i64 0) := kF.cell 9
    clear hw hg kF FT RT CT HT
    obtain ⟨v9, hv⟩ : ∃ v, v = r9.setCell ⟨F, 9, none⟩ (.int .i64 (x9 : Int)) := ⟨_, rfl⟩
    have F10 : Hid (Blk v9 F #[.int .i64 (x0 : Int), .int .i64 (x1 : Int), .int .i64 (x2 : Int), .int .i64 (x3 : Int), .int .i64 (x4 : Int), .int .i64 (x5 : Int), .int .i64 (x6 : Int), .string xs, .int .i64 (x8 : Int), .int .i64 (x9 : Int), .int .i64 0, .int .i64 0, .int .i64 0, .int .i64 0, .int .i64 0, .int .i64 0] 25) := Lib.hid (by rw [hv]; exact (FR.out.set 9 _))
    have W10 : Hid (WAt v9 b s10) := Lib.hid (by rw [hv]; exact ((show Blk _ b _ _ from WR.out).other HFb.out.symm _ _))
    have R10 : Hid (Blk v9 w.heap.size #[.int .i64 0, .int .i64 0, .int .i64 0, .int .i64 0, .int .i64 0, .int .i64 0, .int .i64 0, .string ⟨#[]⟩, .int .i64 0, .int .i64 0, .int .i64 0, .int .i64 0, .int .i64 0, .int .i64 0, .int .i64 0, .int .i64 0] 25) := Lib.hid (by rw [hv]; exact (RR.out.other HFR.out.symm _ _))
    have C10 : Hid (Below w.heap.size w v9) := Lib.hid (by rw [hv]; exact (CR.out.setCell (by exact HFw.out) _))
    clear FR WR RR CR
    go_wp2_with fail
    rw [← hv]
    clear hv z9 y9
    have HT := Lib.hid (filReadBound b ⟨#[112, 111, 119, 101, 114]⟩ s10 v9 W10.out S10.out (by decide) C10.out (Nat.le_of_lt HBW.out) (fun W hW => HE.out W hW))
    have HTE : Hid (Fil.rBd ((⟨#[112, 111, 119, 101, 114]⟩ : ByteArray).data.toList) s10 = (x10, s11)) := Lib.hid G10.out
    rw [HTE.out] at HT
    clear HTE
    have FT := Lib.hid F10.out
    have RT := Lib.hid R10.out
    have CT := Lib.hid C10.out
    clear F10 R10 C10 W10
    refine HT.out.mono ?_
    rintro e r10 ⟨rfl, hw, hg⟩
    have kF := FT.out.grown hg HFb.out
    have FR := Lib.hid kF
    have RR := Lib.hid (RT.out.grown hg (Nat.ne_of_lt HBW.out))
    have CR := Lib.hid (CT.out.grown hg CT.out.size (fun j e => by injection e with e; rw [← e]; exact Nat.le_of_lt HBW.out))
    have WR : Hid (WAt r10 b s11) := Lib.hid hw
    have z10 := kF.free 10
    have y10 : r10.cell? ⟨F, 10, none⟩ = some (.int .i64 0) := kF.cell 10
    have z11 := kF.free 11
    have y11 : r10.cell? ⟨F, 11, none⟩ = some (.int .i64 0) := kF.cell 11
    clear hw hg kF FT RT CT HT
    obtain ⟨v10, hv⟩ : ∃ v, v = (r10.setCell ⟨F, 10, none⟩ (.int .i64 x10.kind)).setCell ⟨F, 11, none⟩ (.int .i64 x10.n) := ⟨_, rfl⟩
    have F11 : Hid (Blk v10 F #[.int .i64 (x0 : Int), .int .i64 (x1 : Int), .int .i64 (x2 : Int), .int .i64 (x3 : Int), .int .i64 (x4 : Int), .int .i64 (x5 : Int), .int .i64 (x6 : Int), .string xs, .int .i64 (x8 : Int), .int .i64 (x9 : Int), .int .i64 x10.kind, .int .i64 x10.n, .int .i64 0, .int .i64 0, .int .i64 0, .int .i64 0] 25) := Lib.hid (by rw [hv]; exact ((FR.out.set 10 _).set 11 _))
    have W11 : Hid (WAt v10 b s11) := Lib.hid (by rw [hv]; exact (((show Blk _ b _ _ from WR.out).other HFb.out.symm _ _).other HFb.out.symm _ _))
    have R11 : Hid (Blk v10 w.heap.size #[.int .i64 0, .int .i64 0, .int .i64 0, .int .i64 0, .int .i64 0, .int .i64 0, .int .i64 0, .string ⟨#[]⟩, .int .i64 0, .int .i64 0, .int .i64 0, .int .i64 0, .int .i64 0, .int .i64 0, .int .i64 0, .int .i64 0] 25) := Lib.hid (by rw [hv]; exact ((RR.out.other HFR.out.symm _ _).other HFR.out.symm _ _))
    have C11 : Hid (Below w.heap.size w v10) := Lib.hid (by rw [hv]; exact ((CR.out.setCell (by exact HFw.out) _).setCell (by exact HFw.out) _))
    clear FR WR RR CR
    go_wp2_with fail
    rw [← hv]
    clear hv z10 y10 z11 y11
    have HT := Lib.hid (filReadBound b ⟨#[116, 111, 117, 103, 104]⟩ s11 v10 W11.out S11.out (by decide) C11.out (Nat.le_of_lt HBW.out) (fun W hW => HE.out W hW))
    have HTE : Hid (Fil.rBd ((⟨#[116, 111, 117, 103, 104]⟩ : ByteArray).data.toList) s11 = (x11, s12)) := Lib.hid G11.out
    rw [HTE.out] at HT
    clear HTE
    have FT := Lib.hid F11.out
    have RT := Lib.hid R11.out
    have CT := Lib.hid C11.out
    clear F11 R11 C11 W11
    refine HT.out.mono ?_
    rintro e r11 ⟨rfl, hw, hg⟩
    have kF := FT.out.grown hg HFb.out
    have FR := Lib.hid kF
    have RR := Lib.hid (RT.out.grown hg (Nat.ne_of_lt HBW.out))
    have CR := Lib.hid (CT.out.grown hg CT.out.size (fun j e => by injection e with e; rw [← e]; exact Nat.le_of_lt HBW.out))
    have WR : Hid (WAt r11 b s12) := Lib.hid hw
    have z12 := kF.free 12
    have y12 : r11.cell? ⟨F, 12, none⟩ = some (.int .i64 0) := kF.cell 12
    have z13 := kF.free 13
    have y13 : r11.cell? ⟨F, 13, none⟩ = some (.int .i64 0) := kF.cell 13
    clear hw hg kF FT RT CT HT
    obtain ⟨v11, hv⟩ : ∃ v, v = (r11.setCell ⟨F, 12, none⟩ (.int .i64 x11.kind)).setCell ⟨F, 13, none⟩ (.int .i64 x11.n) := ⟨_, rfl⟩
    have F12 : Hid (Blk v11 F #[.int .i64 (x0 : Int), .int .i64 (x1 : Int), .int .i64 (x2 : Int), .int .i64 (x3 : Int), .int .i64 (x4 : Int), .int .i64 (x5 : Int), .int .i64 (x6 : Int), .string xs, .int .i64 (x8 : Int), .int .i64 (x9 : Int), .int .i64 x10.kind, .int .i64 x10.n, .int .i64 x11.kind, .int .i64 x11.n, .int .i64 0, .int .i64 0] 25) := Lib.hid (by rw [hv]; exact ((FR.out.set 12 _).set 13 _))
    have W12 : Hid (WAt v11 b s12) := Lib.hid (by rw [hv]; exact (((show Blk _ b _ _ from WR.out).other HFb.out.symm _ _).other HFb.out.symm _ _))
    have R12 : Hid (Blk v11 w.heap.size #[.int .i64 0, .int .i64 0, .int .i64 0, .int .i64 0, .int .i64 0, .int .i64 0, .int .i64 0, .string ⟨#[]⟩, .int .i64 0, .int .i64 0, .int .i64 0, .int .i64 0, .int .i64 0, .int .i64 0, .int .i64 0, .int .i64 0] 25) := Lib.hid (by rw [hv]; exact ((RR.out.other HFR.out.symm _ _).other HFR.out.symm _ _))
    have C12 : Hid (Below w.heap.size w v11) := Lib.hid (by rw [hv]; exact ((CR.out.setCell (by exact HFw.out) _).setCell (by exact HFw.out) _))
    clear FR WR RR CR
    go_wp2_with fail
    rw [← hv]
    clear hv z12 y12 z13 y13
    have HT := Lib.hid (filReadBound b ⟨#[118, 97, 108, 117, 101]⟩ s12 v11 W12.out S12.out (by decide) C12.out (Nat.le_of_lt HBW.out) (fun W hW => HE.out W hW))
    have HTE : Hid (Fil.rBd ((⟨#[118, 97, 108, 117, 101]⟩ : ByteArray).data.toList) s12 = (x12, s13)) := Lib.hid G12.out
    rw [HTE.out] at HT
    clear HTE
    have FT := Lib.hid F12.out
    have RT := Lib.hid R12.out
    have CT := Lib.hid C12.out
    clear F12 R12 C12 W12
    refine HT.out.mono ?_
    rintro e r12 ⟨rfl, hw, hg⟩
    have kF := FT.out.grown hg HFb.out
    have FR := Lib.hid kF
    have RR := Lib.hid (RT.out.grown hg (Nat.ne_of_lt HBW.out))
    have CR := Lib.hid (CT.out.grown hg CT.out.size (fun j e => by injection e with e; rw [← e]; exact Nat.le_of_lt HBW.out))
    have WR : Hid (WAt r12 b s13) := Lib.hid hw
    have z14 := kF.free 14
    have y14 : r12.cell? ⟨F, 14, none⟩ = some (.int .i64 0) := kF.cell 14
    have z15 := kF.free 15
    have y15 : r12.cell? ⟨F, 15, none⟩ = some (.int .i64 0) := kF.cell 15
    clear hw hg kF FT RT CT HT
    obtain ⟨v12, hv⟩ : ∃ v, v = (r12.setCell ⟨F, 14, none⟩ (.int .i64 x12.kind)).setCell ⟨F, 15, none⟩ (.int .i64 x12.n) := ⟨_, rfl⟩
    have F13 : Hid (Blk v12 F #[.int .i64 (x0 : Int), .int .i64 (x1 : Int), .int .i64 (x2 : Int), .int .i64 (x3 : Int), .int .i64 (x4 : Int), .int .i64 (x5 : Int), .int .i64 (x6 : Int), .string xs, .int .i64 (x8 : Int), .int .i64 (x9 : Int), .int .i64 x10.kind, .int .i64 x10.n, .int .i64 x11.kind, .int .i64 x11.n, .int .i64 x12.kind, .int .i64 x12.n] 25) := Lib.hid (by rw [hv]; exact ((FR.out.set 14 _).set 15 _))
    have W13 : Hid (WAt v12 b s13) := Lib.hid (by rw [hv]; exact (((show Blk _ b _ _ from WR.out).other HFb.out.symm _ _).other HFb.out.symm _ _))
    have R13 : Hid (Blk v12 w.heap.size #[.int .i64 0, .int .i64 0, .int .i64 0, .int .i64 0, .int .i64 0, .int .i64 0, .int .i64 0, .string ⟨#[]⟩, .int .i64 0, .int .i64 0, .int .i64 0, .int .i64 0, .int .i64 0, .int .i64 0, .int .i64 0, .int .i64 0] 25) := Lib.hid (by rw [hv]; exact ((RR.out.other HFR.out.symm _ _).other HFR.out.symm _ _))
    have C13 : Hid (Below w.heap.size w v12) := Lib.hid (by rw [hv]; exact ((CR.out.setCell (by exact HFw.out) _).setCell (by exact HFw.out) _))
    clear FR WR RR CR
    have fr := R13.out
    have zr0 := fr.free 0
    have yr0 : v12.cell? ⟨w.heap.size, 0, none⟩ = some (.int .i64 0) := fr.cell 0
    have zr1 := fr.free 1
    have yr1 : v12.cell? ⟨w.heap.size, 1, none⟩ = some (.int .i64 0) := fr.cell 1
    have zr2 := fr.free 2
    have yr2 : v12.cell? ⟨w.heap.size, 2, none⟩ = some (.int .i64 0) := fr.cell 2
    have zr3 := fr.free 3
    have yr3 : v12.cell? ⟨w.heap.size, 3, none⟩ = some (.int .i64 0) := fr.cell 3
    have zr4 := fr.free 4
    have yr4 : v12.cell? ⟨w.heap.size, 4, none⟩ = some (.int .i64 0) := fr.cell 4
    have zr5 := fr.free 5
    have yr5 : v12.cell? ⟨w.heap.size, 5, none⟩ = some (.int .i64 0) := fr.cell 5
    have zr6 := fr.free 6
    have yr6 : v12.cell? ⟨w.heap.size, 6, none⟩ = some (.int .i64 0) := fr.cell 6
    have zr7 := fr.free 7
    have yr7 : v12.cell? ⟨w.heap.size, 7, none⟩ = some (.string ⟨#[]⟩) := fr.cell 7
    have zr8 := fr.free 8
    have yr8 : v12.cell? ⟨w.heap.size, 8, none⟩ = some (.int .i64 0) := fr.cell 8
    have zr9 := fr.free 9
    have yr9 : v12.cell? ⟨w.heap.size, 9, none⟩ = some (.int .i64 0) := fr.cell 9
    have zr10 := fr.free 10
    have yr10 : v12.cell? ⟨w.heap.size, 10, none⟩ = some (.int .i64 0) := fr.cell 10
    have zr11 := fr.free 11
    have yr11 : v12.cell? ⟨w.heap.size, 11, none⟩ = some (.int .i64 0) := fr.cell 11
    have zr12 := fr.free 12
    have yr12 : v12.cell? ⟨w.heap.size, 12, none⟩ = some (.int .i64 0) := fr.cell 12
    have zr13 := fr.free 13
    have yr13 : v12.cell? ⟨w.heap.size, 13, none⟩ = some (.int .i64 0) := fr.cell 13
    have zr14 := fr.free 14
    have yr14 : v12.cell? ⟨w.heap.size, 14, none⟩ = some (.int .i64 0) := fr.cell 14
    have zr15 := fr.free 15
    have yr15 : v12.cell? ⟨w.heap.size, 15, none⟩ = some (.int .i64 0) := fr.cell 15
    have ff := F13.out
    have yf0 : v12.cell? ⟨F, 0, none⟩ = some (.int .i64 (x0 : Int)) := ff.cell 0
    have yf1 : v12.cell? ⟨F, 1, none⟩ = some (.int .i64 (x1 : Int)) := ff.cell 1
    have yf2 : v12.cell? ⟨F, 2, none⟩ = some (.int .i64 (x2 : Int)) := ff.cell 2
    have yf3 : v12.cell? ⟨F, 3, none⟩ = some (.int .i64 (x3 : Int)) := ff.cell 3
    have yf4 : v12.cell? ⟨F, 4, none⟩ = some (.int .i64 (x4 : Int)) := ff.cell 4
    have yf5 : v12.cell? ⟨F, 5, none⟩ = some (.int .i64 (x5 : Int)) := ff.cell 5
    have yf6 : v12.cell? ⟨F, 6, none⟩ = some (.int .i64 (x6 : Int)) := ff.cell 6
    have yf7 : v12.cell? ⟨F, 7, none⟩ = some (.string xs) := ff.cell 7
    have yf8 : v12.cell? ⟨F, 8, none⟩ = some (.int .i64 (x8 : Int)) := ff.cell 8
    have yf9 : v12.cell? ⟨F, 9, none⟩ = some (.int .i64 (x9 : Int)) := ff.cell 9
    have yf10 : v12.cell? ⟨F, 10, none⟩ = some (.int .i64 x10.kind) := ff.cell 10
    have yf11 : v12.cell? ⟨F, 11, none⟩ = some (.int .i64 x10.n) := ff.cell 11
    have yf12 : v12.cell? ⟨F, 12, none⟩ = some (.int .i64 x11.kind) := ff.cell 12
    have yf13 : v12.cell? ⟨F, 13, none⟩ = some (.int .i64 x11.n) := ff.cell 13
    have yf14 : v12.cell? ⟨F, 14, none⟩ = some (.int .i64 x12.kind) := ff.cell 14
    have yf15 : v12.cell? ⟨F, 15, none⟩ = some (.int .i64 x12.n) := ff.cell 15
    clear fr ff
    rw [hv] at zr0 yr0 yf0 zr1 yr1 yf1 zr2 yr2 yf2 zr3 yr3 yf3 zr4 yr4 yf4 zr5 yr5 yf5 zr6 yr6 yf6 zr7 yr7 yf7 zr8 yr8 yf8 zr9 yr9 yf9 zr10 yr10 yf10 zr11 yr11 yf11 zr12 yr12 yf12 zr13 yr13 yf13 zr14 yr14 yf14 zr15 yr15 yf15
    go_wp2_with fail
    rw [← hv]
    clear zr0 yr0 yf0 zr1 yr1 yf1 zr2 yr2 yf2 zr3 yr3 yf3 zr4 yr4 yf4 zr5 yr5 yf5 zr6 yr6 yf6 zr7 yr7 yf7 zr8 yr8 yf8 zr9 yr9 yf9 zr10 yr10 yf10 zr11 yr11 yf11 zr12 yr12 yf12 zr13 yr13 yf13 zr14 yr14 yf14 zr15 yr15 yf15
    change bodyPost _ _ _ _ _ (set16 v12 w.heap.size ⟨x0, x1, x2, x3, x4, x5, x6, x7, x8, x9, x10, x11, x12⟩ xs)
    have hB : Blk (set16 v12 w.heap.size ⟨x0, x1, x2, x3, x4, x5, x6, x7, x8, x9, x10, x11, x12⟩ xs) w.heap.size #[.int .i64 (x0 : Int), .int .i64 (x1 : Int), .int .i64 (x2 : Int), .int .i64 (x3 : Int), .int .i64 (x4 : Int), .int .i64 (x5 : Int), .int .i64 (x6 : Int), .string xs, .int .i64 (x8 : Int), .int .i64 (x9 : Int), .int .i64 x10.kind, .int .i64 x10.n, .int .i64 x11.kind, .int .i64 x11.n, .int .i64 x12.kind, .int .i64 x12.n] 25 := Blk.set16 (a := Fil.zeroA) (fs := ⟨#[]⟩) R13.out ⟨x0, x1, x2, x3, x4, x5, x6, x7, x8, x9, x10, x11, x12⟩ xs
    have hBel : Hid (Below w.heap.size w (set16 v12 w.heap.size ⟨x0, x1, x2, x3, x4, x5, x6, x7, x8, x9, x10, x11, x12⟩ xs)) := Lib.hid (below16 C13.out (Nat.le_refl _))
    generalize set16 v12 w.heap.size ⟨x0, x1, x2, x3, x4, x5, x6, x7, x8, x9, x10, x11, x12⟩ xs = wf at hB hBel ⊢
    have q0 : wf.cell? ⟨w.heap.size, 0, none⟩ = some (.int .i64 (x0 : Int)) := hB.cell 0
    have q1 : wf.cell? ⟨w.heap.size, 1, none⟩ = some (.int .i64 (x1 : Int)) := hB.cell 1
    have q2 : wf.cell? ⟨w.heap.size, 2, none⟩ = some (.int .i64 (x2 : Int)) := hB.cell 2
    have q3 : wf.cell? ⟨w.heap.size, 3, none⟩ = some (.int .i64 (x3 : Int)) := hB.cell 3
    have q4 : wf.cell? ⟨w.heap.size, 4, none⟩ = some (.int .i64 (x4 : Int)) := hB.cell 4
    have q5 : wf.cell? ⟨w.heap.size, 5, none⟩ = some (.int .i64 (x5 : Int)) := hB.cell 5
    have q6 : wf.cell? ⟨w.heap.size, 6, none⟩ = some (.int .i64 (x6 : Int)) := hB.cell 6
    have q7 : wf.cell? ⟨w.heap.size, 7, none⟩ = some (.string xs) := hB.cell 7
    have q8 : wf.cell? ⟨w.heap.size, 8, none⟩ = some (.int .i64 (x8 : Int)) := hB.cell 8
    have q9 : wf.cell? ⟨w.heap.size, 9, none⟩ = some (.int .i64 (x9 : Int)) := hB.cell 9
    have q10 : wf.cell? ⟨w.heap.size, 10, none⟩ = some (.int .i64 x10.kind) := hB.cell 10
    have q11 : wf.cell? ⟨w.heap.size, 11, none⟩ = some (.int .i64 x10.n) := hB.cell 11
    have q12 : wf.cell? ⟨w.heap.size, 12, none⟩ = some (.int .i64 x11.kind) := hB.cell 12
    have q13 : wf.cell? ⟨w.heap.size, 13, none⟩ = some (.int .i64 x11.n) := hB.cell 13
    have q14 : wf.cell? ⟨w.heap.size, 14, none⟩ = some (.int .i64 x12.kind) := hB.cell 14
    have q15 : wf.cell? ⟨w.heap.size, 15, none⟩ = some (.int .i64 x12.n) := hB.cell 15
    exact bodyPost_ret (v := .agg #[.int .i64 (x0 : Int), .int .i64 (x1 : Int), .int .i64 (x2 : Int), .int .i64 (x3 : Int), .int .i64 (x4 : Int), .int .i64 (x5 : Int), .int .i64 (x6 : Int), .string xs, .int .i64 (x8 : Int), .int .i64 (x9 : Int), .int .i64 x10.kind, .int .i64 x10.n, .int .i64 x11.kind, .int .i64 x11.n, .int .i64 x12.kind, .int .i64 x12.n]) (by simp [results, Tryz.results133, go_sem, q0, q1, q2, q3, q4, q5, q6, q7, q8, q9, q10, q11, q12, q13, q14, q15]) rfl ⟨rfl, hBel.out⟩
end Go.Proofs.YtkohfomiigcifaaGreatDoor
