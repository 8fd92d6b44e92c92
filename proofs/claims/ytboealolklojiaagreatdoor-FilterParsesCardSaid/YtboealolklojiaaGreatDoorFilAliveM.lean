/-
  MERGED: FilAliveA, FilAlive, FilHand, FilLit. By an AI agent.
-/
import Derived.Test.YtboealolklojiaaGreatDoorFilParseM
import Derived.Test.YtboealolklojiaaGreatDoorFilEq
import Derived.Deep.Cut
import Derived.Test.YtboealolklojiaaGreatDoorFilKit
import Derived.Test.YtboealolklojiaaGreatDoorHand
namespace Go.Proofs.YtboealolklojiaaGreatDoor
open Go.RowKit
open Wd (Bs)

def aliveA : Fil.Acc := ⟨0, 1, 2, 1, 0, 0, 0, [], 1, 0, ⟨1, 3⟩, Fil.zeroB, Fil.zeroB⟩
def aliveS : Bs := [121, 111, 117, 114, 115, 32, 111, 116, 104, 101, 114, 32, 99, 114, 101, 97, 116, 117, 114, 101, 32, 119, 105, 116, 104, 58, 102, 108, 121, 105, 110, 103, 32, 112, 111, 119, 101, 114, 62, 61, 51]
def aliveS2 : Bs := [99, 114, 101, 97, 116, 117, 114, 101, 32, 121, 111, 117, 114, 115]
def oneA : Fil.Acc := ⟨0, 0, 0, 1, 0, 0, 0, [], 0, 0, Fil.zeroB, Fil.zeroB, Fil.zeroB⟩
theorem sub_nil : Fil.subB [] = true := by unfold Fil.subB; simp
theorem valid_alive : Fil.validB aliveA.flt = true := by
  unfold Fil.validB
  rw [show Fil.subB aliveA.flt.sub = true from sub_nil]
  decide +kernel
theorem valid_zero : Fil.validB Fil.zero = true := by
  unfold Fil.validB
  rw [show Fil.subB Fil.zero.sub = true from sub_nil]
  decide +kernel
theorem valid_one : Fil.validB oneA.flt = true := by
  unfold Fil.validB
  rw [show Fil.subB oneA.flt.sub = true from sub_nil]
  decide +kernel
theorem text_alive : Fil.textF aliveA.flt = aliveS := by
  rw [Fil.textF_valid valid_alive]
  decide +kernel
theorem text_zero : Fil.textF Fil.zero = Fil.sAny := by
  rw [Fil.textF_valid valid_zero]
  decide +kernel
theorem text_one : Fil.textF oneA.flt ≠ aliveS2 := by
  rw [Fil.textF_valid valid_one]
  decide +kernel
theorem read_bad : Fil.readP aliveS2 = oneA.flt := by decide +kernel
theorem parse_bad : Fil.parseV aliveS2 = Fil.zero ∧ Fil.parseE aliveS2 = 3 := Fil.parse_no fun h => by
  have := h.2
  rw [read_bad] at this
  exact text_one this
theorem acc_inj {a b : Fil.Acc} (h : a.flt = b.flt) : a = b := by
  cases a; cases b
  simp only [Fil.Acc.flt, Fil.Flt.mk.injEq] at h
  obtain ⟨h0, h1, h2, h3, h4, h5, h6, h7, h8, h9, h10, h11, h12⟩ := h
  rw [Fil.Acc.mk.injEq]
  exact ⟨by omega, by omega, by omega, by omega, by omega, by omega, by omega, h7, by omega, by omega, h10, h11, h12⟩
theorem bytes_none {s : ByteArray} (h : s.data.toList = []) : s = ⟨#[]⟩ := by
  cases s with | mk a => cases a with | mk l => simp at h; rw [h]
/-- Parse at a text whose filter is known -/
theorem parseAt (s : ByteArray) (q : Fil.Acc) (hq : Fil.validB q.flt = true) (ht : Fil.textF q.flt = s.data.toList) (hn : q.sub = []) (hs : s.size ≤ 1000000) (W : World) (hE : Env W) :
    Calls Tryz.prog 11 #[.string s] W fun e w' => e = .returned (.tuple #[.agg #[.int .i64 (q.zone : Int), .int .i64 (q.who : Int), .int .i64 (q.self : Int), .int .i64 (q.types : Int), .int .i64 (q.ntypes : Int), .int .i64 (q.colors : Int), .int .i64 (q.ncolors : Int), .string ⟨#[]⟩, .int .i64 (q.keys : Int), .int .i64 (q.tap : Int), .int .i64 q.pow.kind, .int .i64 q.pow.n, .int .i64 q.tough.kind, .int .i64 q.tough.n, .int .i64 q.val.kind, .int .i64 q.val.n], .int .i64 0]) ∧ Below W.heap.size W w' :=
  (filParse s W hs hE).mono fun e w' h => by
    have hp := Fil.parse_text hq
    rw [ht] at hp
    rcases h with ⟨a, fs, h1, h2, _, _, h5, h6, h7⟩ | ⟨h1, h2, _, _⟩
    · obtain rfl : q = a := acc_inj (hp.1.symm.trans h1)
      obtain rfl : fs = ⟨#[]⟩ := bytes_none (h5.symm.trans hn)
      exact ⟨h6, h7⟩
    · rw [hp.2] at h2; cases h2
theorem parseNone (s : ByteArray) (he : Fil.parseE s.data.toList = 3) (hs : s.size ≤ 1000000) (W : World) (hE : Env W) :
    Calls Tryz.prog 11 #[.string s] W fun e w' => e = .returned (.tuple #[.agg #[.int .i64 0, .int .i64 0, .int .i64 0, .int .i64 0, .int .i64 0, .int .i64 0, .int .i64 0, .string ⟨#[]⟩, .int .i64 0, .int .i64 0, .int .i64 0, .int .i64 0, .int .i64 0, .int .i64 0, .int .i64 0, .int .i64 0], .int .i64 3]) ∧ Below W.heap.size W w' :=
  (filParse s W hs hE).mono fun e w' h => by
    rcases h with ⟨_, _, _, h2, _⟩ | ⟨_, _, h3, h4⟩
    · rw [he] at h2; cases h2
    · exact ⟨h3, h4⟩
theorem aliveP1 (W : World) (hE : Env W) : Calls Tryz.prog 11 #[.string ⟨#[121, 111, 117, 114, 115, 32, 111, 116, 104, 101, 114, 32, 99, 114, 101, 97, 116, 117, 114, 101, 32, 119, 105, 116, 104, 58, 102, 108, 121, 105, 110, 103, 32, 112, 111, 119, 101, 114, 62, 61, 51]⟩] W fun e w' => e = .returned (.tuple #[.agg #[.int .i64 0, .int .i64 1, .int .i64 2, .int .i64 1, .int .i64 0, .int .i64 0, .int .i64 0, .string ⟨#[]⟩, .int .i64 1, .int .i64 0, .int .i64 1, .int .i64 3, .int .i64 0, .int .i64 0, .int .i64 0, .int .i64 0], .int .i64 0]) ∧ Below W.heap.size W w' :=
  parseAt ⟨#[121, 111, 117, 114, 115, 32, 111, 116, 104, 101, 114, 32, 99, 114, 101, 97, 116, 117, 114, 101, 32, 119, 105, 116, 104, 58, 102, 108, 121, 105, 110, 103, 32, 112, 111, 119, 101, 114, 62, 61, 51]⟩ aliveA valid_alive text_alive rfl (by decide) W hE
theorem aliveP2 (W : World) (hE : Env W) : Calls Tryz.prog 11 #[.string ⟨#[97, 110, 121]⟩] W fun e w' => e = .returned (.tuple #[.agg #[.int .i64 0, .int .i64 0, .int .i64 0, .int .i64 0, .int .i64 0, .int .i64 0, .int .i64 0, .string ⟨#[]⟩, .int .i64 0, .int .i64 0, .int .i64 0, .int .i64 0, .int .i64 0, .int .i64 0, .int .i64 0, .int .i64 0], .int .i64 0]) ∧ Below W.heap.size W w' :=
  parseAt ⟨#[97, 110, 121]⟩ Fil.zeroA valid_zero text_zero rfl (by decide) W hE
theorem aliveP3 (W : World) (hE : Env W) : Calls Tryz.prog 11 #[.string ⟨#[99, 114, 101, 97, 116, 117, 114, 101, 32, 121, 111, 117, 114, 115]⟩] W fun e w' => e = .returned (.tuple #[.agg #[.int .i64 0, .int .i64 0, .int .i64 0, .int .i64 0, .int .i64 0, .int .i64 0, .int .i64 0, .string ⟨#[]⟩, .int .i64 0, .int .i64 0, .int .i64 0, .int .i64 0, .int .i64 0, .int .i64 0, .int .i64 0, .int .i64 0], .int .i64 3]) ∧ Below W.heap.size W w' :=
  parseNone ⟨#[99, 114, 101, 97, 116, 117, 114, 101, 32, 121, 111, 117, 114, 115]⟩ parse_bad.2 (by decide) W hE
theorem aliveTx (W : World) (hE : Env W) : Calls Tryz.prog 9 #[.agg #[.int .i64 0, .int .i64 1, .int .i64 2, .int .i64 1, .int .i64 0, .int .i64 0, .int .i64 0, .string ⟨#[]⟩, .int .i64 1, .int .i64 0, .int .i64 1, .int .i64 3, .int .i64 0, .int .i64 0, .int .i64 0, .int .i64 0]] W fun e w' => e = .returned (.string ⟨#[121, 111, 117, 114, 115, 32, 111, 116, 104, 101, 114, 32, 99, 114, 101, 97, 116, 117, 114, 101, 32, 119, 105, 116, 104, 58, 102, 108, 121, 105, 110, 103, 32, 112, 111, 119, 101, 114, 62, 61, 51]⟩) ∧ Below W.heap.size W w' := by
  have h := filText aliveA.flt ⟨#[]⟩ rfl (by decide) W hE
  rw [text_alive] at h
  exact h
theorem aliveIs (W : World) (hE : Env W) : Calls Tryz.prog 7 #[.agg #[.int .i64 0, .int .i64 0, .int .i64 0, .int .i64 0, .int .i64 0, .int .i64 0, .int .i64 0, .string ⟨#[]⟩, .int .i64 0, .int .i64 3, .int .i64 0, .int .i64 0, .int .i64 0, .int .i64 0, .int .i64 0, .int .i64 0]] W fun e w' => e = .returned (.bool false) ∧ Below W.heap.size W w' := by
  have h := filIs ⟨0, 0, 0, 0, 0, 0, 0, [], 0, 3, Fil.zeroB, Fil.zeroB, Fil.zeroB⟩ ⟨#[]⟩ rfl (by decide) W hE
  have hv : Fil.validB ⟨0, 0, 0, 0, 0, 0, 0, [], 0, 3, Fil.zeroB, Fil.zeroB, Fil.zeroB⟩ = false := by
    unfold Fil.validB
    rw [show Fil.subB (⟨0, 0, 0, 0, 0, 0, 0, [], 0, 3, Fil.zeroB, Fil.zeroB, Fil.zeroB⟩ : Fil.Flt).sub = true from sub_nil]
    decide +kernel
  rw [hv] at h
  exact h
end Go.Proofs.YtboealolklojiaaGreatDoor
namespace Go.Proofs.YtboealolklojiaaGreatDoor
open Go.RowKit
open Wd (Bs)

set_option maxHeartbeats 16000000 in
set_option maxRecDepth 100000 in
theorem filAlive (w : World) (hE : Env w) : Calls Tryz.prog 6 #[] w fun e w' => e = .returned (.bool true) ∧ Below w.heap.size w w' := by
  have HE := Lib.hid (fun (W : World) (hb : Below w.heap.size w W) => hE.below hb)
  have Q1 : Hid (∀ W : World, (Op.equalIn 10000 23 (.agg #[.int .i64 1, .int .i64 3]) (.agg #[.int .i64 1, .int .i64 3])).run Tryz.prog W = .ok true W) := Lib.hid (fun W => run_eq_bd 9998 ⟨1, 3⟩ ⟨1, 3⟩ W)
  have q2 : ∀ W : World, (Op.equalIn 10000 25 (.agg #[.int .i64 0, .int .i64 0, .int .i64 0, .int .i64 0, .int .i64 0, .int .i64 0, .int .i64 0, .string ⟨#[]⟩, .int .i64 0, .int .i64 0, .int .i64 0, .int .i64 0, .int .i64 0, .int .i64 0, .int .i64 0, .int .i64 0]) (.agg #[.int .i64 0, .int .i64 0, .int .i64 0, .int .i64 0, .int .i64 0, .int .i64 0, .int .i64 0, .string ⟨#[]⟩, .int .i64 0, .int .i64 0, .int .i64 0, .int .i64 0, .int .i64 0, .int .i64 0, .int .i64 0, .int .i64 0])).run Tryz.prog W = .ok true W := fun W => run_eq_flt Fil.zero Fil.zero ⟨#[]⟩ ⟨#[]⟩ rfl rfl W
  clear hE
  go_enter Tryz.func6, Tryz.ntmps6
  go_wp2_with fail
  refine (aliveP1 _ (HE.out _ (Below.refl _ _))).mono ?_
  rintro e w1 ⟨rfl, hb1⟩
  have B1 : Hid (Below w.heap.size w (w1.alloc (.cells #[.int .i64 0, .int .i64 1, .int .i64 2, .int .i64 1, .int .i64 0, .int .i64 0, .int .i64 0, .string ⟨#[]⟩, .int .i64 1, .int .i64 0, .int .i64 1, .int .i64 3, .int .i64 0, .int .i64 0, .int .i64 0, .int .i64 0] 25))) := Lib.hid (hb1.trans ((Below.refl _ _).alloc hb1.size _))
  have K1 : Hid (Blk (w1.alloc (.cells #[.int .i64 0, .int .i64 1, .int .i64 2, .int .i64 1, .int .i64 0, .int .i64 0, .int .i64 0, .string ⟨#[]⟩, .int .i64 1, .int .i64 0, .int .i64 1, .int .i64 3, .int .i64 0, .int .i64 0, .int .i64 0, .int .i64 0] 25)) w1.heap.size #[.int .i64 0, .int .i64 1, .int .i64 2, .int .i64 1, .int .i64 0, .int .i64 0, .int .i64 0, .string ⟨#[]⟩, .int .i64 1, .int .i64 0, .int .i64 1, .int .i64 3, .int .i64 0, .int .i64 0, .int .i64 0, .int .i64 0] 25) := Lib.hid (Blk.new w1 _ _)
  clear hb1
  go_upto_region 3 with fail
  obtain ⟨w2, hw2⟩ : ∃ w2, w2 = w1.alloc (.cells #[.int .i64 0, .int .i64 1, .int .i64 2, .int .i64 1, .int .i64 0, .int .i64 0, .int .i64 0, .string ⟨#[]⟩, .int .i64 1, .int .i64 0, .int .i64 1, .int .i64 3, .int .i64 0, .int .i64 0, .int .i64 0, .int .i64 0] 25) := ⟨_, rfl⟩
  obtain ⟨F1, hF1⟩ : ∃ F1, F1 = w1.heap.size := ⟨_, rfl⟩
  rw [← hw2] at B1 K1 ⊢
  rw [← hF1] at K1 ⊢
  clear hw2 hF1
  generalize Value.agg #[.int .i64 0, .int .i64 1, .int .i64 2, .int .i64 1, .int .i64 0, .int .i64 0, .int .i64 0, .string ⟨#[]⟩, .int .i64 1, .int .i64 0, .int .i64 1, .int .i64 3, .int .i64 0, .int .i64 0, .int .i64 0, .int .i64 0] = vA
  go_wp2_with fail
  refine (aliveP2 _ (HE.out _ B1.out)).mono ?_
  rintro e w3 ⟨rfl, hb3⟩
  have B3 : Hid (Below w.heap.size w (w3.alloc (.cells #[.int .i64 0, .int .i64 0, .int .i64 0, .int .i64 0, .int .i64 0, .int .i64 0, .int .i64 0, .string ⟨#[]⟩, .int .i64 0, .int .i64 0, .int .i64 0, .int .i64 0, .int .i64 0, .int .i64 0, .int .i64 0, .int .i64 0] 25))) := Lib.hid ((B1.out.trans (hb3.mono B1.out.size)).trans ((Below.refl _ _).alloc (Nat.le_trans B1.out.size hb3.size) _))
  have K3 : Hid (Blk (w3.alloc (.cells #[.int .i64 0, .int .i64 0, .int .i64 0, .int .i64 0, .int .i64 0, .int .i64 0, .int .i64 0, .string ⟨#[]⟩, .int .i64 0, .int .i64 0, .int .i64 0, .int .i64 0, .int .i64 0, .int .i64 0, .int .i64 0, .int .i64 0] 25)) w3.heap.size #[.int .i64 0, .int .i64 0, .int .i64 0, .int .i64 0, .int .i64 0, .int .i64 0, .int .i64 0, .string ⟨#[]⟩, .int .i64 0, .int .i64 0, .int .i64 0, .int .i64 0, .int .i64 0, .int .i64 0, .int .i64 0, .int .i64 0] 25) := Lib.hid (Blk.new w3 _ _)
  have J3 : Hid (Blk (w3.alloc (.cells #[.int .i64 0, .int .i64 0, .int .i64 0, .int .i64 0, .int .i64 0, .int .i64 0, .int .i64 0, .string ⟨#[]⟩, .int .i64 0, .int .i64 0, .int .i64 0, .int .i64 0, .int .i64 0, .int .i64 0, .int .i64 0, .int .i64 0] 25)) F1 #[.int .i64 0, .int .i64 1, .int .i64 2, .int .i64 1, .int .i64 0, .int .i64 0, .int .i64 0, .string ⟨#[]⟩, .int .i64 1, .int .i64 0, .int .i64 1, .int .i64 3, .int .i64 0, .int .i64 0, .int .i64 0, .int .i64 0] 25) := Lib.hid ((K1.out.below hb3 K1.out.lt).alloc _)
  clear hb3 K1 B1
  go_upto_region 4 with fail
  obtain ⟨w4, hw4⟩ : ∃ w4, w4 = w3.alloc (.cells #[.int .i64 0, .int .i64 0, .int .i64 0, .int .i64 0, .int .i64 0, .int .i64 0, .int .i64 0, .string ⟨#[]⟩, .int .i64 0, .int .i64 0, .int .i64 0, .int .i64 0, .int .i64 0, .int .i64 0, .int .i64 0, .int .i64 0] 25) := ⟨_, rfl⟩
  obtain ⟨F2, hF2⟩ : ∃ F2, F2 = w3.heap.size := ⟨_, rfl⟩
  rw [← hw4] at B3 K3 J3 ⊢
  rw [← hF2] at K3 ⊢
  clear hw4 hF2
  generalize Value.agg #[.int .i64 0, .int .i64 0, .int .i64 0, .int .i64 0, .int .i64 0, .int .i64 0, .int .i64 0, .string ⟨#[]⟩, .int .i64 0, .int .i64 0, .int .i64 0, .int .i64 0, .int .i64 0, .int .i64 0, .int .i64 0, .int .i64 0] = vB
  go_wp2_with fail
  refine (aliveP3 _ (HE.out _ B3.out)).mono ?_
  rintro e w5 ⟨rfl, hb5⟩
  have B5 : Hid (Below w.heap.size w (w5.alloc (.cells #[.int .i64 0, .int .i64 0, .int .i64 0, .int .i64 0, .int .i64 0, .int .i64 0, .int .i64 0, .string ⟨#[]⟩, .int .i64 0, .int .i64 0, .int .i64 0, .int .i64 0, .int .i64 0, .int .i64 0, .int .i64 0, .int .i64 0] 25))) := Lib.hid ((B3.out.trans (hb5.mono B3.out.size)).trans ((Below.refl _ _).alloc (Nat.le_trans B3.out.size hb5.size) _))
  have K5 : Hid (Blk (w5.alloc (.cells #[.int .i64 0, .int .i64 0, .int .i64 0, .int .i64 0, .int .i64 0, .int .i64 0, .int .i64 0, .string ⟨#[]⟩, .int .i64 0, .int .i64 0, .int .i64 0, .int .i64 0, .int .i64 0, .int .i64 0, .int .i64 0, .int .i64 0] 25)) F2 #[.int .i64 0, .int .i64 0, .int .i64 0, .int .i64 0, .int .i64 0, .int .i64 0, .int .i64 0, .string ⟨#[]⟩, .int .i64 0, .int .i64 0, .int .i64 0, .int .i64 0, .int .i64 0, .int .i64 0, .int .i64 0, .int .i64 0] 25) := Lib.hid ((K3.out.below hb5 K3.out.lt).alloc _)
  have J5 : Hid (Blk (w5.alloc (.cells #[.int .i64 0, .int .i64 0, .int .i64 0, .int .i64 0, .int .i64 0, .int .i64 0, .int .i64 0, .string ⟨#[]⟩, .int .i64 0, .int .i64 0, .int .i64 0, .int .i64 0, .int .i64 0, .int .i64 0, .int .i64 0, .int .i64 0] 25)) F1 #[.int .i64 0, .int .i64 1, .int .i64 2, .int .i64 1, .int .i64 0, .int .i64 0, .int .i64 0, .string ⟨#[]⟩, .int .i64 1, .int .i64 0, .int .i64 1, .int .i64 3, .int .i64 0, .int .i64 0, .int .i64 0, .int .i64 0] 25) := Lib.hid ((J3.out.below hb5 J3.out.lt).alloc _)
  clear hb5 K3 B3 J3
  go_upto_region 5 with fail
  obtain ⟨w6, hw6⟩ : ∃ w6, w6 = w5.alloc (.cells #[.int .i64 0, .int .i64 0, .int .i64 0, .int .i64 0, .int .i64 0, .int .i64 0, .int .i64 0, .string ⟨#[]⟩, .int .i64 0, .int .i64 0, .int .i64 0, .int .i64 0, .int .i64 0, .int .i64 0, .int .i64 0, .int .i64 0] 25) := ⟨_, rfl⟩
  obtain ⟨F3, hF3⟩ : ∃ F3, F3 = w5.heap.size := ⟨_, rfl⟩
  rw [← hw6] at B5 K5 J5 ⊢
  rw [← hF3]
  clear hw6 hF3
  generalize Value.agg #[.int .i64 0, .int .i64 0, .int .i64 0, .int .i64 0, .int .i64 0, .int .i64 0, .int .i64 0, .string ⟨#[]⟩, .int .i64 0, .int .i64 0, .int .i64 0, .int .i64 0, .int .i64 0, .int .i64 0, .int .i64 0, .int .i64 0] = vC
  have y0 : w6.cell? ⟨F1, 0, none⟩ = some (.int .i64 0) := J5.out.cell 0
  have y1 : w6.cell? ⟨F1, 1, none⟩ = some (.int .i64 1) := J5.out.cell 1
  have y2 : w6.cell? ⟨F1, 2, none⟩ = some (.int .i64 2) := J5.out.cell 2
  have y3 : w6.cell? ⟨F1, 3, none⟩ = some (.int .i64 1) := J5.out.cell 3
  have y4 : w6.cell? ⟨F1, 4, none⟩ = some (.int .i64 0) := J5.out.cell 4
  have y5 : w6.cell? ⟨F1, 5, none⟩ = some (.int .i64 0) := J5.out.cell 5
  have y6 : w6.cell? ⟨F1, 6, none⟩ = some (.int .i64 0) := J5.out.cell 6
  have y7 : w6.cell? ⟨F1, 7, none⟩ = some (.string ⟨#[]⟩) := J5.out.cell 7
  have y8 : w6.cell? ⟨F1, 8, none⟩ = some (.int .i64 1) := J5.out.cell 8
  have y9 : w6.cell? ⟨F1, 9, none⟩ = some (.int .i64 0) := J5.out.cell 9
  have y10 : w6.cell? ⟨F1, 10, none⟩ = some (.int .i64 1) := J5.out.cell 10
  have y11 : w6.cell? ⟨F1, 11, none⟩ = some (.int .i64 3) := J5.out.cell 11
  have y12 : w6.cell? ⟨F1, 12, none⟩ = some (.int .i64 0) := J5.out.cell 12
  have y13 : w6.cell? ⟨F1, 13, none⟩ = some (.int .i64 0) := J5.out.cell 13
  have y14 : w6.cell? ⟨F1, 14, none⟩ = some (.int .i64 0) := J5.out.cell 14
  have y15 : w6.cell? ⟨F1, 15, none⟩ = some (.int .i64 0) := J5.out.cell 15
  go_wp2_with fail
  clear y0 y1 y2 y3 y4 y5 y6 y7 y8 y9 y10 y11 y12 y13 y14 y15
  refine (aliveTx _ (HE.out _ B5.out)).mono ?_
  rintro e w7 ⟨rfl, hb7⟩
  have B7 := Lib.hid (B5.out.trans (hb7.mono B5.out.size))
  have K7 := K5.out.below hb7 K5.out.lt
  have J7 := J5.out.below hb7 J5.out.lt
  have x1 : w7.cell? ⟨F1, 1, none⟩ = some (.int .i64 1) := J7.cell 1
  have x2 : w7.cell? ⟨F1, 2, none⟩ = some (.int .i64 2) := J7.cell 2
  have x3 : w7.cell? ⟨F1, 3, none⟩ = some (.int .i64 1) := J7.cell 3
  have x8 : w7.cell? ⟨F1, 8, none⟩ = some (.int .i64 1) := J7.cell 8
  have x10 : w7.cell? ⟨F1, 10, none⟩ = some (.int .i64 1) := J7.cell 10
  have x11 : w7.cell? ⟨F1, 11, none⟩ = some (.int .i64 3) := J7.cell 11
  have y0 : w7.cell? ⟨F2, 0, none⟩ = some (.int .i64 0) := K7.cell 0
  have y1 : w7.cell? ⟨F2, 1, none⟩ = some (.int .i64 0) := K7.cell 1
  have y2 : w7.cell? ⟨F2, 2, none⟩ = some (.int .i64 0) := K7.cell 2
  have y3 : w7.cell? ⟨F2, 3, none⟩ = some (.int .i64 0) := K7.cell 3
  have y4 : w7.cell? ⟨F2, 4, none⟩ = some (.int .i64 0) := K7.cell 4
  have y5 : w7.cell? ⟨F2, 5, none⟩ = some (.int .i64 0) := K7.cell 5
  have y6 : w7.cell? ⟨F2, 6, none⟩ = some (.int .i64 0) := K7.cell 6
  have y7 : w7.cell? ⟨F2, 7, none⟩ = some (.string ⟨#[]⟩) := K7.cell 7
  have y8 : w7.cell? ⟨F2, 8, none⟩ = some (.int .i64 0) := K7.cell 8
  have y9 : w7.cell? ⟨F2, 9, none⟩ = some (.int .i64 0) := K7.cell 9
  have y10 : w7.cell? ⟨F2, 10, none⟩ = some (.int .i64 0) := K7.cell 10
  have y11 : w7.cell? ⟨F2, 11, none⟩ = some (.int .i64 0) := K7.cell 11
  have y12 : w7.cell? ⟨F2, 12, none⟩ = some (.int .i64 0) := K7.cell 12
  have y13 : w7.cell? ⟨F2, 13, none⟩ = some (.int .i64 0) := K7.cell 13
  have y14 : w7.cell? ⟨F2, 14, none⟩ = some (.int .i64 0) := K7.cell 14
  have y15 : w7.cell? ⟨F2, 15, none⟩ = some (.int .i64 0) := K7.cell 15
  have q1 := Q1.out
  clear hb7 K7 J7 K5 J5 B5
  try generalize Value.agg #[.int .i64 0, .int .i64 1, .int .i64 2, .int .i64 1, .int .i64 0, .int .i64 0, .int .i64 0, .string ⟨#[]⟩, .int .i64 1, .int .i64 0, .int .i64 1, .int .i64 3, .int .i64 0, .int .i64 0, .int .i64 0, .int .i64 0] = vD
  go_wp2_with fail
  refine (aliveIs _ (HE.out _ B7.out)).mono ?_
  rintro e w8 ⟨rfl, hb8⟩
  have B8 := Lib.hid (B7.out.trans (hb8.mono B7.out.size))
  clear hb8 y0 y1 y2 y3 y4 y5 y6 y7 y8 y9 y10 y11 y12 y13 y14 y15 x1 x2 x3 x8 x10 x11
  go_wp2_with fail
  go_ret
  exact ⟨rfl, B8.out⟩
end Go.Proofs.YtboealolklojiaaGreatDoor
namespace Go.Proofs.YtboealolklojiaaGreatDoor
open Go.RowKit

section
variable {ops : Array Oper} {Q : Exit → Act → World → Prop} {md : Region.Mode} {S : World → Prop}
theorem take_loadF (i : Nat) (d : Option Tmp) {oi : Oper} {fuel : Nat} {listed : Array Bool} {a : Act} {w : World} (hi : ops[i]? = some oi) (hd : oi.dst = d)
    (hs : Region.noSelect ops = true) (hf : Region.free md ops listed i = true) (hr : (Region.ready md ops listed).contains i = true)
    {b : Nat} {cs : Array Value} (hQ : ∀ c a w, Q (.panic c) (a.put d (.agg cs)) w → Q (.panic c) a w) (hw : Region.wanted oi (yielded ops a.tmps) = true) (x : Operand) (ho : oi.op = .load 25 x)
    (hx : a.eval x = .pointer (some ⟨b, 0, none⟩)) (hk : ∀ w, S w → Blk w b cs 25) (hn : cs.size = 16) (hS : S w)
    (h : wpAnyH Tryz.prog md ops Q S fuel (listed.setIfInBounds i true) (a.put d (.agg cs)) w) : wpAnyH Tryz.prog md ops Q S (fuel + 1) listed a w :=
  take_run i d hi hd hs hf hr hQ hw (fun w' h' => by
    unfold execOp
    have hl := run_loadVar_mid (P := Tryz.prog) w' b 0 25 cs.toList _ (hk w' h').range Tryz.underlying25 rfl (by rw [sizeTF]; simp [hn])
    simp only [ho, hx, Instr.loadAt, Instr.sureAddr, Sem.run_bind, Sem.run_pure, Result.andThen_ok, hl]) hS h
end
end Go.Proofs.YtboealolklojiaaGreatDoor
namespace Go.Proofs.YtboealolklojiaaGreatDoor
open Go.RowKit

/-- the text of a valid filter is short -/
theorem textF_len {f : Fil.Flt} (h : Fil.validB f = true) : (Fil.textF f).length ≤ 4000 := by
  rw [Fil.textF_valid h]
  unfold Fil.textP
  split
  · decide
  · exact text_len (Fil.valid_of h)
end Go.Proofs.YtboealolklojiaaGreatDoor
