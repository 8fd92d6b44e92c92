/-
  THE LAWS OF LAYER 13: the fixed calls of alive. By an AI agent.
-/
import Derived.Test.YtboealolklojiaaDoorFilParse
import Derived.Test.YtboealolklojiaaDoorFilEq
namespace Go.Proofs.YtboealolklojiaaDoor
open Go.RowKit
open Wd (Bs)

def aliveA : Fil.Acc := ⟨0, 1, 2, 1, 0, 0, 0, [], 1, 0, ⟨1, 3⟩, Fil.zeroB, Fil.zeroB⟩
def aliveS : Bs := [121, 111, 117, 114, 115, 32, 111, 116, 104, 101, 114, 32, 99, 114, 101, 97, 116, 117, 114, 101, 32, 119, 105, 116, 104, 58, 102, 108, 121, 105, 110, 103, 32, 112, 111, 119, 101, 114, 62, 61, 51]
def aliveS2 : Bs := [99, 114, 101, 97, 116, 117, 114, 101, 32, 121, 111, 117, 114, 115]
def oneA : Fil.Acc := ⟨0, 0, 0, 1, 0, 0, 0, [], 0, 0, Fil.zeroB, Fil.zeroB, Fil.zeroB⟩
theorem sub_nil : Fil.subB [] = true := by unfold Fil.subB; simp
theorem valid_alive : Fil.validB aliveA.flt = true := by
  unfold Fil.validB
  rw [show Fil.subB aliveA.flt.sub = true from sub_nil]
  decide +kernel
theorem valid_zero : Fil.validB Fil.zero = true := by
  unfold Fil.validB
  rw [show Fil.subB Fil.zero.sub = true from sub_nil]
  decide +kernel
theorem valid_one : Fil.validB oneA.flt = true := by
  unfold Fil.validB
  rw [show Fil.subB oneA.flt.sub = true from sub_nil]
  decide +kernel
theorem text_alive : Fil.textF aliveA.flt = aliveS := by
  rw [Fil.textF_valid valid_alive]
  decide +kernel
theorem text_zero : Fil.textF Fil.zero = Fil.sAny := by
  rw [Fil.textF_valid valid_zero]
  decide +kernel
theorem text_one : Fil.textF oneA.flt ≠ aliveS2 := by
  rw [Fil.textF_valid valid_one]
  decide +kernel
theorem read_bad : Fil.readP aliveS2 = oneA.flt := by decide +kernel
theorem parse_bad : Fil.parseV aliveS2 = Fil.zero ∧ Fil.parseE aliveS2 = 3 := Fil.parse_no fun h => by
  have := h.2
  rw [read_bad] at this
  exact text_one this
theorem acc_inj {a b : Fil.Acc} (h : a.flt = b.flt) : a = b := by
  cases a; cases b
  simp only [Fil.Acc.flt, Fil.Flt.mk.injEq] at h
  obtain ⟨h0, h1, h2, h3, h4, h5, h6, h7, h8, h9, h10, h11, h12⟩ := h
  rw [Fil.Acc.mk.injEq]
  exact ⟨by omega, by omega, by omega, by omega, by omega, by omega, by omega, h7, by omega, by omega, h10, h11, h12⟩
theorem bytes_none {s : ByteArray} (h : s.data.toList = []) : s = ⟨#[]⟩ := by
  cases s with | mk a => cases a with | mk l => simp at h; rw [h]
/-- Parse at a text whose filter is known -/
theorem parseAt (s : ByteArray) (q : Fil.Acc) (hq : Fil.validB q.flt = true) (ht : Fil.textF q.flt = s.data.toList) (hn : q.sub = []) (hs : s.size ≤ 1000000) (W : World) (hE : Env W) :
    Calls Tryd.prog 8 #[.string s] W fun e w' => e = .returned (.tuple #[.agg #[.int .i64 (q.zone : Int), .int .i64 (q.who : Int), .int .i64 (q.self : Int), .int .i64 (q.types : Int), .int .i64 (q.ntypes : Int), .int .i64 (q.colors : Int), .int .i64 (q.ncolors : Int), .string ⟨#[]⟩, .int .i64 (q.keys : Int), .int .i64 (q.tap : Int), .int .i64 q.pow.kind, .int .i64 q.pow.n, .int .i64 q.tough.kind, .int .i64 q.tough.n, .int .i64 q.val.kind, .int .i64 q.val.n], .int .i64 0]) ∧ Below W.heap.size W w' :=
  (filParse s W hs hE).mono fun e w' h => by
    have hp := Fil.parse_text hq
    rw [ht] at hp
    rcases h with ⟨a, fs, h1, h2, _, _, h5, h6, h7⟩ | ⟨h1, h2, _, _⟩
    · obtain rfl : q = a := acc_inj (hp.1.symm.trans h1)
      obtain rfl : fs = ⟨#[]⟩ := bytes_none (h5.symm.trans hn)
      exact ⟨h6, h7⟩
    · rw [hp.2] at h2; cases h2
theorem parseNone (s : ByteArray) (he : Fil.parseE s.data.toList = 3) (hs : s.size ≤ 1000000) (W : World) (hE : Env W) :
    Calls Tryd.prog 8 #[.string s] W fun e w' => e = .returned (.tuple #[.agg #[.int .i64 0, .int .i64 0, .int .i64 0, .int .i64 0, .int .i64 0, .int .i64 0, .int .i64 0, .string ⟨#[]⟩, .int .i64 0, .int .i64 0, .int .i64 0, .int .i64 0, .int .i64 0, .int .i64 0, .int .i64 0, .int .i64 0], .int .i64 3]) ∧ Below W.heap.size W w' :=
  (filParse s W hs hE).mono fun e w' h => by
    rcases h with ⟨_, _, _, h2, _⟩ | ⟨_, _, h3, h4⟩
    · rw [he] at h2; cases h2
    · exact ⟨h3, h4⟩
theorem aliveP1 (W : World) (hE : Env W) : Calls Tryd.prog 8 #[.string ⟨#[121, 111, 117, 114, 115, 32, 111, 116, 104, 101, 114, 32, 99, 114, 101, 97, 116, 117, 114, 101, 32, 119, 105, 116, 104, 58, 102, 108, 121, 105, 110, 103, 32, 112, 111, 119, 101, 114, 62, 61, 51]⟩] W fun e w' => e = .returned (.tuple #[.agg #[.int .i64 0, .int .i64 1, .int .i64 2, .int .i64 1, .int .i64 0, .int .i64 0, .int .i64 0, .string ⟨#[]⟩, .int .i64 1, .int .i64 0, .int .i64 1, .int .i64 3, .int .i64 0, .int .i64 0, .int .i64 0, .int .i64 0], .int .i64 0]) ∧ Below W.heap.size W w' :=
  parseAt ⟨#[121, 111, 117, 114, 115, 32, 111, 116, 104, 101, 114, 32, 99, 114, 101, 97, 116, 117, 114, 101, 32, 119, 105, 116, 104, 58, 102, 108, 121, 105, 110, 103, 32, 112, 111, 119, 101, 114, 62, 61, 51]⟩ aliveA valid_alive text_alive rfl (by decide) W hE
theorem aliveP2 (W : World) (hE : Env W) : Calls Tryd.prog 8 #[.string ⟨#[97, 110, 121]⟩] W fun e w' => e = .returned (.tuple #[.agg #[.int .i64 0, .int .i64 0, .int .i64 0, .int .i64 0, .int .i64 0, .int .i64 0, .int .i64 0, .string ⟨#[]⟩, .int .i64 0, .int .i64 0, .int .i64 0, .int .i64 0, .int .i64 0, .int .i64 0, .int .i64 0, .int .i64 0], .int .i64 0]) ∧ Below W.heap.size W w' :=
  parseAt ⟨#[97, 110, 121]⟩ Fil.zeroA valid_zero text_zero rfl (by decide) W hE
theorem aliveP3 (W : World) (hE : Env W) : Calls Tryd.prog 8 #[.string ⟨#[99, 114, 101, 97, 116, 117, 114, 101, 32, 121, 111, 117, 114, 115]⟩] W fun e w' => e = .returned (.tuple #[.agg #[.int .i64 0, .int .i64 0, .int .i64 0, .int .i64 0, .int .i64 0, .int .i64 0, .int .i64 0, .string ⟨#[]⟩, .int .i64 0, .int .i64 0, .int .i64 0, .int .i64 0, .int .i64 0, .int .i64 0, .int .i64 0, .int .i64 0], .int .i64 3]) ∧ Below W.heap.size W w' :=
  parseNone ⟨#[99, 114, 101, 97, 116, 117, 114, 101, 32, 121, 111, 117, 114, 115]⟩ parse_bad.2 (by decide) W hE
theorem aliveTx (W : World) (hE : Env W) : Calls Tryd.prog 7 #[.agg #[.int .i64 0, .int .i64 1, .int .i64 2, .int .i64 1, .int .i64 0, .int .i64 0, .int .i64 0, .string ⟨#[]⟩, .int .i64 1, .int .i64 0, .int .i64 1, .int .i64 3, .int .i64 0, .int .i64 0, .int .i64 0, .int .i64 0]] W fun e w' => e = .returned (.string ⟨#[121, 111, 117, 114, 115, 32, 111, 116, 104, 101, 114, 32, 99, 114, 101, 97, 116, 117, 114, 101, 32, 119, 105, 116, 104, 58, 102, 108, 121, 105, 110, 103, 32, 112, 111, 119, 101, 114, 62, 61, 51]⟩) ∧ Below W.heap.size W w' := by
  have h := filText aliveA.flt ⟨#[]⟩ rfl (by decide) W hE
  rw [text_alive] at h
  exact h
theorem aliveIs (W : World) (hE : Env W) : Calls Tryd.prog 9 #[.agg #[.int .i64 0, .int .i64 0, .int .i64 0, .int .i64 0, .int .i64 0, .int .i64 0, .int .i64 0, .string ⟨#[]⟩, .int .i64 0, .int .i64 3, .int .i64 0, .int .i64 0, .int .i64 0, .int .i64 0, .int .i64 0, .int .i64 0]] W fun e w' => e = .returned (.bool false) ∧ Below W.heap.size W w' := by
  have h := filIs ⟨0, 0, 0, 0, 0, 0, 0, [], 0, 3, Fil.zeroB, Fil.zeroB, Fil.zeroB⟩ ⟨#[]⟩ rfl (by decide) W hE
  have hv : Fil.validB ⟨0, 0, 0, 0, 0, 0, 0, [], 0, 3, Fil.zeroB, Fil.zeroB, Fil.zeroB⟩ = false := by
    unfold Fil.validB
    rw [show Fil.subB (⟨0, 0, 0, 0, 0, 0, 0, [], 0, 3, Fil.zeroB, Fil.zeroB, Fil.zeroB⟩ : Fil.Flt).sub = true from sub_nil]
    decide +kernel
  rw [hv] at h
  exact h
end Go.Proofs.YtboealolklojiaaDoor
