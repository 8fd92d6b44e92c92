/-
  CONTRACT OF LAYER 13 (filter): Parse, its two answers; '==' of a filter with itself. By an AI agent.
-/
import Derived.Test.YtboealolklojiaaDoorFilParse
import Derived.Test.YtboealolklojiaaDoorFilEq
namespace Go.Proofs.YtboealolklojiaaDoor
open Go.RowKit
open Wd (Bs)

theorem run_eq_zero (W : World) : (Op.equalIn 10000 25 (.agg cellsZ) (.agg cellsZ)).run Tryd.prog W = .ok true W := by
  have h := run_eq_flt Fil.zero Fil.zero ⟨#[]⟩ ⟨#[]⟩ rfl rfl W
  rw [eqF_refl] at h
  exact h
theorem run_eq_self (a : Fil.Acc) (fs : ByteArray) (h : a.sub = fs.data.toList) (W : World) : (Op.equalIn 10000 25 (.agg (cellsA a fs)) (.agg (cellsA a fs))).run Tryd.prog W = .ok true W := by
  have h := run_eq_flt a.flt a.flt fs fs h h W
  rw [eqF_refl] at h
  exact h
theorem acc_flt_inj {a b : Fil.Acc} (h : a.flt = b.flt) : a = b := by
  obtain ⟨a1, a2, a3, a4, a5, a6, a7, a8, a9, a10, a11, a12, a13⟩ := a
  obtain ⟨b1, b2, b3, b4, b5, b6, b7, b8, b9, b10, b11, b12, b13⟩ := b
  unfold Fil.Acc.flt at h
  injection h with h1 h2 h3 h4 h5 h6 h7 h8 h9 h10 h11 h12 h13
  rw [Fil.Acc.mk.injEq]
  simp only at h1 h2 h3 h4 h5 h6 h7 h9 h10
  exact ⟨by omega, by omega, by omega, by omega, by omega, by omega, by omega, h8, by omega, by omega, h11, h12, h13⟩
theorem bytes_one {a b : ByteArray} (h : a.data.toList = b.data.toList) : a = b := by
  cases a; cases b
  simp at h
  rw [h]
theorem parseRes_yes {s : Bs} {a : Fil.Acc} {fs : ByteArray} (hfs : a.sub = fs.data.toList) (h1 : Fil.parseV s = a.flt) (h2 : Fil.parseE s = 0) {w w' : World} {e : Ending} (h : ParseRes s w e w') :
    e = .returned (.tuple #[.agg (cellsA a fs), .int .i64 0]) ∧ Below w.heap.size w w' := by
  rcases h with ⟨b, gs, h4, h5, h6, h7, h8, h9, h10⟩ | ⟨h4, h5, h6, h7⟩
  · rw [h1] at h4
    have e1 := acc_flt_inj h4
    subst e1
    have e2 := bytes_one (hfs.symm.trans h8)
    subst e2
    exact ⟨h9, h10⟩
  · rw [h2] at h5; cases h5
theorem parseRes_no {s : Bs} (h2 : Fil.parseE s = 3) {w w' : World} {e : Ending} (h : ParseRes s w e w') :
    e = .returned (.tuple #[.agg cellsZ, .int .i64 3]) ∧ Below w.heap.size w w' := by
  rcases h with ⟨a, fs, h4, h5, h6, h7, h8, h9, h10⟩ | ⟨h4, h5, h6, h7⟩
  · rw [h2] at h5; cases h5
  · exact ⟨h6, h7⟩
end Go.Proofs.YtboealolklojiaaDoor
