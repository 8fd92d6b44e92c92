/-
  READING POOLS, PLAIN; no program in it. By an AI agent.
-/
import Derived.Test.YtcllaenanihedaaDoorManaText
namespace Go.Proofs.YtcllaenanihedaaDoor.Mana
open Go

/-- a pool and an error, out of what Parse gives -/
def ppC (c : Cst) (e : Int) : Pl := if e = 0 ∧ c.x ≤ 0 then costP c else zeroP
def ppE (c : Cst) (e : Int) : Int := if e = 0 ∧ c.x ≤ 0 then 0 else 3
theorem pp_yes {c : Cst} {e : Int} (h : e = 0) (hx : c.x ≤ 0) : ppC c e = costP c ∧ ppE c e = 0 := by unfold ppC ppE; rw [if_pos ⟨h, hx⟩, if_pos ⟨h, hx⟩]; exact ⟨rfl, rfl⟩
theorem pp_no {c : Cst} {e : Int} (h : ¬ e = 0 ∨ 0 < c.x) : ppC c e = zeroP ∧ ppE c e = 3 := by
  unfold ppC ppE; rw [if_neg (by omega), if_neg (by omega)]; exact ⟨rfl, rfl⟩
end Go.Proofs.YtcllaenanihedaaDoor.Mana
