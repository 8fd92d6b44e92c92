/-
  THE LAWS' alive(), reckoned: no contract, no package variable. By an AI agent.
-/
import Derived.Test.YtpejbfdmiinokaaProg
import Derived.Test.YtpejbfdmiinokaaSyLw
namespace Go.Proofs.Ytpejbfdmiinokaa
open Go.RowKit Go.Sx
abbrev GN : Nat := 0
def gl : List Bk := []
theorem noGo : NoGo Try.prog := by
  intro f fn h
  have h1 : (Try.prog.funcs.all fun fn => !(fn.name == "runtime.NumGoroutine")) = true := by kernel_rfl
  have h2 := (Array.all_eq_true_iff_forall_mem.1 h1) fn (Array.mem_of_getElem? h)
  simpa using h2
theorem mixed : Try.prog.follows .mixedOrders = true := by kernel_rfl
@[reducible] def fx0 : Fx := ⟨[], []⟩
def env0 : EnvF := fun _ _ _ => none
noncomputable def aliveR : Option Value := match evCall Try.prog env0 (@evCode fx0 Try.prog GN env0 400) 13 #[] ⟨GN, gl⟩ with
  | some (v, _) => some v
  | none => none
theorem aliveR_eq : aliveR = some (.bool true) := by kernel_rfl
theorem env0_ok [Th] {W : World} : EnvOk Try.prog GN W env0 := by
  intro f args m v m' e
  cases e
section
variable [Th]
attribute [local instance] fx0
theorem sat0 : Sat := ⟨fun p h => (by cases h), fun p h => (by cases h)⟩
end
theorem alive_ok {w : World} (hK : Knows GN gl w) : Calls Try.prog 13 #[] w fun e w' => e = .returned (.bool true) ∧ Below w.heap.size w w' := by
  letI := thOf (fun _ => .bool true) w
  haveI := ts_of (fun _ => .bool true) w
  haveI := at_of (fun _ => .bool true) w
  letI := fx0
  haveI := sat0
  have h := aliveR_eq
  unfold aliveR at h
  split at h
  · rename_i v m hm
    injection h with h
    subst h
    exact reckoned 400 noGo mixed (l := gl) (f := 13) (args := #[]) (v := .bool true) (env := env0) (by rw [hm]) (by simp) (by rfl) w env0_ok hK
  · cases h
def envAlv : EnvF := fun f args m => match f, args with
  | 13, ⟨[]⟩ => some (.bool true, m)
  | _, _ => none
abbrev EnvS (W : World) : Prop := True ∧ Knows GN gl W
theorem envS (W : World) : EnvS W := ⟨trivial, Nat.zero_le _, fun i x h => by cases h⟩
theorem envAlv_ok [Th] {W : World} (hE : EnvS W) : EnvOk Try.prog GN W envAlv := by
  intro f args m v m' e r w args' ha hw hB
  unfold envAlv at e
  split at e
  · injection e with e
    injection e with e1 e2
    subst e1 e2
    have h0 : args' = #[] := Array.eq_empty_of_size_eq_zero ha.1.symm
    subst h0
    refine (alive_ok (hE.2.on hw.low)).mono ?_
    rintro e w' ⟨h1, h2⟩
    exact ⟨_, r, h1, still3_V3 (by simp [still3, still, dry]), hw.below h2⟩
  · cases e
end Go.Proofs.Ytpejbfdmiinokaa
