/-
  RUNS RECKONED AHEAD: the law's alive() answers true. By an AI agent.
-/
import Derived.Test.YtlgdmncioakkjaaGreatDoorCdMA3
import Derived.Test.YtlgdmncioakkjaaGreatDoorSyM
namespace Go.Proofs.YtlgdmncioakkjaaGreatDoor
open Go.RowKit Go.Sx
theorem noGo : NoGo Tryz.prog := by
  intro f fn h
  have h1 : (Tryz.prog.funcs.all fun fn => !(fn.name == "runtime.NumGoroutine")) = true := by kernel_rfl
  have h2 := (Array.all_eq_true_iff_forall_mem.1 h1) fn (Array.mem_of_getElem? h)
  simpa using h2
theorem mixed : Tryz.prog.follows .mixedOrders = true := by kernel_rfl
section
variable [Th]
attribute [local instance] fx0
theorem sat0 : Sat := ⟨fun p h => (by cases h), fun p h => (by cases h)⟩
theorem memo_of {f : FuncId} {s : ByteArray} {ms : List UInt8} {v : Value} {k : Nat} {nb : List Bk} {W : World} (hE : EnvPOk Tryz.prog GN W envP)
    (h : fromG f #[.string ⟨ms.toArray⟩] = some (v, GN + k, nb)) (hs : bEq s.data.toList ms = true) (hr : nb.all (fun x => !x.ro) = true) :
    ∃ env n bs, EnvOk Tryz.prog GN W env ∧ evCall Tryz.prog env (evCode Tryz.prog GN env n) f #[.string s] ⟨GN, gl⟩ = some (v, ⟨GN + k, bs⟩) ∧ (#[Value.string s] : Array Value).all still = true ∧
      nb = newB GN bs ∧ nb.all (fun x => !x.ro) = true := by
  have e : s.data.toList = ms := by
    rw [bEq_eq] at hs
    exact eq_of_beq hs
  have es : s = ⟨ms.toArray⟩ := by
    obtain ⟨⟨l⟩⟩ := s
    subst e
    rfl
  subst es
  unfold fromG at h
  split at h
  · rename_i v' m hm
    injection h with h
    injection h with h1 h
    injection h with h2 h3
    subst h1 h3
    obtain ⟨n, bs⟩ := m
    have h2 : n = GN + k := h2
    subst h2
    exact ⟨envT, 400, bs, envOf_ok hE envNone_ok, hm, by simp [still, dry], rfl, hr⟩
  · cases h
theorem memo_ok {W : World} (hE : EnvPOk Tryz.prog GN W envP) : MemoOk Tryz.prog GN W gl memoT := by
  intro f args v k nb h
  unfold memoT at h
  split at h
  · split at h
    · rename_i hs
      injection h with h
      injection h with h1 h
      injection h with h2 h3
      subst h1 h2 h3
      exact memo_of hE memo1 hs (by kernel_rfl)
    · cases h
  · cases h
end
/-- the law's alive() answers true in every world whose read-only variables are known -/
theorem alive_ok {w : World} (hE : EnvX w) (hK : Knows GN gl w) : Calls Tryz.prog 8 #[] w fun e w' => e = .returned (.bool true) ∧ Below w.heap.size w w' := by
  letI := thOf (fun _ => .bool true) w
  haveI := ts_of (fun _ => .bool true) w
  haveI := at_of (fun _ => .bool true) w
  letI := fx0
  haveI := sat0
  have h := aliveR_eq
  unfold aliveR at h
  split at h
  · rename_i v m hm
    injection h with h
    subst h
    exact reckoned 400 noGo mixed (l := gl) (f := 8) (args := #[]) (v := .bool true) (env := envL GN memoT envT) (by rw [hm]) (by simp) (by rfl) w (envL_ok noGo mixed (memo_ok (envP_ok hE)) (envOf_ok (envP_ok hE) envNone_ok) hK) hK
  · cases h
theorem knows_below {G : Nat} {l : List Bk} {w w' : World} (h : Knows G l w) (hb : Below w.heap.size w w') : Knows G l w' :=
  ⟨Nat.le_trans h.1 hb.size, fun i x hx => (by
    obtain ⟨h1, h2, h3, h4, h5⟩ := h.2 i x hx
    exact ⟨h1, h2, h3, by rw [hb.block i (Array.getElem?_eq_some_iff.1 h4).1]; exact h4, h5⟩)⟩
/-- the law's alive(), for a run over letters -/
def envA (q : EnvP) : EnvP := fun f args m => match f, args with
  | 8, ⟨[]⟩ => some (.bool true)
  | _, _ => q f args m
theorem envA_ok [Th] {W : World} (hE : EnvX W) (hK : Knows GN gl W) {q : EnvP} (hq : EnvPOk Tryz.prog GN W q) : EnvPOk Tryz.prog GN W (envA q) := by
  intro f args m v e r w args' ha hw hB
  unfold envA at e
  split at e
  · injection e with e
    subst e
    have h0 : args' = #[] := by
      have := ha.1
      exact Array.eq_empty_of_size_eq_zero this.symm
    subst h0
    refine (alive_ok (hE.below hw.low) (knows_below hK hw.low)).mono ?_
    rintro e w' ⟨h1, h2⟩
    exact ⟨_, h1, still3_V3 (by simp [still3, still, dry]), h2⟩
  · exact hq f args m v e r w args' ha hw hB
end Go.Proofs.YtlgdmncioakkjaaGreatDoor
