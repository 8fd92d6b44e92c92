/-
  THE LAW EffectZones: by the tree of its tests. By an AI agent.
-/
import Derived.Test.YtahhlpfanddfeaaGreatDoorSxAlv
namespace Go.Proofs.YtahhlpfanddfeaaGreatDoor
open Go.RowKit Go.Sx
def zTree : T3 := .n (B 232 (L 3 0) (I 0)) (.l (.bool true)) (.n (B 280 (L 3 0) (I 6)) (.l (.bool true)) (.n (B 200 (L 3 0) (I 0)) (.l (.bool true)) (.n (B 200 (L 3 0) (I 1)) (.l (.bool true)) (.n (B 200 (L 3 0) (I 2)) (.l (.bool true)) (.n (B 200 (L 3 0) (I 3)) (.l (.bool true)) (.n (B 200 (L 3 0) (I 4)) (.l (.bool true)) (.l (.bool true))))))))
def envL1 : Fs → EnvF := fun _ => envOf (envA envP) (fun _ _ _ => none)
theorem zones_chk : chk (runF Tryz.prog GN envL1 [] 400 gl 4 #[L 3 0]) zTree [] = true := by kernel_rfl
theorem zTree_out [Th] {X : Value} (h : zTree.Out X) : X = .bool true := by
  have leaf : ∀ {X : Value}, T3.Out (.l (.bool true)) X → X = .bool true := fun ⟨r, h⟩ => still3_eq h rfl
  unfold zTree at h
  rcases h with ⟨_, h⟩ | ⟨_, h⟩
  · exact leaf h
  rcases h with ⟨_, h⟩ | ⟨_, h⟩
  · exact leaf h
  rcases h with ⟨_, h⟩ | ⟨_, h⟩
  · exact leaf h
  rcases h with ⟨_, h⟩ | ⟨_, h⟩
  · exact leaf h
  rcases h with ⟨_, h⟩ | ⟨_, h⟩
  · exact leaf h
  rcases h with ⟨_, h⟩ | ⟨_, h⟩
  · exact leaf h
  rcases h with ⟨_, h⟩ | ⟨_, h⟩
  · exact leaf h
  · exact leaf h
theorem lawEffectZones (x : Int) (lo : -9223372036854775808 ≤ x) (hi : x ≤ 9223372036854775807) (W : World) (hE : EnvN W ∧ Knows GN gl W) :
    Calls Tryz.prog 4 #[.int .i64 x] W fun e w' => e = .returned (.bool true) ∧ Below W.heap.size W w' := by
  letI := thOf (fun _ => .int .i64 x) W
  haveI := ts_of (fun _ => .int .i64 x) W
  haveI := at_of (fun _ => .int .i64 x) W
  refine (reckonedO 400 noGo mixed (T := zTree) (F := []) (M := []) (env := envL1) (l := gl) zones_chk (fun p h => (by cases h)) (fun p h => (by cases h)) W (args' := #[.int .i64 x]) ?_ (fun F hF => envOf_ok (envA_ok hE.1 hE.2 (envP_ok hE.1)) envNone_ok) hE.2).mono ?_
  · refine ⟨rfl, fun i u v hu hv => ?_⟩
    rcases i with _ | i
    · simp at hu hv
      subst hu hv
      exact let_de (ρ := fun _ => .int .i64 x) (i := 0) (by decide) ⟨rfl, lo, hi⟩
    · simp at hu
  · rintro e w' ⟨X, rfl, h1, h2⟩
    rw [zTree_out h1]
    exact ⟨rfl, h2⟩
end Go.Proofs.YtahhlpfanddfeaaGreatDoor
