/-
  COMPARISONS of layer 21, the program's and the reference's: whether the data are the same. By an AI agent.
-/
import Derived.Test.YtlgdmncioakkjaaGreatDoorProg
import Derived.Test.YtlgdmncioakkjaaGreatDoorSyOp
namespace Go.Proofs.YtlgdmncioakkjaaGreatDoor
open Go.RowKit Go.Sx
abbrev GN : Nat := 11
noncomputable abbrev PP : Program := Tryz.prog
def shT : List Nat → Shp → Shp
  | [], r => r
  | g :: l, r => .t g (shT l r)
def shStr : Shp := .t 9 .nil
def shMod : Shp := shT [3,3,3,9,3,3,3,3,3,3,3,9,3,3,3,3,3,3,3,3] .nil
def shSpec : Shp := shT [8,8,3,3,3,3,3,3,3,9,3,3,3,3,3,3,3,3] .nil
def shE : Shp := shT [3, 3, 3, 3, 3, 3, 3, 3, 3, 3, 9, 3, 3, 3, 3, 3, 3, 3, 3, 3, 3, 3, 3, 3, 3, 3, 3, 3, 3, 9, 3, 3, 3, 3, 3, 3, 3, 3, 3, 3, 9, 3, 3, 3, 3, 3, 3, 3, 9, 3, 3, 3, 3, 3, 3, 3, 3, 3, 3, 3, 3, 3, 3] (.s shMod .nil)
def shA : Shp := shT [3, 3, 3, 3, 3, 3, 3, 3, 9, 3, 3, 3, 3, 3, 3, 3, 3] (.s shMod (shT [3, 3, 3, 3, 3, 3, 3, 8, 8, 3, 8, 3, 3, 3, 3, 3, 3, 3, 3, 3, 9, 3, 3, 3, 3, 3, 3, 3, 3, 8] (.s shSpec (.s shE (shT [3, 3, 3, 3, 3, 3, 3, 3, 3, 9, 3, 3, 3, 3, 3, 3, 3, 3, 3, 3, 3, 3] .nil)))))
def shL : Shp := .t 3 (.t 3 (.s shStr .nil))
def shC : Shp := shT [9, 8, 3, 3, 3, 3, 3, 3, 3, 3, 3, 3] (.s shStr (shT [3, 3, 3] (.s shA .nil)))
theorem shC_of : shOf PP 12 30 = some shC := by kernel_rfl
def itE : List It := [⟨3, 0, false⟩, ⟨3, 1, false⟩, ⟨3, 2, false⟩, ⟨3, 3, false⟩, ⟨3, 4, false⟩, ⟨3, 5, false⟩, ⟨3, 6, false⟩, ⟨3, 7, false⟩, ⟨3, 8, false⟩, ⟨3, 9, false⟩, ⟨9, 10, false⟩, ⟨3, 11, false⟩, ⟨3, 12, false⟩, ⟨3, 13, false⟩, ⟨3, 14, false⟩, ⟨3, 15, false⟩, ⟨3, 16, false⟩, ⟨3, 17, false⟩, ⟨3, 18, false⟩, ⟨3, 19, false⟩, ⟨3, 20, false⟩, ⟨3, 21, false⟩, ⟨3, 22, false⟩, ⟨3, 23, false⟩, ⟨3, 24, false⟩, ⟨3, 25, false⟩, ⟨3, 26, false⟩, ⟨3, 27, false⟩, ⟨3, 28, false⟩, ⟨9, 29, false⟩, ⟨3, 30, false⟩, ⟨3, 31, false⟩, ⟨3, 32, false⟩, ⟨3, 33, false⟩, ⟨3, 34, false⟩, ⟨3, 35, false⟩, ⟨3, 36, false⟩, ⟨3, 37, false⟩, ⟨3, 38, false⟩, ⟨3, 39, false⟩, ⟨9, 40, false⟩, ⟨3, 41, false⟩, ⟨3, 42, false⟩, ⟨3, 43, false⟩, ⟨3, 44, false⟩, ⟨3, 45, false⟩, ⟨3, 46, false⟩, ⟨3, 47, false⟩, ⟨9, 48, false⟩, ⟨3, 49, false⟩, ⟨3, 50, false⟩, ⟨3, 51, false⟩, ⟨3, 52, false⟩, ⟨3, 53, false⟩, ⟨3, 54, false⟩, ⟨3, 55, false⟩, ⟨3, 56, false⟩, ⟨3, 57, false⟩, ⟨3, 58, false⟩, ⟨3, 59, false⟩, ⟨3, 60, false⟩, ⟨3, 61, false⟩, ⟨3, 62, false⟩]
def itA : List It := [⟨3, 0, false⟩, ⟨3, 1, false⟩, ⟨3, 2, false⟩, ⟨3, 3, false⟩, ⟨3, 4, false⟩, ⟨3, 5, false⟩, ⟨3, 6, false⟩, ⟨3, 7, false⟩, ⟨9, 8, false⟩, ⟨3, 9, false⟩, ⟨3, 10, false⟩, ⟨3, 11, false⟩, ⟨3, 12, false⟩, ⟨3, 13, false⟩, ⟨3, 14, false⟩, ⟨3, 15, false⟩, ⟨3, 16, false⟩, ⟨10, 17, false⟩, ⟨3, 18, false⟩, ⟨3, 19, false⟩, ⟨3, 20, false⟩, ⟨3, 21, false⟩, ⟨3, 22, false⟩, ⟨3, 23, false⟩, ⟨3, 24, false⟩, ⟨8, 25, false⟩, ⟨8, 26, false⟩, ⟨3, 27, false⟩, ⟨8, 28, false⟩, ⟨3, 29, false⟩, ⟨3, 30, false⟩, ⟨3, 31, false⟩, ⟨3, 32, false⟩, ⟨3, 33, false⟩, ⟨3, 34, false⟩, ⟨3, 35, false⟩, ⟨3, 36, false⟩, ⟨3, 37, false⟩, ⟨9, 38, false⟩, ⟨3, 39, false⟩, ⟨3, 40, false⟩, ⟨3, 41, false⟩, ⟨3, 42, false⟩, ⟨3, 43, false⟩, ⟨3, 44, false⟩, ⟨3, 45, false⟩, ⟨3, 46, false⟩, ⟨8, 47, false⟩, ⟨10, 48, false⟩, ⟨10, 49, false⟩, ⟨3, 50, false⟩, ⟨3, 51, false⟩, ⟨3, 52, false⟩, ⟨3, 53, false⟩, ⟨3, 54, false⟩, ⟨3, 55, false⟩, ⟨3, 56, false⟩, ⟨3, 57, false⟩, ⟨3, 58, false⟩, ⟨9, 59, false⟩, ⟨3, 60, false⟩, ⟨3, 61, false⟩, ⟨3, 62, false⟩, ⟨3, 63, false⟩, ⟨3, 64, false⟩, ⟨3, 65, false⟩, ⟨3, 66, false⟩, ⟨3, 67, false⟩, ⟨3, 68, false⟩, ⟨3, 69, false⟩, ⟨3, 70, false⟩, ⟨3, 71, false⟩]
def itA' : List It := [⟨3, 0, true⟩, ⟨3, 1, false⟩, ⟨3, 2, false⟩, ⟨3, 3, false⟩, ⟨3, 4, false⟩, ⟨3, 5, false⟩, ⟨3, 6, false⟩, ⟨3, 7, false⟩, ⟨9, 8, false⟩, ⟨3, 9, false⟩, ⟨3, 10, false⟩, ⟨3, 11, false⟩, ⟨3, 12, false⟩, ⟨3, 13, false⟩, ⟨3, 14, false⟩, ⟨3, 15, false⟩, ⟨3, 16, false⟩, ⟨10, 17, false⟩, ⟨3, 18, false⟩, ⟨3, 19, false⟩, ⟨3, 20, false⟩, ⟨3, 21, false⟩, ⟨3, 22, false⟩, ⟨3, 23, false⟩, ⟨3, 24, false⟩, ⟨8, 25, false⟩, ⟨8, 26, false⟩, ⟨3, 27, false⟩, ⟨8, 28, false⟩, ⟨3, 29, false⟩, ⟨3, 30, false⟩, ⟨3, 31, false⟩, ⟨3, 32, false⟩, ⟨3, 33, false⟩, ⟨3, 34, false⟩, ⟨3, 35, false⟩, ⟨3, 36, false⟩, ⟨3, 37, false⟩, ⟨9, 38, false⟩, ⟨3, 39, false⟩, ⟨3, 40, false⟩, ⟨3, 41, false⟩, ⟨3, 42, false⟩, ⟨3, 43, false⟩, ⟨3, 44, false⟩, ⟨3, 45, false⟩, ⟨3, 46, false⟩, ⟨8, 47, false⟩, ⟨3, 50, false⟩, ⟨3, 51, false⟩, ⟨3, 52, false⟩, ⟨3, 53, false⟩, ⟨3, 54, false⟩, ⟨3, 55, false⟩, ⟨3, 56, false⟩, ⟨3, 57, false⟩, ⟨3, 58, false⟩, ⟨9, 59, false⟩, ⟨3, 60, false⟩, ⟨3, 61, false⟩, ⟨3, 62, false⟩, ⟨3, 63, false⟩, ⟨3, 64, false⟩, ⟨3, 65, false⟩, ⟨3, 66, false⟩, ⟨3, 67, false⟩, ⟨3, 68, false⟩, ⟨3, 69, false⟩, ⟨3, 70, false⟩, ⟨3, 71, false⟩]
def itC : List It := [⟨9, 0, false⟩, ⟨8, 1, false⟩, ⟨3, 2, false⟩, ⟨3, 3, false⟩, ⟨3, 4, false⟩, ⟨3, 5, false⟩, ⟨3, 6, false⟩, ⟨3, 7, false⟩, ⟨3, 8, false⟩, ⟨3, 9, false⟩, ⟨10, 12, false⟩, ⟨3, 13, false⟩, ⟨3, 14, false⟩, ⟨3, 15, false⟩]
def itC' : List It := [⟨9, 0, true⟩, ⟨8, 1, false⟩, ⟨3, 2, false⟩, ⟨3, 3, false⟩, ⟨3, 4, false⟩, ⟨3, 5, false⟩, ⟨3, 6, false⟩, ⟨3, 7, false⟩, ⟨3, 8, false⟩, ⟨3, 9, true⟩, ⟨10, 12, false⟩, ⟨3, 13, true⟩, ⟨3, 14, true⟩, ⟨3, 15, true⟩]
/-- the program's loops: slices.Equal -/
noncomputable def tQ : Tr := mkT 26 [(0, L 10 0), (1, L 10 1), (4, .bool false), (12, L 3 3), (13, L 3 2)]
noncomputable def tI : Tr := mkT 26 [(0, L 10 0), (1, L 10 1), (4, .bool false), (5, L 3 2)]
noncomputable def tB : Tr := mkT 26 [(4, .bool false)]
noncomputable def tG : Tr := mkT 26 [(4, .bool true)]
noncomputable def tF (g : FuncId) : Tr := mkT 32 [(0, L 10 0), (1, L 10 1), (2, .func (.func g) #[] #[]), (6, .bool false), (15, L 10 0), (16, L 3 3), (17, L 3 2)]
noncomputable def tB6 : Tr := mkT 32 [(6, .bool false)]
noncomputable def tG6 : Tr := mkT 32 [(6, .bool true)]
noncomputable def c_mods21 : Code := (Tryz.f46.body).getD .skip
theorem ck_mods21 : SameCk PP GN 4 [] Tryz.f46 c_mods21 4 [L 10 0, L 10 1] tI tB tB tG 0 ex2 noE (M2 shMod.tags) F2 Fe2 (bod2 false shMod.tags) := ⟨by kernel_rfl, rfl, ⟨by kernel_rfl, by simp, by kernel_rfl, by kernel_rfl, by kernel_rfl, by kernel_rfl⟩, by kernel_rfl, by kernel_rfl, by kernel_rfl, by kernel_rfl⟩
theorem s_mods21 (hN : NoGo PP) (hM : PP.follows .mixedOrders = true) : SliceSame PP GN [] 46 [] shMod := flatSame hN hM (by kernel_rfl) (by kernel_rfl) ck_mods21 (fun h => (by cases h)) (by decide) rfl
noncomputable def c_strs : Code := (Tryz.f48.body).getD .skip
theorem ck_strs : SameCk PP GN 4 [] Tryz.f48 c_strs 4 [L 10 0, L 10 1] tQ tB tB tG 0 ex2 noE (M2 shStr.tags) F2 Fe2 (bod2 true shStr.tags) := ⟨by kernel_rfl, rfl, ⟨by kernel_rfl, by simp, by kernel_rfl, by kernel_rfl, by kernel_rfl, by kernel_rfl⟩, by kernel_rfl, by kernel_rfl, by kernel_rfl, by kernel_rfl⟩
theorem s_strs (hN : NoGo PP) (hM : PP.follows .mixedOrders = true) : SliceSame PP GN [] 48 [] shStr := flatSame hN hM (by kernel_rfl) (by kernel_rfl) ck_strs (fun _ => ⟨9, rfl, by decide⟩) (by decide) rfl
noncomputable def c_mods : Code := (Tryz.f49.body).getD .skip
theorem ck_mods : SameCk PP GN 4 [] Tryz.f49 c_mods 4 [L 10 0, L 10 1] tQ tB tB tG 0 ex2 noE (M2 shMod.tags) F2 Fe2 (bod2 false shMod.tags) := ⟨by kernel_rfl, rfl, ⟨by kernel_rfl, by simp, by kernel_rfl, by kernel_rfl, by kernel_rfl, by kernel_rfl⟩, by kernel_rfl, by kernel_rfl, by kernel_rfl, by kernel_rfl⟩
theorem s_mods (hN : NoGo PP) (hM : PP.follows .mixedOrders = true) : SliceSame PP GN [] 49 [] shMod := flatSame hN hM (by kernel_rfl) (by kernel_rfl) ck_mods (fun h => (by cases h)) (by decide) rfl
noncomputable def c_specs : Code := (Tryz.f50.body).getD .skip
theorem ck_specs : SameCk PP GN 4 [] Tryz.f50 c_specs 4 [L 10 0, L 10 1] tQ tB tB tG 0 ex2 noE (M2 shSpec.tags) F2 Fe2 (bod2 false shSpec.tags) := ⟨by kernel_rfl, rfl, ⟨by kernel_rfl, by simp, by kernel_rfl, by kernel_rfl, by kernel_rfl, by kernel_rfl⟩, by kernel_rfl, by kernel_rfl, by kernel_rfl, by kernel_rfl⟩
theorem s_specs (hN : NoGo PP) (hM : PP.follows .mixedOrders = true) : SliceSame PP GN [] 50 [] shSpec := flatSame hN hM (by kernel_rfl) (by kernel_rfl) ck_specs (fun h => (by cases h)) (by decide) rfl
theorem k_eff : chk (runF PP GN (fun _ => envOr (envEnts [⟨49, none, 1063, 2063, 3063⟩]) (envAs shE.tags [])) [] 400 [] 52 #[.agg ⟨letR shE.tags 1000⟩, .agg ⟨letR shE.tags 2000⟩]) (eq3 1000 2000 3000 (endV (some 63)) itE) [] = true := by kernel_rfl
theorem s_eff (hN : NoGo PP) (hM : PP.follows .mixedOrders = true) : StructSame PP GN [] 52 shE := structSame hN hM k_eff (by kernel_rfl) (by decide) rfl (by kernel_rfl)
  ⟨fun e he => (by
    simp only [List.mem_cons, List.not_mem_nil, or_false] at he
    subst he
    exact ⟨63, shMod, rfl, rfl, rfl, rfl, s_mods hN hM⟩), fun a ha => (by
    cases ha)⟩
theorem k_eff21 : chk (runF PP GN (fun _ => envOr (envEnts [⟨46, none, 1063, 2063, 3063⟩]) (envAs shE.tags [])) [] 400 [] 47 #[.agg ⟨letR shE.tags 1000⟩, .agg ⟨letR shE.tags 2000⟩]) (eq3 1000 2000 3000 (endV (some 63)) itE) [] = true := by kernel_rfl
theorem s_eff21 (hN : NoGo PP) (hM : PP.follows .mixedOrders = true) : StructSame PP GN [] 47 shE := structSame hN hM k_eff21 (by kernel_rfl) (by decide) rfl (by kernel_rfl)
  ⟨fun e he => (by
    simp only [List.mem_cons, List.not_mem_nil, or_false] at he
    subst he
    exact ⟨63, shMod, rfl, rfl, rfl, rfl, s_mods21 hN hM⟩), fun a ha => (by
    cases ha)⟩
noncomputable def c_effs : Code := (Tryz.f51.body).getD .skip
theorem ck_effs : SameCk PP GN 4 [] Tryz.f51 c_effs 4 [L 10 0, L 10 1, .func (.func 52) #[] #[]] (tF 52) tB6 tB6 tG6 0 ex2 (fun _ => envAgg 52 shE.tags) (M3 shE.tags) F2 Fe2 bod3 := ⟨by kernel_rfl, rfl, ⟨by kernel_rfl, by simp, by kernel_rfl, by kernel_rfl, by kernel_rfl, by kernel_rfl⟩, by kernel_rfl, by kernel_rfl, by kernel_rfl, by kernel_rfl⟩
theorem s_effs (hN : NoGo PP) (hM : PP.follows .mixedOrders = true) : SliceSame PP GN [] 51 [.func (.func 52) #[] #[]] shE := rowsSame hN hM (by kernel_rfl) (by kernel_rfl) ck_effs (by decide) rfl (s_eff hN hM)
end Go.Proofs.YtlgdmncioakkjaaGreatDoor
