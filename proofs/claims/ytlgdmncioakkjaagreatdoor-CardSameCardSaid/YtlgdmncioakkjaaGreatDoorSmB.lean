/-
  COMPARISONS of layer 21: abilities and cards. By an AI agent.
-/
import Derived.Test.YtlgdmncioakkjaaGreatDoorSmA
namespace Go.Proofs.YtlgdmncioakkjaaGreatDoor
open Go.RowKit Go.Sx
theorem k_ab : chk (runF PP GN (fun _ => envOr (envEnts [⟨49, none, 1017, 2017, 3017⟩, ⟨50, none, 1048, 2048, 3048⟩, ⟨51, (some 52), 1049, 2049, 3049⟩]) (envAs shA.tags [])) [] 400 [] 19 #[.agg ⟨letR shA.tags 1000⟩, .agg ⟨letR shA.tags 2000⟩]) (eq3 1000 2000 3000 (endV none) itA) [] = true := by kernel_rfl
theorem s_ab (hN : NoGo PP) (hM : PP.follows .mixedOrders = true) : StructSame PP GN [] 19 shA := structSame hN hM k_ab (by kernel_rfl) (by decide) rfl (by kernel_rfl)
  ⟨fun e he => (by
    simp only [List.mem_cons, List.not_mem_nil, or_false] at he
    rcases he with rfl | rfl | rfl
    · exact ⟨17, shMod, rfl, rfl, rfl, rfl, s_mods hN hM⟩
    · exact ⟨48, shSpec, rfl, rfl, rfl, rfl, s_specs hN hM⟩
    · exact ⟨49, shE, rfl, rfl, rfl, rfl, s_effs hN hM⟩), fun a ha => (by
    cases ha)⟩
noncomputable def c_abs : Code := (Tryz.f18.body).getD .skip
theorem ck_abs : SameCk PP GN 4 [] Tryz.f18 c_abs 4 [L 10 0, L 10 1, .func (.func 19) #[] #[]] (tF 19) tB6 tB6 tG6 0 ex2 (fun _ => envAgg 19 shA.tags) (M3 shA.tags) F2 Fe2 bod3 := ⟨by kernel_rfl, rfl, ⟨by kernel_rfl, by simp, by kernel_rfl, by kernel_rfl, by kernel_rfl, by kernel_rfl⟩, by kernel_rfl, by kernel_rfl, by kernel_rfl, by kernel_rfl⟩
theorem s_abs (hN : NoGo PP) (hM : PP.follows .mixedOrders = true) : SliceSame PP GN [] 18 [.func (.func 19) #[] #[]] shA := rowsSame hN hM (by kernel_rfl) (by kernel_rfl) ck_abs (by decide) rfl (s_ab hN hM)
theorem k_line : chk (runF PP GN (fun _ => envOr (envEnts [⟨48, none, 1002, 2002, 3002⟩]) (envAs shL.tags [])) [] 400 [] 17 #[.agg ⟨letR shL.tags 1000⟩, .agg ⟨letR shL.tags 2000⟩]) (eq3 1000 2000 3000 (endV (some 2)) [⟨3, 0, false⟩, ⟨3, 1, false⟩]) [] = true := by kernel_rfl
theorem s_line (hN : NoGo PP) (hM : PP.follows .mixedOrders = true) : StructSame PP GN [] 17 shL := structSame hN hM k_line (by kernel_rfl) (by decide) rfl (by kernel_rfl)
  ⟨fun e he => (by
    simp only [List.mem_cons, List.not_mem_nil, or_false] at he
    subst he
    exact ⟨2, shStr, rfl, rfl, rfl, rfl, s_strs hN hM⟩), fun a ha => (by
    cases ha)⟩
theorem k_card : chk (runF PP GN (fun _ => envOr (envEnts [⟨18, (some 19), 1016, 2016, 3016⟩]) (envAs shC.tags [⟨17, 10, 3, 12⟩])) [] 400 [] 10 #[.agg ⟨letR shC.tags 1000⟩, .agg ⟨letR shC.tags 2000⟩]) (eq3 1000 2000 3000 (endV (some 16)) itC) [] = true := by kernel_rfl
theorem s_card (hN : NoGo PP) (hM : PP.follows .mixedOrders = true) : StructSame PP GN [] 10 shC := structSame hN hM k_card (by kernel_rfl) (by decide) rfl (by kernel_rfl)
  ⟨fun e he => (by
    simp only [List.mem_cons, List.not_mem_nil, or_false] at he
    subst he
    exact ⟨16, shA, rfl, rfl, rfl, rfl, s_abs hN hM⟩), fun a ha => (by
    simp only [List.mem_cons, List.not_mem_nil, or_false] at ha
    subst ha
    exact ⟨by decide, rfl, s_line hN hM⟩)⟩
end Go.Proofs.YtlgdmncioakkjaaGreatDoor
