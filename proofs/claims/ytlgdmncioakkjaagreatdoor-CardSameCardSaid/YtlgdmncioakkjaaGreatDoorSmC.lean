/-
  COMPARISONS of layer 21, the reference's: tests, then loops. By an AI agent.
-/
import Derived.Test.YtlgdmncioakkjaaGreatDoorSmA
namespace Go.Proofs.YtlgdmncioakkjaaGreatDoor
open Go.RowKit Go.Sx
theorem k_ab : chk (runF PP GN (fun _ => envOr (envEnts [⟨49, none, 1017, 2017, 3017⟩, ⟨50, none, 1048, 2048, 3048⟩, ⟨51, (some 52), 1049, 2049, 3049⟩]) (envAs shA.tags [])) [] 400 [] 19 #[.agg ⟨letR shA.tags 1000⟩, .agg ⟨letR shA.tags 2000⟩]) (eq3 1000 2000 3000 (endV none) itA) [] = true := by kernel_rfl
theorem s_ab (hN : NoGo PP) (hM : PP.follows .mixedOrders = true) : StructSame PP GN [] 19 shA := structSame hN hM k_ab (by kernel_rfl) (by decide) rfl (by kernel_rfl)
  ⟨fun e he => (by
    simp only [List.mem_cons, List.not_mem_nil, or_false] at he
    rcases he with rfl | rfl | rfl
    · exact ⟨17, shMod, rfl, rfl, rfl, rfl, s_mods hN hM⟩
    · exact ⟨48, shSpec, rfl, rfl, rfl, rfl, s_specs hN hM⟩
    · exact ⟨49, shE, rfl, rfl, rfl, rfl, s_effs hN hM⟩), fun a ha => (by
    cases ha)⟩
noncomputable def c_abs : Code := (Tryz.f18.body).getD .skip
theorem ck_abs : SameCk PP GN 4 [] Tryz.f18 c_abs 4 [L 10 0, L 10 1, .func (.func 19) #[] #[]] (tF 19) tB6 tB6 tG6 0 ex2 (fun _ => envAgg 19 shA.tags) (M3 shA.tags) F2 Fe2 bod3 := ⟨by kernel_rfl, rfl, ⟨by kernel_rfl, by simp, by kernel_rfl, by kernel_rfl, by kernel_rfl, by kernel_rfl⟩, by kernel_rfl, by kernel_rfl, by kernel_rfl, by kernel_rfl⟩
theorem s_abs (hN : NoGo PP) (hM : PP.follows .mixedOrders = true) : SliceSame PP GN [] 18 [.func (.func 19) #[] #[]] shA := rowsSame hN hM (by kernel_rfl) (by kernel_rfl) ck_abs (by decide) rfl (s_ab hN hM)
theorem k_line : chk (runF PP GN (fun _ => envOr (envEnts [⟨48, none, 1002, 2002, 3002⟩]) (envAs shL.tags [])) [] 400 [] 17 #[.agg ⟨letR shL.tags 1000⟩, .agg ⟨letR shL.tags 2000⟩]) (eq3 1000 2000 3000 (endV (some 2)) [⟨3, 0, false⟩, ⟨3, 1, false⟩]) [] = true := by kernel_rfl
theorem s_line (hN : NoGo PP) (hM : PP.follows .mixedOrders = true) : StructSame PP GN [] 17 shL := structSame hN hM k_line (by kernel_rfl) (by decide) rfl (by kernel_rfl)
  ⟨fun e he => (by
    simp only [List.mem_cons, List.not_mem_nil, or_false] at he
    subst he
    exact ⟨2, shStr, rfl, rfl, rfl, rfl, s_strs hN hM⟩), fun a ha => (by
    cases ha)⟩
theorem k_card : chk (runF PP GN (fun _ => envOr (envEnts [⟨18, (some 19), 1016, 2016, 3016⟩]) (envAs shC.tags [⟨17, 10, 3, 12⟩])) [] 400 [] 10 #[.agg ⟨letR shC.tags 1000⟩, .agg ⟨letR shC.tags 2000⟩]) (eq3 1000 2000 3000 (endV (some 16)) itC) [] = true := by kernel_rfl
theorem s_card (hN : NoGo PP) (hM : PP.follows .mixedOrders = true) : StructSame PP GN [] 10 shC := structSame hN hM k_card (by kernel_rfl) (by decide) rfl (by kernel_rfl)
  ⟨fun e he => (by
    simp only [List.mem_cons, List.not_mem_nil, or_false] at he
    subst he
    exact ⟨16, shA, rfl, rfl, rfl, rfl, s_abs hN hM⟩), fun a ha => (by
    simp only [List.mem_cons, List.not_mem_nil, or_false] at ha
    subst ha
    exact ⟨by decide, rfl, s_line hN hM⟩)⟩
end Go.Proofs.YtlgdmncioakkjaaGreatDoor
namespace Go.Proofs.YtlgdmncioakkjaaGreatDoor
open Go.RowKit Go.Sx
noncomputable def c_line10 : Code := (Tryz.f14.body).getD .skip
def m_line10 : AM := ⟨GN + 2, [⟨GN + 1, (letR shL.tags 2000).toArray, 27, true, false⟩, ⟨GN, (letR shL.tags 1000).toArray, 27, true, false⟩]⟩
noncomputable def tB_line10 : Tr := mkT 45 [(4, .bool false)]
noncomputable def tG_line10 : Tr := mkT 45 [(4, .bool true)]
noncomputable def tE_line10 : Tr := mkT 45 [(2, .pointer (some ⟨GN, 0, none⟩)), (3, .pointer (some ⟨GN + 1, 0, none⟩)), (4, .bool false)]
noncomputable def t0_line10 : Tr := mkT 45 [(2, .pointer (some ⟨GN, 0, none⟩)), (3, .pointer (some ⟨GN + 1, 0, none⟩)), (4, .bool false), (5, L 3 2)]
theorem pre_line10 : chkP (fun F => runL PP GN (fun _ => envOr (envEnts []) (envAs shL.tags [])) [] 400 45 F ((flat c_line10).take 4) (argsT 45 0 [.agg ⟨letR shL.tags 1000⟩, .agg ⟨letR shL.tags 2000⟩] (.leaf undef)) ⟨GN, []⟩) 4000 GN 45 [⟨.normal, t0_line10, m_line10⟩, ⟨.ret, tB_line10, m_line10⟩] (eqTo 1000 2000 3000 (lensTo [2]) (.o 1 []) [⟨3, 0, true⟩, ⟨3, 1, true⟩]) [] = true := by kernel_rfl
noncomputable def l0_line10 : Code := ((flat c_line10).drop 4).headD .skip
theorem w0_line10 : WalkCk PP GN 45 4000 2 40 l0_line10 t0_line10 tE_line10 tB_line10 m_line10 .ret noE noE (MRw 1002 2002 shStr.tags) (FRw 1002 2002) (FeRw 1002) (bodR true shStr.tags) := ⟨by kernel_rfl, by simp, by kernel_rfl, by kernel_rfl, by kernel_rfl, by kernel_rfl⟩
theorem e_line10 : chkP (fun F => runL PP GN noE [] 40 45 F ((flat c_line10).drop 5) tE_line10 m_line10) 4000 GN 45 [⟨.ret, tG_line10, m_line10⟩] (.o 0 []) [] = true := by kernel_rfl
theorem s_line10 (hN : NoGo PP) (hM : PP.follows .mixedOrders = true) : StructSame PP GN [] 14 shL := by
  refine loopSame (fn := Tryz.f14) (c := c_line10) hN hM (by kernel_rfl) (by kernel_rfl) pre_line10 (by kernel_rfl) (by kernel_rfl) (by kernel_rfl) (by kernel_rfl) (by decide) rfl (by kernel_rfl)
    ⟨fun e he => (by
    cases he), fun a ha => (by
    cases ha)⟩ ?_
  intro W xa xb da db hK ha hb hl
  rw [show (flat c_line10).drop 4 = l0_line10 :: (flat c_line10).drop 5 from rfl]
  refine tail_loop (A2 := ∀ i ∈ ([] : List Nat), da[i]? = db[i]?) (flatLoop hN hM w0_line10 ⟨by decide, rfl, rfl⟩ (fun _ => ⟨9, rfl, by decide⟩) (by decide) rfl ha hb (hl 2 (by simp))) (by kernel_rfl) (fun _ => ?_) (by simp)
  exact tail_end hN hM e_line10 (by kernel_rfl) (fun i hi => by cases hi)
noncomputable def c_ab21 : Code := (Tryz.f15.body).getD .skip
def m_ab21 : AM := ⟨GN + 2, [⟨GN + 1, (letR shA.tags 2000).toArray, 52, true, false⟩, ⟨GN, (letR shA.tags 1000).toArray, 52, true, false⟩]⟩
noncomputable def tB_ab21 : Tr := mkT 115 [(4, .bool false)]
noncomputable def tG_ab21 : Tr := mkT 115 [(4, .bool true)]
noncomputable def tE_ab21 : Tr := mkT 115 [(2, .pointer (some ⟨GN, 0, none⟩)), (3, .pointer (some ⟨GN + 1, 0, none⟩)), (4, .bool false)]
noncomputable def t0_ab21 : Tr := mkT 115 [(2, .pointer (some ⟨GN, 0, none⟩)), (3, .pointer (some ⟨GN + 1, 0, none⟩)), (4, .bool false), (5, L 3 2)]
noncomputable def t1_ab21 : Tr := mkT 115 [(2, .pointer (some ⟨GN, 0, none⟩)), (3, .pointer (some ⟨GN + 1, 0, none⟩)), (4, .bool false), (6, L 3 2)]
theorem pre_ab21 : chkP (fun F => runL PP GN (fun _ => envOr (envEnts [⟨46, none, 1017, 2017, 3017⟩]) (envAs shA.tags [])) [] 400 115 F ((flat c_ab21).take 6) (argsT 115 0 [.agg ⟨letR shA.tags 1000⟩, .agg ⟨letR shA.tags 2000⟩] (.leaf undef)) ⟨GN, []⟩) 4000 GN 115 [⟨.normal, t0_ab21, m_ab21⟩, ⟨.ret, tB_ab21, m_ab21⟩] (eqTo 1000 2000 3000 (lensTo [48, 49]) (.o 1 []) itA') [] = true := by kernel_rfl
noncomputable def l0_ab21 : Code := ((flat c_ab21).drop 6).headD .skip
theorem w0_ab21 : WalkCk PP GN 115 4000 2 40 l0_ab21 t0_ab21 tE_ab21 tB_ab21 m_ab21 .ret noE noE (MRw 1048 2048 shSpec.tags) (FRw 1048 2048) (FeRw 1048) (bodR false shSpec.tags) := ⟨by kernel_rfl, by simp, by kernel_rfl, by kernel_rfl, by kernel_rfl, by kernel_rfl⟩
theorem p0_ab21 : chkP (fun F => runL PP GN noE [] 40 115 F (((flat c_ab21).drop 7).take 1) tE_ab21 m_ab21) 4000 GN 115 [⟨.normal, t1_ab21, m_ab21⟩] (.o 0 [(2, I 0)]) [] = true := by kernel_rfl
noncomputable def l1_ab21 : Code := ((flat c_ab21).drop 8).headD .skip
theorem w1_ab21 : WalkCk PP GN 115 4000 2 40 l1_ab21 t1_ab21 tE_ab21 tB_ab21 m_ab21 .ret (fun _ => envAgB 47 shE.tags 4000 5000 6000) noE (MRw 1049 2049 shE.tags) (FRw 1049 2049) (FeRw 1049) bodC := ⟨by kernel_rfl, by simp, by kernel_rfl, by kernel_rfl, by kernel_rfl, by kernel_rfl⟩
theorem e_ab21 : chkP (fun F => runL PP GN noE [] 40 115 F ((flat c_ab21).drop 9) tE_ab21 m_ab21) 4000 GN 115 [⟨.ret, tG_ab21, m_ab21⟩] (.o 0 []) [] = true := by kernel_rfl
theorem s_ab21 (hN : NoGo PP) (hM : PP.follows .mixedOrders = true) : StructSame PP GN [] 15 shA := by
  refine loopSame (fn := Tryz.f15) (c := c_ab21) hN hM (by kernel_rfl) (by kernel_rfl) pre_ab21 (by kernel_rfl) (by kernel_rfl) (by kernel_rfl) (by kernel_rfl) (by decide) rfl (by kernel_rfl)
    ⟨fun e he => (by
    simp only [List.mem_cons, List.not_mem_nil, or_false] at he
    subst he
    exact ⟨17, shMod, rfl, rfl, rfl, rfl, s_mods21 hN hM⟩), fun a ha => (by
    cases ha)⟩ ?_
  intro W xa xb da db hK ha hb hl
  rw [show (flat c_ab21).drop 6 = l0_ab21 :: (flat c_ab21).drop 7 from rfl]
  refine tail_loop (A2 := ∀ i ∈ ([49] : List Nat), da[i]? = db[i]?) (flatLoop hN hM w0_ab21 ⟨by decide, rfl, rfl⟩ (fun h => (by cases h)) (by decide) rfl ha hb (hl 48 (by simp))) (by kernel_rfl) (fun _ => ?_) (by simp)
  refine tail_piece (n := 1) hN hM p0_ab21 ?_
  rw [List.drop_drop]
  rw [show (flat c_ab21).drop 8 = l1_ab21 :: (flat c_ab21).drop 9 from rfl]
  refine tail_loop (A2 := ∀ i ∈ ([] : List Nat), da[i]? = db[i]?) (callLoop hN hM w1_ab21 ⟨by decide, rfl, rfl⟩ (by decide) (s_eff21 hN hM) hK ha hb (hl 49 (by simp))) (by kernel_rfl) (fun _ => ?_) (by simp)
  exact tail_end hN hM e_ab21 (by kernel_rfl) (fun i hi => by cases hi)
noncomputable def c_card21 : Code := (Tryz.f7.body).getD .skip
def m_card21 : AM := ⟨GN + 2, [⟨GN + 1, (letR shC.tags 2000).toArray, 30, true, false⟩, ⟨GN, (letR shC.tags 1000).toArray, 30, true, false⟩]⟩
noncomputable def tB_card21 : Tr := mkT 89 [(4, .bool false)]
noncomputable def tG_card21 : Tr := mkT 89 [(4, .bool true)]
noncomputable def tE_card21 : Tr := mkT 89 [(2, .pointer (some ⟨GN, 0, none⟩)), (3, .pointer (some ⟨GN + 1, 0, none⟩)), (4, .bool false)]
noncomputable def t0_card21 : Tr := mkT 89 [(2, .pointer (some ⟨GN, 0, none⟩)), (3, .pointer (some ⟨GN + 1, 0, none⟩)), (4, .bool false), (5, L 3 2)]
theorem pre_card21 : chkP (fun F => runL PP GN (fun _ => envOr (envEnts []) (envAs shC.tags [⟨14, 10, 3, 12⟩])) [] 400 89 F ((flat c_card21).take 4) (argsT 89 0 [.agg ⟨letR shC.tags 1000⟩, .agg ⟨letR shC.tags 2000⟩] (.leaf undef)) ⟨GN, []⟩) 4000 GN 89 [⟨.normal, t0_card21, m_card21⟩, ⟨.ret, tB_card21, m_card21⟩] (eqTo 1000 2000 3000 (lensTo [16]) (.o 1 []) itC') [] = true := by kernel_rfl
noncomputable def l0_card21 : Code := ((flat c_card21).drop 4).headD .skip
theorem w0_card21 : WalkCk PP GN 89 4000 2 40 l0_card21 t0_card21 tE_card21 tB_card21 m_card21 .ret (fun _ => envAgB 15 shA.tags 4000 5000 6000) noE (MRw 1016 2016 shA.tags) (FRw 1016 2016) (FeRw 1016) bodC := ⟨by kernel_rfl, by simp, by kernel_rfl, by kernel_rfl, by kernel_rfl, by kernel_rfl⟩
theorem e_card21 : chkP (fun F => runL PP GN noE [] 40 89 F ((flat c_card21).drop 5) tE_card21 m_card21) 4000 GN 89 [⟨.ret, tG_card21, m_card21⟩] (.o 0 []) [] = true := by kernel_rfl
theorem s_card21 (hN : NoGo PP) (hM : PP.follows .mixedOrders = true) : StructSame PP GN [] 7 shC := by
  refine loopSame (fn := Tryz.f7) (c := c_card21) hN hM (by kernel_rfl) (by kernel_rfl) pre_card21 (by kernel_rfl) (by kernel_rfl) (by kernel_rfl) (by kernel_rfl) (by decide) rfl (by kernel_rfl)
    ⟨fun e he => (by
    cases he), fun a ha => (by
    simp only [List.mem_cons, List.not_mem_nil, or_false] at ha
    subst ha
    exact ⟨by decide, rfl, s_line10 hN hM⟩)⟩ ?_
  intro W xa xb da db hK ha hb hl
  rw [show (flat c_card21).drop 4 = l0_card21 :: (flat c_card21).drop 5 from rfl]
  refine tail_loop (A2 := ∀ i ∈ ([] : List Nat), da[i]? = db[i]?) (callLoop hN hM w0_card21 ⟨by decide, rfl, rfl⟩ (by decide) (s_ab21 hN hM) hK ha hb (hl 16 (by simp))) (by kernel_rfl) (fun _ => ?_) (by simp)
  exact tail_end hN hM e_card21 (by kernel_rfl) (fun i hi => by cases hi)
end Go.Proofs.YtlgdmncioakkjaaGreatDoor
