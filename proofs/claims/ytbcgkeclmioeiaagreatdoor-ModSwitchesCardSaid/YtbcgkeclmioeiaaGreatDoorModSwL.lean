/-
  THE LAW Switches OF LAYER 15 (mod). By an AI agent.
-/
import Derived.Test.YtbcgkeclmioeiaaGreatDoorSwGG
import Derived.Test.YtbcgkeclmioeiaaGreatDoorSwGI
import Derived.Test.YtbcgkeclmioeiaaGreatDoorModSwW
import Derived.Test.YtbcgkeclmioeiaaGreatDoorSwGF
namespace Go.Proofs.YtbcgkeclmioeiaaGreatDoor
open Go.RowKit
open Wd (Bs)

theorem ApplyRes.look {x : TrD} {w : World} {e : Ending} {w' : World} (h : ApplyRes x w e w') : (∃ s3 a3, e = .returned (.agg (trV x s3 a3)) ∧ Strs w' s3 x.subs ∧ AbRow none w' a3 x.abs) ∧ Below w.heap.size w w' := by
  obtain ⟨⟨s2, a2, he, h1, h2⟩, h3⟩ := h
  exact ⟨⟨s2, a2, he, h1.strs, h2.read⟩, h3⟩
theorem lawSameV (x y : TrD) (hxy : x = y) (sv av tv bv : Value) (w : World) (ok : TrOk x) (hs1 : Strs w sv x.subs) (hs2 : Strs w tv y.subs) (ha : AbRow none w av x.abs) (hb : AbRow none w bv y.abs) :
    Calls Tryz.prog 29 #[.agg (trV x sv av), .agg (trV y tv bv)] w fun e w' => e = .returned (.bool true) ∧ Below w.heap.size w w' := by
  subst hxy
  exact lawSame x sv av tv bv w ok.co ok.abs hs1 hs2 ha hb
theorem lawModSwitches (x : TrD) (sv av : Value) (k n m : Int) (s : ByteArray) (f : Fil.Flt) (fs : ByteArray) (you cnt : Int) (hf : f.sub = fs.data.toList) (ok : Part 50 7 x.co) (oka : ∀ d ∈ x.abs, AbOk0 d) (w : World) (hE : Env w) (hs : Strs w sv x.subs) (ha : AbRow none w av x.abs) :
    Calls Tryz.prog 11 #[.agg (trV x sv av), .agg (mO k n m s (cellsF f fs)), .agg #[.int .i64 you, .int .i64 cnt]] w fun e w' => e = .returned (.bool true) ∧ Below w.heap.size w w' := by
  have HL : Hid (∀ W, Below w.heap.size w W → _) := Lib.hid fun W hb => modAliveS W (hE.below hb)
  have HFW : Hid (∀ W, Below w.heap.size w W → _) := Lib.hid fun W hb => lawFewB x sv av W ok oka (hs.below hb (Nat.le_refl _)) (ha.below hb (Nat.le_refl _))
  cases hw : fewB x with
  | false => rw [hw] at HFW; exact swFew x sv av k n m s f fs you cnt w ok HL HFW
  | true =>
    rw [hw] at HFW
    have hF := fewB_iff.1 hw
    have T0 := few_tr ok oka hF
    have HSH : Hid (∀ W, Below w.heap.size w W → _) := Lib.hid fun W _ => modShort k n m s f fs W
    cases hsh : (decide ((s.size : Int) ≤ 100) && decide ((fs.size : Int) ≤ 100)) with
    | false => rw [hsh] at HSH; exact swShort x sv av k n m s f fs you cnt w ok HL HFW HSH
    | true =>
      rw [hsh] at HSH
      obtain ⟨z1, z2⟩ : (s.size : Int) ≤ 100 ∧ (fs.size : Int) ≤ 100 := by simpa using hsh
      have hsub := hF.2.1
      obtain ⟨M, hM⟩ : ∃ M : Mo.Md, M = ⟨k, n, m, s.data.toList, f⟩ := ⟨_, rfl⟩
      have hMk : M.k = k := by rw [hM]
      obtain ⟨x1, h1⟩ : ∃ x1, x1 = applyT x M you cnt := ⟨_, rfl⟩
      obtain ⟨x2, h2⟩ : ∃ x2, x2 = applyT x1 M you cnt := ⟨_, rfl⟩
      have l1 : x1.subs.length ≤ x.subs.length + 5 := by rw [h1]; exact (apply_keeps M you cnt x).2.1
      have T1 : TrOk x1 := by rw [h1]; exact apply_ok T0 (by omega)
      have T2 : TrOk x2 := by rw [h2]; exact apply_ok T1 (by omega)
      have A1 : Hid (∀ W, Below w.heap.size w W → _) := Lib.hid fun W hb => (modApply x sv av T0 k n m s f fs you cnt hf (by omega) (by omega) W (hE.below hb) (hs.below hb (Nat.le_refl _)) (ha.below hb (Nat.le_refl _))).mono fun e w' h => ApplyRes.look h
      have A2 : Hid (∀ W s2 a2, Below w.heap.size w W → Strs W s2 x1.subs → AbRow none W a2 x1.abs → _) := Lib.hid fun W s2 a2 hb h3 h4 => (modApply x1 s2 a2 T1 k n m s f fs you cnt hf (by omega) (by omega) W (hE.below hb) h3 h4).mono fun e w' h => ApplyRes.look h
      have HI : Hid (∀ W, Below w.heap.size w W → _) := Lib.hid fun W hb => modIs k n m s f fs hf (by unfold maxLen; omega) (by unfold maxLen; omega) W (hE.below hb)
      rw [← hM, ← h1] at A1
      rw [← hM, ← h2] at A2
      rw [← hM] at HI
      cases hv : Mo.okB M with
      | false =>
        rw [hv] at HI
        have e1 : x1 = x := by rw [h1]; exact apply_no hv
        exact swBad x x1 x2 sv av k n m s f fs you cnt w ok T1.co T2.co HL HFW HSH A1 A2 HI (Lib.hid fun W s2 a2 hb h3 h4 => lawSameV x1 x e1 s2 a2 sv av W T1 h3 (hs.below hb (Nat.le_refl _)) h4 (ha.below hb (Nat.le_refl _)))
      | true =>
        rw [hv] at HI
        by_cases h14 : k = 14
        · obtain ⟨e1, e2⟩ := apply_switch (x := x) (you := you) (n := cnt) hv (hMk.trans h14)
          rw [← h1] at e1 e2
          rw [← h2] at e2
          exact swSwitch x x1 x2 sv av k n m s f fs you cnt w ok T1.co T2.co HL HFW HSH A1 A2 HI (by simpa using h14) (by rw [e1]; simp) (by rw [e1]; simp) (Lib.hid fun W s3 a3 hb h3 h4 => lawSameV x2 x e2 s3 a3 sv av W T2 h3 (hs.below hb (Nat.le_refl _)) h4 (ha.below hb (Nat.le_refl _)))
        · by_cases h13 : k = 13
          · exact swAdd x x1 x2 sv av k n m s f fs you cnt w ok T1.co T2.co HL HFW HSH A1 A2 HI (by simpa using h14) (by simpa using h13)
          · have e1 : x2 = x1 := by
              have := apply_twice (x := x) (you := you) (n := cnt) hv (fun h => h13 (hMk.symm.trans h)) (fun h => h14 (hMk.symm.trans h))
              rwa [← h1, ← h2] at this
            exact swOther x x1 x2 sv av k n m s f fs you cnt w ok T1.co T2.co HL HFW HSH A1 A2 HI (by simpa using h14) (by simpa using h13) (Lib.hid fun W s2 a2 s3 a3 hb h3 h4 h5 h6 => lawSameV x1 x2 e1.symm s2 a2 s3 a3 W T1 h3 h5 h4 h6)
end Go.Proofs.YtbcgkeclmioeiaaGreatDoor
