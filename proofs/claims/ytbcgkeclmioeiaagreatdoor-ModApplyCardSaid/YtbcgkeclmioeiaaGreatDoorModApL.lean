/-
 THE LAW Apply OF LAYER 15 (mod). By an AI agent.
-/
import Derived.Test.YtbcgkeclmioeiaaGreatDoorSwGG
import Derived.Test.YtbcgkeclmioeiaaGreatDoorSwGI
import Derived.Test.YtbcgkeclmioeiaaGreatDoorModApW
import Derived.Test.YtbcgkeclmioeiaaGreatDoorApR
import Derived.Test.YtbcgkeclmioeiaaGreatDoorSwGJ
import Derived.Test.YtbcgkeclmioeiaaGreatDoorFLineAR
import Derived.Test.YtbcgkeclmioeiaaGreatDoorSwGF
namespace Go.Proofs.YtbcgkeclmioeiaaGreatDoor
open Go.RowKit
open Wd (Bs)

theorem rApply (x : TrD) (sv av : Value) (ok : TrOk x) (k n m : Int) (s : ByteArray) (f : Fil.Flt) (fs : ByteArray) (you cnt : Int) (hf : f.sub = fs.data.toList) (hss : s.size ≤ 1000000) (hfs : fs.size ≤ 1000000) (w : World) (hs : Strs w sv x.subs) (ha : AbRow none w av x.abs) :
  Calls Tryz.prog 31 #[.agg (trV x sv av), .agg (mO k n m s (cellsF f fs)), .int .i64 you, .int .i64 cnt] w fun e w' => (∃ s2 a2, e = .returned (.agg (trV (applyT x ⟨k, n, m, s.data.toList, f⟩ you cnt) s2 a2)) ∧ Strs w' s2 (applyT x ⟨k, n, m, s.data.toList, f⟩ you cnt).subs ∧ AbRow none w' a2 (applyT x ⟨k, n, m, s.data.toList, f⟩ you cnt).abs) ∧ Below w.heap.size w w' := by
 have HI : Hid (∀ W, Below w.heap.size w W → _) := Lib.hid fun W _ => refIs15 k n m s f fs hf (by unfold maxLen; omega) (by unfold maxLen; omega) W
 unfold applyT
 cases hv : Mo.okB ⟨k, n, m, s.data.toList, f⟩ with
 | false =>
  rw [hv] at HI
  rw [if_neg (by decide)]
  exact rApplyNo x sv av ok k n m s f fs you cnt w hs ha HI
 | true =>
  rw [hv] at HI
  rw [if_pos rfl]
  have hk : Mo.isKind k = true := by
   cases hk : Mo.isKind k with
   | true => rfl
   | false => rw [Mo.ok_not (x := ⟨k, n, m, s.data.toList, f⟩) hk] at hv; cases hv
  have hl := ok.subs
  exact rApplyYes x sv av ok k n m s f fs you cnt w hs ha HI hk (Lib.hid fun W => same_below (refClamp cnt W)) (Lib.hid fun W => same_below (refAdd x.p n W)) (Lib.hid fun W => same_below (refAdd x.t m W))
   (Lib.hid fun W hb => (refAdd10 x.a x.b sv x.subs s W (hs.below hb (Nat.le_refl _)) (by omega) (by unfold maxLen; omega)).mono fun e w' ⟨v, h1, h2, h3⟩ => ⟨⟨v, h1, h2⟩, h3⟩)
theorem lawModApply (x : TrD) (sv av : Value) (k n m : Int) (s : ByteArray) (f : Fil.Flt) (fs : ByteArray) (you cnt : Int) (hf : f.sub = fs.data.toList) (ok : Part 50 7 x.co) (oka : ∀ d ∈ x.abs, AbOk0 d) (w : World) (hE : Env w) (hs : Strs w sv x.subs) (ha : AbRow none w av x.abs) :
  Calls Tryz.prog 10 #[.agg (trV x sv av), .agg (mO k n m s (cellsF f fs)), .agg #[.int .i64 you, .int .i64 cnt]] w fun e w' => e = .returned (.bool true) ∧ Below w.heap.size w w' := by
 have HL : Hid (∀ W, Below w.heap.size w W → _) := Lib.hid fun W hb => modAliveS W (hE.below hb)
 have HFW : Hid (∀ W, Below w.heap.size w W → _) := Lib.hid fun W hb => lawFewB x sv av W ok oka (hs.below hb (Nat.le_refl _)) (ha.below hb (Nat.le_refl _))
 cases hw : fewB x with
 | false => rw [hw] at HFW; exact apFew x sv av k n m s f fs you cnt w ok HL HFW
 | true =>
  rw [hw] at HFW
  have hF := fewB_iff.1 hw
  have T0 := few_tr ok oka hF
  have HSH : Hid (∀ W, Below w.heap.size w W → _) := Lib.hid fun W _ => modShort k n m s f fs W
  cases hsh : (decide ((s.size : Int) ≤ 100) && decide ((fs.size : Int) ≤ 100)) with
  | false => rw [hsh] at HSH; exact apShort x sv av k n m s f fs you cnt w ok HL HFW HSH
  | true =>
   rw [hsh] at HSH
   obtain ⟨z1, z2⟩ : (s.size : Int) ≤ 100 ∧ (fs.size : Int) ≤ 100 := by simpa using hsh
   have hsub := hF.2.1
   have T1 : TrOk (applyT x ⟨k, n, m, s.data.toList, f⟩ you cnt) := apply_ok T0 (by omega)
   exact apGo x (applyT x ⟨k, n, m, s.data.toList, f⟩ you cnt) sv av k n m s f fs you cnt w ok HL HFW HSH
    (Lib.hid fun W hb => (modApply x sv av T0 k n m s f fs you cnt hf (by omega) (by omega) W (hE.below hb) (hs.below hb (Nat.le_refl _)) (ha.below hb (Nat.le_refl _))).mono fun e w' ⟨⟨s2, a2, he, h1, h2⟩, h3⟩ => ⟨⟨s2, a2, he, h1.strs, h2.read⟩, h3⟩)
    (Lib.hid fun W hb => rApply x sv av T0 k n m s f fs you cnt hf (by omega) (by omega) W (hs.below hb (Nat.le_refl _)) (ha.below hb (Nat.le_refl _)))
    (Lib.hid fun W s2 a2 s3 a3 _ h1 h2 h3 h4 => lawSame _ s2 a2 s3 a3 W T1.co T1.abs h1 h3 h2 h4)
end Go.Proofs.YtbcgkeclmioeiaaGreatDoor
