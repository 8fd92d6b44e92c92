/-
  LAYER 5's LAWS: the chapter's fixed calls; SumOf, SumOpens, SumBack. By an AI agent.
-/
import Derived.Test.YtahaggliplcijaaSumWalksE
import Derived.Lib.SlBytesConst
namespace Go.Proofs.Ytahaggliplcijaa
open Go.RowKit

def nine : List UInt8 := [49, 50, 51, 52, 53, 54, 55, 56, 57]
theorem nine_of : Crc.ofS nine = 3421780262 := by decide +kernel
theorem nil_of : Crc.ofS [] = 0 := by decide +kernel
theorem nine_seal : Crc.sealS nine = [49, 50, 51, 52, 53, 54, 55, 56, 57, 38, 57, 244, 203] := by decide +kernel
/-- the text's bytes, laid -/
def nineO : Obj := .cells #[.int .u8 49, .int .u8 50, .int .u8 51, .int .u8 52, .int .u8 53, .int .u8 54, .int .u8 55, .int .u8 56, .int .u8 57] 5 (9, 10)
theorem nine_lit (w : World) : Bytes (w.alloc nineO) (.slice (some ⟨w.heap.size, 0, none⟩) 9 9) nine := by
  refine ⟨_, _, rfl, Nat.le_refl _, by decide, fun e => by simp at e, fun i x hx => ⟨w.heap.size, 0, rfl, Nat.zero_le _, by simp, by simp, ?_⟩⟩
  unfold nineO
  rw [World.cell?_alloc_mark]
  have h : (nine.map encB)[i]? = some (encB x) := by rw [List.getElem?_map, hx]; rfl
  rw [Nat.zero_add]
  rw [← h]
  show _ = (nine.map encB)[i]?
  simp [nine, encB]
set_option maxHeartbeats 1000000 in
set_option maxRecDepth 100000 in
theorem alive (w : World) : Calls Try.prog 8 #[] w fun e w' => e = .returned (.bool true) ∧ Below w.heap.size w w' := by
  have kc := fun (W : World) (C : Array Value) (n c : Nat) => Lib.run_convert_bytes_const (P := Try.prog) W 22 5 C n c Try.underlying22 Try.underlying5
  go_enter Try.func8, Try.ntmps8
  go_wp2_with fail
  refine (sumSeal _ nine _ (nine_lit w) (by decide)).mono ?_
  rw [nine_seal]
  rintro e w1 ⟨v1, rfl, ho, hb⟩
  have hb01 := (below_alloc1 w nineO).trans (hb.mono (by simp))
  rcases ho.shape with ⟨-, e⟩ | ⟨g, cap, rfl, hg, hgs, hc1, hc2, hcell⟩
  · cases e
  have hb2 := below_alloc1 w1 nineO
  have c9 := (hb2.cell (p := ⟨g, 9, none⟩) hgs).trans (hcell 9 38 rfl)
  have c12 := (hb2.cell (p := ⟨g, 12, none⟩) hgs).trans (hcell 12 203 rfl)
  have hb02 := hb01.trans (hb2.mono hb01.size)
  unfold encB at c9 c12
  have e9 : ((38 : UInt8).toNat : Int) = 38 := rfl
  have e12 : ((203 : UInt8).toNat : Int) = 203 := rfl
  rw [e9] at c9
  rw [e12] at c12
  unfold maxLen at hc2
  have hn := nine_lit w1
  simp only [List.length_cons, List.length_nil] at hc1
  clear ho hb hcell e9 e12
  go_wp2_with fail
  refine (sumOf _ nine _ hn (by decide)).mono ?_
  rw [nine_of]
  rintro e w2 ⟨rfl, rfl⟩
  go_wp2_with fail
  refine (sumOf (.slice none 0 0) [] _ (RowIn.nil _ _ _ _) (by decide)).mono ?_
  rw [nil_of]
  rintro e w2 ⟨rfl, rfl⟩
  go_wp2_with fail
  go_ret
  exact ⟨rfl, hb02⟩
/-- a list too long: the fixed calls alone -/
theorem len_gt {l : List UInt8} {n : Nat} (h : n < l.length) : (n : Int) < (l.length : Int) := by omega
set_option maxHeartbeats 1000000 in
set_option maxRecDepth 100000 in
theorem lawOf (v : Value) (l : List UInt8) (w : World) (hv : Bytes w v l) (hl : l.length ≤ 140737488355328) :
    Calls Try.prog 3 #[v] w fun e w' => e = .returned (.bool true) ∧ Below w.heap.size w w' := by
  have HV := hv
  obtain ⟨a, c, rfl, -⟩ := hv
  by_cases hm : 4000 < l.length
  · have hm' : (4000 : Int) < (l.length : Int) := by omega
    go_enter Try.func3, Try.ntmps3
    go_wp2_with fail
    refine (alive _).mono ?_
    rintro e w1 ⟨rfl, hb⟩
    go_wp2_with fail
    go_ret
    exact ⟨rfl, hb⟩
  · have hm' : ¬ (4000 : Int) < (l.length : Int) := by omega
    have hl' : l.length ≤ 100000 := by omega
    clear hm
    go_enter Try.func3, Try.ntmps3
    go_wp2_with fail
    refine (sumOf _ l _ HV hl).mono ?_
    rintro e w1 ⟨rfl, rfl⟩
    go_wp2_with fail
    refine (refOf _ l _ HV hl).mono ?_
    rintro e w1 ⟨rfl, rfl⟩
    go_wp2_with fail
    refine (sumSeal _ l _ HV hl').mono ?_
    rintro e w1 ⟨v1, rfl, ho1, hb1⟩
    go_wp2_with fail
    refine (refSeal _ l _ (HV.under hb1 (Nat.le_refl _)) hl').mono ?_
    rintro e w2 ⟨v2, rfl, ho2, hb2⟩
    have hb02 := hb1.trans (hb2.mono hb1.size)
    go_wp2_with fail
    refine (refSame _ _ _ _ _ (ho1.row.all.under hb2 (Nat.le_refl _)) ho2.row.all).mono ?_
    rw [sameB_self]
    rintro e w3 ⟨rfl, hb3⟩
    have hb03 := hb02.trans (hb3.mono hb02.size)
    go_wp2_with fail
    refine (alive _).mono ?_
    rintro e w4 ⟨rfl, hb4⟩
    go_wp2_with fail
    go_ret
    exact ⟨rfl, hb03.trans (hb4.mono hb03.size)⟩
end Go.Proofs.Ytahaggliplcijaa
