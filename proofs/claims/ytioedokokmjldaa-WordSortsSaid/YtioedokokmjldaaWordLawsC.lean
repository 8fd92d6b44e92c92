/-
  THE LAWS OF LAYER 2, WALKED: Sorts. By an AI agent.
-/
import Derived.Test.YtioedokokmjldaaWordLaws
namespace Go.Proofs.Ytioedokokmjldaa
open Go.RowKit
open Wd (Bs)

theorem up_step {M : List Bs} (h : Wd.Up M) {k : Nat} {y z : Bs} (hy : M[k + 1]? = some y) (hz : M[k]? = some z) : z < y := by
  obtain ⟨h1, rfl⟩ := List.getElem?_eq_some_iff.1 hy
  obtain ⟨h2, rfl⟩ := List.getElem?_eq_some_iff.1 hz
  exact List.pairwise_iff_getElem.1 h k (k + 1) h2 h1 (by omega)
set_option maxHeartbeats 800000 in
set_option maxRecDepth 100000 in
theorem lawWordSorts (v : Value) (l : List Bs) (w : World) (hv : Strs w v l) (hl : ∀ x ∈ l, x.length ≤ 140737488355328) (hE : Env w) :
    Calls Try.prog 9 #[v] w fun e w' => e = .returned (.bool true) ∧ Below w.heap.size w w' := by
  have HE := Lib.hid hE
  have HV := Lib.hid hv
  clear hE
  obtain ⟨a, cap, rfl, n1, m1, _⟩ := hv
  cases hsm : smallB l with
  | false =>
    have HS := Lib.hid hsm
    clear hsm
    go_enter Try.func9, Try.ntmps9
    go_wp2_with fail
    refine (lawSmall _ l _ HV.out hl).mono ?_
    rw [HS.out]
    rintro e w1 ⟨rfl, rfl⟩
    go_wp2_with fail
    refine (aliveAt HE.out (Below.refl _ _)).mono ?_
    rintro e w1 ⟨rfl, hb⟩
    go_wp2_with fail
    go_ret
    exact ⟨rfl, hb⟩
  | true =>
    have HS := Lib.hid hsm
    have h2 : l.length ≤ 200 ∧ total l ≤ 2000 := by simpa [smallB] using hsm
    have h3 := h2.1
    have hup := Wd.sorted_up l
    have hmem := Wd.mem_sorted l
    have S1 := Lib.hid (wordSort (.slice a l.length cap) l w HV.out (by omega))
    clear hsm h2
    generalize Wd.sorted l = M at *
    have HUP := Lib.hid hup
    have HMEM := Lib.hid hmem
    clear hup hmem
    unfold maxLen at m1
    go_enter Try.func9, Try.ntmps9
    go_wp2_with fail
    refine (lawSmall _ l _ HV.out hl).mono ?_
    rw [HS.out]
    rintro e w1 ⟨rfl, rfl⟩
    go_wp2_with fail
    refine S1.out.mono ?_
    rintro e w1 ⟨v1, rfl, ho1, hb1⟩
    have HSM := Lib.hid ho1.strs
    have HSL := Lib.hid (HV.out.below hb1 (Nat.le_refl _))
    obtain ⟨a1, cap1, e1, n2, m2, hc1⟩ := ho1.strs
    subst e1
    unfold maxLen at m2
    have HC := Lib.hid hc1
    have HB := Lib.hid hb1
    have hcl : ∀ (i : Nat) x, l[i]? = some x → ∃ b o, a = some ⟨b, o, none⟩ ∧ b < w1.heap.size ∧ w1.cell? ⟨b, o + i, none⟩ = some (str x) := by
      obtain ⟨a', cap', e', _, _, h⟩ := HSL.out
      injection e' with e' _ _
      subst e'
      exact h
    have HCL := Lib.hid hcl
    clear hc1 hb1 ho1 hcl hl
    go_wp2_with fail
    go_loop [16] (fun i => ∃ k : Nat, k ≤ M.length ∧ i = .int .i64 (k : Int)) (fun i => M.length - (intOf i).toNat)
    case atStart => exact ⟨0, by omega, rfl⟩
    case round =>
      obtain ⟨k, hk, rfl⟩ := hrel
      by_cases hlt : k < M.length
      · obtain ⟨x, hx⟩ : ∃ x, M[k]? = some x := ⟨M[k], by simp [hlt]⟩
        obtain ⟨sx, hsx, ex⟩ := exists_bytes x
        obtain ⟨b, o, rfl, hb, hcell⟩ := HC.out k x hx
        rw [ex] at hcell
        have hix : 0 ≤ idx l x := idx_mem.2 ((HMEM.out x).1 (List.mem_of_getElem? hx))
        have hidx := wordIndex _ l sx w1 HSL.out
        rw [hsx] at hidx
        generalize idx l x = n at hix hidx
        have HI := Lib.hid hidx
        by_cases h0 : k = 0
        · have i0 : (k : Int) ≤ 0 := by omega
          clear hx hsx ex hidx h0
          go_wp2_with fail
          refine HI.out.mono ?_
          rintro e w2 ⟨rfl, rfl⟩
          go_wp2_with fail
          go_round
          case rel => exact ⟨k + 1, by omega, by go_num⟩
          case measure => simp [intOf]; omega
        · obtain ⟨k, rfl⟩ : ∃ j, k = j + 1 := ⟨k - 1, by omega⟩
          obtain ⟨z, hz⟩ : ∃ z, M[k]? = some z := ⟨M[k], by simp [show k < M.length by omega]⟩
          obtain ⟨sz, hsz, ez⟩ := exists_bytes z
          obtain ⟨b', o', e', _, hcz⟩ := HC.out k z hz
          injection e' with e'
          injection e' with e4 e5
          subst e4 e5
          rw [ez] at hcz
          have t1 : Op.bytesLess sz.toList sx.toList = true := less_yes hsz hsx (up_step HUP.out hx hz)
          have i1 : (0 : Int) ≤ (k : Int) := by omega
          have i2 : (k : Int) < (M.length : Int) := by omega
          have i3 : ((k + 1 : Nat) : Int) - 1 = (k : Int) := by omega
          clear hx hsx ex hidx hz hsz ez
          go_wp2_with fail
          refine HI.out.mono ?_
          rintro e w2 ⟨rfl, rfl⟩
          clear i3
          go_wp2_with fail
          go_round
          case rel => exact ⟨k + 2, by omega, by go_num⟩
          case measure => simp [intOf]; omega
      · obtain rfl : k = M.length := by omega
        go_wp2_with fail
        go_loop [41] (fun i => ∃ k : Nat, k ≤ l.length ∧ i = .int .i64 (k : Int)) (fun i => l.length - (intOf i).toNat)
        case atStart => exact ⟨0, by omega, rfl⟩
        case round =>
          obtain ⟨k, hk, rfl⟩ := hrel
          by_cases hlt : k < l.length
          · obtain ⟨x, hx⟩ : ∃ x, l[k]? = some x := ⟨l[k], by simp [hlt]⟩
            obtain ⟨sx, hsx, ex⟩ := exists_bytes x
            obtain ⟨b, o, rfl, hb, hcell⟩ := HCL.out k x hx
            rw [ex] at hcell
            have hix : 0 ≤ idx M x := idx_mem.2 ((HMEM.out x).2 (List.mem_of_getElem? hx))
            have hidx := wordIndex _ M sx w1 HSM.out
            rw [hsx] at hidx
            generalize idx M x = n at hix hidx
            have HI := Lib.hid hidx
            clear hx hsx ex hidx
            go_wp2_with fail
            refine HI.out.mono ?_
            rintro e w2 ⟨rfl, rfl⟩
            go_wp2_with fail
            go_round
            case rel => exact ⟨k + 1, by omega, by go_num⟩
            case measure => simp [intOf]; omega
          · have hle : (l.length : Int) ≤ (k : Int) := by omega
            go_wp2_with fail
            refine (aliveAt HE.out HB.out).mono ?_
            rintro e w5 ⟨rfl, hb⟩
            go_wp2_with fail
            go_ret
            exact ⟨rfl, hb⟩
end Go.Proofs.Ytioedokokmjldaa
