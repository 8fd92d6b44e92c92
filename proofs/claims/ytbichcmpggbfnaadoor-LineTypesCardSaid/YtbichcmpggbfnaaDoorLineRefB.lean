/-
  CONTRACTS OF LAYER 10's REFERENCE: joined, HasSub, IsSub; HasSub, IsSub and fit of the program. By an AI agent.
-/
import Derived.Test.YtbichcmpggbfnaaDoorLineRef
namespace Go.Proofs.YtbichcmpggbfnaaDoor
open Go.RowKit
open Wd (Bs)

/-- the words of ws at the bits of m below k -/
def wordsAt (ws : List Bs) (m k : Nat) : List Bs := (Num.bitsL m k).map fun i => ws.getD i.toNat []
def joinTo (ws : List Bs) (m : Nat) (c : Bs) (k : Nat) : Bs := Lib.join (wordsAt ws m k) c
def SmallP (ws : List Bs) : Prop := ws.length ≤ 6 ∧ ∀ k, k < ws.length → ws.getD k [] ≠ [] ∧ (ws.getD k []).length ≤ 8
theorem small_supers : SmallP supersL := ⟨by decide, by decide⟩
theorem small_types : SmallP typesL := ⟨by decide, by decide⟩
theorem wordsAt_yes {ws : List Bs} {m k : Nat} (h : Num.bitB m k = true) : wordsAt ws m (k + 1) = wordsAt ws m k ++ [ws.getD k []] := by
  unfold wordsAt; rw [Num.bitsL_yes h, List.map_append, List.map_singleton]; rfl
theorem wordsAt_no {ws : List Bs} {m k : Nat} (h : Num.bitB m k = false) : wordsAt ws m (k + 1) = wordsAt ws m k := by unfold wordsAt; rw [Num.bitsL_no h]
theorem wordsAt_ne {ws : List Bs} (hs : SmallP ws) {m k : Nat} (hk : k ≤ ws.length) : ∀ x ∈ wordsAt ws m k, x ≠ [] := by
  intro x hx
  unfold wordsAt Num.bitsL at hx
  rw [List.map_map] at hx
  obtain ⟨i, hi, rfl⟩ := List.mem_map.1 hx
  have hlt := List.mem_range.1 (List.mem_filter.1 hi).1
  exact (hs.2 i (by omega)).1
theorem join_nil {xs : List Bs} {sep : Bs} (h : ∀ x ∈ xs, x ≠ []) : Lib.join xs sep = [] ↔ xs = [] := by
  match xs with
  | [] => exact ⟨fun _ => rfl, fun _ => rfl⟩
  | y :: r =>
    rw [Lib.join_cons]
    have := h y (by simp)
    simp [this]
theorem joinTo_no {ws : List Bs} {m k : Nat} {c : Bs} (h : Num.bitB m k = false) : joinTo ws m c (k + 1) = joinTo ws m c k := by unfold joinTo; rw [wordsAt_no h]
theorem joinTo_first {ws : List Bs} (hs : SmallP ws) {m k : Nat} {c : Bs} (h : Num.bitB m k = true) (hk : k < ws.length) (h0 : joinTo ws m c k = []) : joinTo ws m c (k + 1) = ws.getD k [] := by
  unfold joinTo at *
  rw [wordsAt_yes h, (join_nil (wordsAt_ne hs (by omega))).1 h0]
  exact Lib.join_one _ _
theorem joinTo_next {ws : List Bs} {m k : Nat} {c : Bs} (h : Num.bitB m k = true) (h0 : joinTo ws m c k ≠ []) : joinTo ws m c (k + 1) = joinTo ws m c k ++ c ++ ws.getD k [] := by
  unfold joinTo at *
  rw [wordsAt_yes h, Wd.join_snoc _ _ _ (fun e => h0 (by rw [e]; rfl))]
  simp
theorem joinTo_len {ws : List Bs} (hs : SmallP ws) {m : Nat} {c : Bs} (hc : c.length = 1) (k : Nat) (hk : k ≤ ws.length) : (joinTo ws m c k).length ≤ 9 * k := by
  induction k with
  | zero => exact Nat.zero_le _
  | succ k ih =>
    have ih := ih (by omega)
    have := (hs.2 k (by omega)).2
    cases h : Num.bitB m k with
    | false => rw [joinTo_no h]; omega
    | true =>
      by_cases h0 : joinTo ws m c k = []
      · rw [joinTo_first hs h (by omega) h0]; omega
      · rw [joinTo_next h h0]; simp; simp at this; omega
theorem wordsAt_supers : ∀ s, s < 4 → wordsAt supersL s 2 = Ln.wordsOf s 0 := by decide +kernel
theorem wordsAt_types : ∀ t, t < 64 → wordsAt typesL t 6 = Ln.wordsOf t 2 := by decide +kernel
theorem bytes_nil {r : ByteArray} (h : r.data.toList = []) : r = ⟨#[]⟩ := by
  cases r with | mk d => cases d with | mk l => simp at h; subst h; rfl
theorem bytes_some {r : ByteArray} (h : r ≠ ⟨#[]⟩) : (!r.toList.isEmpty) = true := by
  have h1 := (Lib.bytes_beq_false_iff r ⟨#[]⟩).2 h
  have h2 : (⟨#[]⟩ : ByteArray).toList = [] := by unfold ByteArray.toList ByteArray.toList.loop; rfl
  rw [h2] at h1
  cases h3 : r.toList with
  | nil => rw [h3] at h1; simp at h1
  | cons a l => rfl
theorem bytes_cat (a b : ByteArray) : (a ++ b).data.toList = a.data.toList ++ b.data.toList := by simp
theorem bytes_len (r : ByteArray) : r.data.toList.length = r.size := by simp
set_option maxHeartbeats 1000000 in
set_option maxRecDepth 100000 in
theorem refJoined (v : Value) (ws : List Bs) (m : Nat) (sep : ByteArray) (w : World) (hv : Strs w v ws) (hs : SmallP ws) (hm : (m : Int) ≤ 1000) (hsep : sep.data.toList.length = 1) :
    Calls Tryd.prog 44 #[v, .int .i64 m, .string sep] w fun e w' => e = .returned (str (joinTo ws m sep.data.toList ws.length)) ∧ w = w' := by
  rcases hv.shape with ⟨b, c, rfl, rfl⟩ | ⟨b, o, c, rfl, p, q, n1, m1, d⟩
  · clear hs
    go_enter Tryd.func44, Tryd.ntmps44
    go_wp2_with fail
    refine wp_loop_rounds 1 ?_
    rw [rounds_succ]
    go_wp2_with fail
    go_ret
    exact ⟨rfl, rfl⟩
  · unfold maxLen at m1
    have D := Lib.hid d
    have HS := Lib.hid hs
    have hw6 := hs.1
    have HSEP := Lib.hid hsep
    have hsz1 : sep.size = 1 := (bytes_len sep).symm.trans hsep
    clear d hv hs hsep
    go_enter Tryd.func44, Tryd.ntmps44
    go_wp2_with fail
    go_loop [7, 8] (fun o i => ∃ (k : Nat) (r : ByteArray), k ≤ ws.length ∧ i = .int .i64 (k : Int) ∧ o = .string r ∧ r.data.toList = joinTo ws m sep.data.toList k) (fun _ i => ws.length - (intOf i).toNat)
    case atStart => exact ⟨0, ⟨#[]⟩, by omega, rfl, rfl, rfl⟩
    case round =>
      obtain ⟨k, r, hk5, rfl, rfl, hr⟩ := hrel
      have hlen := joinTo_len HS.out (m := m) HSEP.out k hk5
      have hsz : r.size ≤ 60 := by
        have := bytes_len r
        rw [hr] at this
        omega
      have HR := Lib.hid hr
      clear hlen
      by_cases hlt : k < ws.length
      · cases hbit : Num.bitB m k with
        | false =>
          have HB := Lib.hid (joinTo_no (ws := ws) (c := sep.data.toList) hbit)
          have HBIT := Lib.hid hbit
          clear hbit hr
          go_wp2_with fail
          refine (refBit m k _ (by omega) (by omega)).mono ?_
          rw [HBIT.out]
          rintro e w2 ⟨rfl, rfl⟩
          go_wp2_with fail
          go_round
          case rel => exact ⟨k + 1, r, by omega, by go_num, rfl, by rw [HB.out]; exact HR.out⟩
          case measure => simp [intOf]; omega
        | true =>
          obtain ⟨sx, hsx, ex⟩ := exists_bytes (ws.getD k [])
          have hgk : ws[k]? = some (ws.getD k []) := by simp [List.getD, hlt]
          have d1 : w.cell? ⟨b, o + k, none⟩ = some (.string sx) := (D.out k _ hgk).trans (congrArg some ex)
          have hsl : sx.size ≤ 8 := by
            have h1 := bytes_len sx
            rw [hsx] at h1
            have := (HS.out.2 k hlt).2
            omega
          have HSX := Lib.hid hsx
          have HBIT := Lib.hid hbit
          by_cases hem : joinTo ws m sep.data.toList k = []
          · have HB := Lib.hid (joinTo_first HS.out hbit hlt hem)
            have hre := bytes_nil (hr.trans hem)
            subst hre
            clear hbit hr hem hsx ex HR hgk
            go_wp2_with fail
            refine (refBit m k _ (by omega) (by omega)).mono ?_
            rw [HBIT.out]
            rintro e w2 ⟨rfl, rfl⟩
            go_wp2_with fail
            go_round
            case rel => exact ⟨k + 1, _, by omega, by go_num, rfl, by rw [HB.out, ← HSX.out]; simp⟩
            case measure => simp [intOf]; omega
          · have HB := Lib.hid (joinTo_next (c := sep.data.toList) hbit hem)
            have hne : (!r.toList.isEmpty) = true := bytes_some (fun e => hem (by rw [← hr, e]))
            clear hbit hr hem hsx ex hgk
            go_wp2_with fail
            refine (refBit m k _ (by omega) (by omega)).mono ?_
            rw [HBIT.out]
            rintro e w2 ⟨rfl, rfl⟩
            go_wp2_with fail
            go_round
            case rel => exact ⟨k + 1, _, by omega, by go_num, rfl, by rw [HB.out, ← HSX.out, ← HR.out]; simp⟩
            case measure => simp [intOf]; omega
      · obtain rfl : k = ws.length := by omega
        have HF : Hid (Value.string r = str (joinTo ws m sep.data.toList ws.length)) := Lib.hid (by rw [← HR.out]; rfl)
        clear hr
        go_wp2_with fail
        go_ret
        exact ⟨congrArg _ HF.out, rfl⟩
/-! subtypes -/
theorem idx_lt (l : List Bs) (x : Bs) : decide (idx l x < 0) = decide (x ∉ l) := by
  rw [Bool.eq_iff_iff, decide_eq_true_eq, decide_eq_true_eq, ← idx_mem]
  omega
theorem idx_ge (l : List Bs) (x : Bs) : decide (0 ≤ idx l x) = decide (x ∈ l) := by
  rw [Bool.eq_iff_iff, decide_eq_true_eq, decide_eq_true_eq, idx_mem]
theorem mem_words {x : Bs} : (x ∈ supersL ∨ x ∈ typesL) ↔ Ln.ix x < 8 := by
  rw [← List.mem_append, show supersL ++ typesL = Ln.words from rfl]
  unfold Ln.ix
  rw [show (8 : Nat) = Ln.words.length from rfl, List.findIdx_lt_length]
  simp
end Go.Proofs.YtbichcmpggbfnaaDoor
