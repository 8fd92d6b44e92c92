/-
  CONTRACTS OF LAYER 10's REFERENCE that layer 13 reaches: IsSub, TypesText. By an AI agent.
-/
import Derived.Test.YtkohfomiigcifaaGreatDoorFLine
import Derived.Test.YtkohfomiigcifaaGreatDoorFWordR
namespace Go.Proofs.YtkohfomiigcifaaGreatDoor
open Go.RowKit
open Wd (Bs)

set_option maxRecDepth 100000 in
theorem refBit (m i : Nat) (w : World) (hm : (m : Int) ≤ 9223372036854775807) (hi : (i : Int) ≤ 100) :
    Calls Tryz.prog 143 #[.int .i64 m, .int .i64 i] w fun e w' => e = .returned (.bool (Num.bitB m i)) ∧ w = w' := by
  go_enter Tryz.func143, Tryz.ntmps143
  go_wp2
  go_loop [0, 5] (fun x j => ∃ k q : Nat, k ≤ i ∧ j = .int .i64 (k : Int) ∧ x = .int .i64 (q : Int) ∧ (q : Int) ≤ 9223372036854775807 ∧ Hid (q = m / 2 ^ k)) (fun _ j => i - (intOf j).toNat)
  case atStart => exact ⟨0, m, by omega, rfl, rfl, hm, Lib.hid (by simp)⟩
  case round =>
    obtain ⟨k, q, hk, rfl, rfl, hq, HQ⟩ := hrel
    by_cases hlt : k < i
    · go_wp2
      go_round
      case rel => exact ⟨k + 1, q / 2, by omega, by go_num, by go_num, by omega, Lib.hid (by rw [HQ.out, Num.half_pow])⟩
      case measure => simp [intOf]; omega
    · obtain rfl : k = i := by omega
      go_wp2
      go_ret
      exact ⟨ret_bool (by rw [Num.half_test, HQ.out]; rfl), rfl⟩
set_option maxHeartbeats 400000 in
set_option maxRecDepth 100000 in
theorem refIndex10 (v : Value) (l : List Bs) (s : ByteArray) (w : World) (hv : Strs w v l) :
    Calls Tryz.prog 117 #[v, .string s] w fun e w' => e = .returned (.int .i64 (idx l s.data.toList)) ∧ w = w' := by
  rcases hv.shape with ⟨b, k, rfl, rfl⟩ | ⟨b, o, k, rfl, p, q, n1, m1, d⟩
  · have hm := Lib.hid (idx_miss (l := []) (x := s.data.toList) (fun j y hj => by simp at hj))
    go_enter Tryz.func117, Tryz.ntmps117
    go_wp2
    refine wp_loop_rounds 1 ?_
    rw [rounds_succ]
    go_wp2
    go_ret
    exact ⟨ret_int hm.out.symm, rfl⟩
  · unfold maxLen at m1
    have D := Lib.hid d
    clear d hv
    go_enter Tryz.func117, Tryz.ntmps117
    go_wp2
    go_loop [5] (fun i => ∃ k : Nat, k ≤ l.length ∧ i = .int .i64 (k : Int) ∧ NotTo l s.data.toList k) (fun i => l.length - (intOf i).toNat)
    case atStart => exact ⟨0, by omega, rfl, fun j y hj => by omega⟩
    case round =>
      obtain ⟨j, hj, rfl, hno⟩ := hrel
      by_cases hlt : j < l.length
      · obtain ⟨x, hx⟩ : ∃ x, l[j]? = some x := ⟨l[j], by simp [hlt]⟩
        obtain ⟨sx, hsx, ex⟩ := exists_bytes x
        have d1 : w.cell? ⟨b, o + j, none⟩ = some (.string sx) := (D.out j x hx).trans (congrArg some ex)
        have HX := Lib.hid hx
        have SX := Lib.hid hsx
        clear hx hsx ex
        by_cases hxs : x = s.data.toList
        · have ht : (sx.toList == s.toList) = true := bytes_eq (by rw [SX.out, hxs])
          have hh := Lib.hid (idx_hit (by rw [HX.out, hxs]) hno)
          clear hxs
          go_wp2
          go_ret
          exact ⟨ret_int hh.out.symm, rfl⟩
        · have ht : (sx.toList == s.toList) = false := bytes_ne (by rw [SX.out]; exact hxs)
          go_wp2
          go_round
          case rel => exact ⟨j + 1, by omega, by go_num, hno.next HX.out hxs⟩
          case measure => simp [intOf]; omega
      · obtain rfl : j = l.length := by omega
        have hm := Lib.hid (idx_miss hno)
        go_wp2
        go_ret
        exact ⟨ret_int hm.out.symm, rfl⟩
def supersL : List Bs := Ln.words.take 2
def typesL : List Bs := Ln.words.drop 2
set_option maxRecDepth 100000 in
theorem refSupers (w : World) :
    Calls Tryz.prog 118 #[] w (StrsRes supersL w) := by
  go_enter Tryz.func118, Tryz.ntmps118
  go_wp2_with fail
  go_ret
  exact ⟨_, rfl, OwnStrs.lit _ supersL (by decide), (Below.refl _ _).alloc (Nat.le_refl _) _⟩
set_option maxRecDepth 100000 in
theorem refTypes (w : World) :
    Calls Tryz.prog 119 #[] w (StrsRes typesL w) := by
  go_enter Tryz.func119, Tryz.ntmps119
  go_wp2_with fail
  go_ret
  exact ⟨_, rfl, OwnStrs.lit _ typesL (by decide), (Below.refl _ _).alloc (Nat.le_refl _) _⟩
theorem pow_le (k : Nat) (h : k ≤ 5) : 2 ^ k ≤ 32 := by
  have : ∀ k, k < 6 → 2 ^ k ≤ 32 := by decide
  exact this k (by omega)

/-- the words of ws at the bits of m below k -/
def wordsAt (ws : List Bs) (m k : Nat) : List Bs := (Num.bitsL m k).map fun i => ws.getD i.toNat []
def joinTo (ws : List Bs) (m : Nat) (c : Bs) (k : Nat) : Bs := Lib.join (wordsAt ws m k) c
def SmallP (ws : List Bs) : Prop := ws.length ≤ 6 ∧ ∀ k, k < ws.length → ws.getD k [] ≠ [] ∧ (ws.getD k []).length ≤ 8
theorem small_supers : SmallP supersL := ⟨by decide, by decide⟩
theorem small_types : SmallP typesL := ⟨by decide, by decide⟩
theorem wordsAt_yes {ws : List Bs} {m k : Nat} (h : Num.bitB m k = true) : wordsAt ws m (k + 1) = wordsAt ws m k ++ [ws.getD k []] := by
  unfold wordsAt; rw [Num.bitsL_yes h, List.map_append, List.map_singleton]; rfl
theorem wordsAt_no {ws : List Bs} {m k : Nat} (h : Num.bitB m k = false) : wordsAt ws m (k + 1) = wordsAt ws m k := by unfold wordsAt; rw [Num.bitsL_no h]
theorem wordsAt_ne {ws : List Bs} (hs : SmallP ws) {m k : Nat} (hk : k ≤ ws.length) : ∀ x ∈ wordsAt ws m k, x ≠ [] := by
  intro x hx
  unfold wordsAt Num.bitsL at hx
  rw [List.map_map] at hx
  obtain ⟨i, hi, rfl⟩ := List.mem_map.1 hx
  have hlt := List.mem_range.1 (List.mem_filter.1 hi).1
  exact (hs.2 i (by omega)).1
theorem join_nil {xs : List Bs} {sep : Bs} (h : ∀ x ∈ xs, x ≠ []) : Lib.join xs sep = [] ↔ xs = [] := by
  match xs with
  | [] => exact ⟨fun _ => rfl, fun _ => rfl⟩
  | y :: r =>
    rw [Lib.join_cons]
    have := h y (by simp)
    simp [this]
theorem joinTo_no {ws : List Bs} {m k : Nat} {c : Bs} (h : Num.bitB m k = false) : joinTo ws m c (k + 1) = joinTo ws m c k := by unfold joinTo; rw [wordsAt_no h]
theorem joinTo_first {ws : List Bs} (hs : SmallP ws) {m k : Nat} {c : Bs} (h : Num.bitB m k = true) (hk : k < ws.length) (h0 : joinTo ws m c k = []) : joinTo ws m c (k + 1) = ws.getD k [] := by
  unfold joinTo at *
  rw [wordsAt_yes h, (join_nil (wordsAt_ne hs (by omega))).1 h0]
  exact Lib.join_one _ _
theorem joinTo_next {ws : List Bs} {m k : Nat} {c : Bs} (h : Num.bitB m k = true) (h0 : joinTo ws m c k ≠ []) : joinTo ws m c (k + 1) = joinTo ws m c k ++ c ++ ws.getD k [] := by
  unfold joinTo at *
  rw [wordsAt_yes h, Wd.join_snoc _ _ _ (fun e => h0 (by rw [e]; rfl))]
  simp
theorem joinTo_len {ws : List Bs} (hs : SmallP ws) {m : Nat} {c : Bs} (hc : c.length = 1) (k : Nat) (hk : k ≤ ws.length) : (joinTo ws m c k).length ≤ 9 * k := by
  induction k with
  | zero => exact Nat.zero_le _
  | succ k ih =>
    have ih := ih (by omega)
    have := (hs.2 k (by omega)).2
    cases h : Num.bitB m k with
    | false => rw [joinTo_no h]; omega
    | true =>
      by_cases h0 : joinTo ws m c k = []
      · rw [joinTo_first hs h (by omega) h0]; omega
      · rw [joinTo_next h h0]; simp; simp at this; omega
theorem wordsAt_supers : ∀ s, s < 4 → wordsAt supersL s 2 = Ln.wordsOf s 0 := by decide +kernel
theorem wordsAt_types : ∀ t, t < 64 → wordsAt typesL t 6 = Ln.wordsOf t 2 := by decide +kernel
theorem bytes_nil {r : ByteArray} (h : r.data.toList = []) : r = ⟨#[]⟩ := by
  cases r with | mk d => cases d with | mk l => simp at h; subst h; rfl
theorem bytes_some {r : ByteArray} (h : r ≠ ⟨#[]⟩) : (!r.toList.isEmpty) = true := by
  have h1 := (Lib.bytes_beq_false_iff r ⟨#[]⟩).2 h
  have h2 : (⟨#[]⟩ : ByteArray).toList = [] := by unfold ByteArray.toList ByteArray.toList.loop; rfl
  rw [h2] at h1
  cases h3 : r.toList with
  | nil => rw [h3] at h1; simp at h1
  | cons a l => rfl
theorem bytes_len (r : ByteArray) : r.data.toList.length = r.size := by simp
set_option maxHeartbeats 1000000 in
set_option maxRecDepth 100000 in
theorem refJoined (v : Value) (ws : List Bs) (m : Nat) (sep : ByteArray) (w : World) (hv : Strs w v ws) (hs : SmallP ws) (hm : (m : Int) ≤ 1000) (hsep : sep.data.toList.length = 1) :
    Calls Tryz.prog 127 #[v, .int .i64 m, .string sep] w fun e w' => e = .returned (str (joinTo ws m sep.data.toList ws.length)) ∧ w = w' := by
  rcases hv.shape with ⟨b, c, rfl, rfl⟩ | ⟨b, o, c, rfl, p, q, n1, m1, d⟩
  · clear hs
    go_enter Tryz.func127, Tryz.ntmps127
    go_wp2_with fail
    refine wp_loop_rounds 1 ?_
    rw [rounds_succ]
    go_wp2_with fail
    go_ret
    exact ⟨rfl, rfl⟩
  · unfold maxLen at m1
    have D := Lib.hid d
    have HS := Lib.hid hs
    have hw6 := hs.1
    have HSEP := Lib.hid hsep
    have hsz1 : sep.size = 1 := (bytes_len sep).symm.trans hsep
    clear d hv hs hsep
    go_enter Tryz.func127, Tryz.ntmps127
    go_wp2_with fail
    go_loop [7, 8] (fun o i => ∃ (k : Nat) (r : ByteArray), k ≤ ws.length ∧ i = .int .i64 (k : Int) ∧ o = .string r ∧ r.data.toList = joinTo ws m sep.data.toList k) (fun _ i => ws.length - (intOf i).toNat)
    case atStart => exact ⟨0, ⟨#[]⟩, by omega, rfl, rfl, rfl⟩
    case round =>
      obtain ⟨k, r, hk5, rfl, rfl, hr⟩ := hrel
      have hlen := joinTo_len HS.out (m := m) HSEP.out k hk5
      have hsz : r.size ≤ 60 := by
        have := bytes_len r
        rw [hr] at this
        omega
      have HR := Lib.hid hr
      clear hlen
      by_cases hlt : k < ws.length
      · cases hbit : Num.bitB m k with
        | false =>
          have HB := Lib.hid (joinTo_no (ws := ws) (c := sep.data.toList) hbit)
          have HBIT := Lib.hid hbit
          clear hbit hr
          go_wp2_with fail
          refine (refBit m k _ (by omega) (by omega)).mono ?_
          rw [HBIT.out]
          rintro e w2 ⟨rfl, rfl⟩
          go_wp2_with fail
          go_round
          case rel => exact ⟨k + 1, r, by omega, by go_num, rfl, by rw [HB.out]; exact HR.out⟩
          case measure => simp [intOf]; omega
        | true =>
          obtain ⟨sx, hsx, ex⟩ := exists_bytes (ws.getD k [])
          have hgk : ws[k]? = some (ws.getD k []) := by simp [List.getD, hlt]
          have d1 : w.cell? ⟨b, o + k, none⟩ = some (.string sx) := (D.out k _ hgk).trans (congrArg some ex)
          have hsl : sx.size ≤ 8 := by
            have h1 := bytes_len sx
            rw [hsx] at h1
            have := (HS.out.2 k hlt).2
            omega
          have HSX := Lib.hid hsx
          have HBIT := Lib.hid hbit
          by_cases hem : joinTo ws m sep.data.toList k = []
          · have HB := Lib.hid (joinTo_first HS.out hbit hlt hem)
            have hre := bytes_nil (hr.trans hem)
            subst hre
            clear hbit hr hem hsx ex HR hgk
            go_wp2_with fail
            refine (refBit m k _ (by omega) (by omega)).mono ?_
            rw [HBIT.out]
            rintro e w2 ⟨rfl, rfl⟩
            go_wp2_with fail
            go_round
            case rel => exact ⟨k + 1, _, by omega, by go_num, rfl, by rw [HB.out, ← HSX.out]; simp⟩
            case measure => simp [intOf]; omega
          · have HB := Lib.hid (joinTo_next (c := sep.data.toList) hbit hem)
            have hne : (!r.toList.isEmpty) = true := bytes_some (fun e => hem (by rw [← hr, e]))
            clear hbit hr hem hsx ex hgk
            go_wp2_with fail
            refine (refBit m k _ (by omega) (by omega)).mono ?_
            rw [HBIT.out]
            rintro e w2 ⟨rfl, rfl⟩
            go_wp2_with fail
            go_round
            case rel => exact ⟨k + 1, _, by omega, by go_num, rfl, by rw [HB.out, ← HSX.out, ← HR.out]; simp⟩
            case measure => simp [intOf]; omega
      · obtain rfl : k = ws.length := by omega
        have HF : Hid (Value.string r = str (joinTo ws m sep.data.toList ws.length)) := Lib.hid (by rw [← HR.out]; rfl)
        clear hr
        go_wp2_with fail
        go_ret
        exact ⟨congrArg _ HF.out, rfl⟩
/-! subtypes -/
theorem idx_lt (l : List Bs) (x : Bs) : decide (idx l x < 0) = decide (x ∉ l) := by
  rw [Bool.eq_iff_iff, decide_eq_true_eq, decide_eq_true_eq, ← idx_mem]
  omega
theorem idx_ge (l : List Bs) (x : Bs) : decide (0 ≤ idx l x) = decide (x ∈ l) := by
  rw [Bool.eq_iff_iff, decide_eq_true_eq, decide_eq_true_eq, idx_mem]
theorem mem_words {x : Bs} : (x ∈ supersL ∨ x ∈ typesL) ↔ Ln.ix x < 8 := by
  rw [← List.mem_append, show supersL ++ typesL = Ln.words from rfl]
  unfold Ln.ix
  rw [show (8 : Nat) = Ln.words.length from rfl, List.findIdx_lt_length]
  simp

theorem idx_neg_of {l : List Bs} {x : Bs} (h : x ∉ l) : idx l x < 0 := by
  have := mt idx_mem.1 h; omega
theorem idx_pos_of {l : List Bs} {x : Bs} (h : x ∈ l) : 0 ≤ idx l x := idx_mem.2 h
set_option maxRecDepth 100000 in
theorem refIsSub (s : ByteArray) (w : World) (hs : s.size ≤ maxLen) :
    Calls Tryz.prog 79 #[.string s] w fun e w' => e = .returned (.bool (Ln.isSub s.data.toList)) ∧ Below w.heap.size w w' := by
  cases hn : Wd.isName s.data.toList with
  | false =>
    have HN := Lib.hid hn
    have HR := Lib.hid (isSub_no hn)
    clear hn
    go_enter Tryz.func79, Tryz.ntmps79
    go_wp2_with fail
    refine (refIs s _ hs).mono ?_
    rw [HN.out]
    rintro e w1 ⟨rfl, rfl⟩
    go_wp2_with fail
    go_ret
    exact ⟨ret_bool HR.out.symm, Below.refl _ _⟩
  | true =>
    have HN := Lib.hid hn
    by_cases h1 : s.data.toList ∈ supersL
    · have HR := Lib.hid (Ln.isSub_word (mem_words.1 (.inl h1)))
      obtain ⟨i, hi⟩ : ∃ i, i = idx supersL s.data.toList := ⟨_, rfl⟩
      have hi0 : 0 ≤ i := by rw [hi]; exact idx_pos_of h1
      have HI := Lib.hid hi
      clear hn h1 hi
      go_enter Tryz.func79, Tryz.ntmps79
      go_wp2_with fail
      refine (refIs s _ hs).mono ?_
      rw [HN.out]
      rintro e w1 ⟨rfl, rfl⟩
      go_wp2_with fail
      refine (refSupers _).mono ?_
      rintro e w1 ⟨v1, rfl, ho1, hb1⟩
      have HO1 := Lib.hid ho1.strs
      have B1 := Lib.hid hb1
      clear ho1 hb1
      go_wp2_with fail
      refine (refIndex10 _ _ s _ HO1.out).mono ?_
      rw [← HI.out]
      rintro e w2 ⟨rfl, rfl⟩
      go_wp2_with fail
      go_ret
      exact ⟨ret_bool HR.out.symm, B1.out⟩
    · by_cases h2 : s.data.toList ∈ typesL
      · have HR := Lib.hid (Ln.isSub_word (mem_words.1 (.inr h2)))
        obtain ⟨i, hi⟩ : ∃ i, i = idx supersL s.data.toList := ⟨_, rfl⟩
        have hi0 : i < 0 := by rw [hi]; exact idx_neg_of h1
        obtain ⟨j, hj⟩ : ∃ j, j = idx typesL s.data.toList := ⟨_, rfl⟩
        have hj0 : 0 ≤ j := by rw [hj]; exact idx_pos_of h2
        have HI := Lib.hid hi
        have HJ := Lib.hid hj
        clear hn h1 h2 hi hj
        go_enter Tryz.func79, Tryz.ntmps79
        go_wp2_with fail
        refine (refIs s _ hs).mono ?_
        rw [HN.out]
        rintro e w1 ⟨rfl, rfl⟩
        go_wp2_with fail
        refine (refSupers _).mono ?_
        rintro e w1 ⟨v1, rfl, ho1, hb1⟩
        have HO1 := Lib.hid ho1.strs
        have B1 := Lib.hid hb1
        clear ho1 hb1
        go_wp2_with fail
        refine (refIndex10 _ _ s _ HO1.out).mono ?_
        rw [← HI.out]
        rintro e w2 ⟨rfl, rfl⟩
        go_wp2_with fail
        refine (refTypes _).mono ?_
        rintro e w2 ⟨v2, rfl, ho2, hb2⟩
        have HO2 := Lib.hid ho2.strs
        have B2 := Lib.hid (B1.out.trans (hb2.mono B1.out.size))
        clear ho2 hb2
        go_wp2_with fail
        refine (refIndex10 _ _ s _ HO2.out).mono ?_
        rw [← HJ.out]
        rintro e w3 ⟨rfl, rfl⟩
        go_wp2_with fail
        go_ret
        exact ⟨ret_bool (by rw [HR.out]; simp; omega), B2.out⟩
      · have HR := Lib.hid ((Ln.isSub_else (by
          have := Ln.ix_le s.data.toList
          have := mt mem_words.2 (fun h => h.elim h1 h2 : ¬ (_ ∨ _))
          omega)).trans hn)
        obtain ⟨i, hi⟩ : ∃ i, i = idx supersL s.data.toList := ⟨_, rfl⟩
        have hi0 : i < 0 := by rw [hi]; exact idx_neg_of h1
        obtain ⟨j, hj⟩ : ∃ j, j = idx typesL s.data.toList := ⟨_, rfl⟩
        have hj0 : j < 0 := by rw [hj]; exact idx_neg_of h2
        have HI := Lib.hid hi
        have HJ := Lib.hid hj
        clear hn h1 h2 hi hj
        go_enter Tryz.func79, Tryz.ntmps79
        go_wp2_with fail
        refine (refIs s _ hs).mono ?_
        rw [HN.out]
        rintro e w1 ⟨rfl, rfl⟩
        go_wp2_with fail
        refine (refSupers _).mono ?_
        rintro e w1 ⟨v1, rfl, ho1, hb1⟩
        have HO1 := Lib.hid ho1.strs
        have B1 := Lib.hid hb1
        clear ho1 hb1
        go_wp2_with fail
        refine (refIndex10 _ _ s _ HO1.out).mono ?_
        rw [← HI.out]
        rintro e w2 ⟨rfl, rfl⟩
        go_wp2_with fail
        refine (refTypes _).mono ?_
        rintro e w2 ⟨v2, rfl, ho2, hb2⟩
        have HO2 := Lib.hid ho2.strs
        have B2 := Lib.hid (B1.out.trans (hb2.mono B1.out.size))
        clear ho2 hb2
        go_wp2_with fail
        refine (refIndex10 _ _ s _ HO2.out).mono ?_
        rw [← HJ.out]
        rintro e w3 ⟨rfl, rfl⟩
        go_wp2_with fail
        go_ret
        exact ⟨ret_bool HR.out.symm, B2.out⟩
/-! the program's IsSub: a loop over the words -/
theorem typesFrom {C : Nat} {w0 W : World} (hb : Below C w0 W) (hC : C ≤ w0.heap.size) :
    Calls Tryz.prog 119 #[] W fun e w' => ∃ v, e = .returned v ∧ Strs w' v typesL ∧ Below C w0 w' :=
  (refTypes W).mono fun _ _ ⟨v, he, ho, hb'⟩ => ⟨v, he, ho.strs, hb.trans (hb'.mono (Nat.le_trans hC hb.size))⟩
theorem joinedTypes (t : Nat) (ht : t < 64) (c : UInt8) (sA : ByteArray) (hA : sA.data.toList = Lib.join (Ln.wordsOf t 2) [c]) (v : Value) (W : World) (hv : Strs W v typesL) :
    Calls Tryz.prog 127 #[v, .int .i64 t, .string ⟨#[c]⟩] W fun e w' => e = .returned (.string sA) ∧ W = w' := by
  have h := refJoined v typesL t ⟨#[c]⟩ W hv small_types (by omega) rfl
  have e : str (joinTo typesL t [c] typesL.length) = .string sA := by
    rw [show typesL.length = 6 from rfl]
    unfold joinTo
    rw [wordsAt_types t ht, ← hA]
    rfl
  rw [← e]
  exact h
set_option maxRecDepth 100000 in
theorem refTypesText10 (m : Int) (w : World) :
    Calls Tryz.prog 95 #[.int .i64 m] w fun e w' => e = .returned (str (typesI m)) ∧ Below w.heap.size w w' := by
  by_cases h : 1 ≤ m ∧ m ≤ 63
  · obtain ⟨n, rfl⟩ : ∃ n : Nat, m = (n : Int) := ⟨m.toNat, by omega⟩
    have h1 : (1 : Int) ≤ (n : Int) := h.1
    have h2 : (n : Int) ≤ 63 := h.2
    have HT := Lib.hid (typesI_nat (m := n) (by omega) (by omega))
    obtain ⟨sT, hT, eT⟩ := exists_bytes (Lib.join (Ln.wordsOf n 2) [43])
    have HJ := Lib.hid (joinedTypes n (by omega) 43 sT hT)
    have HF : Hid (Value.string sT = str (typesI (n : Int))) := Lib.hid (by rw [HT.out, ← eT]; rfl)
    clear h hT eT
    go_enter Tryz.func95, Tryz.ntmps95
    go_wp2_with fail
    refine (refTypes _).mono ?_
    rintro e w1 ⟨v1, rfl, ho1, hb1⟩
    have HO := Lib.hid ho1.strs
    have B1 := Lib.hid hb1
    clear ho1 hb1
    go_wp2_with fail
    refine (HJ.out _ _ HO.out).mono ?_
    rintro e w2 ⟨rfl, rfl⟩
    go_wp2_with fail
    go_ret
    exact ⟨congrArg _ HF.out, B1.out⟩
  · have HT := Lib.hid (typesI_out (m := m) (by omega))
    rcases Int.lt_or_le m 1 with h1 | h1
    · go_enter Tryz.func95, Tryz.ntmps95
      go_wp2_with fail
      go_ret
      exact ⟨by rw [HT.out]; rfl, Below.refl _ _⟩
    · have h2 : 63 < m := by omega
      clear h
      go_enter Tryz.func95, Tryz.ntmps95
      go_wp2_with fail
      go_ret
      exact ⟨by rw [HT.out]; rfl, Below.refl _ _⟩
end Go.Proofs.YtkohfomiigcifaaGreatDoor
