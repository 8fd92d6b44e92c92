/-
  CONTRACTS OF LAYER 10 (line): an append of a row of strings; wordsOf, Text, TypesText. By an AI agent.
-/
import Derived.Test.YtbichcmpggbfnaaDoorLineIsB
namespace Go.Proofs.YtbichcmpggbfnaaDoor
open Go.RowKit
open Wd (Bs)

/-- an append of nothing (a nil slice of whatever capacity) -/
theorem run_append_nil {P : Program} {w : World} (base : Nat) (t ty e : TypeId) (i : TypeInfo) (size c : Nat) (ht : P.underlying t = some (.slice e)) (hi : P.info? e = some i)
    (v : Value) (n : Nat) (xs : List Value) (hown : w.ownsRow base e size v n xs) : (Builtin.append_ #[t, t] ty #[v, .slice none 0 c]).run P w = .ok v w := by
  rcases hown.2 with ⟨rfl, rfl⟩ | ⟨g, cap, cur, rfl, _, _, hnc, _⟩
  · simp [Builtin.append_, run_underlying ht, sizeOf, typeInfo, hi, Builtin.lenOf, Builtin.firstCells]
  · simp [Builtin.append_, run_underlying ht, sizeOf, typeInfo, hi, Builtin.lenOf, Builtin.firstCells, hnc, storeCells]
/-- 's = append(s, x...)', s a row of the call's own, x any row of strings -/
theorem wpList_append_strs {ops : Array Oper} {rest : List Oper} {o : Oper} {a : Act} {Q : Exit → Act → World → Prop} (hgd : o.guard = none) (s x : Operand)
    (ho : o.op = .call { callee := .builtin .append, args := #[s, x], argTypes := #[22, 22] })
    {B : Nat} {w0 w : World} {v u : Value} {l xs : List Bs} (hs : a.eval s = v) (hown : OwnStrs B w v l) (hx : a.eval x = u) (hxs : Strs w u xs)
    (hlen : l.length + xs.length ≤ 1000000000) (hB : B ≤ w.heap.size) (hb : Below B w0 w)
    (h : ∀ v' w', OwnStrs B w' v' (l ++ xs) → Below B w0 w' → wpList Tryd.prog ops Q rest (a.put o.dst v') w') :
    wpList Tryd.prog ops Q (o :: rest) a w := by
  obtain ⟨i0, hi, hz0, hz1, hz2⟩ := info_parts infoStr
  have hrow : w.ownsRow B 9 1 v l.length (l.map str) := hown
  obtain ⟨ad, c, rfl, h1, h2, h3⟩ := hxs
  cases ad with
  | none =>
    obtain rfl : xs = [] := by
      cases xs with
      | nil => rfl
      | cons y r => obtain ⟨b, o, e, _⟩ := h3 0 y rfl; cases e
    refine wpList_plain hgd fun K hK => ?_
    have hrun := run_append_nil (P := Tryd.prog) (w := w) B 22 o.type 9 i0 1 c Tryd.underlying22 hi v l.length (l.map str) hrow
    unfold Oper.wp
    simp [execOp, ho, resolve, invoke, builtin, hs, hx, hrun, Result.andThen]
    exact hK _ _ (h v w (by rw [List.append_nil]; exact hown) hb)
  | some p =>
    refine wpList_append_own_at _ hgd s x 22 ho B 9 i0 (.string ⟨#[]⟩) 1 16 Tryd.underlying22 hi hz0 hz1 hz2 rfl (by decide) v l.length (l.map str) hs hrow p xs.length c (xs.map str) hx (by simp) ?_ ?_ ?_ ?_ hB ?_
    · intro j y hj
      rw [List.getElem?_map, Option.map_eq_some_iff] at hj
      obtain ⟨z, hz, rfl⟩ := hj
      obtain ⟨b, o, e, _, h5⟩ := h3 j z hz
      injection e with e
      subst e
      have hadd : (⟨b, o, none⟩ : Addr).add j = ⟨b, o + j, none⟩ := by unfold Addr.add; split <;> simp_all
      rw [hadd]
      exact h5
    · intro y hy
      obtain ⟨z, _, rfl⟩ := List.mem_map.1 hy
      rfl
    · unfold maxLen; omega
    · omega
    · intro v' w' hown' hgrow _ _
      have h6 : OwnStrs B w' v' (l ++ xs) := by
        unfold OwnStrs
        simpa using hown'
      exact h v' w' h6 (hb.grown hgrow hB fun k hk => (World.ownsRow.lt hrow k hk).1)
theorem wordsOf_len (m f : Nat) : (Ln.wordsOf m f).length ≤ 31 := by unfold Ln.wordsOf; rw [List.length_map]; exact Num.bitsL_len m 31
/-- the bits of m are places of words -/
def BitsFit (m f : Nat) : Prop := ∀ (j : Nat) (x : Int), (Num.bitsL m 31)[j]? = some x → ∃ k : Nat, x = (k : Int) ∧ f + k < 8
theorem bits_fit {m f n : Nat} (hm : m < 2 ^ n) (hf : f + n ≤ 8) : BitsFit m f := by
  intro j x hx
  have hmem := List.mem_of_getElem? hx
  unfold Num.bitsL at hmem
  obtain ⟨i, hi, rfl⟩ := List.mem_map.1 hmem
  have h1 := (List.mem_filter.1 hi).2
  refine ⟨i, rfl, ?_⟩
  by_cases h : i < n
  · omega
  · have : Num.bitB m i = false := Num.bitB_zero (k := n) (Nat.div_eq_of_lt hm) i (by omega)
    rw [this] at h1
    cases h1
theorem take_words {m f j : Nat} {k : Nat} (hx : (Num.bitsL m 31)[j]? = some (k : Int)) : ((Num.bitsL m 31).take (j + 1)).map (fun i => Ln.word (f + i.toNat)) = ((Num.bitsL m 31).take j).map (fun i => Ln.word (f + i.toNat)) ++ [Ln.word (f + k)] := by
  obtain ⟨hj, e⟩ := List.getElem?_eq_some_iff.1 hx
  rw [List.take_succ_eq_append_getElem hj, List.map_append, e]
  rfl
set_option maxHeartbeats 1000000 in
set_option maxRecDepth 100000 in
theorem lineWordsOf (m f : Nat) (w : World) (hE : Env w) (hm : (m : Int) ≤ 9223372036854775807) (hf : (f : Int) ≤ 8) (hfit : BitsFit m f) :
    Calls Tryd.prog 42 #[.int .i64 m, .int .i64 f] w (StrsRes (Ln.wordsOf m f) w) := by
  have HW : Hid (Ln.wordsOf m f = (Num.bitsL m 31).map fun i => Ln.word (f + i.toNat)) := Lib.hid rfl
  have HE := Lib.hid hE
  have hlen := Num.bitsL_len m 31
  have HFIT := Lib.hid hfit
  have HT := Lib.hid (fun (j k : Nat) hx => take_words (m := m) (f := f) (j := j) (k := k) hx)
  clear hE hfit
  go_enter Tryd.func42, Tryd.ntmps42
  go_wp2_with fail
  refine (numBits m hm _).mono ?_
  rintro e w1 ⟨v, rfl, hown, hb⟩
  have HE1 := Lib.hid (HE.out.below hb)
  have HB1 := Lib.hid hb
  rcases hown.shape with ⟨rfl, hl⟩ | ⟨g, cap, rfl, _, hg, hlc, hcap, hcell⟩
  · have HW2 : Hid (Ln.wordsOf m f = []) := Lib.hid (by rw [HW.out, hl]; rfl)
    clear hown hb hl hlen
    go_wp2_with fail
    refine wp_loop_rounds 1 ?_
    rw [rounds_succ]
    go_wp2_with fail
    go_ret
    exact ⟨_, rfl, by rw [HW2.out]; exact OwnStrs.nil _ _, HB1.out⟩
  · have D := Lib.hid hcell
    unfold BitsFit at HFIT
    clear hown hb hcell HE
    generalize Num.bitsL m 31 = l at *
    unfold maxLen at hcap
    go_wp2_with fail
    go_loopw [5, 11] (fun pv iv wr => ∃ j : Nat, j ≤ l.length ∧ iv = .int .i64 (j : Int) ∧ OwnStrs w1.heap.size wr pv ((l.take j).map fun i => Ln.word (f + i.toNat)) ∧ Below w1.heap.size w1 wr) (fun _ iv _ => l.length - (intOf iv).toNat)
    case atStart => exact ⟨0, by omega, rfl, OwnStrs.nil _ _, Below.refl _ _⟩
    case round =>
      obtain ⟨j, hj, rfl, hown, hbr⟩ := hrel
      by_cases hlt : j < l.length
      · have hsz := hbr.size
        have hx : l[j]? = some l[j] := List.getElem?_eq_getElem hlt
        obtain ⟨k, hk, hk8⟩ := HFIT.out j _ hx
        rw [hk] at hx
        have hc : wr.cell? ⟨g, j, none⟩ = some (.int .i64 (k : Int)) := (hbr.cell (p := ⟨g, j, none⟩) hg).trans (D.out j _ hx)
        obtain ⟨sx, hsx, ex⟩ := exists_bytes (Ln.word (f + k))
        have hcw : wr.cell? ⟨0, f + k, none⟩ = some (.string sx) := ((HE1.out.below hbr).cell (f + k) hk8).trans (congrArg some ex)
        have HP := Lib.hid (HT.out j k hx)
        have hpl : ((l.take j).map fun i => Ln.word (f + i.toNat)).length ≤ 1000000000000 := by simp; omega
        have HSX := Lib.hid hsx
        have HO := Lib.hid hown
        have HBR := Lib.hid hbr
        have HPL := Lib.hid hpl
        clear hx hsx ex hown hbr hpl hk
        go_wp2_with (at_builtin; refine wpList_push_str rfl _ _ rfl rfl HO.out sx rfl HPL.out hsz HBR.out ?_)
        intro v' w2 ho hb'
        go_wp2_with fail
        go_roundw
        case rel => exact ⟨j + 1, by omega, by go_num, by rw [HP.out, ← HSX.out, List.map_take]; exact ho, hb'⟩
        case measure => simp [intOf]; omega
      · obtain rfl : j = l.length := by omega
        have HO := Lib.hid (by rw [List.take_length] at hown; exact hown : OwnStrs w1.heap.size wr _ (l.map fun i => Ln.word (f + i.toNat)))
        have HBR := Lib.hid hbr
        clear hown hbr
        go_wp2_with fail
        go_ret
        exact ⟨_, rfl, by rw [HW.out]; exact HO.out.mono HB1.out.size, HB1.out.trans (HBR.out.mono HB1.out.size)⟩

theorem join_len_le {c : UInt8} {m : Nat} : ∀ {ps : List Bs}, (∀ p ∈ ps, p.length ≤ m) → (Lib.join ps [c]).length ≤ (m + 1) * ps.length
  | [], _ => by simp [Lib.join]
  | [p], h => by
    have := h p (by simp)
    rw [Lib.join_one]
    simp
    omega
  | p :: q :: r, h => by
    have h1 := h p (by simp)
    have h2 := join_len_le (c := c) (m := m) (ps := q :: r) (fun x hx => h x (List.mem_cons_of_mem _ hx))
    rw [Ln.join_two]
    simp only [List.length_append, List.length_cons] at h2 ⊢
    simp only [Nat.mul_add, Nat.add_mul] at h2 ⊢
    omega
theorem word_len (k : Nat) : (Ln.word k).length ≤ 8 := by
  by_cases h : k < 8
  · have : ∀ k, k < 8 → (Ln.word k).length ≤ 8 := by decide +kernel
    exact this k h
  · unfold Ln.word List.getD
    rw [List.getElem?_eq_none (by show 8 ≤ k; omega)]
    simp
theorem wordsOf_short {m f : Nat} : ∀ p ∈ Ln.wordsOf m f, p.length ≤ 8 := by
  intro p hp
  unfold Ln.wordsOf at hp
  obtain ⟨i, _, rfl⟩ := List.mem_map.1 hp
  exact word_len _
theorem parts_short {l : Ln.Line} (h : Ln.ValidP l) : (Ln.parts l).length ≤ 66 ∧ (Lib.join (Ln.parts l) [32]).length ≤ 3000 := by
  have h0 : (Ln.parts l).length ≤ 66 := by
    unfold Ln.parts
    have h1 := wordsOf_len l.super.toNat 0
    have h2 := wordsOf_len l.types.toNat 2
    have h3 := h.2.2.2.1
    simp only [List.length_append]
    omega
  have h1 := join_len_le (c := 32) (m := 32) (ps := Ln.parts l) (fun p hp => by
    unfold Ln.parts at hp
    rw [List.mem_append, List.mem_append] at hp
    rcases hp with (hp | hp) | hp
    · have := wordsOf_short p hp; omega
    · have := wordsOf_short p hp; omega
    · exact (Ln.name_p (Ln.isSub_name (h.2.2.2.2.1 p hp)).1).2.1)
  exact ⟨h0, by omega⟩
set_option maxHeartbeats 1000000 in
set_option maxRecDepth 100000 in
theorem lineText (a t : Int) (v : Value) (l : List Bs) (w : World) (hE : Env w) (hv : Strs w v l) (hl : Fine l) (hi : t ≤ 9223372036854775807) :
    Calls Tryd.prog 21 #[.agg #[.int .i64 a, .int .i64 t, v]] w fun e w' => e = .returned (str (Ln.textL ⟨a, t, l⟩)) ∧ Below w.heap.size w w' := by
  obtain ⟨wB, hwB⟩ : ∃ wB, wB = w.alloc (.cells #[.int .i64 a, .int .i64 t, v] 24) := ⟨_, rfl⟩
  have hb : Below w.heap.size w wB := by rw [hwB]; exact (Below.refl _ _).alloc (Nat.le_refl _) _
  have hloc : w.heap.size < wB.heap.size := by rw [hwB]; simp
  have HV := Lib.hid (hv.below hb (Nat.le_refl _))
  have HE := Lib.hid (hE.below hb)
  have HB := Lib.hid hb
  have q0 : wB.cell? ⟨w.heap.size, 0, none⟩ = some (.int .i64 a) := by rw [hwB]; simp
  have q1 : wB.cell? ⟨w.heap.size, 1, none⟩ = some (.int .i64 t) := by rw [hwB]; simp
  have q2 : wB.cell? ⟨w.heap.size, 2, none⟩ = some v := by rw [hwB]; simp
  have HC := Lib.hid (lineIs a t v l wB HE.out HV.out hl hi)
  clear hb hv hE hl
  rcases Ln.valid_cases ⟨a, t, l⟩ with ⟨s, n, e1, e2, l1, l2, l3, hval, hvb⟩ | ⟨-, hvb⟩
  · obtain rfl : a = s := e1
    obtain rfl : t = n := e2
    have HT := Lib.hid (Ln.textL_valid hvb)
    have HS := Lib.hid (parts_short hval)
    have HPE : Hid (Ln.parts ⟨s, n, l⟩ = Ln.wordsOf s 0 ++ (Ln.wordsOf n 2 ++ l)) := Lib.hid (List.append_assoc _ _ _)
    have hl4 : l.length ≤ 4 := hval.2.2.2.1
    have HVB := Lib.hid hvb
    have HF1 := Lib.hid (bits_fit (m := s) (f := 0) (n := 2) (by omega) (by omega))
    have HF2 := Lib.hid (bits_fit (m := n) (f := 2) (n := 6) (by omega) (by omega))
    clear hvb hval
    go_enter Tryd.func21, Tryd.ntmps21
    go_wp2_with fail
    rw [← hwB]
    clear hwB
    refine HC.out.mono ?_
    rw [HVB.out]
    rintro e w1 ⟨rfl, hb1⟩
    have B1 := Lib.hid hb1
    have r0 : w1.cell? ⟨w.heap.size, 0, none⟩ = some (.int .i64 s) := (hb1.cell (p := ⟨w.heap.size, 0, none⟩) hloc).trans q0
    clear hb1
    go_wp2_with fail
    refine (lineWordsOf s 0 _ (HE.out.below B1.out) (by omega) (by omega) HF1.out).mono ?_
    rintro e w2 ⟨v2, rfl, ho2, hb2⟩
    have B2 := Lib.hid (B1.out.trans (hb2.mono B1.out.size))
    have HO2 := Lib.hid (ho2.mono B1.out.size)
    have r1 : w2.cell? ⟨w.heap.size, 1, none⟩ = some (.int .i64 n) := (B2.out.cell (p := ⟨w.heap.size, 1, none⟩) hloc).trans q1
    clear ho2 hb2
    go_wp2_with fail
    refine (lineWordsOf n 2 _ (HE.out.below B2.out) (by omega) (by omega) HF2.out).mono ?_
    rintro e w3 ⟨v3, rfl, ho3, hb3⟩
    have B3 := Lib.hid (B2.out.trans (hb3.mono B2.out.size))
    have HO3 := Lib.hid ho3.strs
    have HO23 := Lib.hid (HO2.out.below hb3 (Nat.le_refl _))
    have hlen3 : (Ln.wordsOf s 0).length + (Ln.wordsOf n 2).length ≤ 1000000000 := by have := wordsOf_len s 0; have := wordsOf_len n 2; omega
    have hsz3 : wB.heap.size ≤ w3.heap.size := B3.out.size
    have HL3 := Lib.hid hlen3
    clear ho3 hb3 hlen3
    go_wp2_with (at_builtin; refine wpList_append_strs rfl (.tmp 10) (.tmp 13) rfl rfl HO23.out rfl HO3.out HL3.out hsz3 B3.out ?_)
    intro v4 w4 ho4 hb4
    have HO4 := Lib.hid ho4
    have r2 : w4.cell? ⟨w.heap.size, 2, none⟩ = some v := (hb4.cell (p := ⟨w.heap.size, 2, none⟩) hloc).trans q2
    have HV4 := Lib.hid (HV.out.below hb4 (Nat.le_refl _))
    have HL4 : Hid ((Ln.wordsOf s 0 ++ Ln.wordsOf n 2).length + l.length ≤ 1000000000) := Lib.hid (by rw [List.length_append]; have := HL3.out; have := wordsOf_len s 0; have := wordsOf_len n 2; omega)
    have hsz4 : wB.heap.size ≤ w4.heap.size := hb4.size
    have B4 := Lib.hid hb4
    clear ho4 hb4 HO23 HO3 HO2
    go_wp2_with (at_builtin; refine wpList_append_strs rfl (.tmp 15) (.tmp 17) rfl rfl HO4.out rfl HV4.out HL4.out hsz4 B4.out ?_)
    intro v5 w5 ho5 hb5
    have HO5 := Lib.hid ho5
    have B5 := Lib.hid hb5
    have HJ := Lib.hid (wordJoin v5 (Ln.wordsOf s 0 ++ (Ln.wordsOf n 2 ++ l)) ⟨#[32]⟩ w5 HO5.out.strs (by rw [← HPE.out]; have := HS.out.1; omega) (by rw [← HPE.out]; exact Nat.le_trans HS.out.2 (by omega)))
    clear ho5 hb5 HO5
    go_wp2_with fail
    refine HJ.out.mono ?_
    rintro e w6 ⟨rfl, hb6⟩
    go_wp2_with fail
    go_ret
    exact ⟨by rw [HT.out, HPE.out]; rfl, HB.out.trans ((B5.out.trans (hb6.mono B5.out.size)).mono HB.out.size)⟩
  · have HT := Lib.hid (Ln.textL_bad hvb)
    have HVB := Lib.hid hvb
    clear hvb
    go_enter Tryd.func21, Tryd.ntmps21
    go_wp2_with fail
    rw [← hwB]
    clear hwB
    refine HC.out.mono ?_
    rw [HVB.out]
    rintro e w1 ⟨rfl, hb1⟩
    go_wp2_with fail
    go_ret
    exact ⟨by rw [HT.out]; rfl, HB.out.trans (hb1.mono HB.out.size)⟩
/-! the texts of types -/
/-- the text of a mask of types -/
def typesN (m : Nat) : Bs := Lib.join (Ln.wordsOf m 2) [43]
def typesI (m : Int) : Bs := if 1 ≤ m ∧ m ≤ 63 then typesN m.toNat else []
theorem typesI_nat {m : Nat} (h1 : 1 ≤ m) (h2 : m ≤ 63) : typesI (m : Int) = typesN m := by unfold typesI; rw [if_pos (by omega)]; rfl
theorem typesI_out {m : Int} (h : m < 1 ∨ 63 < m) : typesI m = [] := by unfold typesI; rw [if_neg (by omega)]
theorem typesN_len (m : Nat) : (typesN m).length ≤ 300 := by
  have h1 := join_len_le (c := 43) (m := 8) (ps := Ln.wordsOf m 2) wordsOf_short
  have h2 := wordsOf_len m 2
  unfold typesN
  omega
set_option maxRecDepth 100000 in
theorem lineTypesText (m : Int) (w : World) (hE : Env w) :
    Calls Tryd.prog 25 #[.int .i64 m] w fun e w' => e = .returned (str (typesI m)) ∧ Below w.heap.size w w' := by
  by_cases h : 1 ≤ m ∧ m ≤ 63
  · obtain ⟨n, rfl⟩ : ∃ n : Nat, m = (n : Int) := ⟨m.toNat, by omega⟩
    have h1 : (1 : Int) ≤ (n : Int) := h.1
    have h2 : (n : Int) ≤ 63 := h.2
    have HT := Lib.hid (typesI_nat (m := n) (by omega) (by omega))
    have HE := Lib.hid hE
    have HF := Lib.hid (bits_fit (m := n) (f := 2) (n := 6) (by omega) (by omega))
    clear h hE
    go_enter Tryd.func25, Tryd.ntmps25
    go_wp2_with fail
    refine (lineWordsOf n 2 _ HE.out (by omega) (by omega) HF.out).mono ?_
    rintro e w1 ⟨v1, rfl, ho1, hb1⟩
    have B1 := Lib.hid hb1
    have HJ := Lib.hid (wordJoin v1 (Ln.wordsOf n 2) ⟨#[43]⟩ w1 ho1.strs (by have := wordsOf_len n 2; omega) (Nat.le_trans (typesN_len n) (by omega)))
    clear ho1 hb1
    go_wp2_with fail
    refine HJ.out.mono ?_
    rintro e w2 ⟨rfl, hb2⟩
    go_wp2_with fail
    go_ret
    exact ⟨by rw [HT.out]; rfl, B1.out.trans (hb2.mono B1.out.size)⟩
  · have HT := Lib.hid (typesI_out (m := m) (by omega))
    rcases Int.lt_or_le m 1 with h1 | h1
    · go_enter Tryd.func25, Tryd.ntmps25
      go_wp2_with fail
      go_ret
      exact ⟨by rw [HT.out]; rfl, Below.refl _ _⟩
    · have h2 : 63 < m := by omega
      clear h
      go_enter Tryd.func25, Tryd.ntmps25
      go_wp2_with fail
      go_ret
      exact ⟨by rw [HT.out]; rfl, Below.refl _ _⟩
end Go.Proofs.YtbichcmpggbfnaaDoor
