/-
  CONTRACTS OF LAYER 10 (line) that layer 13 reaches: IsSub, TypesText; what the listed variable gives. By an AI agent.
-/
import Derived.Test.YtkohfomiigcifaaGreatDoorLinePlain
import Derived.Test.YtkohfomiigcifaaGreatDoorFWord
import Derived.Test.YtkohfomiigcifaaGreatDoorNumBits
namespace Go.Proofs.YtkohfomiigcifaaGreatDoor
open Go.RowKit
open Wd (Bs)


theorem gWords : Tryz.prog.globalNamed "cardgame/line.words" = some 1 := by kernel_rfl
/-- the variable of the words holds the eight words; strings.Contains' variable some number -/
structure EnvL (w : World) : Prop where
  len : LenEnv w
  words : w.var? Tryz.prog "cardgame/line.words" = some (Ln.words.map str).toArray
theorem EnvL.below {w w' : World} (h : EnvL w) (hb : Below w.heap.size w w') : EnvL w' := ⟨h.len.below hb, var_below hb h.words⟩
theorem EnvL.cell {w : World} (h : EnvL w) (k : Nat) (hk : k < 8) : w.cell? ⟨1, k, none⟩ = some (.string ⟨(Ln.word k).toArray⟩) := by
  rw [World.var?_cell gWords h.words k]
  match k, hk with
  | 0, _ => rfl
  | 1, _ => rfl
  | 2, _ => rfl
  | 3, _ => rfl
  | 4, _ => rfl
  | 5, _ => rfl
  | 6, _ => rfl
  | 7, _ => rfl
theorem isSub_no {s : Bs} (h : Wd.isName s = false) : Ln.isSub s = false := by unfold Ln.isSub; rw [h]; rfl
def NoWordTo (s : Bs) (k : Nat) : Prop := ∀ j, j < k → Ln.word j ≠ s
theorem NoWordTo.next {s : Bs} {k : Nat} (h : NoWordTo s k) (hk : Ln.word k ≠ s) : NoWordTo s (k + 1) := by
  intro j hj
  by_cases e : j = k
  · subst e; exact hk
  · exact h j (by omega)
theorem bytes_same {a b : ByteArray} (h : a.data.toList = b.data.toList) : a = b := by
  cases a with | mk a => cases b with | mk b => cases a with | mk a => cases b with | mk b => simp at h; subst h; rfl
theorem wordsV_0 (w : World) : (Instr.index 74 (.agg #[.string ⟨(Ln.word 0).toArray⟩, .string ⟨(Ln.word 1).toArray⟩, .string ⟨(Ln.word 2).toArray⟩, .string ⟨(Ln.word 3).toArray⟩, .string ⟨(Ln.word 4).toArray⟩, .string ⟨(Ln.word 5).toArray⟩, .string ⟨(Ln.word 6).toArray⟩, .string ⟨(Ln.word 7).toArray⟩]) (.int .i64 0)).run Tryz.prog w = .ok (.string ⟨(Ln.word 0).toArray⟩) w := by kernel_rfl
theorem wordsV_1 (w : World) : (Instr.index 74 (.agg #[.string ⟨(Ln.word 0).toArray⟩, .string ⟨(Ln.word 1).toArray⟩, .string ⟨(Ln.word 2).toArray⟩, .string ⟨(Ln.word 3).toArray⟩, .string ⟨(Ln.word 4).toArray⟩, .string ⟨(Ln.word 5).toArray⟩, .string ⟨(Ln.word 6).toArray⟩, .string ⟨(Ln.word 7).toArray⟩]) (.int .i64 1)).run Tryz.prog w = .ok (.string ⟨(Ln.word 1).toArray⟩) w := by kernel_rfl
theorem wordsV_2 (w : World) : (Instr.index 74 (.agg #[.string ⟨(Ln.word 0).toArray⟩, .string ⟨(Ln.word 1).toArray⟩, .string ⟨(Ln.word 2).toArray⟩, .string ⟨(Ln.word 3).toArray⟩, .string ⟨(Ln.word 4).toArray⟩, .string ⟨(Ln.word 5).toArray⟩, .string ⟨(Ln.word 6).toArray⟩, .string ⟨(Ln.word 7).toArray⟩]) (.int .i64 2)).run Tryz.prog w = .ok (.string ⟨(Ln.word 2).toArray⟩) w := by kernel_rfl
theorem wordsV_3 (w : World) : (Instr.index 74 (.agg #[.string ⟨(Ln.word 0).toArray⟩, .string ⟨(Ln.word 1).toArray⟩, .string ⟨(Ln.word 2).toArray⟩, .string ⟨(Ln.word 3).toArray⟩, .string ⟨(Ln.word 4).toArray⟩, .string ⟨(Ln.word 5).toArray⟩, .string ⟨(Ln.word 6).toArray⟩, .string ⟨(Ln.word 7).toArray⟩]) (.int .i64 3)).run Tryz.prog w = .ok (.string ⟨(Ln.word 3).toArray⟩) w := by kernel_rfl
theorem wordsV_4 (w : World) : (Instr.index 74 (.agg #[.string ⟨(Ln.word 0).toArray⟩, .string ⟨(Ln.word 1).toArray⟩, .string ⟨(Ln.word 2).toArray⟩, .string ⟨(Ln.word 3).toArray⟩, .string ⟨(Ln.word 4).toArray⟩, .string ⟨(Ln.word 5).toArray⟩, .string ⟨(Ln.word 6).toArray⟩, .string ⟨(Ln.word 7).toArray⟩]) (.int .i64 4)).run Tryz.prog w = .ok (.string ⟨(Ln.word 4).toArray⟩) w := by kernel_rfl
theorem wordsV_5 (w : World) : (Instr.index 74 (.agg #[.string ⟨(Ln.word 0).toArray⟩, .string ⟨(Ln.word 1).toArray⟩, .string ⟨(Ln.word 2).toArray⟩, .string ⟨(Ln.word 3).toArray⟩, .string ⟨(Ln.word 4).toArray⟩, .string ⟨(Ln.word 5).toArray⟩, .string ⟨(Ln.word 6).toArray⟩, .string ⟨(Ln.word 7).toArray⟩]) (.int .i64 5)).run Tryz.prog w = .ok (.string ⟨(Ln.word 5).toArray⟩) w := by kernel_rfl
theorem wordsV_6 (w : World) : (Instr.index 74 (.agg #[.string ⟨(Ln.word 0).toArray⟩, .string ⟨(Ln.word 1).toArray⟩, .string ⟨(Ln.word 2).toArray⟩, .string ⟨(Ln.word 3).toArray⟩, .string ⟨(Ln.word 4).toArray⟩, .string ⟨(Ln.word 5).toArray⟩, .string ⟨(Ln.word 6).toArray⟩, .string ⟨(Ln.word 7).toArray⟩]) (.int .i64 6)).run Tryz.prog w = .ok (.string ⟨(Ln.word 6).toArray⟩) w := by kernel_rfl
theorem wordsV_7 (w : World) : (Instr.index 74 (.agg #[.string ⟨(Ln.word 0).toArray⟩, .string ⟨(Ln.word 1).toArray⟩, .string ⟨(Ln.word 2).toArray⟩, .string ⟨(Ln.word 3).toArray⟩, .string ⟨(Ln.word 4).toArray⟩, .string ⟨(Ln.word 5).toArray⟩, .string ⟨(Ln.word 6).toArray⟩, .string ⟨(Ln.word 7).toArray⟩]) (.int .i64 7)).run Tryz.prog w = .ok (.string ⟨(Ln.word 7).toArray⟩) w := by kernel_rfl
theorem wordsV_at (k : Nat) (hk : k < 8) (w : World) : (Instr.index 74 (.agg #[.string ⟨(Ln.word 0).toArray⟩, .string ⟨(Ln.word 1).toArray⟩, .string ⟨(Ln.word 2).toArray⟩, .string ⟨(Ln.word 3).toArray⟩, .string ⟨(Ln.word 4).toArray⟩, .string ⟨(Ln.word 5).toArray⟩, .string ⟨(Ln.word 6).toArray⟩, .string ⟨(Ln.word 7).toArray⟩]) (.int .i64 (k : Int))).run Tryz.prog w = .ok (str (Ln.word k)) w := by
  match k, hk with
  | 0, _ => exact wordsV_0 w
  | 1, _ => exact wordsV_1 w
  | 2, _ => exact wordsV_2 w
  | 3, _ => exact wordsV_3 w
  | 4, _ => exact wordsV_4 w
  | 5, _ => exact wordsV_5 w
  | 6, _ => exact wordsV_6 w
  | 7, _ => exact wordsV_7 w
set_option maxRecDepth 100000 in
theorem lineIsSub (s : ByteArray) (w : World) (hE : EnvL w) (hs : s.size ≤ maxLen) :
    Calls Tryz.prog 46 #[.string s] w fun e w' => e = .returned (.bool (Ln.isSub s.data.toList)) ∧ w = w' := by
  have c0 := hE.cell 0 (by decide)
  have c1 := hE.cell 1 (by decide)
  have c2 := hE.cell 2 (by decide)
  have c3 := hE.cell 3 (by decide)
  have c4 := hE.cell 4 (by decide)
  have c5 := hE.cell 5 (by decide)
  have c6 := hE.cell 6 (by decide)
  have c7 := hE.cell 7 (by decide)
  have HE := Lib.hid hE
  clear hE
  go_enter Tryz.func46, Tryz.ntmps46
  go_wp2_with fail
  clear c0 c1 c2 c3 c4 c5 c6 c7
  go_loop [6] (fun i => ∃ k : Nat, k ≤ 8 ∧ i = .int .i64 (k : Int) ∧ NoWordTo s.data.toList k) (fun i => 8 - (intOf i).toNat)
  case atStart => exact ⟨0, by omega, rfl, fun j hj => by omega⟩
  case round =>
    obtain ⟨k, hk, rfl, hno⟩ := hrel
    have HNO := Lib.hid hno
    clear hno
    by_cases hlt : k < 8
    · have hi := fun w => wordsV_at k hlt w
      obtain ⟨sx, hsx, ex⟩ := exists_bytes (Ln.word k)
      rw [ex] at hi
      by_cases hw : Ln.word k = s.data.toList
      · have ht : (s.toList == sx.toList) = true := bytes_eq (by rw [hsx, hw])
        have HR := Lib.hid (Ln.isSub_word (s := s.data.toList) (by rw [Ln.ix_hit hlt hw]; exact hlt))
        clear hw hsx ex
        go_wp2_with fail
        go_ret
        exact ⟨ret_bool HR.out.symm, rfl⟩
      · have ht : (s.toList == sx.toList) = false := bytes_ne (by rw [hsx]; exact Ne.symm hw)
        have HN := Lib.hid (HNO.out.next hw)
        clear hw hsx ex
        go_wp2_with fail
        go_round
        case rel => exact ⟨k + 1, by omega, by go_num, HN.out⟩
        case measure => simp [intOf]; omega
    · obtain rfl : k = 8 := by omega
      have HR := Lib.hid (Ln.isSub_else (Ln.ix_none HNO.out))
      go_wp2_with fail
      refine (wordIs s _ HE.out.len hs).mono ?_
      rintro e w1 ⟨rfl, rfl⟩
      go_wp2_with fail
      go_ret
      exact ⟨ret_bool HR.out.symm, rfl⟩
/-! HasSub -/

/-- an append of nothing (a nil slice of whatever capacity) -/
theorem run_append_nil {P : Program} {w : World} (base : Nat) (t ty e : TypeId) (i : TypeInfo) (size c : Nat) (ht : P.underlying t = some (.slice e)) (hi : P.info? e = some i)
    (v : Value) (n : Nat) (xs : List Value) (hown : w.ownsRow base e size v n xs) : (Builtin.append_ #[t, t] ty #[v, .slice none 0 c]).run P w = .ok v w := by
  rcases hown.2 with ⟨rfl, rfl⟩ | ⟨g, cap, cur, rfl, _, _, hnc, _⟩
  · simp [Builtin.append_, run_underlying ht, sizeOf, typeInfo, hi, Builtin.lenOf, Builtin.firstCells]
  · simp [Builtin.append_, run_underlying ht, sizeOf, typeInfo, hi, Builtin.lenOf, Builtin.firstCells, hnc, storeCells]
set_option maxRecDepth 100000 in
/-- 's = append(s, x...)', s a row of the call's own, x any row of strings -/
theorem wpList_append_strs {ops : Array Oper} {rest : List Oper} {o : Oper} {a : Act} {Q : Exit → Act → World → Prop} (hgd : o.guard = none) (s x : Operand)
    (ho : o.op = .call { callee := .builtin .append, args := #[s, x], argTypes := #[50, 50] })
    {B : Nat} {w0 w : World} {v u : Value} {l xs : List Bs} (hs : a.eval s = v) (hown : OwnStrs B w v l) (hx : a.eval x = u) (hxs : Strs w u xs)
    (hlen : l.length + xs.length ≤ 1000000000) (hB : B ≤ w.heap.size) (hb : Below B w0 w)
    (h : ∀ v' w', OwnStrs B w' v' (l ++ xs) → Below B w0 w' → wpList Tryz.prog ops Q rest (a.put o.dst v') w') :
    wpList Tryz.prog ops Q (o :: rest) a w := by
  obtain ⟨i0, hi, hz0, hz1, hz2⟩ := info_parts infoStr
  have hrow : w.ownsRow B 9 1 v l.length (l.map str) := hown
  obtain ⟨ad, c, rfl, h1, h2, h3⟩ := hxs
  cases ad with
  | none =>
    obtain rfl : xs = [] := by
      cases xs with
      | nil => rfl
      | cons y r => obtain ⟨b, o, e, _⟩ := h3 0 y rfl; cases e
    refine wpList_plain hgd fun K hK => ?_
    have hrun := run_append_nil (P := Tryz.prog) (w := w) B 50 o.type 9 i0 1 c Tryz.underlying50 hi v l.length (l.map str) hrow
    unfold Oper.wp
    simp [execOp, ho, resolve, invoke, builtin, hs, hx, hrun, Result.andThen]
    exact hK _ _ (h v w (by rw [List.append_nil]; exact hown) hb)
  | some p =>
    refine wpList_append_own_at _ hgd s x 50 ho B 9 i0 (.string ⟨#[]⟩) 1 16 Tryz.underlying50 hi hz0 hz1 hz2 rfl (by decide) v l.length (l.map str) hs hrow p xs.length c (xs.map str) hx (by simp) ?_ ?_ ?_ ?_ hB ?_
    · intro j y hj
      rw [List.getElem?_map, Option.map_eq_some_iff] at hj
      obtain ⟨z, hz, rfl⟩ := hj
      obtain ⟨b, o, e, _, h5⟩ := h3 j z hz
      injection e with e
      subst e
      have hadd : (⟨b, o, none⟩ : Addr).add j = ⟨b, o + j, none⟩ := by unfold Addr.add; split <;> simp_all
      rw [hadd]
      exact h5
    · intro y hy
      obtain ⟨z, _, rfl⟩ := List.mem_map.1 hy
      rfl
    · unfold maxLen; omega
    · omega
    · intro v' w' hown' hgrow _ _
      have h6 : OwnStrs B w' v' (l ++ xs) := by
        unfold OwnStrs
        simpa using hown'
      exact h v' w' h6 (hb.grown hgrow hB fun k hk => (World.ownsRow.lt hrow k hk).1)
theorem wordsOf_len (m f : Nat) : (Ln.wordsOf m f).length ≤ 31 := by unfold Ln.wordsOf; rw [List.length_map]; exact Num.bitsL_len m 31
/-- the bits of m are places of words -/
def BitsFit (m f : Nat) : Prop := ∀ (j : Nat) (x : Int), (Num.bitsL m 31)[j]? = some x → ∃ k : Nat, x = (k : Int) ∧ f + k < 8
theorem bits_fit {m f n : Nat} (hm : m < 2 ^ n) (hf : f + n ≤ 8) : BitsFit m f := by
  intro j x hx
  have hmem := List.mem_of_getElem? hx
  unfold Num.bitsL at hmem
  obtain ⟨i, hi, rfl⟩ := List.mem_map.1 hmem
  have h1 := (List.mem_filter.1 hi).2
  refine ⟨i, rfl, ?_⟩
  by_cases h : i < n
  · omega
  · have : Num.bitB m i = false := Num.bitB_zero (k := n) (Nat.div_eq_of_lt hm) i (by omega)
    rw [this] at h1
    cases h1
theorem take_words {m f j : Nat} {k : Nat} (hx : (Num.bitsL m 31)[j]? = some (k : Int)) : ((Num.bitsL m 31).take (j + 1)).map (fun i => Ln.word (f + i.toNat)) = ((Num.bitsL m 31).take j).map (fun i => Ln.word (f + i.toNat)) ++ [Ln.word (f + k)] := by
  obtain ⟨hj, e⟩ := List.getElem?_eq_some_iff.1 hx
  rw [List.take_succ_eq_append_getElem hj, List.map_append, e]
  rfl
set_option maxHeartbeats 1000000 in
set_option maxRecDepth 100000 in
theorem lineWordsOf (m f : Nat) (w : World) (hE : EnvL w) (hm : (m : Int) ≤ 9223372036854775807) (hf : (f : Int) ≤ 8) (hfit : BitsFit m f) :
    Calls Tryz.prog 138 #[.int .i64 m, .int .i64 f] w (StrsRes (Ln.wordsOf m f) w) := by
  have HW : Hid (Ln.wordsOf m f = (Num.bitsL m 31).map fun i => Ln.word (f + i.toNat)) := Lib.hid rfl
  have HE := Lib.hid hE
  have hlen := Num.bitsL_len m 31
  have HFIT := Lib.hid hfit
  have HT := Lib.hid (fun (j k : Nat) hx => take_words (m := m) (f := f) (j := j) (k := k) hx)
  clear hE hfit
  go_enter Tryz.func138, Tryz.ntmps138
  go_wp2_with fail
  refine (numBits m hm _).mono ?_
  rintro e w1 ⟨v, rfl, hown, hb⟩
  have HE1 := Lib.hid (HE.out.below hb)
  have HB1 := Lib.hid hb
  rcases hown.shape with ⟨rfl, hl⟩ | ⟨g, cap, rfl, _, hg, hlc, hcap, hcell⟩
  · have HW2 : Hid (Ln.wordsOf m f = []) := Lib.hid (by rw [HW.out, hl]; rfl)
    clear hown hb hl hlen
    go_wp2_with fail
    refine wp_loop_rounds 1 ?_
    rw [rounds_succ]
    go_wp2_with fail
    go_ret
    exact ⟨_, rfl, by rw [HW2.out]; exact OwnStrs.nil _ _, HB1.out⟩
  · have D := Lib.hid hcell
    unfold BitsFit at HFIT
    clear hown hb hcell HE
    generalize Num.bitsL m 31 = l at *
    unfold maxLen at hcap
    go_wp2_with fail
    go_loopw [5, 11] (fun pv iv wr => ∃ j : Nat, j ≤ l.length ∧ iv = .int .i64 (j : Int) ∧ OwnStrs w1.heap.size wr pv ((l.take j).map fun i => Ln.word (f + i.toNat)) ∧ Below w1.heap.size w1 wr) (fun _ iv _ => l.length - (intOf iv).toNat)
    case atStart => exact ⟨0, by omega, rfl, OwnStrs.nil _ _, Below.refl _ _⟩
    case round =>
      obtain ⟨j, hj, rfl, hown, hbr⟩ := hrel
      by_cases hlt : j < l.length
      · have hsz := hbr.size
        have hx : l[j]? = some l[j] := List.getElem?_eq_getElem hlt
        obtain ⟨k, hk, hk8⟩ := HFIT.out j _ hx
        rw [hk] at hx
        have hc : wr.cell? ⟨g, j, none⟩ = some (.int .i64 (k : Int)) := (hbr.cell (p := ⟨g, j, none⟩) hg).trans (D.out j _ hx)
        obtain ⟨sx, hsx, ex⟩ := exists_bytes (Ln.word (f + k))
        have hcw : wr.cell? ⟨1, f + k, none⟩ = some (.string sx) := ((HE1.out.below hbr).cell (f + k) hk8).trans (congrArg some ex)
        have HP := Lib.hid (HT.out j k hx)
        have hpl : ((l.take j).map fun i => Ln.word (f + i.toNat)).length ≤ 1000000000000 := by simp; omega
        have HSX := Lib.hid hsx
        have HO := Lib.hid hown
        have HBR := Lib.hid hbr
        have HPL := Lib.hid hpl
        clear hx hsx ex hown hbr hpl hk
        go_wp2_with (at_builtin; refine wpList_push_str rfl _ _ rfl rfl HO.out sx rfl HPL.out hsz HBR.out ?_)
        intro v' w2 ho hb'
        go_wp2_with fail
        go_roundw
        case rel => exact ⟨j + 1, by omega, by go_num, by rw [HP.out, ← HSX.out, List.map_take]; exact ho, hb'⟩
        case measure => simp [intOf]; omega
      · obtain rfl : j = l.length := by omega
        have HO := Lib.hid (by rw [List.take_length] at hown; exact hown : OwnStrs w1.heap.size wr _ (l.map fun i => Ln.word (f + i.toNat)))
        have HBR := Lib.hid hbr
        clear hown hbr
        go_wp2_with fail
        go_ret
        exact ⟨_, rfl, by rw [HW.out]; exact HO.out.mono HB1.out.size, HB1.out.trans (HBR.out.mono HB1.out.size)⟩

theorem join_len_le {c : UInt8} {m : Nat} : ∀ {ps : List Bs}, (∀ p ∈ ps, p.length ≤ m) → (Lib.join ps [c]).length ≤ (m + 1) * ps.length
  | [], _ => by simp [Lib.join]
  | [p], h => by
    have := h p (by simp)
    rw [Lib.join_one]
    simp
    omega
  | p :: q :: r, h => by
    have h1 := h p (by simp)
    have h2 := join_len_le (c := c) (m := m) (ps := q :: r) (fun x hx => h x (List.mem_cons_of_mem _ hx))
    rw [Ln.join_two]
    simp only [List.length_append, List.length_cons] at h2 ⊢
    simp only [Nat.mul_add, Nat.add_mul] at h2 ⊢
    omega
theorem word_len (k : Nat) : (Ln.word k).length ≤ 8 := by
  by_cases h : k < 8
  · have : ∀ k, k < 8 → (Ln.word k).length ≤ 8 := by decide +kernel
    exact this k h
  · unfold Ln.word List.getD
    rw [List.getElem?_eq_none (by show 8 ≤ k; omega)]
    simp
theorem wordsOf_short {m f : Nat} : ∀ p ∈ Ln.wordsOf m f, p.length ≤ 8 := by
  intro p hp
  unfold Ln.wordsOf at hp
  obtain ⟨i, _, rfl⟩ := List.mem_map.1 hp
  exact word_len _
/-- the text of a mask of types -/
def typesN (m : Nat) : Bs := Lib.join (Ln.wordsOf m 2) [43]
def typesI (m : Int) : Bs := if 1 ≤ m ∧ m ≤ 63 then typesN m.toNat else []
theorem typesI_nat {m : Nat} (h1 : 1 ≤ m) (h2 : m ≤ 63) : typesI (m : Int) = typesN m := by unfold typesI; rw [if_pos (by omega)]; rfl
theorem typesI_out {m : Int} (h : m < 1 ∨ 63 < m) : typesI m = [] := by unfold typesI; rw [if_neg (by omega)]
theorem typesN_len (m : Nat) : (typesN m).length ≤ 300 := by
  have h1 := join_len_le (c := 43) (m := 8) (ps := Ln.wordsOf m 2) wordsOf_short
  have h2 := wordsOf_len m 2
  unfold typesN
  omega
set_option maxRecDepth 100000 in
theorem lineTypesText (m : Int) (w : World) (hE : EnvL w) :
    Calls Tryz.prog 121 #[.int .i64 m] w fun e w' => e = .returned (str (typesI m)) ∧ Below w.heap.size w w' := by
  by_cases h : 1 ≤ m ∧ m ≤ 63
  · obtain ⟨n, rfl⟩ : ∃ n : Nat, m = (n : Int) := ⟨m.toNat, by omega⟩
    have h1 : (1 : Int) ≤ (n : Int) := h.1
    have h2 : (n : Int) ≤ 63 := h.2
    have HT := Lib.hid (typesI_nat (m := n) (by omega) (by omega))
    have HE := Lib.hid hE
    have HF := Lib.hid (bits_fit (m := n) (f := 2) (n := 6) (by omega) (by omega))
    clear h hE
    go_enter Tryz.func121, Tryz.ntmps121
    go_wp2_with fail
    refine (lineWordsOf n 2 _ HE.out (by omega) (by omega) HF.out).mono ?_
    rintro e w1 ⟨v1, rfl, ho1, hb1⟩
    have B1 := Lib.hid hb1
    have HJ := Lib.hid (wordJoin v1 (Ln.wordsOf n 2) ⟨#[43]⟩ w1 ho1.strs (by have := wordsOf_len n 2; omega) (Nat.le_trans (typesN_len n) (by omega)))
    clear ho1 hb1
    go_wp2_with fail
    refine HJ.out.mono ?_
    rintro e w2 ⟨rfl, hb2⟩
    go_wp2_with fail
    go_ret
    exact ⟨by rw [HT.out]; rfl, B1.out.trans (hb2.mono B1.out.size)⟩
  · have HT := Lib.hid (typesI_out (m := m) (by omega))
    rcases Int.lt_or_le m 1 with h1 | h1
    · go_enter Tryz.func121, Tryz.ntmps121
      go_wp2_with fail
      go_ret
      exact ⟨by rw [HT.out]; rfl, Below.refl _ _⟩
    · have h2 : 63 < m := by omega
      clear h
      go_enter Tryz.func121, Tryz.ntmps121
      go_wp2_with fail
      go_ret
      exact ⟨by rw [HT.out]; rfl, Below.refl _ _⟩
end Go.Proofs.YtkohfomiigcifaaGreatDoor
