/-
  CONTRACTS OF LAYER 13 (filter): the tables, typeWord, wordsOf, boundText. By an AI agent.
-/
import Derived.Test.YtkohfomiigcifaaGreatDoorFilIs
import Derived.Deep.RegionHeld3
namespace Go.Proofs.YtkohfomiigcifaaGreatDoor
open Go.RowKit
open Wd (Bs)

/-- the table's block is the next one -/
theorem tab_zonesL (w : World) : Calls Tryz.prog 81 #[] w fun e w' => e = .returned (.slice (some ⟨w.heap.size, 0, none⟩) 6 6) ∧ w' = w.alloc (.cells (Fil.zonesL.map str).toArray 9) := by
  go_enter Tryz.func81, Tryz.ntmps81
  go_wp2_with fail
  go_ret
  exact ⟨rfl, rfl⟩
theorem fil_zonesL (w : World) : Calls Tryz.prog 81 #[] w (StrsRes Fil.zonesL w) :=
  (tab_zonesL w).mono fun e w' ⟨he, hw⟩ => by rw [he, hw]; exact ⟨_, rfl, OwnStrs.lit _ Fil.zonesL (by decide), (Below.refl _ _).alloc (Nat.le_refl _) _⟩
/-- the table's block is the next one -/
theorem tab_whoL (w : World) : Calls Tryz.prog 82 #[] w fun e w' => e = .returned (.slice (some ⟨w.heap.size, 0, none⟩) 3 3) ∧ w' = w.alloc (.cells (Fil.whoL.map str).toArray 9) := by
  go_enter Tryz.func82, Tryz.ntmps82
  go_wp2_with fail
  go_ret
  exact ⟨rfl, rfl⟩
theorem fil_whoL (w : World) : Calls Tryz.prog 82 #[] w (StrsRes Fil.whoL w) :=
  (tab_whoL w).mono fun e w' ⟨he, hw⟩ => by rw [he, hw]; exact ⟨_, rfl, OwnStrs.lit _ Fil.whoL (by decide), (Below.refl _ _).alloc (Nat.le_refl _) _⟩
/-- the table's block is the next one -/
theorem tab_selfL (w : World) : Calls Tryz.prog 83 #[] w fun e w' => e = .returned (.slice (some ⟨w.heap.size, 0, none⟩) 3 3) ∧ w' = w.alloc (.cells (Fil.selfL.map str).toArray 9) := by
  go_enter Tryz.func83, Tryz.ntmps83
  go_wp2_with fail
  go_ret
  exact ⟨rfl, rfl⟩
theorem fil_selfL (w : World) : Calls Tryz.prog 83 #[] w (StrsRes Fil.selfL w) :=
  (tab_selfL w).mono fun e w' ⟨he, hw⟩ => by rw [he, hw]; exact ⟨_, rfl, OwnStrs.lit _ Fil.selfL (by decide), (Below.refl _ _).alloc (Nat.le_refl _) _⟩
/-- the table's block is the next one -/
theorem tab_tapL (w : World) : Calls Tryz.prog 88 #[] w fun e w' => e = .returned (.slice (some ⟨w.heap.size, 0, none⟩) 3 3) ∧ w' = w.alloc (.cells (Fil.tapL.map str).toArray 9) := by
  go_enter Tryz.func88, Tryz.ntmps88
  go_wp2_with fail
  go_ret
  exact ⟨rfl, rfl⟩
theorem fil_tapL (w : World) : Calls Tryz.prog 88 #[] w (StrsRes Fil.tapL w) :=
  (tab_tapL w).mono fun e w' ⟨he, hw⟩ => by rw [he, hw]; exact ⟨_, rfl, OwnStrs.lit _ Fil.tapL (by decide), (Below.refl _ _).alloc (Nat.le_refl _) _⟩
/-- the table's block is the next one -/
theorem tab_signsL (w : World) : Calls Tryz.prog 123 #[] w fun e w' => e = .returned (.slice (some ⟨w.heap.size, 0, none⟩) 4 4) ∧ w' = w.alloc (.cells (Fil.signsL.map str).toArray 9) := by
  go_enter Tryz.func123, Tryz.ntmps123
  go_wp2_with fail
  go_ret
  exact ⟨rfl, rfl⟩
theorem fil_signsL (w : World) : Calls Tryz.prog 123 #[] w (StrsRes Fil.signsL w) :=
  (tab_signsL w).mono fun e w' ⟨he, hw⟩ => by rw [he, hw]; exact ⟨_, rfl, OwnStrs.lit _ Fil.signsL (by decide), (Below.refl _ _).alloc (Nat.le_refl _) _⟩
theorem types_one : ∀ k, k < 6 → typesN (2 ^ k) = Fil.typeW k := by decide +kernel
theorem typesI_pow (k : Nat) : typesI ((2 ^ k : Nat) : Int) = Fil.typeW k := by
  by_cases h : k < 6
  · have : 2 ^ k ≤ 2 ^ 5 := Nat.pow_le_pow_right (by omega) (by omega)
    rw [typesI_nat (Nat.one_le_two_pow) (by omega), types_one k h]
  · have : 2 ^ 6 ≤ 2 ^ k := Nat.pow_le_pow_right (by omega) (by omega)
    rw [typesI_out (by omega)]
    unfold Fil.typeW
    rw [if_neg h]
theorem filTypeWord (k : Nat) (hk : k < 63) (w : World) (hE : Env w) :
    Calls Tryz.prog 85 #[.int .i64 k] w fun e w' => e = .returned (str (Fil.typeW k)) ∧ Below w.heap.size w w' := by
  have HP := Lib.hid (Bt.pow64 k hk)
  have HT := Lib.hid (typesI_pow k)
  have HE := Lib.hid hE
  have hk1 : (k : Int) < 63 := by omega
  clear hE
  go_enter Tryz.func85, Tryz.ntmps85
  go_wp2_with fail
  rw [HP.out]
  refine (lineTypesText _ _ HE.out.line).mono ?_
  rw [HT.out]
  rintro e w1 ⟨rfl, hb⟩
  have HB := Lib.hid hb
  clear hb
  go_wp2_with fail
  go_ret
  exact ⟨rfl, HB.out⟩
theorem filNameC (k : Nat) (w : World) (hE : Env w) : Calls Tryz.prog 86 #[.int .i64 k] w fun e w' => e = .returned (str (Col.name k)) ∧ Below w.heap.size w w' :=
  (colorName k w hE.col).mono fun e w' ⟨he, hw⟩ => by rw [he, Col.nameI_nat, hw]; exact ⟨rfl, Below.refl _ _⟩
theorem filNameK (k : Nat) (w : World) : Calls Tryz.prog 87 #[.int .i64 k] w fun e w' => e = .returned (str (Kw.name k)) ∧ Below w.heap.size w w' :=
  (keyName k w).mono fun e w' ⟨he, hb⟩ => by rw [he, Kw.nameI_nat]; exact ⟨rfl, hb⟩
/-- the words of the bits below k -/
theorem maskW_bits (nm : Nat → Bs) (pre : Bs) (m : Nat) : Fil.maskW nm pre m 31 = (Num.bitsL m 31).map fun i => pre ++ nm i.toNat := by
  unfold Fil.maskW Num.bitsL
  rw [List.map_map]
  exact List.map_congr_left fun i _ => rfl
theorem maskW_take {nm : Nat → Bs} {pre : Bs} {m j k : Nat} (hx : (Num.bitsL m 31)[j]? = some (k : Int)) : ((Num.bitsL m 31).take (j + 1)).map (fun i => pre ++ nm i.toNat) = ((Num.bitsL m 31).take j).map (fun i => pre ++ nm i.toNat) ++ [pre ++ nm k] := by
  obtain ⟨hj, e⟩ := List.getElem?_eq_some_iff.1 hx
  rw [List.take_succ_eq_append_getElem hj, List.map_append, e]
  rfl
theorem bits_lt {m j : Nat} {x : Int} (hx : (Num.bitsL m 31)[j]? = some x) : ∃ k : Nat, x = (k : Int) ∧ k < 31 := by
  have hmem := List.mem_of_getElem? hx
  unfold Num.bitsL at hmem
  obtain ⟨i, hi, rfl⟩ := List.mem_map.1 hmem
  exact ⟨i, rfl, by simpa using (List.mem_filter.1 hi).1⟩
theorem maskW_full {nm : Nat → Bs} {pre : Bs} {m n : Nat} (hm : m < 2 ^ n) (hn : n ≤ 31) : Fil.maskW nm pre m 31 = Fil.maskW nm pre m n := by
  have h := Num.bitsL_full (n := m) (k := n) (Nat.div_eq_of_lt hm) hn
  rw [maskW_bits, ← h]
  unfold Fil.maskW Num.bitsL
  rw [List.map_map]
  exact List.map_congr_left fun i _ => rfl
theorem cat_bytes (a b : ByteArray) : (a ++ b).data.toList = a.data.toList ++ b.data.toList := by simp
set_option maxHeartbeats 1000000 in
set_option maxRecDepth 100000 in
theorem filWordsT (m : Nat) (pre : ByteArray) (w : World) (hE : Env w) (hm : (m : Int) ≤ 9223372036854775807) (hp : pre.size ≤ 1000) (hn : ∀ k, (Fil.typeW k).length ≤ 1000) :
    Calls Tryz.prog 84 #[.int .i64 m, .string pre, .func (.func 85) #[] #[]] w (StrsRes (Fil.maskW Fil.typeW pre.data.toList m 31) w) := by
  have HW := Lib.hid (maskW_bits Fil.typeW pre.data.toList m)
  have HE := Lib.hid hE
  have hlen := Num.bitsL_len m 31
  have HFIT := Lib.hid (fun (j : Nat) (x : Int) hx => bits_lt (m := m) (j := j) (x := x) hx)
  have HT := Lib.hid (fun (j k : Nat) hx => maskW_take (nm := Fil.typeW) (pre := pre.data.toList) (m := m) (j := j) (k := k) hx)
  have HN := Lib.hid hn
  clear hn hE
  go_enter Tryz.func84, Tryz.ntmps84
  go_wp2_with fail
  refine (numBits m hm _).mono ?_
  rintro e w1 ⟨v, rfl, hown, hb⟩
  have HE1 := Lib.hid (HE.out.below hb)
  have HB1 := Lib.hid hb
  rcases hown.shape with ⟨rfl, hl⟩ | ⟨g, cap, rfl, _, hg, hlc, hcap, hcell⟩
  · have HW2 : Hid (Fil.maskW Fil.typeW pre.data.toList m 31 = []) := Lib.hid (by rw [HW.out, hl]; rfl)
    clear hown hb hl hlen
    go_wp2_with fail
    refine wp_loop_rounds 1 ?_
    rw [rounds_succ]
    go_wp2_with fail
    go_ret
    exact ⟨_, rfl, by rw [HW2.out]; exact OwnStrs.nil _ _, HB1.out⟩
  · have D := Lib.hid hcell
    clear hown hb hcell HE
    generalize Num.bitsL m 31 = l at *
    unfold maxLen at hcap
    go_wp2_with fail
    go_loopw [7, 13] (fun pv iv wr => ∃ j : Nat, j ≤ l.length ∧ iv = .int .i64 (j : Int) ∧ OwnStrs w1.heap.size wr pv ((l.take j).map fun i => pre.data.toList ++ Fil.typeW i.toNat) ∧ Below w1.heap.size w1 wr) (fun _ iv _ => l.length - (intOf iv).toNat)
    case atStart => exact ⟨0, by omega, rfl, OwnStrs.nil _ _, Below.refl _ _⟩
    case round =>
      obtain ⟨j, hj, rfl, hown, hbr⟩ := hrel
      by_cases hlt : j < l.length
      · have hsz := hbr.size
        have hx : l[j]? = some l[j] := List.getElem?_eq_getElem hlt
        obtain ⟨k, hk, hk31⟩ := HFIT.out j _ hx
        rw [hk] at hx
        have hc : wr.cell? ⟨g, j, none⟩ = some (.int .i64 (k : Int)) := (hbr.cell (p := ⟨g, j, none⟩) hg).trans (D.out j _ hx)
        obtain ⟨sx, hsx, ex⟩ := exists_bytes (Fil.typeW k)
        have hC : Calls Tryz.prog 85 #[.int .i64 k] wr fun e w' => e = .returned (.string sx) ∧ Below wr.heap.size wr w' := by rw [← ex]; exact filTypeWord k (by omega) _ (HE1.out.below hbr)
        have HC := Lib.hid hC
        have hsz1 : sx.size ≤ 1000 := by
          have h1 := HN.out k
          rw [← hsx] at h1
          simpa using h1
        have hcat : ∀ W : World, (Op.stringOp .add pre sx).run Tryz.prog W = .ok (.string (pre ++ sx)) W := fun W => run_string_add_sum W _ _ (by omega)
        have HP := Lib.hid (HT.out j k hx)
        have hpl : ((l.take j).map fun i => pre.data.toList ++ Fil.typeW i.toNat).length ≤ 1000000000000 := by simp; omega
        have HSX := Lib.hid hsx
        have HO := Lib.hid hown
        have HBR := Lib.hid hbr
        have HPL := Lib.hid hpl
        clear hx hsx ex hown hbr hpl hk hC
        go_wp2_with fail
        refine HC.out.mono ?_
        rintro e w2 ⟨rfl, hb2⟩
        have HO2 := Lib.hid (HO.out.below hb2 (Nat.le_refl _))
        have HB2 := Lib.hid (HBR.out.trans (hb2.mono hsz))
        have hsz2 : w1.heap.size ≤ w2.heap.size := Nat.le_trans hsz hb2.size
        clear HO hb2
        go_wp2_with (at_builtin; refine wpList_push_str rfl _ _ rfl rfl HO2.out _ rfl HPL.out hsz2 HB2.out ?_)
        intro v' w3 ho hb'
        go_wp2_with fail
        go_roundw
        case rel => exact ⟨j + 1, by omega, by go_num, by rw [HP.out, ← HSX.out, List.map_take]; exact ho, hb'⟩
        case measure => simp [intOf]; omega
      · obtain rfl : j = l.length := by omega
        have HO := Lib.hid (by rw [List.take_length] at hown; exact hown : OwnStrs w1.heap.size wr _ (l.map fun i => pre.data.toList ++ Fil.typeW i.toNat))
        have HBR := Lib.hid hbr
        clear hown hbr
        go_wp2_with fail
        go_ret
        exact ⟨_, rfl, by rw [HW.out]; exact HO.out.mono HB1.out.size, HB1.out.trans (HBR.out.mono HB1.out.size)⟩
set_option maxHeartbeats 1000000 in
set_option maxRecDepth 100000 in
theorem filWordsC (m : Nat) (pre : ByteArray) (w : World) (hE : Env w) (hm : (m : Int) ≤ 9223372036854775807) (hp : pre.size ≤ 1000) (hn : ∀ k, (Col.name k).length ≤ 1000) :
    Calls Tryz.prog 84 #[.int .i64 m, .string pre, .func (.func 86) #[] #[]] w (StrsRes (Fil.maskW Col.name pre.data.toList m 31) w) := by
  have HW := Lib.hid (maskW_bits Col.name pre.data.toList m)
  have HE := Lib.hid hE
  have hlen := Num.bitsL_len m 31
  have HFIT := Lib.hid (fun (j : Nat) (x : Int) hx => bits_lt (m := m) (j := j) (x := x) hx)
  have HT := Lib.hid (fun (j k : Nat) hx => maskW_take (nm := Col.name) (pre := pre.data.toList) (m := m) (j := j) (k := k) hx)
  have HN := Lib.hid hn
  clear hn hE
  go_enter Tryz.func84, Tryz.ntmps84
  go_wp2_with fail
  refine (numBits m hm _).mono ?_
  rintro e w1 ⟨v, rfl, hown, hb⟩
  have HE1 := Lib.hid (HE.out.below hb)
  have HB1 := Lib.hid hb
  rcases hown.shape with ⟨rfl, hl⟩ | ⟨g, cap, rfl, _, hg, hlc, hcap, hcell⟩
  · have HW2 : Hid (Fil.maskW Col.name pre.data.toList m 31 = []) := Lib.hid (by rw [HW.out, hl]; rfl)
    clear hown hb hl hlen
    go_wp2_with fail
    refine wp_loop_rounds 1 ?_
    rw [rounds_succ]
    go_wp2_with fail
    go_ret
    exact ⟨_, rfl, by rw [HW2.out]; exact OwnStrs.nil _ _, HB1.out⟩
  · have D := Lib.hid hcell
    clear hown hb hcell HE
    generalize Num.bitsL m 31 = l at *
    unfold maxLen at hcap
    go_wp2_with fail
    go_loopw [7, 13] (fun pv iv wr => ∃ j : Nat, j ≤ l.length ∧ iv = .int .i64 (j : Int) ∧ OwnStrs w1.heap.size wr pv ((l.take j).map fun i => pre.data.toList ++ Col.name i.toNat) ∧ Below w1.heap.size w1 wr) (fun _ iv _ => l.length - (intOf iv).toNat)
    case atStart => exact ⟨0, by omega, rfl, OwnStrs.nil _ _, Below.refl _ _⟩
    case round =>
      obtain ⟨j, hj, rfl, hown, hbr⟩ := hrel
      by_cases hlt : j < l.length
      · have hsz := hbr.size
        have hx : l[j]? = some l[j] := List.getElem?_eq_getElem hlt
        obtain ⟨k, hk, hk31⟩ := HFIT.out j _ hx
        rw [hk] at hx
        have hc : wr.cell? ⟨g, j, none⟩ = some (.int .i64 (k : Int)) := (hbr.cell (p := ⟨g, j, none⟩) hg).trans (D.out j _ hx)
        obtain ⟨sx, hsx, ex⟩ := exists_bytes (Col.name k)
        have hC : Calls Tryz.prog 86 #[.int .i64 k] wr fun e w' => e = .returned (.string sx) ∧ Below wr.heap.size wr w' := by rw [← ex]; exact filNameC k _ (HE1.out.below hbr)
        have HC := Lib.hid hC
        have hsz1 : sx.size ≤ 1000 := by
          have h1 := HN.out k
          rw [← hsx] at h1
          simpa using h1
        have hcat : ∀ W : World, (Op.stringOp .add pre sx).run Tryz.prog W = .ok (.string (pre ++ sx)) W := fun W => run_string_add_sum W _ _ (by omega)
        have HP := Lib.hid (HT.out j k hx)
        have hpl : ((l.take j).map fun i => pre.data.toList ++ Col.name i.toNat).length ≤ 1000000000000 := by simp; omega
        have HSX := Lib.hid hsx
        have HO := Lib.hid hown
        have HBR := Lib.hid hbr
        have HPL := Lib.hid hpl
        clear hx hsx ex hown hbr hpl hk hC
        go_wp2_with fail
        refine HC.out.mono ?_
        rintro e w2 ⟨rfl, hb2⟩
        have HO2 := Lib.hid (HO.out.below hb2 (Nat.le_refl _))
        have HB2 := Lib.hid (HBR.out.trans (hb2.mono hsz))
        have hsz2 : w1.heap.size ≤ w2.heap.size := Nat.le_trans hsz hb2.size
        clear HO hb2
        go_wp2_with (at_builtin; refine wpList_push_str rfl _ _ rfl rfl HO2.out _ rfl HPL.out hsz2 HB2.out ?_)
        intro v' w3 ho hb'
        go_wp2_with fail
        go_roundw
        case rel => exact ⟨j + 1, by omega, by go_num, by rw [HP.out, ← HSX.out, List.map_take]; exact ho, hb'⟩
        case measure => simp [intOf]; omega
      · obtain rfl : j = l.length := by omega
        have HO := Lib.hid (by rw [List.take_length] at hown; exact hown : OwnStrs w1.heap.size wr _ (l.map fun i => pre.data.toList ++ Col.name i.toNat))
        have HBR := Lib.hid hbr
        clear hown hbr
        go_wp2_with fail
        go_ret
        exact ⟨_, rfl, by rw [HW.out]; exact HO.out.mono HB1.out.size, HB1.out.trans (HBR.out.mono HB1.out.size)⟩
set_option maxHeartbeats 1000000 in
set_option maxRecDepth 100000 in
theorem filWordsK (m : Nat) (pre : ByteArray) (w : World) (hm : (m : Int) ≤ 9223372036854775807) (hp : pre.size ≤ 1000) (hn : ∀ k, (Kw.name k).length ≤ 1000) :
    Calls Tryz.prog 84 #[.int .i64 m, .string pre, .func (.func 87) #[] #[]] w (StrsRes (Fil.maskW Kw.name pre.data.toList m 31) w) := by
  have HW := Lib.hid (maskW_bits Kw.name pre.data.toList m)
  have hlen := Num.bitsL_len m 31
  have HFIT := Lib.hid (fun (j : Nat) (x : Int) hx => bits_lt (m := m) (j := j) (x := x) hx)
  have HT := Lib.hid (fun (j k : Nat) hx => maskW_take (nm := Kw.name) (pre := pre.data.toList) (m := m) (j := j) (k := k) hx)
  have HN := Lib.hid hn
  clear hn
  go_enter Tryz.func84, Tryz.ntmps84
  go_wp2_with fail
  refine (numBits m hm _).mono ?_
  rintro e w1 ⟨v, rfl, hown, hb⟩
  have HB1 := Lib.hid hb
  rcases hown.shape with ⟨rfl, hl⟩ | ⟨g, cap, rfl, _, hg, hlc, hcap, hcell⟩
  · have HW2 : Hid (Fil.maskW Kw.name pre.data.toList m 31 = []) := Lib.hid (by rw [HW.out, hl]; rfl)
    clear hown hb hl hlen
    go_wp2_with fail
    refine wp_loop_rounds 1 ?_
    rw [rounds_succ]
    go_wp2_with fail
    go_ret
    exact ⟨_, rfl, by rw [HW2.out]; exact OwnStrs.nil _ _, HB1.out⟩
  · have D := Lib.hid hcell
    clear hown hb hcell
    generalize Num.bitsL m 31 = l at *
    unfold maxLen at hcap
    go_wp2_with fail
    go_loopw [7, 13] (fun pv iv wr => ∃ j : Nat, j ≤ l.length ∧ iv = .int .i64 (j : Int) ∧ OwnStrs w1.heap.size wr pv ((l.take j).map fun i => pre.data.toList ++ Kw.name i.toNat) ∧ Below w1.heap.size w1 wr) (fun _ iv _ => l.length - (intOf iv).toNat)
    case atStart => exact ⟨0, by omega, rfl, OwnStrs.nil _ _, Below.refl _ _⟩
    case round =>
      obtain ⟨j, hj, rfl, hown, hbr⟩ := hrel
      by_cases hlt : j < l.length
      · have hsz := hbr.size
        have hx : l[j]? = some l[j] := List.getElem?_eq_getElem hlt
        obtain ⟨k, hk, hk31⟩ := HFIT.out j _ hx
        rw [hk] at hx
        have hc : wr.cell? ⟨g, j, none⟩ = some (.int .i64 (k : Int)) := (hbr.cell (p := ⟨g, j, none⟩) hg).trans (D.out j _ hx)
        obtain ⟨sx, hsx, ex⟩ := exists_bytes (Kw.name k)
        have hC : Calls Tryz.prog 87 #[.int .i64 k] wr fun e w' => e = .returned (.string sx) ∧ Below wr.heap.size wr w' := by rw [← ex]; exact filNameK k _
        have HC := Lib.hid hC
        have hsz1 : sx.size ≤ 1000 := by
          have h1 := HN.out k
          rw [← hsx] at h1
          simpa using h1
        have hcat : ∀ W : World, (Op.stringOp .add pre sx).run Tryz.prog W = .ok (.string (pre ++ sx)) W := fun W => run_string_add_sum W _ _ (by omega)
        have HP := Lib.hid (HT.out j k hx)
        have hpl : ((l.take j).map fun i => pre.data.toList ++ Kw.name i.toNat).length ≤ 1000000000000 := by simp; omega
        have HSX := Lib.hid hsx
        have HO := Lib.hid hown
        have HBR := Lib.hid hbr
        have HPL := Lib.hid hpl
        clear hx hsx ex hown hbr hpl hk hC
        go_wp2_with fail
        refine HC.out.mono ?_
        rintro e w2 ⟨rfl, hb2⟩
        have HO2 := Lib.hid (HO.out.below hb2 (Nat.le_refl _))
        have HB2 := Lib.hid (HBR.out.trans (hb2.mono hsz))
        have hsz2 : w1.heap.size ≤ w2.heap.size := Nat.le_trans hsz hb2.size
        clear HO hb2
        go_wp2_with (at_builtin; refine wpList_push_str rfl _ _ rfl rfl HO2.out _ rfl HPL.out hsz2 HB2.out ?_)
        intro v' w3 ho hb'
        go_wp2_with fail
        go_roundw
        case rel => exact ⟨j + 1, by omega, by go_num, by rw [HP.out, ← HSX.out, List.map_take]; exact ho, hb'⟩
        case measure => simp [intOf]; omega
      · obtain rfl : j = l.length := by omega
        have HO := Lib.hid (by rw [List.take_length] at hown; exact hown : OwnStrs w1.heap.size wr _ (l.map fun i => pre.data.toList ++ Kw.name i.toNat))
        have HBR := Lib.hid hbr
        clear hown hbr
        go_wp2_with fail
        go_ret
        exact ⟨_, rfl, by rw [HW.out]; exact HO.out.mono HB1.out.size, HB1.out.trans (HBR.out.mono HB1.out.size)⟩
end Go.Proofs.YtkohfomiigcifaaGreatDoor
