/-
  THE LAW KeywordNames OF LAYER 11: the names are different, and a text consists of the names of the bits. By an AI agent.
-/
import Derived.Test.YtmkdljemiollfaaKeyLaws
namespace Go.Proofs.Ytmkdljemiollfaa
open Go.RowKit
open Wd (Bs)

/-- a plus and a name for each of the names -/
def plusL : List Bs → Bs
  | [] => []
  | p :: r => 43 :: p ++ plusL r
theorem plusL_snoc : ∀ (ps : List Bs) (x : Bs), plusL (ps ++ [x]) = plusL ps ++ (43 :: x)
  | [], x => by simp [plusL]
  | p :: r, x => by
    show 43 :: p ++ plusL (r ++ [x]) = _
    rw [plusL_snoc r x]
    simp [plusL]
theorem plusL_join : ∀ {ps : List Bs}, ps ≠ [] → plusL ps = 43 :: Lib.join ps [43]
  | [], h => absurd rfl h
  | [p], _ => by rw [Lib.join_one]; simp [plusL]
  | p :: q :: r, _ => by
    show 43 :: p ++ plusL (q :: r) = _
    rw [plusL_join (ps := q :: r) (by simp), Ct.join_two]
    simp
def plusTo (m k : Nat) : Bs := plusL (Kw.parts m k)
theorem plusTo_no {m k : Nat} (h : Num.bitB m k = false) : plusTo m (k + 1) = plusTo m k := by unfold plusTo; rw [Kw.parts_no h]
theorem plusTo_yes {m k : Nat} (h : Num.bitB m k = true) : plusTo m (k + 1) = plusTo m k ++ (43 :: Kw.name k) := by unfold plusTo; rw [Kw.parts_yes h, plusL_snoc]
theorem plusTo_len (m : Nat) : ∀ k, k ≤ 17 → (plusTo m k).length ≤ 14 * k
  | 0, _ => Nat.le_refl _
  | k + 1, h => by
    have ih := plusTo_len m k (by omega)
    have := Kw.name_len k (by omega)
    cases hb : Num.bitB m k with
    | false => rw [plusTo_no hb]; omega
    | true => rw [plusTo_yes hb]; simp; omega
/-- what stands at the end -/
theorem plus_end {m : Nat} (h : m ≤ 131071) : (plusTo m 17 = [] ∧ Kw.textI (m : Int) = [110, 111, 110, 101]) ∨ plusTo m 17 = 43 :: Kw.textI (m : Int) := by
  by_cases h0 : m = 0
  · subst h0
    exact .inl ⟨by decide +kernel, by decide +kernel⟩
  · right
    rw [refText_pos m h (by omega)]
    exact plusL_join fun e => h0 (Kw.parts_zero h e)
theorem has_bit {m i : Nat} (hm : m ≤ 131071) (hi : i < 17) : hasB (m : Int) (wrap64 ((2 : Int) ^ i)) = Num.bitB m i := by
  unfold hasB
  rw [Bt.pow64 i (by omega)]
  exact Bt.has_pow m i (by omega) (by omega)
theorem fromBase {f : FuncId} {args : Array Value} {v : Value} {C : Nat} {w0 W : World} (hb : Below C w0 W) (hC : C ≤ w0.heap.size)
    (h : Calls Try.prog f args W fun e w' => e = .returned v ∧ Below W.heap.size W w') : Calls Try.prog f args W fun e w' => e = .returned v ∧ Below C w0 w' :=
  h.mono fun _ _ ⟨he, hb'⟩ => ⟨he, hb.trans (hb'.mono (Nat.le_trans hC hb.size))⟩
set_option maxHeartbeats 2000000 in
set_option maxRecDepth 100000 in
theorem lawKeywordNames (n : Int) (w : World) :
    Calls Try.prog 7 #[.int .i64 n] w fun e w' => e = .returned (.bool true) ∧ Below w.heap.size w w' := by
  have G1 := Lib.hid (fun w => keyIs n w)
  have G2 := Lib.hid (fun w => keyText n w)
  rcases Kw.valid_cases n with ⟨m, rfl, hm, hv⟩ | ⟨hout, hv⟩
  · rw [hv] at G1
    have HEND := Lib.hid (plus_end hm)
    have HM := Lib.hid hm
    clear hv hm
    go_enter Try.func7, Try.ntmps7
    go_wp2_with fail
    refine (G1.out _).mono ?_
    rintro e w1 ⟨rfl, rfl⟩
    go_wp2_with fail
    go_loopw [3, 15] (fun sv iv wr => ∃ (i : Nat) (r : ByteArray), i ≤ 17 ∧ iv = .int .i64 (i : Int) ∧ sv = .string r ∧ r.data.toList = plusTo m i ∧ Below w.heap.size w wr) (fun _ iv _ => 17 - (intOf iv).toNat)
    case atStart => exact ⟨0, ⟨#[]⟩, by omega, rfl, rfl, rfl, Below.refl _ _⟩
    case round =>
      obtain ⟨i, r, hi, rfl, rfl, hr, hb⟩ := hrel
      have hlen := plusTo_len m i hi
      have hsz : r.size ≤ 238 := by rw [← bytes_len, hr]; omega
      have HR := Lib.hid hr
      have HB := Lib.hid hb
      clear hlen hb
      by_cases hlt : i < 17
      · obtain ⟨sx, hsx, ex⟩ := exists_bytes (Kw.nameI (i : Int))
        have hsx' := hsx.trans (Kw.nameI_nat i)
        have HSX := Lib.hid hsx'
        obtain ⟨hn1, hn13⟩ := name_bytes hlt hsx'
        have HN : Hid (∀ w, Calls Try.prog 10 #[.int .i64 (i : Int)] w fun e w' => e = .returned (.string sx) ∧ Below w.heap.size w w') := Lib.hid (fun w => by rw [← ex]; exact keyName _ _)
        have HH := Lib.hid (fun w => keyHas (m : Int) (wrap64 ((2 : Int) ^ i)) w)
        rw [has_bit HM.out hlt] at HH
        have hne : (sx.toList == []) = false := bytes_none (fun e => by rw [e] at hn1; exact absurd hn1 (by decide))
        have hne2 : sx.toList.isEmpty = false := by
          cases h3 : sx.toList with
          | nil => rw [h3] at hne; simp at hne
          | cons a l => rfl
        clear hr hsx ex hsx'
        go_wp2_with fail
        refine (HN.out _).mono ?_
        rintro e w2 ⟨rfl, hb2⟩
        have HB2 := Lib.hid (HB.out.trans (hb2.mono HB.out.size))
        clear hb2
        go_wp2_with fail
        go_loopw [22] (fun jv wq => ∃ j : Nat, j ≤ i ∧ jv = .int .i64 (j : Int) ∧ Below w.heap.size w wq) (fun jv _ => i - (intOf jv).toNat)
        case atStart => exact ⟨0, by omega, rfl, HB2.out⟩
        case round =>
          obtain ⟨j, hj, rfl, hb3⟩ := hrel
          have HB3 := Lib.hid hb3
          clear hb3
          by_cases hji : j < i
          · obtain ⟨sj, hsj, ej⟩ := exists_bytes (Kw.nameI (j : Int))
            have HNJ : Hid (∀ w, Calls Try.prog 10 #[.int .i64 (j : Int)] w fun e w' => e = .returned (.string sj) ∧ Below w.heap.size w w') := Lib.hid (fun w => by rw [← ej]; exact keyName _ _)
            have hap : (sj.toList == sx.toList) = false := bytes_ne (by rw [hsj, Kw.nameI_nat, HSX.out]; exact Kw.names_apart i hlt j hji)
            clear hsj ej
            go_wp2_with fail
            refine (HNJ.out _).mono ?_
            rintro e w4 ⟨rfl, hb4⟩
            have HB4 := Lib.hid (HB3.out.trans (hb4.mono HB3.out.size))
            clear hb4
            go_wp2_with fail
            refine (HN.out _).mono ?_
            rintro e w5 ⟨rfl, hb5⟩
            have HB5 := Lib.hid (HB4.out.trans (hb5.mono HB4.out.size))
            clear hb5
            go_wp2_with fail
            go_roundw
            case rel => exact ⟨j + 1, by omega, by go_num, HB5.out⟩
            case measure => simp [intOf]; omega
          · obtain rfl : j = i := by omega
            cases hbit : Num.bitB m j with
            | false =>
              rw [hbit] at HH
              have HS := Lib.hid (plusTo_no hbit)
              clear hbit
              go_wp2_with fail
              refine (HH.out _).mono ?_
              rintro e w4 ⟨rfl, rfl⟩
              go_wp2_with fail
              go_roundw
              case rel => exact ⟨j + 1, r, by omega, by go_num, rfl, by rw [HS.out]; exact HR.out, HB3.out⟩
              case measure => simp [intOf]; omega
            | true =>
              rw [hbit] at HH
              have HS := Lib.hid (plusTo_yes hbit)
              clear hbit
              go_wp2_with fail
              refine (HH.out _).mono ?_
              rintro e w4 ⟨rfl, rfl⟩
              go_wp2_with fail
              refine (HN.out _).mono ?_
              rintro e w5 ⟨rfl, hb5⟩
              have HB5 := Lib.hid (HB3.out.trans (hb5.mono HB3.out.size))
              clear hb5
              go_wp2_with fail
              go_roundw
              case rel => exact ⟨j + 1, _, by omega, by go_num, rfl, by rw [HS.out, ← HSX.out, ← HR.out]; simp, HB5.out⟩
              case measure => simp [intOf]; omega
      · obtain rfl : i = 17 := by omega
        obtain ⟨tx, htx, ex⟩ := exists_bytes (Kw.textI (m : Int))
        rw [ex] at G2
        rcases HEND.out with ⟨he, ht⟩ | he
        · have hre := bytes_nil (hr.trans he)
          subst hre
          have htn : (tx.toList == [110, 111, 110, 101]) = true := by rw [Lib.toList_data, htx, ht]; rfl
          clear hr HR he ht htx ex HEND HM
          go_wp2_with fail
          refine (G2.out _).mono ?_
          rintro e w2 ⟨rfl, hb2⟩
          have HB2 := Lib.hid (HB.out.trans (hb2.mono HB.out.size))
          clear hb2
          go_wp2_with fail
          refine (keyAlive _).mono ?_
          rintro e w3 ⟨rfl, hb3⟩
          go_wp2_with fail
          go_ret
          exact ⟨rfl, HB2.out.trans (hb3.mono HB2.out.size)⟩
        · have hre : r ≠ ⟨#[]⟩ := fun e => by rw [e, he] at hr; cases hr
          have h2 : (r.toList == []) = false := bytes_none hre
          have h3 : r.toList.isEmpty = false := by simpa using bytes_some hre
          have hpos : 1 ≤ r.size := by rw [← bytes_len, hr, he]; simp
          have heq : (tx.toList == (r.extract 1 r.size).toList) = true := bytes_eq (by rw [extract_drop, hr, he, htx]; rfl)
          have hposI : (1 : Int) ≤ (r.size : Int) := by omega
          have hszI : w.heap.size ≤ w.heap.size := Nat.le_refl _
          have hbw := HB.out
          clear hr HR he htx ex HEND HM hre
          go_wp2_with fail
          go_region_held3 (fun _ => True)
            (first | (with_reducible exact trivial) | go_keep)
            (first
              | (go_at_call 14; refine (fromBase (C := w.heap.size) (w0 := w) ?_ hszI (keyAlive _)).mono ?_; (go_grown); rintro e w1 ⟨rfl, hb1⟩)
              | (go_at_call 12; refine (fromBase (C := w.heap.size) (w0 := w) ?_ hszI (G2.out _)).mono ?_; (go_grown); rintro e w1 ⟨rfl, hb1⟩))
          go_wp2
          go_ret
          exact ⟨rfl, by go_grown⟩
  · rw [hv] at G1
    rw [Kw.textI_bad hv, show str [] = .string ⟨#[]⟩ from rfl] at G2
    clear hv hout
    go_enter Try.func7, Try.ntmps7
    go_wp2_with fail
    refine (G1.out _).mono ?_
    rintro e w1 ⟨rfl, rfl⟩
    go_wp2_with fail
    refine (G2.out _).mono ?_
    rintro e w1 ⟨rfl, hb1⟩
    have B1 := Lib.hid hb1
    clear hb1
    go_wp2_with fail
    refine (keyAlive _).mono ?_
    rintro e w2 ⟨rfl, hb2⟩
    go_wp2_with fail
    go_ret
    exact ⟨rfl, B1.out.trans (hb2.mono B1.out.size)⟩
end Go.Proofs.Ytmkdljemiollfaa
