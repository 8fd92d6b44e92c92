/-
  THE LAWS OF LAYER 2, WALKED: Lists, Joins, Sorts. By an AI agent.
-/
import Derived.Test.YtioedokokmjldaaWordLaws
import Derived.Lib.SmallJoins
namespace Go.Proofs.Ytioedokokmjldaa
open Go.RowKit
open Wd (Bs)

theorem join_le (l : List Bs) (c : Bs) : ∀ k, k ≤ l.length → (Lib.join (l.take k) c).length ≤ total (l.take k) + k * c.length
  | 0, _ => by simp [Lib.join]
  | k + 1, hk => by
    have ih := join_le l c k (by omega)
    have hx : l[k]? = some l[k] := List.getElem?_eq_getElem (by omega)
    rw [join_take_succ hx, total_take_succ hx, Nat.succ_mul]
    split
    · omega
    · simp only [List.length_append]; omega
theorem join_small {l : List Bs} {c : Bs} (h1 : l.length ≤ 200) (h2 : total l ≤ 2000) (h3 : c.length ≤ 2000) : (Lib.join l c).length ≤ 500000 := by
  have h := join_le l c l.length (Nat.le_refl _)
  rw [List.take_length] at h
  have h4 := Nat.mul_le_mul h1 h3
  omega
set_option maxHeartbeats 800000 in
set_option maxRecDepth 100000 in
theorem lawWordLists (v : Value) (l : List Bs) (s : ByteArray) (w : World) (hv : Strs w v l) (hl : ∀ x ∈ l, x.length ≤ 140737488355328) (hs : s.size ≤ maxLen) (hE : Env w) :
    Calls Try.prog 7 #[v, .string s] w fun e w' => e = .returned (.bool true) ∧ Below w.heap.size w w' := by
  have HE := Lib.hid hE
  have HV := Lib.hid hv
  clear hE
  unfold maxLen at hs
  obtain ⟨a, cap, rfl, n1, m1, _⟩ := hv
  cases hsm : smallB l with
  | false =>
    have HS := Lib.hid hsm
    clear hsm
    go_enter Try.func7, Try.ntmps7
    go_wp2_with fail
    refine (lawSmall _ l _ HV.out hl).mono ?_
    rw [HS.out]
    rintro e w1 ⟨rfl, rfl⟩
    go_wp2_with fail
    refine (aliveAt HE.out (Below.refl _ _)).mono ?_
    rintro e w1 ⟨rfl, hb⟩
    go_wp2_with fail
    go_ret
    exact ⟨rfl, hb⟩
  | true =>
    have HS := Lib.hid hsm
    have h2 : l.length ≤ 200 ∧ total l ≤ 2000 := by simpa [smallB] using hsm
    clear hsm
    by_cases h : 2000 < s.size
    · go_enter Try.func7, Try.ntmps7
      go_wp2_with fail
      refine (lawSmall _ l _ HV.out hl).mono ?_
      rw [HS.out]
      rintro e w1 ⟨rfl, rfl⟩
      go_wp2_with fail
      refine (aliveAt HE.out (Below.refl _ _)).mono ?_
      rintro e w1 ⟨rfl, hb⟩
      go_wp2_with fail
      go_ret
      exact ⟨rfl, hb⟩
    · have h' : (s.size : Int) ≤ 2000 := by omega
      have hjl := join_small (c := s.data.toList) h2.1 h2.2 (by simp; omega)
      have J1 := Lib.hid (fun W (hW : Strs W (.slice a l.length cap) l) => wordJoin (.slice a l.length cap) l s W hW (by omega) (by omega))
      have J2 := Lib.hid (fun W (hW : Strs W (.slice a l.length cap) l) => refJoin (.slice a l.length cap) l s W hW (by omega))
      have S1 := Lib.hid (fun W (hW : Strs W (.slice a l.length cap) l) => wordSort (.slice a l.length cap) l W hW (by omega))
      have S2 := Lib.hid (fun W (hW : Strs W (.slice a l.length cap) l) => refSort (.slice a l.length cap) l W hW (by omega))
      obtain ⟨sj, hsj, ej⟩ := exists_bytes (Lib.join l s.data.toList)
      have EJ := Lib.hid ej
      have t1 : (sj.toList == sj.toList) = true := by simp
      clear hsj ej hjl h2
      go_enter Try.func7, Try.ntmps7
      go_wp2_with fail
      refine (lawSmall _ l _ HV.out hl).mono ?_
      rw [HS.out]
      rintro e w1 ⟨rfl, rfl⟩
      go_wp2_with fail
      refine (J1.out _ HV.out).mono ?_
      unfold JoinRes
      rw [EJ.out]
      rintro e w1 ⟨rfl, hb1⟩
      have HB1 := Lib.hid hb1
      clear hb1
      go_wp2_with fail
      refine (J2.out _ (HV.out.below HB1.out (Nat.le_refl _))).mono ?_
      rw [EJ.out]
      rintro e w2 ⟨rfl, rfl⟩
      go_wp2_with fail
      refine (S1.out _ (HV.out.below HB1.out (Nat.le_refl _))).mono ?_
      rintro e w2 ⟨v1, rfl, ho1, hb2⟩
      have HB2 := Lib.hid (HB1.out.trans (hb2.mono HB1.out.size))
      have HO1 := Lib.hid ho1
      clear hb2 ho1
      go_wp2_with fail
      refine (S2.out _ (HV.out.below HB2.out (Nat.le_refl _))).mono ?_
      rintro e w3 ⟨v2, rfl, ho2, hb3⟩
      have HB3 := Lib.hid (HB2.out.trans (hb3.mono HB2.out.size))
      have HS1 := Lib.hid (HO1.out.strs.below hb3 (Nat.le_refl _))
      have HO2 := Lib.hid ho2
      clear hb3 ho2
      go_wp2_with fail
      refine (refSame v1 v2 _ _ _ HS1.out HO2.out.strs).mono ?_
      rw [decide_eq_true rfl]
      rintro e w4 ⟨rfl, hb4⟩
      have HB4 := Lib.hid (HB3.out.trans (hb4.mono HB3.out.size))
      clear hb4
      go_wp2_with fail
      refine (wordIndex _ l s _ (HV.out.below HB4.out (Nat.le_refl _))).mono ?_
      rintro e w5 ⟨rfl, rfl⟩
      go_wp2_with fail
      refine (refIndex _ l s _ (HV.out.below HB4.out (Nat.le_refl _))).mono ?_
      rintro e w5 ⟨rfl, rfl⟩
      generalize idx l s.data.toList = n
      have t2 : (n == n) = true := by simp
      go_wp2_with fail
      refine (aliveAt HE.out HB4.out).mono ?_
      rintro e w6 ⟨rfl, hb⟩
      go_wp2_with fail
      go_ret
      exact ⟨rfl, hb⟩
/-- 'string([]byte{x})': the one byte, out of the block that the literal has just laid. -/
theorem run_string_one (c : UInt8) (W : World) :
    (convert 38 9 (.slice (some ⟨W.heap.size, 0, none⟩) 1 1)).run Try.prog (W.alloc (.cells #[.int .u8 c.toNat] 5)) = .ok (.string ⟨#[c]⟩) (W.alloc (.cells #[.int .u8 c.toNat] 5)) := by
  have h := run_convert_bytes_back (P := Try.prog) (W.alloc (.cells #[.int .u8 (c.toNat : Int)] 5)) 38 9 5 ⟨W.heap.size, 0, none⟩ 1 [c] Try.underlying38 Try.underlying5 Try.underlying9 (fun j hj => by
    obtain rfl : j = 0 := by simpa using hj
    show (W.alloc _).cell? ⟨W.heap.size, 0, none⟩ = _
    rw [World.cell?_alloc_mark]
    simp)
  simpa using h
theorem split_parts_size {l p : Bs} {c : UInt8} (h : p ∈ Wd.split l c) : p.length ≤ l.length := by
  have key : ∀ i, ∀ q ∈ (Wd.partsTo (Wd.sepAt l c) l i).1, q.length ≤ l.length := by
    intro i
    induction i with
    | zero => intro q hq; simp [Wd.partsTo] at hq
    | succ i ih =>
      intro q hq
      simp only [Wd.partsTo] at hq
      split at hq
      · simp at hq
        rcases hq with hq | rfl
        · exact ih q hq
        · simp [Wd.slice]; omega
      · exact ih q hq
  unfold Wd.split at h
  split at h
  · simp at h; subst h; exact Nat.le_refl _
  · simp at h
    rcases h with h | rfl
    · exact key _ _ h
    · simp [Wd.slice]
set_option maxHeartbeats 800000 in
set_option maxRecDepth 100000 in
theorem lawWordJoins (s : ByteArray) (c : UInt8) (hs : s.size ≤ maxLen) (w : World) (hE : Env w) :
    Calls Try.prog 8 #[.string s, .int .u8 c.toNat] w fun e w' => e = .returned (.bool true) ∧ Below w.heap.size w w' := by
  have HE := Lib.hid hE
  clear hE
  unfold maxLen at hs
  by_cases h : 500 < s.size
  · go_enter Try.func8, Try.ntmps8
    go_wp2_with fail
    refine (aliveAt HE.out (Below.refl _ _)).mono ?_
    rintro e w1 ⟨rfl, hb⟩
    go_wp2_with fail
    go_ret
    exact ⟨rfl, hb⟩
  · have hlen : s.data.toList.length = s.size := by simp
    have hsl := Wd.split_len s.data.toList c
    rw [hlen] at hsl
    have hpart : ∀ p ∈ Wd.split s.data.toList c, p.length ≤ 500 ∧ (Wd.split p c).length = 1 := fun p hp => ⟨by have := split_parts_size hp; omega, Wd.split_part hp⟩
    have hjoin := Wd.join_split s.data.toList c
    have HJ := Lib.hid hjoin
    have HP := Lib.hid hpart
    have HLEN := Lib.hid hlen
    clear hlen hpart hjoin
    go_enter Try.func8, Try.ntmps8
    go_wp2_with fail
    refine (wordSplit s c _ (by omega)).mono ?_
    rintro e w1 ⟨v1, rfl, ho1, hb1⟩
    generalize Wd.split s.data.toList c = ls at *
    have HB1 := Lib.hid hb1
    obtain ⟨a1, cap1, e1, n1, m1, _⟩ := ho1.strs
    subst e1
    unfold maxLen at m1
    have HO1 := Lib.hid ho1.strs
    clear hb1 ho1
    have hone := run_string_one c
    go_wp2_with fail
    clear hone
    have hba : Below w1.heap.size w1 (w1.alloc (.cells #[.int .u8 (c.toNat : Int)] 5)) := (Below.refl _ _).alloc (Nat.le_refl _) _
    have HS2 := Lib.hid (HO1.out.below hba (Nat.le_refl _))
    have HB2 := Lib.hid (HB1.out.trans (hba.mono HB1.out.size))
    clear hba
    generalize w1.alloc (.cells #[.int .u8 (c.toNat : Int)] 5) = w2 at *
    refine (wordJoin _ ls ⟨#[c]⟩ w2 HS2.out (by omega) (by show (Lib.join ls [c]).length ≤ _; rw [HJ.out, HLEN.out]; omega)).mono ?_
    rintro e w3 ⟨rfl, hb3⟩
    rw [show str (Lib.join ls (ByteArray.mk #[c]).data.toList) = .string s by show str (Lib.join ls [c]) = _; rw [HJ.out]; rfl]
    have HB3 := Lib.hid (HB2.out.trans (hb3.mono HB2.out.size))
    have HS3 := Lib.hid (HS2.out.below hb3 (Nat.le_refl _))
    clear hb3
    have t1 : (s.toList == s.toList) = true := by simp
    have i1 : 1 ≤ (ls.length : Int) := by omega
    have hcells : ∀ (i : Nat) x, ls[i]? = some x → ∃ b o, a1 = some ⟨b, o, none⟩ ∧ b < w3.heap.size ∧ w3.cell? ⟨b, o + i, none⟩ = some (str x) := by
      obtain ⟨a', cap', e', _, _, h⟩ := HS3.out
      injection e' with e' _ _
      subst e'
      exact h
    have HC := Lib.hid hcells
    clear hcells
    go_wp2_with fail
    go_loopw [29] (fun i wr => ∃ k : Nat, k ≤ ls.length ∧ i = .int .i64 (k : Int) ∧ Below w3.heap.size w3 wr) (fun i _ => ls.length - (intOf i).toNat)
    case atStart => exact ⟨0, by omega, rfl, Below.refl _ _⟩
    case round =>
      obtain ⟨k, hk, rfl, hbr⟩ := hrel
      by_cases hlt : k < ls.length
      · obtain ⟨x, hx⟩ : ∃ x, ls[k]? = some x := ⟨ls[k], by simp [hlt]⟩
        obtain ⟨sx, hsx, ex⟩ := exists_bytes x
        obtain ⟨b, o, rfl, hb, hcell⟩ := HC.out k x hx
        rw [ex] at hcell
        have d1 : wr.cell? ⟨b, o + k, none⟩ = some (.string sx) := (hbr.cell (p := ⟨b, o + k, none⟩) hb).trans hcell
        have hp := HP.out x (List.mem_of_getElem? hx)
        have hszx : sx.size ≤ 500 := by have : x.length = sx.size := by rw [← hsx]; simp
                                        omega
        have hspl := wordSplit sx c
        rw [hsx] at hspl
        have HSP := Lib.hid hspl
        have HL := Lib.hid hp.2
        clear hx hsx ex hcell hp hspl
        go_wp2_with fail
        refine (HSP.out wr (by omega)).mono ?_
        rintro e w4 ⟨v4, rfl, ho4, hb4⟩
        obtain ⟨a4, c4, e4, n4, m4, _⟩ := ho4.strs
        rw [HL.out] at e4
        subst e4
        have HB4 := Lib.hid (hbr.trans (hb4.mono hbr.size))
        clear ho4 hb4 n4 m4
        go_wp2_with fail
        go_roundw
        case rel => exact ⟨k + 1, by omega, by go_num, HB4.out⟩
        case measure => simp [intOf]; omega
      · have hle : (ls.length : Int) ≤ (k : Int) := by omega
        have HB5 := Lib.hid (HB3.out.trans (hbr.mono HB3.out.size))
        go_wp2_with fail
        refine (aliveAt HE.out HB5.out).mono ?_
        rintro e w5 ⟨rfl, hb⟩
        go_wp2_with fail
        go_ret
        exact ⟨rfl, hb⟩
end Go.Proofs.Ytioedokokmjldaa
