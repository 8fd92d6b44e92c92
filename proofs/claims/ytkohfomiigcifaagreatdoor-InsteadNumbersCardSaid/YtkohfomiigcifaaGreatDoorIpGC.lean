/-
  MERGED: FWordI, IpTgP, CtrPlain, IpPlain, IpCell, IpInts, IpTab, IpKit, FCtr. By an AI agent.
-/
import Derived.Test.YtkohfomiigcifaaGreatDoorFWord
import Derived.Test.YtkohfomiigcifaaGreatDoorShelfI
import Derived.Test.YtkohfomiigcifaaGreatDoorIpGA
import Derived.Deep.Cut
import Derived.Test.YtkohfomiigcifaaGreatDoorNumPlain
import Derived.Test.YtkohfomiigcifaaGreatDoorOwn
import Derived.Test.YtkohfomiigcifaaGreatDoorWordPlain
import Derived.Lib.OwnBridge
import Derived.Laws.OwnMore
import Derived.Laws.AppendOwnNone
import Derived.WalkKit
import Derived.WalkLawsBesides
import Derived.BigQuiet
import Derived.Deep.QuietTactic
import Derived.Handy
import Derived.Lib.Hide
import Derived.Lib.SlicesS
namespace Go.Proofs.YtkohfomiigcifaaGreatDoor
open Go.RowKit
open Wd (Bs)

set_option maxRecDepth 100000 in
theorem wordIndex (v : Value) (l : List Bs) (s : ByteArray) (w : World) (hv : Strs w v l) :
    Calls Tryz.prog 70 #[v, .string s] w fun e w' => e = .returned (.int .i64 (idx l s.data.toList)) ∧ w = w' := by
  rcases hv.shape with ⟨b, k, rfl, rfl⟩ | ⟨b, o, k, rfl, p, q, n1, m1, d⟩
  · go_enter Tryz.func70, Tryz.ntmps70
    go_wp2_with fail
    refine (Tryz.slices_Index_string_empty _ _ _ _).mono ?_
    rintro e w1 ⟨rfl, rfl⟩
    go_wp2_with fail
    go_ret
    exact ⟨rfl, rfl⟩
  · unfold maxLen at m1
    have D := Lib.hid d
    clear d hv
    go_enter Tryz.func70, Tryz.ntmps70
    go_wp2_with fail
    refine (Tryz.slices_Index_string b o l.length k (l.map ba) s _ (by simp) (by omega) (fun j hj => ?_)).mono ?_
    · have hj' : j < l.length := by simpa using hj
      rw [ba_getD l j hj']
      exact D.out j l[j] (List.getElem?_eq_getElem hj')
    rintro e w1 ⟨rfl, rfl⟩
    go_wp2_with fail
    go_ret
    exact ⟨ret_int (by rw [List.take_of_length_le (by simp)]; rfl), rfl⟩
end Go.Proofs.YtkohfomiigcifaaGreatDoor
namespace Go.Proofs.YtkohfomiigcifaaGreatDoor
open Go.RowKit
open Wd (Bs)

def playersT : Array Value := #[str [97, 110, 121], str [121, 111, 117], str [111, 112, 112, 111, 110, 101, 110, 116, 115]]
theorem playersT_at {k : Nat} (hk : k < 3) : playersT[k]? = some (.string ⟨(Tg.whoL k).toArray⟩) := by
  have h : playersT = (Tg.playersL.map str).toArray := rfl
  have hl : k < Tg.playersL.length := hk
  rw [h, List.getElem?_toArray, List.getElem?_map, List.getElem?_eq_getElem hl]
  unfold Tg.whoL
  rw [List.getD, List.getElem?_eq_getElem hl]
  rfl

set_option maxRecDepth 100000 in
theorem tgPlayers (w : World) : Calls Tryz.prog 43 #[] w fun e w' => (∃ b, e = .returned (.slice (some ⟨b, 0, none⟩) 3 3) ∧ Blk w' b playersT 9 ∧ w.heap.size ≤ b) ∧ Below w.heap.size w w' := by
  go_enter Tryz.func43, Tryz.ntmps43
  go_wp2_with fail
  go_ret
  exact ⟨⟨_, rfl, Blk.new _ _ _, Nat.le_refl _⟩, (Below.refl _ _).alloc (Nat.le_refl _) _⟩

set_option maxHeartbeats 8000000 in
set_option maxRecDepth 100000 in
theorem tgWho (n : Int) (w : World) : Calls Tryz.prog 22 #[.int .i64 n] w fun e w' => e = .returned (str (Tg.whoT n)) ∧ Below w.heap.size w w' := by
  by_cases h : 0 ≤ n ∧ n ≤ 2
  · obtain ⟨j, rfl⟩ : ∃ j : Nat, n = (j : Int) := ⟨n.toNat, by omega⟩
    have hj : j < 3 := by omega
    have e : Tg.whoT (j : Int) = Tg.whoL j := by
      unfold Tg.whoT Tg.whoB
      rw [decide_eq_true h, if_pos rfl]
      rfl
    rw [e]
    have h1 : decide ((j : Int) < 0) = false := decide_eq_false (by omega)
    have h2 : decide ((3 : Int) ≤ (j : Int)) = false := decide_eq_false (by omega)
    have h3 : ¬ (j : Int) < 0 := by omega
    have h4 : (j : Int) < 3 := by omega
    have h0 : (0 : Int) ≤ (j : Int) := by omega
    clear h
    go_enter Tryz.func22, Tryz.ntmps22
    go_wp2_with fail
    refine (tgPlayers _).mono ?_
    rintro e w1 ⟨⟨b, rfl, hb1, -⟩, hb⟩
    go_wp2_with fail
    refine (tgPlayers _).mono ?_
    rintro e w2 ⟨⟨b2, rfl, hb2, -⟩, hb3⟩
    have hc := (hb2.cell j).trans (playersT_at hj)
    go_wp2_with fail
    go_ret
    exact ⟨rfl, hb.trans (hb3.mono hb.size)⟩
  · have e : Tg.whoT n = [] := by
      unfold Tg.whoT Tg.whoB
      rw [decide_eq_false h, if_neg (by decide)]
    rw [e]
    by_cases hn : n < 0
    · have h1 : decide (n < 0) = true := decide_eq_true (by omega)
      clear h
      go_enter Tryz.func22, Tryz.ntmps22
      go_wp2_with fail
      go_ret
      exact ⟨rfl, Below.refl _ _⟩
    · have h1 : decide (n < 0) = false := decide_eq_false (by omega)
      have h2 : decide (3 ≤ n) = true := decide_eq_true (by omega)
      have h3 : (3 : Int) ≤ n := by omega
      clear h
      go_enter Tryz.func22, Tryz.ntmps22
      go_wp2_with fail
      refine (tgPlayers _).mono ?_
      rintro e w1 ⟨⟨b, rfl, hb1, -⟩, hb⟩
      go_wp2_with fail
      go_ret
      exact ⟨rfl, hb⟩
theorem liteCutSuffix (s p : ByteArray) (w : World) (hs : s.size ≤ 1000000000) :
    Calls Tryz.prog 132 #[.string s, .string p] w fun e w' => e = .returned (.tuple #[if Lib.hasSuffix s.data.toList p.data.toList then str (s.data.toList.take (s.data.toList.length - p.data.toList.length)) else .string s, .bool (Lib.hasSuffix s.data.toList p.data.toList)]) ∧ w = w' := by
  have HP := Lib.hid (Tryz.stringslite_HasSuffix s p w (by omega))
  cases h : Lib.hasSuffix s.data.toList p.data.toList with
  | false =>
    have HQ : Hid (Lib.hasSuffix s.data.toList p.data.toList = false) := Lib.hid h
    clear h
    go_enter Tryz.func132, Tryz.ntmps132
    go_wp2_with fail
    refine HP.out.mono ?_
    rw [HQ.out]
    rintro e w1 ⟨rfl, rfl⟩
    go_wp2_with fail
    go_ret2
    exact ⟨rfl, rfl⟩
  | true =>
    have HQ : Hid (Lib.hasSuffix s.data.toList p.data.toList = true) := Lib.hid h
    have hl : p.size ≤ s.size := by
      unfold Lib.hasSuffix at h
      have h2 : p.data.toList.length ≤ s.data.toList.length := by
        exact (List.isSuffixOf_iff_suffix.1 h).length_le
      simpa using h2
    have hl1 : (p.size : Int) ≤ (s.size : Int) := by omega
    have hsub : IntKind.i64.wrap ((s.size : Int) - (p.size : Int)) = ((s.size - p.size : Nat) : Int) := by rw [IntWalk.i64_in _ (by omega)]; omega
    have hle : ((s.size - p.size : Nat) : Int) ≤ (s.size : Int) := by omega
    have hle2 : (0 : Int) ≤ ((s.size - p.size : Nat) : Int) := by omega
    obtain ⟨x, hx⟩ : ∃ x, x = str (s.data.toList.take (s.data.toList.length - p.data.toList.length)) := ⟨_, rfl⟩
    rw [if_pos rfl, ← hx]
    have HD : Hid (Value.string (s.extract 0 (s.size - p.size)) = x) := Lib.hid (by
      rw [hx, show p.data.toList.length = p.size by simp, show s.data.toList.length = s.size by simp, ← extract_take]; rfl)
    clear h hx
    obtain ⟨m, hm⟩ : ∃ m, m = s.size - p.size := ⟨_, rfl⟩
    rw [← hm] at hsub hle hle2 HD
    have hms : m ≤ s.size := by omega
    clear hm
    go_enter Tryz.func132, Tryz.ntmps132
    go_wp2_with fail
    refine HP.out.mono ?_
    rw [HQ.out]
    rintro e w1 ⟨rfl, rfl⟩
    go_wp2_with fail
    go_ret2
    exact ⟨by rw [← HD.out]; rfl, rfl⟩
theorem strCutSuffix (s p : ByteArray) (w : World) (hs : s.size ≤ 1000000000) :
    Calls Tryz.prog 105 #[.string s, .string p] w fun e w' => e = .returned (.tuple #[if Lib.hasSuffix s.data.toList p.data.toList then str (s.data.toList.take (s.data.toList.length - p.data.toList.length)) else .string s, .bool (Lib.hasSuffix s.data.toList p.data.toList)]) ∧ w = w' := by
  have HP := Lib.hid (liteCutSuffix s p w hs)
  generalize (if Lib.hasSuffix s.data.toList p.data.toList then str (s.data.toList.take (s.data.toList.length - p.data.toList.length)) else .string s) = x at *
  generalize Lib.hasSuffix s.data.toList p.data.toList = y at *
  go_enter Tryz.func105, Tryz.ntmps105
  go_wp2_with fail
  refine HP.out.mono ?_
  rintro e w1 ⟨rfl, rfl⟩
  go_wp2_with fail
  go_ret2
  exact ⟨rfl, rfl⟩
theorem cutSuf (s p : ByteArray) (w : World) (hs : s.size ≤ 1000000000) : Calls Tryz.prog 105 #[.string s, .string p] w fun e w' => e = .returned (.tuple #[.string ⟨(if Lib.hasSuffix s.data.toList p.data.toList then s.data.toList.take (s.data.toList.length - p.data.toList.length) else s.data.toList).toArray⟩, .bool (Lib.hasSuffix s.data.toList p.data.toList)]) ∧ Below w.heap.size w w' := by
  refine (below_same (strCutSuffix s p w hs)).mono ?_
  rintro e w1 ⟨rfl, hb⟩
  refine ⟨?_, hb⟩
  split
  · rfl
  · rfl

set_option maxHeartbeats 8000000 in
set_option maxRecDepth 100000 in
theorem encTextIn (f : Fil.Flt) (fs tF : ByteArray) (vF : Bool) (w : World)
    (HF : Hid (∀ W, Below w.heap.size w W → Calls Tryz.prog 23 #[.agg (cellsF f fs)] W fun e w' => e = .returned (.bool vF) ∧ Below W.heap.size W w')) (HT : Hid (∀ W, Below w.heap.size w W → Calls Tryz.prog 51 #[.agg (cellsF f fs)] W fun e w' => e = .returned (.string tF) ∧ Below W.heap.size W w')) (ht : tF.size ≤ 1000000) :
    Calls Tryz.prog 29 #[.agg (cellsF f fs)] w fun e w' => e = .returned (.string (if vF then ⟨#[40]⟩ ++ tF ++ ⟨#[41]⟩ else ⟨#[]⟩)) ∧ Below w.heap.size w w' := by

  have M := Mm.nil w
  go_enter Tryz.func29, Tryz.ntmps29
  go_upto_region 0 with fail
  refine wp_region_lit ?_
  with_reducible refine wA (cellsF f fs) M ?_; clear M; intro pB1 u M; refine ⟨_, by (simp only [pu, sB, s0, sS]; rfl), ?_⟩
  with_reducible refine rA ?_
  go_upto_region 1 with fail
  refine wp_region_lit ?_
  with_reducible refine wL 0 M whole_part Tryz.underlying25 (infoTF16 (cellsF_size f fs)) ?_
  with_reducible refine wC M (HF.out _ M.b) ?_; clear M; intro u M
  with_reducible refine rA ?_
  cases vF with
  | false =>
    go_upto_region 2 with fail
    refine wp_region_lit ?_
    with_reducible refine rA ?_
    go_wp2_with fail
    go_ret
    exact ⟨rfl, M.b⟩
  | true =>
    go_upto_region 3 with fail
    refine wp_region_lit ?_
    with_reducible refine wL 0 M whole_part Tryz.underlying25 (infoTF16 (cellsF_size f fs)) ?_
    with_reducible refine wC M (HT.out _ M.b) ?_; clear M; intro u M
    (with_reducible refine rB (.string (⟨#[40]⟩ ++ tF)) ?_ ?_); (· go_simp; omega)
    (with_reducible refine rB (.string ((⟨#[40]⟩ ++ tF) ++ ⟨#[41]⟩)) ?_ ?_); (· go_simp; omega)
    with_reducible refine rA ?_
    go_wp2_with fail
    go_ret
    exact ⟨rfl, M.b⟩

set_option maxHeartbeats 8000000 in
set_option maxRecDepth 100000 in
theorem encParseIn (t r1 r2 : ByteArray) (b1 b2 : Bool) (f : Fil.Flt) (e2 : Int) (w : World)
    (HP : Hid (∀ W, Below w.heap.size w W → Calls Tryz.prog 104 #[.string t, .string ⟨#[40]⟩] W fun e w' => e = .returned (.tuple #[.string r1, .bool b1]) ∧ Below W.heap.size W w')) (HS : Hid (∀ W, Below w.heap.size w W → Calls Tryz.prog 105 #[.string r1, .string ⟨#[41]⟩] W fun e w' => e = .returned (.tuple #[.string r2, .bool b2]) ∧ Below W.heap.size W w')) (HF : Hid (∀ W, Below w.heap.size w W → Calls Tryz.prog 106 #[.string r2] W fun e w' => e = .returned (.tuple #[.agg (cellsF f (fsOf f)), .int .i64 e2]) ∧ Below W.heap.size W w')) :
    Calls Tryz.prog 73 #[.string t] w fun e w' => e = .returned (if (b1 && b2) = true then .tuple #[.agg (cellsF f (fsOf f)), .int .i64 e2] else .tuple #[.agg cellsZ, .int .i64 3]) ∧ Below w.heap.size w w' := by

  have M := Mm.nil w
  go_enter Tryz.func73, Tryz.ntmps73
  go_upto_region 0 with fail
  refine wp_region_lit ?_
  with_reducible refine wA cellsZ M ?_; clear M; intro pB2 u M; refine ⟨_, by (simp only [pu, sB, s0, sS]; rfl), ?_⟩
  with_reducible refine rA ?_
  go_upto_region 1 with fail
  refine wp_region_lit ?_
  with_reducible refine rA ?_
  with_reducible refine wC M (HP.out _ M.b) ?_; clear M; intro u M
  iterate 5 (with_reducible refine rA ?_)
  go_upto_region 2 with fail
  refine wp_region_lit ?_
  with_reducible refine rA ?_
  with_reducible refine wC M (HS.out _ M.b) ?_; clear M; intro u M
  iterate 5 (with_reducible refine rA ?_)
  cases b1 with
  | false =>
    go_upto_region 3 with fail
    refine wp_region_lit ?_
    iterate 3 (with_reducible refine rA ?_)
    iterate 2 (with_reducible refine kA ?_)
    with_reducible refine rA ?_
    go_upto_region 4 with fail
    refine wp_region_lit ?_
    (with_reducible refine rB (.agg cellsZ) ?_ ?_); (· go_simp; rfl)
    with_reducible refine wS 0 M (laid_all cellsZ_size cellsZ_size) (infoTF16 cellsZ_size) cellsZ_one (fit_2 cellsZ_size cellsZ_size (by decide)) ?_; clear M; intro u M
    with_reducible refine rA ?_
    have hL := M.read 0 Tryz.underlying25 (infoTF16 cellsZ_size) rfl rfl
    go_wp2_with fail
    exact bodyPost_ret (v := .tuple #[.agg cellsZ, .int .i64 3]) (results_cell_tmp Tryz.results73 (by rfl) (by rfl) hL) rfl ⟨rfl, M.b⟩
  | true =>
    go_upto_region 3 with fail
    refine wp_region_lit ?_
    iterate 6 (with_reducible refine rA ?_)
    cases b2 with
    | false =>
      go_upto_region 4 with fail
      refine wp_region_lit ?_
      (with_reducible refine rB (.agg cellsZ) ?_ ?_); (· go_simp; rfl)
      with_reducible refine wS 0 M (laid_all cellsZ_size cellsZ_size) (infoTF16 cellsZ_size) cellsZ_one (fit_2 cellsZ_size cellsZ_size (by decide)) ?_; clear M; intro u M
      with_reducible refine rA ?_
      have hL := M.read 0 Tryz.underlying25 (infoTF16 cellsZ_size) rfl rfl
      go_wp2_with fail
      exact bodyPost_ret (v := .tuple #[.agg cellsZ, .int .i64 3]) (results_cell_tmp Tryz.results73 (by rfl) (by rfl) hL) rfl ⟨rfl, M.b⟩
    | true =>
      go_upto_region 5 with fail
      refine wp_region_lit ?_
      with_reducible refine rA ?_
      with_reducible refine wC M (HF.out _ M.b) ?_; clear M; intro u M
      (with_reducible refine rB (.agg (cellsF f (fsOf f))) ?_ ?_); (· go_simp; (try with_reducible rfl))
      with_reducible refine rA ?_
      with_reducible refine wS 0 M (laid_all (cellsF_size f (fsOf f)) cellsZ_size) (infoTF16 (cellsF_size f (fsOf f))) (cellsF_one f (fsOf f)) (fit_2 cellsZ_size (cellsF_size f (fsOf f)) (by decide)) ?_; clear M; intro u M
      with_reducible refine rA ?_
      have hL := M.read 0 Tryz.underlying25 (infoTF16 (cellsF_size f (fsOf f))) rfl rfl
      go_wp2_with fail
      exact bodyPost_ret (v := .tuple #[.agg (cellsF f (fsOf f)), .int .i64 e2]) (results_cell_tmp Tryz.results73 (by rfl) (by rfl) hL) rfl ⟨rfl, M.b⟩

theorem eqF_zero (f : Fil.Flt) (fs : ByteArray) (hf : f.sub = fs.data.toList) (W : World) : (Op.equalIn 10000 25 (.agg (cellsF f fs)) (.agg cellsZ)).run Tryz.prog W = .ok (decide (f = Fil.zero)) W := by
  have h := run_eq_fltD 9997 f Fil.zero fs ⟨#[]⟩ hf rfl W
  rw [show eqF f Fil.zero = decide (f = Fil.zero) by rw [Bool.eq_iff_iff, eqF_iff]; simp] at h
  exact h
theorem whos_lenT : ∀ j, j < 3 → (Tg.whoL j).length ≤ 9 := by decide
theorem whoT_len (n : Int) : (Tg.whoT n).length ≤ 9 := by
  unfold Tg.whoT
  split
  · rename_i h
    unfold Tg.whoB at h
    simp only [decide_eq_true_eq] at h
    exact whos_lenT _ (by omega)
  · simp
theorem textF_len4 (f : Fil.Flt) : (Fil.textF f).length ≤ 4000 := by
  cases hv : Fil.validB f with
  | true => exact textF_len hv
  | false => unfold Fil.textF; rw [hv]; simp
theorem partF_len (f : Fil.Flt) : (Tg.partF f).length ≤ 4002 := by
  have := textF_len4 f
  unfold Tg.partF
  split
  · simp; omega
  · simp
theorem encText (f : Fil.Flt) (fs : ByteArray) (hf : f.sub = fs.data.toList) (hs : fs.size ≤ maxLen) (w : World) (hE : Env w) :
    Calls Tryz.prog 29 #[.agg (cellsF f fs)] w fun e w' => e = .returned (str (Tg.partF f)) ∧ Below w.heap.size w w' := by
  have hl := textF_len4 f
  refine (encTextIn f fs ⟨(Fil.textF f).toArray⟩ (Fil.validB f) w (Lib.hid fun W hb => filIs f fs hf hs W (hE.below hb)) (Lib.hid fun W hb => filText f fs hf hs W (hE.below hb)) (by rw [size_of]; omega)).mono ?_
  rintro e w1 ⟨rfl, hb⟩
  refine ⟨?_, hb⟩
  unfold Tg.partF
  cases Fil.validB f with
  | false => rfl
  | true => exact congrArg Ending.returned (str_of (by simp))
theorem encParse (t : ByteArray) (hs : t.size ≤ 1000000) (w : World) (hE : Env w) :
    Calls Tryz.prog 73 #[.string t] w fun e w' => e = .returned (.tuple #[.agg (cellsF (Tg.encV t.data.toList) (fsOf (Tg.encV t.data.toList))), .int .i64 (Tg.encE t.data.toList)]) ∧ Below w.heap.size w w' := by
  have hsl : t.data.toList.length = t.size := Array.length_toList
  obtain ⟨r1, h1⟩ : ∃ r : Bs, r = if [40].isPrefixOf t.data.toList then t.data.toList.drop 1 else t.data.toList := ⟨_, rfl⟩
  have hl1 : r1.length ≤ t.size := by
    rw [h1]
    split
    · rw [List.length_drop]; omega
    · omega
  obtain ⟨r2, h2⟩ : ∃ r : Bs, r = if Lib.hasSuffix r1 [41] then r1.take (r1.length - 1) else r1 := ⟨_, rfl⟩
  have hl2 : r2.length ≤ t.size := by
    rw [h2]
    split
    · rw [List.length_take]; omega
    · omega
  refine (encParseIn t ⟨r1.toArray⟩ ⟨r2.toArray⟩ ([40].isPrefixOf t.data.toList) (Lib.hasSuffix r1 [41]) (Fil.parseV r2) (Fil.parseE r2) w (Lib.hid fun W _ => ?_) (Lib.hid fun W _ => ?_) (Lib.hid fun W hb => filParseM ⟨r2.toArray⟩ (by rw [size_of]; omega) W (hE.below hb))).mono ?_
  · rw [h1]
    exact cutPre t ⟨#[40]⟩ W
  · rw [h2]
    exact cutSuf ⟨r1.toArray⟩ ⟨#[41]⟩ W (by rw [size_of]; omega)
  · rintro e w1 ⟨rfl, hb⟩
    refine ⟨?_, hb⟩
    unfold Tg.encV Tg.encE Tg.inside
    cases hb1 : [40].isPrefixOf t.data.toList with
    | false => rfl
    | true =>
      rw [hb1, if_pos rfl] at h1
      rw [← h1]
      cases hb2 : Lib.hasSuffix r1 [41] with
      | false => rfl
      | true =>
        rw [hb2, if_pos rfl] at h2
        rw [← h2]
        rfl
theorem encV_sub (s : Bs) : (Tg.encV s).sub.length ≤ 32 := by
  have hz : Fil.zero.sub.length ≤ 32 := by decide
  unfold Tg.encV
  split
  · rename_i m _
    rcases Fil.parse_cases m with ⟨h, _⟩ | ⟨g, h1, _, h3, _⟩
    · rw [h]; exact hz
    · rw [h3]; exact sub_len (Fil.valid_of h1).sub
  · exact hz
theorem cutT (s : ByteArray) (hs : s.size ≤ 1000000) (W : World) : Calls Tryz.prog 69 #[.string s, .string ⟨#[32]⟩] W fun e w' => e = .returned (.tuple #[.string ⟨(Tg.hd s.data.toList).toArray⟩, .string ⟨(Tg.tl s.data.toList).toArray⟩, .bool (Wd.cut s.data.toList [32]).2.2]) ∧ Below W.heap.size W w' := by
  refine (wordCutFar s ⟨#[32]⟩ W (by omega) (by decide)).mono ?_
  rintro e w1 ⟨rfl, hb⟩
  exact ⟨rfl, hb⟩
theorem hd_len (s : Bs) : (Tg.hd s).length ≤ s.length ∧ (Tg.tl s).length ≤ s.length := cut_le s [32]
/-- a struct's part read, whole -/
theorem part_structT {T : TypeId} {D : TypeDesc} {c : Nat} (hu : Tryz.prog.underlying T = some D) (hD : D.isRow = true) (hc : ∀ w, (sizeOf T).run Tryz.prog w = .ok c w) (pre : List (Array Value)) (x : Array Value) (post : List (Array Value)) {o : Nat} (ho : sizes pre = o) (hx : x.size = c) (w : World) :
    (part T (cat (pre ++ x :: post)) o).run Tryz.prog w = .ok (.agg x) w := by
  have hagg : (isAgg T).run Tryz.prog w = .ok true w := by
    unfold isAgg
    rw [Sem.run_bind, run_underlying hu w]
    cases D <;> simp_all
  have hs : (cat (pre ++ x :: post)).size = o + x.size + sizes post := by rw [cat_app, cat]; simp [cat_size, ho]; omega
  have he : (cat (pre ++ x :: post)).extract o (o + c) = x := by
    apply Array.ext_getElem?
    intro j
    rw [Array.getElem?_extract]
    split
    · rename_i hj
      rw [hs] at hj
      have hjx : j < x.size := by omega
      rw [Array.getElem?_eq_getElem hjx]
      exact cat_part pre x post ho j _ (Array.getElem?_eq_getElem hjx)
    · rename_i hj
      rw [hs] at hj
      rw [Array.getElem?_eq_none (by omega)]
  simp [part, Sem.run_bind, hagg, hc, he]
end Go.Proofs.YtkohfomiigcifaaGreatDoor
namespace Go.Proofs.YtkohfomiigcifaaGreatDoor.Ctr
open Go

/-- three kinds of counters -/
structure Tri where
  a : Int
  b : Int
  c : Int
/-- from 0 to MaxNum -/
def okN (n : Int) : Bool := decide (0 ≤ n) && decide (n ≤ 1000000)
theorem okN_yes {n : Int} (h : okN n = true) : 0 ≤ n ∧ n ≤ 1000000 := by unfold okN at h; simpa using h
theorem okN_mk {n : Int} (h0 : 0 ≤ n) (h1 : n ≤ 1000000) : okN n = true := by unfold okN; simp [h0, h1]
theorem okN_no {n : Int} (h : okN n = false) : n < 0 ∨ 1000000 < n := by
  rcases Int.lt_or_le n 0 with h0 | h0
  · exact .inl h0
  · rcases Int.lt_or_le 1000000 n with h1 | h1
    · exact .inr h1
    · rw [okN_mk h0 h1] at h; cases h
def okT (p : Tri) : Bool := okN p.a && (okN p.b && okN p.c)
def Tri.el (p : Tri) : Nat → Int
  | 0 => p.a
  | 1 => p.b
  | 2 => p.c
  | _ => 0
/-- the elements below k are valid -/
def okTo (p : Tri) (k : Nat) : Prop := ∀ i, i < k → okN (p.el i) = true
theorem okTo_zero (p : Tri) : okTo p 0 := fun i h => absurd h (by omega)
theorem okTo_yes {p : Tri} {k : Nat} (h : okTo p k) (h1 : okN (p.el k) = true) : okTo p (k + 1) := fun i hi => by
  by_cases e : i = k
  · rw [e]; exact h1
  · exact h i (by omega)
theorem okT_end {p : Tri} (h : okTo p 3) : okT p = true := by
  have h0 : okN p.a = true := h 0 (by omega)
  have h1 : okN p.b = true := h 1 (by omega)
  have h2 : okN p.c = true := h 2 (by omega)
  unfold okT; rw [h0, h1, h2]; rfl
theorem okT_no {p : Tri} {k : Nat} (hk : k < 3) (h : okN (p.el k) = false) : okT p = false := by
  match k, hk with
  | 0, _ => have h0 : okN p.a = false := h; unfold okT; rw [h0]; rfl
  | 1, _ => have h0 : okN p.b = false := h; unfold okT; rw [h0]; simp
  | 2, _ => have h0 : okN p.c = false := h; unfold okT; rw [h0]; simp
/-- one element set -/
def Tri.set (p : Tri) (k : Nat) (v : Int) : Tri :=
  match k with
  | 0 => ⟨v, p.b, p.c⟩
  | 1 => ⟨p.a, v, p.c⟩
  | 2 => ⟨p.a, p.b, v⟩
  | _ => p
/-- n added to one element, at least 0 -/
def addN (x n : Int) : Int := max 0 (Num.clampI (Num.clampI x + Num.clampI n))
def addT (p : Tri) (k n : Int) : Tri := if 0 ≤ k ∧ k < 3 then p.set k.toNat (addN (p.el k.toNat) n) else p
theorem addT_nat (p : Tri) {k : Nat} (hk : k < 3) (n : Int) : addT p (k : Int) n = p.set k (addN (p.el k) n) := by
  unfold addT; rw [if_pos (by omega)]; rfl
theorem addT_out {p : Tri} {k n : Int} (h : k < 0 ∨ 3 ≤ k) : addT p k n = p := by
  unfold addT; rw [if_neg (by omega)]
/-- the sum up to kind k -/
def sumTo (p q : Tri) : Nat → Tri
  | 0 => p
  | k + 1 => addT (sumTo p q k) (k : Int) (q.el k)
def sumT (p q : Tri) : Tri := sumTo p q 3
def minN (p : Tri) : Int := min p.a p.b
def pairsT (p : Tri) : Int := if okT p = true then minN p else 0
def cancelT (p : Tri) : Tri := if okT p = true then ⟨p.a - minN p, p.b - minN p, p.c⟩ else p
def powT (p : Tri) : Int := Num.clampI (Num.clampI p.a - Num.clampI p.b)
theorem okT_iff {p : Tri} : okT p = true ↔ (0 ≤ p.a ∧ p.a ≤ 1000000) ∧ (0 ≤ p.b ∧ p.b ≤ 1000000) ∧ (0 ≤ p.c ∧ p.c ≤ 1000000) := by
  unfold okT okN; simp
theorem pairs_ok {p : Tri} (h : okT p = true) : pairsT p = minN p := if_pos h
theorem pairs_bad {p : Tri} (h : okT p = false) : pairsT p = 0 := if_neg (by rw [h]; decide)
theorem cancel_ok {p : Tri} (h : okT p = true) : cancelT p = ⟨p.a - minN p, p.b - minN p, p.c⟩ := if_pos h
theorem cancel_bad {p : Tri} (h : okT p = false) : cancelT p = p := if_neg (by rw [h]; decide)
/-- what P12.4 says, and more -/
theorem cancel_laws {p : Tri} (h : okT p = true) : powT (cancelT p) = powT p ∧ ((cancelT p).a = 0 ∨ (cancelT p).b = 0) ∧ (cancelT p).c = p.c ∧ (cancelT p).a + pairsT p = p.a ∧ cancelT (cancelT p) = cancelT p ∧ pairsT (cancelT p) = 0 ∧ okT (cancelT p) = true := by
  obtain ⟨⟨a0, a1⟩, ⟨b0, b1⟩, ⟨c0, c1⟩⟩ := okT_iff.1 h
  have hm : minN p = min p.a p.b := rfl
  have ho : okT (cancelT p) = true := by
    rw [cancel_ok h, okT_iff]
    simp only
    omega
  have hz : minN (cancelT p) = 0 := by
    rw [cancel_ok h]
    unfold minN
    simp only
    omega
  refine ⟨?_, ?_, ?_, ?_, ?_, ?_, ho⟩
  · rw [cancel_ok h]
    unfold powT
    simp only
    rw [Num.clampI_in (n := p.a - minN p) (by omega) (by omega), Num.clampI_in (n := p.b - minN p) (by omega) (by omega), Num.clampI_in (n := p.a) (by omega) (by omega), Num.clampI_in (n := p.b) (by omega) (by omega)]
    congr 1
    omega
  · rw [cancel_ok h]
    simp only
    omega
  · rw [cancel_ok h]
  · rw [cancel_ok h, pairs_ok h]
    simp only
    omega
  · rw [cancel_ok ho, hz]
    simp
  · rw [pairs_ok ho, hz]
/-- the names -/
def name : Nat → List UInt8
  | 0 => [112, 108, 117, 115]
  | 1 => [109, 105, 110, 117, 115]
  | 2 => [99, 104, 97, 114, 103, 101]
  | _ => []
def nameI (k : Int) : List UInt8 := if k < 0 then [] else name k.toNat
theorem nameI_nat (k : Nat) : nameI (k : Int) = name k := by unfold nameI; rw [if_neg (by omega)]; rfl
theorem nameI_out {k : Int} (h : k < 0 ∨ 3 ≤ k) : nameI k = [] := by
  unfold nameI
  split
  · rfl
  · obtain ⟨n, rfl⟩ : ∃ n : Nat, k = (n : Int) := ⟨k.toNat, by omega⟩
    match n, (show 3 ≤ n by omega) with
    | n + 3, _ => rfl
def kindI (s : List UInt8) : Int := if name 0 = s then 0 else if name 1 = s then 1 else if name 2 = s then 2 else 0
def kindB (s : List UInt8) : Bool := decide (name 0 = s) || (decide (name 1 = s) || decide (name 2 = s))
theorem kind_name (k : Nat) (hk : k < 3) : kindI (name k) = (k : Int) ∧ kindB (name k) = true := by
  match k, hk with
  | 0, _ => decide
  | 1, _ => decide
  | 2, _ => decide
theorem kind_nil : kindI [] = 0 ∧ kindB [] = false := by decide
end Go.Proofs.YtkohfomiigcifaaGreatDoor.Ctr
namespace Go.Proofs.YtkohfomiigcifaaGreatDoor.Ip
open Wd (cut brk)

abbrev Bs := List UInt8
structure Rd where
  on : Int
  who : Int
  f : Fil.Flt
  d : Int
  n : Int
  z : Int
  c : Int
deriving DecidableEq
def zero : Rd := ⟨0, 0, Fil.zero, 0, 0, 0, 0⟩
/-- the place of a kind of events in the table, or -1 -/
def evI (on : Int) : Int := if on = 0 then 0 else if on = 1 then 1 else if on = 2 then 3 else if on = 3 then 5 else if on = 4 then 6 else if on = 5 then 7 else if on = 10 then 8 else if on = 8 then 9 else -1
def formI (on who d : Int) : Int := if on = 1 ∧ who ≠ 0 then 2 else if on = 2 ∧ d ≠ 5 then 4 else evI on
def evL : List Int := [0, 1, 1, 2, 2, 3, 4, 5, 10, 8]
def evOf (F : Nat) : Int := evL.getD F 0
def actL (F : Int) : List Int := if F = 1 ∨ F = 2 then [1, 2, 3, 4] else if F = 3 then [5] else if F = 4 then [6, 7] else if F = 5 then [4, 8] else if 6 ≤ F ∧ F ≤ 9 then [3, 4, 8] else []
def plW (F : Int) : Bool := decide (F = 2 ∨ 5 ≤ F ∧ F ≤ 8)
def uN (d : Int) : Bool := decide (d = 7 ∨ d = 2 ∨ d = 4)
def uZ (d : Int) : Bool := decide (d = 5)
def uC (d : Int) : Bool := decide (d = 7)
/-- valid -/
noncomputable def okB (x : Rd) : Bool :=
  decide (x.d ∈ actL (formI x.on x.who x.d)) && ((if plW (formI x.on x.who x.d) then Tg.whoB x.who else decide (x.who = 0)) && ((if plW (formI x.on x.who x.d) then decide (x.f = Fil.zero) else Fil.validB x.f && decide (x.f.zone = 0)) &&
    ((if uN x.d then decide (1 ≤ x.n) && decide (x.n ≤ 99) else decide (x.n = 0)) && ((if uZ x.d then decide (x.z ∈ ([1, 2, 4] : List Int)) else decide (x.z = 0)) && (if uC x.d then decide (0 ≤ x.c) && decide (x.c < 3) else decide (x.c = 0))))))
theorem mem_act {F d : Int} (h : d ∈ actL F) : (F = 1 ∨ F = 2) ∧ (d = 1 ∨ d = 2 ∨ d = 3 ∨ d = 4) ∨ F = 3 ∧ d = 5 ∨ F = 4 ∧ (d = 6 ∨ d = 7) ∨ F = 5 ∧ (d = 4 ∨ d = 8) ∨ (6 ≤ F ∧ F ≤ 9) ∧ (d = 3 ∨ d = 4 ∨ d = 8) := by
  unfold actL at h
  split at h
  · simp at h; omega
  · split at h
    · simp at h; omega
    · split at h
      · simp at h; omega
      · split at h
        · simp at h; omega
        · split at h
          · simp at h; omega
          · cases h
theorem evI_of {on : Int} (h : 1 ≤ evI on) : evOf (evI on).toNat = on ∧ evI on ≤ 9 ∧ evI on ≠ 2 ∧ evI on ≠ 4 := by
  unfold evI at *
  split at h
  · omega
  split at h
  · subst on; decide
  split at h
  · subst on; decide
  split at h
  · subst on; decide
  split at h
  · subst on; decide
  split at h
  · subst on; decide
  split at h
  · subst on; decide
  split at h
  · subst on; decide
  omega
theorem form_of {on who d : Int} (h : 1 ≤ formI on who d) : evOf (formI on who d).toNat = on ∧ formI on who d ≤ 9 ∧ (formI on who d = 2 → who ≠ 0) := by
  unfold formI at *
  split at h
  · rename_i h1; rw [if_pos h1]; exact ⟨by rw [h1.1]; rfl, by omega, fun _ => h1.2⟩
  · rename_i h1
    rw [if_neg h1]
    split at h
    · rename_i h2; rw [if_pos h2]; exact ⟨by rw [h2.1]; rfl, by omega, fun e => by omega⟩
    · rename_i h2
      rw [if_neg h2]
      have := evI_of h
      exact ⟨this.1, this.2.1, fun e => absurd e this.2.2.1⟩
structure Ok (x : Rd) : Prop where
  lo : 1 ≤ formI x.on x.who x.d
  hi : formI x.on x.who x.d ≤ 9
  ev : evOf (formI x.on x.who x.d).toNat = x.on
  act : x.d ∈ actL (formI x.on x.who x.d)
  whoY : 0 ≤ x.who ∧ x.who ≤ 2
  whoN : plW (formI x.on x.who x.d) = false → x.who = 0
  two : formI x.on x.who x.d = 2 → x.who ≠ 0
  fY : plW (formI x.on x.who x.d) = true → x.f = Fil.zero
  fN : plW (formI x.on x.who x.d) = false → Fil.validB x.f = true ∧ x.f.zone = 0
  nY : uN x.d = true → 1 ≤ x.n ∧ x.n ≤ 99
  nN : uN x.d = false → x.n = 0
  zY : uZ x.d = true → x.z = 1 ∨ x.z = 2 ∨ x.z = 4
  zN : uZ x.d = false → x.z = 0
  cY : uC x.d = true → 0 ≤ x.c ∧ x.c < 3
  cN : uC x.d = false → x.c = 0
theorem ok_parts {x : Rd} (h : okB x = true) : Ok x := by
  unfold okB at h
  simp only [Bool.and_eq_true] at h
  obtain ⟨h1, h2, h3, h4, h5, h6⟩ := h
  have ha := mem_act (of_decide_eq_true h1)
  have hF := form_of (on := x.on) (who := x.who) (d := x.d) (by omega)
  refine ⟨by omega, hF.2.1, hF.1, of_decide_eq_true h1, ?_, fun e => ?_, hF.2.2, fun e => ?_, fun e => ?_, fun e => ?_, fun e => ?_, fun e => ?_, fun e => ?_, fun e => ?_, fun e => ?_⟩
  · cases hw : plW (formI x.on x.who x.d) with
    | true => rw [hw] at h2; simpa [Tg.whoB] using h2
    | false => rw [hw] at h2; simp at h2; omega
  · rw [e] at h2; simpa using h2
  · rw [e] at h3; simpa using h3
  · rw [e] at h3; simpa using h3
  · rw [e] at h4; simpa using h4
  · rw [e] at h4; simpa using h4
  · rw [e] at h5; simpa using h5
  · rw [e] at h5; simpa using h5
  · rw [e] at h6; simpa using h6
  · rw [e] at h6; simpa using h6
/-! texts -/
def headsL : List Bs := [[], [100, 97, 109, 97, 103, 101], [104, 117, 114, 116], [100, 105, 101, 115], [101, 110, 116, 101, 114, 115], [100, 114, 97, 119], [103, 97, 105, 110], [108, 111, 115, 101], [99, 114, 101, 97, 116, 101], [112, 117, 116]]
def actsL : List Bs := [[], [112, 114, 101, 118, 101, 110, 116], [114, 101, 100, 117, 99, 101], [100, 111, 117, 98, 108, 101], [97, 100, 100], [], [116, 97, 112, 112, 101, 100], [119, 105, 116, 104], [115, 107, 105, 112]]
def zonesL : List Bs := [[98, 97, 116, 116, 108, 101, 102, 105, 101, 108, 100], [104, 97, 110, 100], [108, 105, 98, 114, 97, 114, 121], [103, 114, 97, 118, 101, 121, 97, 114, 100], [101, 120, 105, 108, 101], [115, 116, 97, 99, 107]]
def headL (k : Nat) : Bs := headsL.getD k []
def actN (k : Nat) : Bs := actsL.getD k []
def zoneN (k : Nat) : Bs := zonesL.getD k []
/-- a zone's name -/
def zoneT (z : Int) : Bs := if 0 ≤ z ∧ z ≤ 5 then zoneN z.toNat else []
/-- what an action says -/
noncomputable def actT (d n z c : Int) : Bs := if uZ d then zoneT z else actN d.toNat ++ ((if uN d then 32 :: Lib.itoa n else []) ++ (if uC d then 32 :: Ctr.nameI c else []))
noncomputable def subj (x : Rd) : Bs := if plW (formI x.on x.who x.d) then Tg.whoT x.who else Tg.partF x.f
noncomputable def raw (x : Rd) : Bs := headL (formI x.on x.who x.d).toNat ++ 32 :: (subj x ++ 32 :: actT x.d x.n x.z x.c)
noncomputable def textT (x : Rd) : Bs := if okB x then raw x else []
theorem textT_ok {x : Rd} (h : okB x = true) : textT x = raw x := by unfold textT; rw [if_pos h]
theorem textT_bad {x : Rd} (h : okB x = false) : textT x = [] := by unfold textT; rw [if_neg (by simp [h])]
theorem heads_plain : ∀ k, k < 10 → Ct.plainB 32 (headL k) = true := by decide
theorem acts_plain : ∀ k, k < 9 → Ct.plainB 32 (actN k) = true := by decide
theorem raw_ne (x : Rd) : raw x ≠ [] := by
  intro e
  unfold raw at e
  have := (List.append_eq_nil_iff.1 e).2
  cases this
theorem textT_nil {x : Rd} : textT x = [] ↔ okB x = false := by
  constructor
  · intro e
    cases h : okB x with
    | false => rfl
    | true => rw [textT_ok h] at e; exact absurd e (raw_ne x)
  · exact textT_bad
/-! a cut behind a bracket -/
theorem dep_in {m r : Bs} (h : ∀ b ∈ m, brk b = false) : ∀ j, j ≤ m.length → Wd.depAt (40 :: (m ++ r)) (1 + j) = 1
  | 0, _ => rfl
  | j + 1, hj => by
    show Wd.stepD (Wd.depAt (40 :: (m ++ r)) (1 + j)) ((40 :: (m ++ r)).getD (1 + j) 0) = 1
    rw [dep_in h j (by omega)]
    have e : (40 :: (m ++ r)).getD (1 + j) 0 = m[j] := by
      rw [Nat.add_comm, List.getD_cons_succ, List.getD, List.getElem?_append_left (by omega), List.getElem?_eq_getElem (by omega)]
      rfl
    rw [e]
    exact Wd.stepD_plain (h _ (List.getElem_mem _))
theorem cut_brk {m r : Bs} (h : ∀ b ∈ m, brk b = false) : cut (40 :: (m ++ 41 :: 32 :: r)) [32] = (40 :: (m ++ [41]), r, true) := by
  have hl : (40 :: (m ++ 41 :: 32 :: r)).length = m.length + r.length + 3 := by simp; omega
  have hd : Wd.depAt (40 :: (m ++ 41 :: 32 :: r)) (m.length + 2) = 0 := by
    show Wd.stepD (Wd.depAt (40 :: (m ++ 41 :: 32 :: r)) (m.length + 1)) ((40 :: (m ++ 41 :: 32 :: r)).getD (m.length + 1) 0) = 0
    rw [Nat.add_comm m.length 1, dep_in h _ (Nat.le_refl _), Nat.add_comm 1, List.getD_cons_succ, List.getD, List.getElem?_append_right (Nat.le_refl _), Nat.sub_self]
    rfl
  have e1 : (40 :: (m ++ 41 :: 32 :: r)).drop (m.length + 2) = 32 :: r := by
    rw [show (40 :: (m ++ 41 :: 32 :: r)) = (40 :: (m ++ [41])) ++ 32 :: r by simp, show m.length + 2 = (40 :: (m ++ [41])).length by simp, List.drop_left]
  have := Wd.cut_some (l := 40 :: (m ++ 41 :: 32 :: r)) (sep := [32]) (k := m.length + 2) (by simp) (by omega) (by
    unfold Wd.cutP
    rw [hd, e1]
    simp [List.isPrefixOf]) (fun j hj => by
    unfold Wd.cutP
    match j with
    | 0 => simp [List.isPrefixOf]
    | j + 1 =>
      rw [Nat.add_comm j 1, dep_in h j (by omega)]
      rfl)
  rw [this]
  refine Prod.ext ?_ (Prod.ext ?_ rfl)
  · show (40 :: (m ++ 41 :: 32 :: r)).take (m.length + 2) = _
    rw [show (40 :: (m ++ 41 :: 32 :: r)) = (40 :: (m ++ [41])) ++ 32 :: r by simp, show m.length + 2 = (40 :: (m ++ [41])).length by simp, List.take_left]
  · show (40 :: (m ++ 41 :: 32 :: r)).drop (m.length + 2 + 1) = r
    rw [← List.drop_drop, e1]
    rfl
/-- a filter's text holds no bracket -/
theorem text_brk {f : Fil.Flt} (h : Fil.validB f = true) : ∀ b ∈ Fil.textF f, brk b = false := by
  rw [Fil.textF_valid h]
  unfold Fil.textP
  split
  · decide
  · intro b hb
    rcases Ct.mem_join hb with rfl | ⟨p, hp, hbp⟩
    · decide
    · exact (Fil.rest_plain (Fil.valid_of h) 13 0 p hp b hbp).2
/-! the program's reader -/
/-- the number in l whose name is s, or 0 -/
def wn (s : Bs) (nm : Int → Bs) : List Int → Int
  | [] => 0
  | k :: l => if nm k == s then k else wn s nm l
structure Ac where
  d : Int
  n : Int
  z : Int
  c : Int
noncomputable def numV (s : Bs) : Int := (Num.numberL s).getD 0
noncomputable def acOf (d : Int) (r : Bs) : Ac :=
  if uN d then (if uC d then ⟨d, numV (Tg.hd r), 0, Ctr.kindI (Tg.tl r)⟩ else ⟨d, numV (Tg.hd r), 0, 0⟩) else if uC d then ⟨d, 0, 0, Ctr.kindI r⟩ else ⟨d, 0, 0, 0⟩
noncomputable def readA (F : Int) (s : Bs) : Ac :=
  if F = 3 then ⟨5, 0, wn s zoneT [1, 2, 4], 0⟩ else acOf (idx actsL (Tg.hd s)) (Tg.tl s)
noncomputable def mkR (F : Int) (on : Int) (s : Bs) (a : Ac) : Rd := ⟨on, if plW F then wn s Tg.whoT [0, 1, 2] else 0, if plW F then Fil.zero else Tg.encV s, a.d, a.n, a.z, a.c⟩
noncomputable def readF (s : Bs) : Int := idx headsL (Tg.hd s)
noncomputable def readR (s : Bs) : Rd := if readF s < 0 then zero else mkR (readF s) (evOf (readF s).toNat) (Tg.hd (Tg.tl s)) (readA (readF s) (Tg.tl (Tg.tl s)))
theorem idx_heads : ∀ k, k < 10 → idx headsL (headL k) = k := by
  intro k hk
  refine idx_hit (k := k) ?_ ?_
  · unfold headL
    rw [List.getD, List.getElem?_eq_getElem (show k < headsL.length from hk)]
    rfl
  · have key : ∀ k, k < 10 → ∀ j, j < k → headsL[j]? ≠ some (headL k) := by decide
    intro j y hj hy e
    exact key k hk j hj (by rw [hy, e])
theorem idx_acts : ∀ k, k < 9 → k ≠ 5 → idx actsL (actN k) = k := by
  intro k hk h5
  refine idx_hit (k := k) ?_ ?_
  · unfold actN
    rw [List.getD, List.getElem?_eq_getElem (show k < actsL.length from hk)]
    rfl
  · have key : ∀ k, k < 9 → k ≠ 5 → ∀ j, j < k → actsL[j]? ≠ some (actN k) := by decide
    intro j y hj hy e
    exact key k hk h5 j hj (by rw [hy, e])
theorem wn_who {n : Int} (h : 0 ≤ n ∧ n ≤ 2) : wn (Tg.whoT n) Tg.whoT [0, 1, 2] = n := by
  have : n = 0 ∨ n = 1 ∨ n = 2 := by omega
  rcases this with rfl | rfl | rfl <;> decide
theorem wn_zone {z : Int} (h : z = 1 ∨ z = 2 ∨ z = 4) : wn (zoneT z) zoneT [1, 2, 4] = z := by
  rcases h with rfl | rfl | rfl <;> decide
theorem itoa_pl {n : Int} (h : 0 ≤ n) : Ct.PlainP 32 (Lib.itoa n) := by
  rw [Num.itoa_nonneg h]
  intro b hb
  have hd := Num.decDigits_digit _ b hb
  have k : ∀ k : UInt8, k.toNat < 48 ∨ 57 < k.toNat → b ≠ k := by
    intro k hk e
    subst e
    omega
  refine ⟨k 32 (by decide), ?_⟩
  unfold brk
  simp [k 40 (by decide), k 41 (by decide), k 91 (by decide), k 93 (by decide)]
theorem numV_itoa {n : Int} (h : 0 ≤ n ∧ n ≤ 99) : numV (Lib.itoa n) = n := by
  unfold numV
  rw [Num.numberL_itoa_in (by omega) (by omega)]
  rfl
theorem hd_plain {p : Bs} (h : Ct.PlainP 32 p) : Tg.hd p = p := by
  unfold Tg.hd
  rw [Ct.cut_plain h]
theorem cut_pl {p r : Bs} (h : Ct.PlainP 32 p) : Tg.hd (p ++ 32 :: r) = p ∧ Tg.tl (p ++ 32 :: r) = r := by
  unfold Tg.hd Tg.tl
  rw [Ct.cut_at h]
  exact ⟨rfl, rfl⟩
theorem read_act {F d n z c : Int} (h1 : d ∈ actL F) (hn1 : uN d = true → 1 ≤ n ∧ n ≤ 99) (hn0 : uN d = false → n = 0) (hz1 : uZ d = true → z = 1 ∨ z = 2 ∨ z = 4) (hz0 : uZ d = false → z = 0) (hc1 : uC d = true → 0 ≤ c ∧ c < 3) (hc0 : uC d = false → c = 0) :
    readA F (actT d n z c) = ⟨d, n, z, c⟩ := by
  have ha := mem_act h1
  by_cases h5 : d = 5
  · have hF : F = 3 := by omega
    subst h5
    have e1 : actT 5 n z c = zoneT z := rfl
    unfold readA
    rw [if_pos hF, e1, wn_zone (hz1 rfl), hn0 rfl, hc0 rfl]
  · have hF : ¬ F = 3 := by omega
    have eZ : uZ d = false := by unfold uZ; exact decide_eq_false h5
    have hp := acts_plain d.toNat (by omega)
    have hi := idx_acts d.toNat (by omega) (by omega)
    rw [show ((d.toNat : Nat) : Int) = d by omega] at hi
    have hz := hz0 eZ
    unfold readA
    rw [if_neg hF]
    unfold actT
    rw [if_neg (by rw [eZ]; decide)]
    cases hN : uN d with
    | false =>
      have eC : uC d = false := by unfold uN at hN; unfold uC; simp only [decide_eq_false_iff_not] at *; omega
      rw [eC]
      simp only [Bool.false_eq_true, if_false, List.append_nil]
      rw [Tg.cut_whole hp, hi]
      unfold acOf
      rw [hN, eC, if_neg (by decide), if_neg (by decide), hn0 hN, hz, hc0 eC]
    | true =>
      have hnn := hn1 hN
      rw [if_pos rfl]
      cases eC : uC d with
      | false =>
        simp only [Bool.false_eq_true, if_false, List.append_nil]
        rw [(cut_pl (Ct.plain_of hp)).1, (cut_pl (Ct.plain_of hp)).2, hi]
        unfold acOf
        rw [hN, eC, if_pos rfl, if_neg (by decide), hd_plain (itoa_pl (by omega)), numV_itoa (by omega), hz, hc0 eC]
      | true =>
        have hcc := hc1 eC
        rw [if_pos rfl]
        rw [show actN d.toNat ++ (32 :: Lib.itoa n ++ 32 :: Ctr.nameI c) = actN d.toNat ++ 32 :: (Lib.itoa n ++ 32 :: Ctr.nameI c) by simp]
        rw [(cut_pl (Ct.plain_of hp)).1, (cut_pl (Ct.plain_of hp)).2, hi]
        unfold acOf
        have hk := Ctr.kind_name c.toNat (by omega)
        have en : Ctr.nameI c = Ctr.name c.toNat := by rw [← Ctr.nameI_nat, show ((c.toNat : Nat) : Int) = c by omega]
        rw [hN, eC, if_pos rfl, if_pos rfl, (cut_pl (itoa_pl (n := n) (by omega))).1, (cut_pl (itoa_pl (n := n) (by omega))).2, numV_itoa (by omega), hz, en, hk.1, show ((c.toNat : Nat) : Int) = c by omega]
theorem read_raw {x : Rd} (h : okB x = true) : readR (raw x) = x := by
  have o := ok_parts h
  have l := o.lo
  have u := o.hi
  have hF : (formI x.on x.who x.d).toNat < 10 := by omega
  have hp := Ct.plain_of (heads_plain _ hF)
  have hk : readF (raw x) = formI x.on x.who x.d := by
    unfold readF raw
    rw [(cut_pl hp).1, idx_heads _ hF]
    omega
  have ht : Tg.tl (raw x) = subj x ++ 32 :: actT x.d x.n x.z x.c := by unfold raw; rw [(cut_pl hp).2]
  have hs : Tg.hd (Tg.tl (raw x)) = subj x ∧ Tg.tl (Tg.tl (raw x)) = actT x.d x.n x.z x.c := by
    rw [ht]
    unfold subj
    cases hw : plW (formI x.on x.who x.d) with
    | true =>
      rw [if_pos rfl]
      have hb := o.whoY
      have e : Tg.whoT x.who = Tg.whoL x.who.toNat := by unfold Tg.whoT; rw [if_pos (by unfold Tg.whoB; simp only [decide_eq_true_eq]; omega)]
      rw [e]
      exact cut_pl (Ct.plain_of (Tg.whos_plain _ (by omega)))
    | false =>
      have hv := (o.fN hw).1
      rw [if_neg (by decide)]
      unfold Tg.partF Tg.hd Tg.tl
      rw [if_pos hv, show (40 :: (Fil.textF x.f ++ [41])) ++ 32 :: actT x.d x.n x.z x.c = 40 :: (Fil.textF x.f ++ 41 :: 32 :: actT x.d x.n x.z x.c) by simp, cut_brk (text_brk hv)]
      exact ⟨rfl, rfl⟩
  unfold readR
  rw [hk, if_neg (by omega), hs.1, hs.2, read_act o.act o.nY o.nN o.zY o.zN o.cY o.cN, o.ev]
  unfold mkR
  obtain ⟨on, who, f, d, n, z, c⟩ := x
  simp only at *
  rw [Rd.mk.injEq]
  refine ⟨rfl, ?_, ?_, rfl, rfl, rfl, rfl⟩
  · cases hw : plW (formI on who d) with
    | true =>
      rw [if_pos rfl]
      unfold subj
      simp only
      rw [hw, if_pos rfl]
      exact wn_who o.whoY
    | false => rw [if_neg (by decide)]; exact (o.whoN hw).symm
  · cases hw : plW (formI on who d) with
    | true => rw [if_pos rfl]; exact (o.fY hw).symm
    | false =>
      rw [if_neg (by decide)]
      unfold subj
      simp only
      rw [hw, if_neg (by decide)]
      exact Tg.enc_text (o.fN hw).1
theorem read_text {x : Rd} (h : okB x = true) : readR (textT x) = x := by rw [textT_ok h]; exact read_raw h
/-- what Parse answers -/
noncomputable def pB (s : Bs) : Bool := okB (readR s) && (textT (readR s) == s)
noncomputable def pV (s : Bs) : Rd := if pB s = true then readR s else zero
noncomputable def pE (s : Bs) : Int := if pB s = true then 0 else 3
theorem p_text {x : Rd} (h : okB x = true) : pV (textT x) = x ∧ pE (textT x) = 0 := by
  have hb : pB (textT x) = true := by unfold pB; rw [read_text h, h]; simp
  unfold pV pE
  rw [if_pos hb, if_pos hb]
  exact ⟨read_text h, rfl⟩
theorem p_no {s : Bs} (h : pB s = false) : pV s = zero ∧ pE s = 3 := by
  unfold pV pE
  rw [if_neg (by rw [h]; decide), if_neg (by rw [h]; decide)]
  exact ⟨rfl, rfl⟩
theorem p_yes {s : Bs} (h : pB s = true) : okB (pV s) = true ∧ textT (pV s) = s ∧ pE s = 0 ∧ pV s = readR s := by
  unfold pV pE
  rw [if_pos h, if_pos h]
  unfold pB at h
  simp only [Bool.and_eq_true, beq_iff_eq] at h
  exact ⟨h.1, h.2, rfl, rfl⟩
theorem textT_inj {x y : Rd} (hx : okB x = true) (hy : okB y = true) (h : textT x = textT y) : x = y := by
  rw [← read_text hx, ← read_text hy, h]
theorem p_nil : pB [] = false := by
  cases h : pB [] with
  | false => rfl
  | true =>
    obtain ⟨h1, h2, _⟩ := p_yes h
    rw [textT_nil] at h2
    rw [h1] at h2
    cases h2
end Go.Proofs.YtkohfomiigcifaaGreatDoor.Ip
namespace Go.Proofs.YtkohfomiigcifaaGreatDoor
open Go.RowKit
open Wd (Bs)

theorem sizeTIp : (Tryz.prog.info? 27).map (·.size) = some 22 := by kernel_rfl
theorem infoTIp22 {xs : Array Value} (h : xs.size = 22) : (Tryz.prog.info? 27).map (·.size) = some xs.size := by rw [sizeTIp, h]
def eqIp (a b : Ip.Rd) : Bool := a.on == b.on && (a.who == b.who && (eqF a.f b.f && (a.d == b.d && (a.n == b.n && (a.z == b.z && (a.c == b.c && true))))))
theorem eqIp_iff {a b : Ip.Rd} : eqIp a b = true ↔ a = b := by
  obtain ⟨on, who, f, d, n, z, c⟩ := a
  obtain ⟨on', who', f', d', n', z', c'⟩ := b
  simp [eqIp, eqF_iff]
/-- the cells -/
def ipG (on who : Int) (F : Array Value) (d n z c : Int) : Array Value := cat [#[.int .i64 on], #[.int .i64 who], F, #[.int .i64 d], #[.int .i64 n], #[.int .i64 z], #[.int .i64 c]]
section
variable {on who d n z c x : Int} {F G : Array Value}
theorem ipG_sz (h : F.size = 16) : (ipG on who F d n z c).size = 22 := by
  unfold ipG
  rw [cat_size]
  simp [sizes, h]
theorem ipG_one (h : F.all (·.oneCell') = true) : (ipG on who F d n z c).all (·.oneCell') = true := one_cons (one_int _ _) (one_cons (one_int _ _) (one_cons h (one_cons (one_int _ _) (one_cons (one_int _ _) (one_cons (one_int _ _) (one_cons (one_int _ _) one_nil))))))
theorem ipG_0 : (ipG on who F d n z c)[0]? = some (.int .i64 on) := cat_cell [] _ _ (o := 0) rfl
theorem ipG_1 : (ipG on who F d n z c)[1]? = some (.int .i64 who) := cat_cell [#[.int .i64 on]] _ _ (o := 1) rfl
theorem ipG_f (j : Nat) (v : Value) (h : F[j]? = some v) : (ipG on who F d n z c)[2 + j]? = some v := cat_part [#[.int .i64 on], #[.int .i64 who]] F _ (o := 2) rfl j v h
theorem ipG_18 (h : F.size = 16) : (ipG on who F d n z c)[18]? = some (.int .i64 d) := cat_cell [#[.int .i64 on], #[.int .i64 who], F] _ _ (o := 18) (by simp [sizes, h])
theorem ipG_19 (h : F.size = 16) : (ipG on who F d n z c)[19]? = some (.int .i64 n) := cat_cell [#[.int .i64 on], #[.int .i64 who], F, #[.int .i64 d]] _ _ (o := 19) (by simp [sizes, h])
theorem ipG_20 (h : F.size = 16) : (ipG on who F d n z c)[20]? = some (.int .i64 z) := cat_cell [#[.int .i64 on], #[.int .i64 who], F, #[.int .i64 d], #[.int .i64 n]] _ _ (o := 20) (by simp [sizes, h])
theorem ipG_21 (h : F.size = 16) : (ipG on who F d n z c)[21]? = some (.int .i64 c) := cat_cell [#[.int .i64 on], #[.int .i64 who], F, #[.int .i64 d], #[.int .i64 n], #[.int .i64 z]] _ _ (o := 21) (by simp [sizes, h])
theorem ipG_p0 : laidAt (ipG on who F d n z c) 0 [.int .i64 x] = ipG x who F d n z c := cat_put [] _ _ _ (o := 0) rfl
theorem ipG_p1 : laidAt (ipG on who F d n z c) 1 [.int .i64 x] = ipG on x F d n z c := cat_put [#[.int .i64 on]] _ _ _ (o := 1) rfl
theorem ipG_pf (h : G.size = F.size) : laidAt (ipG on who F d n z c) 2 G.toList = ipG on who G d n z c := cat_laid [#[.int .i64 on], #[.int .i64 who]] F G _ (o := 2) rfl h
theorem ipG_p18 (h : F.size = 16) : laidAt (ipG on who F d n z c) 18 [.int .i64 x] = ipG on who F x n z c := cat_put [#[.int .i64 on], #[.int .i64 who], F] _ _ _ (o := 18) (by simp [sizes, h])
theorem ipG_p19 (h : F.size = 16) : laidAt (ipG on who F d n z c) 19 [.int .i64 x] = ipG on who F d x z c := cat_put [#[.int .i64 on], #[.int .i64 who], F, #[.int .i64 d]] _ _ _ (o := 19) (by simp [sizes, h])
theorem ipG_p20 (h : F.size = 16) : laidAt (ipG on who F d n z c) 20 [.int .i64 x] = ipG on who F d n x c := cat_put [#[.int .i64 on], #[.int .i64 who], F, #[.int .i64 d], #[.int .i64 n]] _ _ _ (o := 20) (by simp [sizes, h])
theorem ipG_p21 (h : F.size = 16) : laidAt (ipG on who F d n z c) 21 [.int .i64 x] = ipG on who F d n z x := cat_put [#[.int .i64 on], #[.int .i64 who], F, #[.int .i64 d], #[.int .i64 n], #[.int .i64 z]] _ _ _ (o := 21) (by simp [sizes, h])
end
theorem run_eq_ip (on who d n z c on' who' d' n' z' c' : Int) (f g : Fil.Flt) (fs gs : ByteArray) (hf : f.sub = fs.data.toList) (hg : g.sub = gs.data.toList) (w : World) :
    (Op.equalIn 10000 27 (.agg (ipG on who (cellsF f fs) d n z c)) (.agg (ipG on' who' (cellsF g gs) d' n' z' c'))).run Tryz.prog w = .ok (eqIp ⟨on, who, f, d, n, z, c⟩ ⟨on', who', g, d', n', z', c'⟩) w := by
  rw [run_equalIn_struct w 9999 27 _ _ (by kernel_rfl) (by kernel_rfl)]
  simp only [Program.fieldsOf, Tryz.underlying27]
  have sf := cellsF_size f fs
  have sg := cellsF_size g gs
  have pf : ∀ (on who d n z c : Int) (F : Array Value), F.size = 16 → ∀ w, (part 25 (ipG on who F d n z c) 2).run Tryz.prog w = .ok (.agg F) w := fun on who d n z c F h w => part_structT Tryz.underlying25 rfl (fun w => by kernel_rfl) [#[.int .i64 on], #[.int .i64 who]] F _ (o := 2) rfl h w
  have k6 := eqFields_step 9999 _ _ { name := "Counter", type := 3, offset := 21, embedded := false, tag := "", pkgPath := "", byteOffset := 176 } [] (by decide) _ _ w (partInt _ 21 _ (ipG_21 (on := on) (who := who) (d := d) (n := n) (z := z) (c := c) sf) w) (partInt _ 21 _ (ipG_21 (on := on') (who := who') (d := d') (n := n') (z := z') (c := c') sg) w) (run_equalIn_int w 9998 3 .i64 .i64 c c' Tryz.underlying3) (r := true) (by simp [Op.eqFields])
  have k5 := eqFields_step 9999 _ _ { name := "Zone", type := 3, offset := 20, embedded := false, tag := "", pkgPath := "", byteOffset := 168 } _ (by decide) _ _ w (partInt _ 20 _ (ipG_20 (on := on) (who := who) (d := d) (n := n) (z := z) (c := c) sf) w) (partInt _ 20 _ (ipG_20 (on := on') (who := who') (d := d') (n := n') (z := z') (c := c') sg) w) (run_equalIn_int w 9998 3 .i64 .i64 z z' Tryz.underlying3) k6
  have k4 := eqFields_step 9999 _ _ { name := "N", type := 3, offset := 19, embedded := false, tag := "", pkgPath := "", byteOffset := 160 } _ (by decide) _ _ w (partInt _ 19 _ (ipG_19 (on := on) (who := who) (d := d) (n := n) (z := z) (c := c) sf) w) (partInt _ 19 _ (ipG_19 (on := on') (who := who') (d := d') (n := n') (z := z') (c := c') sg) w) (run_equalIn_int w 9998 3 .i64 .i64 n n' Tryz.underlying3) k5
  have k3 := eqFields_step 9999 _ _ { name := "Do", type := 3, offset := 18, embedded := false, tag := "", pkgPath := "", byteOffset := 152 } _ (by decide) _ _ w (partInt _ 18 _ (ipG_18 (on := on) (who := who) (d := d) (n := n) (z := z) (c := c) sf) w) (partInt _ 18 _ (ipG_18 (on := on') (who := who') (d := d') (n := n') (z := z') (c := c') sg) w) (run_equalIn_int w 9998 3 .i64 .i64 d d' Tryz.underlying3) k4
  have k2 := eqFields_step 9999 _ _ { name := "Filter", type := 25, offset := 2, embedded := false, tag := "", pkgPath := "", byteOffset := 16 } _ (by decide) _ _ w (pf on who d n z c _ sf w) (pf on' who' d' n' z' c' _ sg w) (run_eq_fltD 9996 f g fs gs hf hg w) k3
  have k1 := eqFields_step 9999 _ _ { name := "Who", type := 3, offset := 1, embedded := false, tag := "", pkgPath := "", byteOffset := 8 } _ (by decide) _ _ w (partInt _ 1 _ ipG_1 w) (partInt _ 1 _ ipG_1 w) (run_equalIn_int w 9998 3 .i64 .i64 who who' Tryz.underlying3) k2
  exact eqFields_step 9999 _ _ { name := "On", type := 3, offset := 0, embedded := false, tag := "", pkgPath := "", byteOffset := 0 } _ (by decide) _ _ w (partInt _ 0 _ ipG_0 w) (partInt _ 0 _ ipG_0 w) (run_equalIn_int w 9998 3 .i64 .i64 on on' Tryz.underlying3) k1
/-- the cells out of the plain fields -/
def cellsI (x : Ip.Rd) : Array Value := ipG x.on x.who (cellsF x.f (fsOf x.f)) x.d x.n x.z x.c
theorem cellsI_sz (x : Ip.Rd) : (cellsI x).size = 22 := ipG_sz (cellsF_size _ _)
theorem cellsI_one (x : Ip.Rd) : (cellsI x).all (·.oneCell') = true := ipG_one (cellsF_one _ _)
theorem cellsI_of {on who d n z c : Int} {f : Fil.Flt} {fs : ByteArray} (hf : f.sub = fs.data.toList) : ipG on who (cellsF f fs) d n z c = cellsI ⟨on, who, f, d, n, z, c⟩ := by rw [fs_eq hf]; rfl
/-- '==' of one with itself, of two -/
theorem run_eq_ipS (on who d n z c : Int) (f : Fil.Flt) (fs : ByteArray) (hf : f.sub = fs.data.toList) (W : World) : (Op.equalIn 10000 27 (.agg (ipG on who (cellsF f fs) d n z c)) (.agg (ipG on who (cellsF f fs) d n z c))).run Tryz.prog W = .ok true W := by
  have := run_eq_ip on who d n z c on who d n z c f f fs fs hf hf W
  rw [eqIp_iff.2 rfl] at this
  exact this
theorem run_eq_selfI (x : Ip.Rd) (W : World) : (Op.equalIn 10000 27 (.agg (cellsI x)) (.agg (cellsI x))).run Tryz.prog W = .ok true W := run_eq_ipS x.on x.who x.d x.n x.z x.c x.f (fsOf x.f) (fsOf_sub x.f) W
theorem run_eq_ipD (x y : Ip.Rd) (W : World) : (Op.equalIn 10000 27 (.agg (cellsI x)) (.agg (cellsI y))).run Tryz.prog W = .ok (decide (x = y)) W := by
  have := run_eq_ip x.on x.who x.d x.n x.z x.c y.on y.who y.d y.n y.z y.c x.f y.f (fsOf x.f) (fsOf y.f) (fsOf_sub x.f) (fsOf_sub y.f) W
  rw [show eqIp ⟨x.on, x.who, x.f, x.d, x.n, x.z, x.c⟩ ⟨y.on, y.who, y.f, y.d, y.n, y.z, y.c⟩ = decide (x = y) from Bool.eq_iff_iff.2 ((eqIp_iff (a := x) (b := y)).trans (by simp))] at this
  exact this
theorem builtI_d (d : Int) : Tryz.prog.built 27 [(3, .int .i64 d)] = some (ipG 0 0 cellsZ d 0 0 0) := by kernel_rfl
theorem builtI_dz (d z : Int) : Tryz.prog.built 27 [(3, .int .i64 d), (5, .int .i64 z)] = some (ipG 0 0 cellsZ d 0 z 0) := by kernel_rfl
theorem builtI_owd (on who d : Int) : Tryz.prog.built 27 [(0, .int .i64 on), (1, .int .i64 who), (3, .int .i64 d)] = some (ipG on who cellsZ d 0 0 0) := by kernel_rfl
theorem builtI_odw (on who d : Int) : Tryz.prog.built 27 [(0, .int .i64 on), (3, .int .i64 d), (1, .int .i64 who)] = some (ipG on who cellsZ d 0 0 0) := by kernel_rfl
theorem builtI_odwf (on who d : Int) (f : Fil.Flt) (fs : ByteArray) : Tryz.prog.built 27 [(0, .int .i64 on), (3, .int .i64 d), (1, .int .i64 who), (2, .agg (cellsF f fs))] = some (ipG on who (cellsF f fs) d 0 0 0) := by kernel_rfl
end Go.Proofs.YtkohfomiigcifaaGreatDoor
namespace Go.Proofs.YtkohfomiigcifaaGreatDoor
open Go.RowKit
open Wd (Bs)


/-- the value v is a slice of ints that reads as l -/
def Ints (w : World) (v : Value) (l : List Int) : Prop :=
  ∃ a cap, v = .slice a l.length cap ∧ l.length ≤ cap ∧ cap ≤ maxLen ∧ (a = none → cap = 0) ∧ ∀ (i : Nat) x, l[i]? = some x → ∃ b o, a = some ⟨b, o, none⟩ ∧ b < w.heap.size ∧ w.cell? ⟨b, o + i, none⟩ = some (.int .i64 x)
theorem Ints.nil (w : World) : Ints w (.slice none 0 0) [] := ⟨none, 0, rfl, Nat.le_refl _, by decide, fun _ => rfl, fun i x h => by simp at h⟩
theorem Ints.shape {w : World} {v : Value} {l : List Int} (h : Ints w v l) : (∃ a cap, v = .slice a 0 cap ∧ l = [] ∧ cap ≤ maxLen ∧ (a = none → cap = 0)) ∨
    ∃ b o cap, v = .slice (some ⟨b, o, none⟩) l.length cap ∧ 0 < l.length ∧ b < w.heap.size ∧ l.length ≤ cap ∧ cap ≤ maxLen ∧ ∀ (i : Nat) x, l[i]? = some x → w.cell? ⟨b, o + i, none⟩ = some (.int .i64 x) := by
  obtain ⟨a, cap, rfl, h1, h2, hn, h3⟩ := h
  cases l with
  | nil => exact .inl ⟨a, cap, rfl, rfl, h2, hn⟩
  | cons y r =>
    obtain ⟨b, o, rfl, h4, _⟩ := h3 0 y rfl
    refine .inr ⟨b, o, cap, rfl, by simp, h4, h1, h2, fun i x hx => ?_⟩
    obtain ⟨b', o', e, _, h6⟩ := h3 i x hx
    injection e with e
    injection e with e1 e2
    subst e1 e2
    exact h6
theorem Ints.of_cells {w : World} {b o cap : Nat} {l : List Int} (h1 : l.length ≤ cap) (h2 : cap ≤ maxLen) (hb : b < w.heap.size) (h : ∀ (i : Nat) x, l[i]? = some x → w.cell? ⟨b, o + i, none⟩ = some (.int .i64 x)) :
    Ints w (.slice (some ⟨b, o, none⟩) l.length cap) l := ⟨_, cap, rfl, h1, h2, fun e => by simp at e, fun i x hx => ⟨b, o, rfl, hb, h i x hx⟩⟩
theorem Ints.below {C : Nat} {w w' : World} {v : Value} {l : List Int} (h : Ints w v l) (hb : Below C w w') (hC : w.heap.size ≤ C) : Ints w' v l := by
  obtain ⟨a, cap, rfl, h1, h2, hn, h3⟩ := h
  refine ⟨a, cap, rfl, h1, h2, hn, fun i x hx => ?_⟩
  obtain ⟨b, o, e, h4, h5⟩ := h3 i x hx
  exact ⟨b, o, e, Nat.lt_of_lt_of_le h4 hb.size, by rw [hb.cell (p := ⟨b, o + i, none⟩) (by show b < C; omega)]; exact h5⟩
theorem Ints.getD {w : World} {b o : Nat} {l : List Int} (h : ∀ (i : Nat) x, l[i]? = some x → w.cell? ⟨b, o + i, none⟩ = some (.int .i64 x)) : ∀ i, i < l.length → w.cell? ⟨b, o + i, none⟩ = some (.int .i64 (l.getD i 0)) := by
  intro i hi
  rw [h i l[i] (List.getElem?_eq_getElem hi)]
  simp [List.getD, hi]
theorem OwnInts.mono {B B' : Nat} {w : World} {v : Value} {l : List Int} (h : OwnInts B w v l) (hB : B' ≤ B) : OwnInts B' w v l := by
  refine ⟨h.1, ?_⟩
  rcases h.2 with hn | ⟨g, cap, cur, rfl, hg, rest⟩
  · exact .inl hn
  · exact .inr ⟨g, cap, cur, rfl, by omega, rest⟩
theorem OwnInts.lit (w : World) (l : List Int) (hl : l.length ≤ 1000000) : OwnInts w.heap.size (w.alloc (.cells (l.map (Value.int .i64)).toArray 3)) (.slice (some ⟨w.heap.size, 0, none⟩) l.length l.length) l := by
  have := World.ownsRow_lit (base := w.heap.size) (size := 1) (e := 3) w (l.map (Value.int .i64)).toArray l.length (Nat.le_refl _) (by unfold maxLen; omega) (by simp)
  simpa [OwnInts] using this
theorem OwnInts.ints {B : Nat} {w : World} {v : Value} {l : List Int} (h : OwnInts B w v l) : Ints w v l := by
  rcases h.shape with ⟨rfl, rfl⟩ | ⟨g, cap, rfl, _, h2, h3, h4, h5⟩
  · exact Ints.nil w
  · exact Ints.of_cells h3 h4 h2 fun i x hx => by rw [Nat.zero_add]; exact h5 i x hx
/-- 's = append(s, t...)', s a row of the call's own, t a slice that is read. -/
theorem wpList_append_ints {ops : Array Oper} {rest : List Oper} {o : Oper} {a : Act} {Q : Exit → Act → World → Prop} (hgd : o.guard = none) (s x : Operand)
    (ho : o.op = .call { callee := .builtin .append, args := #[s, x], argTypes := #[43, 43] })
    {B : Nat} {w0 w : World} {v u : Value} {l m : List Int} (hs : a.eval s = v) (hown : OwnInts B w v l) (hx : a.eval x = u) (hu : Ints w u m)
    (hlen : l.length + m.length ≤ 1000000000000) (hB : B ≤ w.heap.size) (hb : Below B w0 w)
    (h : ∀ v' w', OwnInts B w' v' (l ++ m) → Below B w0 w' → wpList Tryz.prog ops Q rest (a.put o.dst v') w') :
    wpList Tryz.prog ops Q (o :: rest) a w := by
  obtain ⟨i0, hi, hz0, hz1, hz2⟩ := info_parts infoInt
  have hrow : w.ownsRow B 3 1 v l.length (l.map (Value.int .i64)) := hown
  obtain ⟨ao, cap, rfl, h1, h2, h3, h4⟩ := hu
  cases ao with
  | none =>
    obtain rfl := h3 rfl
    have hm : m = [] := List.eq_nil_of_length_eq_zero (by omega)
    subst hm
    refine wpList_append_own_none hgd s x 43 ho B 3 i0 1 Tryz.underlying43 hi v l.length (l.map (Value.int .i64)) hs hrow hx ?_
    exact h v w (by simpa using hown) hb
  | some ad =>
    refine wpList_append_own _ hgd s x 43 ho B 3 i0 (.int .i64 0) 1 8 Tryz.underlying43 hi hz0 hz1 hz2 rfl (by decide) v l.length (l.map (Value.int .i64)) hs hrow ad m.length cap (m.map (Value.int .i64)) hx (by simp) ?_ ?_ ?_ ?_ ?_ ?_
    · intro j u hj
      rw [List.getElem?_map] at hj
      obtain ⟨y, hy, rfl⟩ := Option.map_eq_some_iff.1 hj
      obtain ⟨b, o, e, _, h6⟩ := h4 j y hy
      obtain rfl := Option.some.inj e
      have hadd : (⟨b, o, none⟩ : Addr).add j = ⟨b, o + j, none⟩ := by unfold Addr.add; split <;> simp_all
      rw [hadd]
      exact h6
    · intro u hu
      obtain ⟨y, _, rfl⟩ := List.mem_map.1 hu
      rfl
    · unfold maxLen; omega
    · omega
    · exact hB
    · intro v' w1 hown' hgrow _
      refine h v' w1 ?_ (hb.grown hgrow hB fun k hk => (World.ownsRow.lt hrow k hk).1)
      unfold OwnInts
      simpa using hown'
end Go.Proofs.YtkohfomiigcifaaGreatDoor
namespace Go.Proofs.YtkohfomiigcifaaGreatDoor
open Go.RowKit
open Wd (Bs)

def ipNamesT : Array Value := #[str [], str [100, 97, 109, 97, 103, 101], str [104, 117, 114, 116], str [100, 105, 101, 115], str [101, 110, 116, 101, 114, 115], str [100, 114, 97, 119], str [103, 97, 105, 110], str [108, 111, 115, 101], str [99, 114, 101, 97, 116, 101], str [112, 117, 116]]
theorem ipNamesT_at {k : Nat} (hk : k < 10) : ipNamesT[k]? = some (.string ⟨(Ip.headL k).toArray⟩) := by
  have h : ipNamesT = (Ip.headsL.map str).toArray := rfl
  have hl : k < Ip.headsL.length := hk
  rw [h, List.getElem?_toArray, List.getElem?_map, List.getElem?_eq_getElem hl]
  unfold Ip.headL
  rw [List.getD, List.getElem?_eq_getElem hl]
  rfl
theorem ipNamesT_strs {w : World} {b : Nat} (h : Blk w b ipNamesT 9) : Strs w (.slice (some ⟨b, 0, none⟩) 10 10) Ip.headsL := by
  refine Strs.of_cells (l := Ip.headsL) (by decide) (by decide) h.lt ?_
  intro i x hx
  rw [h.cell, Nat.zero_add]
  have he : ipNamesT = (Ip.headsL.map str).toArray := rfl
  rw [he, List.getElem?_toArray, List.getElem?_map, hx]
  rfl
set_option maxRecDepth 100000 in
theorem ipNames (w : World) : Calls Tryz.prog 30 #[] w fun e w' => (∃ b, e = .returned (.slice (some ⟨b, 0, none⟩) 10 10) ∧ Blk w' b ipNamesT 9 ∧ w.heap.size ≤ b) ∧ Below w.heap.size w w' := by
  go_enter Tryz.func30, Tryz.ntmps30
  go_wp2_with fail
  go_ret
  exact ⟨⟨_, rfl, Blk.new _ _ _, Nat.le_refl _⟩, (Below.refl _ _).alloc (Nat.le_refl _) _⟩
def ipActsT : Array Value := #[str [], str [112, 114, 101, 118, 101, 110, 116], str [114, 101, 100, 117, 99, 101], str [100, 111, 117, 98, 108, 101], str [97, 100, 100], str [], str [116, 97, 112, 112, 101, 100], str [119, 105, 116, 104], str [115, 107, 105, 112]]
theorem ipActsT_at {k : Nat} (hk : k < 9) : ipActsT[k]? = some (.string ⟨(Ip.actN k).toArray⟩) := by
  have h : ipActsT = (Ip.actsL.map str).toArray := rfl
  have hl : k < Ip.actsL.length := hk
  rw [h, List.getElem?_toArray, List.getElem?_map, List.getElem?_eq_getElem hl]
  unfold Ip.actN
  rw [List.getD, List.getElem?_eq_getElem hl]
  rfl
theorem ipActsT_strs {w : World} {b : Nat} (h : Blk w b ipActsT 9) : Strs w (.slice (some ⟨b, 0, none⟩) 9 9) Ip.actsL := by
  refine Strs.of_cells (l := Ip.actsL) (by decide) (by decide) h.lt ?_
  intro i x hx
  rw [h.cell, Nat.zero_add]
  have he : ipActsT = (Ip.actsL.map str).toArray := rfl
  rw [he, List.getElem?_toArray, List.getElem?_map, hx]
  rfl
set_option maxRecDepth 100000 in
theorem ipActions (w : World) : Calls Tryz.prog 53 #[] w fun e w' => (∃ b, e = .returned (.slice (some ⟨b, 0, none⟩) 9 9) ∧ Blk w' b ipActsT 9 ∧ w.heap.size ≤ b) ∧ Below w.heap.size w w' := by
  go_enter Tryz.func53, Tryz.ntmps53
  go_wp2_with fail
  go_ret
  exact ⟨⟨_, rfl, Blk.new _ _ _, Nat.le_refl _⟩, (Below.refl _ _).alloc (Nat.le_refl _) _⟩
def ipZonesT : Array Value := #[str [98, 97, 116, 116, 108, 101, 102, 105, 101, 108, 100], str [104, 97, 110, 100], str [108, 105, 98, 114, 97, 114, 121], str [103, 114, 97, 118, 101, 121, 97, 114, 100], str [101, 120, 105, 108, 101], str [115, 116, 97, 99, 107]]
theorem ipZonesT_at {k : Nat} (hk : k < 6) : ipZonesT[k]? = some (.string ⟨(Ip.zoneN k).toArray⟩) := by
  have h : ipZonesT = (Ip.zonesL.map str).toArray := rfl
  have hl : k < Ip.zonesL.length := hk
  rw [h, List.getElem?_toArray, List.getElem?_map, List.getElem?_eq_getElem hl]
  unfold Ip.zoneN
  rw [List.getD, List.getElem?_eq_getElem hl]
  rfl
theorem ipZonesT_strs {w : World} {b : Nat} (h : Blk w b ipZonesT 9) : Strs w (.slice (some ⟨b, 0, none⟩) 6 6) Ip.zonesL := by
  refine Strs.of_cells (l := Ip.zonesL) (by decide) (by decide) h.lt ?_
  intro i x hx
  rw [h.cell, Nat.zero_add]
  have he : ipZonesT = (Ip.zonesL.map str).toArray := rfl
  rw [he, List.getElem?_toArray, List.getElem?_map, hx]
  rfl
set_option maxRecDepth 100000 in
theorem efZones (w : World) : Calls Tryz.prog 93 #[] w fun e w' => (∃ b, e = .returned (.slice (some ⟨b, 0, none⟩) 6 6) ∧ Blk w' b ipZonesT 9 ∧ w.heap.size ≤ b) ∧ Below w.heap.size w w' := by
  go_enter Tryz.func93, Tryz.ntmps93
  go_wp2_with fail
  go_ret
  exact ⟨⟨_, rfl, Blk.new _ _ _, Nat.le_refl _⟩, (Below.refl _ _).alloc (Nat.le_refl _) _⟩

def ipEvT : Array Value := #[.int .i64 0, .int .i64 1, .int .i64 1, .int .i64 2, .int .i64 2, .int .i64 3, .int .i64 4, .int .i64 5, .int .i64 10, .int .i64 8]
theorem ipEvT_at {k : Nat} (hk : k < 10) : ipEvT[k]? = some (.int .i64 (Ip.evOf k)) := by
  match k, hk with
  | 0, _ | 1, _ | 2, _ | 3, _ | 4, _ | 5, _ | 6, _ | 7, _ | 8, _ | 9, _ => rfl
set_option maxRecDepth 100000 in
theorem ipEvents (w : World) : Calls Tryz.prog 42 #[] w fun e w' => (∃ b, e = .returned (.slice (some ⟨b, 0, none⟩) 10 10) ∧ Blk w' b ipEvT 3 ∧ w.heap.size ≤ b) ∧ Below w.heap.size w w' := by
  go_enter Tryz.func42, Tryz.ntmps42
  go_wp2_with fail
  go_ret
  exact ⟨⟨_, rfl, Blk.new _ _ _, Nat.le_refl _⟩, (Below.refl _ _).alloc (Nat.le_refl _) _⟩
theorem ipEv_ints {w : World} {b : Nat} (h : Blk w b ipEvT 3) : Ints w (.slice (some ⟨b, 0, none⟩) 10 10) Ip.evL := by
  refine Ints.of_cells (l := Ip.evL) (by decide) (by decide) h.lt ?_
  intro i x hx
  rw [h.cell, Nat.zero_add]
  have he : ipEvT = (Ip.evL.map (Value.int .i64)).toArray := rfl
  rw [he, List.getElem?_toArray, List.getElem?_map, hx]
  rfl
set_option maxRecDepth 100000 in
theorem ipZones (w : World) : Calls Tryz.prog 24 #[] w fun e w' => (∃ v, e = .returned v ∧ Ints w' v [1, 2, 4]) ∧ Below w.heap.size w w' := by
  go_enter Tryz.func24, Tryz.ntmps24
  go_wp2_with fail
  go_ret
  exact ⟨⟨_, rfl, (OwnInts.lit w [1, 2, 4] (by decide)).ints⟩, (Below.refl _ _).alloc (Nat.le_refl _) _⟩
/-! slices.Index, slices.Contains at a row of integers -/
theorem idx_ev (on : Int) : Lib.idxOf Ip.evL on = Ip.evI on := by
  by_cases h0 : on = 0
  · subst h0; decide
  by_cases h1 : on = 1
  · subst h1; decide
  by_cases h2 : on = 2
  · subst h2; decide
  by_cases h3 : on = 3
  · subst h3; decide
  by_cases h4 : on = 4
  · subst h4; decide
  by_cases h5 : on = 5
  · subst h5; decide
  by_cases h10 : on = 10
  · subst h10; decide
  by_cases h8 : on = 8
  · subst h8; decide
  have hm := Lib.idxOf_miss Ip.evL 10 on (fun j hj => by
    have key : ∀ j, j < 10 → Ip.evL.getD j 0 = 0 ∨ Ip.evL.getD j 0 = 1 ∨ Ip.evL.getD j 0 = 2 ∨ Ip.evL.getD j 0 = 3 ∨ Ip.evL.getD j 0 = 4 ∨ Ip.evL.getD j 0 = 5 ∨ Ip.evL.getD j 0 = 10 ∨ Ip.evL.getD j 0 = 8 := by decide
    have := key j hj
    omega)
  have e : Ip.evL.take 10 = Ip.evL := rfl
  rw [e] at hm
  rw [hm]
  unfold Ip.evI
  rw [if_neg h0, if_neg h1, if_neg h2, if_neg h3, if_neg h4, if_neg h5, if_neg h10, if_neg h8]
theorem intsContains (v : Value) (l : List Int) (x : Int) (r : Bool) (hr : decide (x ∈ l) = r) (w : World) (hv : Ints w v l) : Calls Tryz.prog 19 #[v, .int .i64 x] w fun e w' => e = .returned (.bool r) ∧ Below w.heap.size w w' := by
  rcases hv.shape with ⟨a, cap, rfl, rfl, _⟩ | ⟨b, o, cap, rfl, h0, hb, h1, h2, h3⟩
  · refine (Tryz.slices_Contains_int_empty a cap x w).mono ?_
    rintro e w1 ⟨rfl, rfl⟩
    exact ⟨by rw [← hr]; simp, Below.refl _ _⟩
  · refine (Tryz.slices_Contains_int b o l.length cap l x w (Nat.le_refl _) (by unfold maxLen at h2; omega) (Ints.getD h3)).mono ?_
    rintro e w1 ⟨rfl, rfl⟩
    refine ⟨?_, Below.refl _ _⟩
    rw [← hr, List.take_length, List.contains_eq_mem]
theorem evsIndex (b : Nat) (on : Int) (w : World) (h : Blk w b ipEvT 3) : Calls Tryz.prog 41 #[.slice (some ⟨b, 0, none⟩) 10 10, .int .i64 on] w fun e w' => e = .returned (.int .i64 (Ip.evI on)) ∧ Below w.heap.size w w' := by
  obtain ⟨h3⟩ | ⟨b', o, cap, e, h0, hb, h1, h2, h3⟩ := (ipEv_ints h).shape
  · obtain ⟨_, _, h5, _⟩ := h3
    cases h5
  · injection e with e1 e2 e3
    injection e1 with e1
    injection e1 with e4 e5
    subst e4 e5
    refine (Tryz.slices_Index_int b 0 10 10 Ip.evL on w (by decide) (by decide) (Ints.getD h3)).mono ?_
    rintro e w1 ⟨rfl, rfl⟩
    refine ⟨?_, Below.refl _ _⟩
    rw [show Ip.evL.take 10 = Ip.evL from rfl, idx_ev]
theorem below_alloc_size (w : World) (o : Obj) : w.heap.size ≤ (w.alloc o).heap.size := ((Below.refl w.heap.size w).alloc (Nat.le_refl _) o).size
/-! the actions of a form -/
set_option maxHeartbeats 8000000 in
set_option maxRecDepth 100000 in
theorem ipActs (F : Int) (w : World) : Calls Tryz.prog 20 #[.int .i64 F] w fun e w' => (∃ v, e = .returned v ∧ Ints w' v (Ip.actL F)) ∧ Below w.heap.size w w' := by
  by_cases h1 : F = 1
  · subst h1
    go_enter Tryz.func20, Tryz.ntmps20
    go_wp2_with fail
    go_ret
    exact ⟨⟨_, rfl, (OwnInts.lit w [1, 2, 3, 4] (by decide)).ints⟩, (Below.refl _ _).alloc (Nat.le_refl _) _⟩
  by_cases h2 : F = 2
  · subst h2
    go_enter Tryz.func20, Tryz.ntmps20
    go_wp2_with fail
    go_ret
    exact ⟨⟨_, rfl, (OwnInts.lit w [1, 2, 3, 4] (by decide)).ints⟩, (Below.refl _ _).alloc (Nat.le_refl _) _⟩
  by_cases h3 : F = 3
  · subst h3
    go_enter Tryz.func20, Tryz.ntmps20
    go_wp2_with fail
    go_ret
    exact ⟨⟨_, rfl, (OwnInts.lit w [5] (by decide)).ints⟩, (Below.refl _ _).alloc (Nat.le_refl _) _⟩
  by_cases h4 : F = 4
  · subst h4
    go_enter Tryz.func20, Tryz.ntmps20
    go_wp2_with fail
    go_ret
    exact ⟨⟨_, rfl, (OwnInts.lit w [6, 7] (by decide)).ints⟩, (Below.refl _ _).alloc (Nat.le_refl _) _⟩
  by_cases h5 : F = 5
  · subst h5
    go_enter Tryz.func20, Tryz.ntmps20
    go_wp2_with (refine wpList_append_ints rfl (.tmp 25) (.tmp 26) rfl rfl (OwnInts.nil w.heap.size _) rfl (OwnInts.lit w [4, 8] (by decide)).ints (by decide) (below_alloc_size w _) ((Below.refl _ _).alloc (Nat.le_refl _) _) ?_)
    intro v1 w1 ho1 hb1
    go_wp2_with fail
    go_ret
    exact ⟨⟨_, rfl, ho1.ints⟩, hb1⟩
  by_cases h6 : F = 6 ∨ F = 7 ∨ F = 8 ∨ F = 9
  · have e : Ip.actL F = [3, 4, 8] := by rcases h6 with rfl | rfl | rfl | rfl <;> rfl
    rw [e]
    rcases h6 with rfl | rfl | rfl | rfl
    all_goals (
      clear e h1 h2 h3 h4 h5
      go_enter Tryz.func20, Tryz.ntmps20
      go_wp2_with (refine wpList_append_ints rfl (.tmp 22) (.tmp 23) rfl rfl (OwnInts.nil w.heap.size _) rfl (OwnInts.lit w [3] (by decide)).ints (by decide) (below_alloc_size w _) ((Below.refl _ _).alloc (Nat.le_refl _) _) ?_)
      intro v1 w1 ho1 hb1
      go_wp2_with (refine wpList_append_ints rfl (.tmp 25) (.tmp 26) rfl rfl (ho1.below ((Below.refl _ _).alloc (Nat.le_refl _) _) (Nat.le_refl _)) rfl (OwnInts.lit w1 [4, 8] (by decide)).ints (by decide) (Nat.le_trans hb1.size (below_alloc_size w1 _)) (hb1.alloc hb1.size _) ?_)
      intro v2 w2 ho2 hb2
      go_wp2_with fail
      go_ret
      exact ⟨⟨_, rfl, ho2.ints⟩, hb2⟩)
  · have e : Ip.actL F = [] := by
      unfold Ip.actL
      rw [if_neg (by omega), if_neg h3, if_neg h4, if_neg h5, if_neg (by omega)]
    rw [e]
    have n1 : (F == 1) = false := by simpa using h1
    have n2 : (F == 2) = false := by simpa using h2
    have n3 : (F == 3) = false := by simpa using h3
    have n4 : (F == 4) = false := by simpa using h4
    have n5 : (F == 5) = false := by simpa using h5
    have n6 : (F == 6) = false := by simp; omega
    have n7 : (F == 7) = false := by simp; omega
    have n8 : (F == 8) = false := by simp; omega
    have n9 : (F == 9) = false := by simp; omega
    clear h1 h2 h3 h4 h5 h6 e
    go_enter Tryz.func20, Tryz.ntmps20
    go_wp2_with fail
    go_ret
    exact ⟨⟨_, rfl, Ints.nil _⟩, Below.refl _ _⟩
/-! a field -/
def fitB (a b c : Bool) : Bool := if a then b else c
theorem ipFits (a b c r : Bool) (hr : fitB a b c = r) (w : World) : Calls Tryz.prog 21 #[.bool a, .bool b, .bool c] w fun e w' => e = .returned (.bool r) ∧ Below w.heap.size w w' := by
  subst hr
  cases a
  all_goals (
    go_enter Tryz.func21, Tryz.ntmps21
    go_wp2_with fail
    go_ret
    exact ⟨rfl, Below.refl _ _⟩)
set_option maxHeartbeats 8000000 in
set_option maxRecDepth 100000 in
theorem ipOf (k : Int) (w : World) : Calls Tryz.prog 18 #[.int .i64 k] w fun e w' => e = .returned (.bool (Ip.plW k)) ∧ Below w.heap.size w w' := by
  by_cases h : k = 2 ∨ k = 5 ∨ k = 6 ∨ k = 7 ∨ k = 8
  · rcases h with rfl | rfl | rfl | rfl | rfl
    all_goals (
      go_enter Tryz.func18, Tryz.ntmps18
      go_wp2_with fail
      go_ret
      exact ⟨rfl, Below.refl _ _⟩)
  · obtain ⟨R, hR⟩ : ∃ R : Value, (.bool (Ip.plW k)) = R := ⟨_, rfl⟩
    have HR : Hid (((.bool false) : Value) = R) := Lib.hid (by rw [← hR]; unfold Ip.plW; rw [decide_eq_false (show ¬ (k = 2 ∨ 5 ≤ k ∧ k ≤ 8) by omega)])
    rw [hR]
    clear hR
    have n2 : (k == 2) = false := by simp; omega
    have n5 : (k == 5) = false := by simp; omega
    have n6 : (k == 6) = false := by simp; omega
    have n7 : (k == 7) = false := by simp; omega
    have n8 : (k == 8) = false := by simp; omega
    clear h
    go_enter Tryz.func18, Tryz.ntmps18
    go_wp2_with fail
    go_ret
    exact ⟨by rw [← HR.out]; rfl, Below.refl _ _⟩
set_option maxHeartbeats 8000000 in
set_option maxRecDepth 100000 in
theorem ipUses (d : Int) (w : World) : Calls Tryz.prog 17 #[.int .i64 d] w fun e w' => e = .returned (.tuple #[.bool (Ip.uN d), .bool (Ip.uZ d), .bool (Ip.uC d)]) ∧ Below w.heap.size w w' := by
  by_cases h : d = 7 ∨ d = 2 ∨ d = 4 ∨ d = 5
  · rcases h with rfl | rfl | rfl | rfl
    all_goals (
      go_enter Tryz.func17, Tryz.ntmps17
      go_wp2_with fail
      go_ret3
      exact ⟨rfl, Below.refl _ _⟩)
  · obtain ⟨R, hR⟩ : ∃ R : Value, (.tuple #[.bool (Ip.uN d), .bool (Ip.uZ d), .bool (Ip.uC d)]) = R := ⟨_, rfl⟩
    have HR : Hid (((.tuple #[.bool false, .bool false, .bool false]) : Value) = R) := Lib.hid (by rw [← hR]; unfold Ip.uN Ip.uZ Ip.uC; rw [decide_eq_false (show ¬ (d = 7 ∨ d = 2 ∨ d = 4) by omega), decide_eq_false (show ¬ d = 5 by omega), decide_eq_false (show ¬ d = 7 by omega)])
    rw [hR]
    clear hR
    have n7 : (d == 7) = false := by simp; omega
    have n2 : (d == 2) = false := by simp; omega
    have n4 : (d == 4) = false := by simp; omega
    have n5 : (d == 5) = false := by simp; omega
    clear h
    go_enter Tryz.func17, Tryz.ntmps17
    go_wp2_with fail
    go_ret3
    exact ⟨by rw [← HR.out]; rfl, Below.refl _ _⟩

/-! a zone's name -/
set_option maxHeartbeats 8000000 in
set_option maxRecDepth 100000 in
theorem ipZone (n : Int) (w : World) : Calls Tryz.prog 52 #[.int .i64 n] w fun e w' => e = .returned (str (Ip.zoneT n)) ∧ Below w.heap.size w w' := by
  by_cases h : 0 ≤ n ∧ n ≤ 5
  · obtain ⟨j, rfl⟩ : ∃ j : Nat, n = (j : Int) := ⟨n.toNat, by omega⟩
    have hj : j < 6 := by omega
    have e : Ip.zoneT (j : Int) = Ip.zoneN j := by
      unfold Ip.zoneT
      rw [if_pos h]
      rfl
    rw [e]
    have h1 : decide ((j : Int) < 0) = false := decide_eq_false (by omega)
    have h2 : decide ((6 : Int) ≤ (j : Int)) = false := decide_eq_false (by omega)
    have h3 : ¬ (j : Int) < 0 := by omega
    have h4 : (j : Int) < 6 := by omega
    have h0 : (0 : Int) ≤ (j : Int) := by omega
    clear h
    go_enter Tryz.func52, Tryz.ntmps52
    go_wp2_with fail
    refine (efZones _).mono ?_
    rintro e w1 ⟨⟨b, rfl, hb1, -⟩, hb⟩
    go_wp2_with fail
    refine (efZones _).mono ?_
    rintro e w2 ⟨⟨b2, rfl, hb2, -⟩, hb3⟩
    have hc := (hb2.cell j).trans (ipZonesT_at hj)
    go_wp2_with fail
    go_ret
    exact ⟨rfl, hb.trans (hb3.mono hb.size)⟩
  · have e : Ip.zoneT n = [] := by
      unfold Ip.zoneT
      rw [if_neg h]
    rw [e]
    by_cases hn : n < 0
    · have h1 : decide (n < 0) = true := decide_eq_true (by omega)
      clear h
      go_enter Tryz.func52, Tryz.ntmps52
      go_wp2_with fail
      go_ret
      exact ⟨rfl, Below.refl _ _⟩
    · have h1 : decide (n < 0) = false := decide_eq_false (by omega)
      have h2 : decide (6 ≤ n) = true := decide_eq_true (by omega)
      have h3 : (6 : Int) ≤ n := by omega
      clear h
      go_enter Tryz.func52, Tryz.ntmps52
      go_wp2_with fail
      refine (efZones _).mono ?_
      rintro e w1 ⟨⟨b, rfl, hb1, -⟩, hb⟩
      go_wp2_with fail
      go_ret
      exact ⟨rfl, hb⟩

/-! the number with a name -/
theorem wn_at {s : Bs} {nm : Int → Bs} : ∀ {l : List Int} {k : Nat}, k < l.length → nm (l.getD k 0) = s → (∀ j, j < k → ¬ nm (l.getD j 0) = s) → Ip.wn s nm l = l.getD k 0
  | [], _, h, _, _ => by simp at h
  | a :: l, 0, _, h, _ => by
    have h' : nm a = s := h
    unfold Ip.wn
    rw [h']
    simp
  | a :: l, k + 1, hk, h, hn => by
    have h0 : ¬ nm a = s := hn 0 (by omega)
    unfold Ip.wn
    rw [if_neg (by simpa using h0)]
    exact wn_at (l := l) (k := k) (by simp at hk; omega) h fun j hj => hn (j + 1) (by omega)
theorem wn_no {s : Bs} {nm : Int → Bs} : ∀ {l : List Int}, (∀ j, j < l.length → ¬ nm (l.getD j 0) = s) → Ip.wn s nm l = 0
  | [], _ => rfl
  | a :: l, hn => by
    have h0 : ¬ nm a = s := hn 0 (by simp)
    unfold Ip.wn
    rw [if_neg (by simpa using h0)]
    exact wn_no (l := l) fun j hj => hn (j + 1) (by simp; omega)
set_option maxHeartbeats 8000000 in
set_option maxRecDepth 100000 in
theorem ipWithWho (s : ByteArray) (v : Value) (l : List Int) (hl : l.length = 3) (w : World) (hv : Ints w v l) : Calls Tryz.prog 72 #[.string s, v, .func (.func 22) #[] #[]] w fun e w' => e = .returned (.int .i64 (Ip.wn s.data.toList Tg.whoT l)) ∧ Below w.heap.size w w' := by
  obtain h | ⟨b, o, cap, rfl, h0, hb, h1, h2, h3⟩ := hv.shape
  · obtain ⟨_, _, _, h5, _⟩ := h
    rw [h5] at hl
    cases hl
  have D : Hid (∀ j, j < 3 → w.cell? ⟨b, o + j, none⟩ = some (.int .i64 (l.getD j 0))) := Lib.hid (by have := Ints.getD h3; rw [hl] at this; exact this)
  rw [hl]
  have HL := Lib.hid hl
  have HB := Lib.hid hb
  clear hv hl h0 h1 h2 h3 hb
  go_enter Tryz.func72, Tryz.ntmps72
  go_wp2_with fail
  go_loopw [8, 11] (fun nv kv wr => ∃ k : Nat, k ≤ 3 ∧ kv = .int .i64 (k : Int) ∧ Hid (∀ j, j < k → ¬ Tg.whoT (l.getD j 0) = s.data.toList) ∧ Below w.heap.size w wr) (fun nv kv _ => 3 - (intOf kv).toNat)
  case atStart => exact ⟨0, by omega, rfl, Lib.hid (fun j hj => absurd hj (by omega)), Below.refl _ _⟩
  case round =>
    obtain ⟨k, hk, rfl, HN, hbw⟩ := hrel
    by_cases hlt : k < 3
    · have hlt' : (k : Int) < 3 := by omega
      have hge : (0 : Int) ≤ (k : Int) := by omega
      have hc : wr.cell? ⟨b, o + k, none⟩ = some (.int .i64 (l.getD k 0)) := (hbw.cell (p := ⟨b, o + k, none⟩) HB.out).trans (D.out k hlt)
      obtain ⟨n, hn⟩ : ∃ n, n = l.getD k 0 := ⟨_, rfl⟩
      rw [← hn] at hc
      have HNN := Lib.hid hn
      obtain ⟨t, ht, et⟩ := exists_bytes (Tg.whoT n)
      have HT := Lib.hid ht
      have HET := Lib.hid et
      clear hn ht et
      go_wp2_with fail
      refine (tgWho n _).mono ?_
      rw [HET.out]
      rintro e w2 ⟨rfl, hb2⟩
      have hbw2 := hbw.trans (hb2.mono hbw.size)
      cases hq : (t.toList == s.toList) with
      | false =>
        have HN2 : Hid (¬ Tg.whoT (l.getD k 0) = s.data.toList) := Lib.hid (by rw [← HNN.out, ← HT.out]; intro e; exact (Lib.bytes_beq_false_iff _ _).1 hq (ByteArray.ext (Array.toList_inj.1 e)))
        go_wp2_with fail
        go_roundw
        case rel => exact ⟨k + 1, by omega, by go_num, Lib.hid (fun j hj => by
          by_cases e : j = k
          · rw [e]; exact HN2.out
          · exact HN.out j (by omega)), hbw2⟩
        case measure => simp [intOf]; omega
      | true =>
        have HW : Hid (n = Ip.wn s.data.toList Tg.whoT l) := Lib.hid (by rw [wn_at (k := k) (by rw [HL.out]; exact hlt) (by rw [← HNN.out, ← HT.out, (Lib.bytes_beq_iff _ _).1 hq]) HN.out, HNN.out])
        go_wp2_with fail
        go_ret
        exact ⟨by rw [HW.out]; rfl, hbw2⟩
    · obtain rfl : k = 3 := by omega
      have HW := Lib.hid (wn_no (s := s.data.toList) (nm := Tg.whoT) (l := l) (by rw [HL.out]; exact HN.out))
      go_wp2_with fail
      go_ret
      exact ⟨by rw [HW.out]; rfl, hbw⟩
set_option maxHeartbeats 8000000 in
set_option maxRecDepth 100000 in
theorem ipWithZone (s : ByteArray) (v : Value) (l : List Int) (hl : l.length = 3) (w : World) (hv : Ints w v l) : Calls Tryz.prog 72 #[.string s, v, .func (.func 52) #[] #[]] w fun e w' => e = .returned (.int .i64 (Ip.wn s.data.toList Ip.zoneT l)) ∧ Below w.heap.size w w' := by
  obtain h | ⟨b, o, cap, rfl, h0, hb, h1, h2, h3⟩ := hv.shape
  · obtain ⟨_, _, _, h5, _⟩ := h
    rw [h5] at hl
    cases hl
  have D : Hid (∀ j, j < 3 → w.cell? ⟨b, o + j, none⟩ = some (.int .i64 (l.getD j 0))) := Lib.hid (by have := Ints.getD h3; rw [hl] at this; exact this)
  rw [hl]
  have HL := Lib.hid hl
  have HB := Lib.hid hb
  clear hv hl h0 h1 h2 h3 hb
  go_enter Tryz.func72, Tryz.ntmps72
  go_wp2_with fail
  go_loopw [8, 11] (fun nv kv wr => ∃ k : Nat, k ≤ 3 ∧ kv = .int .i64 (k : Int) ∧ Hid (∀ j, j < k → ¬ Ip.zoneT (l.getD j 0) = s.data.toList) ∧ Below w.heap.size w wr) (fun nv kv _ => 3 - (intOf kv).toNat)
  case atStart => exact ⟨0, by omega, rfl, Lib.hid (fun j hj => absurd hj (by omega)), Below.refl _ _⟩
  case round =>
    obtain ⟨k, hk, rfl, HN, hbw⟩ := hrel
    by_cases hlt : k < 3
    · have hlt' : (k : Int) < 3 := by omega
      have hge : (0 : Int) ≤ (k : Int) := by omega
      have hc : wr.cell? ⟨b, o + k, none⟩ = some (.int .i64 (l.getD k 0)) := (hbw.cell (p := ⟨b, o + k, none⟩) HB.out).trans (D.out k hlt)
      obtain ⟨n, hn⟩ : ∃ n, n = l.getD k 0 := ⟨_, rfl⟩
      rw [← hn] at hc
      have HNN := Lib.hid hn
      obtain ⟨t, ht, et⟩ := exists_bytes (Ip.zoneT n)
      have HT := Lib.hid ht
      have HET := Lib.hid et
      clear hn ht et
      go_wp2_with fail
      refine (ipZone n _).mono ?_
      rw [HET.out]
      rintro e w2 ⟨rfl, hb2⟩
      have hbw2 := hbw.trans (hb2.mono hbw.size)
      cases hq : (t.toList == s.toList) with
      | false =>
        have HN2 : Hid (¬ Ip.zoneT (l.getD k 0) = s.data.toList) := Lib.hid (by rw [← HNN.out, ← HT.out]; intro e; exact (Lib.bytes_beq_false_iff _ _).1 hq (ByteArray.ext (Array.toList_inj.1 e)))
        go_wp2_with fail
        go_roundw
        case rel => exact ⟨k + 1, by omega, by go_num, Lib.hid (fun j hj => by
          by_cases e : j = k
          · rw [e]; exact HN2.out
          · exact HN.out j (by omega)), hbw2⟩
        case measure => simp [intOf]; omega
      | true =>
        have HW : Hid (n = Ip.wn s.data.toList Ip.zoneT l) := Lib.hid (by rw [wn_at (k := k) (by rw [HL.out]; exact hlt) (by rw [← HNN.out, ← HT.out, (Lib.bytes_beq_iff _ _).1 hq]) HN.out, HNN.out])
        go_wp2_with fail
        go_ret
        exact ⟨by rw [HW.out]; rfl, hbw2⟩
    · obtain rfl : k = 3 := by omega
      have HW := Lib.hid (wn_no (s := s.data.toList) (nm := Ip.zoneT) (l := l) (by rw [HL.out]; exact HN.out))
      go_wp2_with fail
      go_ret
      exact ⟨by rw [HW.out]; rfl, hbw⟩

end Go.Proofs.YtkohfomiigcifaaGreatDoor
namespace Go.Proofs.YtkohfomiigcifaaGreatDoor
open Go.RowKit
open Wd (Bs)

/-- a new block that a slice of literals lays -/
theorem wAs {P : Program} {ops : Array Oper} {rest : List Oper} {o : Oper} {a : Act} {Q : Exit → Act → World → Prop} {w0 w : World} {l : List Bk} (cs : Array Value) {T : TypeId} (n : Nat) (M : Mm w0 w l)
    (h : ∀ p w', Mm w0 w' (l ++ [(p, cs, T)]) → ∃ a', a.put o.dst (.slice (some ⟨p, 0, none⟩) n n) = a' ∧ wpList P ops Q rest a' w') (hw : Region.wanted o (yielded ops a.tmps) = true := by with_unfolding_all rfl) (hr : (execOp a.eval o).run P w = .ok (.value (.slice (some ⟨w.heap.size, 0, none⟩) n n)) (w.alloc (.cells cs T)) := by (go_simp; try with_unfolding_all rfl)) : wpList P ops Q (o :: rest) a w := by
  obtain ⟨a', rfl, hq⟩ := h _ _ (M.alloc cs T)
  exact wpList_runWV _ rfl hw hr hq
def ipWho3T : Array Value := #[.int .i64 0, .int .i64 1, .int .i64 2]
theorem who3_ints {w : World} {b : Nat} (h : Blk w b ipWho3T 3) : Ints w (.slice (some ⟨b, 0, none⟩) 3 3) [0, 1, 2] := by
  refine Ints.of_cells (l := [0, 1, 2]) (by decide) (by decide) h.lt ?_
  intro i x hx
  rw [h.cell, Nat.zero_add]
  have he : ipWho3T = (([0, 1, 2] : List Int).map (Value.int .i64)).toArray := rfl
  rw [he, List.getElem?_toArray, List.getElem?_map, hx]
  rfl
end Go.Proofs.YtkohfomiigcifaaGreatDoor
namespace Go.Proofs.YtkohfomiigcifaaGreatDoor
open Go.RowKit
open Wd (Bs)


theorem counterIsKind (k : Int) (w : World) :
    Calls Tryz.prog 49 #[.int .i64 k] w fun e w' => e = .returned (.bool (decide (0 ≤ k) && decide (k < 3))) ∧ w = w' := by
  rcases Int.lt_or_le k 0 with h0 | h0
  · go_enter Tryz.func49, Tryz.ntmps49
    go_wp2
    go_ret
    exact ⟨ret_bool (by simp; omega), rfl⟩
  · rcases Int.lt_or_le k 3 with h1 | h1
    · go_enter Tryz.func49, Tryz.ntmps49
      go_wp2
      go_ret
      exact ⟨ret_bool (by simp; omega), rfl⟩
    · go_enter Tryz.func49, Tryz.ntmps49
      go_wp2
      go_ret
      exact ⟨ret_bool (by simp; omega), rfl⟩
theorem gNamesK : Tryz.prog.globalNamed "cardgame/counter.names" = some 0 := by kernel_rfl
/-- the variable of the names holds the three names -/
structure EnvK (w : World) : Prop where
  names : w.var? Tryz.prog "cardgame/counter.names" = some #[.string ⟨#[112, 108, 117, 115]⟩, .string ⟨#[109, 105, 110, 117, 115]⟩, .string ⟨#[99, 104, 97, 114, 103, 101]⟩]
theorem EnvK.below {w w' : World} (h : EnvK w) (hb : Below w.heap.size w w') : EnvK w' := ⟨var_below hb h.names⟩
theorem EnvK.cell {w : World} (h : EnvK w) (k : Nat) (hk : k < 3) : w.cell? ⟨0, k, none⟩ = some (.string ⟨(Ctr.name k).toArray⟩) := by
  rw [World.var?_cell gNamesK h.names k]
  match k, hk with
  | 0, _ => rfl
  | 1, _ => rfl
  | 2, _ => rfl
set_option maxRecDepth 100000 in
theorem counterName (i : Int) (w : World) (hE : EnvK w) :
    Calls Tryz.prog 25 #[.int .i64 i] w fun e w' => e = .returned (str (Ctr.nameI i)) ∧ w = w' := by
  by_cases ho : i < 0 ∨ 3 ≤ i
  · have HN := Lib.hid (Ctr.nameI_out ho)
    have HB : Hid ((decide (0 ≤ i) && decide (i < 3)) = false) := Lib.hid (by simp; omega)
    clear ho
    go_enter Tryz.func25, Tryz.ntmps25
    go_wp2_with fail
    refine (counterIsKind _ _).mono ?_
    rw [HB.out]
    rintro e w1 ⟨rfl, rfl⟩
    go_wp2
    go_ret
    exact ⟨by rw [HN.out]; rfl, rfl⟩
  · obtain ⟨k, rfl⟩ : ∃ k : Nat, i = (k : Int) := ⟨i.toNat, by omega⟩
    have hk : k < 3 := by omega
    have hc := hE.cell k hk
    have HN := Lib.hid (Ctr.nameI_nat k)
    have HB : Hid ((decide (0 ≤ (k : Int)) && decide ((k : Int) < 3)) = true) := Lib.hid (by simp; omega)
    clear ho hE
    go_enter Tryz.func25, Tryz.ntmps25
    go_wp2_with fail
    refine (counterIsKind _ _).mono ?_
    rw [HB.out]
    rintro e w1 ⟨rfl, rfl⟩
    go_wp2
    go_ret
    exact ⟨by rw [HN.out]; rfl, rfl⟩
/-- no name below k is s -/
def NoName (s : List UInt8) (k : Nat) : Prop := ∀ j, j < k → ¬ Ctr.name j = s
theorem NoName.next {s : List UInt8} {k : Nat} (h : NoName s k) (hn : ¬ Ctr.name k = s) : NoName s (k + 1) := fun j hj => by
  by_cases e : j = k
  · rw [e]; exact hn
  · exact h j (by omega)
theorem kind_hit {s : List UInt8} {k : Nat} (hk : k < 3) (h : Ctr.name k = s) : Ctr.kindI s = (k : Int) ∧ Ctr.kindB s = true := by
  rw [← h]; exact Ctr.kind_name k hk
theorem kind_none {s : List UInt8} (h : NoName s 3) : Ctr.kindI s = 0 ∧ Ctr.kindB s = false := by
  have h0 := h 0 (by omega)
  have h1 := h 1 (by omega)
  have h2 := h 2 (by omega)
  unfold Ctr.kindI Ctr.kindB
  rw [if_neg h0, if_neg h1, if_neg h2]
  simp [h0, h1, h2]
theorem ret_kind {a c : Int} {b d : Bool} (h : a = c) (h' : b = d) : Ending.returned (.tuple #[.int .i64 a, .bool b]) = .returned (.tuple #[.int .i64 c, .bool d]) := by rw [h, h']
theorem bytes_sameK {s x : ByteArray} (h : s.data.toList = x.data.toList) : s = x := ByteArray.ext (Array.toList_inj.1 h)
theorem indexStr_0 (w : World) : (Instr.index 62 (.agg #[.string ⟨#[112, 108, 117, 115]⟩, .string ⟨#[109, 105, 110, 117, 115]⟩, .string ⟨#[99, 104, 97, 114, 103, 101]⟩]) (.int .i64 0)).run Tryz.prog w = .ok (str (Ctr.name 0)) w := by kernel_rfl
theorem indexStr_1 (w : World) : (Instr.index 62 (.agg #[.string ⟨#[112, 108, 117, 115]⟩, .string ⟨#[109, 105, 110, 117, 115]⟩, .string ⟨#[99, 104, 97, 114, 103, 101]⟩]) (.int .i64 1)).run Tryz.prog w = .ok (str (Ctr.name 1)) w := by kernel_rfl
theorem indexStr_2 (w : World) : (Instr.index 62 (.agg #[.string ⟨#[112, 108, 117, 115]⟩, .string ⟨#[109, 105, 110, 117, 115]⟩, .string ⟨#[99, 104, 97, 114, 103, 101]⟩]) (.int .i64 2)).run Tryz.prog w = .ok (str (Ctr.name 2)) w := by kernel_rfl
theorem indexStr (k : Nat) (hk : k < 3) (w : World) : (Instr.index 62 (.agg #[.string ⟨#[112, 108, 117, 115]⟩, .string ⟨#[109, 105, 110, 117, 115]⟩, .string ⟨#[99, 104, 97, 114, 103, 101]⟩]) (.int .i64 (k : Int))).run Tryz.prog w = .ok (str (Ctr.name k)) w := by
  match k, hk with
  | 0, _ => exact indexStr_0 w
  | 1, _ => exact indexStr_1 w
  | 2, _ => exact indexStr_2 w
set_option maxRecDepth 100000 in
theorem counterKind (s : ByteArray) (w : World) (hE : EnvK w) :
    Calls Tryz.prog 103 #[.string s] w fun e w' => e = .returned (.tuple #[.int .i64 (Ctr.kindI s.data.toList), .bool (Ctr.kindB s.data.toList)]) ∧ w = w' := by
  have e0 := hE.cell 0 (by decide)
  have e1 := hE.cell 1 (by decide)
  have e2 := hE.cell 2 (by decide)
  simp only [Ctr.name] at e0 e1 e2
  go_enter Tryz.func103, Tryz.ntmps103
  go_wp2
  go_loop [7] (fun i => ∃ k : Nat, k ≤ 3 ∧ i = .int .i64 (k : Int) ∧ NoName s.data.toList k) (fun i => 3 - (intOf i).toNat)
  case atStart => exact ⟨0, by omega, rfl, fun j hj => absurd hj (by omega)⟩
  case round =>
    obtain ⟨k, hk, rfl, hno⟩ := hrel
    have HNO := Lib.hid hno
    clear hno
    by_cases hlt : k < 3
    · have hi := indexStr k hlt
      obtain ⟨sx, hsx, ex⟩ := exists_bytes (Ctr.name k)
      rw [ex] at hi
      cases ht : (sx.toList == s.toList) with
      | true =>
        have HP := Lib.hid (kind_hit (s := s.data.toList) hlt (by rw [← hsx, (Lib.bytes_beq_iff _ _).1 ht]))
        clear hsx ex
        go_wp2
        go_ret2
        exact ⟨ret_kind HP.out.1.symm HP.out.2.symm, rfl⟩
      | false =>
        have HN := Lib.hid (HNO.out.next (k := k) (by rw [← hsx]; intro e; exact (Lib.bytes_beq_false_iff _ _).1 ht (bytes_sameK e)))
        clear hsx ex
        go_wp2
        go_round
        case rel => exact ⟨k + 1, by omega, by go_num, HN.out⟩
        case measure => simp [intOf]; omega
    · obtain rfl : k = 3 := by omega
      have HP := Lib.hid (kind_none HNO.out)
      go_wp2
      go_ret2
      exact ⟨ret_kind HP.out.1.symm HP.out.2.symm, rfl⟩
end Go.Proofs.YtkohfomiigcifaaGreatDoor
