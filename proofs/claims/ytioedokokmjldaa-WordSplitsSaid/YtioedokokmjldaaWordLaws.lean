/-
  THE LAWS OF LAYER 2, WALKED: Is, Splits, Cuts, Lines. By an AI agent.
-/
import Derived.Test.YtioedokokmjldaaWordAlive
namespace Go.Proofs.Ytioedokokmjldaa
open Go.RowKit
open Wd (Bs)

/-- a law's end: the examples, behind a world that has kept all that was there -/
theorem aliveAt {w w1 : World} (hE : Env w) (hb : Below w.heap.size w w1) :
    Calls Try.prog 10 #[] w1 fun e w' => e = .returned (.bool true) ∧ Below w.heap.size w w' :=
  (lawAlive w1 (hE.below hb)).mono fun _ _ ⟨he, h⟩ => ⟨he, hb.trans (h.mono hb.size)⟩
set_option maxHeartbeats 400000 in
set_option maxRecDepth 100000 in
theorem lawWordIs (s : ByteArray) (hs : s.size ≤ maxLen) (w : World) (hE : Env w) :
    Calls Try.prog 3 #[.string s] w fun e w' => e = .returned (.bool true) ∧ Below w.heap.size w w' := by
  have HE := Lib.hid hE
  have HS := Lib.hid hs
  clear hE
  unfold maxLen at hs
  by_cases h : 2000 < s.size
  · go_enter Try.func3, Try.ntmps3
    go_wp2_with fail
    refine (aliveAt HE.out (Below.refl _ _)).mono ?_
    rintro e w1 ⟨rfl, hb⟩
    go_wp2_with fail
    go_ret
    exact ⟨rfl, hb⟩
  · have h' : (s.size : Int) ≤ 2000 := by omega
    go_enter Try.func3, Try.ntmps3
    go_wp2_with fail
    refine (wordIs s _ HE.out HS.out).mono ?_
    rintro e w1 ⟨rfl, rfl⟩
    go_wp2_with fail
    refine (refIs s _ HS.out).mono ?_
    rintro e w1 ⟨rfl, rfl⟩
    generalize Wd.isName s.data.toList = b
    cases b
    all_goals
      go_wp2_with fail
      refine (aliveAt HE.out (Below.refl _ _)).mono ?_
      rintro e w1 ⟨rfl, hb⟩
      go_wp2_with fail
      go_ret
      exact ⟨rfl, hb⟩
set_option maxHeartbeats 400000 in
set_option maxRecDepth 100000 in
theorem lawWordSplits (s : ByteArray) (c : UInt8) (hs : s.size ≤ maxLen) (w : World) (hE : Env w) :
    Calls Try.prog 4 #[.string s, .int .u8 c.toNat] w fun e w' => e = .returned (.bool true) ∧ Below w.heap.size w w' := by
  have HE := Lib.hid hE
  clear hE
  unfold maxLen at hs
  by_cases h : 500 < s.size
  · go_enter Try.func4, Try.ntmps4
    go_wp2_with fail
    refine (aliveAt HE.out (Below.refl _ _)).mono ?_
    rintro e w1 ⟨rfl, hb⟩
    go_wp2_with fail
    go_ret
    exact ⟨rfl, hb⟩
  · go_enter Try.func4, Try.ntmps4
    go_wp2_with fail
    refine (wordSplit s c _ (by omega)).mono ?_
    rintro e w1 ⟨v1, rfl, ho1, hb1⟩
    go_wp2_with fail
    refine (refSplit s c _ (by omega)).mono ?_
    rintro e w2 ⟨v2, rfl, ho2, hb2⟩
    have hb12 := hb1.trans (hb2.mono hb1.size)
    go_wp2_with fail
    refine (refSame v1 v2 _ _ _ (ho1.strs.below hb2 (Nat.le_refl _)) ho2.strs).mono ?_
    rw [decide_eq_true rfl]
    rintro e w3 ⟨rfl, hb3⟩
    have HB := Lib.hid (hb12.trans (hb3.mono hb12.size))
    clear hb1 hb2 hb3 hb12 ho1 ho2
    go_wp2_with fail
    refine (aliveAt HE.out HB.out).mono ?_
    rintro e w4 ⟨rfl, hb⟩
    go_wp2_with fail
    go_ret
    exact ⟨rfl, hb⟩
set_option maxHeartbeats 400000 in
set_option maxRecDepth 100000 in
theorem lawWordCuts (s c : ByteArray) (hs : s.size ≤ maxLen) (hc : c.size ≤ maxLen) (w : World) (hE : Env w) :
    Calls Try.prog 5 #[.string s, .string c] w fun e w' => e = .returned (.bool true) ∧ Below w.heap.size w w' := by
  have HE := Lib.hid hE
  clear hE
  unfold maxLen at hs hc
  by_cases h : 500 < s.size ∨ 500 < c.size
  · rcases h with h | h
    · go_enter Try.func5, Try.ntmps5
      go_wp2_with fail
      refine (aliveAt HE.out (Below.refl _ _)).mono ?_
      rintro e w1 ⟨rfl, hb⟩
      go_wp2_with fail
      go_ret
      exact ⟨rfl, hb⟩
    · by_cases h2 : 500 < s.size
      all_goals
        go_enter Try.func5, Try.ntmps5
        go_wp2_with fail
        refine (aliveAt HE.out (Below.refl _ _)).mono ?_
        rintro e w1 ⟨rfl, hb⟩
        go_wp2_with fail
        go_ret
        exact ⟨rfl, hb⟩
  · have h1 : (s.size : Int) ≤ 500 := by omega
    have h2 : (c.size : Int) ≤ 500 := by omega
    clear h
    go_enter Try.func5, Try.ntmps5
    go_wp2_with fail
    have hr1 := wordCut s c w (by omega) (by omega)
    have hr2 := fun W => refCut s c W (by omega) (by omega)
    unfold CutRes at hr1 hr2
    generalize Wd.cut s.data.toList c.data.toList = r at hr1 hr2
    obtain ⟨a, b, ok⟩ := r
    obtain ⟨sa, hsa, ea⟩ := exists_bytes a
    obtain ⟨sb, hsb, eb⟩ := exists_bytes b
    have ecv : cutV (a, b, ok) = .tuple #[.string sa, .string sb, .bool ok] := by rw [cutV, ea, eb]
    rw [ecv] at hr1
    simp only [ecv] at hr2
    have R1 := Lib.hid hr1
    have R2 := Lib.hid hr2
    have t1 : (sa.toList == sa.toList) = true := by simp
    have t2 : (sb.toList == sb.toList) = true := by simp
    clear hr1 hr2 hsa hsb ea eb ecv
    refine R1.out.mono ?_
    rintro e w1 ⟨rfl, hb1⟩
    have HB1 := Lib.hid hb1
    clear hb1
    go_wp2_with fail
    refine (R2.out _).mono ?_
    rintro e w2 ⟨rfl, hb2⟩
    have HB := Lib.hid (HB1.out.trans (hb2.mono HB1.out.size))
    clear hb2
    cases ok
    all_goals
      go_wp2_with fail
      refine (aliveAt HE.out HB.out).mono ?_
      rintro e w4 ⟨rfl, hb⟩
      go_wp2_with fail
      go_ret
      exact ⟨rfl, hb⟩
def gluedTo (l : List Bs) (k : Nat) : Bs := Wd.glued (l.take k)
theorem gluedTo_succ {l : List Bs} {k : Nat} {x : Bs} (h : l[k]? = some x) : gluedTo l (k + 1) = gluedTo l k ++ (x ++ [10]) := by
  obtain ⟨h1, rfl⟩ := List.getElem?_eq_some_iff.1 h
  unfold gluedTo Wd.glued
  rw [List.take_succ_eq_append_getElem h1, List.map_append, List.flatten_append]
  simp
theorem gluedTo_le (l : List Bs) (k : Nat) : (gluedTo l k).length ≤ (Wd.glued l).length := by
  unfold gluedTo Wd.glued
  conv => rhs; rw [← List.take_append_drop k l, List.map_append, List.flatten_append, List.length_append]
  omega
set_option maxHeartbeats 800000 in
set_option maxRecDepth 100000 in
theorem lawWordLines (s : ByteArray) (hs : s.size ≤ maxLen) (w : World) (hE : Env w) :
    Calls Try.prog 6 #[.string s] w fun e w' => e = .returned (.bool true) ∧ Below w.heap.size w w' := by
  have HE := Lib.hid hE
  clear hE
  unfold maxLen at hs
  by_cases h : 2000 < s.size
  · go_enter Try.func6, Try.ntmps6
    go_wp2_with fail
    refine (aliveAt HE.out (Below.refl _ _)).mono ?_
    rintro e w1 ⟨rfl, hb⟩
    go_wp2_with fail
    go_ret
    exact ⟨rfl, hb⟩
  · have h' : (s.size : Int) ≤ 2000 := by omega
    -- the lines glued are the text, if they are any
    have hgl : (Wd.lines s.data.toList).2 = true → Wd.glued (Wd.lines s.data.toList).1 = s.data.toList := fun hok => Wd.glued_lines (by
      cases hb : Wd.badEnd s.data.toList with
      | false => rfl
      | true => rw [Wd.lines_bad hb] at hok; cases hok)
    have hne : (Wd.lines s.data.toList).2 = false → (Wd.lines s.data.toList).1 = [] := fun hok => by
      cases hb : Wd.badEnd s.data.toList with
      | false => rw [Wd.lines_good hb] at hok; cases hok
      | true => rw [Wd.lines_bad hb]
    have hlen : s.data.toList.length = s.size := by simp
    go_enter Try.func6, Try.ntmps6
    have hr1 := fun W => wordLines s W (by omega)
    have hr2 := fun W => refLines s W (by omega)
    unfold LinesRes at hr1 hr2
    generalize Wd.lines s.data.toList = r at *
    obtain ⟨ls, ok⟩ := r
    have R1 := Lib.hid hr1
    have R2 := Lib.hid hr2
    have HGL := Lib.hid hgl
    have HNE := Lib.hid hne
    have HLEN := Lib.hid hlen
    clear hr1 hr2 hgl hne hlen
    go_wp2_with fail
    refine (R1.out _).mono ?_
    rintro e w1 ⟨v1, rfl, ho1, hb1⟩
    go_wp2_with fail
    refine (R2.out _).mono ?_
    rintro e w2 ⟨v2, rfl, ho2, hb2⟩
    have hb12 := hb1.trans (hb2.mono hb1.size)
    have hs1 := ho1.strs.below hb2 (Nat.le_refl _)
    go_wp2_with fail
    refine (refSame v1 v2 _ _ _ hs1 ho2.strs).mono ?_
    rw [decide_eq_true rfl]
    rintro e w3 ⟨rfl, hb3⟩
    have hs3 := hs1.below hb3 (Nat.le_refl _)
    have HB := Lib.hid (hb12.trans (hb3.mono hb12.size))
    clear hb1 hb2 hb3 hb12 ho1 ho2 hs1
    cases hokc : ok with
    | false =>
      have hl0 := HNE.out hokc
      change ls = [] at hl0
      subst hl0
      subst hokc
      rcases hs3.shape with ⟨a, cap, rfl, _⟩ | ⟨_, _, _, _, hbad, _⟩
      · clear hs3
        go_wp2_with fail
        refine wp_loop_rounds 1 ?_
        rw [rounds_succ]
        go_wp2_with fail
        refine (aliveAt HE.out HB.out).mono ?_
        rintro e w4 ⟨rfl, hb⟩
        go_wp2_with fail
        go_ret
        exact ⟨rfl, hb⟩
      · simp at hbad
    | true =>
      have hgl := HGL.out hokc
      change Wd.glued ls = s.data.toList at hgl
      subst hokc
      have hle : (Wd.glued ls).length ≤ 2000 := by rw [hgl, HLEN.out]; omega
      have HG := Lib.hid hgl
      obtain ⟨a, c, rfl, n1, m1, hcells⟩ := hs3
      unfold maxLen at m1
      have HC := Lib.hid hcells
      clear hcells hgl
      go_wp2_with fail
      go_loop [7, 35] (fun t i => ∃ (k : Nat) (r : ByteArray), k ≤ ls.length ∧ i = .int .i64 (k : Int) ∧ t = .string r ∧ r.data.toList = gluedTo ls k) (fun _ i => ls.length - (intOf i).toNat)
      case atStart => exact ⟨0, ⟨#[]⟩, by omega, rfl, rfl, rfl⟩
      case round =>
        obtain ⟨j, r, hjl, rfl, rfl, hr⟩ := hrel
        by_cases hlt : j < ls.length
        · obtain ⟨x, hx⟩ : ∃ x, ls[j]? = some x := ⟨ls[j], by simp [hlt]⟩
          obtain ⟨sx, hsx, ex⟩ := exists_bytes x
          obtain ⟨b, o, rfl, hb, hcell⟩ := HC.out j x hx
          rw [ex] at hcell
          have hgs := gluedTo_succ hx
          have hgle := gluedTo_le ls (j + 1)
          have hcat : (r ++ (sx ++ ⟨#[10]⟩)).data.toList = gluedTo ls (j + 1) := by rw [bytes_cat, bytes_cat, hr, hsx, hgs]
          have hsz : r.size + (sx.size + 1) ≤ 2000 := by
            have h5 := congrArg List.length hcat
            rw [bytes_cat, bytes_cat] at h5
            simp at h5
            omega
          have HCAT := Lib.hid hcat
          clear hx hsx ex hgs hcat hr
          go_wp2_with fail
          go_round
          case rel => exact ⟨j + 1, _, by omega, by go_num, rfl, HCAT.out⟩
          case measure => simp [intOf]; omega
        · obtain rfl : j = ls.length := by omega
          have hfin : r.data.toList = s.data.toList := by rw [hr, gluedTo, List.take_length, HG.out]
          have t1 : (r.toList == s.toList) = true := bytes_eq hfin
          clear hr hfin
          go_wp2_with fail
          refine (aliveAt HE.out HB.out).mono ?_
          rintro e w4 ⟨rfl, hb⟩
          go_wp2_with fail
          go_ret
          exact ⟨rfl, hb⟩
end Go.Proofs.Ytioedokokmjldaa
