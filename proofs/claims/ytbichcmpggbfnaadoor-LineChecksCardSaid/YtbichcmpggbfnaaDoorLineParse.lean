/-
  CONTRACTS OF LAYER 10 (line): Parse, ParseTypes; the reference's TypesText, ParseTypes. By an AI agent.
-/
import Derived.Test.YtbichcmpggbfnaaDoorLineCollect
import Derived.Test.YtbichcmpggbfnaaDoorLineRefText
namespace Go.Proofs.YtbichcmpggbfnaaDoor
open Go.RowKit
open Wd (Bs)

theorem cut_len1 (l c : Bs) : (Wd.cut l c).1.length ≤ l.length := by
  unfold Wd.cut
  split
  · simp
  · split
    · simp; omega
    · simp
theorem collectF_fine {c : Bs} {B : Nat} : ∀ (n : Nat) {k : Ln.Col} {s : Bs} {more : Bool}, (∀ x ∈ k.u, x.length ≤ B) → s.length ≤ B → ∀ x ∈ (Ln.collectF c n k s more).u, x.length ≤ B
  | 0, _, _, _, h, _ => h
  | n + 1, k, s, more, h, hs => by
    rw [Ln.collectF]
    split
    · refine collectF_fine n (fun x hx => ?_) (Nat.le_trans (cut_len _ _) hs)
      have h1 := cut_len1 s c
      unfold Ln.addW at hx
      split at hx
      · exact h x hx
      · split at hx
        · exact h x hx
        · simp only [List.mem_append, List.mem_singleton] at hx
          rcases hx with hx | rfl
          · exact h x hx
          · omega
    · exact h
theorem collect_fine {s c : Bs} (hs : s.length ≤ 140737488355328) : Fine (Ln.collectL s c).u := fun x hx =>
  Nat.le_trans (collectF_fine (B := 140737488355328) _ (fun y hy => by cases hy) hs x hx) (by unfold maxLen; omega)
/-- what Parse answers -/
def ParseRes (s : Bs) (w : World) (e : Ending) (w' : World) : Prop :=
  ∃ v, e = .returned (.tuple #[.agg #[.int .i64 (Ln.parseL s).super, .int .i64 (Ln.parseL s).types, v], .int .i64 (Ln.parseE s)]) ∧ Strs w' v (Ln.parseL s).subs ∧ Below w.heap.size w w'
theorem ParseRes.none {s : Bs} {w w' : World} (h : Ln.parseO s = none) (hb : Below w.heap.size w w') : ParseRes s w (.returned (.tuple #[.agg #[.int .i64 0, .int .i64 0, .slice none 0 0], .int .i64 3])) w' := by
  obtain ⟨h1, h2⟩ := Ln.parse_none h
  unfold ParseRes
  rw [h1, h2]
  exact ⟨_, rfl, Strs.nil _, hb⟩
theorem ParseRes.some {s : Bs} {w w' : World} {a t : Int} {v : Value} {u : List Bs} (h : Ln.parseO s = some ⟨a, t, u⟩) (hv : Strs w' v u) (hb : Below w.heap.size w w') :
    ParseRes s w (.returned (.tuple #[.agg #[.int .i64 a, .int .i64 t, v], .int .i64 0])) w' := by
  obtain ⟨h1, h2⟩ := Ln.parse_some h
  unfold ParseRes
  rw [h1, h2]
  exact ⟨_, rfl, hv, hb⟩
theorem Strs.set_old {C : Nat} {w0 w : World} {v : Value} {l : List Bs} (h : Strs w0 v l) (hb : Below C w0 w) (hC : w0.heap.size ≤ C) : Strs w v l := h.below hb hC
set_option maxHeartbeats 2000000 in
set_option maxRecDepth 100000 in
theorem lineParse (s : ByteArray) (w : World) (hE : Env w) (hs : s.size ≤ 140737488355328) :
    Calls Tryd.prog 19 #[.string s] w (ParseRes s.data.toList w) := by
  have hlen := bytes_len s
  have hfine := collect_fine (s := s.data.toList) (c := [32]) (by omega)
  have hok := Ln.collectL_ok s.data.toList [32]
  have HP := Lib.hid (Ln.parse_collect s.data.toList)
  have HE := Lib.hid hE
  obtain ⟨w0, hw0⟩ : ∃ w0, w0 = w.alloc (.cells #[.int .i64 0, .int .i64 0, .slice none 0 0] 24) := ⟨_, rfl⟩
  have hb0 : Below w.heap.size w w0 := by rw [hw0]; exact (Below.refl _ _).alloc (Nat.le_refl _) _
  have hz : Blk w0 w.heap.size #[.int .i64 0, .int .i64 0, .slice none 0 0] 24 := by rw [hw0]; exact Blk.new _ _ _
  have HC := Lib.hid (lineCollect s ⟨#[32]⟩ w0 (hE.below hb0) hs rfl)
  rw [show (⟨#[32]⟩ : ByteArray).data.toList = [32] from rfl] at HC
  have HZ := Lib.hid hz
  have HB0 := Lib.hid hb0
  generalize Ln.collectL s.data.toList [32] = k at *
  have hk1 : k.s < 4 := hok.1
  have hk2 : k.t < 64 := hok.2
  clear hlen hok hE hz hb0
  go_enter Tryd.func19, Tryd.ntmps19
  go_wp2_with fail
  rw [← hw0]
  clear hw0
  refine HC.out.mono ?_
  rintro e w2 ⟨v, rfl, ho2, hb2⟩
  obtain ⟨ad, cap, rfl, -, -⟩ := ho2.slice
  have HB2 := Lib.hid (HB0.out.trans (hb2.mono HB0.out.size))
  have HZ2 := Lib.hid (HZ.out.below hb2 HZ.out.lt)
  have hv2 := ho2.strs
  obtain ⟨w3, hw3⟩ : ∃ w3, w3 = w2.alloc (.cells #[.int .i64 k.s, .int .i64 k.t, (.slice ad k.u.length cap)] 24) := ⟨_, rfl⟩
  have hb3 : Below w2.heap.size w2 w3 := by rw [hw3]; exact (Below.refl _ _).alloc (Nat.le_refl _) _
  have hM : Blk w3 w2.heap.size #[.int .i64 k.s, .int .i64 k.t, (.slice ad k.u.length cap)] 24 := by rw [hw3]; exact Blk.new _ _ _
  have HM := Lib.hid hM
  have HB3 := Lib.hid (HB2.out.trans (hb3.mono HB2.out.size))
  have HZ3 := Lib.hid (HZ2.out.below hb3 HZ2.out.lt)
  have HV3 := Lib.hid (hv2.below hb3 (Nat.le_refl _))
  have HI := Lib.hid (lineIs k.s k.t (.slice ad k.u.length cap) k.u w3 (HE.out.below HB3.out) HV3.out hfine (by omega))
  have HFI := Lib.hid hfine
  have HO := Lib.hid (ho2.below hb3 (Nat.le_refl _))
  have HN0 : Hid (w.heap.size < w0.heap.size) := Lib.hid HZ.out.lt
  clear ho2 hb2 hv2 hb3 hM hfine
  go_wp2_with fail
  rw [← hw3]
  clear hw3
  have m0 := HM.out.cell
  refine HI.out.mono ?_
  cases hvb : Ln.validB ⟨k.s, k.t, k.u⟩ with
  | false =>
    have HN := Lib.hid (HP.out.symm.trans (Ln.pick_bad hvb))
    clear hvb
    rintro e w4 ⟨rfl, hb4⟩
    have HB4 := Lib.hid (HB3.out.trans (hb4.mono HB3.out.size))
    have HZ4 := Lib.hid (HZ3.out.below hb4 HZ3.out.lt)
    have g0 := HZ4.out.cell
    have g1 := HZ4.out.free
    clear hb4 m0
    go_wp2_with fail
    change bodyPost _ _ _ _ _ (set3 w4 w.heap.size (.int .i64 0) (.int .i64 0) (.slice none 0 0))
    have hB := (HZ4.out.three (.int .i64 0) (.int .i64 0) (.slice none 0 0)).cell
    have HF := Lib.hid (below_three (x := .int .i64 0) (y := .int .i64 0) (z := .slice none 0 0) HB4.out (Nat.le_refl _))
    clear HZ4 g0 g1
    generalize set3 w4 w.heap.size (.int .i64 0) (.int .i64 0) (.slice none 0 0) = wf at hB HF ⊢
    exact bodyPost_ret (v := .tuple #[.agg #[.int .i64 0, .int .i64 0, .slice none 0 0], .int .i64 3]) (by simp [results, Tryd.results19, go_sem, hB]) rfl (ParseRes.none HN.out HF.out)
  | true =>
    rintro e w4 ⟨rfl, hb4⟩
    have HB4 := Lib.hid (HB3.out.trans (hb4.mono HB3.out.size))
    have HZ4 := Lib.hid (HZ3.out.below hb4 HZ3.out.lt)
    have HM4 := Lib.hid (HM.out.below hb4 HM.out.lt)
    have HV4 := Lib.hid (HV3.out.below hb4 (Nat.le_refl _))
    have n0 := HM4.out.cell
    have HTX := Lib.hid (lineText k.s k.t (.slice ad k.u.length cap) k.u w4 (HE.out.below HB4.out) HV4.out HFI.out (by omega))
    obtain ⟨tx, htx, ex⟩ := exists_bytes (Ln.textL ⟨k.s, k.t, k.u⟩)
    rw [ex] at HTX
    have hb4' := hb4
    clear hb4 m0 ex
    by_cases heq : tx = s
    · have ht : (tx.toList == s.toList) = true := by rw [heq]; exact bytes_eq rfl
      have HY := Lib.hid (HP.out.symm.trans (Ln.pick_yes (c := k.line) hvb (by rw [← heq]; exact htx.symm)))
      clear hvb htx heq
      go_wp2_with fail
      refine HTX.out.mono ?_
      rintro e w5 ⟨rfl, hb5⟩
      have HB5 := Lib.hid (HB4.out.trans (hb5.mono HB4.out.size))
      have HZ5 := Lib.hid (HZ4.out.below hb5 HZ4.out.lt)
      have HM5 := Lib.hid (HM4.out.below hb5 HM4.out.lt)
      have HV5 := Lib.hid (HV4.out.below hb5 (Nat.le_refl _))
      have g0 := HZ5.out.cell
      have g1 := HZ5.out.free
      have n1 := HM5.out.cell
      have HO5 := Lib.hid ((HO.out.below hb4' (Nat.le_refl _)).below hb5 (Nat.le_refl _))
      clear hb5 n0 hb4'
      go_wp2_with fail
      change bodyPost _ _ _ _ _ (set3 w5 w.heap.size (.int .i64 k.s) (.int .i64 k.t) (.slice ad k.u.length cap))
      have hB := (HZ5.out.three (.int .i64 k.s) (.int .i64 k.t) (.slice ad k.u.length cap)).cell
      have HF := Lib.hid (below_three (x := .int .i64 k.s) (y := .int .i64 k.t) (z := .slice ad k.u.length cap) HB5.out (Nat.le_refl _))
      have HOF := Lib.hid (HO5.out.set_three (b := w.heap.size) HN0.out (.int .i64 k.s) (.int .i64 k.t) (.slice ad k.u.length cap)).strs
      clear HZ5 g0 g1 n1
      generalize set3 w5 w.heap.size (.int .i64 k.s) (.int .i64 k.t) (.slice ad k.u.length cap) = wf at hB HF HOF ⊢
      exact bodyPost_ret (v := .tuple #[.agg #[.int .i64 k.s, .int .i64 k.t, .slice ad k.u.length cap], .int .i64 0]) (by simp [results, Tryd.results19, go_sem, hB]) rfl (ParseRes.some HY.out HOF.out HF.out)
    · have ht : (tx.toList == s.toList) = false := (Lib.bytes_beq_false_iff _ _).2 heq
      have HN := Lib.hid (HP.out.symm.trans (Ln.pick_no (c := k.line) (fun e => heq (bytes_same (htx.trans e)))))
      clear hvb htx heq
      go_wp2_with fail
      refine HTX.out.mono ?_
      rintro e w5 ⟨rfl, hb5⟩
      have HB5 := Lib.hid (HB4.out.trans (hb5.mono HB4.out.size))
      have HZ5 := Lib.hid (HZ4.out.below hb5 HZ4.out.lt)
      have g0 := HZ5.out.cell
      have g1 := HZ5.out.free
      clear hb5 n0
      go_wp2_with fail
      change bodyPost _ _ _ _ _ (set3 w5 w.heap.size (.int .i64 0) (.int .i64 0) (.slice none 0 0))
      have hB := (HZ5.out.three (.int .i64 0) (.int .i64 0) (.slice none 0 0)).cell
      have HF := Lib.hid (below_three (x := .int .i64 0) (y := .int .i64 0) (z := .slice none 0 0) HB5.out (Nat.le_refl _))
      clear HZ5 g0 g1
      generalize set3 w5 w.heap.size (.int .i64 0) (.int .i64 0) (.slice none 0 0) = wf at hB HF ⊢
      exact bodyPost_ret (v := .tuple #[.agg #[.int .i64 0, .int .i64 0, .slice none 0 0], .int .i64 3]) (by simp [results, Tryd.results19, go_sem, hB]) rfl (ParseRes.none HN.out HF.out)
/-! types -/
def ptN (s : Bs) : Option Nat := (List.range 64).find? fun m => decide (1 ≤ m) && typesN m == s
def ptI (s : Bs) : Int := match ptN s with | some m => (m : Int) | none => 0
def ptE (s : Bs) : Int := match ptN s with | some _ => 0 | none => 3
/-- no mask below k has the text s -/
def NoneT (s : Bs) (k : Nat) : Prop := ∀ j, 1 ≤ j → j < k → typesN j ≠ s
theorem NoneT.next {s : Bs} {k : Nat} (h : NoneT s k) (hk : typesN k ≠ s) : NoneT s (k + 1) := by
  intro j h1 hj
  by_cases e : j = k
  · subst e; exact hk
  · exact h j h1 (by omega)
theorem pt_hit {s : Bs} {k : Nat} (h1 : 1 ≤ k) (hk : k < 64) (hno : NoneT s k) (h : typesN k = s) : ptI s = k ∧ ptE s = 0 := by
  have e : ptN s = some k := by
    unfold ptN
    rw [List.find?_range_eq_some]
    refine ⟨by simp [h, h1], by simp; omega, fun j hj => ?_⟩
    by_cases hj1 : 1 ≤ j
    · simp [hno j hj1 hj]
    · simp; omega
  unfold ptI ptE
  rw [e]
  exact ⟨rfl, rfl⟩
theorem pt_none {s : Bs} (hno : NoneT s 64) : ptI s = 0 ∧ ptE s = 3 := by
  have e : ptN s = none := by
    unfold ptN
    rw [List.find?_range_eq_none]
    intro j hj
    by_cases hj1 : 1 ≤ j
    · simp [hno j hj1 hj]
    · simp; omega
  unfold ptI ptE
  rw [e]
  exact ⟨rfl, rfl⟩
theorem types_all : ∀ t, t < 64 → Ln.addAll (Ln.wordsOf t 2) = ⟨0, t, []⟩ := by decide +kernel
theorem types_collect {m : Nat} (h1 : 1 ≤ m) (h : m < 64) : Ln.collectL (typesN m) [43] = ⟨0, m, []⟩ := by
  unfold typesN
  rw [Ln.collectL_join (Ln.types_ne m h h1) (fun p hp => ?_) (by rw [types_all m h]; exact Nat.zero_le _), types_all m h]
  obtain ⟨i, hi, _, rfl⟩ := Ln.mem_wordsOf h hp
  exact Ln.plain_of (Ln.words_plain (2 + i) (by omega)).2
theorem pt_no {s : Bs} (h : (Ln.collectL s [43]).t = 0 ∨ typesN (Ln.collectL s [43]).t ≠ s) : ptI s = 0 ∧ ptE s = 3 := by
  refine pt_none fun j h1 hj e => ?_
  have hc := types_collect h1 hj
  rw [e] at hc
  rw [hc] at h
  rcases h with h | h
  · have : j = 0 := h
    omega
  · exact h e
theorem pt_yes {s : Bs} (h0 : (Ln.collectL s [43]).t ≠ 0) (h : typesN (Ln.collectL s [43]).t = s) : ptI s = (Ln.collectL s [43]).t ∧ ptE s = 0 := by
  refine pt_hit (by omega) (Ln.collectL_ok s [43]).2 (fun j h1 hj e => ?_) h
  have hc := types_collect h1 (Nat.lt_trans hj (Ln.collectL_ok s [43]).2)
  rw [e] at hc
  rw [hc] at hj
  exact absurd hj (Nat.lt_irrefl _)
theorem pt_text {m : Nat} (h1 : 1 ≤ m) (h : m < 64) : ptI (typesN m) = m ∧ ptE (typesN m) = 0 := by
  have hc := types_collect h1 h
  have := pt_yes (s := typesN m) (by rw [hc]; show m ≠ 0; omega) (by rw [hc])
  rw [hc] at this
  exact this
theorem pt_empty : ptI [] = 0 ∧ ptE [] = 3 := pt_no (by
  have : Ln.collectL [] [43] = ⟨0, 0, [[]]⟩ := by decide +kernel
  rw [this]
  exact .inl rfl)
theorem pt_cases (s : Bs) : (ptI s = 0 ∧ ptE s = 3) ∨ ∃ m : Nat, 1 ≤ m ∧ m < 64 ∧ ptI s = m ∧ ptE s = 0 ∧ typesN m = s := by
  by_cases h : (Ln.collectL s [43]).t = 0 ∨ typesN (Ln.collectL s [43]).t ≠ s
  · exact .inl (pt_no h)
  · have h1 : (Ln.collectL s [43]).t ≠ 0 := fun e => h (.inl e)
    have h2 : typesN (Ln.collectL s [43]).t = s := by
      by_cases e : typesN (Ln.collectL s [43]).t = s
      · exact e
      · exact absurd (.inr e) h
    obtain ⟨h3, h4⟩ := pt_yes h1 h2
    exact .inr ⟨_, by omega, (Ln.collectL_ok s [43]).2, h3, h4, h2⟩
set_option maxHeartbeats 1000000 in
set_option maxRecDepth 100000 in
theorem lineParseTypes (s : ByteArray) (w : World) (hE : Env w) (hs : s.size ≤ 140737488355328) :
    Calls Tryd.prog 23 #[.string s] w fun e w' => e = .returned (.tuple #[.int .i64 (ptI s.data.toList), .int .i64 (ptE s.data.toList)]) ∧ Below w.heap.size w w' := by
  have hok := Ln.collectL_ok s.data.toList [43]
  have HY := Lib.hid (fun h0 h => pt_yes (s := s.data.toList) h0 h)
  have HN := Lib.hid (fun h => pt_no (s := s.data.toList) h)
  have HE := Lib.hid hE
  have HC := Lib.hid (lineCollect s ⟨#[43]⟩ w hE hs rfl)
  rw [show (⟨#[43]⟩ : ByteArray).data.toList = [43] from rfl] at HC
  generalize Ln.collectL s.data.toList [43] = k at *
  have hk2 : k.t < 64 := hok.2
  clear hok hE
  go_enter Tryd.func23, Tryd.ntmps23
  go_wp2_with fail
  refine HC.out.mono ?_
  rintro e w2 ⟨v, rfl, ho2, hb2⟩
  obtain ⟨ad, cap, rfl, -, -⟩ := ho2.slice
  have HB2 := Lib.hid hb2
  clear ho2 hb2
  by_cases h0 : k.t = 0
  · have ht0 : ((k.t : Int) == 0) = true := by simp [h0]
    have HR := Lib.hid (HN.out (.inl h0))
    clear h0
    go_wp2_with fail
    go_ret2
    exact ⟨by rw [HR.out.1, HR.out.2]; rfl, HB2.out.alloc HB2.out.size _⟩
  · have ht0 : ((k.t : Int) == 0) = false := by simp [h0]
    obtain ⟨tx, htx, ex⟩ := exists_bytes (typesI (k.t : Int))
    have htn := htx.trans (typesI_nat (m := k.t) (by omega) (by omega))
    obtain ⟨w3, hw3⟩ : ∃ w3, w3 = w2.alloc (.cells #[.int .i64 k.s, .int .i64 k.t, (.slice ad k.u.length cap)] 24) := ⟨_, rfl⟩
    have hb3 : Below w.heap.size w w3 := by rw [hw3]; exact HB2.out.alloc HB2.out.size _
    have HB3 := Lib.hid hb3
    have hM : Blk w3 w2.heap.size #[.int .i64 k.s, .int .i64 k.t, (.slice ad k.u.length cap)] 24 := by rw [hw3]; exact Blk.new _ _ _
    have HM := Lib.hid hM
    have HTX := Lib.hid (lineTypesText (k.t : Int) w3 (HE.out.below hb3))
    rw [ex] at HTX
    clear htx ex hb3 hM
    by_cases heq : tx = s
    · have ht : (tx.toList == s.toList) = true := by rw [heq]; exact bytes_eq rfl
      have HR := Lib.hid (HY.out h0 (by rw [← htn, heq]))
      clear htn heq h0
      go_wp2_with fail
      rw [← hw3]
      clear hw3
      refine HTX.out.mono ?_
      rintro e w4 ⟨rfl, hb4⟩
      have m1 : w4.cell? ⟨w2.heap.size, 1, none⟩ = some (.int .i64 k.t) := (HM.out.below hb4 HM.out.lt).cell 1
      go_wp2_with fail
      go_ret2
      exact ⟨by rw [HR.out.1, HR.out.2]; rfl, HB3.out.trans (hb4.mono HB3.out.size)⟩
    · have ht : (tx.toList == s.toList) = false := (Lib.bytes_beq_false_iff _ _).2 heq
      have HR := Lib.hid (HN.out (.inr (fun e => heq (bytes_same (htn.trans e)))))
      clear htn heq h0
      go_wp2_with fail
      rw [← hw3]
      clear hw3
      refine HTX.out.mono ?_
      rintro e w4 ⟨rfl, hb4⟩
      go_wp2_with fail
      go_ret2
      exact ⟨by rw [HR.out.1, HR.out.2]; rfl, HB3.out.trans (hb4.mono HB3.out.size)⟩
set_option maxRecDepth 100000 in
theorem refTypesText10 (m : Int) (w : World) :
    Calls Tryd.prog 26 #[.int .i64 m] w fun e w' => e = .returned (str (typesI m)) ∧ Below w.heap.size w w' := by
  by_cases h : 1 ≤ m ∧ m ≤ 63
  · obtain ⟨n, rfl⟩ : ∃ n : Nat, m = (n : Int) := ⟨m.toNat, by omega⟩
    have h1 : (1 : Int) ≤ (n : Int) := h.1
    have h2 : (n : Int) ≤ 63 := h.2
    have HT := Lib.hid (typesI_nat (m := n) (by omega) (by omega))
    obtain ⟨sT, hT, eT⟩ := exists_bytes (Lib.join (Ln.wordsOf n 2) [43])
    have HJ := Lib.hid (joinedTypes n (by omega) 43 sT hT)
    have HF : Hid (Value.string sT = str (typesI (n : Int))) := Lib.hid (by rw [HT.out, ← eT]; rfl)
    clear h hT eT
    go_enter Tryd.func26, Tryd.ntmps26
    go_wp2_with fail
    refine (refTypes _).mono ?_
    rintro e w1 ⟨v1, rfl, ho1, hb1⟩
    have HO := Lib.hid ho1.strs
    have B1 := Lib.hid hb1
    clear ho1 hb1
    go_wp2_with fail
    refine (HJ.out _ _ HO.out).mono ?_
    rintro e w2 ⟨rfl, rfl⟩
    go_wp2_with fail
    go_ret
    exact ⟨congrArg _ HF.out, B1.out⟩
  · have HT := Lib.hid (typesI_out (m := m) (by omega))
    rcases Int.lt_or_le m 1 with h1 | h1
    · go_enter Tryd.func26, Tryd.ntmps26
      go_wp2_with fail
      go_ret
      exact ⟨by rw [HT.out]; rfl, Below.refl _ _⟩
    · have h2 : 63 < m := by omega
      clear h
      go_enter Tryd.func26, Tryd.ntmps26
      go_wp2_with fail
      go_ret
      exact ⟨by rw [HT.out]; rfl, Below.refl _ _⟩
set_option maxHeartbeats 1000000 in
set_option maxRecDepth 100000 in
theorem refParseTypes10 (s : ByteArray) (w : World) :
    Calls Tryd.prog 24 #[.string s] w fun e w' => e = .returned (.tuple #[.int .i64 (ptI s.data.toList), .int .i64 (ptE s.data.toList)]) ∧ Below w.heap.size w w' := by
  go_enter Tryd.func24, Tryd.ntmps24
  go_wp2_with fail
  go_loopw [4] (fun iv wr => ∃ j : Nat, 1 ≤ j ∧ j ≤ 64 ∧ iv = .int .i64 (j : Int) ∧ NoneT s.data.toList j ∧ Below w.heap.size w wr) (fun iv _ => 64 - (intOf iv).toNat)
  case atStart => exact ⟨1, by omega, by omega, rfl, fun j h1 hj => absurd hj (by omega), Below.refl _ _⟩
  case round =>
    obtain ⟨j, h1, hj, rfl, hno, hb⟩ := hrel
    have HB := Lib.hid hb
    have HNO := Lib.hid hno
    clear hb hno
    by_cases hlt : j < 64
    · obtain ⟨sx, hsx, ex⟩ := exists_bytes (typesI (j : Int))
      have HSX := Lib.hid (hsx.trans (typesI_nat (m := j) (by omega) (by omega)))
      have HC := Lib.hid (refTypesText10 (j : Int) wr)
      rw [ex] at HC
      clear hsx ex
      cases ht : (sx.toList == s.toList) with
      | true =>
        have HP := Lib.hid (pt_hit (s := s.data.toList) h1 hlt HNO.out (by rw [← HSX.out, (Lib.bytes_beq_iff _ _).1 ht]))
        go_wp2_with fail
        refine HC.out.mono ?_
        rintro e w2 ⟨rfl, hb2⟩
        go_wp2_with fail
        go_ret2
        exact ⟨by rw [HP.out.1, HP.out.2]; rfl, HB.out.trans (hb2.mono HB.out.size)⟩
      | false =>
        have HN := Lib.hid (HNO.out.next (k := j) (by rw [← HSX.out]; intro e; exact (Lib.bytes_beq_false_iff _ _).1 ht (bytes_same e)))
        go_wp2_with fail
        refine HC.out.mono ?_
        rintro e w2 ⟨rfl, hb2⟩
        go_wp2_with fail
        go_roundw
        case rel => exact ⟨j + 1, by omega, by omega, by go_num, HN.out, HB.out.trans (hb2.mono HB.out.size)⟩
        case measure => simp [intOf]; omega
    · obtain rfl : j = 64 := by omega
      have HP := Lib.hid (pt_none HNO.out)
      go_wp2_with fail
      go_ret2
      exact ⟨by rw [HP.out.1, HP.out.2]; rfl, HB.out⟩
end Go.Proofs.YtbichcmpggbfnaaDoor
