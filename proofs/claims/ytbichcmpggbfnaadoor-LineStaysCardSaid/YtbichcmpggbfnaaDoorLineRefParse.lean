/-
  CONTRACT OF LAYER 10's REFERENCE: Parse. By an AI agent.
-/
import Derived.Test.YtbichcmpggbfnaaDoorLineParse
import Derived.StillTailTactics
import Derived.Deep.AppendLies
import Derived.Deep.RegionLaw
namespace Go.Proofs.YtbichcmpggbfnaaDoor
open Go.RowKit
open Wd (Bs)

theorem idx_none {l : List Bs} {x : Bs} (h : x ∉ l) : idx l x = -1 := idx_miss fun j y _ hy e => h (by rw [← e]; exact List.mem_of_getElem? hy)
theorem idx_supers : ∀ i, i < 8 → idx supersL (Ln.word i) = if i < 2 then (i : Int) else -1 := by decide +kernel
theorem idx_types : ∀ i, i < 8 → idx typesL (Ln.word i) = if i < 2 then -1 else ((i - 2 : Nat) : Int) := by decide +kernel
theorem idx_cases (x : Bs) : (Ln.ix x < 2 ∧ idx supersL x = (Ln.ix x : Int) ∧ idx typesL x = -1) ∨ (2 ≤ Ln.ix x ∧ Ln.ix x < 8 ∧ idx supersL x = -1 ∧ idx typesL x = ((Ln.ix x - 2 : Nat) : Int)) ∨ (Ln.ix x = 8 ∧ idx supersL x = -1 ∧ idx typesL x = -1) := by
  by_cases h8 : Ln.ix x < 8
  · have h1 := idx_supers _ h8
    have h2 := idx_types _ h8
    rw [Ln.ix_some h8] at h1 h2
    by_cases hlt : Ln.ix x < 2
    · rw [if_pos hlt] at h1 h2
      exact .inl ⟨hlt, h1, h2⟩
    · rw [if_neg hlt] at h1 h2
      exact .inr (.inl ⟨by omega, h8, h1, h2⟩)
  · have h3 := Ln.ix_le x
    have h4 := mt mem_words.1 h8
    exact .inr (.inr ⟨by omega, idx_none fun h => h4 (.inl h), idx_none fun h => h4 (.inr h)⟩)
/-- the memory of the reference's Parse: its result, its line, the words (block g), the subtypes in memory from B on -/
structure RefAt (N B g : Nat) (ws : List Bs) (w wr : World) (k : Ln.Col) (v : Value) : Prop where
  b0 : Blk wr N #[.int .i64 0, .int .i64 0, .slice none 0 0] 24
  b1 : Blk wr (N + 1) #[.int .i64 k.s, .int .i64 k.t, v] 24
  own : OwnStrs B wr v k.u
  cells : ∀ (i : Nat) x, ws[i]? = some x → wr.cell? ⟨g, i, none⟩ = some (str x)
  hb : Below N w wr
  size : B ≤ wr.heap.size
  lo : N + 2 ≤ g
  hi : g < B
theorem RefAt.below {N B g : Nat} {ws : List Bs} {w wr w2 : World} {k : Ln.Col} {v : Value} (h : RefAt N B g ws w wr k v) (hb : Below wr.heap.size wr w2) : RefAt N B g ws w w2 k v :=
  ⟨h.b0.below hb h.b0.lt, h.b1.below hb h.b1.lt, h.own.below hb (Nat.le_refl _), fun i x hx => (hb.cell (p := ⟨g, i, none⟩) (Nat.lt_of_lt_of_le h.hi h.size)).trans (h.cells i x hx),
    h.hb.trans (hb.mono (by have := h.size; have := h.lo; have := h.hi; omega)), Nat.le_trans h.size hb.size, h.lo, h.hi⟩
theorem RefAt.drew {N B g : Nat} {ws : List Bs} {w wr : World} {k : Ln.Col} {v : Value} (h : RefAt N B g ws w wr k v) : RefAt N B g ws w wr.drew k v := h.below ((Below.refl _ _).drew)
theorem cell_old {w : World} {g i b j : Nat} {x v : Value} (hg : g ≠ b) (h : w.cell? ⟨g, i, none⟩ = some v) : (w.setCell ⟨b, j, none⟩ x).cell? ⟨g, i, none⟩ = some v := by
  rw [World.cell?_setCell_other w ⟨b, j, none⟩ ⟨g, i, none⟩ x (fun e => hg (by injection e with e1; exact e1.symm))]
  exact h
theorem RefAt.setS {N B g : Nat} {ws : List Bs} {w wr : World} {k : Ln.Col} {v : Value} (h : RefAt N B g ws w wr k v) {x : Int} {m : Nat} (hx : x = (m : Int)) : RefAt N B g ws w (wr.setCell ⟨N + 1, 0, none⟩ (.int .i64 x)) { k with s := m } v := by
  subst hx
  have h1 := h.lo
  have h2 := h.hi
  exact ⟨h.b0.other (by omega) 0 _, h.b1.set 0 _, h.own.set_old (by omega) 0 _, fun i x hx => cell_old (by omega) (h.cells i x hx), h.hb.setCell (by show N ≤ N + 1; omega) _, by simp; exact h.size, h1, h2⟩
theorem RefAt.setT {N B g : Nat} {ws : List Bs} {w wr : World} {k : Ln.Col} {v : Value} (h : RefAt N B g ws w wr k v) {x : Int} {m : Nat} (hx : x = (m : Int)) : RefAt N B g ws w (wr.setCell ⟨N + 1, 1, none⟩ (.int .i64 x)) { k with t := m } v := by
  subst hx
  have h1 := h.lo
  have h2 := h.hi
  exact ⟨h.b0.other (by omega) 1 _, h.b1.set 1 _, h.own.set_old (by omega) 1 _, fun i x hx => cell_old (by omega) (h.cells i x hx), h.hb.setCell (by show N ≤ N + 1; omega) _, by simp; exact h.size, h1, h2⟩
theorem RefAt.setU {N B g : Nat} {ws : List Bs} {w wr w2 : World} {k : Ln.Col} {v v' : Value} {u : List Bs} (h : RefAt N B g ws w wr k v) (hb : Below B wr w2) (ho : OwnStrs B w2 v' u) : RefAt N B g ws w (w2.setCell ⟨N + 1, 2, none⟩ v') { k with u := u } v' := by
  have h1 := h.lo
  have h2 := h.hi
  exact ⟨(h.b0.below hb (by omega)).other (by omega) 2 _, (h.b1.below hb (by omega)).set 2 _, ho.set_old (by omega) 2 _, fun i x hx => cell_old (by omega) ((hb.cell (p := ⟨g, i, none⟩) h2).trans (h.cells i x hx)),
    (h.hb.trans (hb.mono (by omega))).setCell (by show N ≤ N + 1; omega) _, by simp; exact Nat.le_trans h.size hb.size, h1, h2⟩
/-- what is gathered from the first i words -/
def colTo (ws : List Bs) (i : Nat) : Ln.Col := Ln.addAll (ws.take i)
theorem colTo_succ {ws : List Bs} {i : Nat} (h : i < ws.length) : colTo ws (i + 1) = Ln.addW (colTo ws i) (ws.getD i []) := by
  unfold colTo Ln.addAll
  rw [List.take_succ_eq_append_getElem h, List.foldl_append, List.getD, List.getElem?_eq_getElem h]
  rfl
theorem colTo_ok (ws : List Bs) (i : Nat) : (colTo ws i).Ok := Ln.foldl_ok _ Ln.zero_ok
theorem colTo_len (ws : List Bs) (i : Nat) : (colTo ws i).u.length ≤ i := by
  have h1 := (Ln.foldl_len (ws.take i) Ln.zero).2
  have h2 : (Ln.zero).u.length = 0 := rfl
  unfold colTo Ln.addAll
  simp at h1
  omega
theorem mem_join_len {c : UInt8} : ∀ {ps : List Bs} {p : Bs}, p ∈ ps → p.length ≤ (Lib.join ps [c]).length
  | [], _, h => by cases h
  | [q], p, h => by
    rw [Lib.join_one]
    simp at h
    rw [h]
    exact Nat.le_refl _
  | q :: q' :: r, p, h => by
    rw [Ln.join_two]
    simp only [List.length_append, List.length_cons]
    rcases List.mem_cons.1 h with rfl | h
    · omega
    · have := mem_join_len (c := c) h
      omega
theorem foldl_from : ∀ (ws : List Bs) (k : Ln.Col), ∀ x ∈ (ws.foldl Ln.addW k).u, x ∈ k.u ∨ x ∈ ws
  | [], _, x, h => .inl h
  | w :: r, k, x, h => by
    rcases foldl_from r (Ln.addW k w) x h with h | h
    · unfold Ln.addW at h
      split at h
      · exact .inl h
      · split at h
        · exact .inl h
        · simp only [List.mem_append, List.mem_singleton] at h
          rcases h with h | rfl
          · exact .inl h
          · exact .inr (by simp)
    · exact .inr (List.mem_cons_of_mem _ h)
theorem all_fine {s : Bs} (hs : s.length ≤ 1000000000) : Fine (Ln.addAll (Wd.split s 32)).u := fun x hx => by
  rcases foldl_from _ _ x hx with h | h
  · cases h
  · have h1 := mem_join_len (c := 32) h
    rw [Wd.join_split] at h1
    unfold maxLen
    omega
theorem bit_or {m i : Nat} (h : Num.bitB m i = true) : Ln.orBit m i = m := by unfold Ln.orBit; rw [if_pos h]
theorem no_bit_or {m i : Nat} (h : Num.bitB m i = false) : Ln.orBit m i = m + 2 ^ i := by unfold Ln.orBit; rw [if_neg (by simp [h])]
/-- 's = append(s, k)' inside a region that draws: at the operation, behind the block that the element's literal has laid and the draw. -/
theorem step_push_str {ops : Array Oper} {o : Oper} {a : Act} {K : Act → World → Prop} {Q : Exit → Act → World → Prop} {E : Prop} (hgd : o.guard = none) (s x : Operand)
    (ho : o.op = .call { callee := .builtin .append, args := #[s, x], argTypes := #[22, 22] })
    {B : Nat} {w0 w : World} {v : Value} {l : List Bs} (hs : a.eval s = v) (hown : OwnStrs B w v l) (k : ByteArray) (hx : a.eval x = .slice (some ⟨w.heap.size, 0, none⟩) 1 1)
    (hlen : l.length ≤ 1000000000000) (hB : B ≤ w.heap.size) (hb : Below B w0 w)
    (h : ∀ ad cap w', OwnStrs B w' (.slice ad (l.length + 1) cap) (l ++ [k.data.toList]) → Below B w0 w' → K (a.put o.dst (.slice ad (l.length + 1) cap)) w') :
    if Region.wanted o (yielded ops a.tmps) = true then Oper.wp Tryd.prog o a (w.alloc (.cells #[.string k] 9)).drew K Q else E := by
  obtain ⟨i0, hi, hz0, hz1, hz2⟩ := info_parts infoStr
  have hownd : OwnStrs B w.drew v l := hown
  have hrow : w.drew.ownsRow B 9 1 v l.length (l.map str) := hownd
  show if Region.wanted o (yielded ops a.tmps) = true then Oper.wp Tryd.prog o a (w.drew.alloc (.cells #[.string k] 9)) K Q else E
  refine step_append_lies _ hgd s x 22 ho B 9 i0 (.string ⟨#[]⟩) 1 16 Tryd.underlying22 hi hz0 hz1 hz2 rfl (by decide) v l.length (l.map str) hs (World.ownsRow.alloc hrow _) ⟨w.drew.heap.size, 0, none⟩ 1 1 [.string k] hx rfl (cell_one_new _ _ _) ?_ (by decide) ?_ ?_ ?_ _ rfl ?_
  · intro u hu; simp at hu; subst hu; rfl
  · unfold maxLen; omega
  · omega
  · have : w.drew.heap.size = w.heap.size := rfl
    simp
    omega
  · intro g cap w' hown' hgrow _ _
    obtain ⟨h1, h2⟩ := OwnStrs.pushed (x := k.data.toList) hownd hb.drew hB hown' hgrow
    have h1' : OwnStrs B w' (.slice (some ⟨g, 0, none⟩) (l.length + 1) cap) (l ++ [k.data.toList]) := h1
    exact h _ cap w' h1' h2
set_option maxHeartbeats 4000000 in
set_option maxRecDepth 100000 in
theorem refParse10 (s : ByteArray) (w : World) (hs : s.size ≤ 1000000000) :
    Calls Tryd.prog 20 #[.string s] w (ParseRes s.data.toList w) := by
  have hlen := bytes_len s
  have hfine := all_fine (s := s.data.toList) (by omega)
  have hws := Wd.split_len s.data.toList 32
  have HP : Hid (Ln.pick (Ln.addAll (Wd.split s.data.toList 32)).line s.data.toList = Ln.parseO s.data.toList) := Lib.hid rfl
  obtain ⟨w0, hw0⟩ : ∃ w0, w0 = (w.alloc (.cells #[.int .i64 0, .int .i64 0, .slice none 0 0] 24)).alloc (.cells #[.int .i64 0, .int .i64 0, .slice none 0 0] 24) := ⟨_, rfl⟩
  have hb0 : Below w.heap.size w w0 := by rw [hw0]; exact ((Below.refl _ _).alloc (Nat.le_refl _) _).alloc (by simp) _
  have hsz0 : w0.heap.size = w.heap.size + 2 := by rw [hw0]; simp
  have hz0 : Blk w0 w.heap.size #[.int .i64 0, .int .i64 0, .slice none 0 0] 24 := by rw [hw0]; exact (Blk.new _ _ _).alloc _
  have hz1 : Blk w0 (w.heap.size + 1) #[.int .i64 0, .int .i64 0, .slice none 0 0] 24 := by
    have h := Blk.new (w.alloc (.cells #[.int .i64 0, .int .i64 0, .slice none 0 0] 24)) #[.int .i64 0, .int .i64 0, .slice none 0 0] 24
    rw [hw0]
    rwa [show (w.alloc (.cells #[.int .i64 0, .int .i64 0, .slice none 0 0] 24)).heap.size = w.heap.size + 1 by simp] at h
  have HSP : Hid (Calls Tryd.prog 40 #[.string s, .int .u8 32] w0 (StrsRes (Wd.split s.data.toList 32) w0)) := Lib.hid (refSplit s 32 w0 hs)
  have HB0 := Lib.hid hb0
  have HZ0 := Lib.hid hz0
  have HZ1 := Lib.hid hz1
  have HFI := Lib.hid hfine
  clear hb0 hz0 hz1 hfine
  generalize Wd.split s.data.toList 32 = ws at *
  have hwl : ws.length ≤ 1000000001 := by omega
  have hw1 : 0 < ws.length := by omega
  clear hws hlen
  go_enter Tryd.func20, Tryd.ntmps20
  go_wp2_with fail
  rw [← hw0]
  clear hw0
  refine HSP.out.mono ?_
  rintro e w2 ⟨v5, rfl, ho2, hb2⟩
  rcases ho2.shape with ⟨_, hl⟩ | ⟨g, cap5, rfl, hgl, hgw, hlc5, hcm5, hcell⟩
  · rw [hl] at hw1
    exact absurd hw1 (by decide)
  unfold maxLen at hcm5
  obtain ⟨B, hB⟩ : ∃ B, B = w2.heap.size := ⟨_, rfl⟩
  have hat0 : RefAt w.heap.size B g ws w w2 (colTo ws 0) (.slice none 0 0) :=
    ⟨HZ0.out.below hb2 HZ0.out.lt, HZ1.out.below hb2 HZ1.out.lt, OwnStrs.nil _ _, hcell, HB0.out.trans (hb2.mono HB0.out.size), by omega, by omega, by omega⟩
  have HAT0 := Lib.hid hat0
  clear ho2 hb2 hcell hat0 hsz0 hgl hgw hB
  go_wp2_with fail
  go_loopw [6] (fun iv wr => ∃ (i : Nat) (v : Value), i ≤ ws.length ∧ iv = .int .i64 (i : Int) ∧ RefAt w.heap.size B g ws w wr (colTo ws i) v) (fun iv _ => ws.length - (intOf iv).toNat)
  case atStart => exact ⟨0, _, by omega, rfl, HAT0.out⟩
  case round =>
    obtain ⟨i, v, hi, rfl, hat⟩ := hrel
    obtain ⟨ad, cap, rfl, hcm, hcl⟩ := hat.own.slice
    unfold maxLen at hcm
    have HAT := Lib.hid hat
    by_cases hlt : i < ws.length
    · obtain ⟨sx, hsx, ex⟩ := exists_bytes (ws.getD i [])
      have e1 : wr.cell? ⟨g, i, none⟩ = some (.string sx) := (hat.cells i _ (getD_some hlt)).trans (congrArg some ex)
      have HS := Lib.hid (colTo_succ hlt)
      have hok := colTo_ok ws i
      have hul := colTo_len ws i
      have hk1 : (colTo ws i).s < 4 := hok.1
      have hk2 : (colTo ws i).t < 64 := hok.2
      have HSX := Lib.hid hsx
      have hi0 : (0 : Int) ≤ (i : Int) := by omega
      have hi1 : (i : Int) < (ws.length : Int) := by omega
      have hszr : wr.heap.size ≤ wr.heap.size := Nat.le_refl _
      have hgr : g < wr.heap.size := Nat.lt_of_lt_of_le hat.hi hat.size
      clear hok hat hsx ex
      generalize colTo ws i = k at *
      have hcase := idx_cases (ws.getD i [])
      rw [← HSX.out] at hcase HS
      obtain ⟨a, ha⟩ : ∃ a, a = idx supersL sx.data.toList := ⟨_, rfl⟩
      obtain ⟨b, hb⟩ : ∃ b, b = idx typesL sx.data.toList := ⟨_, rfl⟩
      rw [← ha, ← hb] at hcase
      have HIA : Hid (∀ W v, Strs W v supersL → Calls Tryd.prog 33 #[v, .string sx] W fun e w' => e = .returned (.int .i64 a) ∧ W = w') := Lib.hid (fun W v hv => by rw [ha]; exact refIndex10 v supersL sx W hv)
      have HIB : Hid (∀ W v, Strs W v typesL → Calls Tryd.prog 33 #[v, .string sx] W fun e w' => e = .returned (.int .i64 b) ∧ W = w') := Lib.hid (fun W v hv => by rw [hb]; exact refIndex10 v typesL sx W hv)
      have HCASE := Lib.hid hcase
      clear ha hb hcase
      go_wp2_with fail
      go_region_held3 (fun W => W.cell? ⟨g, i, none⟩ = some (.string sx))
        (first | go_keep | (with_reducible exact (hb3.cell (p := ⟨g, i, none⟩) hgr).trans e1))
        (first
          | (go_at_call 37; refine (supersFrom (C := wr.heap.size) (w0 := wr) ?_ hszr).mono ?_; (go_grown); rintro e w3 ⟨v3, rfl, hs3, hb3⟩)
          | (go_at_call 33; refine (HIA.out _ _ hs3).mono ?_; rintro e w4 ⟨rfl, rfl⟩))
      have e3 : w3.cell? ⟨g, i, none⟩ = some (.string sx) := (hb3.cell (p := ⟨g, i, none⟩) hgr).trans e1
      clear hs3
      go_wp2_with fail
      go_region_held3 (fun W => W.cell? ⟨g, i, none⟩ = some (.string sx))
        (first | go_keep | (with_reducible exact (hb5.cell (p := ⟨g, i, none⟩) hgr).trans e1))
        (first
          | (go_at_call 38; refine (typesFrom (C := wr.heap.size) (w0 := wr) ?_ hszr).mono ?_; (go_grown); rintro e w5 ⟨v5, rfl, hs5, hb5⟩)
          | (go_at_call 33; refine (HIB.out _ _ hs5).mono ?_; rintro e w6 ⟨rfl, rfl⟩))
      have e5 : w5.cell? ⟨g, i, none⟩ = some (.string sx) := (hb5.cell (p := ⟨g, i, none⟩) hgr).trans e1
      have HAT5 := Lib.hid (HAT.out.below hb5)
      have f0 : w5.cell? ⟨w.heap.size + 1, 0, none⟩ = some (.int .i64 k.s) := HAT5.out.b1.cell 0
      have f1 : w5.cell? ⟨w.heap.size + 1, 1, none⟩ = some (.int .i64 k.t) := HAT5.out.b1.cell 1
      have f2 : w5.cell? ⟨w.heap.size + 1, 2, none⟩ = some (.slice ad k.u.length cap) := HAT5.out.b1.cell 2
      have z0 := HAT5.out.b1.free
      clear hs5 hb5 hb3 e1 e3 HAT
      rcases HCASE.out with ⟨h1, rfl, rfl⟩ | ⟨h1, h2, rfl, rfl⟩ | ⟨h1, rfl, rfl⟩
      · have HA := Lib.hid (Ln.addW_super (c := k) h1)
        clear HCASE HIA HIB
        generalize Ln.ix sx.data.toList = n at *
        cases hbit : Num.bitB k.s (n) with
        | true =>
          have HBIT := Lib.hid hbit
          have HREL : Hid (RefAt w.heap.size B g ws w w5 (colTo ws (i + 1)) (.slice ad k.u.length cap)) := Lib.hid (by rw [HS.out, HA.out, bit_or hbit]; exact HAT5.out)
          clear hbit
          go_wp2_with fail
          refine (refBit k.s (n) _ (by omega) (by omega)).mono ?_
          rw [HBIT.out]
          rintro e w6 ⟨rfl, rfl⟩
          go_wp2_with fail
          go_roundw
          case rel => exact ⟨i + 1, _, by omega, by go_num, HREL.out⟩
          case measure => simp [intOf]; omega
        | false =>
          have HBIT := Lib.hid hbit
          obtain ⟨q, hq⟩ : ∃ q, q = 2 ^ (n) := ⟨_, rfl⟩
          have hq32 : q ≤ 32 := by rw [hq]; exact pow_le _ (by omega)
          have HQ := Lib.hid hq
          have hn5 : ((n : Nat) : Int) ≤ 5 := by omega
          have HOR : Hid (Ln.orBit k.s (n) = k.s + q) := Lib.hid (by rw [no_bit_or hbit, hq])
          have hsum : IntKind.i64.wrap ((k.s : Int) + (q : Int)) = ((k.s + q : Nat) : Int) := by rw [IntWalk.i64_in _ (by omega)]; omega
          clear hbit hq
          go_wp2_with fail
          refine (refBit k.s (n) _ (by omega) (by omega)).mono ?_
          rw [HBIT.out]
          rintro e w6 ⟨rfl, rfl⟩
          go_wp2_with fail
          refine wp_region_still_tail 6 (by kernel_rfl) (by kernel_rfl) ?_
          simp only [List.take_succ_cons, List.take_zero, List.drop_succ_cons, List.drop_zero]
          still_step
          still_step
          still_step
          still_call ((refPower (n) q _ hn5 HQ).mono fun _ _ h => ⟨h.1, h.2.symm⟩)
          still_step
          still_step
          refine wpStill_nil ?_
          change wpList _ _ _ _ _ w5.drew
          have HATD := Lib.hid HAT5.out.drew
          clear f0 f1 f2 z0 e5 HAT5
          generalize w5.drew = w6 at HATD ⊢
          have f0 : w6.cell? ⟨w.heap.size + 1, 0, none⟩ = some (.int .i64 k.s) := HATD.out.b1.cell 0
          have z0 := HATD.out.b1.free
          have HREL : Hid (RefAt w.heap.size B g ws w (w6.setCell ⟨w.heap.size + 1, 0, none⟩ (.int .i64 ((k.s + q : Nat) : Int))) (colTo ws (i + 1)) (.slice ad k.u.length cap)) := Lib.hid (by rw [HS.out, HA.out, HOR.out]; exact HATD.out.setS rfl)
          go_wp2_with fail
          go_roundw
          case rel => exact ⟨i + 1, _, by omega, by go_num, HREL.out⟩
          case measure => simp [intOf]; omega
      · have HA := Lib.hid (Ln.addW_type (c := k) h1 h2)
        clear HCASE HIA HIB
        obtain ⟨n, hn⟩ : ∃ n, n = Ln.ix sx.data.toList - 2 := ⟨_, rfl⟩
        have hn6 : n < 6 := by omega
        rw [← hn] at HA ⊢
        clear hn h1 h2
        cases hbit : Num.bitB k.t (n) with
        | true =>
          have HBIT := Lib.hid hbit
          have HREL : Hid (RefAt w.heap.size B g ws w w5 (colTo ws (i + 1)) (.slice ad k.u.length cap)) := Lib.hid (by rw [HS.out, HA.out, bit_or hbit]; exact HAT5.out)
          clear hbit
          go_wp2_with fail
          refine (refBit k.t (n) _ (by omega) (by omega)).mono ?_
          rw [HBIT.out]
          rintro e w6 ⟨rfl, rfl⟩
          go_wp2_with fail
          go_roundw
          case rel => exact ⟨i + 1, _, by omega, by go_num, HREL.out⟩
          case measure => simp [intOf]; omega
        | false =>
          have HBIT := Lib.hid hbit
          obtain ⟨q, hq⟩ : ∃ q, q = 2 ^ (n) := ⟨_, rfl⟩
          have hq32 : q ≤ 32 := by rw [hq]; exact pow_le _ (by omega)
          have HQ := Lib.hid hq
          have hn5 : ((n : Nat) : Int) ≤ 5 := by omega
          have HOR : Hid (Ln.orBit k.t (n) = k.t + q) := Lib.hid (by rw [no_bit_or hbit, hq])
          have hsum : IntKind.i64.wrap ((k.t : Int) + (q : Int)) = ((k.t + q : Nat) : Int) := by rw [IntWalk.i64_in _ (by omega)]; omega
          clear hbit hq
          go_wp2_with fail
          refine (refBit k.t (n) _ (by omega) (by omega)).mono ?_
          rw [HBIT.out]
          rintro e w6 ⟨rfl, rfl⟩
          go_wp2_with fail
          refine wp_region_still_tail 6 (by kernel_rfl) (by kernel_rfl) ?_
          simp only [List.take_succ_cons, List.take_zero, List.drop_succ_cons, List.drop_zero]
          still_step
          still_step
          still_step
          still_call ((refPower (n) q _ hn5 HQ).mono fun _ _ h => ⟨h.1, h.2.symm⟩)
          still_step
          still_step
          refine wpStill_nil ?_
          change wpList _ _ _ _ _ w5.drew
          have HATD := Lib.hid HAT5.out.drew
          clear f0 f1 f2 z0 e5 HAT5
          generalize w5.drew = w6 at HATD ⊢
          have f0 : w6.cell? ⟨w.heap.size + 1, 1, none⟩ = some (.int .i64 k.t) := HATD.out.b1.cell 1
          have z0 := HATD.out.b1.free
          have HREL : Hid (RefAt w.heap.size B g ws w (w6.setCell ⟨w.heap.size + 1, 1, none⟩ (.int .i64 ((k.t + q : Nat) : Int))) (colTo ws (i + 1)) (.slice ad k.u.length cap)) := Lib.hid (by rw [HS.out, HA.out, HOR.out]; exact HATD.out.setT rfl)
          go_wp2_with fail
          go_roundw
          case rel => exact ⟨i + 1, _, by omega, by go_num, HREL.out⟩
          case measure => simp [intOf]; omega
      · have HA := Lib.hid (Ln.addW_sub (c := k) h1)
        clear HCASE HIA HIB h1
        have HLEN : Hid (k.u.length ≤ 1000000000000) := Lib.hid (by omega)
        have hszN : B ≤ w5.heap.size := HAT5.out.size
        have HOWN := Lib.hid HAT5.out.own
        have hBN : w.heap.size + 1 < B := by have := HAT5.out.lo; have := HAT5.out.hi; omega
        have yA : (w5.alloc (.cells #[.string sx] 9)).cell? ⟨w.heap.size + 1, 2, none⟩ = some (.slice ad k.u.length cap) := (((Below.refl w5.heap.size w5).alloc (Nat.le_refl _) _).cell (p := ⟨w.heap.size + 1, 2, none⟩) (Nat.lt_of_lt_of_le hBN hszN)).trans f2
        go_wp2_with fail
        go_region_law (refine step_push_str rfl (.tmp 66) (.tmp 71) rfl (by simp [Act.eval]) HOWN.out sx (by simp [Act.eval]) HLEN.out hszN (Below.refl _ _) ?_; intro ad' cap' w7 ho hb7; have y2 : w7.cell? ⟨w.heap.size + 1, 2, none⟩ = some (.slice ad k.u.length cap) := (hb7.cell (p := ⟨w.heap.size + 1, 2, none⟩) hBN).trans f2; have z2 : ∀ i, w7.frozen? ⟨w.heap.size + 1, i, none⟩ = false := (HAT5.out.b1.below hb7 hBN).free)
        all_goals
          have hnew := HAT5.out.setU hb7 ho
          rw [← HA.out, ← HS.out] at hnew
          have HNEW := Lib.hid hnew
          clear ho hb7 hnew y2 z2 yA
          go_wp2_with fail
          go_roundw
          case rel => exact ⟨i + 1, _, by omega, by go_num, HNEW.out⟩
          case measure => simp [intOf]; omega
    · obtain rfl : i = ws.length := by omega
      have hall : colTo ws ws.length = Ln.addAll ws := by unfold colTo; rw [List.take_length]
      rw [hall] at HAT hat hcl
      have hok : (Ln.addAll ws).Ok := Ln.foldl_ok ws Ln.zero_ok
      generalize Ln.addAll ws = k at *
      have hk1 : k.s < 4 := hok.1
      have hk2 : k.t < 64 := hok.2
      have f0 : wr.cell? ⟨w.heap.size + 1, 0, none⟩ = some (.int .i64 k.s) := hat.b1.cell 0
      have f1 : wr.cell? ⟨w.heap.size + 1, 1, none⟩ = some (.int .i64 k.t) := hat.b1.cell 1
      have f2 : wr.cell? ⟨w.heap.size + 1, 2, none⟩ = some (.slice ad k.u.length cap) := hat.b1.cell 2
      have HI := Lib.hid (refIs10 k.s k.t (.slice ad k.u.length cap) k.u wr hat.own.strs HFI.out)
      have hNB : w.heap.size < B := by have := hat.lo; have := hat.hi; omega
      clear hat hall hok
      go_wp2_with fail
      refine HI.out.mono ?_
      cases hvb : Ln.validB ⟨k.s, k.t, k.u⟩ with
      | false =>
        have HN := Lib.hid (HP.out.symm.trans (Ln.pick_bad hvb))
        clear hvb
        rintro e w4 ⟨rfl, hb4⟩
        have HAT4 := Lib.hid (HAT.out.below hb4)
        have g0 := HAT4.out.b0.cell
        have g1 := HAT4.out.b0.free
        clear hb4 f0 f1 f2
        go_wp2_with fail
        change bodyPost _ _ _ _ _ (set3 w4 w.heap.size (.int .i64 0) (.int .i64 0) (.slice none 0 0))
        have hB := (HAT4.out.b0.three (.int .i64 0) (.int .i64 0) (.slice none 0 0)).cell
        have HF := Lib.hid (below_three (x := .int .i64 0) (y := .int .i64 0) (z := .slice none 0 0) HAT4.out.hb (Nat.le_refl _))
        clear g0 g1
        generalize set3 w4 w.heap.size (.int .i64 0) (.int .i64 0) (.slice none 0 0) = wf at hB HF ⊢
        exact bodyPost_ret (v := .tuple #[.agg #[.int .i64 0, .int .i64 0, .slice none 0 0], .int .i64 3]) (by simp [results, Tryd.results20, go_sem, hB]) rfl (ParseRes.none HN.out HF.out)
      | true =>
        rintro e w4 ⟨rfl, hb4⟩
        have HAT4 := Lib.hid (HAT.out.below hb4)
        have n0 := HAT4.out.b1.cell
        have HTX := Lib.hid (refText10 k.s k.t (.slice ad k.u.length cap) k.u w4 HAT4.out.own.strs HFI.out)
        obtain ⟨tx, htx, ex⟩ := exists_bytes (Ln.textL ⟨k.s, k.t, k.u⟩)
        rw [ex] at HTX
        clear hb4 f0 f1 f2 ex
        by_cases heq : tx = s
        · have ht : (tx.toList == s.toList) = true := by rw [heq]; exact bytes_eq rfl
          have HY := Lib.hid (HP.out.symm.trans (Ln.pick_yes (c := k.line) hvb (by rw [← heq]; exact htx.symm)))
          clear hvb htx heq
          go_wp2_with fail
          refine HTX.out.mono ?_
          rintro e w5 ⟨rfl, hb5⟩
          have HAT5 := Lib.hid (HAT4.out.below hb5)
          have g0 := HAT5.out.b0.cell
          have g1 := HAT5.out.b0.free
          have n1 := HAT5.out.b1.cell
          clear hb5 n0
          go_wp2_with fail
          change bodyPost _ _ _ _ _ (set3 w5 w.heap.size (.int .i64 k.s) (.int .i64 k.t) (.slice ad k.u.length cap))
          have hB := (HAT5.out.b0.three (.int .i64 k.s) (.int .i64 k.t) (.slice ad k.u.length cap)).cell
          have HF := Lib.hid (below_three (x := .int .i64 k.s) (y := .int .i64 k.t) (z := .slice ad k.u.length cap) HAT5.out.hb (Nat.le_refl _))
          have HOF := Lib.hid (HAT5.out.own.set_three (b := w.heap.size) hNB (.int .i64 k.s) (.int .i64 k.t) (.slice ad k.u.length cap)).strs
          clear g0 g1 n1
          generalize set3 w5 w.heap.size (.int .i64 k.s) (.int .i64 k.t) (.slice ad k.u.length cap) = wf at hB HF HOF ⊢
          exact bodyPost_ret (v := .tuple #[.agg #[.int .i64 k.s, .int .i64 k.t, .slice ad k.u.length cap], .int .i64 0]) (by simp [results, Tryd.results20, go_sem, hB]) rfl (ParseRes.some HY.out HOF.out HF.out)
        · have ht : (tx.toList == s.toList) = false := (Lib.bytes_beq_false_iff _ _).2 heq
          have HN := Lib.hid (HP.out.symm.trans (Ln.pick_no (c := k.line) (fun e => heq (bytes_same (htx.trans e)))))
          clear hvb htx heq
          go_wp2_with fail
          refine HTX.out.mono ?_
          rintro e w5 ⟨rfl, hb5⟩
          have HAT5 := Lib.hid (HAT4.out.below hb5)
          have g0 := HAT5.out.b0.cell
          have g1 := HAT5.out.b0.free
          clear hb5 n0
          go_wp2_with fail
          change bodyPost _ _ _ _ _ (set3 w5 w.heap.size (.int .i64 0) (.int .i64 0) (.slice none 0 0))
          have hB := (HAT5.out.b0.three (.int .i64 0) (.int .i64 0) (.slice none 0 0)).cell
          have HF := Lib.hid (below_three (x := .int .i64 0) (y := .int .i64 0) (z := .slice none 0 0) HAT5.out.hb (Nat.le_refl _))
          clear g0 g1
          generalize set3 w5 w.heap.size (.int .i64 0) (.int .i64 0) (.slice none 0 0) = wf at hB HF ⊢
          exact bodyPost_ret (v := .tuple #[.agg #[.int .i64 0, .int .i64 0, .slice none 0 0], .int .i64 3]) (by simp [results, Tryd.results20, go_sem, hB]) rfl (ParseRes.none HN.out HF.out)
end Go.Proofs.YtbichcmpggbfnaaDoor
