/-
  MERGED: FilRText, IpRPlain, IpRIsV, IpRTxW, IpTgR, FCtrR, IpRIsW, IpRef. By an AI agent.
-/
import Derived.Test.YtkohfomiigcifaaGreatDoorFilRefText
import Derived.Test.YtkohfomiigcifaaGreatDoorIpGA
import Derived.Test.YtkohfomiigcifaaGreatDoorIpGC
import Derived.Deep.Cut
import Derived.Deep.CutBlock
import Derived.Deep.DeepCutAuto
import Derived.Test.YtkohfomiigcifaaGreatDoorIpGD
import Derived.Test.YtkohfomiigcifaaGreatDoorFilRefIs
import Derived.Test.YtkohfomiigcifaaGreatDoorFNumR
namespace Go.Proofs.YtkohfomiigcifaaGreatDoor
open Go.RowKit
open Wd (Bs)

set_option maxRecDepth 100000 in
/-- the reference's Text of any filter -/
theorem refText13 (f : Fil.Flt) (fs : ByteArray) (hf : f.sub = fs.data.toList) (hs : fs.size ≤ maxLen) (w : World) :
    Calls Tryz.prog 34 #[.agg #[.int .i64 f.zone, .int .i64 f.who, .int .i64 f.self, .int .i64 f.types, .int .i64 f.ntypes, .int .i64 f.colors, .int .i64 f.ncolors, .string fs, .int .i64 f.keys, .int .i64 f.tap, .int .i64 f.pow.kind, .int .i64 f.pow.n, .int .i64 f.tough.kind, .int .i64 f.tough.n, .int .i64 f.val.kind, .int .i64 f.val.n]] w fun e w' => e = .returned (str (Fil.textF f)) ∧ Below w.heap.size w w' := by
  cases hvb : Fil.validB f with
  | true =>
    obtain ⟨a, rfl⟩ := acc_of hvb
    exact refTextA a fs hf hvb w
  | false =>
    have HC := Lib.hid (fun W => refIs13 f fs hf hs W)
    have HVB := Lib.hid hvb
    have HT := Lib.hid (Fil.textF_bad hvb)
    have HB : Hid (Below w.heap.size w (w.alloc (.cells #[.int .i64 f.zone, .int .i64 f.who, .int .i64 f.self, .int .i64 f.types, .int .i64 f.ntypes, .int .i64 f.colors, .int .i64 f.ncolors, .string fs, .int .i64 f.keys, .int .i64 f.tap, .int .i64 f.pow.kind, .int .i64 f.pow.n, .int .i64 f.tough.kind, .int .i64 f.tough.n, .int .i64 f.val.kind, .int .i64 f.val.n] 25))) := Lib.hid ((Below.refl _ _).alloc (Nat.le_refl _) _)
    clear hvb hf hs
    go_enter Tryz.func34, Tryz.ntmps34
    go_wp2_with fail
    refine (HC.out _).mono ?_
    rw [HVB.out]
    rintro e w1 ⟨rfl, hb1⟩
    go_wp2_with fail
    go_ret
    exact ⟨by rw [HT.out]; rfl, HB.out.trans (hb1.mono HB.out.size)⟩
end Go.Proofs.YtkohfomiigcifaaGreatDoor
namespace Go.Proofs.YtkohfomiigcifaaGreatDoor.Ip
open Wd (cut brk)

/-! validity -/
noncomputable def fieldB (f : Fil.Flt) : Bool := Fil.validB f && decide (f.zone = 0)
noncomputable def plainR (d n z c : Int) : Bool := decide (z = 0) && (decide (c = 0) && (if d = 2 ∨ d = 4 then decide (1 ≤ n) && decide (n ≤ 99) else decide (n = 0)))
noncomputable def movesR (who d n z c : Int) (fld : Bool) : Bool :=
  decide (who = 0) && (fld && (if d = 5 then decide (n = 0) && (decide (c = 0) && decide (z = 1 ∨ z = 2 ∨ z = 4)) else if d = 6 then decide (n = 0) && (decide (c = 0) && decide (z = 0))
    else if d = 7 then decide (z = 0) && (decide (1 ≤ n) && (decide (n ≤ 99) && (decide (0 ≤ c) && decide (c < 3)))) else false))
noncomputable def isR (on who d : Int) (mv pl e0 fld : Bool) : Bool :=
  if on = 2 then mv else pl && (if on = 1 then decide (d = 1 ∨ d = 2 ∨ d = 3 ∨ d = 4) && (decide (who = 0) && fld || decide (who = 1 ∨ who = 2) && e0)
    else if on = 8 then decide (d = 3 ∨ d = 4 ∨ d = 8) && (decide (who = 0) && fld)
    else if on = 3 then decide (d = 4 ∨ d = 8) && (decide (0 ≤ who ∧ who ≤ 2) && e0)
    else if on = 4 ∨ on = 5 ∨ on = 10 then decide (d = 3 ∨ d = 4 ∨ d = 8) && (decide (0 ≤ who ∧ who ≤ 2) && e0) else false)
theorem form_val (on who d : Int) : formI on who d = if on = 1 ∧ who ≠ 0 then 2 else if on = 2 ∧ d ≠ 5 then 4 else evI on := rfl
theorem isR_ok (x : Rd) : isR x.on x.who x.d (movesR x.who x.d x.n x.z x.c (fieldB x.f)) (plainR x.d x.n x.z x.c) (decide (x.f = Fil.zero)) (fieldB x.f) = okB x := by
  obtain ⟨on, who, f, d, n, z, c⟩ := x
  unfold isR movesR plainR fieldB okB
  simp only
  generalize decide (f = Fil.zero) = e0
  generalize (Fil.validB f && decide (f.zone = 0)) = fl
  rw [Bool.eq_iff_iff]
  by_cases h2 : on = 2
  · subst h2
    rw [if_pos rfl]
    by_cases h5 : d = 5
    · subst h5
      simp [formI, evI, actL, plW, uN, uZ, uC]
      cases fl <;> simp
      omega
    · rw [if_neg h5]
      by_cases h6 : d = 6
      · subst h6
        simp [formI, actL, plW, uN, uZ, uC]
        cases fl <;> simp
        omega
      · rw [if_neg h6]
        by_cases h7 : d = 7
        · subst h7
          simp [formI, actL, plW, uN, uZ, uC]
          cases fl <;> simp
          omega
        · rw [if_neg h7]
          simp [formI, actL, plW, h5, h6, h7]
  · rw [if_neg h2]
    have hN : uN d = decide (d = 7 ∨ d = 2 ∨ d = 4) := rfl
    have key : ∀ {L : List Int} {W : Bool}, (∀ d ∈ L, 1 ≤ d ∧ d ≤ 8 ∧ d ≠ 5 ∧ d ≠ 6 ∧ d ≠ 7) → ((plainR d n z c = true ∧ d ∈ L ∧ W = true) ↔ (d ∈ L ∧ W = true ∧ ((if uN d then decide (1 ≤ n) && decide (n ≤ 99) else decide (n = 0)) && ((if uZ d then decide (z ∈ ([1, 2, 4] : List Int)) else decide (z = 0)) && (if uC d then decide (0 ≤ c) && decide (c < 3) else decide (c = 0)))) = true)) := by
      intro L W hL
      constructor
      · rintro ⟨h1, h2, h3⟩
        have hd := hL d h2
        refine ⟨h2, h3, ?_⟩
        have e1 : uZ d = false := by unfold uZ; exact decide_eq_false (by omega)
        have e2 : uC d = false := by unfold uC; exact decide_eq_false (by omega)
        have e3 : uN d = decide (d = 2 ∨ d = 4) := by unfold uN; exact decide_eq_decide.2 (by omega)
        rw [e1, e2, e3]
        unfold plainR at h1
        by_cases hq : d = 2 ∨ d = 4
        · rw [if_pos hq] at h1; simp [hq]; simp at h1; omega
        · rw [if_neg hq] at h1; simp [hq]; simp at h1; omega
      · rintro ⟨h2, h3, h1⟩
        have hd := hL d h2
        refine ⟨?_, h2, h3⟩
        have e1 : uZ d = false := by unfold uZ; exact decide_eq_false (by omega)
        have e2 : uC d = false := by unfold uC; exact decide_eq_false (by omega)
        have e3 : uN d = decide (d = 2 ∨ d = 4) := by unfold uN; exact decide_eq_decide.2 (by omega)
        rw [e1, e2, e3] at h1
        unfold plainR
        by_cases hq : d = 2 ∨ d = 4
        · rw [if_pos hq]; simp [hq] at h1; simp; omega
        · rw [if_neg hq]; simp [hq] at h1; simp; omega
    have fold : (decide (z = 0) && (decide (c = 0) && (if d = 2 ∨ d = 4 then decide (1 ≤ n) && decide (n ≤ 99) else decide (n = 0)))) = plainR d n z c := rfl
    rw [fold]
    by_cases h1 : on = 1
    · subst h1
      rw [if_pos rfl]
      by_cases hw : who = 0
      · subst hw
        have k := key (L := [1, 2, 3, 4]) (W := fl) (by simp)
        simp [formI, evI, actL, plW] at k ⊢
        constructor
        · rintro ⟨a, b, e⟩
          exact (k.1 ⟨a, b, e⟩)
        · rintro ⟨a, b, e⟩
          exact (k.2 ⟨a, b, e⟩)
      · have k := key (L := [1, 2, 3, 4]) (W := decide (who = 1 ∨ who = 2) && e0) (by simp)
        have hb : Tg.whoB who = decide (who = 1 ∨ who = 2) := by unfold Tg.whoB; exact decide_eq_decide.2 (by omega)
        simp [formI, actL, plW, hw, hb] at k ⊢
        constructor
        · rintro ⟨a, b, e, g⟩
          obtain ⟨x, y, w⟩ := k.1 ⟨a, b, e, g⟩
          exact ⟨x, y.1, y.2, w⟩
        · rintro ⟨a, b, e, g⟩
          obtain ⟨x, y, w⟩ := k.2 ⟨a, ⟨b, e⟩, g⟩
          exact ⟨x, y, w⟩
    · rw [if_neg h1]
      by_cases h8 : on = 8
      · subst h8
        rw [if_pos rfl]
        have k := key (L := [3, 4, 8]) (W := decide (who = 0) && fl) (by simp)
        simp [formI, evI, actL, plW] at k ⊢
        constructor
        · rintro ⟨a, b, e, g⟩
          obtain ⟨x, y, w⟩ := k.1 ⟨a, b, e, g⟩
          exact ⟨x, y.1, y.2, w⟩
        · rintro ⟨a, b, e, g⟩
          obtain ⟨x, y, w⟩ := k.2 ⟨a, ⟨b, e⟩, g⟩
          exact ⟨x, y, w⟩
      · rw [if_neg h8]
        have hb : Tg.whoB who = decide (0 ≤ who ∧ who ≤ 2) := rfl
        by_cases h3 : on = 3
        · subst h3
          rw [if_pos rfl]
          have k := key (L := [4, 8]) (W := decide (0 ≤ who ∧ who ≤ 2) && e0) (by simp)
          simp [formI, evI, actL, plW, hb] at k ⊢
          constructor
          · rintro ⟨a, b, e, g⟩
            obtain ⟨x, y, w⟩ := k.1 ⟨a, b, e, g⟩
            exact ⟨x, y.1, y.2, w⟩
          · rintro ⟨a, b, e, g⟩
            obtain ⟨x, y, w⟩ := k.2 ⟨a, ⟨b, e⟩, g⟩
            exact ⟨x, y, w⟩
        · rw [if_neg h3]
          have k := key (L := [3, 4, 8]) (W := decide (0 ≤ who ∧ who ≤ 2) && e0) (by simp)
          by_cases h4 : on = 4 ∨ on = 5 ∨ on = 10
          · rw [if_pos h4]
            rcases h4 with rfl | rfl | rfl
            all_goals (
              simp [formI, evI, actL, plW, hb] at k ⊢
              constructor
              · rintro ⟨a, b, e, g⟩
                obtain ⟨x, y, w⟩ := k.1 ⟨a, b, e, g⟩
                exact ⟨x, y.1, y.2, w⟩
              · rintro ⟨a, b, e, g⟩
                obtain ⟨x, y, w⟩ := k.2 ⟨a, ⟨b, e⟩, g⟩
                exact ⟨x, y, w⟩)
          · rw [if_neg h4]
            have h0 : formI on who d ≤ 0 := by
              unfold formI evI
              simp only [h1, h2, h3, h8, false_and, if_false]
              split
              · omega
              · split
                · omega
                · split
                  · omega
                  · split
                    · omega
                    · omega
            have hno : ¬ d ∈ actL (formI on who d) := fun hm => by have := mem_act hm; omega
            simp [hno]
/-! texts: the reference's words -/
def wordI (on who d : Int) : Nat := if on = 1 then (if who = 0 then 1 else 2) else if on = 2 then (if d = 5 then 3 else 4) else if on = 3 then 5 else if on = 4 then 6 else if on = 5 then 7 else if on = 10 then 8 else 9
def filtB (on who : Int) : Bool := decide (on = 2 ∨ on = 8 ∨ on = 1 ∧ who = 0)
theorem word_ok {x : Rd} (o : Ok x) : (formI x.on x.who x.d).toNat = wordI x.on x.who x.d ∧ plW (formI x.on x.who x.d) = !filtB x.on x.who := by
  have l := o.lo
  obtain ⟨on, who, f, d, n, z, c⟩ := x
  simp only at *
  unfold formI evI at *
  unfold wordI filtB plW
  by_cases h1 : on = 1
  · subst h1
    by_cases hw : who = 0
    · subst hw; simp
    · simp [hw]
  by_cases h2 : on = 2
  · subst h2
    by_cases h5 : d = 5
    · subst h5; simp
    · simp [h5]
  simp only [h1, h2, false_and, if_false] at l ⊢
  by_cases h0 : on = 0
  · subst h0; simp at l
  by_cases h3 : on = 3
  · subst h3; decide
  by_cases h4 : on = 4
  · subst h4; decide
  by_cases h5 : on = 5
  · subst h5; decide
  by_cases h10 : on = 10
  · subst h10; decide
  by_cases h8 : on = 8
  · subst h8; decide
  simp [h0, h3, h4, h5, h8, h10] at l
/-- what the reference writes of an action -/
noncomputable def actR (d n z c : Int) : Bs :=
  if d = 1 then actN 1 else if d = 2 then [114, 101, 100, 117, 99, 101, 32] ++ Lib.itoa n else if d = 3 then actN 3 else if d = 4 then [97, 100, 100, 32] ++ Lib.itoa n else if d = 5 then zoneT z
  else if d = 6 then actN 6 else if d = 7 then [119, 105, 116, 104, 32] ++ Lib.itoa n ++ [32] ++ Ctr.nameI c else actN 8
theorem act_ok {x : Rd} (o : Ok x) : actR x.d x.n x.z x.c = actT x.d x.n x.z x.c := by
  have ha := mem_act o.act
  obtain ⟨on, who, f, d, n, z, c⟩ := x
  simp only at *
  have : d = 1 ∨ d = 2 ∨ d = 3 ∨ d = 4 ∨ d = 5 ∨ d = 6 ∨ d = 7 ∨ d = 8 := by omega
  rcases this with rfl | rfl | rfl | rfl | rfl | rfl | rfl | rfl <;> simp [actR, actT, uN, uZ, uC, actN, actsL]
/-! what lies between the first brackets -/
def firstAt (c : UInt8) (s : Bs) (i : Nat) : Nat := i + ((s.drop i).takeWhile (· != c)).length
def midS (s : Bs) : Bs := if s.length ≤ firstAt 41 s (firstAt 40 s 0) then [] else Wd.slice s (firstAt 40 s 0 + 1) (firstAt 41 s (firstAt 40 s 0))
theorem takeW {c : UInt8} : ∀ {l : Bs} {k : Nat}, k ≤ l.length → (∀ j, j < k → l.getD j 0 ≠ c) → (k = l.length ∨ l.getD k 0 = c) → (l.takeWhile (· != c)).length = k
  | [], k, hk, _, _ => by simp at hk; subst hk; rfl
  | b :: l, 0, _, _, he => by
    rcases he with he | he
    · simp at he
    · have : b = c := by simpa using he
      subst this
      simp
  | b :: l, k + 1, hk, hn, he => by
    have h0 : b ≠ c := by simpa using hn 0 (by omega)
    rw [List.takeWhile_cons_of_pos (by simpa using h0), List.length_cons]
    rw [takeW (l := l) (k := k) (by simp at hk; omega) (fun j hj => by have := hn (j + 1) (by omega); simpa using this) (by
      rcases he with he | he
      · left; simp at he; omega
      · right; simpa using he)]
theorem firstAt_of {c : UInt8} {s : Bs} {i k : Nat} (hi : i ≤ k) (hk : k ≤ s.length) (hn : ∀ j, i ≤ j → j < k → s.getD j 0 ≠ c) (he : k = s.length ∨ s.getD k 0 = c) : firstAt c s i = k := by
  have hd : ∀ j, (s.drop i).getD j 0 = s.getD (i + j) 0 := fun j => by simp [List.getD]
  have := takeW (c := c) (l := s.drop i) (k := k - i) (by rw [List.length_drop]; omega) (fun j hj => by rw [hd]; exact hn _ (by omega) (by omega)) (by
    rw [hd, List.length_drop, show i + (k - i) = k by omega]
    rcases he with he | he
    · left; omega
    · exact .inr he)
  unfold firstAt
  rw [this]
  omega
theorem mid_text {p m r : Bs} (hp : ∀ b ∈ p, b ≠ 40) (hm : ∀ b ∈ m, brk b = false) : midS (p ++ 40 :: (m ++ 41 :: r)) = m := by
  have h40 : ∀ b ∈ m, b ≠ 41 := fun b hb e => by have := hm b hb; subst e; cases this
  have e0 : firstAt 40 (p ++ 40 :: (m ++ 41 :: r)) 0 = p.length := by
    refine firstAt_of (Nat.zero_le _) (by simp) (fun j _ hj => ?_) (.inr ?_)
    · rw [List.getD, List.getElem?_append_left hj, List.getElem?_eq_getElem hj]
      exact hp _ (List.getElem_mem _)
    · rw [List.getD, List.getElem?_append_right (Nat.le_refl _), Nat.sub_self]; rfl
  have e1 : firstAt 41 (p ++ 40 :: (m ++ 41 :: r)) p.length = p.length + 1 + m.length := by
    refine firstAt_of (by omega) (by simp; omega) (fun j h1 hj => ?_) (.inr ?_)
    · rw [List.getD, List.getElem?_append_right h1]
      by_cases hj0 : j = p.length
      · rw [hj0, Nat.sub_self]; simp
      · rw [show j - p.length = (j - p.length - 1) + 1 by omega, List.getElem?_cons_succ, List.getElem?_append_left (by omega), List.getElem?_eq_getElem (by omega)]
        exact h40 _ (List.getElem_mem _)
    · rw [List.getD, List.getElem?_append_right (by omega), show p.length + 1 + m.length - p.length = m.length + 1 by omega, List.getElem?_cons_succ, List.getElem?_append_right (Nat.le_refl _), Nat.sub_self]; rfl
  unfold midS
  rw [e0, e1, if_neg (by simp; omega)]
  unfold Wd.slice
  rw [show p ++ 40 :: (m ++ 41 :: r) = (p ++ 40 :: m) ++ 41 :: r by simp, show p.length + 1 + m.length = (p ++ 40 :: m).length by simp; omega, List.take_left, show p ++ 40 :: m = (p ++ [40]) ++ m by simp, show p.length + 1 = (p ++ [40]).length by simp, List.drop_left]
/-! the last number -/
def stW (a : List Bs × Bs) (b : UInt8) : List Bs × Bs := if b = 32 then (a.1 ++ [a.2], []) else (a.1, a.2 ++ [b])
def wst (s : Bs) : List Bs × Bs := s.foldl stW ([], [])
def wsp (s : Bs) : List Bs := (wst s).1 ++ [(wst s).2]
noncomputable def lastN (s : Bs) : Int :=
  match Num.numberL ((wsp s).getD ((wsp s).length - 1) []) with
  | some n => n
  | none => if 1 < (wsp s).length then numV ((wsp s).getD ((wsp s).length - 2) []) else 0
theorem wst_plain : ∀ (q : Bs) (a : List Bs × Bs), (∀ b ∈ q, b ≠ 32) → q.foldl stW a = (a.1, a.2 ++ q)
  | [], a, _ => by simp
  | b :: q, a, h => by
    rw [List.foldl_cons, stW, if_neg (h b (by simp)), wst_plain q _ fun x hx => h x (List.mem_cons_of_mem _ hx)]
    simp
theorem wsp_last (p : Bs) {q : Bs} (h : ∀ b ∈ q, b ≠ 32) : wsp (p ++ 32 :: q) = wsp p ++ [q] := by
  unfold wsp wst
  rw [List.foldl_append, List.foldl_cons, wst_plain q _ h]
  simp [stW]
theorem last_one (p : Bs) {n : Int} (h : 0 ≤ n ∧ n ≤ 99) : lastN (p ++ 32 :: Lib.itoa n) = n := by
  have hq : ∀ b ∈ Lib.itoa n, b ≠ 32 := fun b hb => (itoa_pl h.1 b hb).1
  unfold lastN
  rw [wsp_last p hq]
  rw [show (wsp p ++ [Lib.itoa n]).length - 1 = (wsp p).length by simp]
  rw [show (wsp p ++ [Lib.itoa n]).getD (wsp p).length [] = Lib.itoa n by simp [List.getD]]
  rw [Num.numberL_itoa_in (by omega) (by omega)]
theorem last_two (p : Bs) {n : Int} {q : Bs} (h : 0 ≤ n ∧ n ≤ 99) (h1 : ∀ b ∈ q, b ≠ 32) (h2 : Num.numberL q = none) : lastN (p ++ 32 :: (Lib.itoa n ++ 32 :: q)) = n := by
  have hq : ∀ b ∈ Lib.itoa n, b ≠ 32 := fun b hb => (itoa_pl h.1 b hb).1
  unfold lastN
  rw [show p ++ 32 :: (Lib.itoa n ++ 32 :: q) = (p ++ 32 :: Lib.itoa n) ++ 32 :: q by simp, wsp_last _ h1, wsp_last p hq]
  rw [show (wsp p ++ [Lib.itoa n] ++ [q]).length - 1 = (wsp p ++ [Lib.itoa n]).length by simp]
  rw [show (wsp p ++ [Lib.itoa n] ++ [q]).getD (wsp p ++ [Lib.itoa n]).length [] = q by simp [List.getD], h2]
  simp only
  rw [if_pos (by simp), show (wsp p ++ [Lib.itoa n] ++ [q]).length - 2 = (wsp p).length by simp, show (wsp p ++ [Lib.itoa n] ++ [q]).getD (wsp p).length [] = Lib.itoa n by simp [List.getD]]
  exact numV_itoa h
/-! the search -/
def putK (x : Rd) (k : Nat) : Rd := if k < 3 then { x with c := k } else { x with z := ((k - 3 : Nat) : Int) }
noncomputable def cndR (s : Bs) (r : Rd) (k m : Nat) : Rd := { putK r k with n := if m = 0 then 0 else lastN s }
noncomputable def hit (s : Bs) (r : Rd) (k m : Nat) : Bool := okB (cndR s r k m) && (textT (cndR s r k m) == s)
noncomputable def tryB (s : Bs) (r : Rd) : Bool := (List.range 8).any fun k => hit s r k 0 || hit s r k 1
noncomputable def tryV (s : Bs) (r : Rd) : Rd := if tryB s r then pV s else zero
def NoT (s : Bs) (r : Rd) (k m : Nat) : Prop := ∀ i j, i < k ∧ j < 2 ∨ i = k ∧ j < m → hit s r i j = false
theorem NoT.zero (s : Bs) (r : Rd) : NoT s r 0 0 := fun i j h => by omega
theorem NoT.next {s : Bs} {r : Rd} {k m : Nat} (h : NoT s r k m) (hk : hit s r k m = false) : NoT s r k (m + 1) := fun i j hij => by
  by_cases e : i = k ∧ j = m
  · obtain ⟨rfl, rfl⟩ := e; exact hk
  · exact h i j (by omega)
theorem NoT.row {s : Bs} {r : Rd} {k : Nat} (h : NoT s r k 2) : NoT s r (k + 1) 0 := fun i j hij => h i j (by omega)
theorem hit_try {s : Bs} {r : Rd} {k m : Nat} (hk : k < 8) (hm : m < 2) (h : hit s r k m = true) : tryB s r = true ∧ tryV s r = cndR s r k m := by
  have h1 : tryB s r = true := by
    unfold tryB
    refine List.any_eq_true.2 ⟨k, by simpa using hk, ?_⟩
    have : m = 0 ∨ m = 1 := by omega
    rcases this with rfl | rfl <;> simp [h]
  refine ⟨h1, ?_⟩
  unfold tryV
  rw [if_pos h1]
  unfold hit at h
  simp only [Bool.and_eq_true, beq_iff_eq] at h
  have := p_text h.1
  rw [h.2] at this
  exact this.1
theorem try_no {s : Bs} {r : Rd} (h : NoT s r 8 0) : tryB s r = false ∧ tryV s r = zero := by
  have h1 : tryB s r = false := by
    unfold tryB
    refine List.any_eq_false.2 fun k hk => ?_
    have hk' : k < 8 := by simpa using hk
    rw [h k 0 (by omega), h k 1 (by omega)]
    decide
  unfold tryV
  rw [h1]
  exact ⟨rfl, if_neg (by decide)⟩
theorem try_yes {s : Bs} {r : Rd} (h : tryB s r = true) : tryV s r = pV s ∧ pE s = 0 := by
  refine ⟨by unfold tryV; rw [if_pos h], ?_⟩
  unfold tryB at h
  obtain ⟨k, _, hk⟩ := List.any_eq_true.1 h
  have : ∃ m, hit s r k m = true := by
    cases h0 : hit s r k 0 with
    | true => exact ⟨0, h0⟩
    | false => rw [h0] at hk; exact ⟨1, by simpa using hk⟩
  obtain ⟨m, hm⟩ := this
  unfold hit at hm
  simp only [Bool.and_eq_true, beq_iff_eq] at hm
  have := p_text hm.1
  rw [hm.2] at this
  exact this.2
/-- the two bases of a round -/
def baseR (on d who : Nat) (f : Fil.Flt) : Rd := ⟨on, who, f, d, 0, 0, 0⟩
noncomputable def rowB (s : Bs) (on d who : Nat) : Bool := tryB s (baseR on d who Fil.zero) || tryB s (baseR on d who (Fil.parseV (midS s)))
def NoP (s : Bs) (on d who : Nat) : Prop := ∀ i j k, 1 ≤ i → 1 ≤ j → (i < on ∧ j ≤ 8 ∧ k ≤ 2 ∨ i = on ∧ j < d ∧ k ≤ 2 ∨ i = on ∧ j = d ∧ k < who) → rowB s i j k = false
theorem NoP.zero (s : Bs) : NoP s 1 1 0 := fun i j k h1 h2 h => by omega
theorem NoP.next {s : Bs} {on d who : Nat} (h : NoP s on d who) (hk : rowB s on d who = false) : NoP s on d (who + 1) := fun i j k h1 h2 hij => by
  by_cases e : i = on ∧ j = d ∧ k = who
  · obtain ⟨rfl, rfl, rfl⟩ := e; exact hk
  · exact h i j k h1 h2 (by omega)
theorem NoP.row {s : Bs} {on d : Nat} (h : NoP s on d 3) : NoP s on (d + 1) 0 := fun i j k h1 h2 hij => h i j k h1 h2 (by omega)
theorem NoP.col {s : Bs} {on : Nat} (h : NoP s on 9 0) : NoP s (on + 1) 1 0 := fun i j k h1 h2 hij => h i j k h1 h2 (by omega)
theorem head_no40 : ∀ k, k < 10 → ∀ b ∈ headL k, b ≠ 40 := by decide
theorem name_no32 : ∀ k, k < 3 → (∀ b ∈ Ctr.name k, b ≠ 32) ∧ (Ctr.name k).any (fun b => decide (57 < b.toNat)) = true ∧ (Ctr.name k).head? ≠ some 45 := by decide
theorem name_no_number (k : Nat) (hk : k < 3) : Num.numberL (Ctr.name k) = none := by
  have h := name_no32 k hk
  obtain ⟨b, hb, hd⟩ := List.any_eq_true.1 h.2.1
  cases hn : Ctr.name k with
  | nil => exact Num.numberL_nil
  | cons c r =>
    rw [hn] at hb h
    refine Num.numberL_pos_digit (c := c) (r := r) (fun e => h.2.2 ?_) hb (.inr (of_decide_eq_true hd))
    have : c = 45 := UInt8.toNat_inj.1 (by rw [e]; rfl)
    rw [this]
    rfl
/-- a valid effect is one of those that the search tries at its text -/
theorem cnd_text {x : Rd} (h : okB x = true) : ∃ f k m, (f = Fil.zero ∨ f = Fil.parseV (midS (textT x))) ∧ k < 8 ∧ m < 2 ∧ cndR (textT x) (baseR x.on.toNat x.d.toNat x.who.toNat f) k m = x := by
  have o := ok_parts h
  have ha := mem_act o.act
  have hon : 0 ≤ x.on := by
    have := o.ev
    have l := o.lo; have u := o.hi
    have key : ∀ F, F < 10 → 0 ≤ evOf F := by decide
    rw [← this]; exact key _ (by omega)
  have hw := o.whoY
  have ht := textT_ok h
  -- the filter
  have hf : ∃ f, (f = Fil.zero ∨ f = Fil.parseV (midS (textT x))) ∧ f = x.f := by
    cases hp : plW (formI x.on x.who x.d) with
    | true => exact ⟨Fil.zero, .inl rfl, (o.fY hp).symm⟩
    | false =>
      refine ⟨_, .inr rfl, ?_⟩
      have hv := (o.fN hp).1
      have e : textT x = (headL (formI x.on x.who x.d).toNat ++ [32]) ++ 40 :: (Fil.textF x.f ++ 41 :: (32 :: actT x.d x.n x.z x.c)) := by
        rw [ht]
        unfold raw subj Tg.partF
        rw [hp, if_neg (by decide), if_pos hv]
        simp
      rw [e, mid_text ?_ (text_brk hv)]
      · exact (Fil.parse_text hv).1
      · intro b hb
        rcases List.mem_append.1 hb with hb | hb
        · exact head_no40 _ (by have := o.hi; have := o.lo; omega) b hb
        · rw [List.mem_singleton] at hb; subst hb; decide
  -- the number
  have hm : ∃ m, m < 2 ∧ (if m = 0 then 0 else lastN (textT x)) = x.n := by
    cases hN : uN x.d with
    | false => exact ⟨0, by omega, (o.nN hN).symm⟩
    | true =>
      refine ⟨1, by omega, ?_⟩
      have hn := o.nY hN
      rw [if_neg (by decide)]
      have hZ : uZ x.d = false := by unfold uN at hN; unfold uZ; simp only [decide_eq_true_eq, decide_eq_false_iff_not] at *; omega
      obtain ⟨p, hp⟩ : ∃ p, textT x = p ++ 32 :: (Lib.itoa x.n ++ (if uC x.d then 32 :: Ctr.nameI x.c else [])) := by
        refine ⟨headL (formI x.on x.who x.d).toNat ++ 32 :: (subj x ++ 32 :: actN x.d.toNat), ?_⟩
        rw [ht]
        unfold raw actT
        rw [if_neg (by rw [hZ]; decide), hN, if_pos rfl]
        simp
      rw [hp]
      cases hC : uC x.d with
      | false => simp only [Bool.false_eq_true, if_false, List.append_nil]; exact last_one p (by omega)
      | true =>
        have hc := o.cY hC
        have en : Ctr.nameI x.c = Ctr.name x.c.toNat := by rw [← Ctr.nameI_nat, show ((x.c.toNat : Nat) : Int) = x.c by omega]
        rw [if_pos rfl, en]
        exact last_two p (by omega) (name_no32 _ (by omega)).1 (name_no_number _ (by omega))
  -- the zone or the kind
  have hk : ∃ k, k < 8 ∧ ∀ r : Rd, r.c = 0 → r.z = 0 → (putK r k) = { r with c := x.c, z := x.z } := by
    cases hZ : uZ x.d with
    | true =>
      have hz := o.zY hZ
      have hC : uC x.d = false := by unfold uZ at hZ; unfold uC; simp only [decide_eq_true_eq, decide_eq_false_iff_not] at *; omega
      have hc := o.cN hC
      refine ⟨x.z.toNat + 3, by omega, fun r h1 h2 => ?_⟩
      unfold putK
      rw [if_neg (by omega), hc, show ((x.z.toNat + 3 - 3 : Nat) : Int) = x.z by omega, ← h1]
    | false =>
      have hz := o.zN hZ
      cases hC : uC x.d with
      | true =>
        have hc := o.cY hC
        refine ⟨x.c.toNat, by omega, fun r h1 h2 => ?_⟩
        unfold putK
        rw [if_pos (by omega), hz, show ((x.c.toNat : Nat) : Int) = x.c by omega, ← h2]
      | false =>
        have hc := o.cN hC
        refine ⟨0, by omega, fun r h1 h2 => ?_⟩
        unfold putK
        rw [if_pos (by omega), hz, hc]
        cases r
        simp_all
  obtain ⟨f, hf1, hf2⟩ := hf
  obtain ⟨m, hm1, hm2⟩ := hm
  obtain ⟨k, hk1, hk2⟩ := hk
  refine ⟨f, k, m, hf1, hk1, hm1, ?_⟩
  unfold cndR
  rw [hk2 _ rfl rfl, hm2]
  unfold baseR
  obtain ⟨on, who, g, d, n, z, c⟩ := x
  simp only at *
  rw [Rd.mk.injEq]
  exact ⟨by omega, by omega, hf2, by omega, rfl, rfl, rfl⟩
theorem search_no {s : Bs} (h : NoP s 18 1 0) : pV s = zero ∧ pE s = 3 := by
  cases hb : pB s with
  | false => exact p_no hb
  | true =>
    exfalso
    obtain ⟨h1, h2, _, _⟩ := p_yes hb
    have o := ok_parts h1
    obtain ⟨f, k, m, hf, hk, hm, hc⟩ := cnd_text h1
    rw [h2] at hf hc
    have ha := mem_act o.act
    have hw := o.whoY
    have hon : 1 ≤ (pV s).on ∧ (pV s).on ≤ 10 := by
      have key : ∀ F, F < 10 → 1 ≤ F → 1 ≤ evOf F ∧ evOf F ≤ 10 := by decide
      rw [← o.ev]; have := o.lo; have := o.hi; exact key _ (by omega) (by omega)
    have hr := h (pV s).on.toNat (pV s).d.toNat (pV s).who.toNat (by omega) (by omega) (by omega)
    have hh : hit s (baseR (pV s).on.toNat (pV s).d.toNat (pV s).who.toNat f) k m = true := by
      unfold hit
      rw [hc, h1, h2]
      simp
    have ht := (hit_try hk hm hh).1
    unfold rowB at hr
    rw [Bool.or_eq_false_iff] at hr
    rcases hf with rfl | rfl
    · rw [hr.1] at ht; cases ht
    · rw [hr.2] at ht; cases ht
end Go.Proofs.YtkohfomiigcifaaGreatDoor.Ip
namespace Go.Proofs.YtkohfomiigcifaaGreatDoor
open Go.RowKit
open Wd (Bs)

set_option maxHeartbeats 8000000 in
set_option maxRecDepth 100000 in
theorem refFieldIn19 (f : Fil.Flt) (fs : ByteArray) (vF z0 : Bool) (w : World)
    (HF : Hid (∀ W, Below w.heap.size w W → Calls Tryz.prog 50 #[.agg (cellsF f fs)] W fun e w' => e = .returned (.bool vF) ∧ Below W.heap.size W w')) (hz : (f.zone == 0) = z0) :
    Calls Tryz.prog 28 #[.agg (cellsF f fs)] w fun e w' => e = .returned (.bool (vF && z0)) ∧ Below w.heap.size w w' := by

  have M := Mm.nil w
  go_enter Tryz.func28, Tryz.ntmps28
  go_upto_region 0 with fail
  refine wp_region_lit ?_
  with_reducible refine wA (cellsF f fs) M ?_; clear M; intro pB1 u M; refine ⟨_, by (simp only [pu, sB, s0, sS]; rfl), ?_⟩
  with_reducible refine rA ?_
  go_upto_region 1 with fail
  refine wp_region_lit ?_
  with_reducible refine wL 0 M whole_part Tryz.underlying25 (infoTF16 (cellsF_size f fs)) ?_
  with_reducible refine vC M (HF.out _ M.b) ?_; clear M; intro u M
  with_reducible refine rA ?_
  cases vF with
  | false =>
   iterate 3 (with_reducible refine kA ?_)
   iterate 2 (with_reducible refine rA ?_)
   go_wp2_with fail
   go_ret
   exact ⟨rfl, M.b⟩
  | true =>
   with_reducible refine rA ?_
   with_reducible refine wLv 0 M (show ((cellsF f fs))[0]? = some (.int .i64 f.zone) from rfl) Tryz.underlying3 ?_
   iterate 3 (with_reducible refine rA ?_)
   go_wp2_with fail
   go_ret
   exact ⟨rfl, M.b⟩

set_option maxHeartbeats 8000000 in
set_option maxRecDepth 100000 in
theorem refPlain19 (on who d n z c : Int) (f : Fil.Flt) (fs : ByteArray) (R : Bool) (w : World)
    (hR : Hid (R = Ip.plainR d n z c)) :
    Calls Tryz.prog 27 #[.agg (ipG on who (cellsF f fs) d n z c)] w fun e w' => e = .returned (.bool R) ∧ Below w.heap.size w w' := by

  have M := Mm.nil w
  go_enter Tryz.func27, Tryz.ntmps27
  go_upto_region 0 with fail
  refine wp_region_lit ?_
  with_reducible refine wA (ipG on who (cellsF f fs) d n z c) M ?_; clear M; intro pB1 u M; refine ⟨_, by (simp only [pu, sB, s0, sS]; rfl), ?_⟩
  with_reducible refine rA ?_
  go_upto_region 1 with fail
  refine wp_region_lit ?_
  with_reducible refine rA ?_
  with_reducible refine wLv 0 M (ipG_20 (cellsF_size f fs)) Tryz.underlying3 ?_
  obtain ⟨b1, hb1⟩ : ∃ b, (z == 0) = b := ⟨_, rfl⟩
  (with_reducible refine rB (.bool (!b1)) ?_ ?_); (· go_simp; (try simp only [bne, hb1]))
  with_reducible refine rA ?_
  cases b1 with
  | false =>
   iterate 3 (with_reducible refine kA ?_)
   with_reducible refine rA ?_
   go_upto_region 2 with fail
   refine wp_region_lit ?_
   with_reducible refine rA ?_
   have qhb1 : ¬ z = 0 := by simpa using hb1
   go_wp2_with fail
   go_ret
   exact ⟨ret_bool (show false = R from (by rw [hR.out]; unfold Ip.plainR; (first | (simp [qhb1]; done) | (simp [qhb1]; omega)))), M.b⟩
  | true =>
   with_reducible refine rA ?_
   with_reducible refine wLv 0 M (ipG_21 (cellsF_size f fs)) Tryz.underlying3 ?_
   obtain ⟨b2, hb2⟩ : ∃ b, (c == 0) = b := ⟨_, rfl⟩
   (with_reducible refine rB (.bool (!b2)) ?_ ?_); (· go_simp; (try simp only [bne, hb2]))
   with_reducible refine rA ?_
   cases b2 with
   | false =>
    go_upto_region 2 with fail
    refine wp_region_lit ?_
    with_reducible refine rA ?_
    have qhb1 : z = 0 := by simpa using hb1
    have qhb2 : ¬ c = 0 := by simpa using hb2
    go_wp2_with fail
    go_ret
    exact ⟨ret_bool (show false = R from (by rw [hR.out]; unfold Ip.plainR; (first | (simp [And.intro qhb1 qhb2]; done) | (simp [And.intro qhb1 qhb2]; omega)))), M.b⟩
   | true =>
    go_upto_region 3 with fail
    refine wp_region_lit ?_
    with_reducible refine rA ?_
    with_reducible refine wLv 0 M (ipG_18 (cellsF_size f fs)) Tryz.underlying3 ?_
    obtain ⟨b3, hb3⟩ : ∃ b, (d == 2) = b := ⟨_, rfl⟩
    iterate 2 (with_reducible refine rA ?_)
    cases b3 with
    | false =>
     with_reducible refine rA ?_
     with_reducible refine wLv 0 M (ipG_18 (cellsF_size f fs)) Tryz.underlying3 ?_
     obtain ⟨b4, hb4⟩ : ∃ b, (d == 4) = b := ⟨_, rfl⟩
     iterate 2 (with_reducible refine rA ?_)
     cases b4 with
     | false =>
      go_upto_region 5 with fail
      refine wp_region_lit ?_
      with_reducible refine rA ?_
      with_reducible refine wLv 0 M (ipG_19 (cellsF_size f fs)) Tryz.underlying3 ?_
      obtain ⟨b5, hb5⟩ : ∃ b, (n == 0) = b := ⟨_, rfl⟩
      iterate 2 (with_reducible refine rA ?_)
      have qhb1 : z = 0 := by simpa using hb1
      have qhb2 : c = 0 := by simpa using hb2
      have qhb3 : ¬ d = 2 := by simpa using hb3
      have qhb4 : ¬ d = 4 := by simpa using hb4
      go_wp2_with fail
      go_ret
      exact ⟨ret_bool (show b5 = R from (by rw [hR.out, ← hb5]; unfold Ip.plainR; rw [Bool.eq_iff_iff]; (first | (simp [And.intro qhb1 (And.intro qhb2 (And.intro qhb3 qhb4))]; done) | (simp [And.intro qhb1 (And.intro qhb2 (And.intro qhb3 qhb4))]; omega)))), M.b⟩
     | true =>
      go_upto_region 4 with fail
      refine wp_region_lit ?_
      with_reducible refine rA ?_
      with_reducible refine wLv 0 M (ipG_19 (cellsF_size f fs)) Tryz.underlying3 ?_
      obtain ⟨b6, hb6⟩ : ∃ b, decide (1 ≤ n) = b := ⟨_, rfl⟩
      iterate 2 (with_reducible refine rA ?_)
      cases b6 with
      | false =>
       iterate 3 (with_reducible refine kA ?_)
       iterate 2 (with_reducible refine rA ?_)
       have qhb1 : z = 0 := by simpa using hb1
       have qhb2 : c = 0 := by simpa using hb2
       have qhb3 : ¬ d = 2 := by simpa using hb3
       have qhb4 : d = 4 := by simpa using hb4
       have qhb6 := of_decide_eq_false hb6
       go_wp2_with fail
       go_ret
       exact ⟨ret_bool (show false = R from (by rw [hR.out]; unfold Ip.plainR; (first | (simp [And.intro qhb1 (And.intro qhb2 (And.intro qhb3 (And.intro qhb4 qhb6)))]; done) | (simp [And.intro qhb1 (And.intro qhb2 (And.intro qhb3 (And.intro qhb4 qhb6)))]; omega)))), M.b⟩
      | true =>
       with_reducible refine rA ?_
       with_reducible refine wLv 0 M (ipG_19 (cellsF_size f fs)) Tryz.underlying3 ?_
       obtain ⟨b7, hb7⟩ : ∃ b, decide (n ≤ 99) = b := ⟨_, rfl⟩
       iterate 3 (with_reducible refine rA ?_)
       have qhb1 : z = 0 := by simpa using hb1
       have qhb2 : c = 0 := by simpa using hb2
       have qhb3 : ¬ d = 2 := by simpa using hb3
       have qhb4 : d = 4 := by simpa using hb4
       have qhb6 := of_decide_eq_true hb6
       go_wp2_with fail
       go_ret
       exact ⟨ret_bool (show b7 = R from (by rw [hR.out, ← hb7]; unfold Ip.plainR; rw [Bool.eq_iff_iff]; (first | (simp [And.intro qhb1 (And.intro qhb2 (And.intro qhb3 (And.intro qhb4 qhb6)))]; done) | (simp [And.intro qhb1 (And.intro qhb2 (And.intro qhb3 (And.intro qhb4 qhb6)))]; omega)))), M.b⟩
    | true =>
     iterate 3 (with_reducible refine kA ?_)
     with_reducible refine rA ?_
     go_upto_region 4 with fail
     refine wp_region_lit ?_
     with_reducible refine rA ?_
     with_reducible refine wLv 0 M (ipG_19 (cellsF_size f fs)) Tryz.underlying3 ?_
     obtain ⟨b8, hb8⟩ : ∃ b, decide (1 ≤ n) = b := ⟨_, rfl⟩
     iterate 2 (with_reducible refine rA ?_)
     cases b8 with
     | false =>
      iterate 3 (with_reducible refine kA ?_)
      iterate 2 (with_reducible refine rA ?_)
      have qhb1 : z = 0 := by simpa using hb1
      have qhb2 : c = 0 := by simpa using hb2
      have qhb3 : d = 2 := by simpa using hb3
      have qhb8 := of_decide_eq_false hb8
      go_wp2_with fail
      go_ret
      exact ⟨ret_bool (show false = R from (by rw [hR.out]; unfold Ip.plainR; (first | (simp [And.intro qhb1 (And.intro qhb2 (And.intro qhb3 qhb8))]; done) | (simp [And.intro qhb1 (And.intro qhb2 (And.intro qhb3 qhb8))]; omega)))), M.b⟩
     | true =>
      with_reducible refine rA ?_
      with_reducible refine wLv 0 M (ipG_19 (cellsF_size f fs)) Tryz.underlying3 ?_
      obtain ⟨b9, hb9⟩ : ∃ b, decide (n ≤ 99) = b := ⟨_, rfl⟩
      iterate 3 (with_reducible refine rA ?_)
      have qhb1 : z = 0 := by simpa using hb1
      have qhb2 : c = 0 := by simpa using hb2
      have qhb3 : d = 2 := by simpa using hb3
      have qhb8 := of_decide_eq_true hb8
      go_wp2_with fail
      go_ret
      exact ⟨ret_bool (show b9 = R from (by rw [hR.out, ← hb9]; unfold Ip.plainR; rw [Bool.eq_iff_iff]; (first | (simp [And.intro qhb1 (And.intro qhb2 (And.intro qhb3 qhb8))]; done) | (simp [And.intro qhb1 (And.intro qhb2 (And.intro qhb3 qhb8))]; omega)))), M.b⟩

set_option maxHeartbeats 8000000 in
set_option maxRecDepth 100000 in
theorem refMovesIn19 (on who d n z c : Int) (f : Fil.Flt) (fs : ByteArray) (R fld : Bool) (w : World)
    (HF : Hid (∀ W, Below w.heap.size w W → Calls Tryz.prog 28 #[.agg (cellsF f fs)] W fun e w' => e = .returned (.bool fld) ∧ Below W.heap.size W w')) (hR : Hid (R = Ip.movesR who d n z c fld)) :
    Calls Tryz.prog 26 #[.agg (ipG on who (cellsF f fs) d n z c)] w fun e w' => e = .returned (.bool R) ∧ Below w.heap.size w w' := by

  have M := Mm.nil w
  go_enter Tryz.func26, Tryz.ntmps26
  go_upto_region 0 with fail
  refine wp_region_lit ?_
  with_reducible refine wA (ipG on who (cellsF f fs) d n z c) M ?_; clear M; intro pB1 u M; refine ⟨_, by (simp only [pu, sB, s0, sS]; rfl), ?_⟩
  with_reducible refine rA ?_
  go_upto_region 1 with fail
  refine wp_region_lit ?_
  with_reducible refine rA ?_
  with_reducible refine wLv 0 M ipG_1 Tryz.underlying3 ?_
  obtain ⟨b1, hb1⟩ : ∃ b, (who == 0) = b := ⟨_, rfl⟩
  (with_reducible refine rB (.bool (!b1)) ?_ ?_); (· go_simp; (try simp only [bne, hb1]))
  with_reducible refine rA ?_
  cases b1 with
  | false =>
   iterate 4 (with_reducible refine kA ?_)
   with_reducible refine rA ?_
   go_upto_region 2 with fail
   refine wp_region_lit ?_
   with_reducible refine rA ?_
   have qhb1 : ¬ who = 0 := by simpa using hb1
   go_wp2_with fail
   go_ret
   exact ⟨ret_bool (show false = R from (by rw [hR.out]; unfold Ip.movesR; (first | (simp [qhb1]; done) | (simp [qhb1]; omega)))), M.b⟩
  | true =>
   with_reducible refine rA ?_
   with_reducible refine wL 0 M ipG_f Tryz.underlying25 (infoTF16 (cellsF_size f fs)) ?_
   with_reducible refine vC M (HF.out _ M.b) ?_; clear M; intro u M
   iterate 2 (with_reducible refine rA ?_)
   cases fld with
   | false =>
    go_upto_region 2 with fail
    refine wp_region_lit ?_
    with_reducible refine rA ?_
    have qhb1 : who = 0 := by simpa using hb1
    go_wp2_with fail
    go_ret
    exact ⟨ret_bool (show false = R from (by rw [hR.out]; unfold Ip.movesR; (first | (simp [qhb1]; done) | (simp [qhb1]; omega)))), M.b⟩
   | true =>
    go_upto_region 3 with fail
    refine wp_region_lit ?_
    with_reducible refine rA ?_
    with_reducible refine wLv 0 M (ipG_18 (cellsF_size f fs)) Tryz.underlying3 ?_
    go_upto_region 4 with fail
    refine wp_region_lit ?_
    obtain ⟨b2, hb2⟩ : ∃ b, (d == 5) = b := ⟨_, rfl⟩
    iterate 2 (with_reducible refine rA ?_)
    cases b2 with
    | false =>
     go_upto_region 6 with fail
     refine wp_region_lit ?_
     obtain ⟨b3, hb3⟩ : ∃ b, (d == 6) = b := ⟨_, rfl⟩
     iterate 2 (with_reducible refine rA ?_)
     cases b3 with
     | false =>
      go_upto_region 8 with fail
      refine wp_region_lit ?_
      obtain ⟨b4, hb4⟩ : ∃ b, (d == 7) = b := ⟨_, rfl⟩
      iterate 2 (with_reducible refine rA ?_)
      cases b4 with
      | false =>
       go_upto_region 10 with fail
       refine wp_region_lit ?_
       with_reducible refine rA ?_
       have qhb1 : who = 0 := by simpa using hb1
       have qhb2 : ¬ d = 5 := by simpa using hb2
       have qhb3 : ¬ d = 6 := by simpa using hb3
       have qhb4 : ¬ d = 7 := by simpa using hb4
       go_wp2_with fail
       go_ret
       exact ⟨ret_bool (show false = R from (by rw [hR.out]; unfold Ip.movesR; (first | (simp [And.intro qhb1 (And.intro qhb2 (And.intro qhb3 qhb4))]; done) | (simp [And.intro qhb1 (And.intro qhb2 (And.intro qhb3 qhb4))]; omega)))), M.b⟩
      | true =>
       go_upto_region 9 with fail
       refine wp_region_lit ?_
       with_reducible refine rA ?_
       with_reducible refine wLv 0 M (ipG_20 (cellsF_size f fs)) Tryz.underlying3 ?_
       obtain ⟨b5, hb5⟩ : ∃ b, (z == 0) = b := ⟨_, rfl⟩
       iterate 2 (with_reducible refine rA ?_)
       cases b5 with
       | false =>
        iterate 3 (with_reducible refine kA ?_)
        iterate 2 (with_reducible refine rA ?_)
        iterate 3 (with_reducible refine kA ?_)
        iterate 2 (with_reducible refine rA ?_)
        iterate 3 (with_reducible refine kA ?_)
        iterate 2 (with_reducible refine rA ?_)
        iterate 3 (with_reducible refine kA ?_)
        iterate 2 (with_reducible refine rA ?_)
        have qhb1 : who = 0 := by simpa using hb1
        have qhb2 : ¬ d = 5 := by simpa using hb2
        have qhb3 : ¬ d = 6 := by simpa using hb3
        have qhb4 : d = 7 := by simpa using hb4
        have qhb5 : ¬ z = 0 := by simpa using hb5
        go_wp2_with fail
        go_ret
        exact ⟨ret_bool (show false = R from (by rw [hR.out]; unfold Ip.movesR; (first | (simp [And.intro qhb1 (And.intro qhb2 (And.intro qhb3 (And.intro qhb4 qhb5)))]; done) | (simp [And.intro qhb1 (And.intro qhb2 (And.intro qhb3 (And.intro qhb4 qhb5)))]; omega)))), M.b⟩
       | true =>
        with_reducible refine rA ?_
        with_reducible refine wLv 0 M (ipG_19 (cellsF_size f fs)) Tryz.underlying3 ?_
        obtain ⟨b6, hb6⟩ : ∃ b, decide (1 ≤ n) = b := ⟨_, rfl⟩
        iterate 3 (with_reducible refine rA ?_)
        cases b6 with
        | false =>
         iterate 3 (with_reducible refine kA ?_)
         iterate 2 (with_reducible refine rA ?_)
         iterate 3 (with_reducible refine kA ?_)
         iterate 2 (with_reducible refine rA ?_)
         iterate 3 (with_reducible refine kA ?_)
         iterate 2 (with_reducible refine rA ?_)
         have qhb1 : who = 0 := by simpa using hb1
         have qhb2 : ¬ d = 5 := by simpa using hb2
         have qhb3 : ¬ d = 6 := by simpa using hb3
         have qhb4 : d = 7 := by simpa using hb4
         have qhb5 : z = 0 := by simpa using hb5
         have qhb6 := of_decide_eq_false hb6
         go_wp2_with fail
         go_ret
         exact ⟨ret_bool (show false = R from (by rw [hR.out]; unfold Ip.movesR; (first | (simp [And.intro qhb1 (And.intro qhb2 (And.intro qhb3 (And.intro qhb4 (And.intro qhb5 qhb6))))]; done) | (simp [And.intro qhb1 (And.intro qhb2 (And.intro qhb3 (And.intro qhb4 (And.intro qhb5 qhb6))))]; omega)))), M.b⟩
        | true =>
         with_reducible refine rA ?_
         with_reducible refine wLv 0 M (ipG_19 (cellsF_size f fs)) Tryz.underlying3 ?_
         obtain ⟨b7, hb7⟩ : ∃ b, decide (n ≤ 99) = b := ⟨_, rfl⟩
         iterate 3 (with_reducible refine rA ?_)
         cases b7 with
         | false =>
          iterate 3 (with_reducible refine kA ?_)
          iterate 2 (with_reducible refine rA ?_)
          iterate 3 (with_reducible refine kA ?_)
          iterate 2 (with_reducible refine rA ?_)
          have qhb1 : who = 0 := by simpa using hb1
          have qhb2 : ¬ d = 5 := by simpa using hb2
          have qhb3 : ¬ d = 6 := by simpa using hb3
          have qhb4 : d = 7 := by simpa using hb4
          have qhb5 : z = 0 := by simpa using hb5
          have qhb6 := of_decide_eq_true hb6
          have qhb7 := of_decide_eq_false hb7
          go_wp2_with fail
          go_ret
          exact ⟨ret_bool (show false = R from (by rw [hR.out]; unfold Ip.movesR; (first | (simp [And.intro qhb1 (And.intro qhb2 (And.intro qhb3 (And.intro qhb4 (And.intro qhb5 (And.intro qhb6 qhb7)))))]; done) | (simp [And.intro qhb1 (And.intro qhb2 (And.intro qhb3 (And.intro qhb4 (And.intro qhb5 (And.intro qhb6 qhb7)))))]; omega)))), M.b⟩
         | true =>
          with_reducible refine rA ?_
          with_reducible refine wLv 0 M (ipG_21 (cellsF_size f fs)) Tryz.underlying3 ?_
          obtain ⟨b8, hb8⟩ : ∃ b, decide (0 ≤ c) = b := ⟨_, rfl⟩
          iterate 3 (with_reducible refine rA ?_)
          cases b8 with
          | false =>
           iterate 3 (with_reducible refine kA ?_)
           iterate 2 (with_reducible refine rA ?_)
           have qhb1 : who = 0 := by simpa using hb1
           have qhb2 : ¬ d = 5 := by simpa using hb2
           have qhb3 : ¬ d = 6 := by simpa using hb3
           have qhb4 : d = 7 := by simpa using hb4
           have qhb5 : z = 0 := by simpa using hb5
           have qhb6 := of_decide_eq_true hb6
           have qhb7 := of_decide_eq_true hb7
           have qhb8 := of_decide_eq_false hb8
           go_wp2_with fail
           go_ret
           exact ⟨ret_bool (show false = R from (by rw [hR.out]; unfold Ip.movesR; (first | (simp [And.intro qhb1 (And.intro qhb2 (And.intro qhb3 (And.intro qhb4 (And.intro qhb5 (And.intro qhb6 (And.intro qhb7 qhb8))))))]; done) | (simp [And.intro qhb1 (And.intro qhb2 (And.intro qhb3 (And.intro qhb4 (And.intro qhb5 (And.intro qhb6 (And.intro qhb7 qhb8))))))]; omega)))), M.b⟩
          | true =>
           with_reducible refine rA ?_
           with_reducible refine wLv 0 M (ipG_21 (cellsF_size f fs)) Tryz.underlying3 ?_
           obtain ⟨b9, hb9⟩ : ∃ b, decide (c < 3) = b := ⟨_, rfl⟩
           iterate 3 (with_reducible refine rA ?_)
           have qhb1 : who = 0 := by simpa using hb1
           have qhb2 : ¬ d = 5 := by simpa using hb2
           have qhb3 : ¬ d = 6 := by simpa using hb3
           have qhb4 : d = 7 := by simpa using hb4
           have qhb5 : z = 0 := by simpa using hb5
           have qhb6 := of_decide_eq_true hb6
           have qhb7 := of_decide_eq_true hb7
           have qhb8 := of_decide_eq_true hb8
           go_wp2_with fail
           go_ret
           exact ⟨ret_bool (show b9 = R from (by rw [hR.out, ← hb9]; unfold Ip.movesR; rw [Bool.eq_iff_iff]; (first | (simp [And.intro qhb1 (And.intro qhb2 (And.intro qhb3 (And.intro qhb4 (And.intro qhb5 (And.intro qhb6 (And.intro qhb7 qhb8))))))]; done) | (simp [And.intro qhb1 (And.intro qhb2 (And.intro qhb3 (And.intro qhb4 (And.intro qhb5 (And.intro qhb6 (And.intro qhb7 qhb8))))))]; omega)))), M.b⟩
     | true =>
      go_upto_region 7 with fail
      refine wp_region_lit ?_
      with_reducible refine rA ?_
      with_reducible refine wLv 0 M (ipG_19 (cellsF_size f fs)) Tryz.underlying3 ?_
      obtain ⟨b10, hb10⟩ : ∃ b, (n == 0) = b := ⟨_, rfl⟩
      iterate 2 (with_reducible refine rA ?_)
      cases b10 with
      | false =>
       iterate 3 (with_reducible refine kA ?_)
       iterate 2 (with_reducible refine rA ?_)
       iterate 3 (with_reducible refine kA ?_)
       iterate 2 (with_reducible refine rA ?_)
       have qhb1 : who = 0 := by simpa using hb1
       have qhb2 : ¬ d = 5 := by simpa using hb2
       have qhb3 : d = 6 := by simpa using hb3
       have qhb10 : ¬ n = 0 := by simpa using hb10
       go_wp2_with fail
       go_ret
       exact ⟨ret_bool (show false = R from (by rw [hR.out]; unfold Ip.movesR; (first | (simp [And.intro qhb1 (And.intro qhb2 (And.intro qhb3 qhb10))]; done) | (simp [And.intro qhb1 (And.intro qhb2 (And.intro qhb3 qhb10))]; omega)))), M.b⟩
      | true =>
       with_reducible refine rA ?_
       with_reducible refine wLv 0 M (ipG_21 (cellsF_size f fs)) Tryz.underlying3 ?_
       obtain ⟨b11, hb11⟩ : ∃ b, (c == 0) = b := ⟨_, rfl⟩
       iterate 3 (with_reducible refine rA ?_)
       cases b11 with
       | false =>
        iterate 3 (with_reducible refine kA ?_)
        iterate 2 (with_reducible refine rA ?_)
        have qhb1 : who = 0 := by simpa using hb1
        have qhb2 : ¬ d = 5 := by simpa using hb2
        have qhb3 : d = 6 := by simpa using hb3
        have qhb10 : n = 0 := by simpa using hb10
        have qhb11 : ¬ c = 0 := by simpa using hb11
        go_wp2_with fail
        go_ret
        exact ⟨ret_bool (show false = R from (by rw [hR.out]; unfold Ip.movesR; (first | (simp [And.intro qhb1 (And.intro qhb2 (And.intro qhb3 (And.intro qhb10 qhb11)))]; done) | (simp [And.intro qhb1 (And.intro qhb2 (And.intro qhb3 (And.intro qhb10 qhb11)))]; omega)))), M.b⟩
       | true =>
        with_reducible refine rA ?_
        with_reducible refine wLv 0 M (ipG_20 (cellsF_size f fs)) Tryz.underlying3 ?_
        obtain ⟨b12, hb12⟩ : ∃ b, (z == 0) = b := ⟨_, rfl⟩
        iterate 3 (with_reducible refine rA ?_)
        have qhb1 : who = 0 := by simpa using hb1
        have qhb2 : ¬ d = 5 := by simpa using hb2
        have qhb3 : d = 6 := by simpa using hb3
        have qhb10 : n = 0 := by simpa using hb10
        have qhb11 : c = 0 := by simpa using hb11
        go_wp2_with fail
        go_ret
        exact ⟨ret_bool (show b12 = R from (by rw [hR.out, ← hb12]; unfold Ip.movesR; rw [Bool.eq_iff_iff]; (first | (simp [And.intro qhb1 (And.intro qhb2 (And.intro qhb3 (And.intro qhb10 qhb11)))]; done) | (simp [And.intro qhb1 (And.intro qhb2 (And.intro qhb3 (And.intro qhb10 qhb11)))]; omega)))), M.b⟩
    | true =>
     go_upto_region 5 with fail
     refine wp_region_lit ?_
     with_reducible refine rA ?_
     with_reducible refine wLv 0 M (ipG_19 (cellsF_size f fs)) Tryz.underlying3 ?_
     obtain ⟨b13, hb13⟩ : ∃ b, (n == 0) = b := ⟨_, rfl⟩
     iterate 2 (with_reducible refine rA ?_)
     cases b13 with
     | false =>
      iterate 3 (with_reducible refine kA ?_)
      iterate 2 (with_reducible refine rA ?_)
      iterate 13 (with_reducible refine kA ?_)
      iterate 2 (with_reducible refine rA ?_)
      have qhb1 : who = 0 := by simpa using hb1
      have qhb2 : d = 5 := by simpa using hb2
      have qhb13 : ¬ n = 0 := by simpa using hb13
      go_wp2_with fail
      go_ret
      exact ⟨ret_bool (show false = R from (by rw [hR.out]; unfold Ip.movesR; (first | (simp [And.intro qhb1 (And.intro qhb2 qhb13)]; done) | (simp [And.intro qhb1 (And.intro qhb2 qhb13)]; omega)))), M.b⟩
     | true =>
      with_reducible refine rA ?_
      with_reducible refine wLv 0 M (ipG_21 (cellsF_size f fs)) Tryz.underlying3 ?_
      obtain ⟨b14, hb14⟩ : ∃ b, (c == 0) = b := ⟨_, rfl⟩
      iterate 3 (with_reducible refine rA ?_)
      cases b14 with
      | false =>
       iterate 13 (with_reducible refine kA ?_)
       iterate 2 (with_reducible refine rA ?_)
       have qhb1 : who = 0 := by simpa using hb1
       have qhb2 : d = 5 := by simpa using hb2
       have qhb13 : n = 0 := by simpa using hb13
       have qhb14 : ¬ c = 0 := by simpa using hb14
       go_wp2_with fail
       go_ret
       exact ⟨ret_bool (show false = R from (by rw [hR.out]; unfold Ip.movesR; (first | (simp [And.intro qhb1 (And.intro qhb2 (And.intro qhb13 qhb14))]; done) | (simp [And.intro qhb1 (And.intro qhb2 (And.intro qhb13 qhb14))]; omega)))), M.b⟩
      | true =>
       with_reducible refine rA ?_
       with_reducible refine wLv 0 M (ipG_20 (cellsF_size f fs)) Tryz.underlying3 ?_
       obtain ⟨b15, hb15⟩ : ∃ b, (z == 1) = b := ⟨_, rfl⟩
       iterate 2 (with_reducible refine rA ?_)
       cases b15 with
       | false =>
        with_reducible refine rA ?_
        with_reducible refine wLv 0 M (ipG_20 (cellsF_size f fs)) Tryz.underlying3 ?_
        obtain ⟨b16, hb16⟩ : ∃ b, (z == 2) = b := ⟨_, rfl⟩
        iterate 3 (with_reducible refine rA ?_)
        cases b16 with
        | false =>
         with_reducible refine rA ?_
         with_reducible refine wLv 0 M (ipG_20 (cellsF_size f fs)) Tryz.underlying3 ?_
         obtain ⟨b17, hb17⟩ : ∃ b, (z == 4) = b := ⟨_, rfl⟩
         iterate 4 (with_reducible refine rA ?_)
         have qhb1 : who = 0 := by simpa using hb1
         have qhb2 : d = 5 := by simpa using hb2
         have qhb13 : n = 0 := by simpa using hb13
         have qhb14 : c = 0 := by simpa using hb14
         have qhb15 : ¬ z = 1 := by simpa using hb15
         have qhb16 : ¬ z = 2 := by simpa using hb16
         go_wp2_with fail
         go_ret
         exact ⟨ret_bool (show b17 = R from (by rw [hR.out, ← hb17]; unfold Ip.movesR; rw [Bool.eq_iff_iff]; (first | (simp [And.intro qhb1 (And.intro qhb2 (And.intro qhb13 (And.intro qhb14 (And.intro qhb15 qhb16))))]; done) | (simp [And.intro qhb1 (And.intro qhb2 (And.intro qhb13 (And.intro qhb14 (And.intro qhb15 qhb16))))]; omega)))), M.b⟩
        | true =>
         iterate 3 (with_reducible refine kA ?_)
         iterate 3 (with_reducible refine rA ?_)
         have qhb1 : who = 0 := by simpa using hb1
         have qhb2 : d = 5 := by simpa using hb2
         have qhb13 : n = 0 := by simpa using hb13
         have qhb14 : c = 0 := by simpa using hb14
         have qhb15 : ¬ z = 1 := by simpa using hb15
         have qhb16 : z = 2 := by simpa using hb16
         go_wp2_with fail
         go_ret
         exact ⟨ret_bool (show true = R from (by rw [hR.out]; unfold Ip.movesR; (first | (simp [And.intro qhb1 (And.intro qhb2 (And.intro qhb13 (And.intro qhb14 (And.intro qhb15 qhb16))))]; done) | (simp [And.intro qhb1 (And.intro qhb2 (And.intro qhb13 (And.intro qhb14 (And.intro qhb15 qhb16))))]; omega)))), M.b⟩
       | true =>
        iterate 3 (with_reducible refine kA ?_)
        iterate 2 (with_reducible refine rA ?_)
        iterate 3 (with_reducible refine kA ?_)
        iterate 3 (with_reducible refine rA ?_)
        have qhb1 : who = 0 := by simpa using hb1
        have qhb2 : d = 5 := by simpa using hb2
        have qhb13 : n = 0 := by simpa using hb13
        have qhb14 : c = 0 := by simpa using hb14
        have qhb15 : z = 1 := by simpa using hb15
        go_wp2_with fail
        go_ret
        exact ⟨ret_bool (show true = R from (by rw [hR.out]; unfold Ip.movesR; (first | (simp [And.intro qhb1 (And.intro qhb2 (And.intro qhb13 (And.intro qhb14 qhb15)))]; done) | (simp [And.intro qhb1 (And.intro qhb2 (And.intro qhb13 (And.intro qhb14 qhb15)))]; omega)))), M.b⟩
end Go.Proofs.YtkohfomiigcifaaGreatDoor
namespace Go.Proofs.YtkohfomiigcifaaGreatDoor
open Go.RowKit
open Wd (Bs)

set_option maxHeartbeats 8000000 in
set_option maxRecDepth 100000 in
theorem refWord19 (on who d n z c : Int) (f : Fil.Flt) (fs : ByteArray) (k : Nat) (w : World)
    (hR : Hid (k = Ip.wordI on who d)) :
    Calls Tryz.prog 33 #[.agg (ipG on who (cellsF f fs) d n z c)] w fun e w' => e = .returned (.string ⟨(Ip.headL k).toArray⟩) ∧ Below w.heap.size w w' := by

  have M := Mm.nil w
  go_enter Tryz.func33, Tryz.ntmps33
  go_upto_region 0 with fail
  refine wp_region_lit ?_
  with_reducible refine wA (ipG on who (cellsF f fs) d n z c) M ?_; clear M; intro pB1 u M; refine ⟨_, by (simp only [pu, sB, s0, sS]; rfl), ?_⟩
  with_reducible refine rA ?_
  go_upto_region 1 with fail
  refine wp_region_lit ?_
  with_reducible refine rA ?_
  with_reducible refine wLv 0 M ipG_0 Tryz.underlying3 ?_
  go_upto_region 2 with fail
  refine wp_region_lit ?_
  obtain ⟨b1, hb1⟩ : ∃ b, (on == 1) = b := ⟨_, rfl⟩
  iterate 2 (with_reducible refine rA ?_)
  cases b1 with
  | false =>
   go_upto_region 6 with fail
   refine wp_region_lit ?_
   obtain ⟨b2, hb2⟩ : ∃ b, (on == 2) = b := ⟨_, rfl⟩
   iterate 2 (with_reducible refine rA ?_)
   cases b2 with
   | false =>
    go_upto_region 10 with fail
    refine wp_region_lit ?_
    obtain ⟨b3, hb3⟩ : ∃ b, (on == 3) = b := ⟨_, rfl⟩
    iterate 2 (with_reducible refine rA ?_)
    cases b3 with
    | false =>
     go_upto_region 12 with fail
     refine wp_region_lit ?_
     obtain ⟨b4, hb4⟩ : ∃ b, (on == 4) = b := ⟨_, rfl⟩
     iterate 2 (with_reducible refine rA ?_)
     cases b4 with
     | false =>
      go_upto_region 14 with fail
      refine wp_region_lit ?_
      obtain ⟨b5, hb5⟩ : ∃ b, (on == 5) = b := ⟨_, rfl⟩
      iterate 2 (with_reducible refine rA ?_)
      cases b5 with
      | false =>
       go_upto_region 16 with fail
       refine wp_region_lit ?_
       obtain ⟨b6, hb6⟩ : ∃ b, (on == 10) = b := ⟨_, rfl⟩
       iterate 2 (with_reducible refine rA ?_)
       cases b6 with
       | false =>
        go_upto_region 18 with fail
        refine wp_region_lit ?_
        with_reducible refine rA ?_
        have qhb1 : ¬ on = 1 := by simpa using hb1
        have qhb2 : ¬ on = 2 := by simpa using hb2
        have qhb3 : ¬ on = 3 := by simpa using hb3
        have qhb4 : ¬ on = 4 := by simpa using hb4
        have qhb5 : ¬ on = 5 := by simpa using hb5
        have qhb6 : ¬ on = 10 := by simpa using hb6
        go_wp2_with fail
        go_ret
        exact ⟨by rw [hR.out, show Ip.wordI on who d = 9 from by unfold Ip.wordI; simp [And.intro qhb1 (And.intro qhb2 (And.intro qhb3 (And.intro qhb4 (And.intro qhb5 qhb6))))]]; rfl, M.b⟩
       | true =>
        go_upto_region 17 with fail
        refine wp_region_lit ?_
        with_reducible refine rA ?_
        have qhb1 : ¬ on = 1 := by simpa using hb1
        have qhb2 : ¬ on = 2 := by simpa using hb2
        have qhb3 : ¬ on = 3 := by simpa using hb3
        have qhb4 : ¬ on = 4 := by simpa using hb4
        have qhb5 : ¬ on = 5 := by simpa using hb5
        have qhb6 : on = 10 := by simpa using hb6
        go_wp2_with fail
        go_ret
        exact ⟨by rw [hR.out, show Ip.wordI on who d = 8 from by unfold Ip.wordI; simp [And.intro qhb1 (And.intro qhb2 (And.intro qhb3 (And.intro qhb4 (And.intro qhb5 qhb6))))]]; rfl, M.b⟩
      | true =>
       go_upto_region 15 with fail
       refine wp_region_lit ?_
       with_reducible refine rA ?_
       have qhb1 : ¬ on = 1 := by simpa using hb1
       have qhb2 : ¬ on = 2 := by simpa using hb2
       have qhb3 : ¬ on = 3 := by simpa using hb3
       have qhb4 : ¬ on = 4 := by simpa using hb4
       have qhb5 : on = 5 := by simpa using hb5
       go_wp2_with fail
       go_ret
       exact ⟨by rw [hR.out, show Ip.wordI on who d = 7 from by unfold Ip.wordI; simp [And.intro qhb1 (And.intro qhb2 (And.intro qhb3 (And.intro qhb4 qhb5)))]]; rfl, M.b⟩
     | true =>
      go_upto_region 13 with fail
      refine wp_region_lit ?_
      with_reducible refine rA ?_
      have qhb1 : ¬ on = 1 := by simpa using hb1
      have qhb2 : ¬ on = 2 := by simpa using hb2
      have qhb3 : ¬ on = 3 := by simpa using hb3
      have qhb4 : on = 4 := by simpa using hb4
      go_wp2_with fail
      go_ret
      exact ⟨by rw [hR.out, show Ip.wordI on who d = 6 from by unfold Ip.wordI; simp [And.intro qhb1 (And.intro qhb2 (And.intro qhb3 qhb4))]]; rfl, M.b⟩
    | true =>
     go_upto_region 11 with fail
     refine wp_region_lit ?_
     with_reducible refine rA ?_
     have qhb1 : ¬ on = 1 := by simpa using hb1
     have qhb2 : ¬ on = 2 := by simpa using hb2
     have qhb3 : on = 3 := by simpa using hb3
     go_wp2_with fail
     go_ret
     exact ⟨by rw [hR.out, show Ip.wordI on who d = 5 from by unfold Ip.wordI; simp [And.intro qhb1 (And.intro qhb2 qhb3)]]; rfl, M.b⟩
   | true =>
    go_upto_region 7 with fail
    refine wp_region_lit ?_
    with_reducible refine rA ?_
    with_reducible refine wLv 0 M (ipG_18 (cellsF_size f fs)) Tryz.underlying3 ?_
    obtain ⟨b7, hb7⟩ : ∃ b, (d == 5) = b := ⟨_, rfl⟩
    with_reducible refine rA ?_
    cases b7 with
    | false =>
     go_upto_region 9 with fail
     refine wp_region_lit ?_
     with_reducible refine rA ?_
     have qhb1 : ¬ on = 1 := by simpa using hb1
     have qhb2 : on = 2 := by simpa using hb2
     have qhb7 : ¬ d = 5 := by simpa using hb7
     go_wp2_with fail
     go_ret
     exact ⟨by rw [hR.out, show Ip.wordI on who d = 4 from by unfold Ip.wordI; simp [And.intro qhb1 (And.intro qhb2 qhb7)]]; rfl, M.b⟩
    | true =>
     go_upto_region 8 with fail
     refine wp_region_lit ?_
     with_reducible refine rA ?_
     have qhb1 : ¬ on = 1 := by simpa using hb1
     have qhb2 : on = 2 := by simpa using hb2
     have qhb7 : d = 5 := by simpa using hb7
     go_wp2_with fail
     go_ret
     exact ⟨by rw [hR.out, show Ip.wordI on who d = 3 from by unfold Ip.wordI; simp [And.intro qhb1 (And.intro qhb2 qhb7)]]; rfl, M.b⟩
  | true =>
   go_upto_region 3 with fail
   refine wp_region_lit ?_
   with_reducible refine rA ?_
   with_reducible refine wLv 0 M ipG_1 Tryz.underlying3 ?_
   obtain ⟨b8, hb8⟩ : ∃ b, (who == 0) = b := ⟨_, rfl⟩
   with_reducible refine rA ?_
   cases b8 with
   | false =>
    go_upto_region 5 with fail
    refine wp_region_lit ?_
    with_reducible refine rA ?_
    have qhb1 : on = 1 := by simpa using hb1
    have qhb8 : ¬ who = 0 := by simpa using hb8
    go_wp2_with fail
    go_ret
    exact ⟨by rw [hR.out, show Ip.wordI on who d = 2 from by unfold Ip.wordI; simp [And.intro qhb1 qhb8]]; rfl, M.b⟩
   | true =>
    go_upto_region 4 with fail
    refine wp_region_lit ?_
    with_reducible refine rA ?_
    have qhb1 : on = 1 := by simpa using hb1
    have qhb8 : who = 0 := by simpa using hb8
    go_wp2_with fail
    go_ret
    exact ⟨by rw [hR.out, show Ip.wordI on who d = 1 from by unfold Ip.wordI; simp [And.intro qhb1 qhb8]]; rfl, M.b⟩

set_option maxHeartbeats 8000000 in
set_option maxRecDepth 100000 in
theorem refFilt19 (on who d n z c : Int) (f : Fil.Flt) (fs : ByteArray) (R : Bool) (w : World)
    (hR : Hid (R = Ip.filtB on who)) :
    Calls Tryz.prog 32 #[.agg (ipG on who (cellsF f fs) d n z c)] w fun e w' => e = .returned (.bool R) ∧ Below w.heap.size w w' := by

  have M := Mm.nil w
  go_enter Tryz.func32, Tryz.ntmps32
  go_upto_region 0 with fail
  refine wp_region_lit ?_
  with_reducible refine wA (ipG on who (cellsF f fs) d n z c) M ?_; clear M; intro pB1 u M; refine ⟨_, by (simp only [pu, sB, s0, sS]; rfl), ?_⟩
  with_reducible refine rA ?_
  go_upto_region 1 with fail
  refine wp_region_lit ?_
  with_reducible refine rA ?_
  with_reducible refine wLv 0 M ipG_0 Tryz.underlying3 ?_
  obtain ⟨b1, hb1⟩ : ∃ b, (on == 2) = b := ⟨_, rfl⟩
  iterate 2 (with_reducible refine rA ?_)
  cases b1 with
  | false =>
   with_reducible refine rA ?_
   with_reducible refine wLv 0 M ipG_0 Tryz.underlying3 ?_
   obtain ⟨b2, hb2⟩ : ∃ b, (on == 8) = b := ⟨_, rfl⟩
   iterate 3 (with_reducible refine rA ?_)
   cases b2 with
   | false =>
    with_reducible refine rA ?_
    with_reducible refine wLv 0 M ipG_0 Tryz.underlying3 ?_
    obtain ⟨b3, hb3⟩ : ∃ b, (on == 1) = b := ⟨_, rfl⟩
    iterate 2 (with_reducible refine rA ?_)
    cases b3 with
    | false =>
     iterate 3 (with_reducible refine kA ?_)
     iterate 3 (with_reducible refine rA ?_)
     have qhb1 : ¬ on = 2 := by simpa using hb1
     have qhb2 : ¬ on = 8 := by simpa using hb2
     have qhb3 : ¬ on = 1 := by simpa using hb3
     go_wp2_with fail
     go_ret
     exact ⟨ret_bool (show false = R from (by rw [hR.out]; unfold Ip.filtB; (first | (simp [And.intro qhb1 (And.intro qhb2 qhb3)]; done) | (simp [And.intro qhb1 (And.intro qhb2 qhb3)]; omega)))), M.b⟩
    | true =>
     with_reducible refine rA ?_
     with_reducible refine wLv 0 M ipG_1 Tryz.underlying3 ?_
     obtain ⟨b4, hb4⟩ : ∃ b, (who == 0) = b := ⟨_, rfl⟩
     iterate 4 (with_reducible refine rA ?_)
     have qhb1 : ¬ on = 2 := by simpa using hb1
     have qhb2 : ¬ on = 8 := by simpa using hb2
     have qhb3 : on = 1 := by simpa using hb3
     go_wp2_with fail
     go_ret
     exact ⟨ret_bool (show b4 = R from (by rw [hR.out, ← hb4]; unfold Ip.filtB; rw [Bool.eq_iff_iff]; (first | (simp [And.intro qhb1 (And.intro qhb2 qhb3)]; done) | (simp [And.intro qhb1 (And.intro qhb2 qhb3)]; omega)))), M.b⟩
   | true =>
    iterate 8 (with_reducible refine kA ?_)
    iterate 2 (with_reducible refine rA ?_)
    have qhb1 : ¬ on = 2 := by simpa using hb1
    have qhb2 : on = 8 := by simpa using hb2
    go_wp2_with fail
    go_ret
    exact ⟨ret_bool (show true = R from (by rw [hR.out]; unfold Ip.filtB; (first | (simp [And.intro qhb1 qhb2]; done) | (simp [And.intro qhb1 qhb2]; omega)))), M.b⟩
  | true =>
   iterate 3 (with_reducible refine kA ?_)
   iterate 2 (with_reducible refine rA ?_)
   iterate 8 (with_reducible refine kA ?_)
   iterate 2 (with_reducible refine rA ?_)
   have qhb1 : on = 2 := by simpa using hb1
   go_wp2_with fail
   go_ret
   exact ⟨ret_bool (show true = R from (by rw [hR.out]; unfold Ip.filtB; (first | (simp [qhb1]; done) | (simp [qhb1]; omega)))), M.b⟩

set_option maxHeartbeats 8000000 in
set_option maxRecDepth 100000 in
theorem refActIn19 (on who d n z c : Int) (f : Fil.Flt) (fs : ByteArray) (nt zt cn R : ByteArray) (w : World)
    (HN : Hid (∀ W, Below w.heap.size w W → Calls Tryz.prog 66 #[.int .i64 n] W fun e w' => e = .returned (.string nt) ∧ Below W.heap.size W w')) (HZ : Hid (∀ W, Below w.heap.size w W → Calls Tryz.prog 67 #[.int .i64 z] W fun e w' => e = .returned (.string zt) ∧ Below W.heap.size W w')) (HC : Hid (∀ W, Below w.heap.size w W → Calls Tryz.prog 68 #[.int .i64 c] W fun e w' => e = .returned (.string cn) ∧ Below W.heap.size W w')) (hn : nt.size ≤ 1000) (hc : cn.size ≤ 1000) (hR : Hid (R = (if (d == 1) = true then ⟨#[112, 114, 101, 118, 101, 110, 116]⟩ else (if (d == 2) = true then (⟨#[114, 101, 100, 117, 99, 101, 32]⟩ ++ nt) else (if (d == 3) = true then ⟨#[100, 111, 117, 98, 108, 101]⟩ else (if (d == 4) = true then (⟨#[97, 100, 100, 32]⟩ ++ nt) else (if (d == 5) = true then zt else (if (d == 6) = true then ⟨#[116, 97, 112, 112, 101, 100]⟩ else (if (d == 7) = true then (⟨#[119, 105, 116, 104, 32]⟩ ++ nt ++ ⟨#[32]⟩ ++ cn) else ⟨#[115, 107, 105, 112]⟩))))))))) :
    Calls Tryz.prog 35 #[.agg (ipG on who (cellsF f fs) d n z c)] w fun e w' => e = .returned (.string R) ∧ Below w.heap.size w w' := by

  have M := Mm.nil w
  go_enter Tryz.func35, Tryz.ntmps35
  go_upto_region 0 with fail
  refine wp_region_lit ?_
  with_reducible refine wA (ipG on who (cellsF f fs) d n z c) M ?_; clear M; intro pB1 u M; refine ⟨_, by (simp only [pu, sB, s0, sS]; rfl), ?_⟩
  with_reducible refine rA ?_
  go_upto_region 1 with fail
  refine wp_region_lit ?_
  with_reducible refine rA ?_
  with_reducible refine wLv 0 M (ipG_18 (cellsF_size f fs)) Tryz.underlying3 ?_
  go_upto_region 2 with fail
  refine wp_region_lit ?_
  obtain ⟨b1, hb1⟩ : ∃ b, (d == 1) = b := ⟨_, rfl⟩
  iterate 2 (with_reducible refine rA ?_)
  cases b1 with
  | false =>
   go_upto_region 4 with fail
   refine wp_region_lit ?_
   obtain ⟨b2, hb2⟩ : ∃ b, (d == 2) = b := ⟨_, rfl⟩
   iterate 2 (with_reducible refine rA ?_)
   cases b2 with
   | false =>
    go_upto_region 6 with fail
    refine wp_region_lit ?_
    obtain ⟨b3, hb3⟩ : ∃ b, (d == 3) = b := ⟨_, rfl⟩
    iterate 2 (with_reducible refine rA ?_)
    cases b3 with
    | false =>
     go_upto_region 8 with fail
     refine wp_region_lit ?_
     obtain ⟨b4, hb4⟩ : ∃ b, (d == 4) = b := ⟨_, rfl⟩
     iterate 2 (with_reducible refine rA ?_)
     cases b4 with
     | false =>
      go_upto_region 10 with fail
      refine wp_region_lit ?_
      obtain ⟨b5, hb5⟩ : ∃ b, (d == 5) = b := ⟨_, rfl⟩
      iterate 2 (with_reducible refine rA ?_)
      cases b5 with
      | false =>
       go_upto_region 12 with fail
       refine wp_region_lit ?_
       obtain ⟨b6, hb6⟩ : ∃ b, (d == 6) = b := ⟨_, rfl⟩
       iterate 2 (with_reducible refine rA ?_)
       cases b6 with
       | false =>
        go_upto_region 14 with fail
        refine wp_region_lit ?_
        obtain ⟨b7, hb7⟩ : ∃ b, (d == 7) = b := ⟨_, rfl⟩
        iterate 2 (with_reducible refine rA ?_)
        cases b7 with
        | false =>
         go_upto_region 16 with fail
         refine wp_region_lit ?_
         with_reducible refine rA ?_
         go_wp2_with fail
         go_ret
         exact ⟨(show Ending.returned (.string ⟨#[115, 107, 105, 112]⟩) = .returned (.string R) from by rw [hR.out]; simp only [And.intro hb1 (And.intro hb2 (And.intro hb3 (And.intro hb4 (And.intro hb5 (And.intro hb6 hb7))))), Bool.false_eq_true, if_false]), M.b⟩
        | true =>
         go_upto_region 15 with fail
         replace M := M.drew
         refine wp_region_held_drew (S := fun W => Mm w W [(pB1, (ipG on who (cellsF f fs) d n z c), 27)]) (by kernel_rfl) M (fun _ => ?_)
         generalize World.drew _ = u at M ⊢
         refine tA 0 (some 30) rfl rfl M ?_
         refine tLv 1 (some 31) rfl rfl (fun W h => h.at 0 rfl) (ipG_19 (cellsF_size f fs)) Tryz.underlying3 M ?_
         refine tA 5 (some 35) rfl rfl M ?_
         refine tLv 6 (some 36) rfl rfl (fun W h => h.at 0 rfl) (ipG_21 (cellsF_size f fs)) Tryz.underlying3 M ?_
         refine tC 2 (some 32) rfl rfl (fun _ hb => M.call hb) (HN.out _ M.b) ?_; clear M; intro u _ M
         refine tB 3 (some 33) rfl rfl (.string (⟨#[119, 105, 116, 104, 32]⟩ ++ nt)) (by intro W hSw; (go_simp; omega)) M ?_
         refine tB 4 (some 34) rfl rfl (.string ((⟨#[119, 105, 116, 104, 32]⟩ ++ nt) ++ ⟨#[32]⟩)) (by intro W hSw; (go_simp; omega)) M ?_
         refine tC 7 (some 37) rfl rfl (fun _ hb => M.call hb) (HC.out _ M.b) ?_; clear M; intro u _ M
         refine tB 8 (some 38) rfl rfl (.string (((⟨#[119, 105, 116, 104, 32]⟩ ++ nt) ++ ⟨#[32]⟩) ++ cn)) (by intro W hSw; (go_simp; omega)) M ?_
         refine tA 9 (some 2) rfl rfl M ?_
         refine wpAnyH_done (by kernel_rfl) ?_ _
         go_wp2_with fail
         go_ret
         exact ⟨(show Ending.returned (.string (((⟨#[119, 105, 116, 104, 32]⟩ ++ nt) ++ ⟨#[32]⟩) ++ cn)) = .returned (.string R) from by rw [hR.out]; simp only [And.intro hb1 (And.intro hb2 (And.intro hb3 (And.intro hb4 (And.intro hb5 (And.intro hb6 hb7))))), if_true, Bool.false_eq_true, if_false]), M.b⟩
       | true =>
        go_upto_region 13 with fail
        refine wp_region_lit ?_
        with_reducible refine rA ?_
        go_wp2_with fail
        go_ret
        exact ⟨(show Ending.returned (.string ⟨#[116, 97, 112, 112, 101, 100]⟩) = .returned (.string R) from by rw [hR.out]; simp only [And.intro hb1 (And.intro hb2 (And.intro hb3 (And.intro hb4 (And.intro hb5 hb6)))), if_true, Bool.false_eq_true, if_false]), M.b⟩
      | true =>
       go_upto_region 11 with fail
       refine wp_region_lit ?_
       with_reducible refine rA ?_
       with_reducible refine wLv 0 M (ipG_20 (cellsF_size f fs)) Tryz.underlying3 ?_
       with_reducible refine vC M (HZ.out _ M.b) ?_; clear M; intro u M
       with_reducible refine rA ?_
       go_wp2_with fail
       go_ret
       exact ⟨(show Ending.returned (.string zt) = .returned (.string R) from by rw [hR.out]; simp only [And.intro hb1 (And.intro hb2 (And.intro hb3 (And.intro hb4 hb5))), if_true, Bool.false_eq_true, if_false]), M.b⟩
     | true =>
      go_upto_region 9 with fail
      refine wp_region_lit ?_
      with_reducible refine rA ?_
      with_reducible refine wLv 0 M (ipG_19 (cellsF_size f fs)) Tryz.underlying3 ?_
      with_reducible refine vC M (HN.out _ M.b) ?_; clear M; intro u M
      (with_reducible refine rB (.string (⟨#[97, 100, 100, 32]⟩ ++ nt)) ?_ ?_); (· go_simp; omega)
      with_reducible refine rA ?_
      go_wp2_with fail
      go_ret
      exact ⟨(show Ending.returned (.string (⟨#[97, 100, 100, 32]⟩ ++ nt)) = .returned (.string R) from by rw [hR.out]; simp only [And.intro hb1 (And.intro hb2 (And.intro hb3 hb4)), if_true, Bool.false_eq_true, if_false]), M.b⟩
    | true =>
     go_upto_region 7 with fail
     refine wp_region_lit ?_
     with_reducible refine rA ?_
     go_wp2_with fail
     go_ret
     exact ⟨(show Ending.returned (.string ⟨#[100, 111, 117, 98, 108, 101]⟩) = .returned (.string R) from by rw [hR.out]; simp only [And.intro hb1 (And.intro hb2 hb3), if_true, Bool.false_eq_true, if_false]), M.b⟩
   | true =>
    go_upto_region 5 with fail
    refine wp_region_lit ?_
    with_reducible refine rA ?_
    with_reducible refine wLv 0 M (ipG_19 (cellsF_size f fs)) Tryz.underlying3 ?_
    with_reducible refine vC M (HN.out _ M.b) ?_; clear M; intro u M
    (with_reducible refine rB (.string (⟨#[114, 101, 100, 117, 99, 101, 32]⟩ ++ nt)) ?_ ?_); (· go_simp; omega)
    with_reducible refine rA ?_
    go_wp2_with fail
    go_ret
    exact ⟨(show Ending.returned (.string (⟨#[114, 101, 100, 117, 99, 101, 32]⟩ ++ nt)) = .returned (.string R) from by rw [hR.out]; simp only [And.intro hb1 hb2, if_true, Bool.false_eq_true, if_false]), M.b⟩
  | true =>
   go_upto_region 3 with fail
   refine wp_region_lit ?_
   with_reducible refine rA ?_
   go_wp2_with fail
   go_ret
   exact ⟨(show Ending.returned (.string ⟨#[112, 114, 101, 118, 101, 110, 116]⟩) = .returned (.string R) from by rw [hR.out]; simp only [hb1, if_true]), M.b⟩

set_option maxHeartbeats 8000000 in
set_option maxRecDepth 100000 in
theorem refZoneNeg17 (n : Int) (w : World)
    (h0 : decide (n < 0) = true) :
    Calls Tryz.prog 67 #[.int .i64 n] w fun e w' => e = .returned (.string ⟨#[]⟩) ∧ Below w.heap.size w w' := by

  have M := Mm.nil w
  go_enter Tryz.func67, Tryz.ntmps67
  go_upto_region 0 with fail
  refine wp_region_lit ?_
  with_reducible refine rA ?_
  go_upto_region 1 with fail
  refine wp_region_lit ?_
  iterate 3 (with_reducible refine rA ?_)
  iterate 2 (with_reducible refine kA ?_)
  with_reducible refine rA ?_
  go_upto_region 2 with fail
  refine wp_region_lit ?_
  with_reducible refine rA ?_
  go_wp2_with fail
  go_ret
  exact ⟨rfl, M.b⟩

set_option maxHeartbeats 8000000 in
set_option maxRecDepth 100000 in
theorem refZoneBig17 (n : Int) (w : World)
    (h0 : decide (n < 0) = false) (h1 : decide (5 < n) = true) :
    Calls Tryz.prog 67 #[.int .i64 n] w fun e w' => e = .returned (.string ⟨#[]⟩) ∧ Below w.heap.size w w' := by

  have M := Mm.nil w
  go_enter Tryz.func67, Tryz.ntmps67
  go_upto_region 0 with fail
  refine wp_region_lit ?_
  with_reducible refine rA ?_
  go_upto_region 1 with fail
  refine wp_region_lit ?_
  iterate 6 (with_reducible refine rA ?_)
  go_upto_region 2 with fail
  refine wp_region_lit ?_
  with_reducible refine rA ?_
  go_wp2_with fail
  go_ret
  exact ⟨rfl, M.b⟩

set_option maxHeartbeats 8000000 in
set_option maxRecDepth 100000 in
theorem refZoneIn17 (j : Nat) (zn : ByteArray) (w : World)
    (h6 : j < 6) (h1 : decide ((j : Int) < 0) = false) (h2 : decide (5 < (j : Int)) = false) (hh : ipZonesT[j]? = some (.string zn)) :
    Calls Tryz.prog 67 #[.int .i64 (j : Int)] w fun e w' => e = .returned (.string zn) ∧ Below w.heap.size w w' := by

  have M := Mm.nil w
  go_enter Tryz.func67, Tryz.ntmps67
  go_upto_region 0 with fail
  refine wp_region_lit ?_
  with_reducible refine rA ?_
  go_upto_region 1 with fail
  refine wp_region_lit ?_
  iterate 6 (with_reducible refine rA ?_)
  go_upto_region 3 with fail
  refine wp_region_lit ?_
  with_reducible refine wAs ipZonesT (T := 9) 6 M ?_; clear M; intro pS u M; refine ⟨_, by (simp only [pu, sB, s0, sS]; rfl), ?_⟩
  with_reducible refine rA ?_
  have h9i : (j : Int) < 6 := by omega
  have h0i : (0 : Int) ≤ (j : Int) := by omega
  go_upto_region 4 with fail
  refine wp_region_lit ?_
  iterate 3 (with_reducible refine rA ?_)
  with_reducible refine wLv 0 M hh Tryz.underlying9 ?_
  with_reducible refine rA ?_
  go_wp2_with fail
  go_ret
  exact ⟨rfl, M.b⟩

set_option maxHeartbeats 8000000 in
set_option maxRecDepth 100000 in
theorem refTextBad19 (on who d n z c : Int) (f : Fil.Flt) (fs : ByteArray) (w : World)
    (HI : Hid (∀ W, Below w.heap.size w W → Calls Tryz.prog 11 #[.agg (ipG on who (cellsF f fs) d n z c)] W fun e w' => e = .returned (.bool false) ∧ Below W.heap.size W w')) :
    Calls Tryz.prog 13 #[.agg (ipG on who (cellsF f fs) d n z c)] w fun e w' => e = .returned (.string ⟨#[]⟩) ∧ Below w.heap.size w w' := by

  have M := Mm.nil w
  go_enter Tryz.func13, Tryz.ntmps13
  go_upto_region 0 with fail
  refine wp_region_lit ?_
  with_reducible refine wA (ipG on who (cellsF f fs) d n z c) M ?_; clear M; intro pB1 u M; refine ⟨_, by (simp only [pu, sB, s0, sS]; rfl), ?_⟩
  with_reducible refine rA ?_
  go_upto_region 1 with fail
  refine wp_region_lit ?_
  with_reducible refine wL 0 M whole_part Tryz.underlying27 (infoTIp22 (ipG_sz (cellsF_size f fs))) ?_
  with_reducible refine vC M (HI.out _ M.b) ?_; clear M; intro u M
  with_reducible refine rA ?_
  go_upto_region 2 with fail
  refine wp_region_lit ?_
  with_reducible refine rA ?_
  go_wp2_with fail
  go_ret
  exact ⟨rfl, M.b⟩

set_option maxHeartbeats 8000000 in
set_option maxRecDepth 100000 in
theorem refTextOk19 (on who d n z c : Int) (f : Fil.Flt) (fs : ByteArray) (wk tF ta tw R : ByteArray) (fl : Bool) (w : World)
    (HI : Hid (∀ W, Below w.heap.size w W → Calls Tryz.prog 11 #[.agg (ipG on who (cellsF f fs) d n z c)] W fun e w' => e = .returned (.bool true) ∧ Below W.heap.size W w')) (HFI : Hid (∀ W, Below w.heap.size w W → Calls Tryz.prog 32 #[.agg (ipG on who (cellsF f fs) d n z c)] W fun e w' => e = .returned (.bool fl) ∧ Below W.heap.size W w')) (HW : Hid (∀ W, Below w.heap.size w W → Calls Tryz.prog 33 #[.agg (ipG on who (cellsF f fs) d n z c)] W fun e w' => e = .returned (.string wk) ∧ Below W.heap.size W w')) (HT : Hid (∀ W, Below w.heap.size w W → Calls Tryz.prog 34 #[.agg (cellsF f fs)] W fun e w' => e = .returned (.string tF) ∧ Below W.heap.size W w')) (HA : Hid (∀ W, Below w.heap.size w W → Calls Tryz.prog 35 #[.agg (ipG on who (cellsF f fs) d n z c)] W fun e w' => e = .returned (.string ta) ∧ Below W.heap.size W w')) (HWT : Hid (∀ W, Below w.heap.size w W → Calls Tryz.prog 36 #[.int .i64 who] W fun e w' => e = .returned (.string tw) ∧ Below W.heap.size W w')) (hs : wk.size ≤ 1000) (ht : tw.size ≤ 1000) (he : tF.size ≤ 1000000) (ha : ta.size ≤ 1000000) (hR : Hid (R = (if fl = true then wk ++ ⟨#[32, 40]⟩ ++ tF ++ ⟨#[41, 32]⟩ ++ ta else wk ++ ⟨#[32]⟩ ++ tw ++ ⟨#[32]⟩ ++ ta))) :
    Calls Tryz.prog 13 #[.agg (ipG on who (cellsF f fs) d n z c)] w fun e w' => e = .returned (.string R) ∧ Below w.heap.size w w' := by

  have M := Mm.nil w
  go_enter Tryz.func13, Tryz.ntmps13
  go_upto_region 0 with fail
  refine wp_region_lit ?_
  with_reducible refine wA (ipG on who (cellsF f fs) d n z c) M ?_; clear M; intro pB1 u M; refine ⟨_, by (simp only [pu, sB, s0, sS]; rfl), ?_⟩
  with_reducible refine rA ?_
  go_upto_region 1 with fail
  refine wp_region_lit ?_
  with_reducible refine wL 0 M whole_part Tryz.underlying27 (infoTIp22 (ipG_sz (cellsF_size f fs))) ?_
  with_reducible refine vC M (HI.out _ M.b) ?_; clear M; intro u M
  with_reducible refine rA ?_
  go_upto_region 3 with fail
  refine wp_region_lit ?_
  with_reducible refine wL 0 M whole_part Tryz.underlying27 (infoTIp22 (ipG_sz (cellsF_size f fs))) ?_
  with_reducible refine vC M (HFI.out _ M.b) ?_; clear M; intro u M
  cases fl with
  | false =>
   go_upto_region 5 with fail
   replace M := M.drew
   refine wp_region_held_drew (S := fun W => Mm w W [(pB1, (ipG on who (cellsF f fs) d n z c), 27)]) (by kernel_rfl) M (fun _ => ?_)
   generalize World.drew _ = u at M ⊢
   refine tLm 0 (some 19) rfl rfl (fun W h => h.at 0 rfl) whole_part Tryz.underlying27 (infoTIp22 (ipG_sz (cellsF_size f fs))) M ?_
   refine tA 3 (some 22) rfl rfl M ?_
   refine tLv 4 (some 23) rfl rfl (fun W h => h.at 0 rfl) ipG_1 Tryz.underlying3 M ?_
   refine tLm 8 (some 27) rfl rfl (fun W h => h.at 0 rfl) whole_part Tryz.underlying27 (infoTIp22 (ipG_sz (cellsF_size f fs))) M ?_
   refine tC 1 (some 20) rfl rfl (fun _ hb => M.call hb) (HW.out _ M.b) ?_; clear M; intro u _ M
   refine tB 2 (some 21) rfl rfl (.string (wk ++ ⟨#[32]⟩)) (by intro W hSw; (go_simp; omega)) M ?_
   refine tC 5 (some 24) rfl rfl (fun _ hb => M.call hb) (HWT.out _ M.b) ?_; clear M; intro u _ M
   refine tB 6 (some 25) rfl rfl (.string ((wk ++ ⟨#[32]⟩) ++ tw)) (by intro W hSw; (go_simp; omega)) M ?_
   refine tB 7 (some 26) rfl rfl (.string (((wk ++ ⟨#[32]⟩) ++ tw) ++ ⟨#[32]⟩)) (by intro W hSw; (go_simp; omega)) M ?_
   refine tC 9 (some 28) rfl rfl (fun _ hb => M.call hb) (HA.out _ M.b) ?_; clear M; intro u _ M
   refine tB 10 (some 29) rfl rfl (.string ((((wk ++ ⟨#[32]⟩) ++ tw) ++ ⟨#[32]⟩) ++ ta)) (by intro W hSw; (go_simp; omega)) M ?_
   refine tA 11 (some 2) rfl rfl M ?_
   refine wpAnyH_done (by kernel_rfl) ?_ _
   go_wp2_with fail
   go_ret
   exact ⟨by rw [hR.out]; rfl, M.b⟩
  | true =>
   go_upto_region 4 with fail
   replace M := M.drew
   refine wp_region_held_drew (S := fun W => Mm w W [(pB1, (ipG on who (cellsF f fs) d n z c), 27)]) (by kernel_rfl) M (fun _ => ?_)
   generalize World.drew _ = u at M ⊢
   refine tLm 0 (some 8) rfl rfl (fun W h => h.at 0 rfl) whole_part Tryz.underlying27 (infoTIp22 (ipG_sz (cellsF_size f fs))) M ?_
   refine tA 3 (some 11) rfl rfl M ?_
   refine tLm 4 (some 12) rfl rfl (fun W h => h.at 0 rfl) ipG_f Tryz.underlying25 (infoTF16 (cellsF_size f fs)) M ?_
   refine tLm 8 (some 16) rfl rfl (fun W h => h.at 0 rfl) whole_part Tryz.underlying27 (infoTIp22 (ipG_sz (cellsF_size f fs))) M ?_
   refine tC 1 (some 9) rfl rfl (fun _ hb => M.call hb) (HW.out _ M.b) ?_; clear M; intro u _ M
   refine tB 2 (some 10) rfl rfl (.string (wk ++ ⟨#[32, 40]⟩)) (by intro W hSw; (go_simp; omega)) M ?_
   refine tC 5 (some 13) rfl rfl (fun _ hb => M.call hb) (HT.out _ M.b) ?_; clear M; intro u _ M
   refine tB 6 (some 14) rfl rfl (.string ((wk ++ ⟨#[32, 40]⟩) ++ tF)) (by intro W hSw; (go_simp; omega)) M ?_
   refine tB 7 (some 15) rfl rfl (.string (((wk ++ ⟨#[32, 40]⟩) ++ tF) ++ ⟨#[41, 32]⟩)) (by intro W hSw; (go_simp; omega)) M ?_
   refine tC 9 (some 17) rfl rfl (fun _ hb => M.call hb) (HA.out _ M.b) ?_; clear M; intro u _ M
   refine tB 10 (some 18) rfl rfl (.string ((((wk ++ ⟨#[32, 40]⟩) ++ tF) ++ ⟨#[41, 32]⟩) ++ ta)) (by intro W hSw; (go_simp; omega)) M ?_
   refine tA 11 (some 2) rfl rfl M ?_
   refine wpAnyH_done (by kernel_rfl) ?_ _
   go_wp2_with fail
   go_ret
   exact ⟨by rw [hR.out]; rfl, M.b⟩
end Go.Proofs.YtkohfomiigcifaaGreatDoor
namespace Go.Proofs.YtkohfomiigcifaaGreatDoor
open Go.RowKit
open Wd (Bs)

set_option maxHeartbeats 8000000 in
set_option maxRecDepth 100000 in
theorem refWho18 (n : Int) (w : World) : Calls Tryz.prog 36 #[.int .i64 n] w fun e w' => e = .returned (str (Tg.whoT n)) ∧ Below w.heap.size w w' := by
  by_cases h : n = 0 ∨ n = 1 ∨ n = 2
  · rcases h with rfl | rfl | rfl
    all_goals (
      go_enter Tryz.func36, Tryz.ntmps36
      go_wp2_with fail
      go_ret
      exact ⟨rfl, Below.refl _ _⟩)
  · obtain ⟨R, hR⟩ : ∃ R : Value, (str (Tg.whoT n)) = R := ⟨_, rfl⟩
    have HR : Hid (((.string ⟨#[]⟩) : Value) = R) := Lib.hid (by rw [← hR]; unfold Tg.whoT Tg.whoB; rw [decide_eq_false (show ¬ (0 ≤ n ∧ n ≤ 2) by omega), if_neg (by decide)]; rfl)
    rw [hR]
    clear hR
    have n0 : (n == 0) = false := by simp; omega
    have n1 : (n == 1) = false := by simp; omega
    have n2 : (n == 2) = false := by simp; omega
    clear h
    go_enter Tryz.func36, Tryz.ntmps36
    go_wp2_with fail
    go_ret
    exact ⟨by rw [← HR.out]; rfl, Below.refl _ _⟩

end Go.Proofs.YtkohfomiigcifaaGreatDoor
namespace Go.Proofs.YtkohfomiigcifaaGreatDoor
open Go.RowKit
open Wd (Bs)

set_option maxRecDepth 100000 in
theorem refName12 (i : Int) (w : World) :
    Calls Tryz.prog 68 #[.int .i64 i] w fun e w' => e = .returned (str (Ctr.nameI i)) ∧ w = w' := by
  by_cases e0 : i = 0
  · subst e0
    go_enter Tryz.func68, Tryz.ntmps68
    go_wp2
    go_ret
    exact ⟨rfl, rfl⟩
  by_cases e1 : i = 1
  · subst e1
    go_enter Tryz.func68, Tryz.ntmps68
    go_wp2
    go_ret
    exact ⟨rfl, rfl⟩
  by_cases e2 : i = 2
  · subst e2
    go_enter Tryz.func68, Tryz.ntmps68
    go_wp2
    go_ret
    exact ⟨rfl, rfl⟩
  have HN := Lib.hid (Ctr.nameI_out (k := i) (by omega))
  have t0 : (i == 0) = false := by simpa using e0
  have t1 : (i == 1) = false := by simpa using e1
  have t2 : (i == 2) = false := by simpa using e2
  go_enter Tryz.func68, Tryz.ntmps68
  go_wp2
  go_ret
  exact ⟨by rw [HN.out]; rfl, rfl⟩
end Go.Proofs.YtkohfomiigcifaaGreatDoor
namespace Go.Proofs.YtkohfomiigcifaaGreatDoor
open Go.RowKit
open Wd (Bs)

set_option maxHeartbeats 8000000 in
set_option maxRecDepth 100000 in
theorem refIsIn19 (on who d n z c : Int) (f : Fil.Flt) (fs : ByteArray) (R mv pl e0 fld : Bool) (w : World)
    (HM : Hid (∀ W, Below w.heap.size w W → Calls Tryz.prog 26 #[.agg (ipG on who (cellsF f fs) d n z c)] W fun e w' => e = .returned (.bool mv) ∧ Below W.heap.size W w')) (HP : Hid (∀ W, Below w.heap.size w W → Calls Tryz.prog 27 #[.agg (ipG on who (cellsF f fs) d n z c)] W fun e w' => e = .returned (.bool pl) ∧ Below W.heap.size W w')) (HE : ∀ W : World, (Op.equalIn 10000 25 (.agg (cellsF f fs)) (.agg cellsZ)).run Tryz.prog W = .ok e0 W) (HF : Hid (∀ W, Below w.heap.size w W → Calls Tryz.prog 28 #[.agg (cellsF f fs)] W fun e w' => e = .returned (.bool fld) ∧ Below W.heap.size W w')) (hR : Hid (R = Ip.isR on who d mv pl e0 fld)) :
    Calls Tryz.prog 11 #[.agg (ipG on who (cellsF f fs) d n z c)] w fun e w' => e = .returned (.bool R) ∧ Below w.heap.size w w' := by

  have M := Mm.nil w
  go_enter Tryz.func11, Tryz.ntmps11
  go_upto_region 0 with fail
  refine wp_region_lit ?_
  with_reducible refine wA (ipG on who (cellsF f fs) d n z c) M ?_; clear M; intro pB1 u M; refine ⟨_, by (simp only [pu, sB, s0, sS]; rfl), ?_⟩
  with_reducible refine rA ?_
  go_upto_region 1 with fail
  refine wp_region_lit ?_
  with_reducible refine rA ?_
  with_reducible refine wLv 0 M ipG_0 Tryz.underlying3 ?_
  obtain ⟨b1, hb1⟩ : ∃ b, (on == 2) = b := ⟨_, rfl⟩
  with_reducible refine rA ?_
  cases b1 with
  | false =>
   go_upto_region 3 with fail
   refine wp_region_lit ?_
   with_reducible refine wL 0 M whole_part Tryz.underlying27 (infoTIp22 (ipG_sz (cellsF_size f fs))) ?_
   with_reducible refine vC M (HP.out _ M.b) ?_; clear M; intro u M
   with_reducible refine rA ?_
   cases pl with
   | false =>
    go_upto_region 4 with fail
    refine wp_region_lit ?_
    with_reducible refine rA ?_
    have qhb1 : ¬ on = 2 := by simpa using hb1
    go_wp2_with fail
    go_ret
    exact ⟨ret_bool (show false = R from (by rw [hR.out]; unfold Ip.isR; (first | (simp [qhb1]; done) | (simp [qhb1]; omega)))), M.b⟩
   | true =>
    go_upto_region 5 with fail
    refine wp_region_lit ?_
    with_reducible refine rA ?_
    with_reducible refine wL 0 M ipG_f Tryz.underlying25 (infoTF16 (cellsF_size f fs)) ?_
    (with_reducible refine rB (.agg cellsZ) ?_ ?_); (· go_simp; rfl)
    iterate 2 (with_reducible refine rA ?_)
    go_upto_region 6 with fail
    go_cut [4] (fun v wx => v = .bool (decide (d = 3 ∨ d = 4 ∨ d = 8)) ∧ Mm w wx [(pB1, (ipG on who (cellsF f fs) d n z c), 27)])
    case first =>
     refine wp_region_lit ?_
     with_reducible refine rA ?_
     with_reducible refine wLv 0 M (ipG_18 (cellsF_size f fs)) Tryz.underlying3 ?_
     obtain ⟨b2, hb2⟩ : ∃ b, (d == 3) = b := ⟨_, rfl⟩
     iterate 2 (with_reducible refine rA ?_)
     cases b2 with
     | false =>
      with_reducible refine rA ?_
      with_reducible refine wLv 0 M (ipG_18 (cellsF_size f fs)) Tryz.underlying3 ?_
      obtain ⟨b3, hb3⟩ : ∃ b, (d == 4) = b := ⟨_, rfl⟩
      iterate 3 (with_reducible refine rA ?_)
      cases b3 with
      | false =>
       with_reducible refine rA ?_
       with_reducible refine wLv 0 M (ipG_18 (cellsF_size f fs)) Tryz.underlying3 ?_
       obtain ⟨b4, hb4⟩ : ∃ b, (d == 8) = b := ⟨_, rfl⟩
       iterate 3 (with_reducible refine rA ?_)
       have qhb1 : ¬ on = 2 := by simpa using hb1
       have qhb2 : ¬ d = 3 := by simpa using hb2
       have qhb3 : ¬ d = 4 := by simpa using hb3
       go_wp2_with fail
       go_meet
       exact ⟨(show (.bool b4 : Value) = .bool (decide (d = 3 ∨ d = 4 ∨ d = 8)) from congrArg Value.bool (by rw [← hb4]; rw [Bool.eq_iff_iff]; simp [And.intro qhb1 (And.intro qhb2 qhb3)])), M⟩
      | true =>
       iterate 3 (with_reducible refine kA ?_)
       iterate 2 (with_reducible refine rA ?_)
       have qhb1 : ¬ on = 2 := by simpa using hb1
       have qhb2 : ¬ d = 3 := by simpa using hb2
       have qhb3 : d = 4 := by simpa using hb3
       go_wp2_with fail
       go_meet
       exact ⟨(show (.bool true : Value) = .bool (decide (d = 3 ∨ d = 4 ∨ d = 8)) from congrArg Value.bool (by simp [And.intro qhb1 (And.intro qhb2 qhb3)])), M⟩
     | true =>
      iterate 3 (with_reducible refine kA ?_)
      iterate 2 (with_reducible refine rA ?_)
      iterate 3 (with_reducible refine kA ?_)
      iterate 2 (with_reducible refine rA ?_)
      have qhb1 : ¬ on = 2 := by simpa using hb1
      have qhb2 : d = 3 := by simpa using hb2
      go_wp2_with fail
      go_meet
      exact ⟨(show (.bool true : Value) = .bool (decide (d = 3 ∨ d = 4 ∨ d = 8)) from congrArg Value.bool (by simp [And.intro qhb1 qhb2])), M⟩
    case rest =>
     clear M
     obtain ⟨rfl, M⟩ := hcut
     obtain ⟨ct, hct⟩ : ∃ b, decide (d = 3 ∨ d = 4 ∨ d = 8) = b := ⟨_, rfl⟩
     rw [hct]
     go_upto_region 7 with fail
     refine wp_region_lit ?_
     with_reducible refine rA ?_
     with_reducible refine wLv 0 M ipG_0 Tryz.underlying3 ?_
     go_upto_region 8 with fail
     refine wp_region_lit ?_
     obtain ⟨b5, hb5⟩ : ∃ b, (on == 1) = b := ⟨_, rfl⟩
     iterate 2 (with_reducible refine rA ?_)
     cases b5 with
     | false =>
      go_upto_region 12 with fail
      refine wp_region_lit ?_
      obtain ⟨b6, hb6⟩ : ∃ b, (on == 8) = b := ⟨_, rfl⟩
      iterate 2 (with_reducible refine rA ?_)
      cases b6 with
      | false =>
       go_upto_region 14 with fail
       refine wp_region_lit ?_
       obtain ⟨b7, hb7⟩ : ∃ b, (on == 3) = b := ⟨_, rfl⟩
       iterate 2 (with_reducible refine rA ?_)
       cases b7 with
       | false =>
        go_upto_region 16 with fail
        refine wp_region_lit ?_
        obtain ⟨b8, hb8⟩ : ∃ b, (on == 4) = b := ⟨_, rfl⟩
        iterate 2 (with_reducible refine rA ?_)
        cases b8 with
        | false =>
         go_upto_region 17 with fail
         refine wp_region_lit ?_
         obtain ⟨b9, hb9⟩ : ∃ b, (on == 5) = b := ⟨_, rfl⟩
         iterate 2 (with_reducible refine rA ?_)
         cases b9 with
         | false =>
          go_upto_region 18 with fail
          refine wp_region_lit ?_
          obtain ⟨b10, hb10⟩ : ∃ b, (on == 10) = b := ⟨_, rfl⟩
          iterate 2 (with_reducible refine rA ?_)
          cases b10 with
          | false =>
           go_upto_region 20 with fail
           refine wp_region_lit ?_
           with_reducible refine rA ?_
           have qhb1 : ¬ on = 2 := by simpa using hb1
           have qhb5 : ¬ on = 1 := by simpa using hb5
           have qhb6 : ¬ on = 8 := by simpa using hb6
           have qhb7 : ¬ on = 3 := by simpa using hb7
           have qhb8 : ¬ on = 4 := by simpa using hb8
           have qhb9 : ¬ on = 5 := by simpa using hb9
           have qhb10 : ¬ on = 10 := by simpa using hb10
           go_wp2_with fail
           go_ret
           exact ⟨ret_bool (show false = R from (by rw [hR.out]; unfold Ip.isR; (first | (simp [And.intro qhb1 (And.intro qhb5 (And.intro qhb6 (And.intro qhb7 (And.intro qhb8 (And.intro qhb9 qhb10)))))]; done) | (simp [And.intro qhb1 (And.intro qhb5 (And.intro qhb6 (And.intro qhb7 (And.intro qhb8 (And.intro qhb9 qhb10)))))]; omega)))), M.b⟩
          | true =>
           go_upto_region 19 with fail
           refine wp_region_lit ?_
           iterate 2 (with_reducible refine rA ?_)
           cases ct with
           | false =>
            iterate 3 (with_reducible refine kA ?_)
            iterate 2 (with_reducible refine rA ?_)
            iterate 3 (with_reducible refine kA ?_)
            iterate 2 (with_reducible refine rA ?_)
            with_reducible refine kA ?_
            iterate 2 (with_reducible refine rA ?_)
            have qhb1 : ¬ on = 2 := by simpa using hb1
            have qhb5 : ¬ on = 1 := by simpa using hb5
            have qhb6 : ¬ on = 8 := by simpa using hb6
            have qhb7 : ¬ on = 3 := by simpa using hb7
            have qhb8 : ¬ on = 4 := by simpa using hb8
            have qhb9 : ¬ on = 5 := by simpa using hb9
            have qhb10 : on = 10 := by simpa using hb10
            have qhct := of_decide_eq_false hct
            go_wp2_with fail
            go_ret
            exact ⟨ret_bool (show false = R from (by rw [hR.out]; unfold Ip.isR; (first | (simp [And.intro qhb1 (And.intro qhb5 (And.intro qhb6 (And.intro qhb7 (And.intro qhb8 (And.intro qhb9 (And.intro qhb10 qhct))))))]; done) | (simp [And.intro qhb1 (And.intro qhb5 (And.intro qhb6 (And.intro qhb7 (And.intro qhb8 (And.intro qhb9 (And.intro qhb10 qhct))))))]; omega)))), M.b⟩
           | true =>
            with_reducible refine rA ?_
            with_reducible refine wLv 0 M ipG_1 Tryz.underlying3 ?_
            obtain ⟨b11, hb11⟩ : ∃ b, decide (0 ≤ who) = b := ⟨_, rfl⟩
            iterate 3 (with_reducible refine rA ?_)
            cases b11 with
            | false =>
             iterate 3 (with_reducible refine kA ?_)
             iterate 2 (with_reducible refine rA ?_)
             with_reducible refine kA ?_
             iterate 2 (with_reducible refine rA ?_)
             have qhb1 : ¬ on = 2 := by simpa using hb1
             have qhb5 : ¬ on = 1 := by simpa using hb5
             have qhb6 : ¬ on = 8 := by simpa using hb6
             have qhb7 : ¬ on = 3 := by simpa using hb7
             have qhb8 : ¬ on = 4 := by simpa using hb8
             have qhb9 : ¬ on = 5 := by simpa using hb9
             have qhb10 : on = 10 := by simpa using hb10
             have qhct := of_decide_eq_true hct
             have qhb11 := of_decide_eq_false hb11
             go_wp2_with fail
             go_ret
             exact ⟨ret_bool (show false = R from (by rw [hR.out]; unfold Ip.isR; (first | (simp [And.intro qhb1 (And.intro qhb5 (And.intro qhb6 (And.intro qhb7 (And.intro qhb8 (And.intro qhb9 (And.intro qhb10 (And.intro qhct qhb11)))))))]; done) | (simp [And.intro qhb1 (And.intro qhb5 (And.intro qhb6 (And.intro qhb7 (And.intro qhb8 (And.intro qhb9 (And.intro qhb10 (And.intro qhct qhb11)))))))]; omega)))), M.b⟩
            | true =>
             with_reducible refine rA ?_
             with_reducible refine wLv 0 M ipG_1 Tryz.underlying3 ?_
             obtain ⟨b12, hb12⟩ : ∃ b, decide (who ≤ 2) = b := ⟨_, rfl⟩
             iterate 3 (with_reducible refine rA ?_)
             cases b12 with
             | false =>
              with_reducible refine kA ?_
              iterate 2 (with_reducible refine rA ?_)
              have qhb1 : ¬ on = 2 := by simpa using hb1
              have qhb5 : ¬ on = 1 := by simpa using hb5
              have qhb6 : ¬ on = 8 := by simpa using hb6
              have qhb7 : ¬ on = 3 := by simpa using hb7
              have qhb8 : ¬ on = 4 := by simpa using hb8
              have qhb9 : ¬ on = 5 := by simpa using hb9
              have qhb10 : on = 10 := by simpa using hb10
              have qhct := of_decide_eq_true hct
              have qhb11 := of_decide_eq_true hb11
              have qhb12 := of_decide_eq_false hb12
              go_wp2_with fail
              go_ret
              exact ⟨ret_bool (show false = R from (by rw [hR.out]; unfold Ip.isR; (first | (simp [And.intro qhb1 (And.intro qhb5 (And.intro qhb6 (And.intro qhb7 (And.intro qhb8 (And.intro qhb9 (And.intro qhb10 (And.intro qhct (And.intro qhb11 qhb12))))))))]; done) | (simp [And.intro qhb1 (And.intro qhb5 (And.intro qhb6 (And.intro qhb7 (And.intro qhb8 (And.intro qhb9 (And.intro qhb10 (And.intro qhct (And.intro qhb11 qhb12))))))))]; omega)))), M.b⟩
             | true =>
              iterate 3 (with_reducible refine rA ?_)
              have qhb1 : ¬ on = 2 := by simpa using hb1
              have qhb5 : ¬ on = 1 := by simpa using hb5
              have qhb6 : ¬ on = 8 := by simpa using hb6
              have qhb7 : ¬ on = 3 := by simpa using hb7
              have qhb8 : ¬ on = 4 := by simpa using hb8
              have qhb9 : ¬ on = 5 := by simpa using hb9
              have qhb10 : on = 10 := by simpa using hb10
              have qhct := of_decide_eq_true hct
              have qhb11 := of_decide_eq_true hb11
              have qhb12 := of_decide_eq_true hb12
              go_wp2_with fail
              go_ret
              exact ⟨ret_bool (show e0 = R from (by rw [hR.out]; unfold Ip.isR; (first | (simp [And.intro qhb1 (And.intro qhb5 (And.intro qhb6 (And.intro qhb7 (And.intro qhb8 (And.intro qhb9 (And.intro qhb10 (And.intro qhct (And.intro qhb11 qhb12))))))))]; done) | (simp [And.intro qhb1 (And.intro qhb5 (And.intro qhb6 (And.intro qhb7 (And.intro qhb8 (And.intro qhb9 (And.intro qhb10 (And.intro qhct (And.intro qhb11 qhb12))))))))]; omega)))), M.b⟩
         | true =>
          go_upto_region 19 with fail
          refine wp_region_lit ?_
          iterate 2 (with_reducible refine rA ?_)
          cases ct with
          | false =>
           iterate 3 (with_reducible refine kA ?_)
           iterate 2 (with_reducible refine rA ?_)
           iterate 3 (with_reducible refine kA ?_)
           iterate 2 (with_reducible refine rA ?_)
           with_reducible refine kA ?_
           iterate 2 (with_reducible refine rA ?_)
           have qhb1 : ¬ on = 2 := by simpa using hb1
           have qhb5 : ¬ on = 1 := by simpa using hb5
           have qhb6 : ¬ on = 8 := by simpa using hb6
           have qhb7 : ¬ on = 3 := by simpa using hb7
           have qhb8 : ¬ on = 4 := by simpa using hb8
           have qhb9 : on = 5 := by simpa using hb9
           have qhct := of_decide_eq_false hct
           go_wp2_with fail
           go_ret
           exact ⟨ret_bool (show false = R from (by rw [hR.out]; unfold Ip.isR; (first | (simp [And.intro qhb1 (And.intro qhb5 (And.intro qhb6 (And.intro qhb7 (And.intro qhb8 (And.intro qhb9 qhct)))))]; done) | (simp [And.intro qhb1 (And.intro qhb5 (And.intro qhb6 (And.intro qhb7 (And.intro qhb8 (And.intro qhb9 qhct)))))]; omega)))), M.b⟩
          | true =>
           with_reducible refine rA ?_
           with_reducible refine wLv 0 M ipG_1 Tryz.underlying3 ?_
           obtain ⟨b13, hb13⟩ : ∃ b, decide (0 ≤ who) = b := ⟨_, rfl⟩
           iterate 3 (with_reducible refine rA ?_)
           cases b13 with
           | false =>
            iterate 3 (with_reducible refine kA ?_)
            iterate 2 (with_reducible refine rA ?_)
            with_reducible refine kA ?_
            iterate 2 (with_reducible refine rA ?_)
            have qhb1 : ¬ on = 2 := by simpa using hb1
            have qhb5 : ¬ on = 1 := by simpa using hb5
            have qhb6 : ¬ on = 8 := by simpa using hb6
            have qhb7 : ¬ on = 3 := by simpa using hb7
            have qhb8 : ¬ on = 4 := by simpa using hb8
            have qhb9 : on = 5 := by simpa using hb9
            have qhct := of_decide_eq_true hct
            have qhb13 := of_decide_eq_false hb13
            go_wp2_with fail
            go_ret
            exact ⟨ret_bool (show false = R from (by rw [hR.out]; unfold Ip.isR; (first | (simp [And.intro qhb1 (And.intro qhb5 (And.intro qhb6 (And.intro qhb7 (And.intro qhb8 (And.intro qhb9 (And.intro qhct qhb13))))))]; done) | (simp [And.intro qhb1 (And.intro qhb5 (And.intro qhb6 (And.intro qhb7 (And.intro qhb8 (And.intro qhb9 (And.intro qhct qhb13))))))]; omega)))), M.b⟩
           | true =>
            with_reducible refine rA ?_
            with_reducible refine wLv 0 M ipG_1 Tryz.underlying3 ?_
            obtain ⟨b14, hb14⟩ : ∃ b, decide (who ≤ 2) = b := ⟨_, rfl⟩
            iterate 3 (with_reducible refine rA ?_)
            cases b14 with
            | false =>
             with_reducible refine kA ?_
             iterate 2 (with_reducible refine rA ?_)
             have qhb1 : ¬ on = 2 := by simpa using hb1
             have qhb5 : ¬ on = 1 := by simpa using hb5
             have qhb6 : ¬ on = 8 := by simpa using hb6
             have qhb7 : ¬ on = 3 := by simpa using hb7
             have qhb8 : ¬ on = 4 := by simpa using hb8
             have qhb9 : on = 5 := by simpa using hb9
             have qhct := of_decide_eq_true hct
             have qhb13 := of_decide_eq_true hb13
             have qhb14 := of_decide_eq_false hb14
             go_wp2_with fail
             go_ret
             exact ⟨ret_bool (show false = R from (by rw [hR.out]; unfold Ip.isR; (first | (simp [And.intro qhb1 (And.intro qhb5 (And.intro qhb6 (And.intro qhb7 (And.intro qhb8 (And.intro qhb9 (And.intro qhct (And.intro qhb13 qhb14)))))))]; done) | (simp [And.intro qhb1 (And.intro qhb5 (And.intro qhb6 (And.intro qhb7 (And.intro qhb8 (And.intro qhb9 (And.intro qhct (And.intro qhb13 qhb14)))))))]; omega)))), M.b⟩
            | true =>
             iterate 3 (with_reducible refine rA ?_)
             have qhb1 : ¬ on = 2 := by simpa using hb1
             have qhb5 : ¬ on = 1 := by simpa using hb5
             have qhb6 : ¬ on = 8 := by simpa using hb6
             have qhb7 : ¬ on = 3 := by simpa using hb7
             have qhb8 : ¬ on = 4 := by simpa using hb8
             have qhb9 : on = 5 := by simpa using hb9
             have qhct := of_decide_eq_true hct
             have qhb13 := of_decide_eq_true hb13
             have qhb14 := of_decide_eq_true hb14
             go_wp2_with fail
             go_ret
             exact ⟨ret_bool (show e0 = R from (by rw [hR.out]; unfold Ip.isR; (first | (simp [And.intro qhb1 (And.intro qhb5 (And.intro qhb6 (And.intro qhb7 (And.intro qhb8 (And.intro qhb9 (And.intro qhct (And.intro qhb13 qhb14)))))))]; done) | (simp [And.intro qhb1 (And.intro qhb5 (And.intro qhb6 (And.intro qhb7 (And.intro qhb8 (And.intro qhb9 (And.intro qhct (And.intro qhb13 qhb14)))))))]; omega)))), M.b⟩
        | true =>
         go_upto_region 19 with fail
         refine wp_region_lit ?_
         iterate 2 (with_reducible refine rA ?_)
         cases ct with
         | false =>
          iterate 3 (with_reducible refine kA ?_)
          iterate 2 (with_reducible refine rA ?_)
          iterate 3 (with_reducible refine kA ?_)
          iterate 2 (with_reducible refine rA ?_)
          with_reducible refine kA ?_
          iterate 2 (with_reducible refine rA ?_)
          have qhb1 : ¬ on = 2 := by simpa using hb1
          have qhb5 : ¬ on = 1 := by simpa using hb5
          have qhb6 : ¬ on = 8 := by simpa using hb6
          have qhb7 : ¬ on = 3 := by simpa using hb7
          have qhb8 : on = 4 := by simpa using hb8
          have qhct := of_decide_eq_false hct
          go_wp2_with fail
          go_ret
          exact ⟨ret_bool (show false = R from (by rw [hR.out]; unfold Ip.isR; (first | (simp [And.intro qhb1 (And.intro qhb5 (And.intro qhb6 (And.intro qhb7 (And.intro qhb8 qhct))))]; done) | (simp [And.intro qhb1 (And.intro qhb5 (And.intro qhb6 (And.intro qhb7 (And.intro qhb8 qhct))))]; omega)))), M.b⟩
         | true =>
          with_reducible refine rA ?_
          with_reducible refine wLv 0 M ipG_1 Tryz.underlying3 ?_
          obtain ⟨b15, hb15⟩ : ∃ b, decide (0 ≤ who) = b := ⟨_, rfl⟩
          iterate 3 (with_reducible refine rA ?_)
          cases b15 with
          | false =>
           iterate 3 (with_reducible refine kA ?_)
           iterate 2 (with_reducible refine rA ?_)
           with_reducible refine kA ?_
           iterate 2 (with_reducible refine rA ?_)
           have qhb1 : ¬ on = 2 := by simpa using hb1
           have qhb5 : ¬ on = 1 := by simpa using hb5
           have qhb6 : ¬ on = 8 := by simpa using hb6
           have qhb7 : ¬ on = 3 := by simpa using hb7
           have qhb8 : on = 4 := by simpa using hb8
           have qhct := of_decide_eq_true hct
           have qhb15 := of_decide_eq_false hb15
           go_wp2_with fail
           go_ret
           exact ⟨ret_bool (show false = R from (by rw [hR.out]; unfold Ip.isR; (first | (simp [And.intro qhb1 (And.intro qhb5 (And.intro qhb6 (And.intro qhb7 (And.intro qhb8 (And.intro qhct qhb15)))))]; done) | (simp [And.intro qhb1 (And.intro qhb5 (And.intro qhb6 (And.intro qhb7 (And.intro qhb8 (And.intro qhct qhb15)))))]; omega)))), M.b⟩
          | true =>
           with_reducible refine rA ?_
           with_reducible refine wLv 0 M ipG_1 Tryz.underlying3 ?_
           obtain ⟨b16, hb16⟩ : ∃ b, decide (who ≤ 2) = b := ⟨_, rfl⟩
           iterate 3 (with_reducible refine rA ?_)
           cases b16 with
           | false =>
            with_reducible refine kA ?_
            iterate 2 (with_reducible refine rA ?_)
            have qhb1 : ¬ on = 2 := by simpa using hb1
            have qhb5 : ¬ on = 1 := by simpa using hb5
            have qhb6 : ¬ on = 8 := by simpa using hb6
            have qhb7 : ¬ on = 3 := by simpa using hb7
            have qhb8 : on = 4 := by simpa using hb8
            have qhct := of_decide_eq_true hct
            have qhb15 := of_decide_eq_true hb15
            have qhb16 := of_decide_eq_false hb16
            go_wp2_with fail
            go_ret
            exact ⟨ret_bool (show false = R from (by rw [hR.out]; unfold Ip.isR; (first | (simp [And.intro qhb1 (And.intro qhb5 (And.intro qhb6 (And.intro qhb7 (And.intro qhb8 (And.intro qhct (And.intro qhb15 qhb16))))))]; done) | (simp [And.intro qhb1 (And.intro qhb5 (And.intro qhb6 (And.intro qhb7 (And.intro qhb8 (And.intro qhct (And.intro qhb15 qhb16))))))]; omega)))), M.b⟩
           | true =>
            iterate 3 (with_reducible refine rA ?_)
            have qhb1 : ¬ on = 2 := by simpa using hb1
            have qhb5 : ¬ on = 1 := by simpa using hb5
            have qhb6 : ¬ on = 8 := by simpa using hb6
            have qhb7 : ¬ on = 3 := by simpa using hb7
            have qhb8 : on = 4 := by simpa using hb8
            have qhct := of_decide_eq_true hct
            have qhb15 := of_decide_eq_true hb15
            have qhb16 := of_decide_eq_true hb16
            go_wp2_with fail
            go_ret
            exact ⟨ret_bool (show e0 = R from (by rw [hR.out]; unfold Ip.isR; (first | (simp [And.intro qhb1 (And.intro qhb5 (And.intro qhb6 (And.intro qhb7 (And.intro qhb8 (And.intro qhct (And.intro qhb15 qhb16))))))]; done) | (simp [And.intro qhb1 (And.intro qhb5 (And.intro qhb6 (And.intro qhb7 (And.intro qhb8 (And.intro qhct (And.intro qhb15 qhb16))))))]; omega)))), M.b⟩
       | true =>
        go_upto_region 15 with fail
        refine wp_region_lit ?_
        with_reducible refine rA ?_
        with_reducible refine wLv 0 M (ipG_18 (cellsF_size f fs)) Tryz.underlying3 ?_
        obtain ⟨b17, hb17⟩ : ∃ b, (d == 4) = b := ⟨_, rfl⟩
        iterate 2 (with_reducible refine rA ?_)
        cases b17 with
        | false =>
         with_reducible refine rA ?_
         with_reducible refine wLv 0 M (ipG_18 (cellsF_size f fs)) Tryz.underlying3 ?_
         obtain ⟨b18, hb18⟩ : ∃ b, (d == 8) = b := ⟨_, rfl⟩
         iterate 3 (with_reducible refine rA ?_)
         cases b18 with
         | false =>
          iterate 3 (with_reducible refine kA ?_)
          iterate 2 (with_reducible refine rA ?_)
          iterate 3 (with_reducible refine kA ?_)
          iterate 2 (with_reducible refine rA ?_)
          with_reducible refine kA ?_
          iterate 2 (with_reducible refine rA ?_)
          have qhb1 : ¬ on = 2 := by simpa using hb1
          have qhb5 : ¬ on = 1 := by simpa using hb5
          have qhb6 : ¬ on = 8 := by simpa using hb6
          have qhb7 : on = 3 := by simpa using hb7
          have qhb17 : ¬ d = 4 := by simpa using hb17
          have qhb18 : ¬ d = 8 := by simpa using hb18
          go_wp2_with fail
          go_ret
          exact ⟨ret_bool (show false = R from (by rw [hR.out]; unfold Ip.isR; (first | (simp [And.intro qhb1 (And.intro qhb5 (And.intro qhb6 (And.intro qhb7 (And.intro qhb17 qhb18))))]; done) | (simp [And.intro qhb1 (And.intro qhb5 (And.intro qhb6 (And.intro qhb7 (And.intro qhb17 qhb18))))]; omega)))), M.b⟩
         | true =>
          with_reducible refine rA ?_
          with_reducible refine wLv 0 M ipG_1 Tryz.underlying3 ?_
          obtain ⟨b19, hb19⟩ : ∃ b, decide (0 ≤ who) = b := ⟨_, rfl⟩
          iterate 3 (with_reducible refine rA ?_)
          cases b19 with
          | false =>
           iterate 3 (with_reducible refine kA ?_)
           iterate 2 (with_reducible refine rA ?_)
           with_reducible refine kA ?_
           iterate 2 (with_reducible refine rA ?_)
           have qhb1 : ¬ on = 2 := by simpa using hb1
           have qhb5 : ¬ on = 1 := by simpa using hb5
           have qhb6 : ¬ on = 8 := by simpa using hb6
           have qhb7 : on = 3 := by simpa using hb7
           have qhb17 : ¬ d = 4 := by simpa using hb17
           have qhb18 : d = 8 := by simpa using hb18
           have qhb19 := of_decide_eq_false hb19
           go_wp2_with fail
           go_ret
           exact ⟨ret_bool (show false = R from (by rw [hR.out]; unfold Ip.isR; (first | (simp [And.intro qhb1 (And.intro qhb5 (And.intro qhb6 (And.intro qhb7 (And.intro qhb17 (And.intro qhb18 qhb19)))))]; done) | (simp [And.intro qhb1 (And.intro qhb5 (And.intro qhb6 (And.intro qhb7 (And.intro qhb17 (And.intro qhb18 qhb19)))))]; omega)))), M.b⟩
          | true =>
           with_reducible refine rA ?_
           with_reducible refine wLv 0 M ipG_1 Tryz.underlying3 ?_
           obtain ⟨b20, hb20⟩ : ∃ b, decide (who ≤ 2) = b := ⟨_, rfl⟩
           iterate 3 (with_reducible refine rA ?_)
           cases b20 with
           | false =>
            with_reducible refine kA ?_
            iterate 2 (with_reducible refine rA ?_)
            have qhb1 : ¬ on = 2 := by simpa using hb1
            have qhb5 : ¬ on = 1 := by simpa using hb5
            have qhb6 : ¬ on = 8 := by simpa using hb6
            have qhb7 : on = 3 := by simpa using hb7
            have qhb17 : ¬ d = 4 := by simpa using hb17
            have qhb18 : d = 8 := by simpa using hb18
            have qhb19 := of_decide_eq_true hb19
            have qhb20 := of_decide_eq_false hb20
            go_wp2_with fail
            go_ret
            exact ⟨ret_bool (show false = R from (by rw [hR.out]; unfold Ip.isR; (first | (simp [And.intro qhb1 (And.intro qhb5 (And.intro qhb6 (And.intro qhb7 (And.intro qhb17 (And.intro qhb18 (And.intro qhb19 qhb20))))))]; done) | (simp [And.intro qhb1 (And.intro qhb5 (And.intro qhb6 (And.intro qhb7 (And.intro qhb17 (And.intro qhb18 (And.intro qhb19 qhb20))))))]; omega)))), M.b⟩
           | true =>
            iterate 3 (with_reducible refine rA ?_)
            have qhb1 : ¬ on = 2 := by simpa using hb1
            have qhb5 : ¬ on = 1 := by simpa using hb5
            have qhb6 : ¬ on = 8 := by simpa using hb6
            have qhb7 : on = 3 := by simpa using hb7
            have qhb17 : ¬ d = 4 := by simpa using hb17
            have qhb18 : d = 8 := by simpa using hb18
            have qhb19 := of_decide_eq_true hb19
            have qhb20 := of_decide_eq_true hb20
            go_wp2_with fail
            go_ret
            exact ⟨ret_bool (show e0 = R from (by rw [hR.out]; unfold Ip.isR; (first | (simp [And.intro qhb1 (And.intro qhb5 (And.intro qhb6 (And.intro qhb7 (And.intro qhb17 (And.intro qhb18 (And.intro qhb19 qhb20))))))]; done) | (simp [And.intro qhb1 (And.intro qhb5 (And.intro qhb6 (And.intro qhb7 (And.intro qhb17 (And.intro qhb18 (And.intro qhb19 qhb20))))))]; omega)))), M.b⟩
        | true =>
         iterate 3 (with_reducible refine kA ?_)
         iterate 3 (with_reducible refine rA ?_)
         with_reducible refine wLv 0 M ipG_1 Tryz.underlying3 ?_
         obtain ⟨b21, hb21⟩ : ∃ b, decide (0 ≤ who) = b := ⟨_, rfl⟩
         iterate 3 (with_reducible refine rA ?_)
         cases b21 with
         | false =>
          iterate 3 (with_reducible refine kA ?_)
          iterate 2 (with_reducible refine rA ?_)
          with_reducible refine kA ?_
          iterate 2 (with_reducible refine rA ?_)
          have qhb1 : ¬ on = 2 := by simpa using hb1
          have qhb5 : ¬ on = 1 := by simpa using hb5
          have qhb6 : ¬ on = 8 := by simpa using hb6
          have qhb7 : on = 3 := by simpa using hb7
          have qhb17 : d = 4 := by simpa using hb17
          have qhb21 := of_decide_eq_false hb21
          go_wp2_with fail
          go_ret
          exact ⟨ret_bool (show false = R from (by rw [hR.out]; unfold Ip.isR; (first | (simp [And.intro qhb1 (And.intro qhb5 (And.intro qhb6 (And.intro qhb7 (And.intro qhb17 qhb21))))]; done) | (simp [And.intro qhb1 (And.intro qhb5 (And.intro qhb6 (And.intro qhb7 (And.intro qhb17 qhb21))))]; omega)))), M.b⟩
         | true =>
          with_reducible refine rA ?_
          with_reducible refine wLv 0 M ipG_1 Tryz.underlying3 ?_
          obtain ⟨b22, hb22⟩ : ∃ b, decide (who ≤ 2) = b := ⟨_, rfl⟩
          iterate 3 (with_reducible refine rA ?_)
          cases b22 with
          | false =>
           with_reducible refine kA ?_
           iterate 2 (with_reducible refine rA ?_)
           have qhb1 : ¬ on = 2 := by simpa using hb1
           have qhb5 : ¬ on = 1 := by simpa using hb5
           have qhb6 : ¬ on = 8 := by simpa using hb6
           have qhb7 : on = 3 := by simpa using hb7
           have qhb17 : d = 4 := by simpa using hb17
           have qhb21 := of_decide_eq_true hb21
           have qhb22 := of_decide_eq_false hb22
           go_wp2_with fail
           go_ret
           exact ⟨ret_bool (show false = R from (by rw [hR.out]; unfold Ip.isR; (first | (simp [And.intro qhb1 (And.intro qhb5 (And.intro qhb6 (And.intro qhb7 (And.intro qhb17 (And.intro qhb21 qhb22)))))]; done) | (simp [And.intro qhb1 (And.intro qhb5 (And.intro qhb6 (And.intro qhb7 (And.intro qhb17 (And.intro qhb21 qhb22)))))]; omega)))), M.b⟩
          | true =>
           iterate 3 (with_reducible refine rA ?_)
           have qhb1 : ¬ on = 2 := by simpa using hb1
           have qhb5 : ¬ on = 1 := by simpa using hb5
           have qhb6 : ¬ on = 8 := by simpa using hb6
           have qhb7 : on = 3 := by simpa using hb7
           have qhb17 : d = 4 := by simpa using hb17
           have qhb21 := of_decide_eq_true hb21
           have qhb22 := of_decide_eq_true hb22
           go_wp2_with fail
           go_ret
           exact ⟨ret_bool (show e0 = R from (by rw [hR.out]; unfold Ip.isR; (first | (simp [And.intro qhb1 (And.intro qhb5 (And.intro qhb6 (And.intro qhb7 (And.intro qhb17 (And.intro qhb21 qhb22)))))]; done) | (simp [And.intro qhb1 (And.intro qhb5 (And.intro qhb6 (And.intro qhb7 (And.intro qhb17 (And.intro qhb21 qhb22)))))]; omega)))), M.b⟩
      | true =>
       go_upto_region 13 with fail
       refine wp_region_lit ?_
       iterate 2 (with_reducible refine rA ?_)
       cases ct with
       | false =>
        iterate 3 (with_reducible refine kA ?_)
        iterate 2 (with_reducible refine rA ?_)
        iterate 3 (with_reducible refine kA ?_)
        iterate 2 (with_reducible refine rA ?_)
        have qhb1 : ¬ on = 2 := by simpa using hb1
        have qhb5 : ¬ on = 1 := by simpa using hb5
        have qhb6 : on = 8 := by simpa using hb6
        have qhct := of_decide_eq_false hct
        go_wp2_with fail
        go_ret
        exact ⟨ret_bool (show false = R from (by rw [hR.out]; unfold Ip.isR; (first | (simp [And.intro qhb1 (And.intro qhb5 (And.intro qhb6 qhct))]; done) | (simp [And.intro qhb1 (And.intro qhb5 (And.intro qhb6 qhct))]; omega)))), M.b⟩
       | true =>
        with_reducible refine rA ?_
        with_reducible refine wLv 0 M ipG_1 Tryz.underlying3 ?_
        obtain ⟨b23, hb23⟩ : ∃ b, (who == 0) = b := ⟨_, rfl⟩
        iterate 3 (with_reducible refine rA ?_)
        cases b23 with
        | false =>
         iterate 3 (with_reducible refine kA ?_)
         iterate 2 (with_reducible refine rA ?_)
         have qhb1 : ¬ on = 2 := by simpa using hb1
         have qhb5 : ¬ on = 1 := by simpa using hb5
         have qhb6 : on = 8 := by simpa using hb6
         have qhct := of_decide_eq_true hct
         have qhb23 : ¬ who = 0 := by simpa using hb23
         go_wp2_with fail
         go_ret
         exact ⟨ret_bool (show false = R from (by rw [hR.out]; unfold Ip.isR; (first | (simp [And.intro qhb1 (And.intro qhb5 (And.intro qhb6 (And.intro qhct qhb23)))]; done) | (simp [And.intro qhb1 (And.intro qhb5 (And.intro qhb6 (And.intro qhct qhb23)))]; omega)))), M.b⟩
        | true =>
         with_reducible refine rA ?_
         with_reducible refine wL 0 M ipG_f Tryz.underlying25 (infoTF16 (cellsF_size f fs)) ?_
         with_reducible refine vC M (HF.out _ M.b) ?_; clear M; intro u M
         iterate 2 (with_reducible refine rA ?_)
         have qhb1 : ¬ on = 2 := by simpa using hb1
         have qhb5 : ¬ on = 1 := by simpa using hb5
         have qhb6 : on = 8 := by simpa using hb6
         have qhct := of_decide_eq_true hct
         have qhb23 : who = 0 := by simpa using hb23
         go_wp2_with fail
         go_ret
         exact ⟨ret_bool (show fld = R from (by rw [hR.out]; unfold Ip.isR; (first | (simp [And.intro qhb1 (And.intro qhb5 (And.intro qhb6 (And.intro qhct qhb23)))]; done) | (simp [And.intro qhb1 (And.intro qhb5 (And.intro qhb6 (And.intro qhct qhb23)))]; omega)))), M.b⟩
     | true =>
      go_upto_region 9 with fail
      refine wp_region_lit ?_
      with_reducible refine rA ?_
      with_reducible refine wLv 0 M (ipG_18 (cellsF_size f fs)) Tryz.underlying3 ?_
      obtain ⟨b24, hb24⟩ : ∃ b, (d == 1) = b := ⟨_, rfl⟩
      (with_reducible refine rB (.bool (!b24)) ?_ ?_); (· go_simp; (try simp only [bne, hb24]))
      with_reducible refine rA ?_
      cases b24 with
      | false =>
       with_reducible refine rA ?_
       with_reducible refine wLv 0 M (ipG_18 (cellsF_size f fs)) Tryz.underlying3 ?_
       obtain ⟨b25, hb25⟩ : ∃ b, (d == 2) = b := ⟨_, rfl⟩
       (with_reducible refine rB (.bool (!b25)) ?_ ?_); (· go_simp; (try simp only [bne, hb25]))
       iterate 2 (with_reducible refine rA ?_)
       cases b25 with
       | false =>
        with_reducible refine rA ?_
        with_reducible refine wLv 0 M (ipG_18 (cellsF_size f fs)) Tryz.underlying3 ?_
        obtain ⟨b26, hb26⟩ : ∃ b, (d == 3) = b := ⟨_, rfl⟩
        (with_reducible refine rB (.bool (!b26)) ?_ ?_); (· go_simp; (try simp only [bne, hb26]))
        iterate 2 (with_reducible refine rA ?_)
        cases b26 with
        | false =>
         with_reducible refine rA ?_
         with_reducible refine wLv 0 M (ipG_18 (cellsF_size f fs)) Tryz.underlying3 ?_
         obtain ⟨b27, hb27⟩ : ∃ b, (d == 4) = b := ⟨_, rfl⟩
         (with_reducible refine rB (.bool (!b27)) ?_ ?_); (· go_simp; (try simp only [bne, hb27]))
         with_reducible refine rA ?_
         cases b27 with
         | false =>
          go_upto_region 10 with fail
          refine wp_region_lit ?_
          with_reducible refine rA ?_
          have qhb1 : ¬ on = 2 := by simpa using hb1
          have qhb5 : on = 1 := by simpa using hb5
          have qhb24 : ¬ d = 1 := by simpa using hb24
          have qhb25 : ¬ d = 2 := by simpa using hb25
          have qhb26 : ¬ d = 3 := by simpa using hb26
          have qhb27 : ¬ d = 4 := by simpa using hb27
          go_wp2_with fail
          go_ret
          exact ⟨ret_bool (show false = R from (by rw [hR.out]; unfold Ip.isR; (first | (simp [And.intro qhb1 (And.intro qhb5 (And.intro qhb24 (And.intro qhb25 (And.intro qhb26 qhb27))))]; done) | (simp [And.intro qhb1 (And.intro qhb5 (And.intro qhb24 (And.intro qhb25 (And.intro qhb26 qhb27))))]; omega)))), M.b⟩
         | true =>
          go_upto_region 11 with fail
          refine wp_region_lit ?_
          with_reducible refine rA ?_
          with_reducible refine wLv 0 M ipG_1 Tryz.underlying3 ?_
          obtain ⟨b28, hb28⟩ : ∃ b, (who == 0) = b := ⟨_, rfl⟩
          iterate 2 (with_reducible refine rA ?_)
          cases b28 with
          | false =>
           iterate 3 (with_reducible refine kA ?_)
           iterate 3 (with_reducible refine rA ?_)
           with_reducible refine wLv 0 M ipG_1 Tryz.underlying3 ?_
           obtain ⟨b29, hb29⟩ : ∃ b, (who == 1) = b := ⟨_, rfl⟩
           iterate 2 (with_reducible refine rA ?_)
           cases b29 with
           | false =>
            with_reducible refine rA ?_
            with_reducible refine wLv 0 M ipG_1 Tryz.underlying3 ?_
            obtain ⟨b30, hb30⟩ : ∃ b, (who == 2) = b := ⟨_, rfl⟩
            iterate 3 (with_reducible refine rA ?_)
            cases b30 with
            | false =>
             with_reducible refine kA ?_
             iterate 3 (with_reducible refine rA ?_)
             have qhb1 : ¬ on = 2 := by simpa using hb1
             have qhb5 : on = 1 := by simpa using hb5
             have qhb24 : ¬ d = 1 := by simpa using hb24
             have qhb25 : ¬ d = 2 := by simpa using hb25
             have qhb26 : ¬ d = 3 := by simpa using hb26
             have qhb27 : d = 4 := by simpa using hb27
             have qhb28 : ¬ who = 0 := by simpa using hb28
             have qhb29 : ¬ who = 1 := by simpa using hb29
             have qhb30 : ¬ who = 2 := by simpa using hb30
             go_wp2_with fail
             go_ret
             exact ⟨ret_bool (show false = R from (by rw [hR.out]; unfold Ip.isR; (first | (simp [And.intro qhb1 (And.intro qhb5 (And.intro qhb24 (And.intro qhb25 (And.intro qhb26 (And.intro qhb27 (And.intro qhb28 (And.intro qhb29 qhb30)))))))]; done) | (simp [And.intro qhb1 (And.intro qhb5 (And.intro qhb24 (And.intro qhb25 (And.intro qhb26 (And.intro qhb27 (And.intro qhb28 (And.intro qhb29 qhb30)))))))]; omega)))), M.b⟩
            | true =>
             iterate 4 (with_reducible refine rA ?_)
             have qhb1 : ¬ on = 2 := by simpa using hb1
             have qhb5 : on = 1 := by simpa using hb5
             have qhb24 : ¬ d = 1 := by simpa using hb24
             have qhb25 : ¬ d = 2 := by simpa using hb25
             have qhb26 : ¬ d = 3 := by simpa using hb26
             have qhb27 : d = 4 := by simpa using hb27
             have qhb28 : ¬ who = 0 := by simpa using hb28
             have qhb29 : ¬ who = 1 := by simpa using hb29
             have qhb30 : who = 2 := by simpa using hb30
             go_wp2_with fail
             go_ret
             exact ⟨ret_bool (show e0 = R from (by rw [hR.out]; unfold Ip.isR; (first | (simp [And.intro qhb1 (And.intro qhb5 (And.intro qhb24 (And.intro qhb25 (And.intro qhb26 (And.intro qhb27 (And.intro qhb28 (And.intro qhb29 qhb30)))))))]; done) | (simp [And.intro qhb1 (And.intro qhb5 (And.intro qhb24 (And.intro qhb25 (And.intro qhb26 (And.intro qhb27 (And.intro qhb28 (And.intro qhb29 qhb30)))))))]; omega)))), M.b⟩
           | true =>
            iterate 3 (with_reducible refine kA ?_)
            iterate 6 (with_reducible refine rA ?_)
            have qhb1 : ¬ on = 2 := by simpa using hb1
            have qhb5 : on = 1 := by simpa using hb5
            have qhb24 : ¬ d = 1 := by simpa using hb24
            have qhb25 : ¬ d = 2 := by simpa using hb25
            have qhb26 : ¬ d = 3 := by simpa using hb26
            have qhb27 : d = 4 := by simpa using hb27
            have qhb28 : ¬ who = 0 := by simpa using hb28
            have qhb29 : who = 1 := by simpa using hb29
            go_wp2_with fail
            go_ret
            exact ⟨ret_bool (show e0 = R from (by rw [hR.out]; unfold Ip.isR; (first | (simp [And.intro qhb1 (And.intro qhb5 (And.intro qhb24 (And.intro qhb25 (And.intro qhb26 (And.intro qhb27 (And.intro qhb28 qhb29))))))]; done) | (simp [And.intro qhb1 (And.intro qhb5 (And.intro qhb24 (And.intro qhb25 (And.intro qhb26 (And.intro qhb27 (And.intro qhb28 qhb29))))))]; omega)))), M.b⟩
          | true =>
           with_reducible refine rA ?_
           with_reducible refine wL 0 M ipG_f Tryz.underlying25 (infoTF16 (cellsF_size f fs)) ?_
           with_reducible refine vC M (HF.out _ M.b) ?_; clear M; intro u M
           iterate 2 (with_reducible refine rA ?_)
           cases fld with
           | false =>
            with_reducible refine rA ?_
            with_reducible refine wLv 0 M ipG_1 Tryz.underlying3 ?_
            have hb31 : (who == 1) = false := (by have h : who = 0 := (by simpa using hb28); rw [h]; rfl)
            iterate 3 (with_reducible refine rA ?_)
            with_reducible refine wLv 0 M ipG_1 Tryz.underlying3 ?_
            have hb32 : (who == 2) = false := (by have h : who = 0 := (by simpa using hb28); rw [h]; rfl)
            iterate 3 (with_reducible refine rA ?_)
            with_reducible refine kA ?_
            iterate 3 (with_reducible refine rA ?_)
            have qhb1 : ¬ on = 2 := by simpa using hb1
            have qhb5 : on = 1 := by simpa using hb5
            have qhb24 : ¬ d = 1 := by simpa using hb24
            have qhb25 : ¬ d = 2 := by simpa using hb25
            have qhb26 : ¬ d = 3 := by simpa using hb26
            have qhb27 : d = 4 := by simpa using hb27
            have qhb28 : who = 0 := by simpa using hb28
            have qhb31 : ¬ who = 1 := by simpa using hb31
            have qhb32 : ¬ who = 2 := by simpa using hb32
            go_wp2_with fail
            go_ret
            exact ⟨ret_bool (show false = R from (by rw [hR.out]; unfold Ip.isR; (first | (simp [And.intro qhb1 (And.intro qhb5 (And.intro qhb24 (And.intro qhb25 (And.intro qhb26 (And.intro qhb27 (And.intro qhb28 (And.intro qhb31 qhb32)))))))]; done) | (simp [And.intro qhb1 (And.intro qhb5 (And.intro qhb24 (And.intro qhb25 (And.intro qhb26 (And.intro qhb27 (And.intro qhb28 (And.intro qhb31 qhb32)))))))]; omega)))), M.b⟩
           | true =>
            iterate 11 (with_reducible refine kA ?_)
            iterate 2 (with_reducible refine rA ?_)
            have qhb1 : ¬ on = 2 := by simpa using hb1
            have qhb5 : on = 1 := by simpa using hb5
            have qhb24 : ¬ d = 1 := by simpa using hb24
            have qhb25 : ¬ d = 2 := by simpa using hb25
            have qhb26 : ¬ d = 3 := by simpa using hb26
            have qhb27 : d = 4 := by simpa using hb27
            have qhb28 : who = 0 := by simpa using hb28
            go_wp2_with fail
            go_ret
            exact ⟨ret_bool (show true = R from (by rw [hR.out]; unfold Ip.isR; (first | (simp [And.intro qhb1 (And.intro qhb5 (And.intro qhb24 (And.intro qhb25 (And.intro qhb26 (And.intro qhb27 qhb28)))))]; done) | (simp [And.intro qhb1 (And.intro qhb5 (And.intro qhb24 (And.intro qhb25 (And.intro qhb26 (And.intro qhb27 qhb28)))))]; omega)))), M.b⟩
        | true =>
         iterate 3 (with_reducible refine kA ?_)
         with_reducible refine rA ?_
         go_upto_region 11 with fail
         refine wp_region_lit ?_
         with_reducible refine rA ?_
         with_reducible refine wLv 0 M ipG_1 Tryz.underlying3 ?_
         obtain ⟨b33, hb33⟩ : ∃ b, (who == 0) = b := ⟨_, rfl⟩
         iterate 2 (with_reducible refine rA ?_)
         cases b33 with
         | false =>
          iterate 3 (with_reducible refine kA ?_)
          iterate 3 (with_reducible refine rA ?_)
          with_reducible refine wLv 0 M ipG_1 Tryz.underlying3 ?_
          obtain ⟨b34, hb34⟩ : ∃ b, (who == 1) = b := ⟨_, rfl⟩
          iterate 2 (with_reducible refine rA ?_)
          cases b34 with
          | false =>
           with_reducible refine rA ?_
           with_reducible refine wLv 0 M ipG_1 Tryz.underlying3 ?_
           obtain ⟨b35, hb35⟩ : ∃ b, (who == 2) = b := ⟨_, rfl⟩
           iterate 3 (with_reducible refine rA ?_)
           cases b35 with
           | false =>
            with_reducible refine kA ?_
            iterate 3 (with_reducible refine rA ?_)
            have qhb1 : ¬ on = 2 := by simpa using hb1
            have qhb5 : on = 1 := by simpa using hb5
            have qhb24 : ¬ d = 1 := by simpa using hb24
            have qhb25 : ¬ d = 2 := by simpa using hb25
            have qhb26 : d = 3 := by simpa using hb26
            have qhb33 : ¬ who = 0 := by simpa using hb33
            have qhb34 : ¬ who = 1 := by simpa using hb34
            have qhb35 : ¬ who = 2 := by simpa using hb35
            go_wp2_with fail
            go_ret
            exact ⟨ret_bool (show false = R from (by rw [hR.out]; unfold Ip.isR; (first | (simp [And.intro qhb1 (And.intro qhb5 (And.intro qhb24 (And.intro qhb25 (And.intro qhb26 (And.intro qhb33 (And.intro qhb34 qhb35))))))]; done) | (simp [And.intro qhb1 (And.intro qhb5 (And.intro qhb24 (And.intro qhb25 (And.intro qhb26 (And.intro qhb33 (And.intro qhb34 qhb35))))))]; omega)))), M.b⟩
           | true =>
            iterate 4 (with_reducible refine rA ?_)
            have qhb1 : ¬ on = 2 := by simpa using hb1
            have qhb5 : on = 1 := by simpa using hb5
            have qhb24 : ¬ d = 1 := by simpa using hb24
            have qhb25 : ¬ d = 2 := by simpa using hb25
            have qhb26 : d = 3 := by simpa using hb26
            have qhb33 : ¬ who = 0 := by simpa using hb33
            have qhb34 : ¬ who = 1 := by simpa using hb34
            have qhb35 : who = 2 := by simpa using hb35
            go_wp2_with fail
            go_ret
            exact ⟨ret_bool (show e0 = R from (by rw [hR.out]; unfold Ip.isR; (first | (simp [And.intro qhb1 (And.intro qhb5 (And.intro qhb24 (And.intro qhb25 (And.intro qhb26 (And.intro qhb33 (And.intro qhb34 qhb35))))))]; done) | (simp [And.intro qhb1 (And.intro qhb5 (And.intro qhb24 (And.intro qhb25 (And.intro qhb26 (And.intro qhb33 (And.intro qhb34 qhb35))))))]; omega)))), M.b⟩
          | true =>
           iterate 3 (with_reducible refine kA ?_)
           iterate 6 (with_reducible refine rA ?_)
           have qhb1 : ¬ on = 2 := by simpa using hb1
           have qhb5 : on = 1 := by simpa using hb5
           have qhb24 : ¬ d = 1 := by simpa using hb24
           have qhb25 : ¬ d = 2 := by simpa using hb25
           have qhb26 : d = 3 := by simpa using hb26
           have qhb33 : ¬ who = 0 := by simpa using hb33
           have qhb34 : who = 1 := by simpa using hb34
           go_wp2_with fail
           go_ret
           exact ⟨ret_bool (show e0 = R from (by rw [hR.out]; unfold Ip.isR; (first | (simp [And.intro qhb1 (And.intro qhb5 (And.intro qhb24 (And.intro qhb25 (And.intro qhb26 (And.intro qhb33 qhb34)))))]; done) | (simp [And.intro qhb1 (And.intro qhb5 (And.intro qhb24 (And.intro qhb25 (And.intro qhb26 (And.intro qhb33 qhb34)))))]; omega)))), M.b⟩
         | true =>
          with_reducible refine rA ?_
          with_reducible refine wL 0 M ipG_f Tryz.underlying25 (infoTF16 (cellsF_size f fs)) ?_
          with_reducible refine vC M (HF.out _ M.b) ?_; clear M; intro u M
          iterate 2 (with_reducible refine rA ?_)
          cases fld with
          | false =>
           with_reducible refine rA ?_
           with_reducible refine wLv 0 M ipG_1 Tryz.underlying3 ?_
           have hb36 : (who == 1) = false := (by have h : who = 0 := (by simpa using hb33); rw [h]; rfl)
           iterate 3 (with_reducible refine rA ?_)
           with_reducible refine wLv 0 M ipG_1 Tryz.underlying3 ?_
           have hb37 : (who == 2) = false := (by have h : who = 0 := (by simpa using hb33); rw [h]; rfl)
           iterate 3 (with_reducible refine rA ?_)
           with_reducible refine kA ?_
           iterate 3 (with_reducible refine rA ?_)
           have qhb1 : ¬ on = 2 := by simpa using hb1
           have qhb5 : on = 1 := by simpa using hb5
           have qhb24 : ¬ d = 1 := by simpa using hb24
           have qhb25 : ¬ d = 2 := by simpa using hb25
           have qhb26 : d = 3 := by simpa using hb26
           have qhb33 : who = 0 := by simpa using hb33
           have qhb36 : ¬ who = 1 := by simpa using hb36
           have qhb37 : ¬ who = 2 := by simpa using hb37
           go_wp2_with fail
           go_ret
           exact ⟨ret_bool (show false = R from (by rw [hR.out]; unfold Ip.isR; (first | (simp [And.intro qhb1 (And.intro qhb5 (And.intro qhb24 (And.intro qhb25 (And.intro qhb26 (And.intro qhb33 (And.intro qhb36 qhb37))))))]; done) | (simp [And.intro qhb1 (And.intro qhb5 (And.intro qhb24 (And.intro qhb25 (And.intro qhb26 (And.intro qhb33 (And.intro qhb36 qhb37))))))]; omega)))), M.b⟩
          | true =>
           iterate 11 (with_reducible refine kA ?_)
           iterate 2 (with_reducible refine rA ?_)
           have qhb1 : ¬ on = 2 := by simpa using hb1
           have qhb5 : on = 1 := by simpa using hb5
           have qhb24 : ¬ d = 1 := by simpa using hb24
           have qhb25 : ¬ d = 2 := by simpa using hb25
           have qhb26 : d = 3 := by simpa using hb26
           have qhb33 : who = 0 := by simpa using hb33
           go_wp2_with fail
           go_ret
           exact ⟨ret_bool (show true = R from (by rw [hR.out]; unfold Ip.isR; (first | (simp [And.intro qhb1 (And.intro qhb5 (And.intro qhb24 (And.intro qhb25 (And.intro qhb26 qhb33))))]; done) | (simp [And.intro qhb1 (And.intro qhb5 (And.intro qhb24 (And.intro qhb25 (And.intro qhb26 qhb33))))]; omega)))), M.b⟩
       | true =>
        iterate 3 (with_reducible refine kA ?_)
        iterate 2 (with_reducible refine rA ?_)
        iterate 3 (with_reducible refine kA ?_)
        with_reducible refine rA ?_
        go_upto_region 11 with fail
        refine wp_region_lit ?_
        with_reducible refine rA ?_
        with_reducible refine wLv 0 M ipG_1 Tryz.underlying3 ?_
        obtain ⟨b38, hb38⟩ : ∃ b, (who == 0) = b := ⟨_, rfl⟩
        iterate 2 (with_reducible refine rA ?_)
        cases b38 with
        | false =>
         iterate 3 (with_reducible refine kA ?_)
         iterate 3 (with_reducible refine rA ?_)
         with_reducible refine wLv 0 M ipG_1 Tryz.underlying3 ?_
         obtain ⟨b39, hb39⟩ : ∃ b, (who == 1) = b := ⟨_, rfl⟩
         iterate 2 (with_reducible refine rA ?_)
         cases b39 with
         | false =>
          with_reducible refine rA ?_
          with_reducible refine wLv 0 M ipG_1 Tryz.underlying3 ?_
          obtain ⟨b40, hb40⟩ : ∃ b, (who == 2) = b := ⟨_, rfl⟩
          iterate 3 (with_reducible refine rA ?_)
          cases b40 with
          | false =>
           with_reducible refine kA ?_
           iterate 3 (with_reducible refine rA ?_)
           have qhb1 : ¬ on = 2 := by simpa using hb1
           have qhb5 : on = 1 := by simpa using hb5
           have qhb24 : ¬ d = 1 := by simpa using hb24
           have qhb25 : d = 2 := by simpa using hb25
           have qhb38 : ¬ who = 0 := by simpa using hb38
           have qhb39 : ¬ who = 1 := by simpa using hb39
           have qhb40 : ¬ who = 2 := by simpa using hb40
           go_wp2_with fail
           go_ret
           exact ⟨ret_bool (show false = R from (by rw [hR.out]; unfold Ip.isR; (first | (simp [And.intro qhb1 (And.intro qhb5 (And.intro qhb24 (And.intro qhb25 (And.intro qhb38 (And.intro qhb39 qhb40)))))]; done) | (simp [And.intro qhb1 (And.intro qhb5 (And.intro qhb24 (And.intro qhb25 (And.intro qhb38 (And.intro qhb39 qhb40)))))]; omega)))), M.b⟩
          | true =>
           iterate 4 (with_reducible refine rA ?_)
           have qhb1 : ¬ on = 2 := by simpa using hb1
           have qhb5 : on = 1 := by simpa using hb5
           have qhb24 : ¬ d = 1 := by simpa using hb24
           have qhb25 : d = 2 := by simpa using hb25
           have qhb38 : ¬ who = 0 := by simpa using hb38
           have qhb39 : ¬ who = 1 := by simpa using hb39
           have qhb40 : who = 2 := by simpa using hb40
           go_wp2_with fail
           go_ret
           exact ⟨ret_bool (show e0 = R from (by rw [hR.out]; unfold Ip.isR; (first | (simp [And.intro qhb1 (And.intro qhb5 (And.intro qhb24 (And.intro qhb25 (And.intro qhb38 (And.intro qhb39 qhb40)))))]; done) | (simp [And.intro qhb1 (And.intro qhb5 (And.intro qhb24 (And.intro qhb25 (And.intro qhb38 (And.intro qhb39 qhb40)))))]; omega)))), M.b⟩
         | true =>
          iterate 3 (with_reducible refine kA ?_)
          iterate 6 (with_reducible refine rA ?_)
          have qhb1 : ¬ on = 2 := by simpa using hb1
          have qhb5 : on = 1 := by simpa using hb5
          have qhb24 : ¬ d = 1 := by simpa using hb24
          have qhb25 : d = 2 := by simpa using hb25
          have qhb38 : ¬ who = 0 := by simpa using hb38
          have qhb39 : who = 1 := by simpa using hb39
          go_wp2_with fail
          go_ret
          exact ⟨ret_bool (show e0 = R from (by rw [hR.out]; unfold Ip.isR; (first | (simp [And.intro qhb1 (And.intro qhb5 (And.intro qhb24 (And.intro qhb25 (And.intro qhb38 qhb39))))]; done) | (simp [And.intro qhb1 (And.intro qhb5 (And.intro qhb24 (And.intro qhb25 (And.intro qhb38 qhb39))))]; omega)))), M.b⟩
        | true =>
         with_reducible refine rA ?_
         with_reducible refine wL 0 M ipG_f Tryz.underlying25 (infoTF16 (cellsF_size f fs)) ?_
         with_reducible refine vC M (HF.out _ M.b) ?_; clear M; intro u M
         iterate 2 (with_reducible refine rA ?_)
         cases fld with
         | false =>
          with_reducible refine rA ?_
          with_reducible refine wLv 0 M ipG_1 Tryz.underlying3 ?_
          have hb41 : (who == 1) = false := (by have h : who = 0 := (by simpa using hb38); rw [h]; rfl)
          iterate 3 (with_reducible refine rA ?_)
          with_reducible refine wLv 0 M ipG_1 Tryz.underlying3 ?_
          have hb42 : (who == 2) = false := (by have h : who = 0 := (by simpa using hb38); rw [h]; rfl)
          iterate 3 (with_reducible refine rA ?_)
          with_reducible refine kA ?_
          iterate 3 (with_reducible refine rA ?_)
          have qhb1 : ¬ on = 2 := by simpa using hb1
          have qhb5 : on = 1 := by simpa using hb5
          have qhb24 : ¬ d = 1 := by simpa using hb24
          have qhb25 : d = 2 := by simpa using hb25
          have qhb38 : who = 0 := by simpa using hb38
          have qhb41 : ¬ who = 1 := by simpa using hb41
          have qhb42 : ¬ who = 2 := by simpa using hb42
          go_wp2_with fail
          go_ret
          exact ⟨ret_bool (show false = R from (by rw [hR.out]; unfold Ip.isR; (first | (simp [And.intro qhb1 (And.intro qhb5 (And.intro qhb24 (And.intro qhb25 (And.intro qhb38 (And.intro qhb41 qhb42)))))]; done) | (simp [And.intro qhb1 (And.intro qhb5 (And.intro qhb24 (And.intro qhb25 (And.intro qhb38 (And.intro qhb41 qhb42)))))]; omega)))), M.b⟩
         | true =>
          iterate 11 (with_reducible refine kA ?_)
          iterate 2 (with_reducible refine rA ?_)
          have qhb1 : ¬ on = 2 := by simpa using hb1
          have qhb5 : on = 1 := by simpa using hb5
          have qhb24 : ¬ d = 1 := by simpa using hb24
          have qhb25 : d = 2 := by simpa using hb25
          have qhb38 : who = 0 := by simpa using hb38
          go_wp2_with fail
          go_ret
          exact ⟨ret_bool (show true = R from (by rw [hR.out]; unfold Ip.isR; (first | (simp [And.intro qhb1 (And.intro qhb5 (And.intro qhb24 (And.intro qhb25 qhb38)))]; done) | (simp [And.intro qhb1 (And.intro qhb5 (And.intro qhb24 (And.intro qhb25 qhb38)))]; omega)))), M.b⟩
      | true =>
       iterate 3 (with_reducible refine kA ?_)
       iterate 2 (with_reducible refine rA ?_)
       iterate 3 (with_reducible refine kA ?_)
       iterate 2 (with_reducible refine rA ?_)
       iterate 3 (with_reducible refine kA ?_)
       with_reducible refine rA ?_
       go_upto_region 11 with fail
       refine wp_region_lit ?_
       with_reducible refine rA ?_
       with_reducible refine wLv 0 M ipG_1 Tryz.underlying3 ?_
       obtain ⟨b43, hb43⟩ : ∃ b, (who == 0) = b := ⟨_, rfl⟩
       iterate 2 (with_reducible refine rA ?_)
       cases b43 with
       | false =>
        iterate 3 (with_reducible refine kA ?_)
        iterate 3 (with_reducible refine rA ?_)
        with_reducible refine wLv 0 M ipG_1 Tryz.underlying3 ?_
        obtain ⟨b44, hb44⟩ : ∃ b, (who == 1) = b := ⟨_, rfl⟩
        iterate 2 (with_reducible refine rA ?_)
        cases b44 with
        | false =>
         with_reducible refine rA ?_
         with_reducible refine wLv 0 M ipG_1 Tryz.underlying3 ?_
         obtain ⟨b45, hb45⟩ : ∃ b, (who == 2) = b := ⟨_, rfl⟩
         iterate 3 (with_reducible refine rA ?_)
         cases b45 with
         | false =>
          with_reducible refine kA ?_
          iterate 3 (with_reducible refine rA ?_)
          have qhb1 : ¬ on = 2 := by simpa using hb1
          have qhb5 : on = 1 := by simpa using hb5
          have qhb24 : d = 1 := by simpa using hb24
          have qhb43 : ¬ who = 0 := by simpa using hb43
          have qhb44 : ¬ who = 1 := by simpa using hb44
          have qhb45 : ¬ who = 2 := by simpa using hb45
          go_wp2_with fail
          go_ret
          exact ⟨ret_bool (show false = R from (by rw [hR.out]; unfold Ip.isR; (first | (simp [And.intro qhb1 (And.intro qhb5 (And.intro qhb24 (And.intro qhb43 (And.intro qhb44 qhb45))))]; done) | (simp [And.intro qhb1 (And.intro qhb5 (And.intro qhb24 (And.intro qhb43 (And.intro qhb44 qhb45))))]; omega)))), M.b⟩
         | true =>
          iterate 4 (with_reducible refine rA ?_)
          have qhb1 : ¬ on = 2 := by simpa using hb1
          have qhb5 : on = 1 := by simpa using hb5
          have qhb24 : d = 1 := by simpa using hb24
          have qhb43 : ¬ who = 0 := by simpa using hb43
          have qhb44 : ¬ who = 1 := by simpa using hb44
          have qhb45 : who = 2 := by simpa using hb45
          go_wp2_with fail
          go_ret
          exact ⟨ret_bool (show e0 = R from (by rw [hR.out]; unfold Ip.isR; (first | (simp [And.intro qhb1 (And.intro qhb5 (And.intro qhb24 (And.intro qhb43 (And.intro qhb44 qhb45))))]; done) | (simp [And.intro qhb1 (And.intro qhb5 (And.intro qhb24 (And.intro qhb43 (And.intro qhb44 qhb45))))]; omega)))), M.b⟩
        | true =>
         iterate 3 (with_reducible refine kA ?_)
         iterate 6 (with_reducible refine rA ?_)
         have qhb1 : ¬ on = 2 := by simpa using hb1
         have qhb5 : on = 1 := by simpa using hb5
         have qhb24 : d = 1 := by simpa using hb24
         have qhb43 : ¬ who = 0 := by simpa using hb43
         have qhb44 : who = 1 := by simpa using hb44
         go_wp2_with fail
         go_ret
         exact ⟨ret_bool (show e0 = R from (by rw [hR.out]; unfold Ip.isR; (first | (simp [And.intro qhb1 (And.intro qhb5 (And.intro qhb24 (And.intro qhb43 qhb44)))]; done) | (simp [And.intro qhb1 (And.intro qhb5 (And.intro qhb24 (And.intro qhb43 qhb44)))]; omega)))), M.b⟩
       | true =>
        with_reducible refine rA ?_
        with_reducible refine wL 0 M ipG_f Tryz.underlying25 (infoTF16 (cellsF_size f fs)) ?_
        with_reducible refine vC M (HF.out _ M.b) ?_; clear M; intro u M
        iterate 2 (with_reducible refine rA ?_)
        cases fld with
        | false =>
         with_reducible refine rA ?_
         with_reducible refine wLv 0 M ipG_1 Tryz.underlying3 ?_
         have hb46 : (who == 1) = false := (by have h : who = 0 := (by simpa using hb43); rw [h]; rfl)
         iterate 3 (with_reducible refine rA ?_)
         with_reducible refine wLv 0 M ipG_1 Tryz.underlying3 ?_
         have hb47 : (who == 2) = false := (by have h : who = 0 := (by simpa using hb43); rw [h]; rfl)
         iterate 3 (with_reducible refine rA ?_)
         with_reducible refine kA ?_
         iterate 3 (with_reducible refine rA ?_)
         have qhb1 : ¬ on = 2 := by simpa using hb1
         have qhb5 : on = 1 := by simpa using hb5
         have qhb24 : d = 1 := by simpa using hb24
         have qhb43 : who = 0 := by simpa using hb43
         have qhb46 : ¬ who = 1 := by simpa using hb46
         have qhb47 : ¬ who = 2 := by simpa using hb47
         go_wp2_with fail
         go_ret
         exact ⟨ret_bool (show false = R from (by rw [hR.out]; unfold Ip.isR; (first | (simp [And.intro qhb1 (And.intro qhb5 (And.intro qhb24 (And.intro qhb43 (And.intro qhb46 qhb47))))]; done) | (simp [And.intro qhb1 (And.intro qhb5 (And.intro qhb24 (And.intro qhb43 (And.intro qhb46 qhb47))))]; omega)))), M.b⟩
        | true =>
         iterate 11 (with_reducible refine kA ?_)
         iterate 2 (with_reducible refine rA ?_)
         have qhb1 : ¬ on = 2 := by simpa using hb1
         have qhb5 : on = 1 := by simpa using hb5
         have qhb24 : d = 1 := by simpa using hb24
         have qhb43 : who = 0 := by simpa using hb43
         go_wp2_with fail
         go_ret
         exact ⟨ret_bool (show true = R from (by rw [hR.out]; unfold Ip.isR; (first | (simp [And.intro qhb1 (And.intro qhb5 (And.intro qhb24 qhb43))]; done) | (simp [And.intro qhb1 (And.intro qhb5 (And.intro qhb24 qhb43))]; omega)))), M.b⟩
  | true =>
   go_upto_region 2 with fail
   refine wp_region_lit ?_
   with_reducible refine wL 0 M whole_part Tryz.underlying27 (infoTIp22 (ipG_sz (cellsF_size f fs))) ?_
   with_reducible refine vC M (HM.out _ M.b) ?_; clear M; intro u M
   with_reducible refine rA ?_
   have qhb1 : on = 2 := by simpa using hb1
   go_wp2_with fail
   go_ret
   exact ⟨ret_bool (show mv = R from (by rw [hR.out]; unfold Ip.isR; (first | (simp [qhb1]; done) | (simp [qhb1]; omega)))), M.b⟩
end Go.Proofs.YtkohfomiigcifaaGreatDoor
namespace Go.Proofs.YtkohfomiigcifaaGreatDoor
open Go.RowKit
open Wd (Bs)

theorem refZone17 (z : Int) (w : World) : Calls Tryz.prog 67 #[.int .i64 z] w fun e w' => e = .returned (str (Ip.zoneT z)) ∧ Below w.heap.size w w' := by
  by_cases h : 0 ≤ z ∧ z ≤ 5
  · obtain ⟨j, rfl⟩ : ∃ j : Nat, z = (j : Int) := ⟨z.toNat, by omega⟩
    have hj : j < 6 := by omega
    refine (refZoneIn17 j ⟨(Ip.zoneN j).toArray⟩ w hj (decide_eq_false (by omega)) (decide_eq_false (by omega)) (ipZonesT_at hj)).mono ?_
    rintro e w1 ⟨rfl, hb⟩
    refine ⟨?_, hb⟩
    unfold Ip.zoneT
    rw [if_pos h]
    rfl
  · have e : Ip.zoneT z = [] := by unfold Ip.zoneT; rw [if_neg h]
    rw [e]
    by_cases hn : z < 0
    · exact refZoneNeg17 z w (decide_eq_true hn)
    · exact refZoneBig17 z w (decide_eq_false hn) (decide_eq_true (by omega))
theorem refField19 (f : Fil.Flt) (fs : ByteArray) (hf : f.sub = fs.data.toList) (hs : fs.size ≤ maxLen) (w : World) : Calls Tryz.prog 28 #[.agg (cellsF f fs)] w fun e w' => e = .returned (.bool (Ip.fieldB f)) ∧ Below w.heap.size w w' := by
  refine (refFieldIn19 f fs (Fil.validB f) (f.zone == 0) w (Lib.hid fun W _ => refIs13 f fs hf hs W) rfl).mono ?_
  rintro e w1 ⟨rfl, hb⟩
  refine ⟨?_, hb⟩
  unfold Ip.fieldB
  rw [show (f.zone == 0) = decide (f.zone = 0) by rw [Bool.eq_iff_iff]; simp]
theorem refIs19 (on who d n z c : Int) (f : Fil.Flt) (fs : ByteArray) (hf : f.sub = fs.data.toList) (hs : fs.size ≤ maxLen) (w : World) :
    Calls Tryz.prog 11 #[.agg (ipG on who (cellsF f fs) d n z c)] w fun e w' => e = .returned (.bool (Ip.okB ⟨on, who, f, d, n, z, c⟩)) ∧ Below w.heap.size w w' := by
  rw [← Ip.isR_ok ⟨on, who, f, d, n, z, c⟩]
  have HF : Hid (∀ W, Below w.heap.size w W → Calls Tryz.prog 28 #[.agg (cellsF f fs)] W fun e w' => e = .returned (.bool (Ip.fieldB f)) ∧ Below W.heap.size W w') := Lib.hid fun W _ => refField19 f fs hf hs W
  exact refIsIn19 on who d n z c f fs _ (Ip.movesR who d n z c (Ip.fieldB f)) (Ip.plainR d n z c) (decide (f = Fil.zero)) (Ip.fieldB f) w (Lib.hid fun W hb => refMovesIn19 on who d n z c f fs _ (Ip.fieldB f) W (Lib.hid fun W2 _ => refField19 f fs hf hs W2) (Lib.hid rfl)) (Lib.hid fun W _ => refPlain19 on who d n z c f fs _ W (Lib.hid rfl)) (eqF_zero f fs hf) HF (Lib.hid rfl)
theorem refAct19 (on who d n z c : Int) (f : Fil.Flt) (fs : ByteArray) (h0 : -9223372036854775808 ≤ n) (h1 : n ≤ 9223372036854775807) (w : World) :
    Calls Tryz.prog 35 #[.agg (ipG on who (cellsF f fs) d n z c)] w fun e w' => e = .returned (str (Ip.actR d n z c)) ∧ Below w.heap.size w w' := by
  have e := Num.itoa_len h0 h1
  have g := ctr_len c
  refine (refActIn19 on who d n z c f fs ⟨(Lib.itoa n).toArray⟩ ⟨(Ip.zoneT z).toArray⟩ ⟨(Ctr.nameI c).toArray⟩ _ w (Lib.hid fun W _ => refText n h0 h1 W) (Lib.hid fun W _ => refZone17 z W) (Lib.hid fun W _ => below_same (refName12 c W)) (by rw [size_of]; omega) (by rw [size_of]; omega) (Lib.hid rfl)).mono ?_
  rintro e w1 ⟨rfl, hb⟩
  refine ⟨congrArg Ending.returned (str_of ?_), hb⟩
  unfold Ip.actR
  simp only [beq_iff_eq]
  by_cases h1 : d = 1
  · rw [if_pos h1, if_pos h1]; rfl
  rw [if_neg h1, if_neg h1]
  by_cases h2 : d = 2
  · rw [if_pos h2, if_pos h2]; simp
  rw [if_neg h2, if_neg h2]
  by_cases h3 : d = 3
  · rw [if_pos h3, if_pos h3]; rfl
  rw [if_neg h3, if_neg h3]
  by_cases h4 : d = 4
  · rw [if_pos h4, if_pos h4]; simp
  rw [if_neg h4, if_neg h4]
  by_cases h5 : d = 5
  · rw [if_pos h5, if_pos h5]
  rw [if_neg h5, if_neg h5]
  by_cases h6 : d = 6
  · rw [if_pos h6, if_pos h6]; rfl
  rw [if_neg h6, if_neg h6]
  by_cases h7 : d = 7
  · rw [if_pos h7, if_pos h7]; simp
  rw [if_neg h7, if_neg h7]
  rfl
theorem refTxt19 (on who d n z c : Int) (f : Fil.Flt) (fs : ByteArray) (hf : f.sub = fs.data.toList) (hs : fs.size ≤ maxLen) (w : World) :
    Calls Tryz.prog 13 #[.agg (ipG on who (cellsF f fs) d n z c)] w fun e w' => e = .returned (str (Ip.textT ⟨on, who, f, d, n, z, c⟩)) ∧ Below w.heap.size w w' := by
  have HI : Hid (∀ W, Below w.heap.size w W → _) := Lib.hid fun W _ => refIs19 on who d n z c f fs hf hs W
  cases hv : Ip.okB ⟨on, who, f, d, n, z, c⟩ with
  | false =>
    rw [hv] at HI
    refine (refTextBad19 on who d n z c f fs w HI).mono ?_
    rintro e w1 ⟨rfl, hb⟩
    exact ⟨by rw [Ip.textT_bad hv]; rfl, hb⟩
  | true =>
    rw [hv] at HI
    have o := Ip.ok_parts hv
    have lo := o.lo
    have hi := o.hi
    have ha := Ip.mem_act o.act
    have nY := o.nY
    have nN := o.nN
    have wo := Ip.word_ok o
    have ao := Ip.act_ok o
    have fN := o.fN
    simp only at lo hi ha nY nN wo ao fN
    have hn : 0 ≤ n ∧ n ≤ 99 := by
      cases hN : Ip.uN d with
      | true => have := nY hN; omega
      | false => have := nN hN; omega
    have b := heads19_len (Ip.formI on who d).toNat (by omega)
    rw [wo.1] at b
    have e := textF_len4 f
    have g := whoT_len who
    have h := actT_len (d := d) (n := n) (z := z) (c := c) (by omega) (by omega) (by omega)
    rw [← ao] at h
    refine (refTextOk19 on who d n z c f fs ⟨(Ip.headL (Ip.wordI on who d)).toArray⟩ ⟨(Fil.textF f).toArray⟩ ⟨(Ip.actR d n z c).toArray⟩ ⟨(Tg.whoT who).toArray⟩ _ (Ip.filtB on who) w HI (Lib.hid fun W _ => refFilt19 on who d n z c f fs _ W (Lib.hid rfl)) (Lib.hid fun W _ => refWord19 on who d n z c f fs _ W (Lib.hid rfl)) (Lib.hid fun W _ => refText13 f fs hf hs W) (Lib.hid fun W _ => refAct19 on who d n z c f fs (by omega) (by omega) W) (Lib.hid fun W _ => refWho18 who W)
      (by rw [size_of]; omega) (by rw [size_of]; omega) (by rw [size_of]; omega) (by rw [size_of]; omega) (Lib.hid rfl)).mono ?_
    rintro e w1 ⟨rfl, hb⟩
    refine ⟨?_, hb⟩
    rw [Ip.textT_ok hv]
    refine congrArg Ending.returned (str_of ?_)
    unfold Ip.raw Ip.subj
    simp only
    rw [wo.1, wo.2, ← ao]
    cases hfl : Ip.filtB on who with
    | true =>
      have hv2 := (fN (by rw [wo.2, hfl]; rfl)).1
      unfold Tg.partF
      rw [if_pos hv2]
      simp
    | false => simp
end Go.Proofs.YtkohfomiigcifaaGreatDoor
