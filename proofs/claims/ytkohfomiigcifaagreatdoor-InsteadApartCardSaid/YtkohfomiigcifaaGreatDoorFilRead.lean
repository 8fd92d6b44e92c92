/-
  PLAIN FACTS OF LAYER 13 (filter): what the program's reader and the reference's find in a text; the filter with a text; no program in it. By an AI agent.
-/
import Derived.Test.YtkohfomiigcifaaGreatDoorFilPlain
namespace Go.Proofs.YtkohfomiigcifaaGreatDoor.Fil
open Num (bitsL bitB)
open Wd (cut split)

/-! the words that have not been consumed -/
abbrev St := Bs × Bs
def adv (st : St) : St := ((cut st.2 [32]).1, (cut st.2 [32]).2.1)
def stOf : List Bs → St
  | [] => ([], [])
  | p :: q => (p, Lib.join q [32])
theorem adv_stOf {p : Bs} {q : List Bs} (h : ∀ x ∈ q, Ct.PlainP 32 x) : adv (stOf (p :: q)) = stOf q := by
  match q, h with
  | [], _ => rfl
  | [a], h =>
    show ((cut (Lib.join [a] [32]) [32]).1, (cut (Lib.join [a] [32]) [32]).2.1) = (a, Lib.join [] [32])
    rw [Lib.join_one, Ct.cut_plain (h a (by simp))]; rfl
  | a :: b :: r, h =>
    show ((cut (Lib.join (a :: b :: r) [32]) [32]).1, (cut (Lib.join (a :: b :: r) [32]) [32]).2.1) = (a, Lib.join (b :: r) [32])
    rw [Ct.join_two, Ct.cut_at (h a (by simp))]
theorem cls_nil : cls [] = 13 := by decide +kernel
theorem head_cls {i : Nat} (hi : i < 13) : ∀ {ps : List Bs}, (∀ w ∈ ps, i < cls w) → i < cls (stOf ps).1
  | [], _ => by show i < cls []; rw [cls_nil]; exact hi
  | p :: q, h => h p (by simp)
/-- the first word of a table that is the first word -/
def rOne (t : List Bs) (st : St) : Nat × St := if 0 < hitAt t st.1 then (hitAt t st.1, adv st) else (0, st)
theorem hit_cls {t : List Bs} {n c : Nat} (hn : t.length = n) (hc : ∀ k, k < n → 0 < k → cls (t.getD k []) = c ∧ hitAt t (t.getD k []) = k) {w : Bs} (h : 0 < hitAt t w) : cls w = c := by
  unfold hitAt at h
  split at h
  · rename_i h1
    have h2 := List.findIdx_getElem (w := h1)
    simp only [Bool.and_eq_true, beq_iff_eq] at h2
    have h3 := (hc _ (by omega) h).1
    rw [List.getD, List.getElem?_eq_getElem h1, Option.getD_some, h2.2] at h3
    exact h3
  · exact absurd h (Nat.lt_irrefl 0)
theorem rOne_seg {t : List Bs} {n c : Nat} (hn : t.length = n) (h0 : t.getD 0 [] = []) (hc : ∀ k, k < n → 0 < k → cls (t.getD k []) = c ∧ hitAt t (t.getD k []) = k) {x : Int} (hx : 0 ≤ x) (hx' : x < n)
    {rest : List Bs} (hp : ∀ y ∈ rest, Ct.PlainP 32 y) (hr : c < cls (stOf rest).1) (hne : ∀ k, k < n → 0 < k → t.getD k [] ≠ []) : rOne t (stOf (one (tbl t x) ++ rest)) = (x.toNat, stOf rest) := by
  unfold one tbl
  by_cases e : x.toNat = 0
  · rw [e, h0, if_pos rfl, List.nil_append]
    unfold rOne
    rw [if_neg (fun h => by have := hit_cls hn hc h; omega)]
  · have h1 := (hc x.toNat (by omega) (by omega)).2
    rw [if_neg (hne _ (by omega) (by omega))]
    unfold rOne
    rw [if_pos (by show 0 < hitAt t (t.getD x.toNat []); omega)]
    exact Prod.ext h1 (adv_stOf hp)
theorem ne_zone : ∀ k, k < 6 → 0 < k → zonesL.getD k [] ≠ [] := by decide
theorem ne_who : ∀ k, k < 3 → 0 < k → whoL.getD k [] ≠ [] := by decide
theorem ne_self : ∀ k, k < 3 → 0 < k → selfL.getD k [] ≠ [] := by decide
theorem ne_tap : ∀ k, k < 3 → 0 < k → tapL.getD k [] ≠ [] := by decide
/-- the names in their order -/
def rStep (nm : Nat → Bs) (pre : Bs) (k : Nat) (a : Nat × St) : Nat × St := if a.2.1 = pre ++ nm k then (a.1 + 2 ^ k, adv a.2) else a
def rMask (nm : Nat → Bs) (pre : Bs) (st : St) : Nat → Nat × St
  | 0 => (0, st)
  | k + 1 => rStep nm pre k (rMask nm pre st k)
theorem rMask_lt (nm : Nat → Bs) (pre : Bs) (st : St) : ∀ k, (rMask nm pre st k).1 < 2 ^ k
  | 0 => by show 0 < 1; omega
  | k + 1 => by
    have ih := rMask_lt nm pre st k
    show (rStep nm pre k (rMask nm pre st k)).1 < _
    unfold rStep
    split
    · show (rMask nm pre st k).1 + 2 ^ k < _
      rw [Nat.pow_succ]; omega
    · rw [Nat.pow_succ]; omega
def maskFrom (nm : Nat → Bs) (pre : Bs) (m k n : Nat) : List Bs := ((List.range' k (n - k)).filter (bitB m)).map fun k => pre ++ nm k
theorem maskFrom_zero (nm : Nat → Bs) (pre : Bs) (m n : Nat) : maskFrom nm pre m 0 n = maskW nm pre m n := by
  unfold maskFrom maskW
  rw [Nat.sub_zero, ← List.range_eq_range']
theorem maskFrom_end (nm : Nat → Bs) (pre : Bs) (m n : Nat) : maskFrom nm pre m n n = [] := by unfold maskFrom; rw [Nat.sub_self]; rfl
theorem maskFrom_yes {nm : Nat → Bs} {pre : Bs} {m k n : Nat} (hk : k < n) (h : bitB m k = true) : maskFrom nm pre m k n = (pre ++ nm k) :: maskFrom nm pre m (k + 1) n := by
  unfold maskFrom
  rw [show n - k = (n - (k + 1)) + 1 by omega, List.range'_succ, List.filter_cons_of_pos h, List.map_cons]
theorem maskFrom_no {nm : Nat → Bs} {pre : Bs} {m k n : Nat} (hk : k < n) (h : bitB m k = false) : maskFrom nm pre m k n = maskFrom nm pre m (k + 1) n := by
  unfold maskFrom
  rw [show n - k = (n - (k + 1)) + 1 by omega, List.range'_succ, List.filter_cons_of_neg (by simp [h])]
theorem mem_maskFrom {nm : Nat → Bs} {pre : Bs} {m k n : Nat} {w : Bs} (h : w ∈ maskFrom nm pre m k n) : ∃ i, k ≤ i ∧ i < n ∧ w = pre ++ nm i := by
  unfold maskFrom at h
  obtain ⟨i, hi, rfl⟩ := List.mem_map.1 h
  have := List.mem_range'_1.1 (List.mem_filter.1 hi).1
  exact ⟨i, this.1, by omega, rfl⟩
theorem rMask_seg {nm : Nat → Bs} {pre : Bs} {n c : Nat} (hc : ∀ k, k < n → cls (pre ++ nm k) = c) (hinj : ∀ k, k < n → ∀ i, i < k → pre ++ nm i ≠ pre ++ nm k) (hpl : ∀ k, k < n → Ct.PlainP 32 (pre ++ nm k)) (m : Nat)
    {rest : List Bs} (hp : ∀ y ∈ rest, Ct.PlainP 32 y) (hr : c < cls (stOf rest).1) : ∀ k, k ≤ n → rMask nm pre (stOf (maskW nm pre m n ++ rest)) k = (m % 2 ^ k, stOf (maskFrom nm pre m k n ++ rest))
  | 0, _ => by rw [Nat.pow_zero, Nat.mod_one, maskFrom_zero]; rfl
  | k + 1, h => by
    have ih := rMask_seg hc hinj hpl m hp hr k (by omega)
    show rStep nm pre k (rMask _ _ _ k) = _
    rw [ih]
    unfold rStep
    cases hb : bitB m k with
    | true =>
      rw [maskFrom_yes (by omega) hb, List.cons_append, Kw.mod_yes hb]
      refine (if_pos (show (stOf ((pre ++ nm k) :: (maskFrom nm pre m (k + 1) n ++ rest))).1 = _ from rfl)).trans ?_
      refine Prod.ext rfl (adv_stOf fun y hy => ?_)
      rcases List.mem_append.1 hy with h1 | h1
      · obtain ⟨i, _, hi, rfl⟩ := mem_maskFrom h1
        exact hpl i hi
      · exact hp y h1
    | false =>
      rw [maskFrom_no (by omega) hb, Kw.mod_no hb]
      refine if_neg ?_
      intro e
      cases hl : maskFrom nm pre m (k + 1) n with
      | nil =>
        rw [hl] at e
        have h1 := hc k (by omega)
        have h2 : (stOf rest).1 = pre ++ nm k := e
        rw [h2, h1] at hr
        omega
      | cons a q =>
        rw [hl] at e
        obtain ⟨i, h1, h2, rfl⟩ := mem_maskFrom (show a ∈ maskFrom nm pre m (k + 1) n by rw [hl]; simp)
        exact hinj i h2 k (by omega) (show pre ++ nm i = pre ++ nm k from e).symm
theorem rMask_all {nm : Nat → Bs} {pre : Bs} {n c : Nat} (hc : ∀ k, k < n → cls (pre ++ nm k) = c) (hinj : ∀ k, k < n → ∀ i, i < k → pre ++ nm i ≠ pre ++ nm k) (hpl : ∀ k, k < n → Ct.plainB 32 (pre ++ nm k) = true) {m : Nat} (hm : m < 2 ^ n)
    {rest : List Bs} (hp : ∀ y ∈ rest, Ct.PlainP 32 y) (hr : c < cls (stOf rest).1) : rMask nm pre (stOf (maskW nm pre m n ++ rest)) n = (m, stOf rest) := by
  rw [rMask_seg hc hinj (fun k hk => Ct.plain_of (hpl k hk)) m hp hr n (Nat.le_refl _), Nat.mod_eq_of_lt hm, maskFrom_end, List.nil_append]
theorem inj_type : ∀ k, k < 6 → ∀ i, i < k → [] ++ typeW i ≠ [] ++ typeW k := by decide +kernel
theorem inj_ntype : ∀ k, k < 6 → ∀ i, i < k → sNon ++ typeW i ≠ sNon ++ typeW k := by decide +kernel
theorem inj_color : ∀ k, k < 5 → ∀ i, i < k → [] ++ Col.name i ≠ [] ++ Col.name k := by decide +kernel
theorem inj_ncolor : ∀ k, k < 5 → ∀ i, i < k → sNon ++ Col.name i ≠ sNon ++ Col.name k := by decide +kernel
theorem inj_key : ∀ k, k < 17 → ∀ i, i < k → sWith ++ Kw.name i ≠ sWith ++ Kw.name k := by decide +kernel
theorem pl_type : ∀ k, k < 6 → Ct.plainB 32 ([] ++ typeW k) = true := by decide +kernel
theorem pl_ntype : ∀ k, k < 6 → Ct.plainB 32 (sNon ++ typeW k) = true := by decide +kernel
theorem pl_color : ∀ k, k < 5 → Ct.plainB 32 ([] ++ Col.name k) = true := by decide +kernel
theorem pl_ncolor : ∀ k, k < 5 → Ct.plainB 32 (sNon ++ Col.name k) = true := by decide +kernel
theorem pl_key : ∀ k, k < 17 → Ct.plainB 32 (sWith ++ Kw.name k) = true := by decide +kernel
def rSub (st : St) : Bs × St := if sSub.isPrefixOf st.1 then (st.1.drop 4, adv st) else ([], st)
theorem rSub_seg {s : Bs} {rest : List Bs} (hp : ∀ y ∈ rest, Ct.PlainP 32 y) (hr : 7 < cls (stOf rest).1) : rSub (stOf (one (subW s) ++ rest)) = (s, stOf rest) := by
  unfold one subW
  by_cases e : s = []
  · rw [if_pos e, if_pos rfl, List.nil_append]
    unfold rSub
    rw [if_neg (fun h => by have := cls_sub _ h; omega), e]
  · rw [if_neg e, if_neg (by intro h; have := congrArg List.length h; simp [sSub] at this)]
    unfold rSub
    show (if sSub.isPrefixOf (sSub ++ s) = true then _ else _) = _
    rw [if_pos (pre_self _ _)]
    have e1 : (sSub ++ s).drop 4 = s := by simp [sSub]
    exact Prod.ext e1 (adv_stOf hp)
/-- the kind of the bound that a word begins with, 0 for none -/
def bdK (nm w : Bs) : Nat := if (nm ++ signW 1).isPrefixOf w then 1 else if (nm ++ signW 2).isPrefixOf w then 2 else if (nm ++ signW 3).isPrefixOf w then 3 else 0
def num (l : Bs) : Int := (Num.numberL l).getD 0
def bdN (nm w : Bs) (k : Nat) : Bs := w.drop (nm ++ signW k).length
def rBd (nm : Bs) (st : St) : Bd × St := if bdK nm st.1 = 0 then (zeroB, st) else (⟨bdK nm st.1, num (bdN nm st.1 (bdK nm st.1))⟩, adv st)
theorem pre_drop : ∀ (a b c : Bs), (a ++ b).isPrefixOf (a ++ c) = b.isPrefixOf c
  | [], _, _ => rfl
  | x :: a, b, c => by
    show (x == x && (a ++ b).isPrefixOf (a ++ c)) = _
    rw [pre_drop a b c]; simp
theorem bdK_pre {nm w : Bs} (h : bdK nm w ≠ 0) : nm.isPrefixOf w = true := by
  have key : ∀ k, (nm ++ signW k).isPrefixOf w = true → nm.isPrefixOf w = true := by
    intro k hk
    obtain ⟨t, rfl⟩ := List.isPrefixOf_iff_prefix.1 hk
    rw [List.append_assoc]; exact pre_self _ _
  unfold bdK at h
  split at h
  · rename_i h1; exact key 1 h1
  · split at h
    · rename_i h1; exact key 2 h1
    · split at h
      · rename_i h1; exact key 3 h1
      · exact absurd rfl h
theorem bdK_text {nm : Bs} {k : Nat} (h0 : 0 < k) (h3 : k ≤ 3) (d : Bs) : bdK nm (nm ++ signW k ++ d) = k := by
  unfold bdK
  rw [List.append_assoc, pre_drop, pre_drop, pre_drop]
  match k, h0, h3 with
  | 1, _, _ => exact if_pos (pre_self _ _)
  | 2, _, _ => rw [if_neg (by simp [signW, signsL]), if_pos (pre_self _ _)]
  | 3, _, _ => rw [if_neg (by simp [signW, signsL]), if_neg (by simp [signW, signsL]), if_pos (pre_self _ _)]
theorem bdN_text (nm : Bs) (k : Nat) (d : Bs) : bdN nm (nm ++ signW k ++ d) k = d := List.drop_left
theorem bd_valid {b : Bd} (h : bdB b = true) : 0 ≤ b.kind ∧ b.kind ≤ 3 ∧ 0 ≤ b.n ∧ b.n ≤ 1000000 ∧ (b.kind = 0 → b.n = 0) := by
  simp only [bdB, Bool.and_eq_true, Bool.or_eq_true, within_iff, decide_eq_true_eq] at h
  omega
theorem bdW_ne {nm : Bs} {b : Bd} (hk : b.kind ≠ 0) (hnm : nm ≠ []) : bdW nm b ≠ [] := by
  unfold bdW; rw [if_neg hk]; intro h; simp at h; exact hnm h.1
theorem rBd_seg {nm : Bs} (hnm : nm ≠ []) {b : Bd} (hv : bdB b = true) {rest : List Bs} (hp : ∀ y ∈ rest, Ct.PlainP 32 y) (hr : nm.isPrefixOf (stOf rest).1 = false) : rBd nm (stOf (one (bdW nm b) ++ rest)) = (b, stOf rest) := by
  obtain ⟨h0, h1, h2, h3, h4⟩ := bd_valid hv
  by_cases e : b.kind = 0
  · have e1 : bdW nm b = [] := by unfold bdW; rw [if_pos e]
    rw [e1, one, if_pos rfl, List.nil_append]
    unfold rBd
    rw [if_pos (by
      by_cases h : bdK nm (stOf rest).1 = 0
      · exact h
      · have := bdK_pre h; rw [hr] at this; cases this)]
    have : b = zeroB := by cases b; simp_all [zeroB]
    rw [this]
  · have e2 := bdK_text (nm := nm) (k := b.kind.toNat) (by omega) (by omega) (Lib.itoa b.n)
    rw [one, if_neg (bdW_ne e hnm)]
    unfold rBd
    have e3 : (stOf ([bdW nm b] ++ rest)).1 = nm ++ signW b.kind.toNat ++ Lib.itoa b.n := by show bdW nm b = _; unfold bdW; rw [if_neg e]
    rw [e3, e2, if_neg (by omega), bdN_text]
    unfold num
    rw [Num.numberL_itoa_in (by omega) h3, Option.getD_some]
    refine Prod.ext ?_ (adv_stOf hp)
    show (⟨_, _⟩ : Bd) = b
    rw [show ((b.kind.toNat : Nat) : Int) = b.kind by omega]
/-! the program's reader -/
def q0 (s : Bs) : St := adv ([], s)
def q1 (s : Bs) : St := (rOne zonesL (q0 s)).2
def q2 (s : Bs) : St := (rOne whoL (q1 s)).2
def q3 (s : Bs) : St := (rOne selfL (q2 s)).2
def q4 (s : Bs) : St := (rMask typeW [] (q3 s) 6).2
def q5 (s : Bs) : St := (rMask typeW sNon (q4 s) 6).2
def q6 (s : Bs) : St := (rMask Col.name [] (q5 s) 5).2
def q7 (s : Bs) : St := (rMask Col.name sNon (q6 s) 5).2
def q8 (s : Bs) : St := (rSub (q7 s)).2
def q9 (s : Bs) : St := (rMask Kw.name sWith (q8 s) 17).2
def q10 (s : Bs) : St := (rOne tapL (q9 s)).2
def q11 (s : Bs) : St := (rBd sPow (q10 s)).2
def q12 (s : Bs) : St := (rBd sTough (q11 s)).2
def readP (s : Bs) : Flt := ⟨((rOne zonesL (q0 s)).1 : Nat), ((rOne whoL (q1 s)).1 : Nat), ((rOne selfL (q2 s)).1 : Nat), ((rMask typeW [] (q3 s) 6).1 : Nat), ((rMask typeW sNon (q4 s) 6).1 : Nat),
  ((rMask Col.name [] (q5 s) 5).1 : Nat), ((rMask Col.name sNon (q6 s) 5).1 : Nat), (rSub (q7 s)).1, ((rMask Kw.name sWith (q8 s) 17).1 : Nat), ((rOne tapL (q9 s)).1 : Nat),
  (rBd sPow (q10 s)).1, (rBd sTough (q11 s)).1, (rBd sVal (q12 s)).1⟩
/-! words hold no blank -/
theorem plain_append {c : UInt8} {a b : Bs} (ha : Ct.PlainP c a) (hb : Ct.PlainP c b) : Ct.PlainP c (a ++ b) := by
  intro x hx
  rcases List.mem_append.1 hx with h | h
  · exact ha x h
  · exact hb x h
theorem plain_nil (c : UInt8) : Ct.PlainP c [] := fun _ h => by cases h
theorem plain_digits {n : Int} (h : 0 ≤ n) : Ct.PlainP 32 (Lib.itoa n) := by
  rw [Num.itoa_nonneg h]
  intro b hb
  have := Num.decDigits_digit _ b hb
  refine ⟨fun e => by rw [e] at this; simp at this, ?_⟩
  unfold Wd.brk
  have k : ∀ k : UInt8, k.toNat < 48 ∨ 57 < k.toNat → (b == k) = false := by
    intro k hk
    cases hbk : b == k with
    | false => rfl
    | true => rw [beq_iff_eq] at hbk; subst hbk; omega
  rw [k 40 (by decide), k 41 (by decide), k 91 (by decide), k 93 (by decide)]
  rfl
theorem plain_signs : ∀ k, k ≤ 3 → Ct.plainB 32 (signW k) = true := by decide
theorem plain_tbl {l : List Bs} (h : (l.all fun p => Ct.plainB 32 p) = true) (x : Int) : Ct.PlainP 32 (tbl l x) := by
  unfold tbl
  rw [List.getD]
  cases hx : l[x.toNat]? with
  | none => exact plain_nil 32
  | some p => exact Ct.plain_of (List.all_eq_true.1 h p (List.mem_of_getElem? hx))
theorem plain_bd {nm : Bs} (hnm : Ct.plainB 32 nm = true) {b : Bd} (hv : bdB b = true) : Ct.PlainP 32 (bdW nm b) := by
  obtain ⟨h0, h1, h2, h3, h4⟩ := bd_valid hv
  unfold bdW
  split
  · exact plain_nil 32
  · exact plain_append (plain_append (Ct.plain_of hnm) (Ct.plain_of (plain_signs _ (by omega)))) (plain_digits h2)
theorem sub_name {s : Bs} (h : subB s = true) (h0 : s ≠ []) : Wd.isName s = true := by
  simp only [subB, Bool.or_eq_true, decide_eq_true_eq] at h
  rcases h with h | h
  · exact absurd h h0
  · exact (Ln.isSub_name h).1
theorem plain_sub {s : Bs} (h : subB s = true) : Ct.PlainP 32 (subW s) := by
  unfold subW
  split
  · exact plain_nil 32
  · rename_i h0
    exact plain_append (Ct.plain_of (by decide)) (Ln.name_plain (c := 32) (by decide) (sub_name h h0))
theorem seg_plain {f : Flt} (h : Valid f) (i : Nat) {w : Bs} (hw : w ∈ seg f i) : Ct.PlainP 32 w ∧ w ≠ [] := by
  have o : ∀ {x : Bs}, Ct.PlainP 32 x → w ∈ one x → Ct.PlainP 32 w ∧ w ≠ [] := by
    intro x hx hw
    obtain ⟨rfl, h0⟩ := mem_one hw
    exact ⟨hx, h0⟩
  have mk : ∀ {nm : Nat → Bs} {pre : Bs} {m n : Nat}, (∀ k, k < n → Ct.plainB 32 (pre ++ nm k) = true) → (∀ k, k < n → pre ++ nm k ≠ []) → w ∈ maskW nm pre m n → Ct.PlainP 32 w ∧ w ≠ [] := by
    intro nm pre m n h1 h2 hw
    obtain ⟨k, hk, _, rfl⟩ := mem_maskW hw
    exact ⟨Ct.plain_of (h1 k hk), h2 k hk⟩
  match i, hw with
  | 0, hw => exact o (plain_tbl (by decide) _) hw
  | 1, hw => exact o (plain_tbl (by decide) _) hw
  | 2, hw => exact o (plain_tbl (by decide) _) hw
  | 3, hw => exact mk pl_type (by decide +kernel) hw
  | 4, hw => exact mk pl_ntype (by decide +kernel) hw
  | 5, hw => exact mk pl_color (by decide +kernel) hw
  | 6, hw => exact mk pl_ncolor (by decide +kernel) hw
  | 7, hw => exact o (plain_sub h.sub) hw
  | 8, hw => exact mk pl_key (by decide +kernel) hw
  | 9, hw => exact o (plain_tbl (by decide) _) hw
  | 10, hw => exact o (plain_bd (by decide) h.pow) hw
  | 11, hw => exact o (plain_bd (by decide) h.tough) hw
  | 12, hw => exact o (plain_bd (by decide) h.val) hw
  | n + 13, hw => cases hw
theorem from_plain {f : Flt} (h : Valid f) : ∀ (n i : Nat) {w : Bs}, w ∈ from_ f i n → Ct.PlainP 32 w ∧ w ≠ []
  | 0, _, _, hw => by cases hw
  | n + 1, i, w, hw => by
    rcases List.mem_append.1 hw with h1 | h1
    · exact seg_plain h i h1
    · exact from_plain h n (i + 1) h1
theorem rest_plain {f : Flt} (h : Valid f) (n i : Nat) : ∀ y ∈ from_ f i n, Ct.PlainP 32 y := fun _ hy => (from_plain h n i hy).1
theorem rest_cls {f : Flt} (h : Valid f) {n i : Nat} (hi : i < 13) : i < cls (stOf (from_ f (i + 1) n)).1 := head_cls hi fun _ hw => from_cls h n (i + 1) hw
theorem rest_pre {f : Flt} (h : Valid f) {n i : Nat} {nm : Bs} (hi : i < 13) (hc : ∀ w, nm.isPrefixOf w = true → cls w = i) : nm.isPrefixOf (stOf (from_ f (i + 1) n)).1 = false := by
  cases hb : nm.isPrefixOf (stOf (from_ f (i + 1) n)).1 with
  | false => rfl
  | true => have h1 := hc _ hb; have h2 := rest_cls h (n := n) hi; omega
/-- the program's reader finds the filter again -/
theorem read_join {f : Flt} (h : Valid f) : readP (Lib.join (parts f) [32]) = f := by
  obtain ⟨s, hs⟩ : ∃ s, s = Lib.join (parts f) [32] := ⟨_, rfl⟩
  rw [← hs]
  have e0 : q0 s = stOf (seg f 0 ++ from_ f 1 12) := by rw [hs]; exact adv_stOf (p := []) (rest_plain h 13 0)
  have r0 : rOne zonesL (q0 s) = (f.zone.toNat, stOf (seg f 1 ++ from_ f 2 11)) := by
    rw [e0]; exact rOne_seg (n := 6) rfl rfl cls_zone h.zone.1 (by have := h.zone.2; omega) (rest_plain h 12 1) (rest_cls h (by omega)) ne_zone
  have r1 : rOne whoL (q1 s) = (f.who.toNat, stOf (seg f 2 ++ from_ f 3 10)) := by
    unfold q1; rw [r0]; exact rOne_seg (n := 3) rfl rfl cls_who h.who.1 (by have := h.who.2; omega) (rest_plain h 11 2) (rest_cls h (by omega)) ne_who
  have r2 : rOne selfL (q2 s) = (f.self.toNat, stOf (seg f 3 ++ from_ f 4 9)) := by
    unfold q2; rw [r1]; exact rOne_seg (n := 3) rfl rfl cls_self h.self.1 (by have := h.self.2; omega) (rest_plain h 10 3) (rest_cls h (by omega)) ne_self
  have r3 : rMask typeW [] (q3 s) 6 = (f.types.toNat, stOf (seg f 4 ++ from_ f 5 8)) := by
    unfold q3; rw [r2]; exact rMask_all cls_type inj_type pl_type (by have := h.types; omega) (rest_plain h 9 4) (rest_cls h (by omega))
  have r4 : rMask typeW sNon (q4 s) 6 = (f.ntypes.toNat, stOf (seg f 5 ++ from_ f 6 7)) := by
    unfold q4; rw [r3]; exact rMask_all cls_ntype inj_ntype pl_ntype (by have := h.ntypes; omega) (rest_plain h 8 5) (rest_cls h (by omega))
  have r5 : rMask Col.name [] (q5 s) 5 = (f.colors.toNat, stOf (seg f 6 ++ from_ f 7 6)) := by
    unfold q5; rw [r4]; exact rMask_all cls_color inj_color pl_color (by have := h.colors; omega) (rest_plain h 7 6) (rest_cls h (by omega))
  have r6 : rMask Col.name sNon (q6 s) 5 = (f.ncolors.toNat, stOf (seg f 7 ++ from_ f 8 5)) := by
    unfold q6; rw [r5]; exact rMask_all cls_ncolor inj_ncolor pl_ncolor (by have := h.ncolors; omega) (rest_plain h 6 7) (rest_cls h (by omega))
  have r7 : rSub (q7 s) = (f.sub, stOf (seg f 8 ++ from_ f 9 4)) := by
    unfold q7; rw [r6]; exact rSub_seg (rest_plain h 5 8) (rest_cls h (by omega))
  have r8 : rMask Kw.name sWith (q8 s) 17 = (f.keys.toNat, stOf (seg f 9 ++ from_ f 10 3)) := by
    unfold q8; rw [r7]; exact rMask_all cls_key inj_key pl_key (by have := h.keys; omega) (rest_plain h 4 9) (rest_cls h (by omega))
  have r9 : rOne tapL (q9 s) = (f.tap.toNat, stOf (seg f 10 ++ from_ f 11 2)) := by
    unfold q9; rw [r8]; exact rOne_seg (n := 3) rfl rfl cls_tap h.tap.1 (by have := h.tap.2; omega) (rest_plain h 3 10) (rest_cls h (by omega)) ne_tap
  have r10 : rBd sPow (q10 s) = (f.pow, stOf (seg f 11 ++ from_ f 12 1)) := by
    unfold q10; rw [r9]; exact rBd_seg (by decide) h.pow (rest_plain h 2 11) (rest_pre h (by omega) cls_pow)
  have r11 : rBd sTough (q11 s) = (f.tough, stOf (seg f 12 ++ from_ f 13 0)) := by
    unfold q11; rw [r10]; exact rBd_seg (by decide) h.tough (rest_plain h 1 12) (rest_pre h (by omega) cls_tough)
  have r12 : rBd sVal (q12 s) = (f.val, stOf []) := by
    unfold q12; rw [r11]; exact rBd_seg (by decide) h.val (rest_plain h 0 13) (rest_pre h (n := 0) (by omega) cls_val)
  unfold readP
  rw [r0, r1, r2, r3, r4, r5, r6, r7, r8, r9, r10, r11, r12]
  have a1 := h.zone.1; have a2 := h.who.1; have a3 := h.self.1; have a4 := h.types.1; have a5 := h.ntypes.1; have a6 := h.colors.1; have a7 := h.ncolors.1; have a8 := h.keys.1; have a9 := h.tap.1
  rw [Int.toNat_of_nonneg a1, Int.toNat_of_nonneg a2, Int.toNat_of_nonneg a3, Int.toNat_of_nonneg a4, Int.toNat_of_nonneg a5, Int.toNat_of_nonneg a6, Int.toNat_of_nonneg a7, Int.toNat_of_nonneg a8, Int.toNat_of_nonneg a9]
theorem read_any : readP sAny = zero := by decide +kernel
theorem read_nil : readP [] = zero := by decide +kernel
theorem parts_nil {f : Flt} (h : Valid f) (hp : parts f = []) : f = zero := by
  have := read_join h
  rw [hp] at this
  exact this.symm.trans read_nil
theorem read_text {f : Flt} (h : Valid f) : readP (textP (parts f)) = f := by
  unfold textP
  split
  · rename_i h0
    rw [parts_nil h h0, read_any]
  · exact read_join h
end Go.Proofs.YtkohfomiigcifaaGreatDoor.Fil
