/-
  PLAIN FACTS OF LAYER 13 (filter): what the reference's reader finds; the filter with a text; no program in it. By an AI agent.
-/
import Derived.Test.YtkohfomiigcifaaGreatDoorFilRead
namespace Go.Proofs.YtkohfomiigcifaaGreatDoor.Fil
open Num (bitsL bitB)
open Wd (cut split)

/-! the reference's reader -/
structure Acc where
  zone : Nat
  who : Nat
  self : Nat
  types : Nat
  ntypes : Nat
  colors : Nat
  ncolors : Nat
  sub : Bs
  keys : Nat
  tap : Nat
  pow : Bd
  tough : Bd
  val : Bd
deriving DecidableEq
def zeroA : Acc := ⟨0, 0, 0, 0, 0, 0, 0, [], 0, 0, zeroB, zeroB, zeroB⟩
def Acc.flt (a : Acc) : Flt := ⟨a.zone, a.who, a.self, a.types, a.ntypes, a.colors, a.ncolors, a.sub, a.keys, a.tap, a.pow, a.tough, a.val⟩
def setB (m i : Nat) : Nat := if bitB m i then m else m + 2 ^ i
def oStep (nm : Nat → Bs) (pre w : Bs) (k m : Nat) : Nat := if w = pre ++ nm k then setB m k else m
def orTo (nm : Nat → Bs) (pre w : Bs) (m : Nat) : Nat → Nat
  | 0 => m
  | k + 1 => oStep nm pre w k (orTo nm pre w m k)
def oneOf (t : List Bs) (x : Nat) (w : Bs) : Nat := if 0 < hitAt t w then hitAt t w else x
def subOf (x w : Bs) : Bs := if sSub.isPrefixOf w then w.drop 4 else x
/-- the bound that a word stands for: the first kind whose sign and number fit -/
def bdOne (nm w : Bs) (k : Nat) : Option Bd := if (nm ++ signW k).isPrefixOf w then (Num.numberL (bdN nm w k)).map fun n => ⟨k, n⟩ else none
def rdB (nm w : Bs) : Bd := ((bdOne nm w 1).or ((bdOne nm w 2).or (bdOne nm w 3))).getD zeroB
def bdOf (nm : Bs) (x : Bd) (w : Bs) : Bd := if 0 < (rdB nm w).kind then rdB nm w else x
def wordN (a : Acc) (w : Bs) : Acc := ⟨oneOf zonesL a.zone w, oneOf whoL a.who w, oneOf selfL a.self w, orTo typeW [] w a.types 6, orTo typeW sNon w a.ntypes 6, orTo Col.name [] w a.colors 5, orTo Col.name sNon w a.ncolors 5,
  subOf a.sub w, orTo Kw.name sWith w a.keys 17, oneOf tapL a.tap w, bdOf sPow a.pow w, bdOf sTough a.tough w, bdOf sVal a.val w⟩
def refP (s : Bs) : Flt := ((split s 32).foldl wordN zeroA).flt

theorem oneOf_other {t : List Bs} {n c : Nat} (hn : t.length = n) (hc : ∀ k, k < n → 0 < k → cls (t.getD k []) = c ∧ hitAt t (t.getD k []) = k) (x : Nat) (w : Bs) (h : cls w ≠ c) : oneOf t x w = x := by
  unfold oneOf; rw [if_neg (fun h1 => h (hit_cls hn hc h1))]
theorem orTo_other {nm : Nat → Bs} {pre : Bs} {n c : Nat} (hc : ∀ k, k < n → cls (pre ++ nm k) = c) (x : Nat) (w : Bs) (h : cls w ≠ c) : ∀ k, k ≤ n → orTo nm pre w x k = x
  | 0, _ => rfl
  | k + 1, hk => by
    show oStep nm pre w k (orTo nm pre w x k) = x
    rw [orTo_other hc x w h k (by omega)]
    unfold oStep
    rw [if_neg (fun e => h (by rw [e]; exact hc k (by omega)))]
theorem subOf_other (x w : Bs) (h : cls w ≠ 7) : subOf x w = x := by unfold subOf; rw [if_neg (fun h1 => h (cls_sub w h1))]
theorem rdB_pre {nm w : Bs} (h : nm.isPrefixOf w = false) : rdB nm w = zeroB := by
  have key : ∀ k, bdOne nm w k = none := by
    intro k
    unfold bdOne
    rw [if_neg]
    intro h1
    obtain ⟨t, rfl⟩ := List.isPrefixOf_iff_prefix.1 h1
    rw [List.append_assoc, pre_self] at h
    cases h
  unfold rdB
  rw [key, key, key]
  rfl
theorem bdOf_other {nm : Bs} {c : Nat} (hc : ∀ w, nm.isPrefixOf w = true → cls w = c) (x : Bd) (w : Bs) (h : cls w ≠ c) : bdOf nm x w = x := by
  unfold bdOf
  rw [rdB_pre (by cases hb : nm.isPrefixOf w with | false => rfl | true => exact absurd (hc w hb) h), if_neg (by decide)]
/-- a field's way through words: those of other classes leave it alone -/
theorem fold_other {α : Type} {σ : α → Bs → α} {c : Nat} (hσ : ∀ x w, cls w ≠ c → σ x w = x) : ∀ (ws : List Bs) (x : α), (∀ w ∈ ws, cls w ≠ c) → ws.foldl σ x = x
  | [], _, _ => rfl
  | w :: r, x, h => by
    rw [List.foldl_cons, hσ x w (h w (by simp))]
    exact fold_other hσ r x fun v hv => h v (by simp [hv])
theorem fold_from {α : Type} {σ : α → Bs → α} {c : Nat} (hσ : ∀ x w, cls w ≠ c → σ x w = x) {f : Flt} (h : Valid f) : ∀ (n j : Nat) (x : α), j ≤ c → c < j + n → (from_ f j n).foldl σ x = (seg f c).foldl σ x
  | 0, j, x, h1, h2 => absurd h2 (by omega)
  | n + 1, j, x, h1, h2 => by
    show (seg f j ++ from_ f (j + 1) n).foldl σ x = _
    rw [List.foldl_append]
    by_cases e : j = c
    · subst e
      exact fold_other hσ _ _ fun w hw => by have := from_cls h n (j + 1) hw; omega
    · rw [fold_other hσ (seg f j) x fun w hw => by rw [seg_cls h j hw]; exact e]
      exact fold_from hσ h n (j + 1) x (by omega) (by omega)
theorem fold_field {α : Type} {φ : Acc → α} {σ : α → Bs → α} (hs : ∀ a w, φ (wordN a w) = σ (φ a) w) : ∀ (ws : List Bs) (a : Acc), φ (ws.foldl wordN a) = ws.foldl σ (φ a)
  | [], _ => rfl
  | w :: r, a => by rw [List.foldl_cons, List.foldl_cons, fold_field hs r, hs]
theorem field {α : Type} (φ : Acc → α) (σ : α → Bs → α) (c : Nat) (hs : ∀ a w, φ (wordN a w) = σ (φ a) w) (hσ : ∀ x w, cls w ≠ c → σ x w = x) (hc : c < 13) {f : Flt} (h : Valid f) :
    φ ((parts f).foldl wordN zeroA) = (seg f c).foldl σ (φ zeroA) := by
  rw [fold_field hs]
  exact fold_from hσ h 13 0 _ (Nat.zero_le _) (by omega)
theorem fold_one {t : List Bs} {n c : Nat} (h0 : t.getD 0 [] = []) (hc : ∀ k, k < n → 0 < k → cls (t.getD k []) = c ∧ hitAt t (t.getD k []) = k) (hne : ∀ k, k < n → 0 < k → t.getD k [] ≠ []) {x : Int} (hx : 0 ≤ x ∧ x < n) :
    ((((one (tbl t x)).foldl (oneOf t) 0 : Nat) : Nat) : Int) = x := by
  unfold one tbl
  by_cases e : x.toNat = 0
  · rw [e, h0, if_pos rfl]
    show ((0 : Nat) : Int) = x
    omega
  · rw [if_neg (hne _ (by omega) (by omega))]
    show ((oneOf t 0 (t.getD x.toNat []) : Nat) : Int) = x
    unfold oneOf
    rw [(hc x.toNat (by omega) (by omega)).2, if_pos (by omega)]
    omega
theorem orTo_hit {nm : Nat → Bs} {pre : Bs} {n i : Nat} (hinj : ∀ k, k < n → ∀ i, i < k → pre ++ nm i ≠ pre ++ nm k) (hi : i < n) (m : Nat) : ∀ k, k ≤ n → orTo nm pre (pre ++ nm i) m k = if i < k then setB m i else m
  | 0, _ => by rw [if_neg (by omega)]; rfl
  | k + 1, hk => by
    show oStep nm pre _ k (orTo nm pre _ m k) = _
    rw [orTo_hit hinj hi m k (by omega)]
    unfold oStep
    by_cases e : i = k
    · subst e
      rw [if_pos rfl, if_neg (by omega), if_pos (by omega)]
    · rw [if_neg (by
        rcases Nat.lt_or_gt_of_ne e with h1 | h1
        · exact hinj k (by omega) i h1
        · exact (hinj i hi k h1).symm)]
      by_cases h2 : i < k
      · rw [if_pos h2, if_pos (by omega)]
      · rw [if_neg h2, if_neg (by omega)]
theorem setB_new {m k : Nat} (h : m < 2 ^ k) : setB m k = m + 2 ^ k := by
  unfold setB Num.bitB
  rw [Nat.div_eq_of_lt h]
  rfl
theorem maskW_yes {nm : Nat → Bs} {pre : Bs} {m n : Nat} (h : bitB m n = true) : maskW nm pre m (n + 1) = maskW nm pre m n ++ [pre ++ nm n] := by unfold maskW; rw [List.range_succ, List.filter_append, List.map_append]; simp [h]
theorem maskW_no {nm : Nat → Bs} {pre : Bs} {m n : Nat} (h : bitB m n = false) : maskW nm pre m (n + 1) = maskW nm pre m n := by unfold maskW; rw [List.range_succ, List.filter_append, List.map_append]; simp [h]
theorem fold_mask {nm : Nat → Bs} {pre : Bs} {n : Nat} (hinj : ∀ k, k < n → ∀ i, i < k → pre ++ nm i ≠ pre ++ nm k) (m : Nat) : ∀ k, k ≤ n → (maskW nm pre m k).foldl (fun x w => orTo nm pre w x n) 0 = m % 2 ^ k
  | 0, _ => by rw [Nat.pow_zero, Nat.mod_one]; rfl
  | k + 1, hk => by
    have ih := fold_mask hinj m k (by omega)
    cases hb : bitB m k with
    | false => rw [maskW_no hb, ih, Kw.mod_no hb]
    | true =>
      rw [maskW_yes hb, List.foldl_append, ih, Kw.mod_yes hb]
      show orTo nm pre (pre ++ nm k) (m % 2 ^ k) n = _
      rw [orTo_hit hinj (by omega) _ n (Nat.le_refl _), if_pos (by omega), setB_new (Nat.mod_lt _ (Nat.two_pow_pos k))]
theorem fold_bits {nm : Nat → Bs} {pre : Bs} {n : Nat} (hinj : ∀ k, k < n → ∀ i, i < k → pre ++ nm i ≠ pre ++ nm k) {x : Int} (h0 : 0 ≤ x) (h1 : x.toNat < 2 ^ n) : (((maskW nm pre x.toNat n).foldl (fun x w => orTo nm pre w x n) 0 : Nat) : Int) = x := by
  rw [fold_mask hinj _ n (Nat.le_refl _), Nat.mod_eq_of_lt h1]; omega
theorem fold_sub (s : Bs) : (one (subW s)).foldl subOf [] = s := by
  unfold one subW
  by_cases e : s = []
  · rw [if_pos e, if_pos rfl, e]; rfl
  · rw [if_neg e, if_neg (by intro h; have := congrArg List.length h; simp [sSub] at this)]
    show subOf [] (sSub ++ s) = s
    unfold subOf
    rw [if_pos (pre_self _ _)]
    simp [sSub]
theorem rdB_text {nm : Bs} {b : Bd} (hv : bdB b = true) (hk : b.kind ≠ 0) : rdB nm (bdW nm b) = b := by
  obtain ⟨h0, h1, h2, h3, h4⟩ := bd_valid hv
  have e3 : bdW nm b = nm ++ signW b.kind.toNat ++ Lib.itoa b.n := by unfold bdW; rw [if_neg hk]
  have hit : bdOne nm (bdW nm b) b.kind.toNat = some b := by
    unfold bdOne
    rw [e3, if_pos (pre_self _ _), bdN_text, Num.numberL_itoa_in (by omega) h3]
    show some (⟨((b.kind.toNat : Nat) : Int), b.n⟩ : Bd) = some b
    rw [show ((b.kind.toNat : Nat) : Int) = b.kind by omega]
  have miss : ∀ k, 0 < k → k < b.kind.toNat → bdOne nm (bdW nm b) k = none := by
    intro k hk0 hk1
    unfold bdOne
    rw [e3, List.append_assoc, pre_drop, if_neg]
    have hm : b.kind.toNat = 2 ∨ b.kind.toNat = 3 := by omega
    rcases hm with hm | hm
    · obtain rfl : k = 1 := by omega
      rw [hm]; simp [signW, signsL]
    · have hk2 : k = 1 ∨ k = 2 := by omega
      rcases hk2 with rfl | rfl <;> (rw [hm]; simp [signW, signsL])
  unfold rdB
  have hm : b.kind.toNat = 1 ∨ b.kind.toNat = 2 ∨ b.kind.toNat = 3 := by omega
  rcases hm with hm | hm | hm
  · rw [hm] at hit; rw [hit]; rfl
  · rw [hm] at hit; rw [miss 1 (by omega) (by omega), hit]; rfl
  · rw [hm] at hit; rw [miss 1 (by omega) (by omega), miss 2 (by omega) (by omega), hit]; rfl
theorem fold_bd {nm : Bs} (hnm : nm ≠ []) {b : Bd} (hv : bdB b = true) : (one (bdW nm b)).foldl (bdOf nm) zeroB = b := by
  obtain ⟨h0, h1, h2, h3, h4⟩ := bd_valid hv
  by_cases e : b.kind = 0
  · have e1 : bdW nm b = [] := by unfold bdW; rw [if_pos e]
    rw [e1, one, if_pos rfl]
    show zeroB = b
    cases b; simp_all [zeroB]
  · rw [one, if_neg (bdW_ne e hnm)]
    show bdOf nm zeroB (bdW nm b) = b
    unfold bdOf
    rw [rdB_text hv e, if_pos (by omega)]
/-- the reference's reader finds the filter again -/
theorem ref_join {f : Flt} (h : Valid f) : ((parts f).foldl wordN zeroA).flt = f := by
  have r0 := field (·.zone) (oneOf zonesL) 0 (fun _ _ => rfl) (oneOf_other (n := 6) rfl cls_zone) (by omega) h
  have r1 := field (·.who) (oneOf whoL) 1 (fun _ _ => rfl) (oneOf_other (n := 3) rfl cls_who) (by omega) h
  have r2 := field (·.self) (oneOf selfL) 2 (fun _ _ => rfl) (oneOf_other (n := 3) rfl cls_self) (by omega) h
  have r3 := field (·.types) (fun x w => orTo typeW [] w x 6) 3 (fun _ _ => rfl) (fun x w hw => orTo_other cls_type x w hw 6 (Nat.le_refl _)) (by omega) h
  have r4 := field (·.ntypes) (fun x w => orTo typeW sNon w x 6) 4 (fun _ _ => rfl) (fun x w hw => orTo_other cls_ntype x w hw 6 (Nat.le_refl _)) (by omega) h
  have r5 := field (·.colors) (fun x w => orTo Col.name [] w x 5) 5 (fun _ _ => rfl) (fun x w hw => orTo_other cls_color x w hw 5 (Nat.le_refl _)) (by omega) h
  have r6 := field (·.ncolors) (fun x w => orTo Col.name sNon w x 5) 6 (fun _ _ => rfl) (fun x w hw => orTo_other cls_ncolor x w hw 5 (Nat.le_refl _)) (by omega) h
  have r7 := field (·.sub) subOf 7 (fun _ _ => rfl) subOf_other (by omega) h
  have r8 := field (·.keys) (fun x w => orTo Kw.name sWith w x 17) 8 (fun _ _ => rfl) (fun x w hw => orTo_other cls_key x w hw 17 (Nat.le_refl _)) (by omega) h
  have r9 := field (·.tap) (oneOf tapL) 9 (fun _ _ => rfl) (oneOf_other (n := 3) rfl cls_tap) (by omega) h
  have r10 := field (·.pow) (bdOf sPow) 10 (fun _ _ => rfl) (bdOf_other cls_pow) (by omega) h
  have r11 := field (·.tough) (bdOf sTough) 11 (fun _ _ => rfl) (bdOf_other cls_tough) (by omega) h
  have r12 := field (·.val) (bdOf sVal) 12 (fun _ _ => rfl) (bdOf_other cls_val) (by omega) h
  unfold Acc.flt
  have a1 := h.zone; have a2 := h.who; have a3 := h.self; have a4 := h.types; have a5 := h.ntypes; have a6 := h.colors; have a7 := h.ncolors; have a8 := h.keys; have a9 := h.tap
  rw [r0, r1, r2, r3, r4, r5, r6, r7, r8, r9, r10, r11, r12]
  have b0 := fold_one (t := zonesL) (n := 6) rfl cls_zone ne_zone (x := f.zone) (by omega)
  have b1 := fold_one (t := whoL) (n := 3) rfl cls_who ne_who (x := f.who) (by omega)
  have b2 := fold_one (t := selfL) (n := 3) rfl cls_self ne_self (x := f.self) (by omega)
  have b3 := fold_bits inj_type (x := f.types) a4.1 (by omega)
  have b4 := fold_bits inj_ntype (x := f.ntypes) a5.1 (by omega)
  have b5 := fold_bits inj_color (x := f.colors) a6.1 (by omega)
  have b6 := fold_bits inj_ncolor (x := f.ncolors) a7.1 (by omega)
  have b8 := fold_bits inj_key (x := f.keys) a8.1 (by omega)
  have b9 := fold_one (t := tapL) (n := 3) rfl cls_tap ne_tap (x := f.tap) (by omega)
  refine Eq.trans ?_ (show (⟨f.zone, f.who, f.self, f.types, f.ntypes, f.colors, f.ncolors, f.sub, f.keys, f.tap, f.pow, f.tough, f.val⟩ : Flt) = f from rfl)
  rw [Flt.mk.injEq]
  exact ⟨b0, b1, b2, b3, b4, b5, b6, fold_sub f.sub, b8, b9, fold_bd (by decide) h.pow, fold_bd (by decide) h.tough, fold_bd (by decide) h.val⟩
theorem ref_any : refP sAny = zero := by decide +kernel
theorem ref_text {f : Flt} (h : Valid f) : refP (textP (parts f)) = f := by
  unfold textP
  split
  · rename_i h0
    rw [parts_nil h h0, ref_any]
  · rename_i h0
    unfold refP
    rw [Ct.split_join (by decide) h0 (rest_plain h 13 0)]
    exact ref_join h
/-! the filter with a text -/
theorem textF_valid {f : Flt} (h : validB f = true) : textF f = textP (parts f) := by unfold textF; rw [if_pos h]
theorem textF_bad {f : Flt} (h : validB f = false) : textF f = [] := by unfold textF; rw [if_neg (by simp [h])]
theorem read_textF {f : Flt} (h : validB f = true) : readP (textF f) = f := by rw [textF_valid h]; exact read_text (valid_of h)
theorem ref_textF {f : Flt} (h : validB f = true) : refP (textF f) = f := by rw [textF_valid h]; exact ref_text (valid_of h)
theorem textF_ne {f : Flt} (h : validB f = true) : textF f ≠ [] := by
  rw [textF_valid h]
  unfold textP
  split
  · decide
  · rename_i h0
    intro e
    exact h0 ((Kw.join_empty (sep := [32]) fun x hx => (from_plain (valid_of h) 13 0 hx).2).1 e)
def Is_ (g : Flt) (s : Bs) : Prop := validB g = true ∧ textF g = s
open Classical in
noncomputable def parseO (s : Bs) : Option Flt := if Is_ (readP s) s then some (readP s) else none
noncomputable def parseV (s : Bs) : Flt := (parseO s).getD zero
noncomputable def parseE (s : Bs) : Int := if (parseO s).isSome then 0 else 3
theorem parse_yes {s : Bs} (h1 : validB (readP s) = true) (h2 : textF (readP s) = s) : parseV s = readP s ∧ parseE s = 0 := by
  have : parseO s = some (readP s) := by unfold parseO; rw [if_pos ⟨h1, h2⟩]
  unfold parseV parseE; rw [this]; exact ⟨rfl, rfl⟩
theorem parse_none {s : Bs} (h : parseO s = none) : parseV s = zero ∧ parseE s = 3 := by unfold parseV parseE; rw [h]; exact ⟨rfl, rfl⟩
theorem parse_no {s : Bs} (h : ¬ Is_ (readP s) s) : parseV s = zero ∧ parseE s = 3 := parse_none (by unfold parseO; rw [if_neg h])
theorem parse_some {s : Bs} {g : Flt} (h : parseO s = some g) : validB g = true ∧ textF g = s ∧ parseV s = g ∧ parseE s = 0 := by
  unfold parseO at h
  split at h
  · rename_i h1
    injection h with h
    obtain ⟨h2, h3⟩ := h1
    have h4 := parse_yes h2 h3
    rw [h] at h2 h3 h4
    exact ⟨h2, h3, h4⟩
  · cases h
theorem parse_text {f : Flt} (h : validB f = true) : parseV (textF f) = f ∧ parseE (textF f) = 0 := by
  have h1 := read_textF h
  have := parse_yes (s := textF f) (by rw [h1]; exact h) (by rw [h1])
  rw [h1] at this
  exact this
theorem ref_yes {s : Bs} (h1 : validB (refP s) = true) (h2 : textF (refP s) = s) : parseV s = refP s ∧ parseE s = 0 := by
  have := parse_text h1
  rw [h2] at this
  exact this
theorem ref_no {s : Bs} (h : ¬ Is_ (refP s) s) : parseV s = zero ∧ parseE s = 3 := parse_no fun ⟨h1, h2⟩ => h (by
  have h3 := ref_textF h1
  rw [h2] at h3
  rw [h3]
  exact ⟨h1, h2⟩)
theorem parse_cases (s : Bs) : (parseV s = zero ∧ parseE s = 3) ∨ ∃ g, validB g = true ∧ textF g = s ∧ parseV s = g ∧ parseE s = 0 := by
  cases h : parseO s with
  | none => exact .inl (parse_none h)
  | some g => exact .inr ⟨g, parse_some h⟩
theorem textF_inj {f g : Flt} (hf : validB f = true) (hg : validB g = true) (h : textF f = textF g) : f = g := by
  rw [← read_textF hf, ← read_textF hg, h]
end Go.Proofs.YtkohfomiigcifaaGreatDoor.Fil
