/-
  MERGED: ModList, ModCuts, ModLsP, ModAlvW, AlvSW, AlvS. By an AI agent.
-/
import Derived.Test.YtbcgkeclmioeiaaGreatDoorSwGA
import Derived.Test.YtbcgkeclmioeiaaGreatDoorSwGE
import Derived.Test.YtbcgkeclmioeiaaGreatDoorSwGB
import Derived.Deep.Cut
import Derived.Test.YtbcgkeclmioeiaaGreatDoorSwGC
import Derived.Lib.SliceRun
import Derived.StillTailTactics
import Derived.Test.YtbcgkeclmioeiaaGreatDoorSwGD
namespace Go.Proofs.YtbcgkeclmioeiaaGreatDoor.Fil

theorem plain_digitsC {n : Int} (h : 0 ≤ n) : Ct.PlainP 44 (Lib.itoa n) := by
  rw [Num.itoa_nonneg h]
  intro b hb
  have := Num.decDigits_digit _ b hb
  refine ⟨fun e => by rw [e] at this; simp at this, ?_⟩
  unfold Wd.brk
  have k : ∀ k : UInt8, k.toNat < 48 ∨ 57 < k.toNat → (b == k) = false := by
    intro k hk
    cases hbk : b == k with
    | false => rfl
    | true => rw [beq_iff_eq] at hbk; subst hbk; omega
  rw [k 40 (by decide), k 41 (by decide), k 91 (by decide), k 93 (by decide)]
  rfl
theorem plain_signsC : ∀ k, k ≤ 3 → Ct.plainB 44 (signW k) = true := by decide
theorem plain_tblC {l : List Bs} (h : (l.all fun p => Ct.plainB 44 p) = true) (x : Int) : Ct.PlainP 44 (tbl l x) := by
  unfold tbl
  rw [List.getD]
  cases hx : l[x.toNat]? with
  | none => exact plain_nil 44
  | some p => exact Ct.plain_of (List.all_eq_true.1 h p (List.mem_of_getElem? hx))
theorem plain_bdC {nm : Bs} (hnm : Ct.plainB 44 nm = true) {b : Bd} (hv : bdB b = true) : Ct.PlainP 44 (bdW nm b) := by
  obtain ⟨h0, h1, h2, h3, h4⟩ := bd_valid hv
  unfold bdW
  split
  · exact plain_nil 44
  · exact plain_append (plain_append (Ct.plain_of hnm) (Ct.plain_of (plain_signsC _ (by omega)))) (plain_digitsC h2)
theorem plain_subC {s : Bs} (h : subB s = true) : Ct.PlainP 44 (subW s) := by
  unfold subW
  split
  · exact plain_nil 44
  · rename_i h0
    exact plain_append (Ct.plain_of (by decide)) (Ln.name_plain (c := 44) (by decide) (sub_name h h0))
theorem seg_plainC {f : Flt} (h : Valid f) (i : Nat) {w : Bs} (hw : w ∈ seg f i) : Ct.PlainP 44 w ∧ w ≠ [] := by
  have o : ∀ {x : Bs}, Ct.PlainP 44 x → w ∈ one x → Ct.PlainP 44 w ∧ w ≠ [] := by
    intro x hx hw
    obtain ⟨rfl, h0⟩ := mem_one hw
    exact ⟨hx, h0⟩
  have mk : ∀ {nm : Nat → Bs} {pre : Bs} {m n : Nat}, (∀ k, k < n → Ct.plainB 44 (pre ++ nm k) = true) → (∀ k, k < n → pre ++ nm k ≠ []) → w ∈ maskW nm pre m n → Ct.PlainP 44 w ∧ w ≠ [] := by
    intro nm pre m n h1 h2 hw
    obtain ⟨k, hk, _, rfl⟩ := mem_maskW hw
    exact ⟨Ct.plain_of (h1 k hk), h2 k hk⟩
  match i, hw with
  | 0, hw => exact o (plain_tblC (by decide) _) hw
  | 1, hw => exact o (plain_tblC (by decide) _) hw
  | 2, hw => exact o (plain_tblC (by decide) _) hw
  | 3, hw => exact mk (show ∀ k, k < 6 → Ct.plainB 44 ([] ++ typeW k) = true by decide +kernel) (by decide +kernel) hw
  | 4, hw => exact mk (show ∀ k, k < 6 → Ct.plainB 44 (sNon ++ typeW k) = true by decide +kernel) (by decide +kernel) hw
  | 5, hw => exact mk (show ∀ k, k < 5 → Ct.plainB 44 ([] ++ Col.name k) = true by decide +kernel) (by decide +kernel) hw
  | 6, hw => exact mk (show ∀ k, k < 5 → Ct.plainB 44 (sNon ++ Col.name k) = true by decide +kernel) (by decide +kernel) hw
  | 7, hw => exact o (plain_subC h.sub) hw
  | 8, hw => exact mk (show ∀ k, k < 17 → Ct.plainB 44 (sWith ++ Kw.name k) = true by decide +kernel) (by decide +kernel) hw
  | 9, hw => exact o (plain_tblC (by decide) _) hw
  | 10, hw => exact o (plain_bdC (by decide) h.pow) hw
  | 11, hw => exact o (plain_bdC (by decide) h.tough) hw
  | 12, hw => exact o (plain_bdC (by decide) h.val) hw
  | n + 13, hw => cases hw
theorem from_plainC {f : Flt} (h : Valid f) : ∀ (n i : Nat) {w : Bs}, w ∈ from_ f i n → Ct.PlainP 44 w ∧ w ≠ []
  | 0, _, _, hw => by cases hw
  | n + 1, i, w, hw => by
    rcases List.mem_append.1 hw with h1 | h1
    · exact seg_plainC h i h1
    · exact from_plainC h n (i + 1) h1
theorem rest_plainC {f : Flt} (h : Valid f) (n i : Nat) : ∀ y ∈ from_ f i n, Ct.PlainP 44 y := fun _ hy => (from_plainC h n i hy).1
end Go.Proofs.YtbcgkeclmioeiaaGreatDoor.Fil
namespace Go.Proofs.YtbcgkeclmioeiaaGreatDoor.Mo
/-! no comma in a text -/
def NoC (l : Bs) : Prop := ∀ b ∈ l, b ≠ 44
theorem NoC.of {l : Bs} (h : Ct.PlainP 44 l) : NoC l := fun b hb => (h b hb).1
theorem NoC.app {a b : Bs} (ha : NoC a) (hb : NoC b) : NoC (a ++ b) := fun x hx => by
  rcases List.mem_append.1 hx with h | h
  · exact ha x h
  · exact hb x h
theorem NoC.join {ps : List Bs} {c : UInt8} (hc : c ≠ 44) (h : ∀ p ∈ ps, NoC p) : NoC (Lib.join ps [c]) := fun b hb => by
  rcases Ct.mem_join hb with rfl | ⟨p, hp, hbp⟩
  · exact hc
  · exact h p hp b hbp
theorem comma_ty : ∀ t, t < 64 → NoC (tyN t) := by unfold NoC; decide +kernel
theorem comma_col : ∀ c, c < 32 → NoC (Col.textN c) := by unfold NoC; decide +kernel
theorem comma_key : ∀ k, k < 17 → NoC (Kw.name k) := by unfold NoC; decide +kernel
theorem comma_keys {c : Nat} (h1 : 1 ≤ c) (h : c ≤ 131071) : NoC (Kw.textN c) := by
  rw [Kw.textN_pos h1 h]
  unfold Kw.outTo
  refine NoC.join (by decide) fun p hp => ?_
  obtain ⟨i, hi, _, rfl⟩ := Kw.mem_parts hp
  exact comma_key i hi
theorem comma_itoa (n : Int) : NoC (Lib.itoa n) := by
  intro b hb
  have key : ∀ u : Nat, ∀ x ∈ Lib.decDigits u, x ≠ 44 := fun u x hx => by
    have := Num.decDigits_digit u x hx
    rintro rfl
    simp at this
  rcases Int.lt_or_le n 0 with h | h
  · rw [Num.itoa_neg h] at hb
    rcases List.mem_append.1 hb with h1 | h1
    · rw [List.mem_singleton] at h1; subst h1; decide
    · exact key _ b h1
  · rw [Num.itoa_nonneg h] at hb
    exact key _ b hb
theorem comma_pair (n m : Int) : NoC (pairS n m) := by
  unfold pairS
  refine NoC.app (comma_itoa n) fun b hb => ?_
  rcases List.mem_cons.1 hb with rfl | hb
  · decide
  · exact comma_itoa m b hb
theorem comma_flt {f : Fil.Flt} (h : Fil.validB f = true) : NoC (Fil.textF f) := by
  rw [Fil.textF_valid h]
  unfold Fil.textP
  split
  · unfold NoC; decide
  · exact NoC.join (by decide) fun p hp => NoC.of (Fil.rest_plainC (Fil.valid_of h) 13 0 p hp)
theorem raw_comma {x : Md} (h : okB x = true) : NoC (raw x) := by
  rcases ok_cases h with ⟨hk, e⟩ | ⟨t, hk, h1, h2, _, e⟩ | ⟨hk, hs, e⟩ | ⟨c, hk, h2, e⟩ | ⟨c, hk, h1, h2, e⟩ | ⟨hk, hv, e⟩ | ⟨hk, h1, h2, h3, h4, e⟩ | ⟨hk, h1, h2, h3, h4, e⟩
  · rcases hk with hk | hk | hk
    · rw [show raw x = sControl by simp [raw, hk]]; unfold NoC; decide
    · rw [show raw x = sBlank by simp [raw, hk]]; unfold NoC; decide
    · rw [show raw x = sSwitch by simp [raw, hk]]; unfold NoC; decide
  · have h3 := comma_ty t (by omega)
    have hn : x.n = t := by rw [e]
    rcases hk with hk | hk
    · simp only [raw, hk, hn]; exact NoC.app (by unfold NoC; decide) h3
    · simp only [raw, hk, hn]; exact NoC.app (by unfold NoC; decide) h3
  · have h3 : NoC x.sub := NoC.of (Ln.name_plain (c := 44) (by decide) (Ln.isSub_name hs).1)
    rcases hk with hk | hk
    · simp only [raw, hk]; exact NoC.app (by unfold NoC; decide) h3
    · simp only [raw, hk]; exact NoC.app (by unfold NoC; decide) h3
  · have h3 := comma_col c (by omega)
    have hn : x.n = c := by rw [e]
    rcases hk with hk | ⟨hk, _⟩
    · simp only [raw, hk, hn]; exact NoC.app (by unfold NoC; decide) h3
    · simp only [raw, hk, hn]; exact NoC.app (by unfold NoC; decide) h3
  · have h3 := comma_keys h1 h2
    have hn : x.n = c := by rw [e]
    rcases hk with hk | hk
    · simp only [raw, hk, hn]; exact NoC.app (by unfold NoC; decide) h3
    · simp only [raw, hk, hn]; exact NoC.app (by unfold NoC; decide) h3
  · simp only [raw, hk]; exact NoC.app (NoC.app (by unfold NoC; decide) (comma_flt hv)) (by unfold NoC; decide)
  · simp only [raw, hk]; exact NoC.app (by unfold NoC; decide) (comma_pair _ _)
  · simp only [raw, hk]; exact NoC.app (by unfold NoC; decide) (comma_pair _ _)
/-! cutting at a comma and a blank -/
def sep : Bs := [44, 32]
def addH (a : UInt8) : List Bs → List Bs
  | [] => [[a]]
  | p :: ps => (a :: p) :: ps
def pieces : Bs → List Bs
  | [] => [[]]
  | [a] => [[a]]
  | a :: b :: r => if a = 44 ∧ b = 32 then [] :: pieces r else addH a (pieces (b :: r))
theorem addH_ne (a : UInt8) (l : List Bs) : addH a l ≠ [] := by cases l <;> simp [addH]
theorem pieces_ne : ∀ s, pieces s ≠ []
  | [] => by simp [pieces]
  | [a] => by simp [pieces]
  | a :: b :: r => by
    unfold pieces
    split
    · simp
    · exact addH_ne _ _
theorem join_cons2 (p q : Bs) (r : List Bs) : Lib.join (p :: q :: r) sep = p ++ (sep ++ Lib.join (q :: r) sep) := by
  rw [Lib.join_cons, Lib.join_cons]
  simp [Lib.joinTail]
theorem join_addH (a : UInt8) : ∀ {l : List Bs}, l ≠ [] → Lib.join (addH a l) sep = a :: Lib.join l sep
  | [], h => absurd rfl h
  | [p], _ => by simp only [addH]; rw [Lib.join_one, Lib.join_one]
  | p :: q :: r, _ => by simp only [addH]; rw [join_cons2, join_cons2]; rfl
theorem join_pieces : ∀ s, Lib.join (pieces s) sep = s
  | [] => by simp only [pieces]; rw [Lib.join_one]
  | [a] => by simp only [pieces]; rw [Lib.join_one]
  | a :: b :: r => by
    unfold pieces
    split
    · rename_i h
      obtain ⟨rfl, rfl⟩ := h
      have h1 := join_pieces r
      cases hp : pieces r with
      | nil => exact absurd hp (pieces_ne r)
      | cons q qs =>
        rw [hp] at h1
        rw [join_cons2, h1]
        rfl
    · rw [join_addH a (pieces_ne _), join_pieces (b :: r)]
theorem pieces_app : ∀ {p : Bs}, NoC p → ∀ r, pieces (p ++ sep ++ r) = p :: pieces r
  | [], _, r => by show pieces (44 :: 32 :: r) = _; rw [pieces, if_pos ⟨rfl, rfl⟩]
  | [a], h, r => by
    show pieces (a :: 44 :: 32 :: r) = _
    have ha : a ≠ 44 := h a (by simp)
    rw [show pieces (a :: 44 :: 32 :: r) = if a = 44 ∧ (44 : UInt8) = 32 then [] :: pieces (32 :: r) else addH a (pieces (44 :: 32 :: r)) from by rw [pieces]]
    rw [if_neg (by simp)]
    have := pieces_app (p := []) (fun _ hb => by cases hb) r
    rw [show pieces (44 :: 32 :: r) = [] :: pieces r from this]
    rfl
  | a :: b :: p, h, r => by
    have ha : a ≠ 44 := h a (by simp)
    rw [show a :: b :: p ++ sep ++ r = a :: b :: (p ++ sep ++ r) from rfl]
    rw [show pieces (a :: b :: (p ++ sep ++ r)) = if a = 44 ∧ b = 32 then [] :: pieces (p ++ sep ++ r) else addH a (pieces (b :: (p ++ sep ++ r))) from by rw [pieces]]
    rw [if_neg (fun e => ha e.1)]
    have := pieces_app (p := b :: p) (fun x hx => h x (List.mem_cons_of_mem _ hx)) r
    rw [show pieces (b :: (p ++ sep ++ r)) = (b :: p) :: pieces r from this]
    rfl
theorem pieces_one : ∀ {p : Bs}, NoC p → pieces p = [p]
  | [], _ => rfl
  | [a], _ => rfl
  | a :: b :: p, h => by
    have ha : a ≠ 44 := h a (by simp)
    rw [pieces, if_neg (fun e => ha e.1), pieces_one (p := b :: p) (fun x hx => h x (List.mem_cons_of_mem _ hx))]
    rfl
theorem pieces_join : ∀ {ps : List Bs}, ps ≠ [] → (∀ p ∈ ps, NoC p) → pieces (Lib.join ps sep) = ps
  | [], h, _ => absurd rfl h
  | [p], _, h => by rw [Lib.join_one, pieces_one (h p (by simp))]
  | p :: q :: r, _, h => by
    rw [join_cons2, ← List.append_assoc, pieces_app (h p (by simp)), pieces_join (by simp) fun x hx => h x (List.mem_cons_of_mem _ hx)]
/-! lists -/
noncomputable def listB (l : List Md) : Bool := (decide (1 ≤ l.length) && decide (l.length ≤ 6)) && l.all okB
noncomputable def listT (l : List Md) : Bs := if listB l then Lib.join (l.map raw) sep else []
/-- what ParseList answers -/
noncomputable def lB (s : Bs) : Bool := decide ((pieces s).length ≤ 6) && (pieces s).all pB
noncomputable def lV (s : Bs) : List Md := if lB s then (pieces s).map pV else []
noncomputable def lE (s : Bs) : Int := if lB s then 0 else 3
theorem lB_text {l : List Md} (h : listB l = true) : lB (listT l) = true ∧ lV (listT l) = l := by
  have hT : listT l = Lib.join (l.map raw) sep := by unfold listT; rw [if_pos h]
  simp only [listB, Bool.and_eq_true, decide_eq_true_eq, List.all_eq_true] at h
  obtain ⟨⟨h1, h2⟩, h3⟩ := h
  have hp : pieces (listT l) = l.map raw := by
    rw [hT]
    refine pieces_join (by intro e; rw [List.map_eq_nil_iff] at e; rw [e] at h1; simp at h1) fun p hp => ?_
    obtain ⟨x, hx, rfl⟩ := List.mem_map.1 hp
    exact raw_comma (h3 x hx)
  have hb : lB (listT l) = true := by
    unfold lB
    rw [hp]
    simp only [Bool.and_eq_true, decide_eq_true_eq, List.all_eq_true, List.length_map]
    refine ⟨h2, fun p hp => ?_⟩
    obtain ⟨x, hx, rfl⟩ := List.mem_map.1 hp
    have := p_text (h3 x hx)
    cases hq : pB (raw x) with
    | true => rfl
    | false =>
      have h5 := (p_no hq).2
      rw [textM_ok (h3 x hx), h5] at this
      exact absurd this.2 (by decide)
  refine ⟨hb, ?_⟩
  unfold lV
  rw [if_pos hb, hp, List.map_map]
  conv => rhs; rw [← List.map_id l]
  refine List.map_congr_left fun x hx => ?_
  have := (p_text (h3 x hx)).1
  rw [textM_ok (h3 x hx)] at this
  exact this
theorem lB_back {s : Bs} (h : lB s = true) : listB (lV s) = true ∧ listT (lV s) = s := by
  have hb := h
  simp only [lB, Bool.and_eq_true, decide_eq_true_eq, List.all_eq_true] at h
  obtain ⟨h1, h2⟩ := h
  have hv : lV s = (pieces s).map pV := by unfold lV; rw [if_pos hb]
  have h3 : listB (lV s) = true := by
    rw [hv]
    simp only [listB, Bool.and_eq_true, decide_eq_true_eq, List.all_eq_true, List.length_map]
    refine ⟨⟨List.length_pos_iff.2 (pieces_ne s), h1⟩, fun x hx => ?_⟩
    obtain ⟨p, hp, rfl⟩ := List.mem_map.1 hx
    exact (p_yes (h2 p hp)).1
  refine ⟨h3, ?_⟩
  unfold listT
  rw [if_pos h3, hv, List.map_map]
  conv => rhs; rw [← join_pieces s]
  congr 1
  conv => rhs; rw [← List.map_id (pieces s)]
  refine List.map_congr_left fun p hp => ?_
  obtain ⟨h4, h5, _⟩ := p_yes (h2 p hp)
  show raw (pV p) = p
  rw [← textM_ok h4, h5]
end Go.Proofs.YtbcgkeclmioeiaaGreatDoor.Mo
namespace Go.Proofs.YtbcgkeclmioeiaaGreatDoor.Mo

def NoB (l : Bs) : Prop := ∀ b ∈ l, Wd.brk b = false
theorem NoB.app {a b : Bs} (ha : NoB a) (hb : NoB b) : NoB (a ++ b) := fun x hx => by
  rcases List.mem_append.1 hx with h | h
  · exact ha x h
  · exact hb x h
theorem NoB.join {ps : List Bs} {c : UInt8} (hc : Wd.brk c = false) (h : ∀ p ∈ ps, NoB p) : NoB (Lib.join ps [c]) := fun b hb => by
  rcases Ct.mem_join hb with rfl | ⟨p, hp, hbp⟩
  · exact hc
  · exact h p hp b hbp
theorem brk_ty : ∀ t, t < 64 → NoB (tyN t) := by unfold NoB; decide +kernel
theorem brk_col : ∀ c, c < 32 → NoB (Col.textN c) := by unfold NoB; decide +kernel
theorem brk_key : ∀ k, k < 17 → NoB (Kw.name k) := by unfold NoB; decide +kernel
theorem brk_keys {c : Nat} (h1 : 1 ≤ c) (h : c ≤ 131071) : NoB (Kw.textN c) := by
  rw [Kw.textN_pos h1 h]
  unfold Kw.outTo
  refine NoB.join (by decide) fun p hp => ?_
  obtain ⟨i, hi, _, rfl⟩ := Kw.mem_parts hp
  exact brk_key i hi
theorem brk_itoa (n : Int) : NoB (Lib.itoa n) := by
  intro b hb
  have key : ∀ u : Nat, ∀ x ∈ Lib.decDigits u, Wd.brk x = false := fun u x hx => by
    have := Num.decDigits_digit u x hx
    unfold Wd.brk
    have k : ∀ k : UInt8, k.toNat < 48 ∨ 57 < k.toNat → (x == k) = false := by
      intro k hk
      cases hbk : x == k with
      | false => rfl
      | true => rw [beq_iff_eq] at hbk; subst hbk; omega
    rw [k 40 (by decide), k 41 (by decide), k 91 (by decide), k 93 (by decide)]
    rfl
  rcases Int.lt_or_le n 0 with h | h
  · rw [Num.itoa_neg h] at hb
    rcases List.mem_append.1 hb with h1 | h1
    · rw [List.mem_singleton] at h1; subst h1; decide
    · exact key _ b h1
  · rw [Num.itoa_nonneg h] at hb
    exact key _ b hb
theorem brk_flt {f : Fil.Flt} (h : Fil.validB f = true) : NoB (Fil.textF f) := by
  rw [Fil.textF_valid h]
  unfold Fil.textP
  split
  · unfold NoB; decide
  · exact NoB.join (by decide) fun p hp b hb => (Fil.rest_plainC (Fil.valid_of h) 13 0 p hp b hb).2
/-! the depth behind a text -/
def dep (d : Nat) (l : Bs) : Nat := l.foldl Wd.stepD d
theorem dep_app (d : Nat) (a b : Bs) : dep d (a ++ b) = dep (dep d a) b := by unfold dep; rw [List.foldl_append]
theorem dep_plain : ∀ {l : Bs} (d : Nat), NoB l → dep d l = d
  | [], _, _ => rfl
  | b :: l, d, h => by
    show dep (Wd.stepD d b) l = d
    rw [Wd.stepD_plain (h b (by simp)), dep_plain d fun x hx => h x (List.mem_cons_of_mem _ hx)]
theorem depAt_dep (l : Bs) : ∀ i, i ≤ l.length → Wd.depAt l i = dep 0 (l.take i)
  | 0, _ => rfl
  | i + 1, h => by
    have hi : i < l.length := h
    rw [Wd.depAt, depAt_dep l i (by omega), List.take_succ_eq_append_getElem hi, dep_app, List.getD, List.getElem?_eq_getElem hi]
    rfl
theorem raw_dep {x : Md} (h : okB x = true) : dep 0 (raw x) = 0 := by
  have P : ∀ {l : Bs}, NoB l → dep 0 l = 0 := fun h => dep_plain 0 h
  rcases ok_cases h with ⟨hk, e⟩ | ⟨t, hk, h1, h2, _, e⟩ | ⟨hk, hs, e⟩ | ⟨c, hk, h2, e⟩ | ⟨c, hk, h1, h2, e⟩ | ⟨hk, hv, e⟩ | ⟨hk, h1, h2, h3, h4, e⟩ | ⟨hk, h1, h2, h3, h4, e⟩
  · rcases hk with hk | hk | hk
    · rw [show raw x = sControl by simp [raw, hk]]; decide
    · rw [show raw x = sBlank by simp [raw, hk]]; decide
    · rw [show raw x = sSwitch by simp [raw, hk]]; decide
  · have h3 := brk_ty t (by omega)
    have hn : x.n = t := by rw [e]
    rcases hk with hk | hk
    · simp only [raw, hk, hn]; exact P (NoB.app (by unfold NoB; decide) h3)
    · simp only [raw, hk, hn]; exact P (NoB.app (by unfold NoB; decide) h3)
  · have h3 : NoB x.sub := fun b hb => (Ln.name_plain (c := 44) (by decide) (Ln.isSub_name hs).1 b hb).2
    rcases hk with hk | hk
    · simp only [raw, hk]; exact P (NoB.app (by unfold NoB; decide) h3)
    · simp only [raw, hk]; exact P (NoB.app (by unfold NoB; decide) h3)
  · have h3 := brk_col c (by omega)
    have hn : x.n = c := by rw [e]
    rcases hk with hk | ⟨hk, _⟩
    · simp only [raw, hk, hn]; exact P (NoB.app (by unfold NoB; decide) h3)
    · simp only [raw, hk, hn]; exact P (NoB.app (by unfold NoB; decide) h3)
  · have h3 := brk_keys h1 h2
    have hn : x.n = c := by rw [e]
    rcases hk with hk | hk
    · simp only [raw, hk, hn]; exact P (NoB.app (by unfold NoB; decide) h3)
    · simp only [raw, hk, hn]; exact P (NoB.app (by unfold NoB; decide) h3)
  · simp only [raw, hk]
    show dep 0 (sPtC ++ Fil.textF x.f ++ [41]) = 0
    rw [dep_app, dep_app, show dep 0 sPtC = 1 by decide, dep_plain 1 (brk_flt hv)]
    decide
  · have h3 : NoB (pairS x.n x.m) := by
      unfold pairS
      refine NoB.app (brk_itoa _) fun b hb => ?_
      rcases List.mem_cons.1 hb with rfl | hb
      · decide
      · exact brk_itoa _ b hb
    simp only [raw, hk]; exact P (NoB.app (by unfold NoB; decide) h3)
  · have h3 : NoB (pairS x.n x.m) := by
      unfold pairS
      refine NoB.app (brk_itoa _) fun b hb => ?_
      rcases List.mem_cons.1 hb with rfl | hb
      · decide
      · exact brk_itoa _ b hb
    simp only [raw, hk]; exact P (NoB.app (by unfold NoB; decide) h3)
theorem valid_raw {p : Bs} (h : pB p = true) : NoC p ∧ dep 0 p = 0 := by
  obtain ⟨h1, h2, _⟩ := p_yes h
  rw [← h2, textM_ok h1]
  exact ⟨raw_comma h1, raw_dep h1⟩
/-- behind a valid text the cut lies where the separator lies -/
theorem cut_valid {p r : Bs} (h : pB p = true) : Wd.cut (p ++ sep ++ r) sep = (p, r, true) := by
  obtain ⟨h1, h2⟩ := valid_raw h
  have e : p ++ sep ++ r = p ++ (sep ++ r) := by simp
  have hs : sep.length = 2 := rfl
  rw [Wd.cut_some (l := p ++ sep ++ r) (sep := sep) (k := p.length) (by decide) (by simp [hs]; omega) ?_ ?_]
  · rw [e, List.take_left, show p ++ (sep ++ r) = (p ++ sep) ++ r by simp, show p.length + sep.length = (p ++ sep).length by simp, List.drop_left]
  · unfold Wd.cutP
    rw [depAt_dep _ _ (by simp), e, List.take_left, h2, List.drop_left]
    simp [sep, List.isPrefixOf]
  · intro j hj
    unfold Wd.cutP
    have : sep.isPrefixOf ((p ++ sep ++ r).drop j) = false := by
      rw [e, List.drop_append_of_le_length (by omega), List.drop_eq_getElem_cons hj, List.cons_append]
      have hb : ((44 : UInt8) == p[j]) = false := by
        have := h1 _ (List.getElem_mem hj)
        simpa using Ne.symm this
      simp [sep, List.isPrefixOf, hb]
    rw [this, Bool.and_false]
theorem cut_last {p : Bs} (h : pB p = true) : Wd.cut p sep = (p, [], false) := by
  obtain ⟨h1, _⟩ := valid_raw h
  refine Wd.cut_none (by decide) fun j hj => ?_
  unfold Wd.cutP
  have : sep.isPrefixOf (p.drop j) = false := by
    rw [List.drop_eq_getElem_cons hj]
    have hb : ((44 : UInt8) == p[j]) = false := by
      have := h1 _ (List.getElem_mem hj)
      simpa using Ne.symm this
    show ((44 : UInt8) == p[j] && ([32] : Bs).isPrefixOf (List.drop (j + 1) p)) = false
    rw [hb, Bool.false_and]
  rw [this, Bool.and_false]
/-- what a cut leaves, joined again -/
theorem cut_back {s p r : Bs} {m : Bool} (h : Wd.cut s sep = (p, r, m)) : (m = true → s = p ++ sep ++ r ∧ r.length + 2 ≤ s.length) ∧ (m = false → s = p) ∧ p.length ≤ s.length ∧ r.length ≤ s.length := by
  unfold Wd.cut at h
  rw [if_neg (by decide)] at h
  split at h
  · rename_i i hi
    simp only [Prod.mk.injEq] at h
    obtain ⟨rfl, rfl, rfl⟩ := h
    have hc : Wd.cutP s sep i = true := by
      unfold Wd.cutAt at hi
      exact List.find?_some hi
    have hl := Wd.cutP_len hc
    have hs : sep.length = 2 := rfl
    have hp : sep.isPrefixOf (s.drop i) = true := by
      unfold Wd.cutP at hc
      simp only [Bool.and_eq_true] at hc
      exact hc.2
    obtain ⟨t, ht⟩ := List.isPrefixOf_iff_prefix.1 hp
    refine ⟨fun _ => ⟨?_, (by simp [hs]; omega)⟩, fun h => (by cases h), (by simp; omega), (by simp)⟩
    have e2 : s.drop (i + sep.length) = t := by
      rw [← List.drop_drop, ← ht, List.drop_left]
    rw [e2, List.append_assoc, ht, List.take_append_drop]
  · simp only [Prod.mk.injEq] at h
    obtain ⟨rfl, rfl, rfl⟩ := h
    exact ⟨fun h => (by cases h), fun _ => rfl, Nat.le_refl _, Nat.zero_le _⟩
/-- the loop over the pieces: ps were read, r is left -/
structure Inv (s : Bs) (ps : List Bs) (r : Bs) (more : Bool) : Prop where
  ok : ∀ p ∈ ps, pB p = true
  len : ps.length ≤ 6
  go : more = true → pieces s = ps ++ pieces r
  done : more = false → pieces s = ps
theorem Inv.start (s : Bs) : Inv s [] s true := ⟨by simp, by decide, fun _ => rfl, fun h => (by cases h)⟩
theorem Inv.next {s : Bs} {ps : List Bs} {r p q : Bs} {m : Bool} (h : Inv s ps r true) (hc : Wd.cut r sep = (p, q, m)) (hp : pB p = true) (hl : ps.length ≠ 6) : Inv s (ps ++ [p]) q m := by
  have h6 := h.len
  have hb := cut_back hc
  obtain ⟨hn, _⟩ := valid_raw hp
  refine ⟨fun x hx => ?_, by simp; omega, fun e => ?_, fun e => ?_⟩
  · rcases List.mem_append.1 hx with hx | hx
    · exact h.ok x hx
    · rw [List.mem_singleton] at hx; subst hx; exact hp
  · rw [h.go rfl, (hb.1 e).1, pieces_app hn]
    simp
  · rw [h.go rfl, hb.2.1 e, pieces_one hn]
theorem Inv.good {s : Bs} {ps : List Bs} {r : Bs} (h : Inv s ps r false) : lB s = true ∧ lV s = ps.map pV ∧ lE s = 0 := by
  have hb : lB s = true := by
    unfold lB
    rw [h.done rfl]
    simp only [Bool.and_eq_true, decide_eq_true_eq, List.all_eq_true]
    exact ⟨h.len, h.ok⟩
  refine ⟨hb, ?_, ?_⟩
  · unfold lV; rw [if_pos hb, h.done rfl]
  · unfold lE; rw [if_pos hb]
theorem Inv.bad {s : Bs} {ps : List Bs} {r p q : Bs} {m : Bool} (h : Inv s ps r true) (hc : Wd.cut r sep = (p, q, m)) (hbad : pB p = false ∨ ps.length = 6) : lB s = false ∧ lV s = [] ∧ lE s = 3 := by
  have hb : lB s = false := by
    cases hb : lB s with
    | false => rfl
    | true =>
      exfalso
      unfold lB at hb
      rw [h.go rfl] at hb
      simp only [Bool.and_eq_true, decide_eq_true_eq, List.all_eq_true, List.length_append] at hb
      obtain ⟨h1, h2⟩ := hb
      have hne := List.length_pos_iff.2 (pieces_ne r)
      rcases hbad with hbad | hbad
      · have hj := join_pieces r
        cases hq : pieces r with
        | nil => exact pieces_ne r hq
        | cons a tl =>
          rw [hq] at h2 hj
          have ha : pB a = true := h2 a (by simp)
          cases tl with
          | nil =>
            rw [Lib.join_one] at hj
            rw [← hj, cut_last ha] at hc
            simp only [Prod.mk.injEq] at hc
            rw [← hc.1, ha] at hbad
            cases hbad
          | cons b tl =>
            rw [join_cons2, ← List.append_assoc] at hj
            rw [← hj, cut_valid ha] at hc
            simp only [Prod.mk.injEq] at hc
            rw [← hc.1, ha] at hbad
            cases hbad
      · omega
  refine ⟨hb, ?_, ?_⟩
  · unfold lV; rw [if_neg (by rw [hb]; decide)]
  · unfold lE; rw [if_neg (by rw [hb]; decide)]
end Go.Proofs.YtbcgkeclmioeiaaGreatDoor.Mo
namespace Go.Proofs.YtbcgkeclmioeiaaGreatDoor
open Go.RowKit
open Wd (Bs)

theorem cut_at {r : ByteArray} {p q : Bs} {m : Bool} (h : Wd.cut r.data.toList Mo.sep = (p, q, m)) (hs : r.size ≤ 1000000) (W : World) :
    Calls Tryz.prog 48 #[.string r, .string ⟨#[44, 32]⟩] W fun e w' => e = .returned (.tuple #[.string ⟨p.toArray⟩, .string ⟨q.toArray⟩, .bool m]) ∧ Below W.heap.size W w' := by
  refine (wordCutFar r ⟨#[44, 32]⟩ W (by omega) (by decide)).mono ?_
  rintro e w1 ⟨h1, h2⟩
  have h1' : e = .returned (cutV (Wd.cut r.data.toList Mo.sep)) := h1
  rw [h] at h1'
  exact ⟨h1', h2⟩
theorem cut_short {r : ByteArray} {p : Bs} (h : p.length ≤ r.data.toList.length) (hs : r.size ≤ 1000000) : (ByteArray.mk p.toArray).size ≤ 1000000 := by
  have hsl : r.data.toList.length = r.size := Array.length_toList
  rw [size_of]
  omega
def strLen : Value → Nat
  | .string s => s.size
  | _ => 0
def isOn : Value → Bool
  | .bool b => b
  | _ => false
theorem cut_less {r : ByteArray} {p q : Bs} {m : Bool} (h : m = true → r.data.toList = p ++ Mo.sep ++ q ∧ q.length + 2 ≤ r.data.toList.length) : (if isOn (.bool m) then strLen (.string ⟨q.toArray⟩) + 1 else 0) < (if isOn (.bool true) then strLen (.string r) + 1 else 0) := by
  have hsl : r.data.toList.length = r.size := Array.length_toList
  cases m with
  | false => simp [isOn]
  | true =>
    have := (h rfl).2
    simp only [isOn, strLen, if_true, size_of]
    omega
def ListRes (s : Bs) (w : World) (e : Ending) (w' : World) : Prop := ∃ v, e = .returned (.tuple #[v, .int .i64 (Mo.lE s)]) ∧ OwnRowS 39 20 w.heap.size w' v ((Mo.lV s).map cellsX) ∧ Below w.heap.size w w'

set_option maxHeartbeats 8000000 in
set_option maxRecDepth 100000 in
theorem modParseListOf (s : ByteArray) (hs : s.size ≤ 1000000) (w : World)
    (HPA : Hid (∀ (ps : List Bs) (p r q : Bs) (m : Bool), Mo.Inv s.data.toList ps r true → Wd.cut r Mo.sep = (p, q, m) → p.length ≤ 1000000 → ∀ W, Below w.heap.size w W → Calls Tryz.prog 21 #[.string ⟨p.toArray⟩] W fun e w' => e = .returned (.tuple #[.agg (cellsX (Mo.pV p)), .int .i64 (Mo.pE p)]) ∧ Below W.heap.size W w')) :
    Calls Tryz.prog 24 #[.string s] w (ListRes s.data.toList w) := by

  have B0 := Lib.hid (Below.refl w.heap.size w)
  go_enter Tryz.func24, Tryz.ntmps24
  go_upto_region 0 with fail
  refine wp_region_lit ?_
  iterate 2 ((with_reducible refine rN (v := ?_) ?_ ?_ ?_); rotate_left; (· rfl); (· go_simp; (try with_reducible rfl)); simp only [pu, sB, s0, sS])
  go_upto_region 1 with fail
  refine wp_region_lit ?_
  (with_reducible refine rN (v := ?_) ?_ ?_ ?_); rotate_left; (· rfl); (· go_simp; (try with_reducible rfl)); simp only [pu, sB, s0, sS]
  go_upto_region 2 with fail
  refine wp_region_lit ?_
  (with_reducible refine rN (v := ?_) ?_ ?_ ?_); rotate_left; (· rfl); (· go_simp; (try with_reducible rfl)); simp only [pu, sB, s0, sS]
  go_upto_region 3 with fail
  refine wp_region_lit ?_
  (with_reducible refine rN (v := .bool true) ?_ ?_ ?_); (· rfl); (· go_simp; (try with_reducible rfl)); simp only [pu, sB, s0, sS]
  go_wp2_with fail
  go_loopw [0, 4, 5, 6, 7, 8] (fun sv lv v5 mv v7 v8 wr => ∃ (ps : List Bs) (r : ByteArray) (more : Bool), sv = .string r ∧ mv = .bool more ∧ Hid (Mo.Inv s.data.toList ps r.data.toList more) ∧ Hid (r.size ≤ 1000000) ∧ Hid (OwnRowS 39 20 w.heap.size wr lv (ps.map fun p => cellsX (Mo.pV p))) ∧ Hid (Below w.heap.size w wr)) (fun sv lv v5 mv v7 v8 _ => if isOn mv then strLen sv + 1 else 0)
  case atStart => exact ⟨[], s, true, rfl, rfl, Lib.hid (Mo.Inv.start _), Lib.hid hs, Lib.hid (OwnRowS.nil _ _ _ _), B0⟩
  case round =>
    obtain ⟨ps, r, more, rfl, rfl, HI, HS, HO, HB⟩ := hrel
    clear B0
    have B0 := Lib.hid (Below.refl wr.heap.size wr)
    cases more with
    | false =>
      go_upto_region 4 with fail
      refine wp_region_lit ?_
      (with_reducible refine rN (v := .bool false) ?_ ?_ ?_); (· rfl); (· go_simp; (try with_reducible rfl)); simp only [pu, sB, s0, sS]
      go_upto_region 10 with fail
      refine wp_region_lit ?_
      iterate 3 ((with_reducible refine rN (v := ?_) ?_ ?_ ?_); rotate_left; (· rfl); (· go_simp; (try with_reducible rfl)); simp only [pu, sB, s0, sS])
      go_wp2_with fail
      go_ret2
      exact ⟨_, by rw [HI.out.good.2.2]; rfl, by rw [HI.out.good.2.1, List.map_map]; exact HO.out, HB.out⟩
    | true =>
      obtain ⟨⟨p, q, m2⟩, hcut⟩ : ∃ x, Wd.cut r.data.toList Mo.sep = x := ⟨_, rfl⟩
      have HCB := Lib.hid (Mo.cut_back hcut)
      have HCU := Lib.hid hcut
      have HC : Hid (∀ W, Calls Tryz.prog 48 #[.string r, .string ⟨#[44, 32]⟩] W fun e w' => e = .returned (.tuple #[.string ⟨p.toArray⟩, .string ⟨q.toArray⟩, .bool m2]) ∧ Below W.heap.size W w') := Lib.hid fun W => cut_at hcut HS.out W
      clear hcut
      have HP : Hid (∀ W, Below w.heap.size w W → Calls Tryz.prog 21 #[.string ⟨p.toArray⟩] W fun e w' => e = .returned (.tuple #[.agg (cellsX (Mo.pV p)), .int .i64 (Mo.pE p)]) ∧ Below W.heap.size W w') := Lib.hid fun W hb => HPA.out ps p r.data.toList q m2 HI.out HCU.out (by have h := cut_short HCB.out.2.2.1 HS.out; rw [size_of] at h; exact h) W hb
      go_upto_region 4 with fail
      refine wp_region_lit ?_
      (with_reducible refine rN (v := .bool true) ?_ ?_ ?_); (· rfl); (· go_simp; (try with_reducible rfl)); simp only [pu, sB, s0, sS]
      go_upto_region 5 with fail
      refine wp_region_lit ?_
      (with_reducible refine rN (v := ?_) ?_ ?_ ?_); rotate_left; (· rfl); (· go_simp; (try with_reducible rfl)); simp only [pu, sB, s0, sS]
      go_wp2_with fail
      refine (HC.out _).mono ?_
      rintro e w1 ⟨rfl, hb⟩
      have B1 := Lib.hid (B0.out.trans (hb.mono B0.out.size))
      clear hb
      clear B0
      go_simp
      rename_i hKK
      refine hKK _ _ ?_
      clear hKK
      try simp only [pu, sB, s0, sS]
      iterate 5 ((with_reducible refine rN (v := ?_) ?_ ?_ ?_); rotate_left; (· rfl); (· go_simp; (try with_reducible rfl)); simp only [pu, sB, s0, sS])
      (with_reducible refine rN (v := ?_) ?_ ?_ ?_); rotate_left; (· rfl); (· go_simp; (try with_reducible rfl)); simp only [pu, sB, s0]
      (with_reducible refine rN (v := ?_) ?_ ?_ ?_); rotate_left; (· rfl); (· go_simp; (try with_reducible rfl)); simp only [pu, sB, s0, sS]
      obtain ⟨er, her⟩ : ∃ x, Mo.pE p = x := ⟨_, rfl⟩
      have HER := Lib.hid her
      rw [her] at HP
      clear her
      go_upto_region 6 with fail
      refine wp_region_lit ?_
      (with_reducible refine rN (v := ?_) ?_ ?_ ?_); rotate_left; (· rfl); (· go_simp; (try with_reducible rfl)); simp only [pu, sB, s0, sS]
      go_wp2_with fail
      refine (HP.out _ (HB.out.trans (B1.out.mono HB.out.size))).mono ?_
      rintro e w2 ⟨rfl, hb⟩
      have B2 := Lib.hid (B1.out.trans (hb.mono B1.out.size))
      clear hb
      clear B1
      go_simp
      rename_i hKK
      refine hKK _ _ ?_
      clear hKK
      try simp only [pu, sB, s0, sS]
      (with_reducible refine rN (v := ?_) ?_ ?_ ?_); rotate_left; (· rfl); (· go_simp; (try with_reducible rfl)); simp only [pu, sB, s0, sS]
      (with_reducible refine rN (v := .agg (cellsX (Mo.pV p))) ?_ ?_ ?_); (· rfl); (· go_simp; (try with_reducible rfl)); simp only [pu, sB, s0, sS]
      (with_reducible refine rN (v := ?_) ?_ ?_ ?_); rotate_left; (· rfl); (· go_simp; (try with_reducible rfl)); simp only [pu, sB, s0, sS]
      obtain ⟨w3, hw⟩ : ∃ v, v = w2.alloc (.cells (mO 0 0 0 ⟨#[]⟩ cellsZ) 39) := ⟨_, rfl⟩
      obtain ⟨pM, hp⟩ : ∃ v, v = w2.heap.size := ⟨_, rfl⟩
      have B3 : Hid (Below wr.heap.size wr w3) := Lib.hid (by rw [hw]; exact B2.out.alloc B2.out.size _)
      have LEM : Hid (wr.heap.size ≤ pM) := Lib.hid (by rw [hp]; exact B2.out.size)
      have KM3 : Hid (Blk w3 pM (mO 0 0 0 ⟨#[]⟩ cellsZ) 39) := Lib.hid (by rw [hw, hp]; exact Blk.new _ _ _)
      with_reducible refine wpList_runWV (some 7) (v := .pointer (some ⟨pM, 0, none⟩)) (w' := w3) ?_ ?_ ?_ ?_
      · rfl
      · rfl
      · rw [hw, hp]; (go_simp; (try rfl))
      simp only [pu, sB, s0, sS]
      clear hw hp
      clear B2
      have KM4 := Lib.hid (KM3.out.stored (o := 0) (vs := (cellsX (Mo.pV p)).toList) (cs' := (cellsX (Mo.pV p))) (laid_all (cellsX_sz (Mo.pV p)) (mO_sz cellsZ_size)))
      have B4 := Lib.hid (below_whole ((cellsX (Mo.pV p)).toList) (o := 0) B3.out LEM.out)
      with_reducible refine wpList_storeM (.tmp 7) (.tmp 19) (o := 0) (vs := (cellsX (Mo.pV p))) ?_ ?_ KM3.out ?_ (infoTMo20 (cellsX_sz (Mo.pV p))) (cellsX_one (Mo.pV p)) ?_
      · rfl
      · rfl
      · exact (fit_2 (mO_sz cellsZ_size) (cellsX_sz (Mo.pV p)) (by decide))
      (try simp only [Act.put])
      generalize World.setCells _ _ _ _ = w4 at KM4 B4 ⊢
      clear B3 KM3
      (with_reducible refine rN (v := ?_) ?_ ?_ ?_); rotate_left; (· rfl); (· go_simp; (try with_reducible rfl)); simp only [pu, sB, s0, sS]
      obtain ⟨ok, hok⟩ : ∃ x, Mo.pB p = x := ⟨_, rfl⟩
      have HOK := Lib.hid hok
      clear hok
      cases ok with
      | false =>
        obtain rfl : er = 3 := by rw [← HER.out]; exact (Mo.p_no HOK.out).2
        go_upto_region 7 with fail
        refine wp_region_lit ?_
        (with_reducible refine rN (v := ?_) ?_ ?_ ?_); rotate_left; (· rfl); (· go_simp; (try with_reducible rfl)); simp only [pu, sB, s0, sS]
        iterate 2 ((with_reducible refine rN (v := .bool true) ?_ ?_ ?_); (· rfl); (· go_simp; (try with_reducible rfl)); simp only [pu, sB, s0, sS])
        iterate 3 ((with_reducible refine kN ?_ ?_); (· rfl); simp only [pu, sB, s0, sS])
        (with_reducible refine rN (v := .bool true) ?_ ?_ ?_); (· rfl); (· go_simp; (try with_reducible rfl)); simp only [pu, sB, s0, sS]
        go_upto_region 8 with fail
        refine wp_region_lit ?_
        iterate 2 ((with_reducible refine rN (v := ?_) ?_ ?_ ?_); rotate_left; (· rfl); (· go_simp; (try with_reducible rfl)); simp only [pu, sB, s0, sS])
        go_wp2_with fail
        go_ret2
        exact ⟨_, by rw [(HI.out.bad HCU.out (.inl HOK.out)).2.2]; rfl, by rw [(HI.out.bad HCU.out (.inl HOK.out)).2.1]; exact OwnRowS.nil _ _ _ _, (HB.out.trans (B4.out.mono HB.out.size))⟩
      | true =>
        obtain rfl : er = 0 := by rw [← HER.out]; exact (Mo.p_yes HOK.out).2.2
        obtain ⟨ad, cap, elv⟩ := HO.out.row.slice
        rw [List.length_map] at elv
        subst elv
        have hle : ps.length ≤ 6 := HI.out.len
        by_cases h6 : ps.length = 6
        · have h6b : ((ps.length : Int) == 6) = true := by simp [h6]
          go_upto_region 7 with fail
          refine wp_region_lit ?_
          (with_reducible refine rN (v := ?_) ?_ ?_ ?_); rotate_left; (· rfl); (· go_simp; (try with_reducible rfl)); simp only [pu, sB, s0, sS]
          iterate 2 ((with_reducible refine rN (v := .bool false) ?_ ?_ ?_); (· rfl); (· go_simp; (try with_reducible rfl)); simp only [pu, sB, s0, sS])
          iterate 2 ((with_reducible refine rN (v := ?_) ?_ ?_ ?_); rotate_left; (· rfl); (· go_simp; (try with_reducible rfl)); simp only [pu, sB, s0, sS])
          iterate 2 ((with_reducible refine rN (v := .bool true) ?_ ?_ ?_); (· rfl); (· go_simp; (try with_reducible rfl)); simp only [pu, sB, s0, sS])
          go_upto_region 8 with fail
          refine wp_region_lit ?_
          iterate 2 ((with_reducible refine rN (v := ?_) ?_ ?_ ?_); rotate_left; (· rfl); (· go_simp; (try with_reducible rfl)); simp only [pu, sB, s0, sS])
          go_wp2_with fail
          go_ret2
          exact ⟨_, by rw [(HI.out.bad HCU.out (.inr h6)).2.2]; rfl, by rw [(HI.out.bad HCU.out (.inr h6)).2.1]; exact OwnRowS.nil _ _ _ _, (HB.out.trans (B4.out.mono HB.out.size))⟩
        have h6b : ((ps.length : Int) == 6) = false := by simp; omega
        go_upto_region 7 with fail
        refine wp_region_lit ?_
        (with_reducible refine rN (v := ?_) ?_ ?_ ?_); rotate_left; (· rfl); (· go_simp; (try with_reducible rfl)); simp only [pu, sB, s0, sS]
        iterate 2 ((with_reducible refine rN (v := .bool false) ?_ ?_ ?_); (· rfl); (· go_simp; (try with_reducible rfl)); simp only [pu, sB, s0, sS])
        iterate 2 ((with_reducible refine rN (v := ?_) ?_ ?_ ?_); rotate_left; (· rfl); (· go_simp; (try with_reducible rfl)); simp only [pu, sB, s0, sS])
        iterate 2 ((with_reducible refine rN (v := .bool false) ?_ ?_ ?_); (· rfl); (· go_simp; (try with_reducible rfl)); simp only [pu, sB, s0, sS])
        go_upto_region 9 with fail
        refine wp_region_lit ?_
        (with_reducible refine rN (v := ?_) ?_ ?_ ?_); rotate_left; (· rfl); (· go_simp; (try with_reducible rfl)); simp only [pu, sB, s0, sS]
        with_reducible refine wpList_loadS (.tmp 7) ?_ ?_ KM4.out Tryz.underlying39 ?_ (infoTMo20 (cellsX_sz (Mo.pV p))) ?_
        · rfl
        · rfl
        · rfl
        simp only [pu, sB, s0, sS]
        obtain ⟨w5, hw⟩ : ∃ v, v = w4.alloc (.cells (cellsX (Mo.pV p)) 39) := ⟨_, rfl⟩
        obtain ⟨pN, hp⟩ : ∃ v, v = w4.heap.size := ⟨_, rfl⟩
        have B5 : Hid (Below wr.heap.size wr w5) := Lib.hid (by rw [hw]; exact B4.out.alloc B4.out.size _)
        have LEN : Hid (wr.heap.size ≤ pN) := Lib.hid (by rw [hp]; exact B4.out.size)
        have KM5 := Lib.hid (show Blk w5 pM (cellsX (Mo.pV p)) 39 by rw [hw]; exact KM4.out.alloc _)
        have NEMN : Hid (pM ≠ pN) := Lib.hid (by rw [hp]; exact Nat.ne_of_lt KM4.out.lt)
        have NENM : Hid (pN ≠ pM) := Lib.hid (Ne.symm NEMN.out)
        have KN5 : Hid (Blk w5 pN (cellsX (Mo.pV p)) 39) := Lib.hid (by rw [hw, hp]; exact Blk.new _ _ _)
        with_reducible refine wpList_runWV (some 30) (v := .slice (some ⟨pN, 0, none⟩) 1 1) (w' := w5) ?_ ?_ ?_ ?_
        · rfl
        · rfl
        · rw [hw, hp]; exact run_slice_one (.tmp 29) rfl rfl Tryz.underlying42 infoMo zeroMo sizeMo (by decide) (by decide) (cellsX_sz _)
        simp only [pu, sB, s0, sS]
        clear hw hp
        clear B4 KM4
        have HON := Lib.hid (HO.out.below B5.out (Nat.le_refl _))
        have HBN := Lib.hid (HB.out.trans (B5.out.mono HB.out.size))
        refine wpList_push_mod rfl (.tmp 28) (.tmp 30) rfl rfl HON.out (b := pN) (c := 1) rfl KN5.out (cellsX_sz _) (cellsX_one _) (by simp; omega) HBN.out.size HBN.out ?_
        intro v2 wz ho2 hb2
        go_wp2_with fail
        go_roundw
        case rel => exact ⟨ps ++ [p], _, m2, rfl, rfl, Lib.hid (HI.out.next HCU.out HOK.out h6), Lib.hid (cut_short HCB.out.2.2.2 HS.out), Lib.hid (by rw [List.map_append]; exact ho2), Lib.hid hb2⟩
        case measure => exact cut_less HCB.out.1
end Go.Proofs.YtbcgkeclmioeiaaGreatDoor
namespace Go.Proofs.YtbcgkeclmioeiaaGreatDoor
open Go.RowKit
open Wd (Bs)

def coZ : Array Value := #[.int .i64 0, .int .i64 0, .int .i64 0, .int .i64 0, .int .i64 0, .int .i64 0, .int .i64 0]
theorem coZ_part : Part 50 7 coZ := ⟨rfl, by simp [coZ, Value.oneCell'], fun W => by kernel_rfl⟩
theorem built_T1 : Tryz.prog.built 56 [(4, .int .i64 1), (5, .int .i64 1)] = some (trC ⟨#[]⟩ coZ 0 0 0 (.slice none 0 0) 1 1 0 (.slice none 0 0) 0) := by kernel_rfl
theorem built_T2 : Tryz.prog.built 56 [(6, .int .i64 1)] = some (trC ⟨#[]⟩ coZ 0 0 0 (.slice none 0 0) 0 0 1 (.slice none 0 0) 0) := by kernel_rfl
theorem built_X13 : Tryz.prog.built 39 [(0, .int .i64 13), (1, .int .i64 2), (2, .int .i64 (-1))] = some (mO 13 2 (-1) ⟨#[]⟩ cellsZ) := by kernel_rfl
theorem built_X8 : Tryz.prog.built 39 [(0, .int .i64 8), (1, .int .i64 4)] = some (mO 8 4 0 ⟨#[]⟩ cellsZ) := by kernel_rfl
/-- one cell loaded, told by the cell -/
theorem wpList_loadC {P : Program} {ops : Array Oper} {rest : List Oper} {a : Act} {w : World} {Q : Exit → Act → World → Prop} {d : Option Tmp} {ty T : TypeId} {ps : String} {af : Array Edge} {gd : Option (Nat × Bool)} (x : Operand)
    (hw : Region.wanted { dst := d, op := .load T x, type := ty, pos := ps, after := af, guard := gd } (yielded ops a.tmps) = true)
    {b j : Nat} {v : Value} {D : TypeDesc} (hx : a.eval x = .pointer (some ⟨b, j, none⟩)) (hc : w.cell? ⟨b, j, none⟩ = some v) (hu : P.underlying T = some D) (hd : D.isRow = false)
    (h : wpList P ops Q rest (a.put d v) w) : wpList P ops Q ({ dst := d, op := .load T x, type := ty, pos := ps, after := af, guard := gd } :: rest) a w := by
  have hagg : (isAgg T).run P w = .ok false w := by
    unfold isAgg
    rw [Sem.run_bind, run_underlying hu w]
    cases D <;> simp_all
  have hr : (loadVar T ⟨b, j, none⟩).run P w = .ok v w := by simp [loadVar, Sem.run_bind, hagg, hc]
  unfold wpList
  rw [if_pos hw]
  refine .inl ?_
  unfold Oper.wp execOp
  simp only [hx, Instr.loadAt, Instr.sureAddr, Sem.run_bind, Sem.run_pure, Result.andThen_ok, hr]
  exact h

set_option maxHeartbeats 8000000 in
set_option maxRecDepth 100000 in
theorem aliveWalk (w : World)
    (H1 : Hid (∀ W, Below w.heap.size w W → Calls Tryz.prog 21 #[.string ⟨#[112, 116, 43, 61, 50, 47, 45, 49]⟩] W fun e w' => e = .returned (.tuple #[.agg (mO 13 2 (-1) ⟨#[]⟩ cellsZ), .int .i64 0]) ∧ Below W.heap.size W w')) (H2 : Hid (∀ W, Below w.heap.size w W → Calls Tryz.prog 30 #[.agg (trC ⟨#[]⟩ coZ 0 0 0 (.slice none 0 0) 1 1 0 (.slice none 0 0) 0), .agg (mO 13 2 (-1) ⟨#[]⟩ cellsZ), .int .i64 0, .int .i64 0] W fun e w' => (∃ a1 n1 c1 a2 n2 c2, e = .returned (.agg (trC ⟨#[]⟩ coZ 0 0 0 (.slice a1 n1 c1) 3 0 0 (.slice a2 n2 c2) 0))) ∧ Below W.heap.size W w')) (H3 : Hid (∀ W, Below w.heap.size w W → Calls Tryz.prog 30 #[.agg (trC ⟨#[]⟩ coZ 0 0 0 (.slice none 0 0) 0 0 1 (.slice none 0 0) 0), .agg (mO 8 4 0 ⟨#[]⟩ cellsZ), .int .i64 0, .int .i64 0] W fun e w' => (∃ a1 n1 c1 a2 n2 c2, e = .returned (.agg (trC ⟨#[]⟩ coZ 0 0 0 (.slice a1 n1 c1) 0 0 5 (.slice a2 n2 c2) 0))) ∧ Below W.heap.size W w')) (H4 : Hid (∀ W, Below w.heap.size w W → Calls Tryz.prog 24 #[.string ⟨#[99, 111, 110, 116, 114, 111, 108, 44, 32, 98, 108, 97, 110, 107]⟩] W fun e w' => (∃ ad cap, e = .returned (.tuple #[.slice ad 2 cap, .int .i64 0]) ∧ RowS 20 w' (.slice ad 2 cap) [mO 1 0 0 ⟨#[]⟩ cellsZ, mO 10 0 0 ⟨#[]⟩ cellsZ]) ∧ Below W.heap.size W w')) (HT : Hid (∀ W, Below w.heap.size w W → Calls Tryz.prog 43 #[.agg (mO 6 0 0 ⟨#[]⟩ cellsZ)] W fun e w' => e = .returned (.string ⟨#[99, 111, 108, 111, 114, 115, 61, 110, 111, 110, 101]⟩) ∧ Below W.heap.size W w')) (HS : Hid (∀ W, Below w.heap.size w W → Calls Tryz.prog 44 #[.int .i64 14] W fun e w' => e = .returned (.int .i64 8) ∧ Below W.heap.size W w')) (hq : ∀ W : World, (Op.equalIn 10000 39 (.agg (mO 13 2 (-1) ⟨#[]⟩ cellsZ)) (.agg (mO 13 2 (-1) ⟨#[]⟩ cellsZ))).run Tryz.prog W = .ok true W) :
    Calls Tryz.prog 20 #[] w fun e w' => e = .returned (.bool true) ∧ Below w.heap.size w w' := by

  have B0 := Lib.hid (Below.refl w.heap.size w)
  go_enter Tryz.func20, Tryz.ntmps20
  go_upto_region 0 with fail
  refine wp_region_lit ?_
  (with_reducible refine rN (v := .bool false) ?_ ?_ ?_); (· rfl); (· go_simp; (try with_reducible rfl)); simp only [pu, sB, s0]
  go_upto_region 1 with fail
  refine wp_region_lit ?_
  go_wp2_with fail
  refine (H1.out _ B0.out).mono ?_
  rintro e w1 ⟨rfl, hb⟩
  have B1 := Lib.hid (B0.out.trans (hb.mono B0.out.size))
  clear hb
  clear B0
  go_simp
  rename_i hKK
  refine hKK _ _ ?_
  clear hKK
  try simp only [pu, sB, s0, sS]
  (with_reducible refine rN (v := ?_) ?_ ?_ ?_); rotate_left; (· rfl); (· go_simp; (try with_reducible rfl)); simp only [pu, sB, s0, sS]
  (with_reducible refine rN (v := .agg (mO 13 2 (-1) ⟨#[]⟩ cellsZ)) ?_ ?_ ?_); (· rfl); (· go_simp; (try with_reducible rfl)); simp only [pu, sB, s0, sS]
  (with_reducible refine rN (v := ?_) ?_ ?_ ?_); rotate_left; (· rfl); (· go_simp; (try with_reducible rfl)); simp only [pu, sB, s0, sS]
  obtain ⟨w2, hw⟩ : ∃ v, v = w1.alloc (.cells (mO 0 0 0 ⟨#[]⟩ cellsZ) 39) := ⟨_, rfl⟩
  obtain ⟨pP, hp⟩ : ∃ v, v = w1.heap.size := ⟨_, rfl⟩
  have B2 : Hid (Below w.heap.size w w2) := Lib.hid (by rw [hw]; exact B1.out.alloc B1.out.size _)
  have LEP : Hid (w.heap.size ≤ pP) := Lib.hid (by rw [hp]; exact B1.out.size)
  have KP2 : Hid (Blk w2 pP (mO 0 0 0 ⟨#[]⟩ cellsZ) 39) := Lib.hid (by rw [hw, hp]; exact Blk.new _ _ _)
  with_reducible refine wpList_runWV (some 1) (v := .pointer (some ⟨pP, 0, none⟩)) (w' := w2) ?_ ?_ ?_ ?_
  · rfl
  · rfl
  · rw [hw, hp]; (go_simp; (try rfl))
  simp only [pu, sB, s0, sS]
  clear hw hp
  clear B1
  have KP3 := Lib.hid (KP2.out.stored (o := 0) (vs := (mO 13 2 (-1) ⟨#[]⟩ cellsZ).toList) (cs' := (mO 13 2 (-1) ⟨#[]⟩ cellsZ)) (laid_all (mO_sz cellsZ_size) (mO_sz cellsZ_size)))
  have B3 := Lib.hid (below_whole ((mO 13 2 (-1) ⟨#[]⟩ cellsZ).toList) (o := 0) B2.out LEP.out)
  with_reducible refine wpList_storeM (.tmp 1) (.tmp 9) (o := 0) (vs := (mO 13 2 (-1) ⟨#[]⟩ cellsZ)) ?_ ?_ KP2.out ?_ (infoTMo20 (mO_sz cellsZ_size)) (mO_one cellsZ_one) ?_
  · rfl
  · rfl
  · exact (fit_2 (mO_sz cellsZ_size) (mO_sz cellsZ_size) (by decide))
  (try simp only [Act.put])
  generalize World.setCells _ _ _ _ = w3 at KP3 B3 ⊢
  clear B2 KP2
  (with_reducible refine rN (v := ?_) ?_ ?_ ?_); rotate_left; (· rfl); (· go_simp; (try with_reducible rfl)); simp only [pu, sB, s0, sS]
  go_upto_region 2 with fail
  refine wp_region_lit ?_
  (with_reducible refine rN (v := .agg (trC ⟨#[]⟩ coZ 0 0 0 (.slice none 0 0) 1 1 0 (.slice none 0 0) 0)) ?_ ?_ ?_); (· rfl); (· refine run_buildOp _ [(4, .int .i64 1), (5, .int .i64 1)] rfl ?_ built_T1; rfl); simp only [pu, sB, s0, sS]
  with_reducible refine wpList_loadS (.tmp 1) ?_ ?_ KP3.out Tryz.underlying39 ?_ (infoTMo20 (mO_sz cellsZ_size)) ?_
  · rfl
  · rfl
  · rfl
  simp only [pu, sB, s0, sS]
  go_wp2_with fail
  refine (H2.out _ B3.out).mono ?_
  rintro e w4 ⟨⟨a1x, n1x, c1x, a2x, n2x, c2x, rfl⟩, hb⟩
  have B4 := Lib.hid (B3.out.trans (hb.mono B3.out.size))
  have KP4 := Lib.hid (KP3.out.below hb KP3.out.lt)
  clear hb
  clear B3 KP3
  go_simp
  rename_i hKK
  refine hKK _ _ ?_
  clear hKK
  try simp only [pu, sB, s0, sS]
  obtain ⟨w5, hw⟩ : ∃ v, v = w4.alloc (.cells zTr.cells 56) := ⟨_, rfl⟩
  obtain ⟨pQ, hp⟩ : ∃ v, v = w4.heap.size := ⟨_, rfl⟩
  have B5 : Hid (Below w.heap.size w w5) := Lib.hid (by rw [hw]; exact B4.out.alloc B4.out.size _)
  have LEQ : Hid (w.heap.size ≤ pQ) := Lib.hid (by rw [hp]; exact B4.out.size)
  have KP5 := Lib.hid (show Blk w5 pP (mO 13 2 (-1) ⟨#[]⟩ cellsZ) 39 by rw [hw]; exact KP4.out.alloc _)
  have NEPQ : Hid (pP ≠ pQ) := Lib.hid (by rw [hp]; exact Nat.ne_of_lt KP4.out.lt)
  have NEQP : Hid (pQ ≠ pP) := Lib.hid (Ne.symm NEPQ.out)
  have KQ5 : Hid (Blk w5 pQ zTr.cells 56) := Lib.hid (by rw [hw, hp]; exact Blk.new _ _ _)
  with_reducible refine wpList_runWV (some 3) (v := .pointer (some ⟨pQ, 0, none⟩)) (w' := w5) ?_ ?_ ?_ ?_
  · rfl
  · rfl
  · rw [hw, hp]; exact run_allocOp rfl infoTr zeroTr
  simp only [pu, sB, s0, sS]
  clear hw hp
  clear B4 KP4
  have KQ6 := Lib.hid (KQ5.out.stored (o := 0) (vs := (trC ⟨#[]⟩ coZ 0 0 0 (.slice a1x n1x c1x) 3 0 0 (.slice a2x n2x c2x) 0).toList) (cs' := (trC ⟨#[]⟩ coZ 0 0 0 (.slice a1x n1x c1x) 3 0 0 (.slice a2x n2x c2x) 0)) (laid_all (trC_sz coZ_part) zTr_cells))
  have KP6 := Lib.hid (KP5.out.wholeElse ((trC ⟨#[]⟩ coZ 0 0 0 (.slice a1x n1x c1x) 3 0 0 (.slice a2x n2x c2x) 0).toList) (o := 0) NEPQ.out)
  have B6 := Lib.hid (below_whole ((trC ⟨#[]⟩ coZ 0 0 0 (.slice a1x n1x c1x) 3 0 0 (.slice a2x n2x c2x) 0).toList) (o := 0) B5.out LEQ.out)
  with_reducible refine wpList_storeM (.tmp 3) (.tmp 13) (o := 0) (vs := (trC ⟨#[]⟩ coZ 0 0 0 (.slice a1x n1x c1x) 3 0 0 (.slice a2x n2x c2x) 0)) ?_ ?_ KQ5.out ?_ (szTr (trC_sz coZ_part)) (trC_one coZ_part rfl rfl) ?_
  · rfl
  · rfl
  · exact (fit_2 zTr_cells (trC_sz coZ_part) (by decide))
  (try simp only [Act.put])
  generalize World.setCells _ _ _ _ = w6 at KP6 KQ6 B6 ⊢
  clear B5 KP5 KQ5
  go_upto_region 3 with fail
  refine wp_region_lit ?_
  (with_reducible refine rN (v := .agg (trC ⟨#[]⟩ coZ 0 0 0 (.slice none 0 0) 0 0 1 (.slice none 0 0) 0)) ?_ ?_ ?_); (· rfl); (· refine run_buildOp _ [(6, .int .i64 1)] rfl ?_ built_T2; rfl); simp only [pu, sB, s0, sS]
  (with_reducible refine rN (v := .agg (mO 8 4 0 ⟨#[]⟩ cellsZ)) ?_ ?_ ?_); (· rfl); (· refine run_buildOp _ [(0, .int .i64 8), (1, .int .i64 4)] rfl ?_ built_X8; rfl); simp only [pu, sB, s0, sS]
  go_wp2_with fail
  refine (H3.out _ B6.out).mono ?_
  rintro e w7 ⟨⟨a1y, n1y, c1y, a2y, n2y, c2y, rfl⟩, hb⟩
  have B7 := Lib.hid (B6.out.trans (hb.mono B6.out.size))
  have KP7 := Lib.hid (KP6.out.below hb KP6.out.lt)
  have KQ7 := Lib.hid (KQ6.out.below hb KQ6.out.lt)
  clear hb
  clear B6 KP6 KQ6
  go_simp
  rename_i hKK
  refine hKK _ _ ?_
  clear hKK
  try simp only [pu, sB, s0, sS]
  obtain ⟨w8, hw⟩ : ∃ v, v = w7.alloc (.cells zTr.cells 56) := ⟨_, rfl⟩
  obtain ⟨pR, hp⟩ : ∃ v, v = w7.heap.size := ⟨_, rfl⟩
  have B8 : Hid (Below w.heap.size w w8) := Lib.hid (by rw [hw]; exact B7.out.alloc B7.out.size _)
  have LER : Hid (w.heap.size ≤ pR) := Lib.hid (by rw [hp]; exact B7.out.size)
  have KP8 := Lib.hid (show Blk w8 pP (mO 13 2 (-1) ⟨#[]⟩ cellsZ) 39 by rw [hw]; exact KP7.out.alloc _)
  have NEPR : Hid (pP ≠ pR) := Lib.hid (by rw [hp]; exact Nat.ne_of_lt KP7.out.lt)
  have NERP : Hid (pR ≠ pP) := Lib.hid (Ne.symm NEPR.out)
  have KQ8 := Lib.hid (show Blk w8 pQ (trC ⟨#[]⟩ coZ 0 0 0 (.slice a1x n1x c1x) 3 0 0 (.slice a2x n2x c2x) 0) 56 by rw [hw]; exact KQ7.out.alloc _)
  have NEQR : Hid (pQ ≠ pR) := Lib.hid (by rw [hp]; exact Nat.ne_of_lt KQ7.out.lt)
  have NERQ : Hid (pR ≠ pQ) := Lib.hid (Ne.symm NEQR.out)
  have KR8 : Hid (Blk w8 pR zTr.cells 56) := Lib.hid (by rw [hw, hp]; exact Blk.new _ _ _)
  with_reducible refine wpList_runWV (some 4) (v := .pointer (some ⟨pR, 0, none⟩)) (w' := w8) ?_ ?_ ?_ ?_
  · rfl
  · rfl
  · rw [hw, hp]; exact run_allocOp rfl infoTr zeroTr
  simp only [pu, sB, s0, sS]
  clear hw hp
  clear B7 KP7 KQ7
  have KR9 := Lib.hid (KR8.out.stored (o := 0) (vs := (trC ⟨#[]⟩ coZ 0 0 0 (.slice a1y n1y c1y) 0 0 5 (.slice a2y n2y c2y) 0).toList) (cs' := (trC ⟨#[]⟩ coZ 0 0 0 (.slice a1y n1y c1y) 0 0 5 (.slice a2y n2y c2y) 0)) (laid_all (trC_sz coZ_part) zTr_cells))
  have KP9 := Lib.hid (KP8.out.wholeElse ((trC ⟨#[]⟩ coZ 0 0 0 (.slice a1y n1y c1y) 0 0 5 (.slice a2y n2y c2y) 0).toList) (o := 0) NEPR.out)
  have KQ9 := Lib.hid (KQ8.out.wholeElse ((trC ⟨#[]⟩ coZ 0 0 0 (.slice a1y n1y c1y) 0 0 5 (.slice a2y n2y c2y) 0).toList) (o := 0) NEQR.out)
  have B9 := Lib.hid (below_whole ((trC ⟨#[]⟩ coZ 0 0 0 (.slice a1y n1y c1y) 0 0 5 (.slice a2y n2y c2y) 0).toList) (o := 0) B8.out LER.out)
  with_reducible refine wpList_storeM (.tmp 4) (.tmp 16) (o := 0) (vs := (trC ⟨#[]⟩ coZ 0 0 0 (.slice a1y n1y c1y) 0 0 5 (.slice a2y n2y c2y) 0)) ?_ ?_ KR8.out ?_ (szTr (trC_sz coZ_part)) (trC_one coZ_part rfl rfl) ?_
  · rfl
  · rfl
  · exact (fit_2 zTr_cells (trC_sz coZ_part) (by decide))
  (try simp only [Act.put])
  generalize World.setCells _ _ _ _ = w9 at KP9 KQ9 KR9 B9 ⊢
  clear B8 KP8 KQ8 KR8
  go_upto_region 4 with fail
  refine wp_region_lit ?_
  go_wp2_with fail
  refine (H4.out _ B9.out).mono ?_
  rintro e w10 ⟨⟨ad, cap, rfl, hO⟩, hb⟩
  have B10 := Lib.hid (B9.out.trans (hb.mono B9.out.size))
  have KP10 := Lib.hid (KP9.out.below hb KP9.out.lt)
  have KQ10 := Lib.hid (KQ9.out.below hb KQ9.out.lt)
  have KR10 := Lib.hid (KR9.out.below hb KR9.out.lt)
  have HL10 : Hid (RowS 20 w10 (.slice ad 2 cap) [mO 1 0 0 ⟨#[]⟩ cellsZ, mO 10 0 0 ⟨#[]⟩ cellsZ]) := Lib.hid (hO)
  clear hb
  clear B9 KP9 KQ9 KR9
  go_simp
  rename_i hKK
  refine hKK _ _ ?_
  clear hKK
  try simp only [pu, sB, s0, sS]
  iterate 5 ((with_reducible refine rN (v := ?_) ?_ ?_ ?_); rotate_left; (· rfl); (· go_simp; (try with_reducible rfl)); simp only [pu, sB, s0, sS])
  go_upto_region 5 with fail
  refine wp_region_lit ?_
  (with_reducible refine rN (v := ?_) ?_ ?_ ?_); rotate_left; (· rfl); (· go_simp; (try with_reducible rfl)); simp only [pu, sB, s0, sS]
  iterate 2 ((with_reducible refine rN (v := .bool true) ?_ ?_ ?_); (· rfl); (· go_simp; (try with_reducible rfl)); simp only [pu, sB, s0, sS])
  with_reducible refine wpList_loadS (.tmp 1) ?_ ?_ KP10.out Tryz.underlying39 ?_ (infoTMo20 (mO_sz cellsZ_size)) ?_
  · rfl
  · rfl
  · rfl
  simp only [pu, sB, s0, sS]
  (with_reducible refine rN (v := .agg (mO 13 2 (-1) ⟨#[]⟩ cellsZ)) ?_ ?_ ?_); (· rfl); (· refine run_buildOp _ [(0, .int .i64 13), (1, .int .i64 2), (2, .int .i64 (-1))] rfl ?_ built_X13; rfl); simp only [pu, sB, s0, sS]
  iterate 3 ((with_reducible refine rN (v := .bool true) ?_ ?_ ?_); (· rfl); (· go_simp; (try with_reducible rfl)); simp only [pu, sB, s0, sS])
  (with_reducible refine rN (v := .pointer (some ⟨pQ, 12, none⟩)) ?_ ?_ ?_); (· rfl); (· go_simp; (try rfl)); simp only [pu, sB, s0, sS]
  with_reducible refine wpList_loadV (.tmp 29) (j := 12) (v := .int .i64 3) ?_ ?_ KQ10.out ?_ Tryz.underlying3 ?_ ?_
  · rfl
  · rfl
  · exact trC_12 coZ_part
  · rfl
  simp only [pu, sB, s0, sS]
  iterate 3 ((with_reducible refine rN (v := .bool true) ?_ ?_ ?_); (· rfl); (· go_simp; (try with_reducible rfl)); simp only [pu, sB, s0, sS])
  (with_reducible refine rN (v := .pointer (some ⟨pQ, 13, none⟩)) ?_ ?_ ?_); (· rfl); (· go_simp; (try rfl)); simp only [pu, sB, s0, sS]
  with_reducible refine wpList_loadV (.tmp 34) (j := 13) (v := .int .i64 0) ?_ ?_ KQ10.out ?_ Tryz.underlying3 ?_ ?_
  · rfl
  · rfl
  · exact trC_13 coZ_part
  · rfl
  simp only [pu, sB, s0, sS]
  iterate 3 ((with_reducible refine rN (v := .bool true) ?_ ?_ ?_); (· rfl); (· go_simp; (try with_reducible rfl)); simp only [pu, sB, s0, sS])
  (with_reducible refine rN (v := .pointer (some ⟨pR, 14, none⟩)) ?_ ?_ ?_); (· rfl); (· go_simp; (try rfl)); simp only [pu, sB, s0, sS]
  with_reducible refine wpList_loadV (.tmp 39) (j := 14) (v := .int .i64 5) ?_ ?_ KR10.out ?_ Tryz.underlying3 ?_ ?_
  · rfl
  · rfl
  · exact trC_14 coZ_part
  · rfl
  simp only [pu, sB, s0, sS]
  iterate 3 ((with_reducible refine rN (v := .bool true) ?_ ?_ ?_); (· rfl); (· go_simp; (try with_reducible rfl)); simp only [pu, sB, s0, sS])
  (with_reducible refine rN (v := ?_) ?_ ?_ ?_); rotate_left; (· rfl); (· go_simp; (try with_reducible rfl)); simp only [pu, sB, s0, sS]
  iterate 3 ((with_reducible refine rN (v := .bool true) ?_ ?_ ?_); (· rfl); (· go_simp; (try with_reducible rfl)); simp only [pu, sB, s0, sS])
  iterate 2 ((with_reducible refine rN (v := ?_) ?_ ?_ ?_); rotate_left; (· rfl); (· go_simp; (try with_reducible rfl)); simp only [pu, sB, s0, sS])
  iterate 3 ((with_reducible refine rN (v := .bool true) ?_ ?_ ?_); (· rfl); (· go_simp; (try with_reducible rfl)); simp only [pu, sB, s0, sS])
  (with_reducible refine rN (v := ?_) ?_ ?_ ?_); rotate_left; (· rfl); (· go_simp; (try with_reducible rfl)); simp only [pu, sB, s0, sS]
  obtain ⟨lb, lo, rfl, hr⟩ := HL10.out.get (i := 1) (x := mO 10 0 0 ⟨#[]⟩ cellsZ) rfl
  have hc := hr 0 (.int .i64 10) (by rw [Array.getElem?_toList]; exact mO_0)
  clear hr
  (with_reducible refine rN (v := .pointer (some ⟨lb, lo + 1 * 20, none⟩)) ?_ ?_ ?_); (· rfl); (· go_simp; (try rfl)); simp only [pu, sB, s0, sS]
  (with_reducible refine rN (v := .pointer (some ⟨lb, lo + 1 * 20 + 0, none⟩)) ?_ ?_ ?_); (· rfl); (· go_simp; (try rfl)); simp only [pu, sB, s0, sS]
  with_reducible refine wpList_loadC (.tmp 55) (b := lb) (j := lo + 1 * 20 + 0) (v := .int .i64 10) ?_ ?_ hc Tryz.underlying3 ?_ ?_
  · rfl
  · rfl
  · rfl
  simp only [pu, sB, s0, sS]
  clear hc
  iterate 3 ((with_reducible refine rN (v := .bool true) ?_ ?_ ?_); (· rfl); (· go_simp; (try with_reducible rfl)); simp only [pu, sB, s0, sS])
  (with_reducible refine rN (v := .agg (mO 6 0 0 ⟨#[]⟩ cellsZ)) ?_ ?_ ?_); (· rfl); (· refine run_buildOp _ [(0, .int .i64 6)] rfl ?_ (built_kind 6); rfl); simp only [pu, sB, s0, sS]
  go_wp2_with fail
  refine (HT.out _ B10.out).mono ?_
  rintro e w11 ⟨rfl, hb⟩
  have B11 := Lib.hid (B10.out.trans (hb.mono B10.out.size))
  have KP11 := Lib.hid (KP10.out.below hb KP10.out.lt)
  have KQ11 := Lib.hid (KQ10.out.below hb KQ10.out.lt)
  have KR11 := Lib.hid (KR10.out.below hb KR10.out.lt)
  have HL11 := Lib.hid (HL10.out.below hb (Nat.le_refl _))
  clear hb
  clear B10 KP10 KQ10 KR10 HL10
  go_simp
  rename_i hKK
  refine hKK _ _ ?_
  clear hKK
  try simp only [pu, sB, s0, sS]
  iterate 3 ((with_reducible refine rN (v := .bool true) ?_ ?_ ?_); (· rfl); (· go_simp; (try with_reducible rfl)); simp only [pu, sB, s0, sS])
  go_wp2_with fail
  refine (HS.out _ B11.out).mono ?_
  rintro e w12 ⟨rfl, hb⟩
  have B12 := Lib.hid (B11.out.trans (hb.mono B11.out.size))
  have KP12 := Lib.hid (KP11.out.below hb KP11.out.lt)
  have KQ12 := Lib.hid (KQ11.out.below hb KQ11.out.lt)
  have KR12 := Lib.hid (KR11.out.below hb KR11.out.lt)
  have HL12 := Lib.hid (HL11.out.below hb (Nat.le_refl _))
  clear hb
  clear B11 KP11 KQ11 KR11 HL11
  go_simp
  rename_i hKK
  refine hKK _ _ ?_
  clear hKK
  try simp only [pu, sB, s0, sS]
  iterate 2 ((with_reducible refine rN (v := .bool true) ?_ ?_ ?_); (· rfl); (· go_simp; (try with_reducible rfl)); simp only [pu, sB, s0, sS])
  (with_reducible refine rN (v := .bool true) ?_ ?_ ?_); (· rfl); (· go_simp; (try with_reducible rfl)); simp only [pu, sB, s0]
  go_wp2_with fail
  go_ret
  exact ⟨rfl, B12.out⟩

set_option maxHeartbeats 8000000 in
set_option maxRecDepth 100000 in
theorem shortW (k n m : Int) (s : ByteArray) (f : Fil.Flt) (fs : ByteArray) (b1 b2 : Bool) (w : World)
    (h1 : decide ((s.size : Int) ≤ 100) = b1) (h2 : decide ((fs.size : Int) ≤ 100) = b2) :
    Calls Tryz.prog 23 #[.agg (mO k n m s (cellsF f fs))] w fun e w' => e = .returned (.bool (b1 && b2)) ∧ Below w.heap.size w w' := by

  have B0 := Lib.hid (Below.refl w.heap.size w)
  go_enter Tryz.func23, Tryz.ntmps23
  go_upto_region 0 with fail
  refine wp_region_lit ?_
  obtain ⟨w1, hw⟩ : ∃ v, v = w.alloc (.cells (mO k n m s (cellsF f fs)) 39) := ⟨_, rfl⟩
  obtain ⟨pA, hp⟩ : ∃ v, v = w.heap.size := ⟨_, rfl⟩
  have B1 : Hid (Below w.heap.size w w1) := Lib.hid (by rw [hw]; exact B0.out.alloc B0.out.size _)
  have LEA : Hid (w.heap.size ≤ pA) := Lib.hid (by rw [hp]; exact B0.out.size)
  have KA1 : Hid (Blk w1 pA (mO k n m s (cellsF f fs)) 39) := Lib.hid (by rw [hw, hp]; exact Blk.new _ _ _)
  with_reducible refine wpList_runWV (some 1) (v := .pointer (some ⟨pA, 0, none⟩)) (w' := w1) ?_ ?_ ?_ ?_
  · rfl
  · rfl
  · rw [hw, hp]; (go_simp; (try rfl))
  simp only [pu, sB, s0, sS]
  clear hw hp
  clear B0
  (with_reducible refine rN (v := .bool false) ?_ ?_ ?_); (· rfl); (· go_simp; (try with_reducible rfl)); simp only [pu, sB, s0, sS]
  cases b1 with
  | false =>
    go_upto_region 1 with fail
    refine wp_region_lit ?_
    (with_reducible refine rN (v := .pointer (some ⟨pA, 3, none⟩)) ?_ ?_ ?_); (· rfl); (· go_simp; (try rfl)); simp only [pu, sB, s0, sS]
    with_reducible refine wpList_loadV (.tmp 3) (j := 3) (v := .string s) ?_ ?_ KA1.out ?_ Tryz.underlying9 ?_ ?_
    · rfl
    · rfl
    · exact mO_3
    · rfl
    simp only [pu, sB, s0, sS]
    (with_reducible refine rN (v := ?_) ?_ ?_ ?_); rotate_left; (· rfl); (· go_simp; (try with_reducible rfl)); simp only [pu, sB, s0, sS]
    iterate 2 ((with_reducible refine rN (v := .bool false) ?_ ?_ ?_); (· rfl); (· go_simp; (try with_reducible rfl)); simp only [pu, sB, s0, sS])
    iterate 5 ((with_reducible refine kN ?_ ?_); (· rfl); simp only [pu, sB, s0, sS])
    iterate 2 ((with_reducible refine rN (v := .bool false) ?_ ?_ ?_); (· rfl); (· go_simp; (try with_reducible rfl)); simp only [pu, sB, s0, sS])
    go_wp2_with fail
    go_ret
    exact ⟨rfl, B1.out⟩
  | true =>
    cases b2 with
    | false =>
      go_upto_region 1 with fail
      refine wp_region_lit ?_
      (with_reducible refine rN (v := .pointer (some ⟨pA, 3, none⟩)) ?_ ?_ ?_); (· rfl); (· go_simp; (try rfl)); simp only [pu, sB, s0, sS]
      with_reducible refine wpList_loadV (.tmp 3) (j := 3) (v := .string s) ?_ ?_ KA1.out ?_ Tryz.underlying9 ?_ ?_
      · rfl
      · rfl
      · exact mO_3
      · rfl
      simp only [pu, sB, s0, sS]
      (with_reducible refine rN (v := ?_) ?_ ?_ ?_); rotate_left; (· rfl); (· go_simp; (try with_reducible rfl)); simp only [pu, sB, s0, sS]
      iterate 2 ((with_reducible refine rN (v := .bool true) ?_ ?_ ?_); (· rfl); (· go_simp; (try with_reducible rfl)); simp only [pu, sB, s0, sS])
      (with_reducible refine rN (v := .pointer (some ⟨pA, 4, none⟩)) ?_ ?_ ?_); (· rfl); (· go_simp; (try rfl)); simp only [pu, sB, s0, sS]
      (with_reducible refine rN (v := .pointer (some ⟨pA, 11, none⟩)) ?_ ?_ ?_); (· rfl); (· go_simp; (try rfl)); simp only [pu, sB, s0, sS]
      with_reducible refine wpList_loadV (.tmp 9) (j := 11) (v := .string fs) ?_ ?_ KA1.out ?_ Tryz.underlying9 ?_ ?_
      · rfl
      · rfl
      · exact (mO_f 7 _ rfl)
      · rfl
      simp only [pu, sB, s0, sS]
      (with_reducible refine rN (v := ?_) ?_ ?_ ?_); rotate_left; (· rfl); (· go_simp; (try with_reducible rfl)); simp only [pu, sB, s0, sS]
      iterate 3 ((with_reducible refine rN (v := .bool false) ?_ ?_ ?_); (· rfl); (· go_simp; (try with_reducible rfl)); simp only [pu, sB, s0, sS])
      go_wp2_with fail
      go_ret
      exact ⟨rfl, B1.out⟩
    | true =>
      go_upto_region 1 with fail
      refine wp_region_lit ?_
      (with_reducible refine rN (v := .pointer (some ⟨pA, 3, none⟩)) ?_ ?_ ?_); (· rfl); (· go_simp; (try rfl)); simp only [pu, sB, s0, sS]
      with_reducible refine wpList_loadV (.tmp 3) (j := 3) (v := .string s) ?_ ?_ KA1.out ?_ Tryz.underlying9 ?_ ?_
      · rfl
      · rfl
      · exact mO_3
      · rfl
      simp only [pu, sB, s0, sS]
      (with_reducible refine rN (v := ?_) ?_ ?_ ?_); rotate_left; (· rfl); (· go_simp; (try with_reducible rfl)); simp only [pu, sB, s0, sS]
      iterate 2 ((with_reducible refine rN (v := .bool true) ?_ ?_ ?_); (· rfl); (· go_simp; (try with_reducible rfl)); simp only [pu, sB, s0, sS])
      (with_reducible refine rN (v := .pointer (some ⟨pA, 4, none⟩)) ?_ ?_ ?_); (· rfl); (· go_simp; (try rfl)); simp only [pu, sB, s0, sS]
      (with_reducible refine rN (v := .pointer (some ⟨pA, 11, none⟩)) ?_ ?_ ?_); (· rfl); (· go_simp; (try rfl)); simp only [pu, sB, s0, sS]
      with_reducible refine wpList_loadV (.tmp 9) (j := 11) (v := .string fs) ?_ ?_ KA1.out ?_ Tryz.underlying9 ?_ ?_
      · rfl
      · rfl
      · exact (mO_f 7 _ rfl)
      · rfl
      simp only [pu, sB, s0, sS]
      (with_reducible refine rN (v := ?_) ?_ ?_ ?_); rotate_left; (· rfl); (· go_simp; (try with_reducible rfl)); simp only [pu, sB, s0, sS]
      iterate 3 ((with_reducible refine rN (v := .bool true) ?_ ?_ ?_); (· rfl); (· go_simp; (try with_reducible rfl)); simp only [pu, sB, s0, sS])
      go_wp2_with fail
      go_ret
      exact ⟨rfl, B1.out⟩
end Go.Proofs.YtbcgkeclmioeiaaGreatDoor
namespace Go.Proofs.YtbcgkeclmioeiaaGreatDoor
open Go.RowKit
open Wd (Bs)

set_option maxHeartbeats 8000000 in
set_option maxRecDepth 100000 in
theorem rdS13 (r p t : ByteArray) (c d e2 : Bool) (x y : Int) (w : World)
    (HC : Hid (∀ W, Below w.heap.size w W → Calls Tryz.prog 48 #[.string r, .string ⟨#[47]⟩] W fun e w' => e = .returned (.tuple #[.string p, .string t, .bool c]) ∧ Below W.heap.size W w')) (HP : Hid (∀ W, Below w.heap.size w W → Calls Tryz.prog 131 #[.string p] W fun e w' => e = .returned (.tuple #[.int .i64 x, .bool d]) ∧ Below W.heap.size W w')) (HT : Hid (∀ W, Below w.heap.size w W → Calls Tryz.prog 131 #[.string t] W fun e w' => e = .returned (.tuple #[.int .i64 y, .bool e2]) ∧ Below W.heap.size W w')) :
    Calls Tryz.prog 90 #[.int .i64 13, .string r] w fun e w' => e = .returned (.agg (mO 13 x y ⟨#[]⟩ cellsZ)) ∧ Below w.heap.size w w' := by

  have B0 := Lib.hid (Below.refl w.heap.size w)
  go_enter Tryz.func90, Tryz.ntmps90
  go_upto_region 0 with fail
  refine wp_region_lit ?_
  obtain ⟨w1, hw⟩ : ∃ v, v = w.alloc (.cells (mO 0 0 0 ⟨#[]⟩ cellsZ) 39) := ⟨_, rfl⟩
  obtain ⟨pR, hp⟩ : ∃ v, v = w.heap.size := ⟨_, rfl⟩
  have B1 : Hid (Below w.heap.size w w1) := Lib.hid (by rw [hw]; exact B0.out.alloc B0.out.size _)
  have LER : Hid (w.heap.size ≤ pR) := Lib.hid (by rw [hp]; exact B0.out.size)
  have KR1 : Hid (Blk w1 pR (mO 0 0 0 ⟨#[]⟩ cellsZ) 39) := Lib.hid (by rw [hw, hp]; exact Blk.new _ _ _)
  with_reducible refine wpList_runWV (some 4) (v := .pointer (some ⟨pR, 0, none⟩)) (w' := w1) ?_ ?_ ?_ ?_
  · rfl
  · rfl
  · rw [hw, hp]; (go_simp; (try rfl))
  simp only [pu, sB, s0, sS]
  clear hw hp
  clear B0
  go_upto_region 1 with fail
  refine wp_region_lit ?_
  (with_reducible refine rN (v := ?_) ?_ ?_ ?_); rotate_left; (· rfl); (· go_simp; (try with_reducible rfl)); simp only [pu, sB, s0, sS]
  (with_reducible refine rN (v := .agg (mO 13 0 0 ⟨#[]⟩ cellsZ)) ?_ ?_ ?_); (· rfl); (· refine run_buildOp _ [(0, .int .i64 13)] rfl ?_ (built_kind 13); rfl); simp only [pu, sB, s0, sS]
  obtain ⟨w2, hw⟩ : ∃ v, v = w1.alloc (.cells (mO 0 0 0 ⟨#[]⟩ cellsZ) 39) := ⟨_, rfl⟩
  obtain ⟨pM, hp⟩ : ∃ v, v = w1.heap.size := ⟨_, rfl⟩
  have B2 : Hid (Below w.heap.size w w2) := Lib.hid (by rw [hw]; exact B1.out.alloc B1.out.size _)
  have LEM : Hid (w.heap.size ≤ pM) := Lib.hid (by rw [hp]; exact B1.out.size)
  have KR2 := Lib.hid (show Blk w2 pR (mO 0 0 0 ⟨#[]⟩ cellsZ) 39 by rw [hw]; exact KR1.out.alloc _)
  have NERM : Hid (pR ≠ pM) := Lib.hid (by rw [hp]; exact Nat.ne_of_lt KR1.out.lt)
  have NEMR : Hid (pM ≠ pR) := Lib.hid (Ne.symm NERM.out)
  have KM2 : Hid (Blk w2 pM (mO 0 0 0 ⟨#[]⟩ cellsZ) 39) := Lib.hid (by rw [hw, hp]; exact Blk.new _ _ _)
  with_reducible refine wpList_runWV (some 5) (v := .pointer (some ⟨pM, 0, none⟩)) (w' := w2) ?_ ?_ ?_ ?_
  · rfl
  · rfl
  · rw [hw, hp]; (go_simp; (try rfl))
  simp only [pu, sB, s0, sS]
  clear hw hp
  clear B1 KR1
  have KM3 := Lib.hid (KM2.out.stored (o := 0) (vs := (mO 13 0 0 ⟨#[]⟩ cellsZ).toList) (cs' := (mO 13 0 0 ⟨#[]⟩ cellsZ)) (laid_all (mO_sz cellsZ_size) (mO_sz cellsZ_size)))
  have KR3 := Lib.hid (KR2.out.wholeElse ((mO 13 0 0 ⟨#[]⟩ cellsZ).toList) (o := 0) NERM.out)
  have B3 := Lib.hid (below_whole ((mO 13 0 0 ⟨#[]⟩ cellsZ).toList) (o := 0) B2.out LEM.out)
  with_reducible refine wpList_storeM (.tmp 5) (.tmp 10) (o := 0) (vs := (mO 13 0 0 ⟨#[]⟩ cellsZ)) ?_ ?_ KM2.out ?_ (infoTMo20 (mO_sz cellsZ_size)) (mO_one cellsZ_one) ?_
  · rfl
  · rfl
  · exact (fit_2 (mO_sz cellsZ_size) (mO_sz cellsZ_size) (by decide))
  (try simp only [Act.put])
  generalize World.setCells _ _ _ _ = w3 at KR3 KM3 B3 ⊢
  clear B2 KR2 KM2
  go_upto_region 2 with fail
  refine wp_region_lit ?_
  (with_reducible refine rN (v := ?_) ?_ ?_ ?_); rotate_left; (· rfl); (· go_simp; (try with_reducible rfl)); simp only [pu, sB, s0, sS]
  go_upto_region 3 with fail
  refine wp_region_lit ?_
  iterate 2 ((with_reducible refine rN (v := .bool false) ?_ ?_ ?_); (· rfl); (· go_simp; (try with_reducible rfl)); simp only [pu, sB, s0, sS])
  go_upto_region 4 with fail
  refine wp_region_lit ?_
  iterate 2 ((with_reducible refine rN (v := .bool false) ?_ ?_ ?_); (· rfl); (· go_simp; (try with_reducible rfl)); simp only [pu, sB, s0, sS])
  go_upto_region 6 with fail
  refine wp_region_lit ?_
  iterate 2 ((with_reducible refine rN (v := .bool false) ?_ ?_ ?_); (· rfl); (· go_simp; (try with_reducible rfl)); simp only [pu, sB, s0, sS])
  go_upto_region 7 with fail
  refine wp_region_lit ?_
  iterate 2 ((with_reducible refine rN (v := .bool false) ?_ ?_ ?_); (· rfl); (· go_simp; (try with_reducible rfl)); simp only [pu, sB, s0, sS])
  go_upto_region 9 with fail
  refine wp_region_lit ?_
  iterate 2 ((with_reducible refine rN (v := .bool false) ?_ ?_ ?_); (· rfl); (· go_simp; (try with_reducible rfl)); simp only [pu, sB, s0, sS])
  go_upto_region 10 with fail
  refine wp_region_lit ?_
  iterate 2 ((with_reducible refine rN (v := .bool false) ?_ ?_ ?_); (· rfl); (· go_simp; (try with_reducible rfl)); simp only [pu, sB, s0, sS])
  go_upto_region 12 with fail
  refine wp_region_lit ?_
  iterate 2 ((with_reducible refine rN (v := .bool false) ?_ ?_ ?_); (· rfl); (· go_simp; (try with_reducible rfl)); simp only [pu, sB, s0, sS])
  go_upto_region 13 with fail
  refine wp_region_lit ?_
  iterate 2 ((with_reducible refine rN (v := .bool false) ?_ ?_ ?_); (· rfl); (· go_simp; (try with_reducible rfl)); simp only [pu, sB, s0, sS])
  go_upto_region 15 with fail
  refine wp_region_lit ?_
  iterate 2 ((with_reducible refine rN (v := .bool false) ?_ ?_ ?_); (· rfl); (· go_simp; (try with_reducible rfl)); simp only [pu, sB, s0, sS])
  go_upto_region 17 with fail
  refine wp_region_lit ?_
  iterate 2 ((with_reducible refine rN (v := .bool false) ?_ ?_ ?_); (· rfl); (· go_simp; (try with_reducible rfl)); simp only [pu, sB, s0, sS])
  go_upto_region 18 with fail
  refine wp_region_lit ?_
  iterate 2 ((with_reducible refine rN (v := .bool true) ?_ ?_ ?_); (· rfl); (· go_simp; (try with_reducible rfl)); simp only [pu, sB, s0, sS])
  go_upto_region 19 with fail
  refine wp_region_lit ?_
  (with_reducible refine rN (v := ?_) ?_ ?_ ?_); rotate_left; (· rfl); (· go_simp; (try with_reducible rfl)); simp only [pu, sB, s0, sS]
  go_wp2_with fail
  refine (HC.out _ B3.out).mono ?_
  rintro e w4 ⟨rfl, hb⟩
  have B4 := Lib.hid (B3.out.trans (hb.mono B3.out.size))
  have KR4 := Lib.hid (KR3.out.below hb KR3.out.lt)
  have KM4 := Lib.hid (KM3.out.below hb KM3.out.lt)
  clear hb
  clear B3 KR3 KM3
  go_simp
  rename_i hKK
  refine hKK _ _ ?_
  clear hKK
  try simp only [pu, sB, s0, sS]
  iterate 7 ((with_reducible refine rN (v := ?_) ?_ ?_ ?_); rotate_left; (· rfl); (· go_simp; (try with_reducible rfl)); simp only [pu, sB, s0, sS])
  go_upto_region 20 with fail
  refine wp_region_lit ?_
  (with_reducible refine rN (v := ?_) ?_ ?_ ?_); rotate_left; (· rfl); (· go_simp; (try with_reducible rfl)); simp only [pu, sB, s0, sS]
  go_wp2_with fail
  refine (HP.out _ B4.out).mono ?_
  rintro e w5 ⟨rfl, hb⟩
  have B5 := Lib.hid (B4.out.trans (hb.mono B4.out.size))
  have KR5 := Lib.hid (KR4.out.below hb KR4.out.lt)
  have KM5 := Lib.hid (KM4.out.below hb KM4.out.lt)
  clear hb
  clear B4 KR4 KM4
  go_simp
  rename_i hKK
  refine hKK _ _ ?_
  clear hKK
  try simp only [pu, sB, s0, sS]
  iterate 3 ((with_reducible refine rN (v := ?_) ?_ ?_ ?_); rotate_left; (· rfl); (· go_simp; (try with_reducible rfl)); simp only [pu, sB, s0, sS])
  (with_reducible refine rN (v := .pointer (some ⟨pM, 1, none⟩)) ?_ ?_ ?_); (· rfl); (· go_simp; (try rfl)); simp only [pu, sB, s0, sS]
  have KM6 := Lib.hid (KM5.out.stored (o := 1) (vs := [.int .i64 x]) (cs' := (mO 13 x 0 ⟨#[]⟩ cellsZ)) (mO_p1))
  have KR6 := Lib.hid (KR5.out.wholeElse ([.int .i64 x]) (o := 1) NERM.out)
  have B6 := Lib.hid (below_whole ([.int .i64 x]) (o := 1) B5.out LEM.out)
  with_reducible refine wpList_storeV (.tmp 67) (.tmp 65) (j := 1) (v := .int .i64 x) ?_ ?_ KM5.out ?_ (by kernel_rfl) (by simp [Value.oneCell']) ?_
  · rfl
  · rfl
  · exact (fit_1 (mO_sz cellsZ_size) (by decide))
  (try simp only [Act.put])
  generalize World.setCells _ _ _ _ = w6 at KR6 KM6 B6 ⊢
  clear B5 KR5 KM5
  go_upto_region 21 with fail
  refine wp_region_lit ?_
  (with_reducible refine rN (v := ?_) ?_ ?_ ?_); rotate_left; (· rfl); (· go_simp; (try with_reducible rfl)); simp only [pu, sB, s0, sS]
  go_wp2_with fail
  refine (HT.out _ B6.out).mono ?_
  rintro e w7 ⟨rfl, hb⟩
  have B7 := Lib.hid (B6.out.trans (hb.mono B6.out.size))
  have KR7 := Lib.hid (KR6.out.below hb KR6.out.lt)
  have KM7 := Lib.hid (KM6.out.below hb KM6.out.lt)
  clear hb
  clear B6 KR6 KM6
  go_simp
  rename_i hKK
  refine hKK _ _ ?_
  clear hKK
  try simp only [pu, sB, s0, sS]
  iterate 3 ((with_reducible refine rN (v := ?_) ?_ ?_ ?_); rotate_left; (· rfl); (· go_simp; (try with_reducible rfl)); simp only [pu, sB, s0, sS])
  (with_reducible refine rN (v := .pointer (some ⟨pM, 2, none⟩)) ?_ ?_ ?_); (· rfl); (· go_simp; (try rfl)); simp only [pu, sB, s0, sS]
  have KM8 := Lib.hid (KM7.out.stored (o := 2) (vs := [.int .i64 y]) (cs' := (mO 13 x y ⟨#[]⟩ cellsZ)) (mO_p2))
  have KR8 := Lib.hid (KR7.out.wholeElse ([.int .i64 y]) (o := 2) NERM.out)
  have B8 := Lib.hid (below_whole ([.int .i64 y]) (o := 2) B7.out LEM.out)
  with_reducible refine wpList_storeV (.tmp 73) (.tmp 71) (j := 2) (v := .int .i64 y) ?_ ?_ KM7.out ?_ (by kernel_rfl) (by simp [Value.oneCell']) ?_
  · rfl
  · rfl
  · exact (fit_1 (mO_sz cellsZ_size) (by decide))
  (try simp only [Act.put])
  generalize World.setCells _ _ _ _ = w8 at KR8 KM8 B8 ⊢
  clear B7 KR7 KM7
  go_upto_region 22 with fail
  refine wp_region_lit ?_
  with_reducible refine wpList_loadS (.tmp 5) ?_ ?_ KM8.out Tryz.underlying39 ?_ (infoTMo20 (mO_sz cellsZ_size)) ?_
  · rfl
  · rfl
  · rfl
  simp only [pu, sB, s0, sS]
  have KR9 := Lib.hid (KR8.out.stored (o := 0) (vs := (mO 13 x y ⟨#[]⟩ cellsZ).toList) (cs' := (mO 13 x y ⟨#[]⟩ cellsZ)) (laid_all (mO_sz cellsZ_size) (mO_sz cellsZ_size)))
  have KM9 := Lib.hid (KM8.out.wholeElse ((mO 13 x y ⟨#[]⟩ cellsZ).toList) (o := 0) NEMR.out)
  have B9 := Lib.hid (below_whole ((mO 13 x y ⟨#[]⟩ cellsZ).toList) (o := 0) B8.out LER.out)
  with_reducible refine wpList_storeM (.tmp 4) (.tmp 74) (o := 0) (vs := (mO 13 x y ⟨#[]⟩ cellsZ)) ?_ ?_ KR8.out ?_ (infoTMo20 (mO_sz cellsZ_size)) (mO_one cellsZ_one) ?_
  · rfl
  · rfl
  · exact (fit_2 (mO_sz cellsZ_size) (mO_sz cellsZ_size) (by decide))
  (try simp only [Act.put])
  generalize World.setCells _ _ _ _ = w9 at KR9 KM9 B9 ⊢
  clear B8 KR8 KM8
  have hL := KR9.out.readS Tryz.underlying39 rfl (infoTMo20 (mO_sz cellsZ_size))
  go_wp2_with fail
  exact bodyPost_ret (v := .agg (mO 13 x y ⟨#[]⟩ cellsZ)) (results_cell Tryz.results90 (by rfl) hL) rfl ⟨rfl, B9.out⟩

set_option maxHeartbeats 8000000 in
set_option maxRecDepth 100000 in
theorem rdSk (k : Int) (r : ByteArray) (w : World)
    (h2 : (k == 2) = false) (h3 : (k == 3) = false) (h4 : (k == 4) = false) (h5 : (k == 5) = false) (h6 : (k == 6) = false) (h7 : (k == 7) = false) (h8 : (k == 8) = false) (h9 : (k == 9) = false) (h11 : (k == 11) = false) (h12 : (k == 12) = false) (h13 : (k == 13) = false) :
    Calls Tryz.prog 90 #[.int .i64 k, .string r] w fun e w' => e = .returned (.agg (mO k 0 0 ⟨#[]⟩ cellsZ)) ∧ Below w.heap.size w w' := by

  have B0 := Lib.hid (Below.refl w.heap.size w)
  go_enter Tryz.func90, Tryz.ntmps90
  go_upto_region 0 with fail
  refine wp_region_lit ?_
  obtain ⟨w1, hw⟩ : ∃ v, v = w.alloc (.cells (mO 0 0 0 ⟨#[]⟩ cellsZ) 39) := ⟨_, rfl⟩
  obtain ⟨pR, hp⟩ : ∃ v, v = w.heap.size := ⟨_, rfl⟩
  have B1 : Hid (Below w.heap.size w w1) := Lib.hid (by rw [hw]; exact B0.out.alloc B0.out.size _)
  have LER : Hid (w.heap.size ≤ pR) := Lib.hid (by rw [hp]; exact B0.out.size)
  have KR1 : Hid (Blk w1 pR (mO 0 0 0 ⟨#[]⟩ cellsZ) 39) := Lib.hid (by rw [hw, hp]; exact Blk.new _ _ _)
  with_reducible refine wpList_runWV (some 4) (v := .pointer (some ⟨pR, 0, none⟩)) (w' := w1) ?_ ?_ ?_ ?_
  · rfl
  · rfl
  · rw [hw, hp]; (go_simp; (try rfl))
  simp only [pu, sB, s0, sS]
  clear hw hp
  clear B0
  go_upto_region 1 with fail
  refine wp_region_lit ?_
  (with_reducible refine rN (v := ?_) ?_ ?_ ?_); rotate_left; (· rfl); (· go_simp; (try with_reducible rfl)); simp only [pu, sB, s0, sS]
  (with_reducible refine rN (v := .agg (mO k 0 0 ⟨#[]⟩ cellsZ)) ?_ ?_ ?_); (· rfl); (· refine run_buildOp _ [(0, .int .i64 k)] rfl ?_ (built_kind k); rfl); simp only [pu, sB, s0, sS]
  obtain ⟨w2, hw⟩ : ∃ v, v = w1.alloc (.cells (mO 0 0 0 ⟨#[]⟩ cellsZ) 39) := ⟨_, rfl⟩
  obtain ⟨pM, hp⟩ : ∃ v, v = w1.heap.size := ⟨_, rfl⟩
  have B2 : Hid (Below w.heap.size w w2) := Lib.hid (by rw [hw]; exact B1.out.alloc B1.out.size _)
  have LEM : Hid (w.heap.size ≤ pM) := Lib.hid (by rw [hp]; exact B1.out.size)
  have KR2 := Lib.hid (show Blk w2 pR (mO 0 0 0 ⟨#[]⟩ cellsZ) 39 by rw [hw]; exact KR1.out.alloc _)
  have NERM : Hid (pR ≠ pM) := Lib.hid (by rw [hp]; exact Nat.ne_of_lt KR1.out.lt)
  have NEMR : Hid (pM ≠ pR) := Lib.hid (Ne.symm NERM.out)
  have KM2 : Hid (Blk w2 pM (mO 0 0 0 ⟨#[]⟩ cellsZ) 39) := Lib.hid (by rw [hw, hp]; exact Blk.new _ _ _)
  with_reducible refine wpList_runWV (some 5) (v := .pointer (some ⟨pM, 0, none⟩)) (w' := w2) ?_ ?_ ?_ ?_
  · rfl
  · rfl
  · rw [hw, hp]; (go_simp; (try rfl))
  simp only [pu, sB, s0, sS]
  clear hw hp
  clear B1 KR1
  have KM3 := Lib.hid (KM2.out.stored (o := 0) (vs := (mO k 0 0 ⟨#[]⟩ cellsZ).toList) (cs' := (mO k 0 0 ⟨#[]⟩ cellsZ)) (laid_all (mO_sz cellsZ_size) (mO_sz cellsZ_size)))
  have KR3 := Lib.hid (KR2.out.wholeElse ((mO k 0 0 ⟨#[]⟩ cellsZ).toList) (o := 0) NERM.out)
  have B3 := Lib.hid (below_whole ((mO k 0 0 ⟨#[]⟩ cellsZ).toList) (o := 0) B2.out LEM.out)
  with_reducible refine wpList_storeM (.tmp 5) (.tmp 10) (o := 0) (vs := (mO k 0 0 ⟨#[]⟩ cellsZ)) ?_ ?_ KM2.out ?_ (infoTMo20 (mO_sz cellsZ_size)) (mO_one cellsZ_one) ?_
  · rfl
  · rfl
  · exact (fit_2 (mO_sz cellsZ_size) (mO_sz cellsZ_size) (by decide))
  (try simp only [Act.put])
  generalize World.setCells _ _ _ _ = w3 at KR3 KM3 B3 ⊢
  clear B2 KR2 KM2
  go_upto_region 2 with fail
  refine wp_region_lit ?_
  (with_reducible refine rN (v := ?_) ?_ ?_ ?_); rotate_left; (· rfl); (· go_simp; (try with_reducible rfl)); simp only [pu, sB, s0, sS]
  go_upto_region 3 with fail
  refine wp_region_lit ?_
  iterate 2 ((with_reducible refine rN (v := .bool false) ?_ ?_ ?_); (· rfl); (· go_simp; (try with_reducible rfl)); simp only [pu, sB, s0, sS])
  go_upto_region 4 with fail
  refine wp_region_lit ?_
  iterate 2 ((with_reducible refine rN (v := .bool false) ?_ ?_ ?_); (· rfl); (· go_simp; (try with_reducible rfl)); simp only [pu, sB, s0, sS])
  go_upto_region 6 with fail
  refine wp_region_lit ?_
  iterate 2 ((with_reducible refine rN (v := .bool false) ?_ ?_ ?_); (· rfl); (· go_simp; (try with_reducible rfl)); simp only [pu, sB, s0, sS])
  go_upto_region 7 with fail
  refine wp_region_lit ?_
  iterate 2 ((with_reducible refine rN (v := .bool false) ?_ ?_ ?_); (· rfl); (· go_simp; (try with_reducible rfl)); simp only [pu, sB, s0, sS])
  go_upto_region 9 with fail
  refine wp_region_lit ?_
  iterate 2 ((with_reducible refine rN (v := .bool false) ?_ ?_ ?_); (· rfl); (· go_simp; (try with_reducible rfl)); simp only [pu, sB, s0, sS])
  go_upto_region 10 with fail
  refine wp_region_lit ?_
  iterate 2 ((with_reducible refine rN (v := .bool false) ?_ ?_ ?_); (· rfl); (· go_simp; (try with_reducible rfl)); simp only [pu, sB, s0, sS])
  go_upto_region 12 with fail
  refine wp_region_lit ?_
  iterate 2 ((with_reducible refine rN (v := .bool false) ?_ ?_ ?_); (· rfl); (· go_simp; (try with_reducible rfl)); simp only [pu, sB, s0, sS])
  go_upto_region 13 with fail
  refine wp_region_lit ?_
  iterate 2 ((with_reducible refine rN (v := .bool false) ?_ ?_ ?_); (· rfl); (· go_simp; (try with_reducible rfl)); simp only [pu, sB, s0, sS])
  go_upto_region 15 with fail
  refine wp_region_lit ?_
  iterate 2 ((with_reducible refine rN (v := .bool false) ?_ ?_ ?_); (· rfl); (· go_simp; (try with_reducible rfl)); simp only [pu, sB, s0, sS])
  go_upto_region 17 with fail
  refine wp_region_lit ?_
  iterate 2 ((with_reducible refine rN (v := .bool false) ?_ ?_ ?_); (· rfl); (· go_simp; (try with_reducible rfl)); simp only [pu, sB, s0, sS])
  go_upto_region 18 with fail
  refine wp_region_lit ?_
  iterate 2 ((with_reducible refine rN (v := .bool false) ?_ ?_ ?_); (· rfl); (· go_simp; (try with_reducible rfl)); simp only [pu, sB, s0, sS])
  go_upto_region 22 with fail
  refine wp_region_lit ?_
  with_reducible refine wpList_loadS (.tmp 5) ?_ ?_ KM3.out Tryz.underlying39 ?_ (infoTMo20 (mO_sz cellsZ_size)) ?_
  · rfl
  · rfl
  · rfl
  simp only [pu, sB, s0, sS]
  have KR4 := Lib.hid (KR3.out.stored (o := 0) (vs := (mO k 0 0 ⟨#[]⟩ cellsZ).toList) (cs' := (mO k 0 0 ⟨#[]⟩ cellsZ)) (laid_all (mO_sz cellsZ_size) (mO_sz cellsZ_size)))
  have KM4 := Lib.hid (KM3.out.wholeElse ((mO k 0 0 ⟨#[]⟩ cellsZ).toList) (o := 0) NEMR.out)
  have B4 := Lib.hid (below_whole ((mO k 0 0 ⟨#[]⟩ cellsZ).toList) (o := 0) B3.out LER.out)
  with_reducible refine wpList_storeM (.tmp 4) (.tmp 74) (o := 0) (vs := (mO k 0 0 ⟨#[]⟩ cellsZ)) ?_ ?_ KR3.out ?_ (infoTMo20 (mO_sz cellsZ_size)) (mO_one cellsZ_one) ?_
  · rfl
  · rfl
  · exact (fit_2 (mO_sz cellsZ_size) (mO_sz cellsZ_size) (by decide))
  (try simp only [Act.put])
  generalize World.setCells _ _ _ _ = w4 at KR4 KM4 B4 ⊢
  clear B3 KR3 KM3
  have hL := KR4.out.readS Tryz.underlying39 rfl (infoTMo20 (mO_sz cellsZ_size))
  go_wp2_with fail
  exact bodyPost_ret (v := .agg (mO k 0 0 ⟨#[]⟩ cellsZ)) (results_cell Tryz.results90 (by rfl) hL) rfl ⟨rfl, B4.out⟩

set_option maxRecDepth 100000 in
theorem nilStr (w : World) : Calls Tryz.prog 105 #[.slice none 0 0] w fun e w' => e = .returned (.slice none 0 0) ∧ Below w.heap.size w w' := by
  have q : ∀ (w : World) (a : Option Addr) (n c n' c' : Nat), (binOp .eql 51 (.slice a n c) (.slice none n' c')).run Tryz.prog w = .ok (.bool a.isNone) w := fun w a n c n' c' => Lib.run_eql_slice_nil w _ _ a n c n' c' Tryz.underlying51
  go_enter Tryz.func105, Tryz.ntmps105
  go_wp2
  go_ret
  exact ⟨rfl, Below.refl _ _⟩

set_option maxRecDepth 100000 in
theorem nilAb (w : World) : Calls Tryz.prog 153 #[.slice none 0 0] w fun e w' => e = .returned (.slice none 0 0) ∧ Below w.heap.size w w' := by
  have q : ∀ (w : World) (a : Option Addr) (n c n' c' : Nat), (binOp .eql 54 (.slice a n c) (.slice none n' c')).run Tryz.prog w = .ok (.bool a.isNone) w := fun w a n c n' c' => Lib.run_eql_slice_nil w _ _ a n c n' c' Tryz.underlying54
  go_enter Tryz.func153, Tryz.ntmps153
  go_wp2
  go_ret
  exact ⟨rfl, Below.refl _ _⟩

set_option maxHeartbeats 4000000 in
set_option maxRecDepth 100000 in
theorem nilEach (w : World) : Calls Tryz.prog 106 #[.slice none 0 0, .func (.func 107) #[] #[]] w fun e w' => e = .returned (.slice none 0 0) ∧ Below w.heap.size w w' := by

  have B0 := Lib.hid (Below.refl w.heap.size w)
  go_enter Tryz.func106, Tryz.ntmps106
  go_upto_region 0 with fail
  refine wp_region_lit ?_
  (with_reducible refine rN (v := ?_) ?_ ?_ ?_); rotate_left; (· rfl); (· go_simp; (try with_reducible rfl)); simp only [pu, sB, s0, sS]
  go_upto_region 1 with fail
  refine wp_region_lit ?_
  (with_reducible refine rN (v := ?_) ?_ ?_ ?_); rotate_left; (· rfl); (· go_simp; (try with_reducible rfl)); simp only [pu, sB, s0, sS]
  go_wp2_with fail
  refine (nilAb _).mono ?_
  rintro e w1 ⟨rfl, hb⟩
  have B1 := Lib.hid (B0.out.trans (hb.mono B0.out.size))
  clear hb
  clear B0
  go_simp
  rename_i hKK
  refine hKK _ _ ?_
  clear hKK
  try simp only [pu, sB, s0, sS]
  (with_reducible refine rN (v := ?_) ?_ ?_ ?_); rotate_left; (· rfl); (· go_simp; (try with_reducible rfl)); simp only [pu, sB, s0]
  go_upto_region 2 with fail
  refine wp_region_lit ?_
  iterate 3 ((with_reducible refine rN (v := ?_) ?_ ?_ ?_); rotate_left; (· rfl); (· go_simp; (try with_reducible rfl)); simp only [pu, sB, s0, sS])
  go_wp2_with fail
  go_loopw [5, 6, 11] (fun v5 v6 iv wr => iv = .int .i64 0 ∧ Hid (Below w.heap.size w wr)) (fun _ _ _ _ => 0)
  case atStart => exact ⟨rfl, B1⟩
  case round =>
    obtain ⟨rfl, B90⟩ := hrel
    go_upto_region 3 with fail
    refine wp_region_lit ?_
    (with_reducible refine rN (v := .bool false) ?_ ?_ ?_); (· rfl); (· go_simp; (try with_reducible rfl)); simp only [pu, sB, s0, sS]
    go_upto_region 7 with fail
    refine wp_region_lit ?_
    iterate 2 ((with_reducible refine rN (v := ?_) ?_ ?_ ?_); rotate_left; (· rfl); (· go_simp; (try with_reducible rfl)); simp only [pu, sB, s0, sS])
    go_wp2_with fail
    go_ret
    exact ⟨rfl, B90.out⟩

set_option maxHeartbeats 8000000 in
set_option maxRecDepth 100000 in
theorem nilTraits (nm : ByteArray) (co : Array Value) (p t k : Int) (w : World)
    (hco : Part 50 7 co) :
    Calls Tryz.prog 53 #[.agg (trC nm co 0 0 0 (.slice none 0 0) p t k (.slice none 0 0) 0)] w fun e w' => e = .returned (.agg (trC nm co 0 0 0 (.slice none 0 0) p t k (.slice none 0 0) 0)) ∧ Below w.heap.size w w' := by

  have B0 := Lib.hid (Below.refl w.heap.size w)
  go_enter Tryz.func53, Tryz.ntmps53
  go_upto_region 0 with fail
  refine wp_region_lit ?_
  obtain ⟨w1, hw⟩ : ∃ v, v = w.alloc (.cells (trC nm co 0 0 0 (.slice none 0 0) p t k (.slice none 0 0) 0) 56) := ⟨_, rfl⟩
  obtain ⟨pT, hp⟩ : ∃ v, v = w.heap.size := ⟨_, rfl⟩
  have B1 : Hid (Below w.heap.size w w1) := Lib.hid (by rw [hw]; exact B0.out.alloc B0.out.size _)
  have LET : Hid (w.heap.size ≤ pT) := Lib.hid (by rw [hp]; exact B0.out.size)
  have KT1 : Hid (Blk w1 pT (trC nm co 0 0 0 (.slice none 0 0) p t k (.slice none 0 0) 0) 56) := Lib.hid (by rw [hw, hp]; exact Blk.new _ _ _)
  with_reducible refine wpList_runWV (some 1) (v := .pointer (some ⟨pT, 0, none⟩)) (w' := w1) ?_ ?_ ?_ ?_
  · rfl
  · rfl
  · rw [hw, hp]; (go_simp; (try rfl))
  simp only [pu, sB, s0, sS]
  clear hw hp
  clear B0
  obtain ⟨w2, hw⟩ : ∃ v, v = w1.alloc (.cells zTr.cells 56) := ⟨_, rfl⟩
  obtain ⟨pR, hp⟩ : ∃ v, v = w1.heap.size := ⟨_, rfl⟩
  have B2 : Hid (Below w.heap.size w w2) := Lib.hid (by rw [hw]; exact B1.out.alloc B1.out.size _)
  have LER : Hid (w.heap.size ≤ pR) := Lib.hid (by rw [hp]; exact B1.out.size)
  have KT2 := Lib.hid (show Blk w2 pT (trC nm co 0 0 0 (.slice none 0 0) p t k (.slice none 0 0) 0) 56 by rw [hw]; exact KT1.out.alloc _)
  have NETR : Hid (pT ≠ pR) := Lib.hid (by rw [hp]; exact Nat.ne_of_lt KT1.out.lt)
  have NERT : Hid (pR ≠ pT) := Lib.hid (Ne.symm NETR.out)
  have KR2 : Hid (Blk w2 pR zTr.cells 56) := Lib.hid (by rw [hw, hp]; exact Blk.new _ _ _)
  with_reducible refine wpList_runWV (some 2) (v := .pointer (some ⟨pR, 0, none⟩)) (w' := w2) ?_ ?_ ?_ ?_
  · rfl
  · rfl
  · rw [hw, hp]; exact run_allocOp rfl infoTr zeroTr
  simp only [pu, sB, s0, sS]
  clear hw hp
  clear B1 KT1
  go_upto_region 1 with fail
  refine wp_region_lit ?_
  (with_reducible refine rN (v := .pointer (some ⟨pT, 9, none⟩)) ?_ ?_ ?_); (· rfl); (· go_simp; (try rfl)); simp only [pu, sB, s0, sS]
  (with_reducible refine rN (v := .pointer (some ⟨pT, 11, none⟩)) ?_ ?_ ?_); (· rfl); (· go_simp; (try rfl)); simp only [pu, sB, s0, sS]
  with_reducible refine wpList_loadV (.tmp 4) (j := 11) (v := (.slice none 0 0)) ?_ ?_ KT2.out ?_ Tryz.underlying51 ?_ ?_
  · rfl
  · rfl
  · exact trC_11 hco
  · rfl
  simp only [pu, sB, s0, sS]
  go_wp2_with fail
  refine (nilStr _).mono ?_
  rintro e w3 ⟨rfl, hb⟩
  have B3 := Lib.hid (B2.out.trans (hb.mono B2.out.size))
  have KT3 := Lib.hid (KT2.out.below hb KT2.out.lt)
  have KR3 := Lib.hid (KR2.out.below hb KR2.out.lt)
  clear hb
  clear B2 KT2 KR2
  go_simp
  rename_i hKK
  refine hKK _ _ ?_
  clear hKK
  try simp only [pu, sB, s0, sS]
  (with_reducible refine rN (v := .pointer (some ⟨pT, 9, none⟩)) ?_ ?_ ?_); (· rfl); (· go_simp; (try rfl)); simp only [pu, sB, s0, sS]
  (with_reducible refine rN (v := .pointer (some ⟨pT, 11, none⟩)) ?_ ?_ ?_); (· rfl); (· go_simp; (try rfl)); simp only [pu, sB, s0, sS]
  have KT4 := Lib.hid (KT3.out.stored (o := 11) (vs := [.slice none 0 0]) (cs' := (trC nm co 0 0 0 (.slice none 0 0) p t k (.slice none 0 0) 0)) (trC_p11 hco))
  have KR4 := Lib.hid (KR3.out.wholeElse ([.slice none 0 0]) (o := 11) NERT.out)
  have B4 := Lib.hid (below_whole ([.slice none 0 0]) (o := 11) B3.out LET.out)
  with_reducible refine wpList_storeV (.tmp 8) (.tmp 6) (j := 11) (v := .slice none 0 0) ?_ ?_ KT3.out ?_ (by kernel_rfl) (by simp [Value.oneCell']) ?_
  · rfl
  · rfl
  · exact (fit_1 (trC_sz hco) (by decide))
  (try simp only [Act.put])
  generalize World.setCells _ _ _ _ = w4 at KT4 KR4 B4 ⊢
  clear B3 KT3 KR3
  go_upto_region 2 with fail
  refine wp_region_lit ?_
  (with_reducible refine rN (v := .pointer (some ⟨pT, 15, none⟩)) ?_ ?_ ?_); (· rfl); (· go_simp; (try rfl)); simp only [pu, sB, s0, sS]
  with_reducible refine wpList_loadV (.tmp 9) (j := 15) (v := (.slice none 0 0)) ?_ ?_ KT4.out ?_ Tryz.underlying54 ?_ ?_
  · rfl
  · rfl
  · exact trC_15 hco
  · rfl
  simp only [pu, sB, s0, sS]
  go_wp2_with fail
  refine (nilEach _).mono ?_
  rintro e w5 ⟨rfl, hb⟩
  have B5 := Lib.hid (B4.out.trans (hb.mono B4.out.size))
  have KT5 := Lib.hid (KT4.out.below hb KT4.out.lt)
  have KR5 := Lib.hid (KR4.out.below hb KR4.out.lt)
  clear hb
  clear B4 KT4 KR4
  go_simp
  rename_i hKK
  refine hKK _ _ ?_
  clear hKK
  try simp only [pu, sB, s0, sS]
  (with_reducible refine rN (v := .pointer (some ⟨pT, 15, none⟩)) ?_ ?_ ?_); (· rfl); (· go_simp; (try rfl)); simp only [pu, sB, s0, sS]
  have KT6 := Lib.hid (KT5.out.stored (o := 15) (vs := [.slice none 0 0]) (cs' := (trC nm co 0 0 0 (.slice none 0 0) p t k (.slice none 0 0) 0)) (trC_p15 hco))
  have KR6 := Lib.hid (KR5.out.wholeElse ([.slice none 0 0]) (o := 15) NERT.out)
  have B6 := Lib.hid (below_whole ([.slice none 0 0]) (o := 15) B5.out LET.out)
  with_reducible refine wpList_storeV (.tmp 12) (.tmp 11) (j := 15) (v := .slice none 0 0) ?_ ?_ KT5.out ?_ (by kernel_rfl) (by simp [Value.oneCell']) ?_
  · rfl
  · rfl
  · exact (fit_1 (trC_sz hco) (by decide))
  (try simp only [Act.put])
  generalize World.setCells _ _ _ _ = w6 at KT6 KR6 B6 ⊢
  clear B5 KT5 KR5
  go_upto_region 3 with fail
  refine wp_region_lit ?_
  with_reducible refine wpList_loadS (.tmp 1) ?_ ?_ KT6.out Tryz.underlying56 ?_ (szTr (trC_sz hco)) ?_
  · rfl
  · rfl
  · rfl
  simp only [pu, sB, s0, sS]
  have KR7 := Lib.hid (KR6.out.stored (o := 0) (vs := (trC nm co 0 0 0 (.slice none 0 0) p t k (.slice none 0 0) 0).toList) (cs' := (trC nm co 0 0 0 (.slice none 0 0) p t k (.slice none 0 0) 0)) (laid_all (trC_sz hco) zTr_cells))
  have KT7 := Lib.hid (KT6.out.wholeElse ((trC nm co 0 0 0 (.slice none 0 0) p t k (.slice none 0 0) 0).toList) (o := 0) NETR.out)
  have B7 := Lib.hid (below_whole ((trC nm co 0 0 0 (.slice none 0 0) p t k (.slice none 0 0) 0).toList) (o := 0) B6.out LER.out)
  with_reducible refine wpList_storeM (.tmp 2) (.tmp 13) (o := 0) (vs := (trC nm co 0 0 0 (.slice none 0 0) p t k (.slice none 0 0) 0)) ?_ ?_ KR6.out ?_ (szTr (trC_sz hco)) (trC_one hco rfl rfl) ?_
  · rfl
  · rfl
  · exact (fit_2 zTr_cells (trC_sz hco) (by decide))
  (try simp only [Act.put])
  generalize World.setCells _ _ _ _ = w7 at KT7 KR7 B7 ⊢
  clear B6 KT6 KR6
  have hL := KR7.out.readS Tryz.underlying56 rfl (szTr (trC_sz hco))
  go_wp2_with fail
  exact bodyPost_ret (v := .agg (trC nm co 0 0 0 (.slice none 0 0) p t k (.slice none 0 0) 0)) (results_cell Tryz.results53 (by rfl) hL) rfl ⟨rfl, B7.out⟩

set_option maxHeartbeats 8000000 in
set_option maxRecDepth 100000 in
theorem apS8 (nm : ByteArray) (co : Array Value) (p t k : Int) (n m : Int) (s : ByteArray) (f : Fil.Flt) (fs : ByteArray) (you cnt : Int) (w : World)
    (hco : Part 50 7 co) (HI : Hid (∀ W, Below w.heap.size w W → Calls Tryz.prog 32 #[.agg (mO 8 n m s (cellsF f fs))] W fun e w' => e = .returned (.bool true) ∧ Below W.heap.size W w')) :
    Calls Tryz.prog 30 #[.agg (trC nm co 0 0 0 (.slice none 0 0) p t k (.slice none 0 0) 0), .agg (mO 8 n m s (cellsF f fs)), .int .i64 you, .int .i64 cnt] w fun e w' => e = .returned (.agg (trC nm co 0 0 0 (.slice none 0 0) p t (bits .or .i64 k n) (.slice none 0 0) 0)) ∧ Below w.heap.size w w' := by

  have B0 := Lib.hid (Below.refl w.heap.size w)
  go_enter Tryz.func30, Tryz.ntmps30
  go_upto_region 0 with fail
  refine wp_region_lit ?_
  obtain ⟨w1, hw⟩ : ∃ v, v = w.alloc (.cells (trC nm co 0 0 0 (.slice none 0 0) p t k (.slice none 0 0) 0) 56) := ⟨_, rfl⟩
  obtain ⟨pT, hp⟩ : ∃ v, v = w.heap.size := ⟨_, rfl⟩
  have B1 : Hid (Below w.heap.size w w1) := Lib.hid (by rw [hw]; exact B0.out.alloc B0.out.size _)
  have LET : Hid (w.heap.size ≤ pT) := Lib.hid (by rw [hp]; exact B0.out.size)
  have KT1 : Hid (Blk w1 pT (trC nm co 0 0 0 (.slice none 0 0) p t k (.slice none 0 0) 0) 56) := Lib.hid (by rw [hw, hp]; exact Blk.new _ _ _)
  with_reducible refine wpList_runWV (some 4) (v := .pointer (some ⟨pT, 0, none⟩)) (w' := w1) ?_ ?_ ?_ ?_
  · rfl
  · rfl
  · rw [hw, hp]; (go_simp; (try rfl))
  simp only [pu, sB, s0, sS]
  clear hw hp
  clear B0
  obtain ⟨w2, hw⟩ : ∃ v, v = w1.alloc (.cells (mO 8 n m s (cellsF f fs)) 39) := ⟨_, rfl⟩
  obtain ⟨pM, hp⟩ : ∃ v, v = w1.heap.size := ⟨_, rfl⟩
  have B2 : Hid (Below w.heap.size w w2) := Lib.hid (by rw [hw]; exact B1.out.alloc B1.out.size _)
  have LEM : Hid (w.heap.size ≤ pM) := Lib.hid (by rw [hp]; exact B1.out.size)
  have KT2 := Lib.hid (show Blk w2 pT (trC nm co 0 0 0 (.slice none 0 0) p t k (.slice none 0 0) 0) 56 by rw [hw]; exact KT1.out.alloc _)
  have NETM : Hid (pT ≠ pM) := Lib.hid (by rw [hp]; exact Nat.ne_of_lt KT1.out.lt)
  have NEMT : Hid (pM ≠ pT) := Lib.hid (Ne.symm NETM.out)
  have KM2 : Hid (Blk w2 pM (mO 8 n m s (cellsF f fs)) 39) := Lib.hid (by rw [hw, hp]; exact Blk.new _ _ _)
  with_reducible refine wpList_runWV (some 5) (v := .pointer (some ⟨pM, 0, none⟩)) (w' := w2) ?_ ?_ ?_ ?_
  · rfl
  · rfl
  · rw [hw, hp]; (go_simp; (try rfl))
  simp only [pu, sB, s0, sS]
  clear hw hp
  clear B1 KT1
  obtain ⟨w3, hw⟩ : ∃ v, v = w2.alloc (.cells zTr.cells 56) := ⟨_, rfl⟩
  obtain ⟨pR, hp⟩ : ∃ v, v = w2.heap.size := ⟨_, rfl⟩
  have B3 : Hid (Below w.heap.size w w3) := Lib.hid (by rw [hw]; exact B2.out.alloc B2.out.size _)
  have LER : Hid (w.heap.size ≤ pR) := Lib.hid (by rw [hp]; exact B2.out.size)
  have KT3 := Lib.hid (show Blk w3 pT (trC nm co 0 0 0 (.slice none 0 0) p t k (.slice none 0 0) 0) 56 by rw [hw]; exact KT2.out.alloc _)
  have NETR : Hid (pT ≠ pR) := Lib.hid (by rw [hp]; exact Nat.ne_of_lt KT2.out.lt)
  have NERT : Hid (pR ≠ pT) := Lib.hid (Ne.symm NETR.out)
  have KM3 := Lib.hid (show Blk w3 pM (mO 8 n m s (cellsF f fs)) 39 by rw [hw]; exact KM2.out.alloc _)
  have NEMR : Hid (pM ≠ pR) := Lib.hid (by rw [hp]; exact Nat.ne_of_lt KM2.out.lt)
  have NERM : Hid (pR ≠ pM) := Lib.hid (Ne.symm NEMR.out)
  have KR3 : Hid (Blk w3 pR zTr.cells 56) := Lib.hid (by rw [hw, hp]; exact Blk.new _ _ _)
  with_reducible refine wpList_runWV (some 8) (v := .pointer (some ⟨pR, 0, none⟩)) (w' := w3) ?_ ?_ ?_ ?_
  · rfl
  · rfl
  · rw [hw, hp]; exact run_allocOp rfl infoTr zeroTr
  simp only [pu, sB, s0, sS]
  clear hw hp
  clear B2 KT2 KM2
  go_upto_region 1 with fail
  refine wp_region_lit ?_
  with_reducible refine wpList_loadS (.tmp 4) ?_ ?_ KT3.out Tryz.underlying56 ?_ (szTr (trC_sz hco)) ?_
  · rfl
  · rfl
  · rfl
  simp only [pu, sB, s0, sS]
  go_wp2_with fail
  refine (nilTraits nm co p t k _ hco).mono ?_
  rintro e w4 ⟨rfl, hb⟩
  have B4 := Lib.hid (B3.out.trans (hb.mono B3.out.size))
  have KT4 := Lib.hid (KT3.out.below hb KT3.out.lt)
  have KM4 := Lib.hid (KM3.out.below hb KM3.out.lt)
  have KR4 := Lib.hid (KR3.out.below hb KR3.out.lt)
  clear hb
  clear B3 KT3 KM3 KR3
  go_simp
  rename_i hKK
  refine hKK _ _ ?_
  clear hKK
  try simp only [pu, sB, s0, sS]
  have KT5 := Lib.hid (KT4.out.stored (o := 0) (vs := (trC nm co 0 0 0 (.slice none 0 0) p t k (.slice none 0 0) 0).toList) (cs' := (trC nm co 0 0 0 (.slice none 0 0) p t k (.slice none 0 0) 0)) (laid_all (trC_sz hco) (trC_sz hco)))
  have KM5 := Lib.hid (KM4.out.wholeElse ((trC nm co 0 0 0 (.slice none 0 0) p t k (.slice none 0 0) 0).toList) (o := 0) NEMT.out)
  have KR5 := Lib.hid (KR4.out.wholeElse ((trC nm co 0 0 0 (.slice none 0 0) p t k (.slice none 0 0) 0).toList) (o := 0) NERT.out)
  have B5 := Lib.hid (below_whole ((trC nm co 0 0 0 (.slice none 0 0) p t k (.slice none 0 0) 0).toList) (o := 0) B4.out LET.out)
  with_reducible refine wpList_storeM (.tmp 4) (.tmp 10) (o := 0) (vs := (trC nm co 0 0 0 (.slice none 0 0) p t k (.slice none 0 0) 0)) ?_ ?_ KT4.out ?_ (szTr (trC_sz hco)) (trC_one hco rfl rfl) ?_
  · rfl
  · rfl
  · exact (fit_2 (trC_sz hco) (trC_sz hco) (by decide))
  (try simp only [Act.put])
  generalize World.setCells _ _ _ _ = w5 at KT5 KM5 KR5 B5 ⊢
  clear B4 KT4 KM4 KR4
  go_upto_region 2 with fail
  refine wp_region_lit ?_
  with_reducible refine wpList_loadS (.tmp 5) ?_ ?_ KM5.out Tryz.underlying39 ?_ (infoTMo20 (mO_sz (cellsF_size f fs))) ?_
  · rfl
  · rfl
  · rfl
  simp only [pu, sB, s0, sS]
  go_wp2_with fail
  refine (HI.out _ B5.out).mono ?_
  rintro e w6 ⟨rfl, hb⟩
  have B6 := Lib.hid (B5.out.trans (hb.mono B5.out.size))
  have KT6 := Lib.hid (KT5.out.below hb KT5.out.lt)
  have KM6 := Lib.hid (KM5.out.below hb KM5.out.lt)
  have KR6 := Lib.hid (KR5.out.below hb KR5.out.lt)
  clear hb
  clear B5 KT5 KM5 KR5
  go_simp
  rename_i hKK
  refine hKK _ _ ?_
  clear hKK
  try simp only [pu, sB, s0, sS]
  (with_reducible refine rN (v := .bool false) ?_ ?_ ?_); (· rfl); (· go_simp; (try with_reducible rfl)); simp only [pu, sB, s0, sS]
  go_upto_region 4 with fail
  refine wp_region_lit ?_
  (with_reducible refine rN (v := .pointer (some ⟨pM, 0, none⟩)) ?_ ?_ ?_); (· rfl); (· go_simp; (try rfl)); simp only [pu, sB, s0, sS]
  with_reducible refine wpList_loadV (.tmp 15) (j := 0) (v := .int .i64 8) ?_ ?_ KM6.out ?_ Tryz.underlying3 ?_ ?_
  · rfl
  · rfl
  · exact mO_0
  · rfl
  simp only [pu, sB, s0, sS]
  go_upto_region 5 with fail
  refine wp_region_lit ?_
  iterate 2 ((with_reducible refine rN (v := .bool false) ?_ ?_ ?_); (· rfl); (· go_simp; (try with_reducible rfl)); simp only [pu, sB, s0, sS])
  go_upto_region 7 with fail
  refine wp_region_lit ?_
  iterate 2 ((with_reducible refine rN (v := .bool false) ?_ ?_ ?_); (· rfl); (· go_simp; (try with_reducible rfl)); simp only [pu, sB, s0, sS])
  go_upto_region 9 with fail
  refine wp_region_lit ?_
  iterate 2 ((with_reducible refine rN (v := .bool false) ?_ ?_ ?_); (· rfl); (· go_simp; (try with_reducible rfl)); simp only [pu, sB, s0, sS])
  go_upto_region 11 with fail
  refine wp_region_lit ?_
  iterate 2 ((with_reducible refine rN (v := .bool false) ?_ ?_ ?_); (· rfl); (· go_simp; (try with_reducible rfl)); simp only [pu, sB, s0, sS])
  go_upto_region 13 with fail
  refine wp_region_lit ?_
  iterate 2 ((with_reducible refine rN (v := .bool false) ?_ ?_ ?_); (· rfl); (· go_simp; (try with_reducible rfl)); simp only [pu, sB, s0, sS])
  go_upto_region 15 with fail
  refine wp_region_lit ?_
  iterate 2 ((with_reducible refine rN (v := .bool false) ?_ ?_ ?_); (· rfl); (· go_simp; (try with_reducible rfl)); simp only [pu, sB, s0, sS])
  go_upto_region 17 with fail
  refine wp_region_lit ?_
  iterate 2 ((with_reducible refine rN (v := .bool false) ?_ ?_ ?_); (· rfl); (· go_simp; (try with_reducible rfl)); simp only [pu, sB, s0, sS])
  go_upto_region 19 with fail
  refine wp_region_lit ?_
  iterate 2 ((with_reducible refine rN (v := .bool true) ?_ ?_ ?_); (· rfl); (· go_simp; (try with_reducible rfl)); simp only [pu, sB, s0, sS])
  go_upto_region 20 with fail
  refine wp_region_lit ?_
  (with_reducible refine rN (v := .pointer (some ⟨pT, 14, none⟩)) ?_ ?_ ?_); (· rfl); (· go_simp; (try rfl)); simp only [pu, sB, s0, sS]
  with_reducible refine wpList_loadV (.tmp 67) (j := 14) (v := .int .i64 k) ?_ ?_ KT6.out ?_ Tryz.underlying3 ?_ ?_
  · rfl
  · rfl
  · exact trC_14 hco
  · rfl
  simp only [pu, sB, s0, sS]
  (with_reducible refine rN (v := .pointer (some ⟨pM, 1, none⟩)) ?_ ?_ ?_); (· rfl); (· go_simp; (try rfl)); simp only [pu, sB, s0, sS]
  with_reducible refine wpList_loadV (.tmp 69) (j := 1) (v := .int .i64 n) ?_ ?_ KM6.out ?_ Tryz.underlying3 ?_ ?_
  · rfl
  · rfl
  · exact mO_1
  · rfl
  simp only [pu, sB, s0, sS]
  (with_reducible refine rN (v := .int .i64 (bits .or .i64 k n)) ?_ ?_ ?_); (· rfl); (· go_simp; (try with_reducible rfl)); simp only [pu, sB, s0, sS]
  (with_reducible refine rN (v := .pointer (some ⟨pT, 14, none⟩)) ?_ ?_ ?_); (· rfl); (· go_simp; (try rfl)); simp only [pu, sB, s0, sS]
  have KT7 := Lib.hid (KT6.out.stored (o := 14) (vs := [.int .i64 (bits .or .i64 k n)]) (cs' := (trC nm co 0 0 0 (.slice none 0 0) p t (bits .or .i64 k n) (.slice none 0 0) 0)) (trC_p14 hco))
  have KM7 := Lib.hid (KM6.out.wholeElse ([.int .i64 (bits .or .i64 k n)]) (o := 14) NEMT.out)
  have KR7 := Lib.hid (KR6.out.wholeElse ([.int .i64 (bits .or .i64 k n)]) (o := 14) NERT.out)
  have B7 := Lib.hid (below_whole ([.int .i64 (bits .or .i64 k n)]) (o := 14) B6.out LET.out)
  with_reducible refine wpList_storeV (.tmp 72) (.tmp 71) (j := 14) (v := .int .i64 (bits .or .i64 k n)) ?_ ?_ KT6.out ?_ (by kernel_rfl) (by simp [Value.oneCell']) ?_
  · rfl
  · rfl
  · exact (fit_1 (trC_sz hco) (by decide))
  (try simp only [Act.put])
  generalize World.setCells _ _ _ _ = w7 at KT7 KM7 KR7 B7 ⊢
  clear B6 KT6 KM6 KR6
  go_upto_region 33 with fail
  refine wp_region_lit ?_
  with_reducible refine wpList_loadS (.tmp 4) ?_ ?_ KT7.out Tryz.underlying56 ?_ (szTr (trC_sz hco)) ?_
  · rfl
  · rfl
  · rfl
  simp only [pu, sB, s0, sS]
  have KR8 := Lib.hid (KR7.out.stored (o := 0) (vs := (trC nm co 0 0 0 (.slice none 0 0) p t (bits .or .i64 k n) (.slice none 0 0) 0).toList) (cs' := (trC nm co 0 0 0 (.slice none 0 0) p t (bits .or .i64 k n) (.slice none 0 0) 0)) (laid_all (trC_sz hco) zTr_cells))
  have KT8 := Lib.hid (KT7.out.wholeElse ((trC nm co 0 0 0 (.slice none 0 0) p t (bits .or .i64 k n) (.slice none 0 0) 0).toList) (o := 0) NETR.out)
  have KM8 := Lib.hid (KM7.out.wholeElse ((trC nm co 0 0 0 (.slice none 0 0) p t (bits .or .i64 k n) (.slice none 0 0) 0).toList) (o := 0) NEMR.out)
  have B8 := Lib.hid (below_whole ((trC nm co 0 0 0 (.slice none 0 0) p t (bits .or .i64 k n) (.slice none 0 0) 0).toList) (o := 0) B7.out LER.out)
  with_reducible refine wpList_storeM (.tmp 8) (.tmp 123) (o := 0) (vs := (trC nm co 0 0 0 (.slice none 0 0) p t (bits .or .i64 k n) (.slice none 0 0) 0)) ?_ ?_ KR7.out ?_ (szTr (trC_sz hco)) (trC_one hco rfl rfl) ?_
  · rfl
  · rfl
  · exact (fit_2 zTr_cells (trC_sz hco) (by decide))
  (try simp only [Act.put])
  generalize World.setCells _ _ _ _ = w8 at KT8 KM8 KR8 B8 ⊢
  clear B7 KT7 KM7 KR7
  have hL := KR8.out.readS Tryz.underlying56 rfl (szTr (trC_sz hco))
  go_wp2_with fail
  exact bodyPost_ret (v := .agg (trC nm co 0 0 0 (.slice none 0 0) p t (bits .or .i64 k n) (.slice none 0 0) 0)) (results_cell Tryz.results30 (by rfl) hL) rfl ⟨rfl, B8.out⟩

set_option maxHeartbeats 8000000 in
set_option maxRecDepth 100000 in
theorem apS13 (nm : ByteArray) (co : Array Value) (p t k : Int) (n m : Int) (s : ByteArray) (f : Fil.Flt) (fs : ByteArray) (you cnt : Int) (w : World)
    (hco : Part 50 7 co) (HI : Hid (∀ W, Below w.heap.size w W → Calls Tryz.prog 32 #[.agg (mO 13 n m s (cellsF f fs))] W fun e w' => e = .returned (.bool true) ∧ Below W.heap.size W w')) (HA1 : Hid (∀ W, Calls Tryz.prog 56 #[.int .i64 p, .int .i64 n] W fun e w' => e = .returned (.int .i64 (Num.clampI (Num.clampI p + Num.clampI n))) ∧ W = w')) (HA2 : Hid (∀ W, Calls Tryz.prog 56 #[.int .i64 t, .int .i64 m] W fun e w' => e = .returned (.int .i64 (Num.clampI (Num.clampI t + Num.clampI m))) ∧ W = w')) :
    Calls Tryz.prog 30 #[.agg (trC nm co 0 0 0 (.slice none 0 0) p t k (.slice none 0 0) 0), .agg (mO 13 n m s (cellsF f fs)), .int .i64 you, .int .i64 cnt] w fun e w' => e = .returned (.agg (trC nm co 0 0 0 (.slice none 0 0) (Num.clampI (Num.clampI p + Num.clampI n)) (Num.clampI (Num.clampI t + Num.clampI m)) k (.slice none 0 0) 0)) ∧ Below w.heap.size w w' := by

  have B0 := Lib.hid (Below.refl w.heap.size w)
  go_enter Tryz.func30, Tryz.ntmps30
  go_upto_region 0 with fail
  refine wp_region_lit ?_
  obtain ⟨w1, hw⟩ : ∃ v, v = w.alloc (.cells (trC nm co 0 0 0 (.slice none 0 0) p t k (.slice none 0 0) 0) 56) := ⟨_, rfl⟩
  obtain ⟨pT, hp⟩ : ∃ v, v = w.heap.size := ⟨_, rfl⟩
  have B1 : Hid (Below w.heap.size w w1) := Lib.hid (by rw [hw]; exact B0.out.alloc B0.out.size _)
  have LET : Hid (w.heap.size ≤ pT) := Lib.hid (by rw [hp]; exact B0.out.size)
  have KT1 : Hid (Blk w1 pT (trC nm co 0 0 0 (.slice none 0 0) p t k (.slice none 0 0) 0) 56) := Lib.hid (by rw [hw, hp]; exact Blk.new _ _ _)
  with_reducible refine wpList_runWV (some 4) (v := .pointer (some ⟨pT, 0, none⟩)) (w' := w1) ?_ ?_ ?_ ?_
  · rfl
  · rfl
  · rw [hw, hp]; (go_simp; (try rfl))
  simp only [pu, sB, s0, sS]
  clear hw hp
  clear B0
  obtain ⟨w2, hw⟩ : ∃ v, v = w1.alloc (.cells (mO 13 n m s (cellsF f fs)) 39) := ⟨_, rfl⟩
  obtain ⟨pM, hp⟩ : ∃ v, v = w1.heap.size := ⟨_, rfl⟩
  have B2 : Hid (Below w.heap.size w w2) := Lib.hid (by rw [hw]; exact B1.out.alloc B1.out.size _)
  have LEM : Hid (w.heap.size ≤ pM) := Lib.hid (by rw [hp]; exact B1.out.size)
  have KT2 := Lib.hid (show Blk w2 pT (trC nm co 0 0 0 (.slice none 0 0) p t k (.slice none 0 0) 0) 56 by rw [hw]; exact KT1.out.alloc _)
  have NETM : Hid (pT ≠ pM) := Lib.hid (by rw [hp]; exact Nat.ne_of_lt KT1.out.lt)
  have NEMT : Hid (pM ≠ pT) := Lib.hid (Ne.symm NETM.out)
  have KM2 : Hid (Blk w2 pM (mO 13 n m s (cellsF f fs)) 39) := Lib.hid (by rw [hw, hp]; exact Blk.new _ _ _)
  with_reducible refine wpList_runWV (some 5) (v := .pointer (some ⟨pM, 0, none⟩)) (w' := w2) ?_ ?_ ?_ ?_
  · rfl
  · rfl
  · rw [hw, hp]; (go_simp; (try rfl))
  simp only [pu, sB, s0, sS]
  clear hw hp
  clear B1 KT1
  obtain ⟨w3, hw⟩ : ∃ v, v = w2.alloc (.cells zTr.cells 56) := ⟨_, rfl⟩
  obtain ⟨pR, hp⟩ : ∃ v, v = w2.heap.size := ⟨_, rfl⟩
  have B3 : Hid (Below w.heap.size w w3) := Lib.hid (by rw [hw]; exact B2.out.alloc B2.out.size _)
  have LER : Hid (w.heap.size ≤ pR) := Lib.hid (by rw [hp]; exact B2.out.size)
  have KT3 := Lib.hid (show Blk w3 pT (trC nm co 0 0 0 (.slice none 0 0) p t k (.slice none 0 0) 0) 56 by rw [hw]; exact KT2.out.alloc _)
  have NETR : Hid (pT ≠ pR) := Lib.hid (by rw [hp]; exact Nat.ne_of_lt KT2.out.lt)
  have NERT : Hid (pR ≠ pT) := Lib.hid (Ne.symm NETR.out)
  have KM3 := Lib.hid (show Blk w3 pM (mO 13 n m s (cellsF f fs)) 39 by rw [hw]; exact KM2.out.alloc _)
  have NEMR : Hid (pM ≠ pR) := Lib.hid (by rw [hp]; exact Nat.ne_of_lt KM2.out.lt)
  have NERM : Hid (pR ≠ pM) := Lib.hid (Ne.symm NEMR.out)
  have KR3 : Hid (Blk w3 pR zTr.cells 56) := Lib.hid (by rw [hw, hp]; exact Blk.new _ _ _)
  with_reducible refine wpList_runWV (some 8) (v := .pointer (some ⟨pR, 0, none⟩)) (w' := w3) ?_ ?_ ?_ ?_
  · rfl
  · rfl
  · rw [hw, hp]; exact run_allocOp rfl infoTr zeroTr
  simp only [pu, sB, s0, sS]
  clear hw hp
  clear B2 KT2 KM2
  go_upto_region 1 with fail
  refine wp_region_lit ?_
  with_reducible refine wpList_loadS (.tmp 4) ?_ ?_ KT3.out Tryz.underlying56 ?_ (szTr (trC_sz hco)) ?_
  · rfl
  · rfl
  · rfl
  simp only [pu, sB, s0, sS]
  go_wp2_with fail
  refine (nilTraits nm co p t k _ hco).mono ?_
  rintro e w4 ⟨rfl, hb⟩
  have B4 := Lib.hid (B3.out.trans (hb.mono B3.out.size))
  have KT4 := Lib.hid (KT3.out.below hb KT3.out.lt)
  have KM4 := Lib.hid (KM3.out.below hb KM3.out.lt)
  have KR4 := Lib.hid (KR3.out.below hb KR3.out.lt)
  clear hb
  clear B3 KT3 KM3 KR3
  go_simp
  rename_i hKK
  refine hKK _ _ ?_
  clear hKK
  try simp only [pu, sB, s0, sS]
  have KT5 := Lib.hid (KT4.out.stored (o := 0) (vs := (trC nm co 0 0 0 (.slice none 0 0) p t k (.slice none 0 0) 0).toList) (cs' := (trC nm co 0 0 0 (.slice none 0 0) p t k (.slice none 0 0) 0)) (laid_all (trC_sz hco) (trC_sz hco)))
  have KM5 := Lib.hid (KM4.out.wholeElse ((trC nm co 0 0 0 (.slice none 0 0) p t k (.slice none 0 0) 0).toList) (o := 0) NEMT.out)
  have KR5 := Lib.hid (KR4.out.wholeElse ((trC nm co 0 0 0 (.slice none 0 0) p t k (.slice none 0 0) 0).toList) (o := 0) NERT.out)
  have B5 := Lib.hid (below_whole ((trC nm co 0 0 0 (.slice none 0 0) p t k (.slice none 0 0) 0).toList) (o := 0) B4.out LET.out)
  with_reducible refine wpList_storeM (.tmp 4) (.tmp 10) (o := 0) (vs := (trC nm co 0 0 0 (.slice none 0 0) p t k (.slice none 0 0) 0)) ?_ ?_ KT4.out ?_ (szTr (trC_sz hco)) (trC_one hco rfl rfl) ?_
  · rfl
  · rfl
  · exact (fit_2 (trC_sz hco) (trC_sz hco) (by decide))
  (try simp only [Act.put])
  generalize World.setCells _ _ _ _ = w5 at KT5 KM5 KR5 B5 ⊢
  clear B4 KT4 KM4 KR4
  go_upto_region 2 with fail
  refine wp_region_lit ?_
  with_reducible refine wpList_loadS (.tmp 5) ?_ ?_ KM5.out Tryz.underlying39 ?_ (infoTMo20 (mO_sz (cellsF_size f fs))) ?_
  · rfl
  · rfl
  · rfl
  simp only [pu, sB, s0, sS]
  go_wp2_with fail
  refine (HI.out _ B5.out).mono ?_
  rintro e w6 ⟨rfl, hb⟩
  have B6 := Lib.hid (B5.out.trans (hb.mono B5.out.size))
  have KT6 := Lib.hid (KT5.out.below hb KT5.out.lt)
  have KM6 := Lib.hid (KM5.out.below hb KM5.out.lt)
  have KR6 := Lib.hid (KR5.out.below hb KR5.out.lt)
  clear hb
  clear B5 KT5 KM5 KR5
  go_simp
  rename_i hKK
  refine hKK _ _ ?_
  clear hKK
  try simp only [pu, sB, s0, sS]
  (with_reducible refine rN (v := .bool false) ?_ ?_ ?_); (· rfl); (· go_simp; (try with_reducible rfl)); simp only [pu, sB, s0, sS]
  go_upto_region 4 with fail
  refine wp_region_lit ?_
  (with_reducible refine rN (v := .pointer (some ⟨pM, 0, none⟩)) ?_ ?_ ?_); (· rfl); (· go_simp; (try rfl)); simp only [pu, sB, s0, sS]
  with_reducible refine wpList_loadV (.tmp 15) (j := 0) (v := .int .i64 13) ?_ ?_ KM6.out ?_ Tryz.underlying3 ?_ ?_
  · rfl
  · rfl
  · exact mO_0
  · rfl
  simp only [pu, sB, s0, sS]
  go_upto_region 5 with fail
  refine wp_region_lit ?_
  iterate 2 ((with_reducible refine rN (v := .bool false) ?_ ?_ ?_); (· rfl); (· go_simp; (try with_reducible rfl)); simp only [pu, sB, s0, sS])
  go_upto_region 7 with fail
  refine wp_region_lit ?_
  iterate 2 ((with_reducible refine rN (v := .bool false) ?_ ?_ ?_); (· rfl); (· go_simp; (try with_reducible rfl)); simp only [pu, sB, s0, sS])
  go_upto_region 9 with fail
  refine wp_region_lit ?_
  iterate 2 ((with_reducible refine rN (v := .bool false) ?_ ?_ ?_); (· rfl); (· go_simp; (try with_reducible rfl)); simp only [pu, sB, s0, sS])
  go_upto_region 11 with fail
  refine wp_region_lit ?_
  iterate 2 ((with_reducible refine rN (v := .bool false) ?_ ?_ ?_); (· rfl); (· go_simp; (try with_reducible rfl)); simp only [pu, sB, s0, sS])
  go_upto_region 13 with fail
  refine wp_region_lit ?_
  iterate 2 ((with_reducible refine rN (v := .bool false) ?_ ?_ ?_); (· rfl); (· go_simp; (try with_reducible rfl)); simp only [pu, sB, s0, sS])
  go_upto_region 15 with fail
  refine wp_region_lit ?_
  iterate 2 ((with_reducible refine rN (v := .bool false) ?_ ?_ ?_); (· rfl); (· go_simp; (try with_reducible rfl)); simp only [pu, sB, s0, sS])
  go_upto_region 17 with fail
  refine wp_region_lit ?_
  iterate 2 ((with_reducible refine rN (v := .bool false) ?_ ?_ ?_); (· rfl); (· go_simp; (try with_reducible rfl)); simp only [pu, sB, s0, sS])
  go_upto_region 19 with fail
  refine wp_region_lit ?_
  iterate 2 ((with_reducible refine rN (v := .bool false) ?_ ?_ ?_); (· rfl); (· go_simp; (try with_reducible rfl)); simp only [pu, sB, s0, sS])
  go_upto_region 21 with fail
  refine wp_region_lit ?_
  iterate 2 ((with_reducible refine rN (v := .bool false) ?_ ?_ ?_); (· rfl); (· go_simp; (try with_reducible rfl)); simp only [pu, sB, s0, sS])
  go_upto_region 23 with fail
  refine wp_region_lit ?_
  iterate 2 ((with_reducible refine rN (v := .bool false) ?_ ?_ ?_); (· rfl); (· go_simp; (try with_reducible rfl)); simp only [pu, sB, s0, sS])
  go_upto_region 25 with fail
  refine wp_region_lit ?_
  iterate 2 ((with_reducible refine rN (v := .bool false) ?_ ?_ ?_); (· rfl); (· go_simp; (try with_reducible rfl)); simp only [pu, sB, s0, sS])
  go_upto_region 27 with fail
  refine wp_region_lit ?_
  iterate 2 ((with_reducible refine rN (v := .bool false) ?_ ?_ ?_); (· rfl); (· go_simp; (try with_reducible rfl)); simp only [pu, sB, s0, sS])
  go_upto_region 29 with fail
  refine wp_region_lit ?_
  iterate 2 ((with_reducible refine rN (v := .bool true) ?_ ?_ ?_); (· rfl); (· go_simp; (try with_reducible rfl)); simp only [pu, sB, s0, sS])
  go_upto_region 30 with fail
  have f0 : w6.cell? ⟨pT, 12, none⟩ = some (.int .i64 p) := (KT6.out.cell 12).trans (trC_12 hco)
  have f1 : w6.cell? ⟨pM, 1, none⟩ = some (.int .i64 n) := (KM6.out.cell 1).trans (mO_1)
  have f2 : w6.cell? ⟨pT, 13, none⟩ = some (.int .i64 t) := (KT6.out.cell 13).trans (trC_13 hco)
  have f3 : w6.cell? ⟨pM, 2, none⟩ = some (.int .i64 m) := (KM6.out.cell 2).trans (mO_2)
  refine wp_region_still_tail 11 (by kernel_rfl) (by kernel_rfl) ?_
  simp only [List.take_succ_cons, List.take_zero, List.drop_succ_cons, List.drop_zero]
  still_step
  still_step
  still_step
  still_step
  still_call ((HA1.out _).mono (fun _ _ h => ⟨h.1, h.2.symm⟩))
  still_step
  still_step
  still_step
  still_step
  still_call ((HA2.out _).mono (fun _ _ h => ⟨h.1, h.2.symm⟩))
  still_step
  refine wpStill_nil ?_
  change wpList _ _ _ _ _ w6.drew
  have B7 := Lib.hid (B6.out.drew)
  have KT7 := Lib.hid (KT6.out.drew)
  have KM7 := Lib.hid (KM6.out.drew)
  have KR7 := Lib.hid (KR6.out.drew)
  clear f0 f1 f2 f3
  generalize World.drew _ = w7 at KT7 KM7 KR7 B7 ⊢
  clear B6 KT6 KM6 KR6
  try simp only [pu, sB, s0, sS]
  have KT8 := Lib.hid (KT7.out.stored (o := 12) (vs := [.int .i64 (Num.clampI (Num.clampI p + Num.clampI n))]) (cs' := (trC nm co 0 0 0 (.slice none 0 0) (Num.clampI (Num.clampI p + Num.clampI n)) t k (.slice none 0 0) 0)) (trC_p12 hco))
  have KM8 := Lib.hid (KM7.out.wholeElse ([.int .i64 (Num.clampI (Num.clampI p + Num.clampI n))]) (o := 12) NEMT.out)
  have KR8 := Lib.hid (KR7.out.wholeElse ([.int .i64 (Num.clampI (Num.clampI p + Num.clampI n))]) (o := 12) NERT.out)
  have B8 := Lib.hid (below_whole ([.int .i64 (Num.clampI (Num.clampI p + Num.clampI n))]) (o := 12) B7.out LET.out)
  with_reducible refine wpList_storeV (.tmp 113) (.tmp 107) (j := 12) (v := .int .i64 (Num.clampI (Num.clampI p + Num.clampI n))) ?_ ?_ KT7.out ?_ (by kernel_rfl) (by simp [Value.oneCell']) ?_
  · rfl
  · rfl
  · exact (fit_1 (trC_sz hco) (by decide))
  (try simp only [Act.put])
  generalize World.setCells _ _ _ _ = w8 at KT8 KM8 KR8 B8 ⊢
  clear B7 KT7 KM7 KR7
  (with_reducible refine rN (v := .pointer (some ⟨pT, 13, none⟩)) ?_ ?_ ?_); (· rfl); (· go_simp; (try rfl)); simp only [pu, sB, s0, sS]
  have KT9 := Lib.hid (KT8.out.stored (o := 13) (vs := [.int .i64 (Num.clampI (Num.clampI t + Num.clampI m))]) (cs' := (trC nm co 0 0 0 (.slice none 0 0) (Num.clampI (Num.clampI p + Num.clampI n)) (Num.clampI (Num.clampI t + Num.clampI m)) k (.slice none 0 0) 0)) (trC_p13 hco))
  have KM9 := Lib.hid (KM8.out.wholeElse ([.int .i64 (Num.clampI (Num.clampI t + Num.clampI m))]) (o := 13) NEMT.out)
  have KR9 := Lib.hid (KR8.out.wholeElse ([.int .i64 (Num.clampI (Num.clampI t + Num.clampI m))]) (o := 13) NERT.out)
  have B9 := Lib.hid (below_whole ([.int .i64 (Num.clampI (Num.clampI t + Num.clampI m))]) (o := 13) B8.out LET.out)
  with_reducible refine wpList_storeV (.tmp 114) (.tmp 112) (j := 13) (v := .int .i64 (Num.clampI (Num.clampI t + Num.clampI m))) ?_ ?_ KT8.out ?_ (by kernel_rfl) (by simp [Value.oneCell']) ?_
  · rfl
  · rfl
  · exact (fit_1 (trC_sz hco) (by decide))
  (try simp only [Act.put])
  generalize World.setCells _ _ _ _ = w9 at KT9 KM9 KR9 B9 ⊢
  clear B8 KT8 KM8 KR8
  go_upto_region 33 with fail
  refine wp_region_lit ?_
  with_reducible refine wpList_loadS (.tmp 4) ?_ ?_ KT9.out Tryz.underlying56 ?_ (szTr (trC_sz hco)) ?_
  · rfl
  · rfl
  · rfl
  simp only [pu, sB, s0, sS]
  have KR10 := Lib.hid (KR9.out.stored (o := 0) (vs := (trC nm co 0 0 0 (.slice none 0 0) (Num.clampI (Num.clampI p + Num.clampI n)) (Num.clampI (Num.clampI t + Num.clampI m)) k (.slice none 0 0) 0).toList) (cs' := (trC nm co 0 0 0 (.slice none 0 0) (Num.clampI (Num.clampI p + Num.clampI n)) (Num.clampI (Num.clampI t + Num.clampI m)) k (.slice none 0 0) 0)) (laid_all (trC_sz hco) zTr_cells))
  have KT10 := Lib.hid (KT9.out.wholeElse ((trC nm co 0 0 0 (.slice none 0 0) (Num.clampI (Num.clampI p + Num.clampI n)) (Num.clampI (Num.clampI t + Num.clampI m)) k (.slice none 0 0) 0).toList) (o := 0) NETR.out)
  have KM10 := Lib.hid (KM9.out.wholeElse ((trC nm co 0 0 0 (.slice none 0 0) (Num.clampI (Num.clampI p + Num.clampI n)) (Num.clampI (Num.clampI t + Num.clampI m)) k (.slice none 0 0) 0).toList) (o := 0) NEMR.out)
  have B10 := Lib.hid (below_whole ((trC nm co 0 0 0 (.slice none 0 0) (Num.clampI (Num.clampI p + Num.clampI n)) (Num.clampI (Num.clampI t + Num.clampI m)) k (.slice none 0 0) 0).toList) (o := 0) B9.out LER.out)
  with_reducible refine wpList_storeM (.tmp 8) (.tmp 123) (o := 0) (vs := (trC nm co 0 0 0 (.slice none 0 0) (Num.clampI (Num.clampI p + Num.clampI n)) (Num.clampI (Num.clampI t + Num.clampI m)) k (.slice none 0 0) 0)) ?_ ?_ KR9.out ?_ (szTr (trC_sz hco)) (trC_one hco rfl rfl) ?_
  · rfl
  · rfl
  · exact (fit_2 zTr_cells (trC_sz hco) (by decide))
  (try simp only [Act.put])
  generalize World.setCells _ _ _ _ = w10 at KT10 KM10 KR10 B10 ⊢
  clear B9 KT9 KM9 KR9
  have hL := KR10.out.readS Tryz.underlying56 rfl (szTr (trC_sz hco))
  go_wp2_with fail
  exact bodyPost_ret (v := .agg (trC nm co 0 0 0 (.slice none 0 0) (Num.clampI (Num.clampI p + Num.clampI n)) (Num.clampI (Num.clampI t + Num.clampI m)) k (.slice none 0 0) 0)) (results_cell Tryz.results30 (by rfl) hL) rfl ⟨rfl, B10.out⟩
end Go.Proofs.YtbcgkeclmioeiaaGreatDoor
namespace Go.Proofs.YtbcgkeclmioeiaaGreatDoor
open Go.RowKit
open Wd (Bs)

/-- '==' of a modification with itself -/
theorem run_eq_modS (k n m : Int) (s : ByteArray) (f : Fil.Flt) (fs : ByteArray) (hf : f.sub = fs.data.toList) (W : World) : (Op.equalIn 10000 39 (.agg (mO k n m s (cellsF f fs))) (.agg (mO k n m s (cellsF f fs)))).run Tryz.prog W = .ok true W := by
  have := run_eq_mod k n m k n m s s f f fs fs hf hf W
  rw [eqMo_iff.2 rfl] at this
  exact this
theorem run_eq_selfX (x : Mo.Md) (W : World) : (Op.equalIn 10000 39 (.agg (cellsX x)) (.agg (cellsX x))).run Tryz.prog W = .ok true W := run_eq_modS x.k x.n x.m ⟨x.sub.toArray⟩ x.f (fsOf x.f) (fsOf_sub x.f) W
theorem ex13_ok : Mo.okB ⟨13, 2, -1, [], Fil.zero⟩ = true := by
  rw [Mo.ok_13 (v1 := true) (v2 := true) rfl (by decide) (by decide)]
  simp [eqMo_iff]
theorem ex8_ok : Mo.okB ⟨8, 4, 0, [], Fil.zero⟩ = true := by
  rw [Mo.ok_8 (v1 := true) (v2 := true) (.inl rfl) (by decide)]
  simp [eqMo_iff]
theorem ex6_ok : Mo.okB ⟨6, 0, 0, [], Fil.zero⟩ = true := by
  rw [Mo.ok_6 (v := true) rfl (by decide)]
  simp [eqMo_iff]
theorem ex1_ok : Mo.okB ⟨1, 0, 0, [], Fil.zero⟩ = true := by
  rw [Mo.ok_1 (.inl rfl)]
  simp [eqMo_iff]
theorem ex10_ok : Mo.okB ⟨10, 0, 0, [], Fil.zero⟩ = true := by
  rw [Mo.ok_1 (.inr (.inl rfl))]
  simp [eqMo_iff]
theorem ex13_text : Mo.textM ⟨13, 2, -1, [], Fil.zero⟩ = [112, 116, 43, 61, 50, 47, 45, 49] := by
  rw [Mo.textM_ok ex13_ok]
  have h : Mo.raw ⟨13, 2, -1, [], Fil.zero⟩ = Mo.sPtA ++ Mo.pairS 2 (-1) := by simp [Mo.raw]
  rw [h]
  decide +kernel
theorem ex6_text : Mo.textM ⟨6, 0, 0, [], Fil.zero⟩ = [99, 111, 108, 111, 114, 115, 61, 110, 111, 110, 101] := by
  rw [Mo.textM_ok ex6_ok]
  have h : Mo.raw ⟨6, 0, 0, [], Fil.zero⟩ = Mo.sColors ++ Col.textN 0 := by simp [Mo.raw]
  rw [h]
  decide +kernel
def exL2 : List Mo.Md := [⟨1, 0, 0, [], Fil.zero⟩, ⟨10, 0, 0, [], Fil.zero⟩]
theorem exL2_ok : Mo.listB exL2 = true := by
  unfold Mo.listB exL2
  simp [ex1_ok, ex10_ok]
theorem exL2_text : Mo.listT exL2 = [99, 111, 110, 116, 114, 111, 108, 44, 32, 98, 108, 97, 110, 107] := by
  unfold Mo.listT
  rw [if_pos exL2_ok]
  have h : exL2.map Mo.raw = [Mo.sControl, Mo.sBlank] := by simp [exL2, Mo.raw]
  rw [h]
  decide
theorem num_2 : Num.numberL [50] = some 2 := by
  have := Num.numberL_itoa_in (n := 2) (by decide) (by decide)
  rwa [show Lib.itoa 2 = [50] by decide +kernel] at this
theorem num_m1 : Num.numberL [45, 49] = some (-1) := by
  have := Num.numberL_itoa_in (n := -1) (by decide) (by decide)
  rwa [show Lib.itoa (-1) = [45, 49] by decide +kernel] at this
theorem cut_ex : Wd.cut [50, 47, 45, 49] [47] = ([50], [45, 49], true) := by decide +kernel
theorem tail_ex : Mo.tailM 13 [50, 47, 45, 49] = ⟨13, 2, -1, [], Fil.zero⟩ := by
  rw [Mo.tail_12 (.inr rfl), cut_ex]
  unfold Fil.num
  simp only [num_2, num_m1, Option.getD_some]
  rfl
theorem rdEx13 (r : ByteArray) (hr : r.data.toList = [50, 47, 45, 49]) (w : World) (hE : Env w) :
    Calls Tryz.prog 90 #[.int .i64 13, .string r] w fun e w' => e = .returned (.agg (mO 13 2 (-1) ⟨#[]⟩ cellsZ)) ∧ Below w.heap.size w w' := by
  have hsl : r.data.toList.length = r.size := Array.length_toList
  rw [hr] at hsl
  refine rdS13 r ⟨#[50]⟩ ⟨#[45, 49]⟩ true true true 2 (-1) w (Lib.hid fun W _ => ?_) (Lib.hid fun W hb => ?_) (Lib.hid fun W hb => ?_)
  · refine (wordCutFar r ⟨#[47]⟩ W (by rw [← hsl]; decide) (by decide)).mono ?_
    rintro e w1 ⟨h1, h2⟩
    have h1' : e = .returned (cutV (Wd.cut r.data.toList [47])) := h1
    rw [hr, cut_ex] at h1'
    exact ⟨h1', h2⟩
  · refine (numNumber ⟨#[50]⟩ (by decide) W (hE.below hb).num).mono ?_
    rintro e w1 ⟨h1, h2⟩
    unfold numRes at h1
    rw [show (ByteArray.mk #[50]).data.toList = [50] from rfl, num_2] at h1
    exact ⟨h1, h2⟩
  · refine (numNumber ⟨#[45, 49]⟩ (by decide) W (hE.below hb).num).mono ?_
    rintro e w1 ⟨h1, h2⟩
    unfold numRes at h1
    rw [show (ByteArray.mk #[45, 49]).data.toList = [45, 49] from rfl, num_m1] at h1
    exact ⟨h1, h2⟩
/-- read where one head only is a prefix -/
theorem readOne (t : ByteArray) (k : Nat) (x : Mo.Md) (w : World) (ht : t.size ≤ 1000000) (h1 : ∀ j, j < 15 → Mo.hitH t.data.toList j = true → j = k) (hx : Mo.tailM k (t.data.toList.drop (Mo.headL k).length) = x)
    (H : Hid (∀ (r : ByteArray) W, r.data.toList = t.data.toList.drop (Mo.headL k).length → Below w.heap.size w W → Calls Tryz.prog 90 #[.int .i64 (k : Int), .string r] W fun e w' => e = .returned (.agg (cellsX x)) ∧ Below W.heap.size W w')) :
    Calls Tryz.prog 45 #[.string t] w fun e w' => e = .returned (.agg (cellsX (Mo.readM t.data.toList))) ∧ Below w.heap.size w w' :=
  readW t w ht (Lib.hid fun j W _ => cutPre t ⟨(Mo.headL j).toArray⟩ W) (Lib.hid fun j r W hj _ _ hh hr hb => by
    obtain rfl := h1 j hj hh
    rw [hr, hx]
    exact H.out r W hr hb)
theorem readM_of_p {s : Bs} (h : Mo.pE s = 0) : Mo.readM s = Mo.pV s := by
  cases hB : Mo.pB s with
  | true => exact (pV_yes hB).1.symm
  | false =>
    rw [(Mo.p_no hB).2] at h
    exact absurd h (by decide)
theorem parse13 (w : World) (hE : Env w) : Calls Tryz.prog 21 #[.string ⟨#[112, 116, 43, 61, 50, 47, 45, 49]⟩] w fun e w' => e = .returned (.tuple #[.agg (mO 13 2 (-1) ⟨#[]⟩ cellsZ), .int .i64 0]) ∧ Below w.heap.size w w' := by
  have P1 := Mo.p_text ex13_ok
  rw [ex13_text] at P1
  have e0 : (ByteArray.mk #[112, 116, 43, 61, 50, 47, 45, 49]).data.toList = [112, 116, 43, 61, 50, 47, 45, 49] := rfl
  have := modParseOf ⟨#[112, 116, 43, 61, 50, 47, 45, 49]⟩ (by decide) (by rw [e0, readM_of_p P1.2, P1.1]; exact fun h => absurd h (by decide)) w hE (Lib.hid fun W hb => readOne _ 13 ⟨13, 2, -1, [], Fil.zero⟩ W (by decide) (by rw [e0]; decide) (by rw [e0]; exact tail_ex) (Lib.hid fun r W2 hr hb2 => rdEx13 r hr W2 ((hE.below hb).below hb2)))
  rw [e0, P1.1, P1.2] at this
  exact this
theorem parseC (w : World) (hE : Env w) : Calls Tryz.prog 21 #[.string ⟨Mo.sControl.toArray⟩] w fun e w' => e = .returned (.tuple #[.agg (cellsX (Mo.pV Mo.sControl)), .int .i64 (Mo.pE Mo.sControl)]) ∧ Below w.heap.size w w' := by
  have e0 : (ByteArray.mk Mo.sControl.toArray).data.toList = Mo.sControl := by decide
  have := modParseOf ⟨Mo.sControl.toArray⟩ (by decide) (by rw [e0]; exact fun h => absurd h (by decide +kernel)) w hE (Lib.hid fun W _ => readOne _ 1 ⟨1, 0, 0, [], Fil.zero⟩ W (by decide) (by rw [e0]; decide) (by rw [Mo.tail_else (by decide) (by decide) (by decide) (by decide) (by decide) (by decide)]; rfl) (Lib.hid fun r W2 _ _ => rdSk 1 r W2 rfl rfl rfl rfl rfl rfl rfl rfl rfl rfl rfl))
  rw [e0] at this
  exact this
theorem parseB (w : World) (hE : Env w) : Calls Tryz.prog 21 #[.string ⟨Mo.sBlank.toArray⟩] w fun e w' => e = .returned (.tuple #[.agg (cellsX (Mo.pV Mo.sBlank)), .int .i64 (Mo.pE Mo.sBlank)]) ∧ Below w.heap.size w w' := by
  have e0 : (ByteArray.mk Mo.sBlank.toArray).data.toList = Mo.sBlank := by decide
  have := modParseOf ⟨Mo.sBlank.toArray⟩ (by decide) (by rw [e0]; exact fun h => absurd h (by decide +kernel)) w hE (Lib.hid fun W _ => readOne _ 10 ⟨10, 0, 0, [], Fil.zero⟩ W (by decide) (by rw [e0]; decide) (by rw [Mo.tail_else (by decide) (by decide) (by decide) (by decide) (by decide) (by decide)]; rfl) (Lib.hid fun r W2 _ _ => rdSk 10 r W2 rfl rfl rfl rfl rfl rfl rfl rfl rfl rfl rfl))
  rw [e0] at this
  exact this
theorem pieces_ex : Mo.pieces [99, 111, 110, 116, 114, 111, 108, 44, 32, 98, 108, 97, 110, 107] = [Mo.sControl, Mo.sBlank] := by decide +kernel
theorem piece_ex {ps : List Bs} {p r q : Bs} {m : Bool} (h : Mo.Inv [99, 111, 110, 116, 114, 111, 108, 44, 32, 98, 108, 97, 110, 107] ps r true) (hc : Wd.cut r Mo.sep = (p, q, m)) : p = Mo.sControl ∨ p = Mo.sBlank := by
  have hg := h.go rfl
  rw [pieces_ex] at hg
  have hj := Mo.join_pieces r
  match ps, hg with
  | [], hg =>
    rw [List.nil_append] at hg
    rw [← hg] at hj
    rw [← hj, show Wd.cut (Lib.join [Mo.sControl, Mo.sBlank] Mo.sep) Mo.sep = (Mo.sControl, Mo.sBlank, true) by decide +kernel] at hc
    exact .inl (Prod.mk.inj hc).1.symm
  | [x], hg =>
    have h2 : [Mo.sBlank] = Mo.pieces r := (List.cons.inj hg).2
    rw [← h2] at hj
    rw [← hj, show Wd.cut (Lib.join [Mo.sBlank] Mo.sep) Mo.sep = (Mo.sBlank, [], false) by decide +kernel] at hc
    exact .inr (Prod.mk.inj hc).1.symm
  | x :: y :: z, hg =>
    have h2 : [] = z ++ Mo.pieces r := (List.cons.inj (List.cons.inj hg).2).2
    exact absurd (List.append_eq_nil_iff.1 h2.symm).2 (Mo.pieces_ne r)
theorem modAliveS (w : World) (hE : Env w) : Calls Tryz.prog 20 #[] w fun e w' => e = .returned (.bool true) ∧ Below w.heap.size w w' := by
  have P2 := Mo.lB_text exL2_ok
  rw [exL2_text] at P2
  refine aliveWalk w (Lib.hid fun W hb => parse13 W (hE.below hb)) (Lib.hid fun W hb => ?_) (Lib.hid fun W hb => ?_) (Lib.hid fun W hb => ?_) (Lib.hid fun W hb => ?_) (Lib.hid fun W _ => same_below (modStage 14 W)) (fun W => run_eq_selfX ⟨13, 2, -1, [], Fil.zero⟩ W)
  · have HI : Hid (∀ W2, Below W.heap.size W W2 → _) := Lib.hid fun W2 hb2 => modIs 13 2 (-1) ⟨#[]⟩ Fil.zero ⟨#[]⟩ rfl (by decide) (by decide) W2 ((hE.below hb).below hb2)
    rw [show Mo.okB ⟨13, 2, -1, (ByteArray.mk #[]).data.toList, Fil.zero⟩ = true from ex13_ok] at HI
    have hA := apS13 ⟨#[]⟩ coZ 1 1 0 2 (-1) ⟨#[]⟩ Fil.zero ⟨#[]⟩ 0 0 W coZ_part HI (Lib.hid fun W => numAdd 1 2 W) (Lib.hid fun W => numAdd 1 (-1) W)
    rw [show Num.clampI (Num.clampI 1 + Num.clampI 2) = 3 by decide, show Num.clampI (Num.clampI 1 + Num.clampI (-1)) = 0 by decide] at hA
    refine hA.mono ?_
    rintro e w1 ⟨rfl, h2⟩
    exact ⟨⟨_, _, _, _, _, _, rfl⟩, h2⟩
  · have HI : Hid (∀ W2, Below W.heap.size W W2 → _) := Lib.hid fun W2 hb2 => modIs 8 4 0 ⟨#[]⟩ Fil.zero ⟨#[]⟩ rfl (by decide) (by decide) W2 ((hE.below hb).below hb2)
    rw [show Mo.okB ⟨8, 4, 0, (ByteArray.mk #[]).data.toList, Fil.zero⟩ = true from ex8_ok] at HI
    have hA := apS8 ⟨#[]⟩ coZ 0 0 1 4 0 ⟨#[]⟩ Fil.zero ⟨#[]⟩ 0 0 W coZ_part HI
    rw [show bits .or .i64 1 4 = 5 by decide +kernel] at hA
    refine hA.mono ?_
    rintro e w1 ⟨rfl, h2⟩
    exact ⟨⟨_, _, _, _, _, _, rfl⟩, h2⟩
  · have e1 : (ByteArray.mk #[99, 111, 110, 116, 114, 111, 108, 44, 32, 98, 108, 97, 110, 107]).data.toList = [99, 111, 110, 116, 114, 111, 108, 44, 32, 98, 108, 97, 110, 107] := rfl
    have := modParseListOf ⟨#[99, 111, 110, 116, 114, 111, 108, 44, 32, 98, 108, 97, 110, 107]⟩ (by decide) W (Lib.hid fun ps p r q m hi hc _ W2 hb2 => by
      rw [e1] at hi
      rcases piece_ex hi hc with rfl | rfl
      · exact parseC W2 ((hE.below hb).below hb2)
      · exact parseB W2 ((hE.below hb).below hb2))
    refine this.mono ?_
    rintro e w1 ⟨v, rfl, h1, h2⟩
    rw [e1] at h1 ⊢
    have e0 : Mo.lE [99, 111, 110, 116, 114, 111, 108, 44, 32, 98, 108, 97, 110, 107] = 0 := by unfold Mo.lE; rw [if_pos P2.1]
    rw [P2.2] at h1
    have h3 : RowS 20 w1 v [mO 1 0 0 ⟨#[]⟩ cellsZ, mO 10 0 0 ⟨#[]⟩ cellsZ] := h1.row
    obtain ⟨ad, cap, rfl⟩ := h3.slice
    rw [e0]
    exact ⟨⟨ad, cap, rfl, h3⟩, h2⟩
  · have := modTextH 6 0 0 ⟨#[]⟩ Fil.zero ⟨#[]⟩ rfl (by decide) (by decide) (fun h => absurd h (by decide)) W (hE.below hb)
    rw [show Mo.textM ⟨6, 0, 0, (ByteArray.mk #[]).data.toList, Fil.zero⟩ = _ from ex6_text] at this
    exact this
theorem modShort (k n m : Int) (s : ByteArray) (f : Fil.Flt) (fs : ByteArray) (w : World) :
    Calls Tryz.prog 23 #[.agg (mO k n m s (cellsF f fs))] w fun e w' => e = .returned (.bool (decide ((s.size : Int) ≤ 100) && decide ((fs.size : Int) ≤ 100))) ∧ Below w.heap.size w w' := shortW k n m s f fs _ _ w rfl rfl
end Go.Proofs.YtbcgkeclmioeiaaGreatDoor
