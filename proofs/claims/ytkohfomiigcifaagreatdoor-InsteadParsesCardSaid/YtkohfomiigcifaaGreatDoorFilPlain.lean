/-
  PLAIN FACTS OF LAYER 13 (filter): filters, validity, the words of a text, what both readers find; no program in it. By an AI agent.
-/
import Derived.Test.YtkohfomiigcifaaGreatDoorLinePlain
import Derived.Test.YtkohfomiigcifaaGreatDoorColPlain
import Derived.Test.YtkohfomiigcifaaGreatDoorKeyPlain
import Derived.Test.YtkohfomiigcifaaGreatDoorNumText
namespace Go.Proofs.YtkohfomiigcifaaGreatDoor.Fil
open Num (bitsL bitB)
open Wd (cut split)

abbrev Bs := List UInt8
structure Bd where
  kind : Int
  n : Int
deriving DecidableEq
structure Flt where
  zone : Int
  who : Int
  self : Int
  types : Int
  ntypes : Int
  colors : Int
  ncolors : Int
  sub : Bs
  keys : Int
  tap : Int
  pow : Bd
  tough : Bd
  val : Bd
deriving DecidableEq
def zeroB : Bd := ⟨0, 0⟩
def zero : Flt := ⟨0, 0, 0, 0, 0, 0, 0, [], 0, 0, zeroB, zeroB, zeroB⟩
def zonesL : List Bs := [[], [105, 110, 45, 104, 97, 110, 100], [105, 110, 45, 108, 105, 98, 114, 97, 114, 121], [105, 110, 45, 103, 114, 97, 118, 101, 121, 97, 114, 100], [105, 110, 45, 101, 120, 105, 108, 101], [111, 110, 45, 115, 116, 97, 99, 107]]
def whoL : List Bs := [[], [121, 111, 117, 114, 115], [116, 104, 101, 105, 114, 115]]
def selfL : List Bs := [[], [115, 101, 108, 102], [111, 116, 104, 101, 114]]
def tapL : List Bs := [[], [116, 97, 112, 112, 101, 100], [117, 110, 116, 97, 112, 112, 101, 100]]
def signsL : List Bs := [[], [62, 61], [60, 61], [61]]
def sNon : Bs := [110, 111, 110, 45]
def sSub : Bs := [115, 117, 98, 58]
def sWith : Bs := [119, 105, 116, 104, 58]
def sPow : Bs := [112, 111, 119, 101, 114]
def sTough : Bs := [116, 111, 117, 103, 104]
def sVal : Bs := [118, 97, 108, 117, 101]
def sAny : Bs := [97, 110, 121]
def typeW (k : Nat) : Bs := if k < 6 then Ln.word (2 + k) else []
def signW (k : Nat) : Bs := signsL.getD k []
/-! validity -/
def within (x hi : Int) : Bool := decide (0 ≤ x) && decide (x ≤ hi)
def masksB (a b top : Int) : Bool := within a top && within b top && (a.toNat &&& b.toNat == 0)
def bdB (b : Bd) : Bool := within b.kind 3 && within b.n 1000000 && (decide (b.kind ≠ 0) || decide (b.n = 0))
noncomputable def subB (s : Bs) : Bool := decide (s = []) || Ln.isSub s
noncomputable def validB (f : Flt) : Bool := within f.zone 5 && within f.who 2 && within f.self 2 && within f.tap 2 && masksB f.types f.ntypes 63 && masksB f.colors f.ncolors 31 &&
  subB f.sub && Kw.validB f.keys && bdB f.pow && bdB f.tough && bdB f.val
/-! texts -/
def one (x : Bs) : List Bs := if x = [] then [] else [x]
/-- the words of the bits of m below n -/
def maskW (nm : Nat → Bs) (pre : Bs) (m n : Nat) : List Bs := ((List.range n).filter (bitB m)).map fun k => pre ++ nm k
def subW (s : Bs) : Bs := if s = [] then [] else sSub ++ s
def bdW (nm : Bs) (b : Bd) : Bs := if b.kind = 0 then [] else nm ++ signW b.kind.toNat ++ Lib.itoa b.n
def tbl (l : List Bs) (i : Int) : Bs := l.getD i.toNat []
def seg (f : Flt) : Nat → List Bs
  | 0 => one (tbl zonesL f.zone)
  | 1 => one (tbl whoL f.who)
  | 2 => one (tbl selfL f.self)
  | 3 => maskW typeW [] f.types.toNat 6
  | 4 => maskW typeW sNon f.ntypes.toNat 6
  | 5 => maskW Col.name [] f.colors.toNat 5
  | 6 => maskW Col.name sNon f.ncolors.toNat 5
  | 7 => one (subW f.sub)
  | 8 => maskW Kw.name sWith f.keys.toNat 17
  | 9 => one (tbl tapL f.tap)
  | 10 => one (bdW sPow f.pow)
  | 11 => one (bdW sTough f.tough)
  | 12 => one (bdW sVal f.val)
  | _ => []
/-- the words from segment i on, n of them -/
def from_ (f : Flt) : Nat → Nat → List Bs
  | _, 0 => []
  | i, n + 1 => seg f i ++ from_ f (i + 1) n
def parts (f : Flt) : List Bs := from_ f 0 13
def textP (ps : List Bs) : Bs := if ps = [] then sAny else Lib.join ps [32]
noncomputable def textF (f : Flt) : Bs := if validB f then textP (parts f) else []
/-! the class of a word -/
def fixed : List (List Bs) := [zonesL.tail, whoL.tail, selfL.tail, (List.range 6).map typeW, (List.range 6).map fun k => sNon ++ typeW k, (List.range 5).map Col.name, (List.range 5).map fun k => sNon ++ Col.name k,
  [], (List.range 17).map fun k => sWith ++ Kw.name k, tapL.tail]
def cls (w : Bs) : Nat := if sSub.isPrefixOf w then 7 else if sPow.isPrefixOf w then 10 else if sTough.isPrefixOf w then 11 else if sVal.isPrefixOf w then 12 else if (fixed.findIdx fun l => l.contains w) < 10 then fixed.findIdx fun l => l.contains w else 13

/-- the place of w in a table whose first word is empty, or 0 -/
def hitAt (t : List Bs) (w : Bs) : Nat := if t.findIdx (fun s => !s.isEmpty && s == w) < t.length then t.findIdx (fun s => !s.isEmpty && s == w) else 0
theorem cls_zone : ∀ k, k < 6 → 0 < k → cls (zonesL.getD k []) = 0 ∧ hitAt zonesL (zonesL.getD k []) = k := by decide +kernel
theorem cls_who : ∀ k, k < 3 → 0 < k → cls (whoL.getD k []) = 1 ∧ hitAt whoL (whoL.getD k []) = k := by decide +kernel
theorem cls_self : ∀ k, k < 3 → 0 < k → cls (selfL.getD k []) = 2 ∧ hitAt selfL (selfL.getD k []) = k := by decide +kernel
theorem cls_tap : ∀ k, k < 3 → 0 < k → cls (tapL.getD k []) = 9 ∧ hitAt tapL (tapL.getD k []) = k := by decide +kernel
theorem cls_type : ∀ k, k < 6 → cls ([] ++ typeW k) = 3 := by decide +kernel
theorem cls_ntype : ∀ k, k < 6 → cls (sNon ++ typeW k) = 4 := by decide +kernel
theorem cls_color : ∀ k, k < 5 → cls ([] ++ Col.name k) = 5 := by decide +kernel
theorem cls_ncolor : ∀ k, k < 5 → cls (sNon ++ Col.name k) = 6 := by decide +kernel
theorem cls_key : ∀ k, k < 17 → cls (sWith ++ Kw.name k) = 8 := by decide +kernel
theorem pre_self (a b : Bs) : a.isPrefixOf (a ++ b) = true := List.isPrefixOf_iff_prefix.2 (List.prefix_append _ _)
theorem cls_sub (w : Bs) (h : sSub.isPrefixOf w = true) : cls w = 7 := by unfold cls; rw [if_pos h]
theorem pre_head {a w : Bs} (h : a.isPrefixOf w = true) : w.take a.length = a := by
  obtain ⟨t, rfl⟩ := List.isPrefixOf_iff_prefix.1 h
  simp
theorem pre_apart {a b w : Bs} (h : a.isPrefixOf w = true) (hab : (a.take b.length == b.take a.length) = false) : b.isPrefixOf w = false := by
  cases hb : b.isPrefixOf w with
  | false => rfl
  | true =>
    have h1 := pre_head h
    have h2 := pre_head hb
    have : a.take b.length = b.take a.length := by rw [← h1, ← h2, List.take_take, List.take_take, List.length_take, List.length_take]; congr 1; omega
    rw [this] at hab
    simp at hab
theorem cls_pow (w : Bs) (h : sPow.isPrefixOf w = true) : cls w = 10 := by
  unfold cls; rw [if_neg (by rw [pre_apart h (by decide)]; simp), if_pos h]
theorem cls_tough (w : Bs) (h : sTough.isPrefixOf w = true) : cls w = 11 := by
  unfold cls; rw [if_neg (by rw [pre_apart h (by decide)]; simp), if_neg (by rw [pre_apart h (by decide)]; simp), if_pos h]
theorem cls_val (w : Bs) (h : sVal.isPrefixOf w = true) : cls w = 12 := by
  unfold cls; rw [if_neg (by rw [pre_apart h (by decide)]; simp), if_neg (by rw [pre_apart h (by decide)]; simp), if_neg (by rw [pre_apart h (by decide)]; simp), if_pos h]

/-! the words of a segment are of its class -/
theorem within_iff {x hi : Int} : within x hi = true ↔ 0 ≤ x ∧ x ≤ hi := by simp [within]
structure Valid (f : Flt) : Prop where
  zone : 0 ≤ f.zone ∧ f.zone ≤ 5
  who : 0 ≤ f.who ∧ f.who ≤ 2
  self : 0 ≤ f.self ∧ f.self ≤ 2
  tap : 0 ≤ f.tap ∧ f.tap ≤ 2
  types : 0 ≤ f.types ∧ f.types ≤ 63
  ntypes : 0 ≤ f.ntypes ∧ f.ntypes ≤ 63
  colors : 0 ≤ f.colors ∧ f.colors ≤ 31
  ncolors : 0 ≤ f.ncolors ∧ f.ncolors ≤ 31
  sub : subB f.sub = true
  keys : 0 ≤ f.keys ∧ f.keys ≤ 131071
  pow : bdB f.pow = true
  tough : bdB f.tough = true
  val : bdB f.val = true
theorem valid_of {f : Flt} (h : validB f = true) : Valid f := by
  simp only [validB, masksB, Kw.validB, Bool.and_eq_true, within_iff, decide_eq_true_eq] at h
  obtain ⟨⟨⟨⟨⟨⟨⟨⟨⟨⟨h1, h2⟩, h3⟩, h4⟩, ⟨h5, h6⟩, -⟩, ⟨h7, h8⟩, -⟩, h9⟩, h10⟩, h11⟩, h12⟩, h13⟩ := h
  exact ⟨h1, h2, h3, h4, h5, h6, h7, h8, h9, h10, h11, h12, h13⟩
theorem mem_one {x w : Bs} (h : w ∈ one x) : w = x ∧ x ≠ [] := by
  unfold one at h
  split at h
  · cases h
  · rename_i h0
    exact ⟨by simpa using h, h0⟩
theorem mem_maskW {nm : Nat → Bs} {pre : Bs} {m n : Nat} {w : Bs} (h : w ∈ maskW nm pre m n) : ∃ k, k < n ∧ bitB m k = true ∧ w = pre ++ nm k := by
  unfold maskW at h
  obtain ⟨k, hk, rfl⟩ := List.mem_map.1 h
  have := List.mem_filter.1 hk
  exact ⟨k, by simpa using this.1, this.2, rfl⟩
theorem mem_tbl {l : List Bs} {n : Nat} {x : Int} {w : Bs} {c : Nat} (hl : l.getD 0 [] = []) (h0 : 0 ≤ x) (h1 : x < n) (hc : ∀ k, k < n → 0 < k → cls (l.getD k []) = c ∧ hitAt l (l.getD k []) = k) (h : w ∈ one (tbl l x)) :
    cls w = c := by
  obtain ⟨rfl, hne⟩ := mem_one h
  have : x.toNat ≠ 0 := fun e => hne (by unfold tbl; rw [e]; exact hl)
  exact (hc _ (by omega) (by omega)).1
theorem mem_bd {nm : Bs} {b : Bd} {w : Bs} (h : w ∈ one (bdW nm b)) : nm.isPrefixOf w = true := by
  obtain ⟨rfl, hne⟩ := mem_one h
  unfold bdW at *
  split at hne
  · exact absurd rfl hne
  · rename_i h0
    rw [if_neg h0, List.append_assoc]
    exact pre_self _ _
theorem seg_cls {f : Flt} (h : Valid f) (i : Nat) {w : Bs} (hw : w ∈ seg f i) : cls w = i := by
  match i, hw with
  | 0, hw => exact mem_tbl rfl h.zone.1 (by have := h.zone.2; omega) cls_zone hw
  | 1, hw => exact mem_tbl rfl h.who.1 (by have := h.who.2; omega) cls_who hw
  | 2, hw => exact mem_tbl rfl h.self.1 (by have := h.self.2; omega) cls_self hw
  | 3, hw => obtain ⟨k, hk, _, rfl⟩ := mem_maskW hw; exact cls_type k hk
  | 4, hw => obtain ⟨k, hk, _, rfl⟩ := mem_maskW hw; exact cls_ntype k hk
  | 5, hw => obtain ⟨k, hk, _, rfl⟩ := mem_maskW hw; exact cls_color k hk
  | 6, hw => obtain ⟨k, hk, _, rfl⟩ := mem_maskW hw; exact cls_ncolor k hk
  | 7, hw =>
    obtain ⟨rfl, hne⟩ := mem_one hw
    unfold subW at *
    split at hne
    · exact absurd rfl hne
    · rename_i h0
      rw [if_neg h0]
      exact cls_sub _ (pre_self _ _)
  | 8, hw => obtain ⟨k, hk, _, rfl⟩ := mem_maskW hw; exact cls_key k hk
  | 9, hw => exact mem_tbl rfl h.tap.1 (by have := h.tap.2; omega) cls_tap hw
  | 10, hw => exact cls_pow _ (mem_bd hw)
  | 11, hw => exact cls_tough _ (mem_bd hw)
  | 12, hw => exact cls_val _ (mem_bd hw)
  | n + 13, hw => cases hw
theorem from_cls {f : Flt} (h : Valid f) : ∀ (n i : Nat) {w : Bs}, w ∈ from_ f i n → i ≤ cls w
  | 0, _, _, hw => by cases hw
  | n + 1, i, w, hw => by
    rcases List.mem_append.1 hw with h1 | h1
    · rw [seg_cls h i h1]; exact Nat.le_refl _
    · exact Nat.le_of_succ_le (from_cls h n (i + 1) h1)
end Go.Proofs.YtkohfomiigcifaaGreatDoor.Fil
