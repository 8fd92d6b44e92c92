/-
  THE TEXT OF A COST, PLAIN; no program in it. By an AI agent.
-/
import Derived.Test.YtcllaenanihedaaDoorManaPlain
namespace Go.Proofs.YtcllaenanihedaaDoor.Mana
open Go

/-- the colours' letters -/
def letter : Nat → UInt8
  | 0 => 65
  | 1 => 67
  | 2 => 74
  | 3 => 82
  | _ => 69
def rep (b : UInt8) (n : Int) : List UInt8 := List.replicate n.toNat b
/-- generic mana, as it is written -/
def genL (g : Int) : List UInt8 := if 0 < g then Lib.itoa g else []
/-- the letters of the colours below k -/
def lettersTo (c : Cst) : Nat → List UInt8
  | 0 => []
  | k + 1 => lettersTo c k ++ rep (letter k) (c.col k)
def bodyTo (c : Cst) (k : Nat) : List UInt8 := rep 88 c.x ++ genL c.g ++ lettersTo c k
/-- the text; the empty one for what is not valid -/
def textL (c : Cst) : List UInt8 := if okC c = true then (if bodyTo c 5 = [] then [48] else bodyTo c 5) else []
theorem rep_len (b : UInt8) {n m : Int} (h : n ≤ m) : ((rep b n).length : Int) ≤ max m 0 := by simp [rep]; omega
theorem rep_len9 (b : UInt8) {n : Int} (h : n ≤ 9) : (rep b n).length ≤ 9 := by simp [rep]; omega
theorem gen_len {g : Int} (h1 : g ≤ 99) : (genL g).length ≤ 2 := by
  unfold genL
  split
  · rename_i h
    rw [Num.itoa_nonneg (by omega)]
    exact Num.decDigits_len 1 g.toNat (by omega)
  · simp
theorem letters_len {c : Cst} (h : okC c = true) : ∀ k, (lettersTo c k).length ≤ 9 * k
  | 0 => by simp [lettersTo]
  | k + 1 => by
    have h1 := letters_len h k
    have h2 := rep_len9 (letter k) (okC_col h k).2
    simp only [lettersTo, List.length_append]
    omega
theorem body_len {c : Cst} (h : okC c = true) (k : Nat) (hk : k ≤ 5) : (bodyTo c k).length ≤ 49 := by
  have h1 := letters_len h k
  have h2 := gen_len (okC_iff.1 h).1.2
  have h3 : (rep 88 c.x).length ≤ 2 := by have := (okC_iff.1 h).2.1.2; simp [rep]; omega
  simp only [bodyTo, List.length_append]
  omega
theorem body_zero (c : Cst) : bodyTo c 0 = rep 88 c.x ++ genL c.g := by simp [bodyTo, lettersTo]
theorem body_succ (c : Cst) (k : Nat) : bodyTo c (k + 1) = bodyTo c k ++ rep (letter k) (c.col k) := by simp [bodyTo, lettersTo]
theorem text_no {c : Cst} (h : okC c = false) : textL c = [] := by unfold textL; rw [h]; rfl
theorem text_nil {c : Cst} (h : okC c = true) (hb : bodyTo c 5 = []) : textL c = [48] := by unfold textL; rw [h, if_pos rfl, if_pos hb]
theorem text_body {c : Cst} (h : okC c = true) (hb : bodyTo c 5 ≠ []) : textL c = bodyTo c 5 := by unfold textL; rw [h, if_pos rfl, if_neg hb]
theorem rep_succ (b : UInt8) (n : Nat) : rep b ((n + 1 : Nat) : Int) = rep b (n : Int) ++ [b] := by
  simp only [rep, Int.toNat_natCast]
  exact List.replicate_succ'
theorem rep_zero (b : UInt8) : rep b 0 = [] := rfl
/-! reading by counting -/
/-- what the counts of the letters of l come to, and the number between them -/
def genOf (l : List UInt8) : Int := (Num.numberL (Lib.trimS l [88, 65, 67, 74, 82, 69])).getD 0
def countC (l : List UInt8) : Cst :=
  { g := genOf l, x := (Lib.countByte l 88 : Nat), c0 := (Lib.countByte l 65 : Nat), c1 := (Lib.countByte l 67 : Nat), c2 := (Lib.countByte l 74 : Nat), c3 := (Lib.countByte l 82 : Nat), c4 := (Lib.countByte l 69 : Nat) }
def zeroC : Cst := ⟨0, 0, 0, 0, 0, 0, 0⟩
/-- a cost and an error, as both parsers give them -/
def parseC (l : List UInt8) : Cst := if textL (countC l) = l then countC l else zeroC
def parseE (l : List UInt8) : Int := if textL (countC l) = l then 0 else 3
/-- the counts of the first k letters laid -/
def countTo (l : List UInt8) : Nat → Cst
  | 0 => { zeroC with x := (Lib.countByte l 88 : Nat) }
  | k + 1 => (countTo l k).setCol k (Lib.countByte l (letter k) : Nat)
theorem countTo_five (l : List UInt8) : countTo l 5 = { countC l with g := 0 } := rfl
/-! the reference's scan -/
/-- the first letter from k on that is b -/
def findL (b : UInt8) (k : Nat) : Nat → Option Nat
  | 0 => none
  | n + 1 => if letter k = b then some k else findL b (k + 1) n
/-- a symbol added to a cost; none: it is no symbol -/
def addSym (c : Cst) (b : UInt8) : Option Cst :=
  if b = 88 then some { c with x := c.x + 1 }
  else if 48 ≤ b.toNat ∧ b.toNat ≤ 57 then some { c with g := 10 * c.g + ((b.toNat : Int) - 48) }
  else (findL b 0 5).map fun k => c.setCol k (c.col k + 1)
/-- what the reference has read of l; none: it has stopped -/
def scanC : Cst → List UInt8 → Option Cst
  | c, [] => some c
  | c, b :: r => match addSym c b with
    | some d => if 99 < d.g then none else scanC d r
    | none => none
/-- numbers that cannot pass the kind's bounds -/
structure Small (c : Cst) (n : Nat) : Prop where
  g : 0 ≤ c.g ∧ c.g ≤ 99
  x : 0 ≤ c.x ∧ c.x ≤ n
  col : ∀ k, 0 ≤ c.col k ∧ c.col k ≤ n
theorem findL_lt {b : UInt8} : ∀ (n k j : Nat), findL b k n = some j → k ≤ j ∧ j < k + n
  | 0, _, _, h => by cases h
  | n + 1, k, j, h => by
    unfold findL at h
    split at h
    · injection h with h; omega
    · have := findL_lt n (k + 1) j h; omega
theorem Small.zero : Small zeroC 0 := ⟨⟨by decide, by decide⟩, ⟨by decide, by decide⟩, fun k => by
  match k with
  | 0 => exact ⟨Int.le_refl _, Int.le_refl _⟩
  | 1 => exact ⟨Int.le_refl _, Int.le_refl _⟩
  | 2 => exact ⟨Int.le_refl _, Int.le_refl _⟩
  | 3 => exact ⟨Int.le_refl _, Int.le_refl _⟩
  | 4 => exact ⟨Int.le_refl _, Int.le_refl _⟩
  | k + 5 => exact ⟨Int.le_refl _, Int.le_refl _⟩⟩
theorem setCol_g (c : Cst) (k : Nat) (v : Int) : (c.setCol k v).g = c.g := by unfold Cst.setCol; split <;> rfl
theorem setCol_x (c : Cst) (k : Nat) (v : Int) : (c.setCol k v).x = c.x := by unfold Cst.setCol; split <;> rfl
theorem Small.next {c d : Cst} {n : Nat} {b : UInt8} (h : Small c n) (hd : addSym c b = some d) (hg : ¬ 99 < d.g) : Small d (n + 1) := by
  have h1 := h.g; have h2 := h.x
  unfold addSym at hd
  split at hd
  · injection hd with hd; subst hd
    exact ⟨h1, ⟨by show 0 ≤ c.x + 1; omega, by show c.x + 1 ≤ _; omega⟩, fun k => by have := h.col k; exact ⟨this.1, by have := this.2; show c.col k ≤ _; omega⟩⟩
  · split at hd
    · injection hd with hd; subst hd
      exact ⟨⟨by show 0 ≤ 10 * c.g + _; omega, by omega⟩, ⟨h2.1, by have := h2.2; show c.x ≤ _; omega⟩, fun k => by have := h.col k; exact ⟨this.1, by have := this.2; show c.col k ≤ _; omega⟩⟩
    · rw [Option.map_eq_some_iff] at hd
      obtain ⟨k, hk, rfl⟩ := hd
      have hk5 := findL_lt 5 0 k hk
      refine ⟨by rw [setCol_g]; exact h1, by rw [setCol_x]; exact ⟨h2.1, by have := h2.2; omega⟩, fun j => ?_⟩
      by_cases e : k = j
      · subst e
        rw [Cst.col_set c _ (by omega)]
        have := h.col k
        exact ⟨by omega, by omega⟩
      · rw [Cst.col_set_ne c _ e]
        have := h.col j
        exact ⟨this.1, by omega⟩
/-- the reference's parse -/
def refC (l : List UInt8) : Cst := if 60 < l.length then zeroC else match scanC zeroC l with
  | some c => if l ≠ [] ∧ textL c = l then c else zeroC
  | none => zeroC
def refE (l : List UInt8) : Int := if 60 < l.length then 3 else match scanC zeroC l with
  | some c => if l ≠ [] ∧ textL c = l then 0 else 3
  | none => 3
theorem ref_long {l : List UInt8} (h : 60 < l.length) : refC l = zeroC ∧ refE l = 3 := by unfold refC refE; rw [if_pos h, if_pos h]; exact ⟨rfl, rfl⟩
theorem ref_stop {l : List UInt8} (h : ¬ 60 < l.length) (hs : scanC zeroC l = none) : refC l = zeroC ∧ refE l = 3 := by unfold refC refE; rw [if_neg h, if_neg h, hs]; exact ⟨rfl, rfl⟩
theorem ref_bad {l : List UInt8} {c : Cst} (h : ¬ 60 < l.length) (hs : scanC zeroC l = some c) (hb : ¬ (l ≠ [] ∧ textL c = l)) : refC l = zeroC ∧ refE l = 3 := by
  unfold refC refE; rw [if_neg h, if_neg h, hs]; simp only []; rw [if_neg hb, if_neg hb]; exact ⟨rfl, rfl⟩
theorem ref_good {l : List UInt8} {c : Cst} (h : ¬ 60 < l.length) (hs : scanC zeroC l = some c) (hb : l ≠ [] ∧ textL c = l) : refC l = c ∧ refE l = 0 := by
  unfold refC refE; rw [if_neg h, if_neg h, hs]; simp only []; rw [if_pos hb, if_pos hb]; exact ⟨rfl, rfl⟩
theorem scan_stop {c : Cst} {b : UInt8} {r : List UInt8} (h : addSym c b = none) : scanC c (b :: r) = none := by rw [scanC, h]
theorem scan_big {c d : Cst} {b : UInt8} {r : List UInt8} (h : addSym c b = some d) (hg : 99 < d.g) : scanC c (b :: r) = none := by rw [scanC, h]; simp only []; rw [if_pos hg]
theorem scan_go {c d : Cst} {b : UInt8} {r : List UInt8} (h : addSym c b = some d) (hg : ¬ 99 < d.g) : scanC c (b :: r) = scanC d r := by rw [scanC, h]; simp only []; rw [if_neg hg]
/-! pools as costs -/
def poolC (p : Pl) : Cst := ⟨p.p0, 0, p.p1, p.p2, p.p3, p.p4, p.p5⟩
def costP (c : Cst) : Pl := ⟨c.g, c.c0, c.c1, c.c2, c.c3, c.c4⟩
def poolTo (p : Pl) : Nat → Cst
  | 0 => { zeroC with g := p.p0 }
  | k + 1 => (poolTo p k).setCol k (p.el (k + 1))
theorem poolTo_five (p : Pl) : poolTo p 5 = poolC p := rfl
def costTo (c : Cst) : Nat → Pl
  | 0 => { zeroP with p0 := c.g }
  | k + 1 => (costTo c k).set (k + 1) (c.col k)
theorem costTo_five (c : Cst) : costTo c 5 = costP c := rfl
end Go.Proofs.YtcllaenanihedaaDoor.Mana
