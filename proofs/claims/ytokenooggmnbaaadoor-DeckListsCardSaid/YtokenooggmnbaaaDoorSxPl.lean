/-
  RUNS RECKONED AHEAD: what the taken-in contracts answer, by functions that the kernel reckons fast. By an AI agent.
-/
import Derived.Test.YtokenooggmnbaaaDoorWordPlain
import Derived.Test.YtokenooggmnbaaaDoorNumPlain
import Derived.Test.YtokenooggmnbaaaDoorNumText
import Derived.Lib.Join
import Derived.Lib.SlicesS
import Derived.Test.YtokenooggmnbaaaDoorSyL
namespace Go.Proofs.YtokenooggmnbaaaDoor
open Go.Sx (bEq bEq_eq)
def itoaN : Nat → Nat → List UInt8
  | 0, _ => []
  | f + 1, n => match Nat.blt n 10 with
    | true => [UInt8.ofNat (48 + n)]
    | false => itoaN f (n / 10) ++ [UInt8.ofNat (48 + n % 10)]
def itoaI (n : Int) : List UInt8 := match n with
  | .ofNat k => itoaN 20 k
  | .negSucc k => 45 :: itoaN 20 (k + 1)
theorem itoaN_eq : ∀ (f n : Nat), 0 < f → n < 10 ^ f → itoaN f n = Lib.decDigits n
  | 0, _, h, _ => absurd h (Nat.lt_irrefl 0)
  | f + 1, n, _, h => by
    unfold itoaN
    rw [Lib.decDigits]
    cases hb : Nat.blt n 10 with
    | true =>
      have hb : n < 10 := by simpa [Nat.blt_eq] using hb
      rw [dif_pos hb]
    | false =>
      have hb : ¬ n < 10 := by
        intro hlt
        have : Nat.blt n 10 = true := by simpa [Nat.blt_eq] using hlt
        rw [this] at hb
        cases hb
      rw [dif_neg hb]
      have hp : 10 ^ (f + 1) = 10 ^ f * 10 := Nat.pow_succ 10 f
      have hf : 0 < f := by
        rcases Nat.eq_zero_or_pos f with h0 | h0
        · subst h0
          simp at h
          omega
        · exact h0
      simp only
      rw [itoaN_eq f (n / 10) hf (by rw [Nat.div_lt_iff_lt_mul (by decide)]; omega)]
theorem itoaI_eq (n : Int) (h : n.natAbs < 100000000000000000000) : itoaI n = Lib.itoa n := by
  unfold itoaI Lib.itoa
  cases n with
  | ofNat k =>
    have h : k < 100000000000000000000 := h
    have h0 : ¬ (Int.ofNat k < 0) := by have : Int.ofNat k = (k : Int) := rfl; omega
    rw [if_neg h0]
    exact itoaN_eq 20 k (by decide) (by omega)
  | negSucc k =>
    have h : k + 1 < 100000000000000000000 := h
    rw [if_pos (Int.negSucc_lt_zero k)]
    show 45 :: itoaN 20 (k + 1) = 45 :: Lib.decDigits (k + 1)
    rw [itoaN_eq 20 (k + 1) (by decide) (by omega)]
def valN : List UInt8 → Nat → Option Nat
  | [], a => some a
  | b :: l, a => match Nat.ble 48 b.toNat, Nat.ble b.toNat 57 with
    | true, true => valN l (a * 10 + (b.toNat - 48))
    | _, _ => none
def numI (s : List UInt8) : Option Int := match s with
  | b :: l => match Nat.beq b.toNat 45 with
    | true => match valN l 0 with
      | some (n + 1) => some (.negSucc n)
      | _ => none
    | false => match valN (b :: l) 0 with
      | some n => some (.ofNat n)
      | none => none
  | [] => none
/-- a byte that no numeral has -/
def badB (b : UInt8) : Bool := match Nat.beq b.toNat 45, Nat.ble 48 b.toNat, Nat.ble b.toNat 57 with
  | true, _, _ => false
  | _, true, true => false
  | _, _, _ => true
def anyBad : List UInt8 → Bool
  | [] => false
  | b :: l => match badB b with
    | true => true
    | false => anyBad l
/-- a numeral's number, where the answer is plain: some none: there is none -/
def ansN (l : List UInt8) : Option (Option Int) := match numI l with
  | some n => match bEq (itoaI n) l, Nat.ble n.natAbs 1000000 with
    | true, true => some (some n)
    | _, _ => none
  | none => match l with
    | [] => some none
    | l => match anyBad l with
      | true => some none
      | false => none
theorem digs_ok (u : Nat) : Lib.decDigits u ≠ [] ∧ ∀ b ∈ Lib.decDigits u, badB b = false := by
  have one : ∀ d, d < 10 → badB (UInt8.ofNat (48 + d)) = false := by decide
  induction u using Nat.strongRecOn with
  | ind u ih =>
    rw [Lib.decDigits]
    split
    · rename_i h
      exact ⟨by simp, fun b hb => by
        rw [List.mem_singleton] at hb
        rw [hb]
        exact one u h⟩
    · rename_i h
      refine ⟨by simp, fun b hb => ?_⟩
      rw [List.mem_append, List.mem_singleton] at hb
      rcases hb with hb | hb
      · exact (ih (u / 10) (by omega)).2 b hb
      · rw [hb]
        exact one (u % 10) (Nat.mod_lt _ (by decide))
theorem itoa_ok (n : Int) : Lib.itoa n ≠ [] ∧ ∀ b ∈ Lib.itoa n, badB b = false := by
  unfold Lib.itoa
  split
  · refine ⟨by simp, fun b hb => ?_⟩
    rcases List.mem_cons.1 hb with rfl | hb
    · rfl
    · exact (digs_ok _).2 b hb
  · exact digs_ok _
theorem anyBad_mem : ∀ {l : List UInt8}, anyBad l = true → ∃ b ∈ l, badB b = true
  | [], h => by cases h
  | b :: l, h => by
    unfold anyBad at h
    split at h
    · rename_i hb
      exact ⟨b, List.mem_cons_self, hb⟩
    · obtain ⟨c, h1, h2⟩ := anyBad_mem h
      exact ⟨c, List.mem_cons_of_mem _ h1, h2⟩
theorem ansN_eq {l : List UInt8} {o : Option Int} (h : ansN l = some o) : Num.numberL l = o := by
  unfold ansN at h
  split at h
  · rename_i n hn
    split at h
    · rename_i h1 h2
      injection h with h
      subst h
      have h2 := Nat.le_of_ble_eq_true h2
      rw [bEq_eq] at h1
      have h1 := eq_of_beq h1
      rw [itoaI_eq n (by omega)] at h1
      exact Num.numberL_some.2 ⟨by omega, by omega, h1⟩
    · cases h
  · split at h
    · have h := Option.some.inj h
      rw [← h]
      exact Num.numberL_none fun n _ _ e => (itoa_ok n).1 e
    · split at h
      · rename_i hb
        injection h with h
        subst h
        obtain ⟨b, h1, h2⟩ := anyBad_mem hb
        exact Num.numberL_none fun n _ _ e => by
          have := (itoa_ok n).2 b (by rw [e]; exact h1)
          rw [this] at h2
          cases h2
      · cases h
def joinL (c : List UInt8) : List (List UInt8) → List UInt8
  | [] => []
  | [x] => x
  | x :: y :: l => x ++ (c ++ joinL c (y :: l))
theorem joinL_eq (c : List UInt8) : ∀ l, joinL c l = Lib.join l c
  | [] => rfl
  | [x] => by simp [joinL, Lib.join, List.intercalate]
  | x :: y :: l => by
    rw [joinL, joinL_eq c (y :: l)]
    simp [Lib.join, List.intercalate]
def depL (d : Nat) (b : UInt8) : Nat := match Nat.beq b.toNat 40 || Nat.beq b.toNat 91 with
  | true => d + 1
  | false => match Nat.beq b.toNat 41 || Nat.beq b.toNat 93 with
    | true => Nat.pred d
    | false => d
theorem beq8 (b : UInt8) (n : Nat) (hn : n < 256) : Nat.beq b.toNat n = decide (b = UInt8.ofNat n) := by
  rw [Bool.eq_iff_iff, Nat.beq_eq, decide_eq_true_eq]
  constructor
  · intro h
    rw [← h]
    simp
  · intro h
    rw [h]
    simp
    omega
theorem depL_eq (d : Nat) (b : UInt8) : depL d b = Wd.stepD d b := by
  unfold depL Wd.stepD
  rw [beq8 b 40 (by decide), beq8 b 91 (by decide), beq8 b 41 (by decide), beq8 b 93 (by decide)]
  show (match decide (b = 40) || decide (b = 91) with | true => d + 1 | false => match decide (b = 41) || decide (b = 93) with | true => Nat.pred d | false => d) = _
  by_cases h1 : b = 40 ∨ b = 91
  · rw [if_pos h1]
    rcases h1 with rfl | rfl <;> rfl
  · rw [if_neg h1]
    have e1 : (decide (b = 40) || decide (b = 91)) = false := by simpa using h1
    rw [e1]
    by_cases h2 : b = 41 ∨ b = 93
    · rw [if_pos h2]
      rcases h2 with rfl | rfl <;> rfl
    · rw [if_neg h2]
      have e2 : (decide (b = 41) || decide (b = 93)) = false := by simpa using h2
      rw [e2]
def preL : List UInt8 → List UInt8 → Option (List UInt8)
  | [], l => some l
  | _ :: _, [] => none
  | a :: p, b :: l => match Nat.beq a.toNat b.toNat with
    | true => preL p l
    | false => none
theorem preL_some : ∀ {p l r : List UInt8}, preL p l = some r → p.isPrefixOf l = true ∧ r = l.drop p.length
  | [], l, r, h => by
    injection h with h
    subst h
    exact ⟨by simp, rfl⟩
  | a :: p, [], r, h => by cases h
  | a :: p, b :: l, r, h => by
    unfold preL at h
    split at h
    · rename_i hb
      have : a = b := UInt8.toNat_inj.1 (Nat.eq_of_beq_eq_true hb)
      subst this
      obtain ⟨h1, h2⟩ := preL_some h
      exact ⟨by simp [List.isPrefixOf, h1], h2⟩
    · cases h
theorem preL_none : ∀ {p l : List UInt8}, preL p l = none → p.isPrefixOf l = false
  | [], l, h => by cases h
  | a :: p, [], h => rfl
  | a :: p, b :: l, h => by
    unfold preL at h
    split at h
    · rename_i hb
      have : a = b := UInt8.toNat_inj.1 (Nat.eq_of_beq_eq_true hb)
      subst this
      simp [List.isPrefixOf, preL_none h]
    · rename_i hb
      have : ¬ a = b := fun e => by
        rw [e, Nat.beq_refl] at hb
        cases hb
      simp [List.isPrefixOf, this]
def cutG (by_ : List UInt8) : Nat → List UInt8 → List UInt8 → Option (List UInt8 × List UInt8)
  | _, _, [] => none
  | d, acc, b :: l => match Nat.beq d 0, preL by_ (b :: l) with
    | true, some r => some (acc.reverse, r)
    | _, _ => cutG by_ (depL d b) (b :: acc) l
theorem cutG_spec (by_ L : List UInt8) : ∀ (l acc : List UInt8) (d : Nat), L = acc.reverse ++ l → d = Wd.depAt L acc.length → (∀ j, j < acc.length → Wd.cutP L by_ j = false) →
    (∀ x, cutG by_ d acc l = some x → ∃ k, k < L.length ∧ Wd.cutP L by_ k = true ∧ (∀ j, j < k → Wd.cutP L by_ j = false) ∧ x = (L.take k, L.drop (k + by_.length))) ∧ (cutG by_ d acc l = none → ∀ j, j < L.length → Wd.cutP L by_ j = false)
  | [], acc, d, hL, hd, hn => by
    refine ⟨fun x h => (by cases h), fun _ j hj => hn j ?_⟩
    rw [hL] at hj
    simpa using hj
  | b :: l, acc, d, hL, hd, hn => by
    have hdrop : L.drop acc.length = b :: l := by rw [hL]; simp
    have htake : L.take acc.length = acc.reverse := by rw [hL]; simp
    have hlen : acc.length < L.length := by rw [hL]; simp
    have next : (match Nat.beq d 0, preL by_ (b :: l) with | true, some _ => true | _, _ => false) = false → Wd.cutP L by_ acc.length = false := by
      intro h
      unfold Wd.cutP
      rw [← hd, hdrop]
      cases hb : Nat.beq d 0 with
      | false =>
        have : ¬ d = 0 := Nat.ne_of_beq_eq_false hb
        simp [this]
      | true =>
        rw [hb] at h
        cases hp : preL by_ (b :: l) with
        | none => simp [preL_none hp]
        | some r => rw [hp] at h; cases h
    have rec_ := fun (h : Wd.cutP L by_ acc.length = false) => cutG_spec by_ L l (b :: acc) (depL d b) (by rw [hL]; simp) (by
      rw [depL_eq, hd]
      show _ = Wd.stepD (Wd.depAt L acc.length) (L.getD acc.length 0)
      congr 1
      rw [hL]
      simp [List.getD]) (fun j hj => by
      rcases (by simp at hj; omega : j < acc.length ∨ j = acc.length) with h1 | h1
      · exact hn j h1
      · rw [h1]; exact h)
    unfold cutG
    split
    · rename_i r hb hp
      obtain ⟨h1, h2⟩ := preL_some hp
      refine ⟨fun x h => ?_, fun h => (by cases h)⟩
      injection h with h
      subst h
      refine ⟨acc.length, hlen, ?_, hn, ?_⟩
      · unfold Wd.cutP
        rw [← hd, hdrop, Nat.eq_of_beq_eq_true hb, h1]
        rfl
      · rw [htake, h2, ← hdrop, List.drop_drop]
    · rename_i hne
      refine rec_ (next ?_)
      cases hb : Nat.beq d 0 with
      | false => rfl
      | true =>
        cases hp : preL by_ (b :: l) with
        | none => rfl
        | some r => exact absurd hp (hne r hb)
/-- word.Cut's answer -/
def ansC (s by_ : List UInt8) : List UInt8 × List UInt8 × Bool := match by_ with
  | [] => (s, [], false)
  | by_ => match cutG by_ 0 [] s with
    | some (a, b) => (a, b, true)
    | none => (s, [], false)
theorem ansC_eq (s by_ : List UInt8) : ansC s by_ = Wd.cut s by_ := by
  unfold ansC
  split
  · rw [Wd.cut_nil]
  · rename_i h
    have hne : by_ ≠ [] := fun e => h e
    obtain ⟨h1, h2⟩ := cutG_spec by_ s s [] 0 rfl rfl (fun j hj => absurd hj (Nat.not_lt_zero j))
    split
    · rename_i a b hc
      obtain ⟨k, g1, g2, g3, g4⟩ := h1 _ hc
      injection g4 with g4 g5
      rw [Wd.cut_some hne g1 g2 g3, g4, g5]
    · rename_i hc
      rw [Wd.cut_none hne (h2 hc)]
def idxG (s : List UInt8) : Nat → List (List UInt8) → Int
  | _, [] => -1
  | i, x :: l => match bEq x s with
    | true => .ofNat i
    | false => idxG s (i + 1) l
theorem idxG_eq (s : List UInt8) : ∀ (l : List (List UInt8)) (i : Nat), idxG s i l = Lib.idxFromS (l.map fun x => ⟨x.toArray⟩) ⟨s.toArray⟩ i
  | [], _ => rfl
  | x :: l, i => by
    unfold idxG
    rw [List.map_cons, Lib.idxFromS, bEq_eq]
    by_cases h : x = s
    · subst h
      simp
    · have h1 : (x == s) = false := by simpa using h
      have h2 : ¬ ((⟨x.toArray⟩ : ByteArray) = ⟨s.toArray⟩) := by
        intro e
        injection e with e
        exact h (by simpa using congrArg Array.toList e)
      rw [h1, if_neg h2]
      exact idxG_eq s l (i + 1)
end Go.Proofs.YtokenooggmnbaaaDoor
