/-
  RUNS RECKONED AHEAD: the contracts that are taken in: num.Number, num.Text, word.Join, word.Cut, word.Index, strings.Count of one byte, strings.Contains. By an AI agent.
-/
import Derived.Test.YtlgdmncioakkjaaGreatDoorSxPl
import Derived.Test.YtlgdmncioakkjaaGreatDoorFNum
import Derived.Test.YtlgdmncioakkjaaGreatDoorFWordI
namespace Go.Proofs.YtlgdmncioakkjaaGreatDoor
open Go.RowKit Go.Sx
def strsOf : List Value → Option (List (List UInt8))
  | [] => some []
  | .string s :: l => match strsOf l with
    | some r => some (s.data.toList :: r)
    | none => none
  | _ => none
/-- a row of strings that is known -/
def rowS (m : AM) (a : Addr) (n c : Nat) : Option (List (List UInt8)) := match cellsAt m a n, Nat.ble n 100000, (match Nat.blt c K with | true => Nat.ble n c && Nat.ble c 9223372036854775807 | false => Nat.blt 0 n) with
  | some l, true, true => strsOf l
  | _, _, _ => none
def shortB (l : List UInt8) : Bool := Nat.ble l.length 1000000
/-- how often a byte stands in a text -/
def cntG (b : UInt8) : Nat → List UInt8 → Nat
  | n, [] => n
  | n, x :: l => match Nat.beq x.toNat b.toNat with
    | true => cntG b (n + 1) l
    | false => cntG b n l
theorem cntG_eq (b : UInt8) : ∀ (l : List UInt8) (n : Nat), cntG b n l = n + Lib.countByte l b
  | [], n => rfl
  | x :: l, n => by
    unfold cntG Lib.countByte
    rw [List.count_cons]
    split
    · rename_i h
      have : x = b := UInt8.toNat_inj.1 (Nat.eq_of_beq_eq_true h)
      subst this
      rw [cntG_eq x l]
      simp [Lib.countByte]
      omega
    · rename_i h
      have : x ≠ b := fun e => by
        subst e
        rw [Nat.beq_refl] at h
        cases h
      rw [cntG_eq b l]
      simp [Lib.countByte, this]
/-- whether a text holds another -/
def hasG (t : List UInt8) : List UInt8 → Bool
  | [] => t.isEmpty
  | b :: l => match preL t (b :: l) with
    | some _ => true
    | none => hasG t l
theorem hasG_eq (t : List UInt8) : ∀ (s : List UInt8), hasG t s = Lib.contains s t
  | [] => by
    unfold hasG Lib.contains Lib.index
    cases t <;> rfl
  | b :: l => by
    unfold hasG
    have ih := hasG_eq t l
    unfold Lib.contains at ih ⊢
    unfold Lib.index
    split
    · rename_i h
      rw [(preL_some h).1]
      rfl
    · rename_i h
      rw [preL_none h, ih]
      have h1 := Lib.index_ge l t
      simp only [Bool.false_eq_true, if_false]
      by_cases h2 : Lib.index l t = -1
      · rw [h2]; rfl
      · have : (Lib.index l t == -1) = false := by rw [beq_eq_false_iff_ne]; exact h2
        rw [this]
        simp only [Bool.false_eq_true, if_false]
        exact decide_eq_decide.2 (by omega)
abbrev EnvX (w : World) : Prop := EnvN w ∧ LenEnv w
theorem EnvX.below {w w' : World} (h : EnvX w) (hb : Below w.heap.size w w') : EnvX w' := ⟨EnvN.below h.1 hb, LenEnv.below h.2 hb⟩
def envP : EnvP := fun f args m => match f, args with
  | 33, ⟨[.string s]⟩ => match shortB s.data.toList, ansN s.data.toList with
    | true, some (some n) => some (.tuple #[.int .i64 n, .bool true])
    | true, some none => some (.tuple #[.int .i64 0, .bool false])
    | _, _ => none
  | 43, ⟨[.int .i64 n]⟩ => match Nat.ble n.natAbs 1000000000 with
    | true => some (.string ⟨⟨itoaI n⟩⟩)
    | false => none
  | 74, ⟨[.slice (some a) n c, .string s]⟩ => match rowS m a n c with
    | some q => match shortB (joinL s.data.toList q) with
      | true => some (.string ⟨⟨joinL s.data.toList q⟩⟩)
      | false => none
    | none => none
  | 103, ⟨[.string s, .string t]⟩ => match shortB s.data.toList, shortB t.data.toList, ansC s.data.toList t.data.toList with
    | true, true, (a, b, ok) => some (.tuple #[.string ⟨⟨a⟩⟩, .string ⟨⟨b⟩⟩, .bool ok])
    | _, _, _ => none
  | 106, ⟨[.slice (some a) n c, .string s]⟩ => match rowS m a n c with
    | some q => some (.int .i64 (idxG s.data.toList 0 q))
    | none => none
  | 64, ⟨[.string s, .string t]⟩ => match t.data.toList with
    | [b] => some (.int .i64 (cntG b 0 s.data.toList : Nat))
    | _ => none
  | 54, ⟨[.string s, .string t]⟩ => match shortB s.data.toList with
    | true => some (.bool (hasG t.data.toList s.data.toList))
    | false => none
  | _, _ => none
theorem strsOf_eq : ∀ {l : List Value} {q : List (List UInt8)}, strsOf l = some q → l = q.map str
  | [], q, h => by
    injection h with h
    subst h
    rfl
  | v :: l, q, h => by
    cases v <;> first
      | (rename_i s
         unfold strsOf at h
         split at h
         · rename_i r hr
           injection h with h
           subst h
           rw [List.map_cons, ← strsOf_eq hr]
           rfl
         · cases h)
      | cases h
theorem strs_of [Th] {P : Program} {G : Nat} {W : World} {r : List Nat} {m : AM} {w : World} (hw : Wd P G W r m w) {a : Addr} {n c : Nat} {v : Value} (hv : V2 r (.slice (some a) n c) v) {q : List (List UInt8)} (h : rowS m a n c = some q) (h0 : a.spot = none) : q.length = n ∧ Strs w v q := by
  unfold rowS at h
  split at h
  · rename_i l hl hn hc
    have hq := strsOf_eq h
    obtain ⟨b, c', rfl, hb, hcap⟩ := hv
    have hb := hb.ar (by
      cases e : Nat.blt c K with
      | true => exact .inr (by simpa [Nat.blt_eq] using e)
      | false => rw [e] at hc; exact .inl (by simpa [Nat.blt_eq] using hc))
    obtain ⟨l', h1, h2, h3⟩ := cellsAt_sound hw hb hl
    have hlen : q.length = n := by rw [← h2, hq]; simp
    have hl' : l' = l := by
      have : l'.toArray = l.toArray := h1.eq fun u x hu hx => dry_eq hx (by
        rw [hq] at hu
        simp only [List.mem_toArray, List.mem_map] at hu
        obtain ⟨s, -, rfl⟩ := hu
        rfl)
      simpa using this
    subst hl'
    refine ⟨hlen, ?_⟩
    have hnc : n ≤ c' ∧ c' ≤ maxLen := by
      rcases hcap with ⟨k1, k2⟩ | ⟨k1, k2, k3⟩
      · have e : Nat.blt c K = true := by simpa [Nat.blt_eq] using k1
        rw [e] at hc
        simp only [Bool.and_eq_true] at hc
        have g1 := Nat.le_of_ble_eq_true hc.1
        have g2 := Nat.le_of_ble_eq_true hc.2
        rw [k2]
        exact ⟨g1, g2⟩
      · exact k3
    refine ⟨some b, c', by rw [hlen], by rw [hlen]; exact hnc.1, hnc.2, fun i x hx => ?_⟩
    have hc := h3 i (str x) (by rw [hq, List.getElem?_map, hx]; rfl)
    have hbs : b.spot = none := by rw [hb.2.2]; exact h0
    have e : b.add i = ⟨b.block, b.off + i, none⟩ := by
      obtain ⟨e1, e2, e3⟩ := add_eq b hbs i
      cases hbi : b.add i with
      | mk x y z =>
        rw [hbi] at e1 e2 e3
        simp only at e1 e2 e3
        rw [e1, e2, e3]
    rw [e] at hc
    refine ⟨b.block, b.off, ?_, ?_, hc⟩
    · obtain ⟨x, y, z⟩ := b
      simp only at hbs
      rw [hbs]
    · unfold World.cell? at hc
      split at hc
      · rename_i hh
        exact (Array.getElem?_eq_some_iff.1 hh).1
      · cases hc
  · cases h
theorem rowS_spot {m : AM} {a : Addr} {n c : Nat} {q : List (List UInt8)} (h : rowS m a n c = some q) : a.spot = none := by
  unfold rowS at h
  split at h
  · rename_i l hl _ _
    unfold cellsAt at hl
    split at hl
    · assumption
    · cases hl
  · cases h
theorem rowS_len {m : AM} {a : Addr} {n c : Nat} {q : List (List UInt8)} (h : rowS m a n c = some q) : n ≤ 100000 := by
  unfold rowS at h
  split at h
  · rename_i l hl hn _
    exact Nat.le_of_ble_eq_true hn
  · cases h
theorem lit1 [Th] {r : List Nat} {u : Value} {args' : Array Value} (h : All (V2 r) #[u] args') (hd : still u = true) : args' = #[u] := by
  exact h.eq fun x y hx hxy => still_eq hxy (by
    simp only [List.mem_toArray, List.mem_singleton] at hx
    rw [hx]
    exact hd)
theorem lit2 [Th] {r : List Nat} {u v : Value} {args' : Array Value} (h : All (V2 r) #[u, v] args') (hv : still v = true) : ∃ u', args' = #[u', v] ∧ V2 r u u' := by
  obtain ⟨l⟩ := args'
  obtain ⟨x, l2, e, hx, hl⟩ := h.cons
  injection e with e
  subst e
  obtain ⟨y, l3, e, hy, hl3⟩ := hl.cons
  injection e with e
  subst e
  have : l3 = [] := by simpa using hl3.1.symm
  subst this
  rw [still_eq hy hv]
  exact ⟨x, rfl, hx⟩
theorem short_size {s : ByteArray} (h : shortB s.data.toList = true) : s.size ≤ 1000000 := by
  have h1 : s.data.toList.length ≤ 1000000 := Nat.le_of_ble_eq_true h
  rw [Array.length_toList] at h1
  exact h1
theorem envP_ok [Th] {G : Nat} {W : World} (hX : EnvX W) : EnvPOk Tryz.prog G W envP := by
  intro f args m v e r w args' ha hw hB
  have hE : EnvN W := hX.1
  have hEw : EnvN w := hE.below hw.low
  obtain ⟨ml, hml⟩ := LenEnv.below hX.2 hw.low
  have two : ∀ s t : ByteArray, All (V2 r) #[.string s, .string t] args' → args' = #[.string s, .string t] := fun s t ha => ha.eq fun x y hx hxy => still_eq hxy (by
      simp only [List.mem_toArray, List.mem_cons, List.not_mem_nil, or_false] at hx
      rcases hx with rfl | rfl <;> rfl)
  unfold envP at e
  split at e
  · rename_i s
    have := lit1 ha rfl
    subst this
    split at e
    · rename_i n hs hn
      injection e with e
      subst e
      refine (numNumber s ?_ w hEw).mono ?_
      · have := short_size hs
        omega
      · rintro e w' ⟨h1, h2⟩
        unfold numRes at h1
        rw [ansN_eq hn] at h1
        exact ⟨_, h1, still3_V3 (by simp [still3, still, dry]), h2⟩
    · rename_i hs hn
      injection e with e
      subst e
      refine (numNumber s ?_ w hEw).mono ?_
      · have := short_size hs
        omega
      · rintro e w' ⟨h1, h2⟩
        unfold numRes at h1
        rw [ansN_eq hn] at h1
        exact ⟨_, h1, still3_V3 (by simp [still3, still, dry]), h2⟩
    · cases e
  · rename_i n
    have := lit1 ha rfl
    subst this
    split at e
    · rename_i hn
      injection e with e
      subst e
      have hn := Nat.le_of_ble_eq_true hn
      refine (numText n (by omega) (by omega) w hEw).mono ?_
      rintro e w' ⟨h1, h2⟩
      rw [← itoaI_eq n (by omega)] at h1
      exact ⟨_, h1, still3_V3 (by simp [still3, still, dry]), h2⟩
    · cases e
  · rename_i a n c s
    obtain ⟨u', rfl, hu⟩ := lit2 ha rfl
    split at e
    · rename_i q hq
      split at e
      · rename_i hsh
        injection e with e
        subst e
        have hsp : a.spot = none := rowS_spot hq
        obtain ⟨hl, hs⟩ := strs_of hw hu hq hsp
        have hj : (joinL s.data.toList q).length ≤ 1000000 := Nat.le_of_ble_eq_true hsh
        rw [joinL_eq] at hj ⊢
        refine (wordJoin u' q s w hs ?_ (by omega)).mono ?_
        · rw [hl]
          exact Nat.le_trans (rowS_len hq) (by decide)
        · rintro e w' ⟨h1, h2⟩
          exact ⟨_, h1, still3_V3 (by simp [still3, still, dry]), h2⟩
      · cases e
    · cases e
  · rename_i s t
    have hargs : args' = #[.string s, .string t] := ha.eq fun x y hx hxy => still_eq hxy (by
      simp only [List.mem_toArray, List.mem_cons, List.not_mem_nil, or_false] at hx
      rcases hx with rfl | rfl <;> rfl)
    subst hargs
    split at e
    · rename_i p q ok h1 h2 h3
      injection e with e
      subst e
      have g1 := short_size h1
      have g2 := short_size h2
      refine (wordCutFar s t w (by omega) (by omega)).mono ?_
      rintro e w' ⟨k1, k2⟩
      rw [← ansC_eq, h3] at k1
      exact ⟨_, k1, still3_V3 (by simp [still3, still, dry]), k2⟩
    · cases e
  · rename_i a n c s
    obtain ⟨u', rfl, hu⟩ := lit2 ha rfl
    split at e
    · rename_i q hq
      injection e with e
      subst e
      have hsp : a.spot = none := rowS_spot hq
      obtain ⟨hl, hs⟩ := strs_of hw hu hq hsp
      refine (wordIndex u' q s w hs).mono ?_
      rintro e w' ⟨h1, h2⟩
      refine ⟨_, h1, ?_, h2 ▸ Below.refl _ _⟩
      have : idx q s.data.toList = idxG s.data.toList 0 q := by
        rw [idxG_eq]
        rfl
      rw [this]
      exact still3_V3 (by simp [still3, still, dry])
    · cases e
  · rename_i s t
    have := two s t ha
    subst this
    split at e
    · rename_i b hb
      injection e with e
      subst e
      have et : t = ⟨#[b]⟩ := by
        obtain ⟨⟨l⟩⟩ := t
        have : l = [b] := hb
        rw [this]
      subst et
      refine (Tryz.strings_Count_one s b w).mono ?_
      rintro e w' ⟨h1, rfl⟩
      refine ⟨_, h1, ?_, Below.refl _ _⟩
      rw [cntG_eq, Nat.zero_add]
      exact still3_V3 (by simp [still3, still, dry])
    · cases e
  · rename_i s t
    have := two s t ha
    subst this
    split at e
    · rename_i hs
      injection e with e
      subst e
      have := short_size hs
      refine (Tryz.strings_Contains s t ml w (by omega) hml).mono ?_
      rintro e w' ⟨h1, rfl⟩
      refine ⟨_, h1, ?_, Below.refl _ _⟩
      rw [hasG_eq]
      exact still3_V3 (by simp [still3, still, dry])
    · cases e
  · cases e
end Go.Proofs.YtlgdmncioakkjaaGreatDoor
