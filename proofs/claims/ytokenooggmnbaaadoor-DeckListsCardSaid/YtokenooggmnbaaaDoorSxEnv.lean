/-
  RUNS RECKONED AHEAD: the contracts that are taken in: num.Number, num.Text, word.Join, word.Cut, word.Index, strings.Contains. By an AI agent.
-/
import Derived.Test.YtokenooggmnbaaaDoorSxPl
import Derived.Test.YtokenooggmnbaaaDoorFNum
import Derived.Test.YtokenooggmnbaaaDoorFWordI
namespace Go.Proofs.YtokenooggmnbaaaDoor
open Go.RowKit Go.Sx
def strsOf : List Value → Option (List (List UInt8))
  | [] => some []
  | .string s :: l => match strsOf l with
    | some r => some (s.data.toList :: r)
    | none => none
  | _ => none
/-- a row of strings that is known -/
def rowS (m : AM) (a : Addr) (n c : Nat) : Option (List (List UInt8)) := match cellsAt m a n, Nat.ble n 100000, (match Nat.blt c K with | true => Nat.ble n c && Nat.ble c 9223372036854775807 | false => Nat.blt 0 n) with
  | some l, true, true => strsOf l
  | _, _, _ => none
def shortB (l : List UInt8) : Bool := Nat.ble l.length 1000000
def envP : EnvP := fun f args m => match f, args with
  | 29, ⟨[.string s]⟩ => match shortB s.data.toList, ansN s.data.toList with
    | true, some (some n) => some (.tuple #[.int .i64 n, .bool true])
    | true, some none => some (.tuple #[.int .i64 0, .bool false])
    | _, _ => none
  | 21, ⟨[.int .i64 n]⟩ => match Nat.ble n.natAbs 1000000000 with
    | true => some (.string ⟨⟨itoaI n⟩⟩)
    | false => none
  | 22, ⟨[.slice (some a) n c, .string s]⟩ => match rowS m a n c with
    | some q => match shortB (joinL s.data.toList q) with
      | true => some (.string ⟨⟨joinL s.data.toList q⟩⟩)
      | false => none
    | none => none
  | 27, ⟨[.string s, .string t]⟩ => match shortB s.data.toList, shortB t.data.toList, ansC s.data.toList t.data.toList with
    | true, true, (a, b, ok) => some (.tuple #[.string ⟨⟨a⟩⟩, .string ⟨⟨b⟩⟩, .bool ok])
    | _, _, _ => none
  | 32, ⟨[.slice (some a) n c, .string s]⟩ => match rowS m a n c with
    | some q => some (.int .i64 (idxG s.data.toList 0 q))
    | none => none
  | _, _ => none
theorem strsOf_eq : ∀ {l : List Value} {q : List (List UInt8)}, strsOf l = some q → l = q.map str
  | [], q, h => by
    injection h with h
    subst h
    rfl
  | v :: l, q, h => by
    cases v <;> first
      | (rename_i s
         unfold strsOf at h
         split at h
         · rename_i r hr
           injection h with h
           subst h
           rw [List.map_cons, ← strsOf_eq hr]
           rfl
         · cases h)
      | cases h
theorem strs_of [Th] {P : Program} {G : Nat} {W : World} {r : List Nat} {m : AM} {w : World} (hw : Wd P G W r m w) {a : Addr} {n c : Nat} {v : Value} (hv : V2 r (.slice (some a) n c) v) {q : List (List UInt8)} (h : rowS m a n c = some q) (h0 : a.spot = none) : q.length = n ∧ Strs w v q := by
  unfold rowS at h
  split at h
  · rename_i l hl hn hc
    have hq := strsOf_eq h
    obtain ⟨b, c', rfl, hb, hcap⟩ := hv
    have hb := hb.ar (by
      cases e : Nat.blt c K with
      | true => exact .inr (by simpa [Nat.blt_eq] using e)
      | false => rw [e] at hc; exact .inl (by simpa [Nat.blt_eq] using hc))
    obtain ⟨l', h1, h2, h3⟩ := cellsAt_sound hw hb hl
    have hlen : q.length = n := by rw [← h2, hq]; simp
    have hl' : l' = l := by
      have : l'.toArray = l.toArray := h1.eq fun u x hu hx => dry_eq hx (by
        rw [hq] at hu
        simp only [List.mem_toArray, List.mem_map] at hu
        obtain ⟨s, -, rfl⟩ := hu
        rfl)
      simpa using this
    subst hl'
    refine ⟨hlen, ?_⟩
    have hnc : n ≤ c' ∧ c' ≤ maxLen := by
      rcases hcap with ⟨k1, k2⟩ | ⟨k1, k2, k3⟩
      · have e : Nat.blt c K = true := by simpa [Nat.blt_eq] using k1
        rw [e] at hc
        simp only [Bool.and_eq_true] at hc
        have g1 := Nat.le_of_ble_eq_true hc.1
        have g2 := Nat.le_of_ble_eq_true hc.2
        rw [k2]
        exact ⟨g1, g2⟩
      · exact k3
    refine ⟨some b, c', by rw [hlen], by rw [hlen]; exact hnc.1, hnc.2, fun i x hx => ?_⟩
    have hc := h3 i (str x) (by rw [hq, List.getElem?_map, hx]; rfl)
    have hbs : b.spot = none := by rw [hb.2.2]; exact h0
    have e : b.add i = ⟨b.block, b.off + i, none⟩ := by
      obtain ⟨e1, e2, e3⟩ := add_eq b hbs i
      cases hbi : b.add i with
      | mk x y z =>
        rw [hbi] at e1 e2 e3
        simp only at e1 e2 e3
        rw [e1, e2, e3]
    rw [e] at hc
    refine ⟨b.block, b.off, ?_, ?_, hc⟩
    · obtain ⟨x, y, z⟩ := b
      simp only at hbs
      rw [hbs]
    · unfold World.cell? at hc
      split at hc
      · rename_i hh
        exact (Array.getElem?_eq_some_iff.1 hh).1
      · cases hc
  · cases h
theorem rowS_spot {m : AM} {a : Addr} {n c : Nat} {q : List (List UInt8)} (h : rowS m a n c = some q) : a.spot = none := by
  unfold rowS at h
  split at h
  · rename_i l hl _ _
    unfold cellsAt at hl
    split at hl
    · assumption
    · cases hl
  · cases h
theorem rowS_len {m : AM} {a : Addr} {n c : Nat} {q : List (List UInt8)} (h : rowS m a n c = some q) : n ≤ 100000 := by
  unfold rowS at h
  split at h
  · rename_i l hl hn _
    exact Nat.le_of_ble_eq_true hn
  · cases h
theorem lit1 [Th] {r : List Nat} {u : Value} {args' : Array Value} (h : All (V2 r) #[u] args') (hd : still u = true) : args' = #[u] := by
  exact h.eq fun x y hx hxy => still_eq hxy (by
    simp only [List.mem_toArray, List.mem_singleton] at hx
    rw [hx]
    exact hd)
theorem lit2 [Th] {r : List Nat} {u v : Value} {args' : Array Value} (h : All (V2 r) #[u, v] args') (hv : still v = true) : ∃ u', args' = #[u', v] ∧ V2 r u u' := by
  obtain ⟨l⟩ := args'
  obtain ⟨x, l2, e, hx, hl⟩ := h.cons
  injection e with e
  subst e
  obtain ⟨y, l3, e, hy, hl3⟩ := hl.cons
  injection e with e
  subst e
  have : l3 = [] := by simpa using hl3.1.symm
  subst this
  rw [still_eq hy hv]
  exact ⟨x, rfl, hx⟩
theorem short_size {s : ByteArray} (h : shortB s.data.toList = true) : s.size ≤ 1000000 := by
  have h1 : s.data.toList.length ≤ 1000000 := Nat.le_of_ble_eq_true h
  rw [Array.length_toList] at h1
  exact h1
theorem envP_ok [Th] {G : Nat} {W : World} (hE : EnvN W) : EnvPOk Tryd.prog G W envP := by
  intro f args m v e r w args' ha hw hB
  have hEw : EnvN w := hE.below hw.low
  unfold envP at e
  split at e
  · rename_i s
    have := lit1 ha rfl
    subst this
    split at e
    · rename_i n hs hn
      injection e with e
      subst e
      refine (numNumber s ?_ w hEw).mono ?_
      · have := short_size hs
        omega
      · rintro e w' ⟨h1, h2⟩
        unfold numRes at h1
        rw [ansN_eq hn] at h1
        exact ⟨_, h1, still3_V3 (by simp [still3, still, dry]), h2⟩
    · rename_i hs hn
      injection e with e
      subst e
      refine (numNumber s ?_ w hEw).mono ?_
      · have := short_size hs
        omega
      · rintro e w' ⟨h1, h2⟩
        unfold numRes at h1
        rw [ansN_eq hn] at h1
        exact ⟨_, h1, still3_V3 (by simp [still3, still, dry]), h2⟩
    · cases e
  · rename_i n
    have := lit1 ha rfl
    subst this
    split at e
    · rename_i hn
      injection e with e
      subst e
      have hn := Nat.le_of_ble_eq_true hn
      refine (numText n (by omega) (by omega) w hEw).mono ?_
      rintro e w' ⟨h1, h2⟩
      rw [← itoaI_eq n (by omega)] at h1
      exact ⟨_, h1, still3_V3 (by simp [still3, still, dry]), h2⟩
    · cases e
  · rename_i a n c s
    obtain ⟨u', rfl, hu⟩ := lit2 ha rfl
    split at e
    · rename_i q hq
      split at e
      · rename_i hsh
        injection e with e
        subst e
        have hsp : a.spot = none := rowS_spot hq
        obtain ⟨hl, hs⟩ := strs_of hw hu hq hsp
        have hj : (joinL s.data.toList q).length ≤ 1000000 := Nat.le_of_ble_eq_true hsh
        rw [joinL_eq] at hj ⊢
        refine (wordJoin u' q s w hs ?_ (by omega)).mono ?_
        · rw [hl]
          exact Nat.le_trans (rowS_len hq) (by decide)
        · rintro e w' ⟨h1, h2⟩
          exact ⟨_, h1, still3_V3 (by simp [still3, still, dry]), h2⟩
      · cases e
    · cases e
  · rename_i s t
    have hargs : args' = #[.string s, .string t] := ha.eq fun x y hx hxy => still_eq hxy (by
      simp only [List.mem_toArray, List.mem_cons, List.not_mem_nil, or_false] at hx
      rcases hx with rfl | rfl <;> rfl)
    subst hargs
    split at e
    · rename_i p q ok h1 h2 h3
      injection e with e
      subst e
      have g1 := short_size h1
      have g2 := short_size h2
      refine (wordCutFar s t w (by omega) (by omega)).mono ?_
      rintro e w' ⟨k1, k2⟩
      rw [← ansC_eq, h3] at k1
      exact ⟨_, k1, still3_V3 (by simp [still3, still, dry]), k2⟩
    · cases e
  · rename_i a n c s
    obtain ⟨u', rfl, hu⟩ := lit2 ha rfl
    split at e
    · rename_i q hq
      injection e with e
      subst e
      have hsp : a.spot = none := rowS_spot hq
      obtain ⟨hl, hs⟩ := strs_of hw hu hq hsp
      refine (wordIndex u' q s w hs).mono ?_
      rintro e w' ⟨h1, h2⟩
      refine ⟨_, h1, ?_, h2 ▸ Below.refl _ _⟩
      have : idx q s.data.toList = idxG s.data.toList 0 q := by
        rw [idxG_eq]
        rfl
      rw [this]
      exact still3_V3 (by simp [still3, still, dry])
    · cases e
  · cases e
end Go.Proofs.YtokenooggmnbaaaDoor
