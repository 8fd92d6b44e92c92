/-
  RUNS RECKONED AHEAD: slices whose capacity append chose, and clear. By an AI agent.
-/
import Derived.Test.YtpejbfdmiinokaaSyE2
import Derived.Laws.Slices
namespace Go.Sx
variable [Th]
section
variable {P : Program} {G : Nat} {W : World}
theorem Wd.lt {r : List Nat} {m : AM} {w : World} (h : Wd P G W r m w) {i : Nat} {x : Bk} (hx : find m.bs i = some x) : i < r.length := by
  obtain ⟨b, _, h1, _⟩ := h.at_ i x hx
  exact (List.getElem?_eq_some_iff.1 h1).1
theorem Wd.tok {r : List Nat} {m : AM} {w : World} (h : Wd P G W r m w) (c : Nat) : Wd P G W (r ++ [c]) ⟨m.n + 1, m.bs⟩ w := by
  have he : Ext r (r ++ [c]) := ⟨_, rfl⟩
  refine ⟨h.low, by simp [h.n], fun i hi => he.get (h.g i hi), fun i x hx => ?_, fun i j b x y hx hy hi hj => ?_, h.low2, fun i b x hx hro hi => ?_⟩
  · obtain ⟨b, c', h1, h2, h3, h4⟩ := h.at_ i x hx
    exact ⟨b, c', he.get h1, h2, h3, h4.1, h4.2.1, fun q => (by obtain ⟨a1, a2, a3, a4, a5⟩ := h4.2.2.1 q; exact ⟨a1, a2, a3, he.get a4, a5⟩), fun i u v hu hv => (h4.2.2.2 i u v hu hv).ext he⟩
  · rw [List.getElem?_append_left (h.lt hx)] at hi
    rw [List.getElem?_append_left (h.lt hy)] at hj
    exact h.inj i j b x y hx hy hi hj
  · rw [List.getElem?_append_left (h.lt hx)] at hi
    exact h.opn i b x hx hro hi
theorem Step.tok {r : List Nat} {m : AM} {w : World} (h : Wd P G W r m w) (c : Nat) : Step r m w (r ++ [c]) ⟨m.n + 1, m.bs⟩ w :=
  ⟨⟨_, rfl⟩, rfl, rfl, rfl, Nat.le_refl _, fun _ _ _ => rfl, fun b ⟨i, x, hx, hr, hi⟩ => .inl ⟨i, x, hx, hr, by
    rw [List.getElem?_append_left (h.lt hx)] at hi
    exact hi⟩⟩
def bndN (d : Nat) : Option Value → Option Nat
  | none => some d
  | some (.int _ (.ofNat k)) => some k
  | _ => none
theorem bndN_spec {r : List Nat} {d k : Nat} {l l' : Option Value} (h : bndN d l = some k) (hl : VO r l l') : (l' = none ∧ k = d) ∨ ∃ ik, l' = some (.int ik (.ofNat k)) := by
  unfold bndN at h
  split at h
  · injection h with h
    exact .inl ⟨hl, h.symm⟩
  · rename_i ik q
    injection h with h
    subst h
    obtain ⟨z, rfl, -, rfl⟩ := hl
    exact .inr ⟨ik, rfl⟩
  · cases h
omit [Th] in
theorem add_eq' (a : Addr) (h : a.spot = none) (i : Nat) : (a.add i).block = a.block ∧ (a.add i).off = a.off + i ∧ (a.add i).spot = none := by
  obtain ⟨b, o, s⟩ := a
  simp only at h
  subst h
  unfold Addr.add
  split <;> simp_all
/-- a slice of a slice whose capacity is not known -/
def evSl (P : Program) (m : AM) (T : TypeId) (u : Value) (l h mx : Option Value) : Option (Value × AM) := match P.underlying T, mx, u with
  | some (.slice e), none, .slice (some a) n c => match P.info? e, bndN 0 l, bndN n h, Nat.ble K c with
    | some i, some lo, some hi, true => match Nat.ble lo hi && Nat.ble hi n, lo with
      | true, 0 => some (.slice (some a) hi c, m)
      | true, k + 1 => match Nat.blt (k + 1) n with
        | true => some (.slice (some (a.add ((k + 1) * i.size))) (hi - (k + 1)) (K + m.n), ⟨m.n + 1, m.bs⟩)
        | false => match a.spot with
          | none => some (.slice (some a) 0 (K + m.n), ⟨m.n + 1, m.bs⟩)
          | some _ => none
      | _, _ => none
    | _, _, _, _ => none
  | _, _, _ => none
omit [Th] in
theorem run_sz {e : TypeId} {i : TypeInfo} (hi : P.info? e = some i) (w : World) : (sizeOf e).run P w = .ok i.size w := by
  show ((match P.info? e with | some d => pure d | none => stuck "no such type") >>= fun i => pure i.size : Sem Nat).run P w = _
  rw [hi]
  rfl
theorem evSl_sound {r : List Nat} {m : AM} {w : World} {T : TypeId} {u u' v : Value} {l l' h h' : Option Value} {m' : AM} (e : evSl P m T u l h none = some (v, m')) (hu : V2 r u u') (hl : VO r l l') (hh : VO r h h') (hw : Wd P G W r m w) :
    ∃ r' v', (Instr.sliceAt T u' l' h' none).run P w = .ok v' w ∧ V2 r' v v' ∧ Wd P G W r' m' w ∧ Step r m w r' m' w := by
  unfold evSl at e
  split at e
  case h_2 => cases e
  rename_i et a n c hT _
  split at e
  case h_2 => cases e
  rename_i i lo hi hinf hlo hhi hK
  obtain ⟨b, c', rfl, hb, hcap⟩ := hu
  have hK := Nat.le_of_ble_eq_true hK
  have hcap : r[c - K]? = some c' ∧ n ≤ c' ∧ c' ≤ 9223372036854775807 := by
    rcases hcap with ⟨q, -⟩ | ⟨-, q⟩
    · omega
    · exact q
  have hel : P.elem T = et := by
    unfold Program.elem
    rw [hT]
  have ht : P.underlying T = some (.slice (P.elem T)) := by rw [hel]; exact hT
  have key : lo ≤ hi → hi ≤ n → (Instr.sliceAt T (.slice (some b) n c') l' h' none).run P w = .ok (sliced (some b) lo hi c' i.size) w := by
    intro h1 h2
    have h3 := hcap.2.1
    rw [run_sliceAt_slice w T _ _ _ _ ht]
    rcases bndN_spec hlo hl with ⟨rfl, rfl⟩ | ⟨ik, rfl⟩ <;> rcases bndN_spec hhi hh with ⟨rfl, rfl⟩ | ⟨jk, rfl⟩
    · rw [run_slice_all w T _ _ _ ht, hel, run_sz hinf]
      rfl
    · rw [run_slice_h w T _ _ _ ht jk _ (by simp) (by simp only [Int.ofNat_eq_natCast]; omega), hel, run_sz hinf]
      rfl
    · rw [run_slice_l w T _ _ _ ht ik _ (by simp) (by simp only [Int.ofNat_eq_natCast]; omega), hel, run_sz hinf]
      rfl
    · rw [run_slice_lh w T _ _ _ ht ik jk _ _ (by simp) (by simp only [Int.ofNat_eq_natCast]; omega) (by simp only [Int.ofNat_eq_natCast]; omega), hel, run_sz hinf]
      rfl
  split at e
  · rename_i hok
    rw [Bool.and_eq_true] at hok
    have h1 := Nat.le_of_ble_eq_true hok.1
    have h2 := Nat.le_of_ble_eq_true hok.2
    injection e with e
    injection e with e1 e2
    subst e1 e2
    refine ⟨r, _, key h1 h2, ?_, hw, Step.refl r m w⟩
    refine ⟨b, c', ?_, ⟨hb.1, hb.2.1, (match hb.2.2 with | .inl h => .inl h | .inr h => .inr ⟨by omega, h.2⟩)⟩, .inr ⟨hK, hcap.1, Nat.le_trans h2 hcap.2.1, hcap.2.2⟩⟩
    unfold sliced
    simp [Addr.add]
  · rename_i k hok
    rw [Bool.and_eq_true] at hok
    have h1 := Nat.le_of_ble_eq_true hok.1
    have h2 := Nat.le_of_ble_eq_true hok.2
    split at e
    · rename_i hlt
      have hlt : k + 1 < n := by simpa [Nat.blt_eq] using hlt
      injection e with e
      injection e with e1 e2
      subst e1 e2
      refine ⟨r ++ [c' - (k + 1)], _, key h1 h2, ?_, hw.tok _, Step.tok hw _⟩
      have he : Ext r (r ++ [c' - (k + 1)]) := ⟨_, rfl⟩
      have hc := hcap.2.1
      have hc3 := hcap.2.2
      refine ⟨b.add ((k + 1) * i.size), c' - (k + 1), ?_, (((hb.ar (.inl (by omega))).ext he).add _).of, .inr ⟨by omega, ?_, by omega, by omega⟩⟩
      · unfold sliced
        rw [if_neg (by omega)]
        rfl
      · rw [show K + m.n - K = m.n by omega, hw.n]
        simp
    · rename_i hlt
      have hlt : ¬ k + 1 < n := fun h => by
        rw [show Nat.blt (k + 1) n = true by simpa [Nat.blt_eq] using h] at hlt
        cases hlt
      split at e
      · rename_i hsp
        injection e with e
        injection e with e1 e2
        subst e1 e2
        have hen : hi = k + 1 := by omega
        refine ⟨r ++ [c' - (k + 1)], _, key h1 h2, ?_, hw.tok _, Step.tok hw _⟩
        have he : Ext r (r ++ [c' - (k + 1)]) := ⟨_, rfl⟩
        have hc := hcap.2.1
        have hc3 := hcap.2.2
        have hcR : CapR (r ++ [c' - (k + 1)]) 0 (K + m.n) (c' - (k + 1)) := .inr ⟨by omega, by rw [show K + m.n - K = m.n by omega, hw.n]; simp, by omega, by omega⟩
        have hbs : b.spot = none := by rw [hb.2.1, hsp]
        unfold sliced
        rw [hen, Nat.sub_self]
        split
        · exact ⟨b, _, rfl, ⟨he.get hb.1, hb.2.1, .inr ⟨rfl, by omega⟩⟩, hcR⟩
        · obtain ⟨e1, -, e3⟩ := add_eq' b hbs ((k + 1) * i.size)
          exact ⟨b.add ((k + 1) * i.size), _, rfl, ⟨by rw [e1]; exact he.get hb.1, by rw [e3, hsp], .inr ⟨rfl, by omega⟩⟩, hcR⟩
      · cases e
  · cases e
end
end Go.Sx
