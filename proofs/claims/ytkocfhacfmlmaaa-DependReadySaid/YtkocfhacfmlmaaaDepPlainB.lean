/-
  LAYER 7 AS PLAIN FUNCTIONS, ON: the graph's wants; what the loops say of who is ready; what is reached. By an AI agent.
-/
import Derived.Test.YtkocfhacfmlmaaaDepReady
namespace Go.Proofs.Ytkocfhacfmlmaaa
open Dep

def wantedS (row : List Bool) (el : List Int) (k : Nat) : List Nat := (List.range k).filterMap fun e => if row.getD e false = true ∧ (e : Int) ∈ el then some (el.idxOf (e : Int)) else none
def wantedF (row : List Bool) (el : List Int) : List Nat := wantedS row el row.length
theorem wantedS_in {row : List Bool} {el : List Int} {k : Nat} (h1 : row.getD k false = true) (h2 : (k : Int) ∈ el) : wantedS row el (k + 1) = wantedS row el k ++ [el.idxOf (k : Int)] := by
  unfold wantedS
  rw [List.range_succ, List.filterMap_append, List.filterMap_cons, if_pos ⟨h1, h2⟩]
  rfl
theorem wantedS_out {row : List Bool} {el : List Int} {k : Nat} (h : ¬ (row.getD k false = true ∧ (k : Int) ∈ el)) : wantedS row el (k + 1) = wantedS row el k := by
  unfold wantedS
  rw [List.range_succ, List.filterMap_append, List.filterMap_cons, if_neg h]
  simp
theorem wantedS_length (row : List Bool) (el : List Int) (k : Nat) : (wantedS row el k).length ≤ k := by
  unfold wantedS
  exact Nat.le_trans (List.length_filterMap_le _ _) (by simp)
theorem idx_at {el : List Int} (hg : el.Nodup) {q : Nat} (hq : q < el.length) : el.idxOf (el.getD q 0) = q := by
  have e : el.getD q 0 = el[q] := by simp [List.getD, hq]
  rw [e]
  exact hg.idxOf_getElem q hq
theorem at_idx {el : List Int} {x : Int} (hx : x ∈ el) : el.getD (el.idxOf x) 0 = x := by
  have h := List.idxOf_lt_length_of_mem hx
  have e : el.getD (el.idxOf x) 0 = el[el.idxOf x] := by simp [List.getD, h]
  rw [e]
  exact List.getElem_idxOf h
theorem wantedS_mem {row : List Bool} {el : List Int} {k i : Nat} (h : i ∈ wantedS row el k) : ∃ e : Nat, e < k ∧ (e : Int) ∈ el ∧ el.idxOf (e : Int) = i := by
  unfold wantedS at h
  rw [List.mem_filterMap] at h
  obtain ⟨e, he, h⟩ := h
  by_cases hc : row.getD e false = true ∧ (e : Int) ∈ el
  · rw [if_pos hc] at h
    exact ⟨e, List.mem_range.1 he, hc.2, Option.some.inj h⟩
  · rw [if_neg hc] at h
    cases h
theorem wantedS_nodup (row : List Bool) (el : List Int) : ∀ k, (wantedS row el k).Nodup
  | 0 => List.Pairwise.nil
  | k + 1 => by
    by_cases hc : row.getD k false = true ∧ (k : Int) ∈ el
    · rw [wantedS_in hc.1 hc.2, List.nodup_append]
      refine ⟨wantedS_nodup row el k, by simp, fun a ha b hb => ?_⟩
      rw [List.mem_singleton] at hb
      subst hb
      rintro rfl
      obtain ⟨e, he, hm, hi⟩ := wantedS_mem ha
      have h1 := at_idx hm
      rw [hi, at_idx hc.2] at h1
      omega
    · rw [wantedS_out hc]
      exact wantedS_nodup row el k
theorem wantedS_few (row : List Bool) (el : List Int) (k : Nat) : (wantedS row el k).length ≤ el.length := Dep.nodup_bound el.length _ (wantedS_nodup row el k) fun x hx => by
  obtain ⟨e, _, hm, rfl⟩ := wantedS_mem hx
  exact List.idxOf_lt_length_of_mem hm
theorem mem_wanted {M : List (List Bool)} {el : List Int} (hg : Dep.Good el) {a : Int} (ha : 0 ≤ a) {q : Nat} : q ∈ wantedF (M.getD a.toNat []) el ↔ q < el.length ∧ needS M a (el.getD q 0) = true := by
  unfold wantedF wantedS
  rw [List.mem_filterMap]
  constructor
  · rintro ⟨e, he, h⟩
    by_cases hc : (M.getD a.toNat []).getD e false = true ∧ (e : Int) ∈ el
    · rw [if_pos hc] at h
      obtain rfl := Option.some.inj h
      refine ⟨List.idxOf_lt_length_of_mem hc.2, ?_⟩
      rw [at_idx hc.2]
      unfold needS
      have e1 : ((e : Nat) : Int).toNat = e := by omega
      rw [e1, hc.1]
      simp [ha]
    · rw [if_neg hc] at h
      cases h
  · rintro ⟨hq, h⟩
    have hm : el.getD q 0 ∈ el := getD_mem hq
    have h0 := hg.2 _ hm
    unfold needS at h
    simp only [Bool.and_eq_true] at h
    have e1 : (((el.getD q 0).toNat : Nat) : Int) = el.getD q 0 := by omega
    have hlt : (el.getD q 0).toNat < (M.getD a.toNat []).length := by
      rcases Nat.lt_or_ge (el.getD q 0).toNat (M.getD a.toNat []).length with h1 | h1
      · exact h1
      · have h2 := h.2
        rw [List.getD_eq_getElem?_getD, List.getElem?_eq_none h1] at h2
        cases h2
    refine ⟨(el.getD q 0).toNat, List.mem_range.2 hlt, ?_⟩
    rw [if_pos ⟨h.2, by rw [e1]; exact hm⟩, e1, idx_at hg.1 hq]
def wantsS (el : List Int) (M : List (List Bool)) : List (List Nat) := el.map fun e => wantedF (M.getD e.toNat []) el
theorem wantsS_length (el : List Int) (M : List (List Bool)) : (wantsS el M).length = el.length := by simp [wantsS]
theorem wantsS_get {el : List Int} {M : List (List Bool)} {p : Nat} (hp : p < el.length) : (wantsS el M).getD p [] = wantedF (M.getD (el.getD p 0).toNat []) el := by simp [wantsS, List.getD, hp]
theorem mem_wants {el : List Int} {M : List (List Bool)} (hg : Dep.Good el) {p q : Nat} : q ∈ (wantsS el M).getD p [] ↔ p < el.length ∧ q < el.length ∧ needS M (el.getD p 0) (el.getD q 0) = true := by
  rcases Nat.lt_or_ge p el.length with hp | hp
  · rw [wantsS_get hp, mem_wanted hg (hg.2 _ (getD_mem hp))]
    simp [hp]
  · have e : (wantsS el M).getD p [] = [] := by rw [List.getD_eq_getElem?_getD, List.getElem?_eq_none (by rw [wantsS_length]; exact hp)]; rfl
    rw [e]
    simp
    omega
theorem wants_in {el : List Int} {M : List (List Bool)} (hg : Dep.Good el) (p q : Nat) (h : q ∈ (wantsS el M).getD p []) : q < el.length := ((mem_wants hg).1 h).2.1

/-- those that are left -/
def liveL (el : List Int) (rm : Nat → Bool) : List Int := ((List.range el.length).filter fun p => !rm p).map fun p => el.getD p 0
theorem mem_live {el : List Int} {rm : Nat → Bool} {x : Int} : x ∈ liveL el rm ↔ ∃ p, p < el.length ∧ rm p = false ∧ el.getD p 0 = x := by
  unfold liveL
  rw [List.mem_map]
  constructor
  · rintro ⟨p, hp, rfl⟩
    rw [List.mem_filter, List.mem_range] at hp
    exact ⟨p, hp.1, by simpa using hp.2, rfl⟩
  · rintro ⟨p, h1, h2, rfl⟩
    exact ⟨p, by rw [List.mem_filter, List.mem_range]; exact ⟨h1, by simp [h2]⟩, rfl⟩
theorem place_one {el : List Int} (hg : Dep.Good el) {p q : Nat} (hp : p < el.length) (hq : q < el.length) (h : el.getD p 0 = el.getD q 0) : p = q := by
  rw [← idx_at hg.1 hp, h, idx_at hg.1 hq]
section
variable {el : List Int} {M : List (List Bool)} {rm : Nat → Bool} {L : List Int}
theorem reach_up (hg : Dep.Good el) {p q : Nat} (h : Dep.Reach (edge (wantsS el M) el.length rm) q p) : Dep.Reach (NE (liveL el rm) M) (el.getD q 0) (el.getD p 0) :=
  h.map (fun p => el.getD p 0) fun a b hab => ⟨mem_live.2 ⟨a, hab.2.1, hab.2.2.2.1, rfl⟩, mem_live.2 ⟨b, hab.2.2.1, hab.2.2.2.2, rfl⟩, ((mem_wants hg).1 hab.1).2.2⟩
theorem reach_down (hg : Dep.Good el) {a b : Int} (h : Dep.Reach (NE (liveL el rm) M) a b) (p q : Nat) (hp : p < el.length) (hq : q < el.length) (h1 : el.getD q 0 = a) (h2 : el.getD p 0 = b) : Dep.Reach (edge (wantsS el M) el.length rm) q p := by
  refine Dep.Reach.closed (P := fun x => ∀ p, p < el.length → el.getD p 0 = x → Dep.Reach (edge (wantsS el M) el.length rm) q p) (fun x y hx hxy p hp hpy => ?_) h (fun p hp hpa => ?_) p hp h2
  · obtain ⟨hm1, hm2, hn⟩ := hxy
    obtain ⟨c, hc, hrc, hcv⟩ := mem_live.1 hm1
    obtain ⟨d, hd, hrd, hdv⟩ := mem_live.1 hm2
    have e := place_one hg hp hd (hpy.trans hdv.symm)
    subst e
    exact (hx c hc hcv).trans (.single ⟨(mem_wants hg).2 ⟨hc, hp, by rw [hcv, hpy]; exact hn⟩, hc, hp, hrc, hrd⟩)
  · have e := place_one hg hp hq (hpa.trans h1.symm)
    subst e
    exact .refl _
theorem live_ready (hg : Dep.Good el) (hL : LoopsOk (wantsS el M) el.length rm L) {p : Nat} (hp : p < el.length) :
    (L.getD p 0 != -1 && !(((wantsS el M).getD p []).any (waitsS L p))) = true ↔ (rm p = false ∧ rdyP (liveL el rm) M (el.getD p 0)) := by
  obtain ⟨_, h1, h2⟩ := hL
  have hgone : ∀ q, q < el.length → (L.getD q 0 = -1 ↔ rm q = true) := h1
  rw [Bool.and_eq_true, bne_iff_ne, Bool.not_eq_true', List.any_eq_false]
  have hr : L.getD p 0 ≠ -1 ↔ rm p = false := by
    rw [ne_eq, hgone p hp]
    simp
  rw [hr]
  constructor
  · rintro ⟨hrp, h⟩
    refine ⟨hrp, fun b hb hn => ?_⟩
    obtain ⟨q, hq, hrq, rfl⟩ := mem_live.1 hb
    have hw : q ∈ (wantsS el M).getD p [] := (mem_wants hg).2 ⟨hp, hq, hn⟩
    have h3 := h q hw
    have h4 : L.getD q 0 = L.getD p 0 := by
      have h5 : L.getD q 0 ≠ -1 := fun e => by
        have := (hgone q hq).1 e
        rw [hrq] at this
        cases this
      unfold waitsS at h3
      rw [Bool.and_eq_true, bne_iff_ne, bne_iff_ne] at h3
      exact Classical.byContradiction fun h6 => h3 ⟨h5, h6⟩
    exact reach_up hg ((h2 q p hq hp hrq hrp).1 h4).1
  · rintro ⟨hrp, h⟩
    refine ⟨hrp, fun q hw => ?_⟩
    obtain ⟨_, hq, hn⟩ := (mem_wants hg).1 hw
    unfold waitsS
    rw [Bool.and_eq_true, bne_iff_ne, bne_iff_ne]
    rintro ⟨h5, h6⟩
    have hrq : rm q = false := by
      cases e : rm q with
      | false => rfl
      | true => exact absurd ((hgone q hq).2 e) h5
    have h7 := h _ (mem_live.2 ⟨q, hq, hrq, rfl⟩) hn
    exact h6 ((h2 q p hq hp hrq hrp).2 ⟨reach_down hg h7 p q hp hq rfl rfl, .single ⟨hw, hp, hq, hrp, hrq⟩⟩)
open Classical in
theorem readyAcc_eq (hg : Dep.Good el) (hL : LoopsOk (wantsS el M) el.length rm L) : readyAcc L (wantsS el M) el el.length = rdyL (liveL el rm) M := by
  unfold readyAcc rdyL
  have e : ∀ r : Nat → Bool, ((List.range el.length).filter fun p => !r p).map (fun p => el.getD p 0) = ((List.range el.length).filter fun p => !r p).map (fun p => el.getD p 0) := fun _ => rfl
  conv => rhs; unfold liveL
  rw [List.filter_map, List.filter_filter]
  congr 1
  refine List.filter_congr fun p hp => ?_
  rw [List.mem_range] at hp
  have h := live_ready hg hL hp
  rw [Bool.eq_iff_iff, h]
  simp only [Function.comp, Bool.and_eq_true, decide_eq_true_eq, Bool.not_eq_true']
  exact ⟨fun ⟨a, b⟩ => ⟨b, a⟩, fun ⟨a, b⟩ => ⟨b, a⟩⟩
end
theorem range_map {el : List Int} : (List.range el.length).map (fun p => el.getD p 0) = el := by
  refine List.ext_getElem (by simp) fun i h1 h2 => ?_
  simp [List.getD, h2]
theorem live_all (el : List Int) : liveL el (fun _ => false) = el := by
  unfold liveL
  have h : (List.range el.length).filter (fun p => !(fun _ : Nat => false) p) = List.range el.length := List.filter_eq_self.2 (fun _ _ => rfl)
  rw [h]
  exact range_map
theorem live_good {el : List Int} (hg : Dep.Good el) (rm : Nat → Bool) : Dep.Good (liveL el rm) := by
  refine ⟨?_, fun x hx => ?_⟩
  · have h : (liveL el rm).Sublist el := by
      have := (List.filter_sublist (p := fun p => !rm p) (l := List.range el.length)).map (fun p => el.getD p 0)
      rw [range_map] at this
      exact this
    exact h.nodup hg.1
  · obtain ⟨p, hp, _, rfl⟩ := mem_live.1 hx
    exact hg.2 _ (getD_mem hp)
theorem live_drop {n : Nat} {rm : Nat → Bool} {x : Nat} (_hx : x < n) : liveL (idx n) (upd rm x true) = (liveL (idx n) rm).filter fun y => y != (x : Int) := by
  unfold liveL
  rw [List.filter_map, List.filter_filter]
  congr 1
  refine List.filter_congr fun p hp => ?_
  rw [idx_length, List.mem_range] at hp
  simp only [Function.comp]
  rw [idx_get hp]
  unfold upd
  by_cases e : p = x
  · subst e; simp
  · have e2 : ((p : Int) != (x : Int)) = true := by simp only [bne_iff_ne]; omega
    rw [if_neg e, e2]
    simp
end Go.Proofs.Ytkocfhacfmlmaaa
