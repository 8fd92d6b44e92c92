/-
  CONTRACTS OF THE LIBRARY's slices.Clone AND slices.Insert AT STRINGS, at rows of the call's own. By an AI agent.
-/
import Derived.Test.YtbichcmpggbfnaaDoorLineCollect
import Derived.Laws.AppendOwn
namespace Go.Proofs.YtbichcmpggbfnaaDoor
open Go.RowKit
open Wd (Bs)

theorem sClone (v : Value) (l : List Bs) (w : World) (hv : Strs w v l) (hl : l.length ≤ 1000000000) :
    Calls Tryd.prog 45 #[v] w (StrsRes l w) := by
  rcases hv.shape with ⟨a, c, rfl, rfl⟩ | ⟨b, o, c, rfl, p, q, n1, m1, d⟩
  · cases a with
    | none =>
      refine (Tryd.slices_Clone_string_nil _ _ _).mono ?_
      rintro e w1 ⟨rfl, rfl⟩
      exact ⟨_, rfl, OwnStrs.nil _ _, Below.refl _ _⟩
    | some a =>
      refine (Tryd.slices_Clone_string_zero _ _ _).mono ?_
      rintro e w1 ⟨v', rfl, ho, -, hb⟩
      exact ⟨_, rfl, ho, hb⟩
  · refine (Tryd.slices_Clone_string b o l.length c (l.map ba) _ (by simp) (by omega) (fun j hj => ?_)).mono ?_
    · have hj' : j < l.length := by simpa using hj
      rw [ba_getD l j hj']
      exact d j l[j] (List.getElem?_eq_getElem hj')
    rintro e w1 ⟨v', rfl, ho, -, hb⟩
    have e1 : ((l.map ba).take l.length).map Value.string = l.map str := by
      rw [List.take_of_length_le (by simp), List.map_map]; rfl
    rw [e1] at ho
    exact ⟨_, rfl, ho, hb⟩
/-- the values vs put from place o on -/
def setAll : List Value → Nat → Array Value → Array Value
  | [], _, A => A
  | v :: r, o, A => setAll r (o + 1) (A.setIfInBounds o v)
theorem setAll_size : ∀ (vs : List Value) (o : Nat) (A : Array Value), (setAll vs o A).size = A.size
  | [], _, _ => rfl
  | v :: r, o, A => by rw [setAll, setAll_size r]; simp
theorem setAll_get : ∀ (vs : List Value) (o : Nat) (A : Array Value) (j : Nat), (setAll vs o A)[j]? = if o ≤ j ∧ j < o + vs.length ∧ j < A.size then vs[j - o]? else A[j]?
  | [], o, A, j => by rw [if_neg (by simp; omega)]; rfl
  | v :: r, o, A, j => by
    rw [setAll, setAll_get r]
    simp only [Array.size_setIfInBounds, List.length_cons]
    by_cases h1 : o + 1 ≤ j ∧ j < o + 1 + r.length ∧ j < A.size
    · rw [if_pos h1, if_pos (by omega), show j - o = (j - (o + 1)) + 1 by omega, List.getElem?_cons_succ]
    · rw [if_neg h1]
      by_cases h2 : j = o
      · subst h2
        by_cases h3 : j < A.size
        · rw [if_pos (by omega), Array.getElem?_setIfInBounds_self_of_lt h3]
          simp
        · rw [if_neg (by omega), Array.getElem?_eq_none (by simp; omega), Array.getElem?_eq_none (by omega)]
      · rw [if_neg (by omega), Array.getElem?_setIfInBounds_ne (Ne.symm h2)]
theorem Blk.setAll {b : Nat} {t : TypeId} : ∀ (vs : List Value) (o : Nat) {w : World} {A : Array Value}, Blk w b A t → Blk (w.setCells b o vs) b (setAll vs o A) t
  | [], _, _, _, h => h
  | v :: r, o, w, A, h => by
    rw [World.setCells, YtbichcmpggbfnaaDoor.setAll]
    exact Blk.setAll r (o + 1) (h.set o v)
theorem below_all {B b : Nat} {a : World} (hb : B ≤ b) : ∀ (vs : List Value) (o : Nat) {w : World}, Below B a w → Below B a (w.setCells b o vs)
  | [], _, _, h => h
  | v :: r, o, w, h => by
    rw [World.setCells]
    exact below_all hb r (o + 1) (h.setCell (by exact hb) _)
theorem own_of_blk {B b cap : Nat} {w : World} {A : Array Value} {l : List Bs} (h : Blk w b A 9) (hB : B ≤ b) (hc : l.length ≤ cap) (hm : cap ≤ maxLen) (hs : A.size = cap) (ht : ∀ j, j < l.length → A[j]? = (l.map str)[j]?) :
    OwnStrs B w (.slice (some ⟨b, 0, none⟩) l.length cap) l := by
  refine ⟨by simp, .inr ⟨b, cap, A, rfl, hB, h, hc, hm, by simpa using hs, ?_⟩⟩
  refine List.ext_getElem? fun j => ?_
  rw [Nat.mul_one, List.getElem?_take]
  by_cases hj : j < l.length
  · rw [if_pos hj, ← ht j hj]
    simp
  · rw [if_neg hj, List.getElem?_eq_none (by simp; omega)]
theorem OwnStrs.blk {B : Nat} {w : World} {v : Value} {l : List Bs} (h : OwnStrs B w v l) :
    (v = .slice none 0 0 ∧ l = []) ∨ ∃ g cap A, v = .slice (some ⟨g, 0, none⟩) l.length cap ∧ B ≤ g ∧ Blk w g A 9 ∧ l.length ≤ cap ∧ cap ≤ maxLen ∧ A.size = cap ∧ ∀ j, j < l.length → A[j]? = (l.map str)[j]? := by
  rcases h.2 with ⟨hv, hn⟩ | ⟨g, cap, cur, hv, hB, hg, hc, hm, hs, ht⟩
  · exact .inl ⟨hv, List.eq_nil_of_length_eq_zero hn⟩
  · refine .inr ⟨g, cap, cur, hv, hB, hg, hc, hm, by simpa using hs, fun j hj => ?_⟩
    rw [← ht, List.getElem?_take, if_pos (by omega)]
    simp
/-- a row with x put in at place i -/
def insAt (l : List Bs) (i : Nat) (x : Bs) : List Bs := l.take i ++ [x] ++ l.drop i
theorem insAt_len {l : List Bs} {i : Nat} {x : Bs} (h : i ≤ l.length) : (insAt l i x).length = l.length + 1 := by unfold insAt; simp; omega
theorem insAt_get {l : List Bs} {i : Nat} {x : Bs} (h : i ≤ l.length) (j : Nat) : ((insAt l i x).map str)[j]? = if j < i then (l.map str)[j]? else if j = i then some (str x) else (l.map str)[j - 1]? := by
  unfold insAt
  simp only [List.map_append, List.map_take, List.map_drop, List.map_cons, List.map_nil]
  rw [List.append_assoc]
  by_cases h1 : j < i
  · rw [if_pos h1, List.getElem?_append_left (by simp; omega), List.getElem?_take, if_pos h1]
  · rw [if_neg h1, List.getElem?_append_right (by simp; omega)]
    have e : (List.take i (l.map str)).length = i := by simp; omega
    rw [e]
    by_cases h2 : j = i
    · subst h2; simp
    · rw [if_neg h2, List.singleton_append, show j - i = (j - 1 - i) + 1 by omega, List.getElem?_cons_succ, List.getElem?_drop, show i + (j - 1 - i) = j - 1 by omega]
theorem shape_of_blk {w : World} {b : Nat} {A : Array Value} {t : TypeId} (h : Blk w b A t) : ∃ t' k, w.shape? b = some (t', k) ∧ k = A.size := by
  have h' : w.heap[b]? = some (.cells A t (0, 0)) := h
  exact ⟨t, A.size, by simp [World.shape?, h'], rfl⟩
theorem zeros_size (n : Nat) : (Builtin.zeroCells (Value.string ⟨#[]⟩).cells n).size = n := by
  have h : (Value.string ⟨#[]⟩).cells.size = 1 := rfl
  simp [Builtin.zeroCells, h]
theorem strs_get {l : List Bs} {j : Nat} {v : Value} (h : (l.map str)[j]? = some v) : j < l.length := by
  have := (List.getElem?_eq_some_iff.1 h).1
  simpa using this
theorem one_cell (l : List Bs) : ∀ v ∈ l.map str, v.oneCell' = true := by
  intro v hv
  obtain ⟨z, _, rfl⟩ := List.mem_map.1 hv
  rfl
/-- what Insert leaves -/
def InsRes (B : Nat) (w0 : World) (l : List Bs) (i : Nat) (x : Bs) (e : Ending) (w' : World) : Prop := ∃ v', e = .returned v' ∧ OwnStrs B w' v' (insAt l i x) ∧ Below B w0 w'
set_option maxHeartbeats 1000000 in
theorem sInsert (B : Nat) (w0 w : World) (v : Value) (l : List Bs) (i : Nat) (x : ByteArray) (hown : OwnStrs B w v l) (hi : i ≤ l.length) (hl : l.length ≤ 1000000) (hB : B ≤ w.heap.size) (hb : Below B w0 w) :
    Calls Tryd.prog 46 #[v, .int .i64 i, .slice (some ⟨w.heap.size, 0, none⟩) 1 1] (w.alloc (.cells #[.string x] 9)) (InsRes B w0 l i x.data.toList) := by
  obtain ⟨W, hW⟩ : ∃ W, W = w.alloc (.cells #[.string x] 9) := ⟨_, rfl⟩
  have hWs : W.heap.size = w.heap.size + 1 := by rw [hW]; simp
  have hnew : Blk W w.heap.size #[.string x] 9 := by rw [hW]; exact Blk.new _ _ _
  have hbW : Below B w0 W := by rw [hW]; exact hb.alloc hB _
  have hBW : B ≤ W.heap.size := by omega
  have hvs : ∀ (j : Nat) (u : Value), ([.string x] : List Value)[j]? = some u → W.cell? ⟨w.heap.size, 0 + j, none⟩ = some u := by
    intro j u hj
    rw [Nat.zero_add, hnew.cell]
    simpa using hj
  have h1v : ∀ u ∈ ([.string x] : List Value), u.oneCell' = true := by
    intro u hu
    simp at hu
    subst hu
    rfl
  rw [← hW]
  rcases hown.blk with ⟨rfl, rfl⟩ | ⟨g, cap, A, rfl, hBg, hblk0, hlc, hcm, hsA, hA⟩
  · obtain rfl : i = 0 := by simpa using hi
    have h := Tryd.slices_Insert_string_end_grow none 0 0 w.heap.size 0 1 1 [] [.string x] W (by omega) (by omega) (by omega) (by omega) rfl rfl (fun _ => rfl) (fun a ha => by cases ha) hvs h1v
    refine h.mono ?_
    rintro e w' ⟨rfl, rfl⟩
    have hge := grownCap_ge W (0 + 1) 0 9
    have hle := grownCap_le_maxLen W (0 + 1) 0 9 (by unfold maxLen; omega)
    generalize grownCap W (0 + 1) 0 9 = gc at *
    refine ⟨_, rfl, ?_, hbW.drew.alloc hBW _⟩
    have hz := zeros_size (gc - (0 + 1))
    refine own_of_blk (l := insAt [] 0 x.data.toList) (Blk.new W.drew _ _) hBW (by simpa [insAt] using hge) hle ?_ ?_
    · simp [hz]; omega
    · intro j hj
      have hj1 : j < 1 := by simpa [insAt] using hj
      obtain rfl : j = 0 := by omega
      rw [Array.getElem?_append_left (by simp)]
      rfl
  · have hblk : Blk W g A 9 := by rw [hW]; exact hblk0.alloc _
    have hgw := hblk0.lt
    have hcs : ∀ (j : Nat) (u : Value), (l.map str)[j]? = some u → W.cell? ⟨g, 0 + j, none⟩ = some u := by
      intro j u hj
      rw [Nat.zero_add, hblk.cell, hA j (strs_get hj)]
      exact hj
    have hlm : (l.map str).length = l.length := by simp
    unfold maxLen at hcm
    by_cases hroom : l.length + 1 ≤ cap
    · have hsp : ∀ j, j < l.length + 1 → (W.cell? ⟨g, 0 + j, none⟩).isSome = true := by
        intro j hj
        rw [Nat.zero_add, hblk.cell, Array.getElem?_eq_getElem (by omega)]
        rfl
      by_cases hend : i = l.length
      · subst hend
        have h := Tryd.slices_Insert_string_end_room g 0 l.length cap w.heap.size 0 1 1 [.string x] W (by omega) hroom (by omega) rfl (fun j hj => by
          have := hsp (l.length + j) (by omega)
          rwa [show 0 + l.length + j = 0 + (l.length + j) by omega]) (fun j hj => hblk.free _) hvs h1v
        refine h.mono ?_
        rintro e w' ⟨rfl, rfl⟩
        have hB2 := hblk.setAll [.string x] (0 + l.length)
        refine ⟨_, rfl, ?_, below_all hBg _ _ hbW⟩
        have h2 := own_of_blk (l := insAt l l.length x.data.toList) (cap := cap) hB2 hBg (by rw [insAt_len (Nat.le_refl _)]; exact hroom) (by unfold maxLen; omega) (by rw [setAll_size]; exact hsA) (fun j hj => by
          rw [insAt_len (Nat.le_refl _)] at hj
          rw [insAt_get (Nat.le_refl _), setAll_get]
          by_cases h3 : j < l.length
          · rw [if_pos h3, if_neg (by omega), hA j h3]
          · obtain rfl : j = l.length := by omega
            rw [if_neg h3, if_pos rfl, if_pos (by simp; omega), show l.length - (0 + l.length) = 0 by omega]
            rfl)
        rw [insAt_len (Nat.le_refl _)] at h2
        exact h2
      · have hilt : i < l.length := by omega
        obtain ⟨tA, kA, hsa, hkA⟩ := shape_of_blk hnew
        obtain ⟨tB, kB, hsb, hkB⟩ := shape_of_blk hblk
        have h := Tryd.slices_Insert_string_shift g 0 l.length cap i w.heap.size 0 1 1 (l.map str) [.string x] W hilt (by omega) hroom (by omega) (by omega) hlm rfl hcs hsp (fun j hj => hblk.free _) hvs (one_cell l) h1v tA tB kA kB hsa hsb (by omega) (hnew.free _) (hnew.free _)
        refine h.mono ?_
        rintro e w' ⟨rfl, rfl⟩
        have hB1 := (hblk.drew).setAll ((l.map str).drop i) (0 + (i + 1))
        have hB2 := hB1.setAll [.string x] (0 + i)
        refine ⟨_, rfl, ?_, below_all hBg _ _ (below_all hBg _ _ hbW.drew)⟩
        have h2 := own_of_blk (l := insAt l i x.data.toList) (cap := cap) hB2 hBg (by rw [insAt_len hi]; exact hroom) (by unfold maxLen; omega) (by rw [setAll_size, setAll_size]; exact hsA) (fun j hj => by
          rw [insAt_len hi] at hj
          rw [insAt_get hi, setAll_get, setAll_size]
          by_cases h3 : j < i
          · rw [if_pos h3, if_neg (by omega), setAll_get, if_neg (by omega), hA j (by omega)]
          · rw [if_neg h3]
            by_cases h4 : j = i
            · subst h4
              rw [if_pos rfl, if_pos (by simp; omega), show j - (0 + j) = 0 by omega]
              rfl
            · rw [if_neg h4, if_neg (by simp; omega), setAll_get, if_pos (by simp; omega), List.getElem?_drop, show i + (j - (0 + (i + 1))) = j - 1 by omega])
        rw [insAt_len hi] at h2
        exact h2
    · have hroom' : cap < l.length + 1 := by omega
      have hcap : cap = l.length := by omega
      by_cases hend : i = l.length
      · subst hend
        have h := Tryd.slices_Insert_string_end_grow (some ⟨g, 0, none⟩) l.length cap w.heap.size 0 1 1 (l.map str) [.string x] W (by omega) hlc hroom' (by omega) hlm rfl (fun h => by cases h) (fun a ha j u hj => by
          injection ha with ha
          subst ha
          have := hcs j u hj
          have hadd : (⟨g, 0, none⟩ : Addr).add j = ⟨g, 0 + j, none⟩ := by unfold Addr.add; split <;> simp_all
          rw [hadd]
          exact this) hvs h1v
        refine h.mono ?_
        rintro e w' ⟨rfl, rfl⟩
        have hge := grownCap_ge W (l.length + 1) cap 9
        have hle := grownCap_le_maxLen W (l.length + 1) cap 9 (by unfold maxLen; omega)
        generalize grownCap W (l.length + 1) cap 9 = gc at *
        refine ⟨_, rfl, ?_, hbW.drew.alloc hBW _⟩
        have hz := zeros_size (gc - (l.length + 1))
        have h2 := own_of_blk (l := insAt l l.length x.data.toList) (cap := gc) (Blk.new W.drew ((l.map str ++ [Value.string x]).toArray ++ Builtin.zeroCells (Value.string ⟨#[]⟩).cells (gc - (l.length + 1))) 9) hBW (by rw [insAt_len (Nat.le_refl _)]; exact hge) hle (by simp [hz]; omega) (fun j hj => by
          rw [insAt_len (Nat.le_refl _)] at hj
          rw [insAt_get (Nat.le_refl _), Array.getElem?_append_left (by simp; omega), List.getElem?_toArray]
          by_cases h3 : j < l.length
          · rw [if_pos h3, List.getElem?_append_left (by simp; omega)]
          · obtain rfl : j = l.length := by omega
            rw [if_neg h3, if_pos rfl, List.getElem?_append_right (by simp), hlm, Nat.sub_self]
            rfl)
        rw [insAt_len (Nat.le_refl _)] at h2
        exact h2
      · have hilt : i < l.length := by omega
        have h := Tryd.slices_Insert_string_grow g 0 l.length cap i w.heap.size 0 1 1 (l.map str) [.string x] W hilt (by omega) hlc hroom' (by omega) hlm rfl hcs hvs (one_cell l) h1v
        refine h.mono ?_
        rintro e w' ⟨rfl, rfl⟩
        have hge := grownCap_ge W (l.length + 1) cap 9
        have hle := grownCap_le_maxLen W (l.length + 1) cap 9 (by unfold maxLen; omega)
        generalize grownCap W (l.length + 1) cap 9 = gc at *
        have hz := zeros_size (gc - (l.length + 1))
        have hz2 := zeros_size (l.length + 1 - i)
        have hB0 := Blk.new W (((l.map str).take i).toArray ++ Builtin.zeroCells (Value.string ⟨#[]⟩).cells (l.length + 1 - i) ++ Builtin.zeroCells (Value.string ⟨#[]⟩).cells (gc - (l.length + 1))) 9
        have hB1 := (hB0.drew).setAll [.string x] i
        have hB2 := (hB1.drew).setAll ((l.map str).drop i) (i + 1)
        have hsz : (((l.map str).take i).toArray ++ Builtin.zeroCells (Value.string ⟨#[]⟩).cells (l.length + 1 - i) ++ Builtin.zeroCells (Value.string ⟨#[]⟩).cells (gc - (l.length + 1))).size = gc := by
          simp [hz, hz2]
          omega
        refine ⟨_, rfl, ?_, below_all hBW _ _ (below_all hBW _ _ (hbW.alloc hBW _).drew).drew⟩
        have h2 := own_of_blk (l := insAt l i x.data.toList) (cap := gc) hB2 hBW (by rw [insAt_len hi]; exact hge) hle (by rw [setAll_size, setAll_size]; exact hsz) (fun j hj => by
          rw [insAt_len hi] at hj
          rw [insAt_get hi, setAll_get, setAll_size, hsz]
          by_cases h3 : j < i
          · rw [if_pos h3, if_neg (by omega), setAll_get, if_neg (by omega), Array.append_assoc, Array.getElem?_append_left (by simp; omega), List.getElem?_toArray, List.getElem?_take, if_pos h3]
          · rw [if_neg h3]
            by_cases h4 : j = i
            · subst h4
              rw [if_pos rfl, if_neg (by omega), setAll_get, hsz, if_pos (by simp; omega), Nat.sub_self]
              rfl
            · rw [if_neg h4, if_pos (by simp; omega), List.getElem?_drop, show i + (j - (i + 1)) = j - 1 by omega])
        rw [insAt_len hi] at h2
        exact h2
end Go.Proofs.YtbichcmpggbfnaaDoor
