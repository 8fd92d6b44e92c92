/-
  THE LOOPS OF A GRAPH: the contract of 'loops'. By an AI agent.
-/
import Derived.Test.YtkocfhacfmlmaaaDepVisit
import Derived.Laws.EntriesVeiled
namespace Go.Proofs.Ytkocfhacfmlmaaa
open Go.RowKit

theorem alloc8 (w : World) (o0 o1 o2 o3 o4 o5 o6 o7 : Obj) :
    let W := (((((((w.alloc o0).alloc o1).alloc o2).alloc o3).alloc o4).alloc o5).alloc o6).alloc o7
    W.heap.size = w.heap.size + 8 ∧ W.heap[w.heap.size]? = some o0 ∧ W.heap[w.heap.size + 1]? = some o1 ∧ W.heap[w.heap.size + 2]? = some o2 ∧ W.heap[w.heap.size + 3]? = some o3 ∧ W.heap[w.heap.size + 4]? = some o4 ∧
    W.heap[w.heap.size + 5]? = some o5 ∧ W.heap[w.heap.size + 6]? = some o6 ∧ W.heap[w.heap.size + 7]? = some o7 ∧ ∀ k, k < w.heap.size → W.heap[k]? = w.heap[k]? := by
  intro W
  have e : W.heap = (((((((w.heap.push o0).push o1).push o2).push o3).push o4).push o5).push o6).push o7 := rfl
  have hs : W.heap.size = w.heap.size + 8 := by rw [e]; simp
  refine ⟨hs, ?_, ?_, ?_, ?_, ?_, ?_, ?_, ?_, ?_⟩
  · rw [e]; simp only [Array.getElem?_push, Array.size_push]; repeat (first | exact if_pos trivial | rw [if_neg (by omega)])
  · rw [e]; simp only [Array.getElem?_push, Array.size_push]; repeat (first | exact if_pos trivial | rw [if_neg (by omega)])
  · rw [e]; simp only [Array.getElem?_push, Array.size_push]; repeat (first | exact if_pos trivial | rw [if_neg (by omega)])
  · rw [e]; simp only [Array.getElem?_push, Array.size_push]; repeat (first | exact if_pos trivial | rw [if_neg (by omega)])
  · rw [e]; simp only [Array.getElem?_push, Array.size_push]; repeat (first | exact if_pos trivial | rw [if_neg (by omega)])
  · rw [e]; simp only [Array.getElem?_push, Array.size_push]; repeat (first | exact if_pos trivial | rw [if_neg (by omega)])
  · rw [e]; simp only [Array.getElem?_push, Array.size_push]; repeat (first | exact if_pos trivial | rw [if_neg (by omega)])
  · rw [e]; simp only [Array.getElem?_push, Array.size_push]; repeat (first | exact if_pos trivial | rw [if_neg (by omega)])
  · intro k hk
    rw [e]
    simp only [Array.getElem?_push, Array.size_push]
    rw [if_neg (by omega), if_neg (by omega), if_neg (by omega), if_neg (by omega), if_neg (by omega), if_neg (by omega), if_neg (by omega), if_neg (by omega)]
/-- the world when all variables of 'loops' are laid -/
def setup (w : World) (n : Nat) (lv wv rv : Value) : World :=
  (((((((w.alloc (.cells #[lv, wv, rv] 36)).alloc (.cells (zeroRow n) 3)).alloc (.cells #[.slice (some ⟨w.heap.size + 1, 0, none⟩) n n] 22)).alloc (.cells (zeroRow n) 3)).alloc
    (.cells #[.slice (some ⟨w.heap.size + 1 + 1 + 1, 0, none⟩) n n] 22)).alloc (.cells #[.slice none 0 0] 22)).alloc (.cells #[.int .i64 0] 3)).alloc
    (.cells #[.func (Fn.func 36) #[] #[.pointer (some ⟨w.heap.size + 1 + 1 + 1 + 1 + 1, 0, none⟩), .pointer (some ⟨w.heap.size + 1 + 1 + 1 + 1 + 1 + 1, 0, none⟩), .pointer (some ⟨w.heap.size + 1 + 1 + 1 + 1, 0, none⟩), .pointer (some ⟨w.heap.size, 0, none⟩), .pointer (some ⟨w.heap.size + 1 + 1, 0, none⟩), .pointer (some ⟨w.heap.size + 1 + 1 + 1 + 1 + 1 + 1 + 1, 0, none⟩)]] 52)
theorem ownsRow_block {enc : Int → Value} {w : World} {g n : Nat} {l : List Int} {e : TypeId} (hn : l.length = n) (hm : n ≤ 1000000) (h : w.heap[g]? = some (.cells (l.map enc).toArray e (0, 0))) : OwnRow enc e g w (.slice (some ⟨g, 0, none⟩) n n) l := by
  subst hn
  exact ⟨by simp, .inr ⟨g, l.length, _, rfl, Nat.le_refl _, h, Nat.le_refl _, by unfold maxLen; omega, by simp, by simp [List.take_of_length_le]⟩⟩
theorem ownsRow_blockN {w : World} {g n : Nat} (hm : n ≤ 1000000) (h : w.heap[g]? = some (.cells (zeroRow n) 3 (0, 0))) : OwnRow encN 3 g w (.slice (some ⟨g, 0, none⟩) n n) (List.replicate n 0) :=
  ⟨by simp, .inr ⟨g, n, zeroRow n, by rw [List.length_replicate], Nat.le_refl _, h, by rw [List.length_replicate]; exact Nat.le_refl _, by unfold maxLen; omega, by simp [zeroRow_size], by simp [zeroRow, encI, encN]⟩⟩
section
variable {w : World} {n : Nat} {lv wv rv : Value} {el : List Int} {Wn : List (List Nat)} {rmL : List Bool}
theorem setup_below : Below w.heap.size w (setup w n lv wv rv) := by
  obtain ⟨h0, h1, h2, h3, h4, h5, h6, h7, h8, h9⟩ := alloc8 w (.cells #[lv, wv, rv] 36) (.cells (zeroRow n) 3) (.cells #[.slice (some ⟨w.heap.size + 1, 0, none⟩) n n] 22) (.cells (zeroRow n) 3)
    (.cells #[.slice (some ⟨w.heap.size + 1 + 1 + 1, 0, none⟩) n n] 22) (.cells #[.slice none 0 0] 22) (.cells #[.int .i64 0] 3)
    (.cells #[.func (Fn.func 36) #[] #[.pointer (some ⟨w.heap.size + 1 + 1 + 1 + 1 + 1, 0, none⟩), .pointer (some ⟨w.heap.size + 1 + 1 + 1 + 1 + 1 + 1, 0, none⟩), .pointer (some ⟨w.heap.size + 1 + 1 + 1 + 1, 0, none⟩), .pointer (some ⟨w.heap.size, 0, none⟩), .pointer (some ⟨w.heap.size + 1 + 1, 0, none⟩), .pointer (some ⟨w.heap.size + 1 + 1 + 1 + 1 + 1 + 1 + 1, 0, none⟩)]] 52)
  exact ⟨rfl, rfl, rfl, by unfold setup; omega, h9⟩
theorem setup_ok (hsm : n ≤ 1000000) (hw : Grid encN 0 w.heap.size w wv Wn) (hWn : Wn.length = n) (hinn : ∀ p q, q ∈ Wn.getD p [] → q < n) :
    Ctx w.heap.size n (setup w n lv wv rv) wv Wn ∧ Mem w.heap.size n (setup w n lv wv rv) (List.replicate n 0) (List.replicate n 0) [] 0 (setup w n lv wv rv) ∧ (setup w n lv wv rv).cell? ⟨w.heap.size, 0, none⟩ = some lv ∧ (setup w n lv wv rv).cell? ⟨w.heap.size, 2, none⟩ = some rv := by
  obtain ⟨h0, h1, h2, h3, h4, h5, h6, h7, h8, h9⟩ := alloc8 w (.cells #[lv, wv, rv] 36) (.cells (zeroRow n) 3) (.cells #[.slice (some ⟨w.heap.size + 1, 0, none⟩) n n] 22) (.cells (zeroRow n) 3)
    (.cells #[.slice (some ⟨w.heap.size + 1 + 1 + 1, 0, none⟩) n n] 22) (.cells #[.slice none 0 0] 22) (.cells #[.int .i64 0] 3)
    (.cells #[.func (Fn.func 36) #[] #[.pointer (some ⟨w.heap.size + 1 + 1 + 1 + 1 + 1, 0, none⟩), .pointer (some ⟨w.heap.size + 1 + 1 + 1 + 1 + 1 + 1, 0, none⟩), .pointer (some ⟨w.heap.size + 1 + 1 + 1 + 1, 0, none⟩), .pointer (some ⟨w.heap.size, 0, none⟩), .pointer (some ⟨w.heap.size + 1 + 1, 0, none⟩), .pointer (some ⟨w.heap.size + 1 + 1 + 1 + 1 + 1 + 1 + 1, 0, none⟩)]] 52)
  have hb := setup_below (w := w) (n := n) (lv := lv) (wv := wv) (rv := rv)
  refine ⟨⟨h0, ?_, hw.below hb (Nat.le_refl _), hWn, hinn, cell_of_one h3, cell_of_one h5, cell_of_one h8, hsm⟩,
    ⟨rfl, rfl, rfl, by rw [show (setup w n lv wv rv).heap.size = w.heap.size + 8 from h0]; exact Nat.le_refl _, fun k _ _ _ _ _ => rfl, ownsRow_block (by simp) hsm h2, ownsRow_blockN hsm h4, ⟨_, h6, OwnRow.nil _ _ _ _⟩, h7⟩, ?_, ?_⟩
  · simp only [World.cell?]
    rw [show (setup w n lv wv rv).heap[w.heap.size]? = _ from h1]
    rfl
  · simp only [World.cell?]
    rw [show (setup w n lv wv rv).heap[w.heap.size]? = _ from h1]
    rfl
  · simp only [World.cell?]
    rw [show (setup w n lv wv rv).heap[w.heap.size]? = _ from h1]
    rfl
end
/-- marks under way -/
def MarkAt (N n : Nat) (W0 : World) (rmL : List Bool) (i : Value) (wr : World) : Prop :=
  ∃ (k : Nat) (L : List Int), k ≤ n ∧ i = .int .i64 (k : Int) ∧ Mem N n W0 L (List.replicate n 0) [] 0 wr ∧ ∀ q, nth 0 L q = if q < k ∧ nth false rmL q = true then -1 else 0
/-- visits under way -/
def TourAt (N n : Nat) (W0 : World) (Wn : List (List Nat)) (rm : Nat → Bool) (i : Value) (wr : World) : Prop :=
  ∃ (k : Nat) (L : List Int) (R : List Nat) (c : Nat), k ≤ n ∧ i = .int .i64 (k : Int) ∧ Mem N n W0 L R [] c wr ∧ Dep.Inv n (edge Wn n rm) rm (fun _ => False) (nth 0 L) (nth 0 R) [] c ∧ ∀ q, q < k → nth 0 L q ≠ 0
/-- what the loops say of a graph -/
def LoopsOk (Wn : List (List Nat)) (n : Nat) (rm : Nat → Bool) (L : List Int) : Prop :=
  L.length = n ∧ (∀ q, q < n → (nth 0 L q = -1 ↔ rm q = true)) ∧ ∀ a b, a < n → b < n → rm a = false → rm b = false → (nth 0 L a = nth 0 L b ↔ Dep.Reach (edge Wn n rm) a b ∧ Dep.Reach (edge Wn n rm) b a)
theorem nth_replicate (n q : Nat) : nth 0 (List.replicate n 0) q = 0 := by
  unfold nth
  rw [List.getD_eq_getElem?_getD, List.getElem?_replicate]
  split <;> rfl
theorem nth_replicateI (n q : Nat) : nth (0 : Int) (List.replicate n 0) q = 0 := by
  unfold nth
  rw [List.getD_eq_getElem?_getD, List.getElem?_replicate]
  split <;> rfl
theorem MarkAt.next {N n : Nat} {W0 wr : World} {rmL : List Bool} {k : Nat} {L : List Int} (hk : k < n) (hr : nth false rmL k = true) (hM : Mem N n W0 L (List.replicate n 0) [] 0 wr) (hL : ∀ q, nth 0 L q = if q < k ∧ nth false rmL q = true then -1 else 0) :
    MarkAt N n W0 rmL (.int .i64 ((k : Int) + 1)) (wr.setCell ⟨N + 1, k, none⟩ (.int .i64 (-1))) := by
  refine ⟨k + 1, _, hk, rfl, hM.setL hk (-1), fun q => ?_⟩
  rw [nth_set 0 L (-1) (by rw [hM.llen]; exact hk)]
  unfold Dep.upd
  by_cases e : q = k
  · subst e
    rw [if_pos rfl, if_pos ⟨by omega, hr⟩]
  · rw [if_neg e, hL q]
    by_cases e2 : q < k ∧ nth false rmL q = true
    · rw [if_pos e2, if_pos ⟨by omega, e2.2⟩]
    · rw [if_neg e2, if_neg (fun h => e2 ⟨by omega, h.2⟩)]
theorem MarkAt.skip {N n : Nat} {W0 wr : World} {rmL : List Bool} {k : Nat} {L : List Int} (hk : k < n) (hr : nth false rmL k = false) (hM : Mem N n W0 L (List.replicate n 0) [] 0 wr) (hL : ∀ q, nth 0 L q = if q < k ∧ nth false rmL q = true then -1 else 0) :
    MarkAt N n W0 rmL (.int .i64 ((k : Int) + 1)) wr := by
  refine ⟨k + 1, L, hk, rfl, hM, fun q => ?_⟩
  rw [hL q]
  by_cases e2 : q < k ∧ nth false rmL q = true
  · rw [if_pos e2, if_pos ⟨by omega, e2.2⟩]
  · rw [if_neg e2, if_neg ?_]
    rintro ⟨h1, h2⟩
    by_cases e : q = k
    · subst e; rw [hr] at h2; cases h2
    · exact e2 ⟨by omega, h2⟩
set_option maxHeartbeats 4000000 in
set_option maxRecDepth 100000 in
theorem loops (w : World) (lv wv rv : Value) (el : List Int) (Wn : List (List Nat)) (rmL : List Bool) (n : Nat) (hl : Ints w lv el) (hw : Grid encN 0 w.heap.size w wv Wn) (hr : RowIn encB 0 w.heap.size w rv rmL)
    (hn : el.length = n) (hWn : Wn.length = n) (hrn : rmL.length = n) (hinn : ∀ p q, q ∈ Wn.getD p [] → q < n) (hsm : n ≤ 1000000) :
    Calls Try.prog 28 #[.agg #[lv, wv, rv]] w fun e w' => ∃ v L, e = .returned v ∧ OwnI w.heap.size w' v L ∧ Below w.heap.size w w' ∧ LoopsOk Wn n (nth false rmL) L := by
  have hmk := fun u : World => run_make_ints u n hsm
  have hmf : ∀ (fn : Fn) (first cap : Array Value) (w : World), (Instr.makeFunc fn first cap).run Try.prog w = .ok (.func fn first cap) w := fun _ _ _ _ => rfl
  obtain ⟨C, hM0, c0, c2⟩ := setup_ok (w := w) (lv := lv) (rv := rv) hsm hw hWn hinn
  have hB0 := setup_below (w := w) (n := n) (lv := lv) (wv := wv) (rv := rv)
  have HM0 := Lib.hid hM0
  have HB0 := Lib.hid hB0
  have HC0 := Lib.hid c0
  have HC2 := Lib.hid c2
  have HR := Lib.hid hr
  obtain ⟨la, lc, rfl, hl1, hl2, -⟩ := hl
  obtain ⟨wa, wc, rfl, hw1, hw2⟩ := hw.len
  obtain ⟨ra, rc, rfl, hr1, hr2, -⟩ := hr
  rw [hn] at hl1 hM0 HM0 HB0 HC0 HC2 C ⊢
  rw [hrn] at hr1 hM0 HM0 HB0 HC0 HC2 C HR ⊢
  unfold maxLen at hl2 hr2
  have HCC := Lib.hid C
  have HN := Lib.hid hn
  have HRN := Lib.hid hrn
  clear hw hM0 hB0 c0 c2 C hw1 hw2 hn hWn hrn hinn
  go_enter Try.func28, Try.ntmps28
  go_wp2_with fail
  go_loopw [23] (fun i wr => MarkAt w.heap.size n (setup w n (.slice la n lc) (.slice wa Wn.length wc) (.slice ra n rc)) rmL i wr) (fun i _ => n - (intOf i).toNat)
  case atStart => exact ⟨0, _, Nat.zero_le _, rfl, HM0.out, fun q => by rw [if_neg (by omega)]; exact nth_replicateI n q⟩
  case round =>
    clear hmk hmf
    obtain ⟨k, L, hk, rfl, hMr, hL⟩ := hrel
    have hold : ∀ j, j < w.heap.size → wr.heap[j]? = w.heap[j]? := fun j hj => (hMr.rest j (by omega) (by omega) (by omega) (by omega) (by omega)).trans (HB0.out.block j hj)
    have HOLD := Lib.hid hold
    have HMR := Lib.hid hMr
    have HL := Lib.hid hL
    have cL : wr.cell? ⟨w.heap.size + 1 + 1, 0, none⟩ = some (.slice (some ⟨w.heap.size + 1, 0, none⟩) n n) := hMr.varL HCC.out
    by_cases hlt : k < n
    · have i1 : (k : Int) < (n : Int) := by omega
      obtain ⟨-, fl⟩ := hMr.lcell hlt
      obtain ⟨y, cl⟩ : ∃ y, wr.cell? ⟨w.heap.size + 1, k, none⟩ = some y := ⟨_, (hMr.lcell hlt).1⟩
      obtain ⟨a9, cap9, e9, -, -, -, hc9⟩ := HR.out
      obtain ⟨rfl, -, rfl⟩ := sl_eq e9
      obtain ⟨br, or', rfl, -, hbr, -, hcell⟩ := hc9 k _ (getD_get (d := false) (by rw [HRN.out]; exact hlt))
      have cq : wr.cell? ⟨br, or' + k, none⟩ = some (.bool (rmL.getD k false)) := (World.cell?_of_block (a := ⟨br, or' + k, none⟩) (hold br hbr)).trans hcell
      have hki : (0 : Int) ≤ (k : Int) ∧ (k : Int) < (n : Int) := by omega
      have HLT := Lib.hid hlt
      clear hcell hc9 hMr hL hold e9
      cases hrk : rmL.getD k false with
      | true =>
        rw [hrk] at cq
        have HREL := Lib.hid (MarkAt.next HLT.out hrk HMR.out HL.out)
        go_wp2_with fail
        go_roundw
        case rel => exact HREL.out
        case measure => simp [intOf]; omega
      | false =>
        rw [hrk] at cq
        have HREL := Lib.hid (MarkAt.skip HLT.out hrk HMR.out HL.out)
        go_wp2_with fail
        go_roundw
        case rel => exact HREL.out
        case measure => simp [intOf]; omega
    · obtain rfl : k = n := by omega
      have cG : wr.cell? ⟨w.heap.size, 0, none⟩ = some (.slice la k lc) := (hMr.static (by omega) (by omega) (by omega) (by omega) (by omega)).trans HC0.out
      have HI := Lib.hid (Dep.Inv.start (E := edge Wn k (nth false rmL)) (rm := nth false rmL) hL)
      clear hMr hL hold cL HL
      go_wp2_with fail
      go_loopw [36] (fun i wr => TourAt w.heap.size k (setup w k (.slice la k lc) (.slice wa Wn.length wc) (.slice ra k rc)) Wn (nth false rmL) i wr) (fun i _ => k - (intOf i).toNat)
      case atStart => exact ⟨0, L, _, 0, Nat.zero_le _, rfl, HMR.out, by rw [show nth 0 (List.replicate k 0) = fun _ => 0 from funext (nth_replicate k)]; exact HI.out, fun q hq => by omega⟩
      case round =>
        clear cG HI HMR HOLD
        obtain ⟨m, L2, R2, c2, hm, rfl, hM2, hI2, hall⟩ := hrel
        have HM2 := Lib.hid hM2
        have HI2 := Lib.hid hI2
        have HALL := Lib.hid hall
        have cL : wr.cell? ⟨w.heap.size + 1 + 1, 0, none⟩ = some (.slice (some ⟨w.heap.size + 1, 0, none⟩) k k) := hM2.varL HCC.out
        by_cases hlt : m < k
        · have i1 : (m : Int) < (k : Int) := by omega
          have hmi : (0 : Int) ≤ (m : Int) ∧ (m : Int) < (k : Int) := by omega
          obtain ⟨cl, -⟩ := hM2.lcell hlt
          have HLT := Lib.hid hlt
          clear hM2 hI2 hall
          by_cases hl0 : L2.getD m 0 = 0
          · rw [hl0] at cl
            have cS : wr.cell? ⟨w.heap.size + 1 + 1 + 1 + 1 + 1 + 1 + 1, 0, none⟩ = some (.func (Fn.func 36) #[] #[.pointer (some ⟨w.heap.size + 5, 0, none⟩), .pointer (some ⟨w.heap.size + 6, 0, none⟩), .pointer (some ⟨w.heap.size + 4, 0, none⟩), .pointer (some ⟨w.heap.size, 0, none⟩), .pointer (some ⟨w.heap.size + 2, 0, none⟩), .pointer (some ⟨w.heap.size + 7, 0, none⟩)]) :=
              (HM2.out.static (k := w.heap.size + 7) (by omega) (by omega) (by omega) (by omega) (by omega)).trans HCC.out.self
            have hr0 : nth 0 R2 m = 0 := Classical.byContradiction fun h => by
              have := (HI2.out.mem m).2 ⟨HLT.out, h, hl0⟩
              simp at this
            have HC := Lib.hid (visit w.heap.size k _ _ Wn (nth false rmL) HCC.out (k - c2) m L2 R2 [] c2 wr (fun _ => False) (Nat.le_refl _) HLT.out hr0 hl0 HI2.out (fun x h => h.elim) HM2.out)
            clear hl0 hr0
            go_wp2_with (go_at_call 36; refine HC.out.mono ?_)
            rintro e w3 ⟨L3, R3, S3, c3, low3, T3, rfl, hM3, hi3, hp3⟩
            obtain ⟨rfl, hne⟩ := Dep.Inv.next hp3
            have HREL : Hid (TourAt w.heap.size k (setup w k (.slice la k lc) (.slice wa Wn.length wc) (.slice ra k rc)) Wn (nth false rmL) (.int .i64 ((m : Int) + 1)) w3) :=
              Lib.hid ⟨m + 1, L3, R3, c3, HLT.out, rfl, hM3, hi3, fun q hq => by
                by_cases e : q = m
                · rw [e]; exact hne
                · have h1 := HALL.out q (by omega)
                  rw [hp3.keepL q h1]
                  exact h1⟩
            clear hM3 hi3 hp3 HC hne
            go_wp2_with fail
            go_roundw
            case rel => exact HREL.out
            case measure => simp [intOf]; omega
          · have t1 : (L2.getD m 0 == 0) = false := by simp only [beq_eq_false_iff_ne]; exact hl0
            have HREL : Hid (TourAt w.heap.size k (setup w k (.slice la k lc) (.slice wa Wn.length wc) (.slice ra k rc)) Wn (nth false rmL) (.int .i64 ((m : Int) + 1)) wr) :=
              Lib.hid ⟨m + 1, L2, R2, c2, HLT.out, rfl, HM2.out, HI2.out, fun q hq => by
                by_cases e : q = m
                · rw [e]; exact hl0
                · exact HALL.out q (by omega)⟩
            clear hl0
            generalize L2.getD m 0 = lq at *
            go_wp2_with fail
            go_roundw
            case rel => exact HREL.out
            case measure => simp [intOf]; omega
        · obtain rfl : m = k := by omega
          have HF := Lib.hid (hI2.found hall)
          clear hM2 hI2 hall
          go_wp2_with fail
          go_ret
          refine ⟨_, L2, rfl, HM2.out.lrow.mono (by omega), ⟨HM2.out.os, HM2.out.tape, HM2.out.output, ?_, fun j hj => (HM2.out.rest j (by omega) (by omega) (by omega) (by omega) (by omega)).trans (HB0.out.block j hj)⟩, HM2.out.llen, HF.out.1, HF.out.2⟩
          have := HM2.out.size
          omega
end Go.Proofs.Ytkocfhacfmlmaaa
