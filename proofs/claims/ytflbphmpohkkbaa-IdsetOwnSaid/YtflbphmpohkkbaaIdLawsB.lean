/-
  THE LAWS OF LAYER 3, WALKED: Splits, Own. By an AI agent.
-/
import Derived.Test.YtflbphmpohkkbaaIdLaws
namespace Go.Proofs.Ytflbphmpohkkbaa
open Go.RowKit

theorem in_y {l l2 : List Int} {k : Nat} (h : k < (Ids.chosen l l2 true).length) :
    (Ids.chosen l l2 false).contains ((Ids.chosen l l2 true).getD k 0) = false ∧ l2.contains ((Ids.chosen l l2 true).getD k 0) = true := by
  have hm : (Ids.chosen l l2 true).getD k 0 ∈ Ids.chosen l l2 true := List.mem_of_getElem? (getD_get h)
  generalize (Ids.chosen l l2 true).getD k 0 = x at hm ⊢
  have h1 := (Ids.mem_chosen l l2 true x).1 hm
  refine ⟨?_, h1.2⟩
  cases hc : (Ids.chosen l l2 false).contains x with
  | false => rfl
  | true =>
    have h2 := (Ids.mem_chosen l l2 false x).1 (List.contains_iff_mem.1 hc)
    rw [h1.2] at h2
    cases h2.2
set_option maxHeartbeats 1600000 in
set_option maxRecDepth 100000 in
theorem lawIdsetSplits (v : Value) (l : List Int) (v2 : Value) (l2 : List Int) (w : World) (hv : Ints w v l) (hv2 : Ints w v2 l2) :
    Calls Try.prog 7 #[v, v2] w fun e w' => e = .returned (.bool true) ∧ Below w.heap.size w w' := by
  have V := Lib.hid hv
  obtain ⟨a, c, rfl, _⟩ := hv
  have V2 := Lib.hid hv2
  obtain ⟨a2, c2, rfl, _⟩ := hv2
  cases hf : decide (l.length ≤ 200 ∧ l2.length ≤ 200) with
  | false =>
    have HF := Lib.hid hf
    clear hf
    go_enter Try.func7, Try.ntmps7
    go_wp2_with fail
    refine (lawFew _ _ _ _ _ _ false _ HF.out).mono ?_
    rintro e w0 ⟨rfl, rfl⟩
    go_wp2_with fail
    refine (lawAlive _).mono ?_
    rintro e w1 ⟨rfl, hb⟩
    go_wp2_with fail
    go_ret
    exact ⟨rfl, hb⟩
  | true =>
    have HF := Lib.hid hf
    obtain ⟨hl, hl2⟩ := of_decide_eq_true hf
    clear hf
    go_enter Try.func7, Try.ntmps7
    go_wp2_with fail
    refine (lawFew _ _ _ _ _ _ true _ HF.out).mono ?_
    rintro e w0 ⟨rfl, rfl⟩
    go_wp2_with fail
    refine (idsetMeet _ _ l l2 _ V.out V2.out (by omega) (by omega)).mono ?_
    rintro e w1 ⟨vx, rfl, hox, hb1⟩
    have V' := Lib.hid (V.out.below hb1 (Nat.le_refl _))
    have V2' := Lib.hid (V2.out.below hb1 (Nat.le_refl _))
    go_wp2_with fail
    refine (idsetMinus _ _ l l2 _ V'.out V2'.out (by omega) (by omega)).mono ?_
    rintro e w2 ⟨vy, rfl, hoy, hb2⟩
    have X := Lib.hid (hox.below hb2 (Nat.le_refl _)).ints
    have Y := Lib.hid hoy.ints
    have B := Lib.hid (hb1.trans (hb2.mono hb1.size))
    have V3 := Lib.hid (V'.out.below hb2 (Nat.le_refl _))
    have V23 := Lib.hid (V2'.out.below hb2 (Nat.le_refl _))
    clear hox hoy hb1 hb2 V V2 V' V2'
    have hX := X.out
    obtain ⟨ax, cx, rfl, hlc, hm, -, d⟩ := hX
    unfold maxLen at hm
    have D := Lib.hid d
    have HK := Lib.hid (fun k (h : k < (Ids.chosen l l2 true).length) => in_y h)
    have HU := Lib.hid (Ids.chosen_split l l2)
    have hlx := Ids.chosen_length l l2 true
    have hly := Ids.chosen_length l l2 false
    clear d
    generalize Ids.chosen l l2 true = xs at *
    generalize Ids.chosen l l2 false = ys at *
    go_wp2_with fail
    go_loopw [7] (fun i wr => ∃ k : Nat, k ≤ xs.length ∧ i = .int .i64 (k : Int) ∧ Below w2.heap.size w2 wr) (fun i _ => xs.length - (intOf i).toNat)
    case atStart => exact ⟨0, Nat.zero_le _, rfl, Below.refl _ _⟩
    case round =>
      obtain ⟨k, hk, rfl, hbr⟩ := hrel
      have hsz := hbr.size
      by_cases hlt : k < xs.length
      · obtain ⟨b, o, rfl, q, hc⟩ := D.out k _ (getD_get hlt)
        have hk2 := HK.out k hlt
        have c1 : wr.cell? ⟨b, o + k, none⟩ = some (.int .i64 (xs.getD k 0)) := (hbr.cell q).trans hc
        have i0 : (0 : Int) ≤ (k : Int) := by omega
        have i3 : (k : Int) < (xs.length : Int) := by omega
        generalize xs.getD k 0 = x at c1 hk2 hc
        have K1 := Lib.hid hk2.1
        have K2 := Lib.hid hk2.2
        have HC := Lib.hid hc
        have Y' := Lib.hid (Y.out.below hbr (Nat.le_refl _))
        clear hk2 hc
        go_wp2_with fail
        refine (refHas _ _ _ _ Y'.out).mono ?_
        rw [K1.out]
        rintro e w3 ⟨rfl, hb3⟩
        have hbr' := hbr.trans (hb3.mono hsz)
        have c2 : w3.cell? ⟨b, o + k, none⟩ = some (.int .i64 x) := (hbr'.cell q).trans HC.out
        have V4 := Lib.hid (V23.out.below hbr' (Nat.le_refl _))
        have hsz' := hbr'.size
        clear Y' c1 hbr hb3 HC
        go_wp2_with fail
        refine (refHas _ _ _ _ V4.out).mono ?_
        rw [K2.out]
        rintro e w4 ⟨rfl, hb4⟩
        have hbr2 := hbr'.trans (hb4.mono hsz')
        clear hbr' hb4 c2 V4
        go_wp2_with fail
        go_roundw
        case rel => exact ⟨k + 1, by omega, by go_num, hbr2⟩
        case measure => simp [intOf]; omega
      · have hk' : (xs.length : Int) ≤ (k : Int) := by omega
        have X' := Lib.hid (X.out.below hbr (Nat.le_refl _))
        have Y' := Lib.hid (Y.out.below hbr (Nat.le_refl _))
        have V4 := Lib.hid (V3.out.below hbr (Nat.le_refl _))
        have B' := Lib.hid (B.out.trans (hbr.mono B.out.size))
        clear hbr hsz
        go_wp2_with fail
        refine (idsetUnion _ _ xs ys _ X'.out Y'.out (by omega)).mono ?_
        rw [HU.out]
        rintro e w3 ⟨vu, rfl, hou, hb3⟩
        have V5 := Lib.hid (V4.out.below hb3 (Nat.le_refl _))
        have B2 := Lib.hid (B'.out.trans (hb3.mono B'.out.size))
        have U := Lib.hid hou
        clear hou hb3 V4 B' X' Y'
        go_wp2_with fail
        refine (idsetOf _ l _ V5.out (by omega)).mono ?_
        rintro e w4 ⟨vo, rfl, hoo, hb4⟩
        have U2 := Lib.hid (U.out.below hb4 (Nat.le_refl _)).ints
        have O2 := Lib.hid hoo.ints
        have B3 := Lib.hid (B2.out.trans (hb4.mono B2.out.size))
        clear hoo hb4 U V5 B2
        go_wp2_with fail
        refine (refSame _ _ _ _ _ U2.out O2.out).mono ?_
        rw [decide_eq_true (rfl : Ids.norm l = Ids.norm l)]
        rintro e w5 ⟨rfl, hb5⟩
        have B4 := Lib.hid (B3.out.trans (hb5.mono B3.out.size))
        clear hb5 B3 U2 O2
        go_wp2_with fail
        refine (lawAlive _).mono ?_
        rintro e w6 ⟨rfl, hb6⟩
        have B5 := Lib.hid (B4.out.trans (hb6.mono B4.out.size))
        clear hb6 B4
        go_wp2_with fail
        go_ret
        exact ⟨rfl, B5.out⟩
/-! ### Own -/
structure OwnRows (w0 wr : World) (vb : Value) (l : List Int) (vs : List (Value × Nat)) : Prop where
  before : OwnInts w0.heap.size wr vb l
  rows : ∀ p ∈ vs, ∃ m : List Int, m.length = p.2 ∧ OwnInts w0.heap.size wr p.1 m
  below : Below w0.heap.size w0 wr
  apartB : ∀ p ∈ vs, ∀ g, p.1.ownBlock = some g → vb.ownBlock ≠ some g
  apartL : ∀ p ∈ vs, ∀ q ∈ vs, p = q ∨ ∀ g, p.1.ownBlock = some g → q.1.ownBlock ≠ some g
theorem OwnInts.kept {B : Nat} {w w' : World} {v : Value} {l : List Int} {g : Nat} (h : OwnInts B w v l) (hg : w.grownBy w' (some g)) (hne : v.ownBlock ≠ some g) : OwnInts B w' v l :=
  World.ownsRow.kept h hg (.inr hne)
theorem OwnInts.blk {B : Nat} {w : World} {v : Value} {l : List Int} (h : OwnInts B w v l) : ∀ g, v.ownBlock = some g → B ≤ g ∧ g < w.heap.size := fun g hg => World.ownsRow.lt h g hg
theorem OwnRows.step {w0 wr : World} {vb : Value} {l : List Int} {vs : List (Value × Nat)} (h : OwnRows w0 wr vb l vs) {a : Option Addr} {n c k : Nat} (hm : (Value.slice a n c, n) ∈ vs) (hk : k < n) :
    ∃ g x, a = some ⟨g, 0, none⟩ ∧ wr.cell? ⟨g, k, none⟩ = some (.int .i64 x) ∧ wr.frozen? ⟨g, k, none⟩ = false ∧ ∀ u, OwnRows w0 (wr.setCell ⟨g, k, none⟩ (.int .i64 u)) vb l vs := by
  obtain ⟨m, hml, ho⟩ := h.rows _ hm
  simp only at hml ho
  rcases ho.shape with ⟨e, _⟩ | ⟨g, cap, e, hB, _, _, _, hcell⟩
  · obtain ⟨_, e2, _⟩ := sl_eq e; omega
  obtain ⟨rfl, _, rfl⟩ := sl_eq e
  refine ⟨g, m.getD k 0, rfl, hcell k _ (getD_get (by omega)), ?_, fun u => ?_⟩
  · have ho' : wr.ownsRow w0.heap.size 3 1 (.slice (some ⟨g, 0, none⟩) n c) n (m.map (Value.int .i64)) := by rw [← hml]; rw [← hml] at ho; exact ho
    exact World.ownsRow.frozenAt ho' k
  · obtain ⟨h1, h2⟩ := ho.stored hml.symm k u
    refine ⟨h.before.kept h2 (h.apartB _ hm g rfl), fun p hp => ?_, h.below.grown h2 h.below.size fun j hj => ?_, h.apartB, h.apartL⟩
    · rcases h.apartL _ hm p hp with rfl | hne
      · exact ⟨m.set k u, by simpa using hml, h1⟩
      · obtain ⟨m', hm', ho'⟩ := h.rows p hp
        exact ⟨m', hm', ho'.kept h2 (hne g rfl)⟩
    · obtain rfl := Option.some.inj hj
      exact hB
theorem OwnInts.val {B : Nat} {w : World} {v : Value} {l : List Int} (h : OwnInts B w v l) : ∃ a cap, v = .slice a l.length cap := by
  rcases h.shape with ⟨rfl, rfl⟩ | ⟨g, cap, e, _⟩
  · exact ⟨_, _, rfl⟩
  · exact ⟨_, _, e⟩
/-- the rows of four calls, one behind the other, each in memory of its own -/
theorem OwnRows.of {w0 w1 w2 w3 w4 : World} {vb vx vy vz : Value} {l lx ly lz : List Int} (hb : OwnInts w0.heap.size w1 vb l) (hx : OwnInts w1.heap.size w2 vx lx) (hy : OwnInts w2.heap.size w3 vy ly) (hz : OwnInts w3.heap.size w4 vz lz)
    (b1 : Below w0.heap.size w0 w1) (b2 : Below w1.heap.size w1 w2) (b3 : Below w2.heap.size w2 w3) (b4 : Below w3.heap.size w3 w4) :
    OwnRows w0 w4 vb l [(vx, lx.length), (vy, ly.length), (vz, lz.length)] := by
  have s1 := b1.size
  have s2 := b2.size
  have s3 := b3.size
  have s4 := b4.size
  have kb := hb.blk
  have kx := hx.blk
  have ky := hy.blk
  have kz := hz.blk
  refine ⟨((hb.below b2 (Nat.le_refl _)).below b3 (Nat.le_refl _)).below b4 (Nat.le_refl _), ?_, b1.trans ((b2.mono s1).trans ((b3.mono (by omega)).trans (b4.mono (by omega)))), ?_, ?_⟩
  · intro p hp
    simp only [List.mem_cons, List.not_mem_nil, or_false] at hp
    rcases hp with rfl | rfl | rfl
    · exact ⟨lx, rfl, (((hx.below b3 (Nat.le_refl _)).below b4 (Nat.le_refl _)).mono s1)⟩
    · exact ⟨ly, rfl, ((hy.below b4 (Nat.le_refl _)).mono (by omega))⟩
    · exact ⟨lz, rfl, hz.mono (by omega)⟩
  · intro p hp g hg hv
    have h1 := kb g hv
    simp only [List.mem_cons, List.not_mem_nil, or_false] at hp
    rcases hp with rfl | rfl | rfl
    · have := kx g hg; omega
    · have := ky g hg; omega
    · have := kz g hg; omega
  · intro p hp q hq
    simp only [List.mem_cons, List.not_mem_nil, or_false] at hp hq
    rcases hp with rfl | rfl | rfl <;> rcases hq with rfl | rfl | rfl
    · exact .inl rfl
    · exact .inr fun g h1 h2 => by have := kx g h1; have := ky g h2; omega
    · exact .inr fun g h1 h2 => by have := kx g h1; have := kz g h2; omega
    · exact .inr fun g h1 h2 => by have := ky g h1; have := kx g h2; omega
    · exact .inl rfl
    · exact .inr fun g h1 h2 => by have := ky g h1; have := kz g h2; omega
    · exact .inr fun g h1 h2 => by have := kz g h1; have := kx g h2; omega
    · exact .inr fun g h1 h2 => by have := kz g h1; have := ky g h2; omega
    · exact .inl rfl
end Go.Proofs.Ytflbphmpohkkbaa
