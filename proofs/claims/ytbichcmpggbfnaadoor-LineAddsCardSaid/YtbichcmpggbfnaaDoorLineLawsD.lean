/-
  THE LAWS OF LAYER 10: AddSub. By an AI agent.
-/
import Derived.Test.YtbichcmpggbfnaaDoorLineIn
import Derived.Deep.RegionHeld3
namespace Go.Proofs.YtbichcmpggbfnaaDoor
open Go.RowKit
open Wd (Bs)

/-- a row that reads as l and lies in none of the blocks ps -/
def StrsBut (w : World) (v : Value) (l : List Bs) (ps : List Nat) : Prop :=
  ∃ a cap, v = .slice a l.length cap ∧ l.length ≤ cap ∧ cap ≤ maxLen ∧ ∀ (i : Nat) x, l[i]? = some x → ∃ b o, a = some ⟨b, o, none⟩ ∧ b < w.heap.size ∧ w.cell? ⟨b, o + i, none⟩ = some (str x) ∧ b ∉ ps
theorem StrsBut.strs {w : World} {v : Value} {l : List Bs} {ps : List Nat} (h : StrsBut w v l ps) : Strs w v l := by
  obtain ⟨a, c, e, h1, h2, h3⟩ := h
  exact ⟨a, c, e, h1, h2, fun i x hx => by obtain ⟨b, o, h4, h5, h6, _⟩ := h3 i x hx; exact ⟨b, o, h4, h5, h6⟩⟩
theorem StrsBut.own {B : Nat} {w : World} {v : Value} {l : List Bs} {ps : List Nat} (h : OwnStrs B w v l) (hp : ∀ q ∈ ps, q < B) : StrsBut w v l ps := by
  rcases h.shape with ⟨rfl, rfl⟩ | ⟨g, cap, rfl, h1, h2, h3, h4, h5⟩
  · exact ⟨none, 0, rfl, Nat.le_refl _, by decide, fun i x hx => by simp at hx⟩
  · exact ⟨_, cap, rfl, h3, h4, fun i x hx => ⟨g, 0, rfl, h2, by rw [Nat.zero_add]; exact h5 i x hx, fun hm => by have := hp g hm; omega⟩⟩
theorem StrsBut.below {w w' : World} {v : Value} {l : List Bs} {ps : List Nat} (h : StrsBut w v l ps) (hb : Below w.heap.size w w') : StrsBut w' v l ps := by
  obtain ⟨a, c, e, h1, h2, h3⟩ := h
  exact ⟨a, c, e, h1, h2, fun i x hx => by
    obtain ⟨b, o, h4, h5, h6, h7⟩ := h3 i x hx
    exact ⟨b, o, h4, Nat.lt_of_lt_of_le h5 hb.size, (hb.cell (p := ⟨b, o + i, none⟩) h5).trans h6, h7⟩⟩
theorem StrsBut.alloc {w : World} {v : Value} {l : List Bs} {ps : List Nat} (h : StrsBut w v l ps) (o : Obj) : StrsBut (w.alloc o) v l (w.heap.size :: ps) := by
  obtain ⟨a, c, e, h1, h2, h3⟩ := h
  have hb : Below w.heap.size w (w.alloc o) := (Below.refl _ _).alloc (Nat.le_refl _) _
  exact ⟨a, c, e, h1, h2, fun i x hx => by
    obtain ⟨b, o', h4, h5, h6, h7⟩ := h3 i x hx
    exact ⟨b, o', h4, Nat.lt_of_lt_of_le h5 hb.size, (hb.cell (p := ⟨b, o' + i, none⟩) h5).trans h6, fun hm => by
      rcases List.mem_cons.1 hm with rfl | hm
      · exact absurd h5 (Nat.lt_irrefl _)
      · exact h7 hm⟩⟩
theorem StrsBut.perm {w : World} {v : Value} {l : List Bs} {ps qs : List Nat} (h : StrsBut w v l ps) (hp : ∀ q ∈ qs, q ∈ ps) : StrsBut w v l qs := by
  obtain ⟨a, c, e, h1, h2, h3⟩ := h
  exact ⟨a, c, e, h1, h2, fun i x hx => by obtain ⟨b, o, h4, h5, h6, h7⟩ := h3 i x hx; exact ⟨b, o, h4, h5, h6, fun hm => h7 (hp b hm)⟩⟩
theorem StrsBut.set {w : World} {v : Value} {l : List Bs} {ps : List Nat} (h : StrsBut w v l ps) {p : Nat} (hp : p ∈ ps) (j : Nat) (y : Value) : StrsBut (w.setCell ⟨p, j, none⟩ y) v l ps := by
  obtain ⟨a, c, e, h1, h2, h3⟩ := h
  exact ⟨a, c, e, h1, h2, fun i x hx => by
    obtain ⟨b, o, h4, h5, h6, h7⟩ := h3 i x hx
    have hne : b ≠ p := fun e => h7 (e ▸ hp)
    exact ⟨b, o, h4, by simpa using h5, cell_old hne h6, h7⟩⟩
theorem same_self (a t : Int) (l : List Bs) : sameB ⟨a, t, l⟩ ⟨a, t, l⟩ = true := by unfold sameB; simp
set_option maxHeartbeats 8000000 in
set_option maxRecDepth 100000 in
theorem lawLineAdds (a t : Int) (v : Value) (l : List Bs) (s : ByteArray) (w : World) (h1 : LineIn w v l) (hs : s.size ≤ 140737488351232) (hE : Env w) :
    Calls Tryd.prog 6 #[.agg #[.int .i64 a, .int .i64 t, v], .string s] w fun e w' => e = .returned (.bool true) ∧ Below w.heap.size w w' := by
  obtain ⟨w0, hw0⟩ : ∃ w0, w0 = w.alloc (.cells #[.int .i64 a, .int .i64 t, v] 24) := ⟨_, rfl⟩
  have hb0 : Below w.heap.size w w0 := by rw [hw0]; exact (Below.refl _ _).alloc (Nat.le_refl _) _
  have hz0 : Blk w0 w.heap.size #[.int .i64 a, .int .i64 t, v] 24 := by rw [hw0]; exact Blk.new _ _ _
  have HB0 := Lib.hid hb0
  have HZ0 := Lib.hid hz0
  have HE := Lib.hid (fun (W : World) (h : Below w0.heap.size w0 W) => (hE.below hb0).below h)
  have H1 := Lib.hid (fun (W : World) (h : Below w0.heap.size w0 W) => (h1.below hb0 (Nat.le_refl _)).below h (Nat.le_refl _))
  have HF1 := Lib.hid (lawFew a t v l w0 (h1.below hb0 (Nat.le_refl _)).strs)
  obtain ⟨ad, c, rfl, -, hcm, -⟩ := id h1.strs
  unfold maxLen at hcm
  have hl1 : w.heap.size < w0.heap.size := hz0.lt
  clear hb0 hz0 hE h1
  rcases few_cases l with ⟨hf1, hl12⟩ | hf1
  · rw [hf1] at HF1
    clear hf1
    go_enter Tryd.func6, Tryd.ntmps6
    go_wp2_with fail
    rw [← hw0]
    clear hw0
    refine HF1.out.mono ?_
    rintro e w1 ⟨rfl, hb1⟩
    have B1 := Lib.hid hb1
    have z1 := (HZ0.out.below hb1 hl1).cell
    clear hb1
    have HLIT := Lib.hid (OwnStrs.lit w1 [] (by simp))
    have HSRC := Lib.hid ((H1.out _ B1.out).strs.below ((Below.refl w1.heap.size w1).alloc (Nat.le_refl _) (.cells #[] 9)) (Nat.le_refl _))
    have HLL : Hid (([] : List Bs).length + l.length ≤ 1000000000) := Lib.hid (by simp; omega)
    have hszw : w1.heap.size ≤ (w1.alloc (.cells #[] 9)).heap.size := by simp
    have y1 := ((HZ0.out.below B1.out hl1).alloc (.cells #[] 9)).cell
    go_wp2_with (at_builtin; refine wpList_append_strs rfl (.tmp 12) (.tmp 14) rfl rfl HLIT.out rfl HSRC.out HLL.out hszw ((Below.refl _ _).alloc (Nat.le_refl _) _) ?_)
    intro v5 w2 ho2 hb2
    obtain ⟨ad5, c5, rfl, hcm5, -⟩ := ho2.slice
    unfold maxLen at hcm5
    have HW := Lib.hid ho2.strs
    have B2 := Lib.hid (B1.out.trans (hb2.mono B1.out.size))
    have HB2 := Lib.hid (HB0.out.trans (B2.out.mono HB0.out.size))
    have HZ2 := Lib.hid (HZ0.out.below B2.out hl1)
    have hl0 : w.heap.size < w2.heap.size := HZ2.out.lt
    have x0 : w2.cell? ⟨w.heap.size, 0, none⟩ = some (.int .i64 a) := HZ2.out.cell 0
    have x1 : w2.cell? ⟨w.heap.size, 1, none⟩ = some (.int .i64 t) := HZ2.out.cell 1
    have x2 : w2.cell? ⟨w.heap.size, 2, none⟩ = some (.slice ad l.length c) := HZ2.out.cell 2
    have HE2 := Lib.hid (fun (W : World) (h : Below w2.heap.size w2 W) => HE.out W (B2.out.trans (h.mono B2.out.size)))
    have H2 := Lib.hid (fun (W : World) (h : Below w2.heap.size w2 W) => H1.out W (B2.out.trans (h.mono B2.out.size)))
    obtain ⟨L, hL⟩ : ∃ L, L = (addL ⟨a, t, l⟩ s.data.toList).subs := ⟨_, rfl⟩
    have KA := Lib.hid (fun W (h : Below w2.heap.size w2 W) => lineAdd a t (.slice ad l.length c) l s W (HE2.out W h) (H2.out W h).strs (by omega) (by unfold maxLen; omega))
    have KR := Lib.hid (fun W (h : Below w2.heap.size w2 W) => refAdd10 a t (.slice ad l.length c) l s W (H2.out W h).strs (by omega) (by unfold maxLen; omega))
    unfold AddRes at KA KR
    rw [← hL] at KA KR
    have HSL := Lib.hid (fun W (h : Below w2.heap.size w2 W) => refSame10 a t a t (.slice ad l.length c) (.slice ad5 l.length c5) l l W (H2.out W h).strs (HW.out.below h (Nat.le_refl _)))
    rw [same_self] at HSL
    clear ho2 hb2 HLIT HSRC HLL hszw hL z1 y1
    go_wp2_with fail
    refine wp_region_held_drew (S := (fun W => W.cell? ⟨w.heap.size, 0, none⟩ = some (.int .i64 a) ∧ W.cell? ⟨w.heap.size, 1, none⟩ = some (.int .i64 t) ∧ W.cell? ⟨w.heap.size, 2, none⟩ = some (.slice ad l.length c))) (by kernel_rfl) ?_ (fun hHeld => ?_)
    · exact ⟨x0, x1, x2⟩
    have G0 : Hid (Below w2.heap.size w2 w2.drew) := Lib.hid ((Below.refl _ _).drew)
    generalize w2.drew = W0 at G0 hHeld ⊢
    refine take_run 0 (some 16) (v := ?_) rfl rfl (by kernel_rfl) (by kernel_rfl) (by kernel_rfl) (fun _ _ _ h => h) (by rfl) ?_ (by assumption) ?_
    rotate_left
    · (intro W hSw; (try dsimp only at hSw); go_simp; (try with_reducible rfl))
    simp only [Act.put, List.setIfInBounds_toArray, List.set_cons_zero, List.set_cons_succ]
    refine take_run 1 (some 17) (v := ?_) rfl rfl (by kernel_rfl) (by kernel_rfl) (by kernel_rfl) (fun _ _ _ h => h) (by rfl) ?_ (by assumption) ?_
    rotate_left
    · (intro W hSw; (try dsimp only at hSw); go_simp; (try with_reducible rfl))
    simp only [Act.put, List.setIfInBounds_toArray, List.set_cons_zero, List.set_cons_succ]
    refine take_run 3 (some 19) (v := ?_) rfl rfl (by kernel_rfl) (by kernel_rfl) (by kernel_rfl) (fun _ _ _ h => h) (by rfl) ?_ (by assumption) ?_
    rotate_left
    · (intro W hSw; (try dsimp only at hSw); go_simp; (try with_reducible rfl))
    simp only [Act.put, List.setIfInBounds_toArray, List.set_cons_zero, List.set_cons_succ]
    refine take_run 4 (some 20) (v := ?_) rfl rfl (by kernel_rfl) (by kernel_rfl) (by kernel_rfl) (fun _ _ _ h => h) (by rfl) ?_ (by assumption) ?_
    rotate_left
    · (intro W hSw; (try dsimp only at hSw); go_simp; (try with_reducible rfl))
    simp only [Act.put, List.setIfInBounds_toArray, List.set_cons_zero, List.set_cons_succ]
    refine wpAnyH_ready (rs := [2, 6, 7]) (by kernel_rfl) (by simp) ?_
    refine AllReadyH.cons rfl (fun K hK => ?_) ?_
    · go_simp
      go_at_call 27
      refine (KA.out _ G0.out).mono ?_
      rintro e W1 ⟨vv1, rfl, ho1, hc1⟩
      obtain ⟨av1, cv1, rfl, -, -⟩ := ho1.slice
      have G1 := Lib.hid (G0.out.trans (hc1.mono G0.out.size))
      have HR2_1 : Hid (StrsBut W1 (.slice av1 L.length cv1) L []) := Lib.hid (StrsBut.own ho1 (by simp))
      clear ho1
      refine hK.out _ _ ⟨(G1.out.cell (p := ⟨w.heap.size, 0, none⟩) hl0).trans x0, (G1.out.cell (p := ⟨w.heap.size, 1, none⟩) hl0).trans x1, (G1.out.cell (p := ⟨w.heap.size, 2, none⟩) hl0).trans x2⟩ (fun hHeld1 => ?_)
      clear hK K hc1
      try simp only [Act.put, List.setIfInBounds_toArray, List.set_cons_zero, List.set_cons_succ]
      refine wpAnyH_ready (rs := [5, 6, 7]) (by kernel_rfl) (by simp) ?_
      refine AllReadyH.cons rfl (fun K hK => ?_) ?_
      · go_simp
        go_at_call 28
        refine (KR.out _ G1.out).mono ?_
        rintro e W2 ⟨vv2, rfl, ho2, hc2⟩
        obtain ⟨av2, cv2, rfl, -, -⟩ := ho2.slice
        have G2 := Lib.hid (G1.out.trans (hc2.mono G1.out.size))
        have HR5_2 : Hid (StrsBut W2 (.slice av2 L.length cv2) L []) := Lib.hid (StrsBut.own ho2 (by simp))
        have HR2_2 := Lib.hid (HR2_1.out.below hc2)
        clear ho2
        refine hK.out _ _ ⟨(G2.out.cell (p := ⟨w.heap.size, 0, none⟩) hl0).trans x0, (G2.out.cell (p := ⟨w.heap.size, 1, none⟩) hl0).trans x1, (G2.out.cell (p := ⟨w.heap.size, 2, none⟩) hl0).trans x2⟩ (fun hHeld2 => ?_)
        clear hK K hc2
        try simp only [Act.put, List.setIfInBounds_toArray, List.set_cons_zero, List.set_cons_succ]
        refine wpAnyH_ready (rs := [6, 7]) (by kernel_rfl) (by simp) ?_
        refine AllReadyH.cons rfl (fun K hK => ?_) ?_
        · go_simp
          obtain ⟨W3, hW3⟩ : ∃ W, W = W2.alloc (.cells #[.int .i64 0, .int .i64 0, .slice none 0 0] 24) := ⟨_, rfl⟩
          have hc3 : Below W2.heap.size W2 W3 := by rw [hW3]; exact (Below.refl _ _).alloc (Nat.le_refl _) _
          have G3 := Lib.hid (G2.out.trans (hc3.mono G2.out.size))
          have HP6_3 : Hid (Blk W3 W2.heap.size #[.int .i64 0, .int .i64 0, .slice none 0 0] 24) := Lib.hid (by rw [hW3]; exact Blk.new _ _ _)
          have HC6_3 : Hid (w2.heap.size ≤ W2.heap.size) := Lib.hid G2.out.size
          have HR2_3 : Hid (StrsBut W3 (.slice av1 L.length cv1) L [W2.heap.size]) := Lib.hid (by rw [hW3]; exact (HR2_2.out.alloc _).perm (by simp))
          have HR5_3 : Hid (StrsBut W3 (.slice av2 L.length cv2) L [W2.heap.size]) := Lib.hid (by rw [hW3]; exact (HR5_2.out.alloc _).perm (by simp))
          rw [← hW3]
          clear hW3
          refine hK.out _ _ ⟨(G3.out.cell (p := ⟨w.heap.size, 0, none⟩) hl0).trans x0, (G3.out.cell (p := ⟨w.heap.size, 1, none⟩) hl0).trans x1, (G3.out.cell (p := ⟨w.heap.size, 2, none⟩) hl0).trans x2⟩ (fun hHeld3 => ?_)
          clear hK K hc3
          try simp only [Act.put, List.setIfInBounds_toArray, List.set_cons_zero, List.set_cons_succ]
          refine wpAnyH_ready (rs := [7]) (by kernel_rfl) (by simp) ?_
          refine AllReadyH.cons rfl (fun K hK => ?_) ?_
          · go_simp
            obtain ⟨W4, hW4⟩ : ∃ W, W = W3.alloc (.cells #[.int .i64 0, .int .i64 0, .slice none 0 0] 24) := ⟨_, rfl⟩
            have hc4 : Below W3.heap.size W3 W4 := by rw [hW4]; exact (Below.refl _ _).alloc (Nat.le_refl _) _
            have G4 := Lib.hid (G3.out.trans (hc4.mono G3.out.size))
            have HP7_4 : Hid (Blk W4 W3.heap.size #[.int .i64 0, .int .i64 0, .slice none 0 0] 24) := Lib.hid (by rw [hW4]; exact Blk.new _ _ _)
            have HC7_4 : Hid (w2.heap.size ≤ W3.heap.size) := Lib.hid G3.out.size
            have HP6_4 := Lib.hid (HP6_3.out.below hc4 HP6_3.out.lt)
            have HNE_4 : Hid (W2.heap.size ≠ W3.heap.size) := Lib.hid (by have := HP6_3.out.lt; omega)
            have HR2_4 : Hid (StrsBut W4 (.slice av1 L.length cv1) L [W2.heap.size, W3.heap.size]) := Lib.hid (by rw [hW4]; exact (HR2_3.out.alloc _).perm (by simp))
            have HR5_4 : Hid (StrsBut W4 (.slice av2 L.length cv2) L [W2.heap.size, W3.heap.size]) := Lib.hid (by rw [hW4]; exact (HR5_3.out.alloc _).perm (by simp))
            rw [← hW4]
            clear hW4
            refine hK.out _ _ ⟨(G4.out.cell (p := ⟨w.heap.size, 0, none⟩) hl0).trans x0, (G4.out.cell (p := ⟨w.heap.size, 1, none⟩) hl0).trans x1, (G4.out.cell (p := ⟨w.heap.size, 2, none⟩) hl0).trans x2⟩ (fun hHeld4 => ?_)
            clear hK K hc4
            try simp only [Act.put, List.setIfInBounds_toArray, List.set_cons_zero, List.set_cons_succ]
            have y0_5 := HP6_4.out.cell
            have y1_5 := HP6_4.out.free
            refine wpAnyH_ready (rs := [8]) (by kernel_rfl) (by simp) ?_
            refine AllReadyH.cons rfl (fun K hK => ?_) AllReadyH.nil
            go_simp
            obtain ⟨W5, hW5⟩ : ∃ W, W = ((W4.setCell ⟨W2.heap.size, 0, none⟩ (.int .i64 a)).setCell ⟨W2.heap.size, 1, none⟩ (.int .i64 t)).setCell ⟨W2.heap.size, 2, none⟩ (.slice av1 L.length cv1) := ⟨_, rfl⟩
            have hs5 : W5 = set3 W4 (W2.heap.size) (.int .i64 a) (.int .i64 t) (.slice av1 L.length cv1) := hW5
            have G5 : Hid (Below w2.heap.size w2 W5) := Lib.hid (by rw [hs5]; exact below_three G4.out HC6_3.out)
            have HP6_5 : Hid (Blk W5 (W2.heap.size) #[.int .i64 a, .int .i64 t, .slice av1 L.length cv1] 24) := Lib.hid (by rw [hs5]; exact HP6_4.out.three _ _ _)
            have HP7_5 := Lib.hid (by rw [hs5]; exact ((HP7_4.out.other (Ne.symm HNE_4.out) 0 _).other (Ne.symm HNE_4.out) 1 _).other (Ne.symm HNE_4.out) 2 _ : Blk W5 (W3.heap.size) _ _)
            have HR2_5 : Hid (StrsBut W5 (.slice av1 L.length cv1) L [W2.heap.size, W3.heap.size]) := Lib.hid (by rw [hs5]; exact (((HR2_4.out.set (by simp) 0 _).set (by simp) 1 _).set (by simp) 2 _))
            have HR5_5 : Hid (StrsBut W5 (.slice av2 L.length cv2) L [W2.heap.size, W3.heap.size]) := Lib.hid (by rw [hs5]; exact (((HR5_4.out.set (by simp) 0 _).set (by simp) 1 _).set (by simp) 2 _))
            rw [← hW5]
            clear hW5 hs5
            clear y0_5 y1_5
            refine hK.out _ _ ⟨(G5.out.cell (p := ⟨w.heap.size, 0, none⟩) hl0).trans x0, (G5.out.cell (p := ⟨w.heap.size, 1, none⟩) hl0).trans x1, (G5.out.cell (p := ⟨w.heap.size, 2, none⟩) hl0).trans x2⟩ (fun hHeld5 => ?_)
            clear hK K
            try simp only [Act.put, List.setIfInBounds_toArray, List.set_cons_zero, List.set_cons_succ]
            have y0_6 := HP7_5.out.cell
            have y1_6 := HP7_5.out.free
            refine wpAnyH_ready (rs := [9]) (by kernel_rfl) (by simp) ?_
            refine AllReadyH.cons rfl (fun K hK => ?_) AllReadyH.nil
            go_simp
            obtain ⟨W6, hW6⟩ : ∃ W, W = ((W5.setCell ⟨W3.heap.size, 0, none⟩ (.int .i64 a)).setCell ⟨W3.heap.size, 1, none⟩ (.int .i64 t)).setCell ⟨W3.heap.size, 2, none⟩ (.slice av2 L.length cv2) := ⟨_, rfl⟩
            have hs6 : W6 = set3 W5 (W3.heap.size) (.int .i64 a) (.int .i64 t) (.slice av2 L.length cv2) := hW6
            have G6 : Hid (Below w2.heap.size w2 W6) := Lib.hid (by rw [hs6]; exact below_three G5.out HC7_4.out)
            have HP7_6 : Hid (Blk W6 (W3.heap.size) #[.int .i64 a, .int .i64 t, .slice av2 L.length cv2] 24) := Lib.hid (by rw [hs6]; exact HP7_5.out.three _ _ _)
            have HP6_6 := Lib.hid (by rw [hs6]; exact ((HP6_5.out.other HNE_4.out 0 _).other HNE_4.out 1 _).other HNE_4.out 2 _ : Blk W6 (W2.heap.size) _ _)
            have HR2_6 : Hid (StrsBut W6 (.slice av1 L.length cv1) L [W2.heap.size, W3.heap.size]) := Lib.hid (by rw [hs6]; exact (((HR2_5.out.set (by simp) 0 _).set (by simp) 1 _).set (by simp) 2 _))
            have HR5_6 : Hid (StrsBut W6 (.slice av2 L.length cv2) L [W2.heap.size, W3.heap.size]) := Lib.hid (by rw [hs6]; exact (((HR5_5.out.set (by simp) 0 _).set (by simp) 1 _).set (by simp) 2 _))
            rw [← hW6]
            clear hW6 hs6
            clear y0_6 y1_6
            refine hK.out _ _ ⟨(G6.out.cell (p := ⟨w.heap.size, 0, none⟩) hl0).trans x0, (G6.out.cell (p := ⟨w.heap.size, 1, none⟩) hl0).trans x1, (G6.out.cell (p := ⟨w.heap.size, 2, none⟩) hl0).trans x2⟩ (fun hHeld6 => ?_)
            clear hK K
            try simp only [Act.put, List.setIfInBounds_toArray, List.set_cons_zero, List.set_cons_succ]
            refine wpAnyH_done (by kernel_rfl) ?_ _
            go_wp2_with fail
            refine (lineAlive _ (HE2.out _ G6.out)).mono ?_
            rintro e wz ⟨rfl, hbz⟩
            have GZ := Lib.hid (G6.out.trans (hbz.mono G6.out.size))
            have m6 := (HP6_6.out.below hbz HP6_6.out.lt).cell
            have m7 := (HP7_6.out.below hbz HP7_6.out.lt).cell
            have HS := Lib.hid (refSame10 a t a t _ _ L L wz (HR2_6.out.strs.below hbz (Nat.le_refl _)) (HR5_6.out.strs.below hbz (Nat.le_refl _)))
            rw [same_self] at HS
            clear hbz
            go_wp2_with fail
            refine HS.out.mono ?_
            rintro e wy ⟨rfl, hby⟩
            have GY := Lib.hid (GZ.out.trans (hby.mono GZ.out.size))
            have q0 := (GY.out.cell (p := ⟨w.heap.size, 0, none⟩) hl0).trans x0
            have q1 := (GY.out.cell (p := ⟨w.heap.size, 1, none⟩) hl0).trans x1
            have q2 := (GY.out.cell (p := ⟨w.heap.size, 2, none⟩) hl0).trans x2
            clear hby m6 m7
            go_wp2_with fail
            refine (HSL.out _ GY.out).mono ?_
            rintro e wx ⟨rfl, hbx⟩
            go_wp2_with fail
            go_ret
            exact ⟨rfl, HB2.out.trans ((GY.out.trans (hbx.mono GY.out.size)).mono HB2.out.size)⟩
          exact AllReadyH.nil
        refine AllReadyH.cons rfl (fun K hK => ?_) ?_
        · go_simp
          obtain ⟨W7, hW7⟩ : ∃ W, W = W2.alloc (.cells #[.int .i64 0, .int .i64 0, .slice none 0 0] 24) := ⟨_, rfl⟩
          have hc7 : Below W2.heap.size W2 W7 := by rw [hW7]; exact (Below.refl _ _).alloc (Nat.le_refl _) _
          have G7 := Lib.hid (G2.out.trans (hc7.mono G2.out.size))
          have HP7_7 : Hid (Blk W7 W2.heap.size #[.int .i64 0, .int .i64 0, .slice none 0 0] 24) := Lib.hid (by rw [hW7]; exact Blk.new _ _ _)
          have HC7_7 : Hid (w2.heap.size ≤ W2.heap.size) := Lib.hid G2.out.size
          have HR2_7 : Hid (StrsBut W7 (.slice av1 L.length cv1) L [W2.heap.size]) := Lib.hid (by rw [hW7]; exact (HR2_2.out.alloc _).perm (by simp))
          have HR5_7 : Hid (StrsBut W7 (.slice av2 L.length cv2) L [W2.heap.size]) := Lib.hid (by rw [hW7]; exact (HR5_2.out.alloc _).perm (by simp))
          rw [← hW7]
          clear hW7
          refine hK.out _ _ ⟨(G7.out.cell (p := ⟨w.heap.size, 0, none⟩) hl0).trans x0, (G7.out.cell (p := ⟨w.heap.size, 1, none⟩) hl0).trans x1, (G7.out.cell (p := ⟨w.heap.size, 2, none⟩) hl0).trans x2⟩ (fun hHeld7 => ?_)
          clear hK K hc7
          try simp only [Act.put, List.setIfInBounds_toArray, List.set_cons_zero, List.set_cons_succ]
          refine wpAnyH_ready (rs := [6]) (by kernel_rfl) (by simp) ?_
          refine AllReadyH.cons rfl (fun K hK => ?_) ?_
          · go_simp
            obtain ⟨W8, hW8⟩ : ∃ W, W = W7.alloc (.cells #[.int .i64 0, .int .i64 0, .slice none 0 0] 24) := ⟨_, rfl⟩
            have hc8 : Below W7.heap.size W7 W8 := by rw [hW8]; exact (Below.refl _ _).alloc (Nat.le_refl _) _
            have G8 := Lib.hid (G7.out.trans (hc8.mono G7.out.size))
            have HP6_8 : Hid (Blk W8 W7.heap.size #[.int .i64 0, .int .i64 0, .slice none 0 0] 24) := Lib.hid (by rw [hW8]; exact Blk.new _ _ _)
            have HC6_8 : Hid (w2.heap.size ≤ W7.heap.size) := Lib.hid G7.out.size
            have HP7_8 := Lib.hid (HP7_7.out.below hc8 HP7_7.out.lt)
            have HNE_8 : Hid (W7.heap.size ≠ W2.heap.size) := Lib.hid (by have := HP7_7.out.lt; omega)
            have HR2_8 : Hid (StrsBut W8 (.slice av1 L.length cv1) L [W7.heap.size, W2.heap.size]) := Lib.hid (by rw [hW8]; exact (HR2_7.out.alloc _).perm (by simp))
            have HR5_8 : Hid (StrsBut W8 (.slice av2 L.length cv2) L [W7.heap.size, W2.heap.size]) := Lib.hid (by rw [hW8]; exact (HR5_7.out.alloc _).perm (by simp))
            rw [← hW8]
            clear hW8
            refine hK.out _ _ ⟨(G8.out.cell (p := ⟨w.heap.size, 0, none⟩) hl0).trans x0, (G8.out.cell (p := ⟨w.heap.size, 1, none⟩) hl0).trans x1, (G8.out.cell (p := ⟨w.heap.size, 2, none⟩) hl0).trans x2⟩ (fun hHeld8 => ?_)
            clear hK K hc8
            try simp only [Act.put, List.setIfInBounds_toArray, List.set_cons_zero, List.set_cons_succ]
            have y0_9 := HP6_8.out.cell
            have y1_9 := HP6_8.out.free
            refine wpAnyH_ready (rs := [8]) (by kernel_rfl) (by simp) ?_
            refine AllReadyH.cons rfl (fun K hK => ?_) AllReadyH.nil
            go_simp
            obtain ⟨W9, hW9⟩ : ∃ W, W = ((W8.setCell ⟨W7.heap.size, 0, none⟩ (.int .i64 a)).setCell ⟨W7.heap.size, 1, none⟩ (.int .i64 t)).setCell ⟨W7.heap.size, 2, none⟩ (.slice av1 L.length cv1) := ⟨_, rfl⟩
            have hs9 : W9 = set3 W8 (W7.heap.size) (.int .i64 a) (.int .i64 t) (.slice av1 L.length cv1) := hW9
            have G9 : Hid (Below w2.heap.size w2 W9) := Lib.hid (by rw [hs9]; exact below_three G8.out HC6_8.out)
            have HP6_9 : Hid (Blk W9 (W7.heap.size) #[.int .i64 a, .int .i64 t, .slice av1 L.length cv1] 24) := Lib.hid (by rw [hs9]; exact HP6_8.out.three _ _ _)
            have HP7_9 := Lib.hid (by rw [hs9]; exact ((HP7_8.out.other (Ne.symm HNE_8.out) 0 _).other (Ne.symm HNE_8.out) 1 _).other (Ne.symm HNE_8.out) 2 _ : Blk W9 (W2.heap.size) _ _)
            have HR2_9 : Hid (StrsBut W9 (.slice av1 L.length cv1) L [W7.heap.size, W2.heap.size]) := Lib.hid (by rw [hs9]; exact (((HR2_8.out.set (by simp) 0 _).set (by simp) 1 _).set (by simp) 2 _))
            have HR5_9 : Hid (StrsBut W9 (.slice av2 L.length cv2) L [W7.heap.size, W2.heap.size]) := Lib.hid (by rw [hs9]; exact (((HR5_8.out.set (by simp) 0 _).set (by simp) 1 _).set (by simp) 2 _))
            rw [← hW9]
            clear hW9 hs9
            clear y0_9 y1_9
            refine hK.out _ _ ⟨(G9.out.cell (p := ⟨w.heap.size, 0, none⟩) hl0).trans x0, (G9.out.cell (p := ⟨w.heap.size, 1, none⟩) hl0).trans x1, (G9.out.cell (p := ⟨w.heap.size, 2, none⟩) hl0).trans x2⟩ (fun hHeld9 => ?_)
            clear hK K
            try simp only [Act.put, List.setIfInBounds_toArray, List.set_cons_zero, List.set_cons_succ]
            have y0_10 := HP7_9.out.cell
            have y1_10 := HP7_9.out.free
            refine wpAnyH_ready (rs := [9]) (by kernel_rfl) (by simp) ?_
            refine AllReadyH.cons rfl (fun K hK => ?_) AllReadyH.nil
            go_simp
            obtain ⟨W10, hW10⟩ : ∃ W, W = ((W9.setCell ⟨W2.heap.size, 0, none⟩ (.int .i64 a)).setCell ⟨W2.heap.size, 1, none⟩ (.int .i64 t)).setCell ⟨W2.heap.size, 2, none⟩ (.slice av2 L.length cv2) := ⟨_, rfl⟩
            have hs10 : W10 = set3 W9 (W2.heap.size) (.int .i64 a) (.int .i64 t) (.slice av2 L.length cv2) := hW10
            have G10 : Hid (Below w2.heap.size w2 W10) := Lib.hid (by rw [hs10]; exact below_three G9.out HC7_7.out)
            have HP7_10 : Hid (Blk W10 (W2.heap.size) #[.int .i64 a, .int .i64 t, .slice av2 L.length cv2] 24) := Lib.hid (by rw [hs10]; exact HP7_9.out.three _ _ _)
            have HP6_10 := Lib.hid (by rw [hs10]; exact ((HP6_9.out.other HNE_8.out 0 _).other HNE_8.out 1 _).other HNE_8.out 2 _ : Blk W10 (W7.heap.size) _ _)
            have HR2_10 : Hid (StrsBut W10 (.slice av1 L.length cv1) L [W7.heap.size, W2.heap.size]) := Lib.hid (by rw [hs10]; exact (((HR2_9.out.set (by simp) 0 _).set (by simp) 1 _).set (by simp) 2 _))
            have HR5_10 : Hid (StrsBut W10 (.slice av2 L.length cv2) L [W7.heap.size, W2.heap.size]) := Lib.hid (by rw [hs10]; exact (((HR5_9.out.set (by simp) 0 _).set (by simp) 1 _).set (by simp) 2 _))
            rw [← hW10]
            clear hW10 hs10
            clear y0_10 y1_10
            refine hK.out _ _ ⟨(G10.out.cell (p := ⟨w.heap.size, 0, none⟩) hl0).trans x0, (G10.out.cell (p := ⟨w.heap.size, 1, none⟩) hl0).trans x1, (G10.out.cell (p := ⟨w.heap.size, 2, none⟩) hl0).trans x2⟩ (fun hHeld10 => ?_)
            clear hK K
            try simp only [Act.put, List.setIfInBounds_toArray, List.set_cons_zero, List.set_cons_succ]
            refine wpAnyH_done (by kernel_rfl) ?_ _
            go_wp2_with fail
            refine (lineAlive _ (HE2.out _ G10.out)).mono ?_
            rintro e wz ⟨rfl, hbz⟩
            have GZ := Lib.hid (G10.out.trans (hbz.mono G10.out.size))
            have m6 := (HP6_10.out.below hbz HP6_10.out.lt).cell
            have m7 := (HP7_10.out.below hbz HP7_10.out.lt).cell
            have HS := Lib.hid (refSame10 a t a t _ _ L L wz (HR2_10.out.strs.below hbz (Nat.le_refl _)) (HR5_10.out.strs.below hbz (Nat.le_refl _)))
            rw [same_self] at HS
            clear hbz
            go_wp2_with fail
            refine HS.out.mono ?_
            rintro e wy ⟨rfl, hby⟩
            have GY := Lib.hid (GZ.out.trans (hby.mono GZ.out.size))
            have q0 := (GY.out.cell (p := ⟨w.heap.size, 0, none⟩) hl0).trans x0
            have q1 := (GY.out.cell (p := ⟨w.heap.size, 1, none⟩) hl0).trans x1
            have q2 := (GY.out.cell (p := ⟨w.heap.size, 2, none⟩) hl0).trans x2
            clear hby m6 m7
            go_wp2_with fail
            refine (HSL.out _ GY.out).mono ?_
            rintro e wx ⟨rfl, hbx⟩
            go_wp2_with fail
            go_ret
            exact ⟨rfl, HB2.out.trans ((GY.out.trans (hbx.mono GY.out.size)).mono HB2.out.size)⟩
          exact AllReadyH.nil
        exact AllReadyH.nil
      refine AllReadyH.cons rfl (fun K hK => ?_) ?_
      · go_simp
        obtain ⟨W11, hW11⟩ : ∃ W, W = W1.alloc (.cells #[.int .i64 0, .int .i64 0, .slice none 0 0] 24) := ⟨_, rfl⟩
        have hc11 : Below W1.heap.size W1 W11 := by rw [hW11]; exact (Below.refl _ _).alloc (Nat.le_refl _) _
        have G11 := Lib.hid (G1.out.trans (hc11.mono G1.out.size))
        have HP6_11 : Hid (Blk W11 W1.heap.size #[.int .i64 0, .int .i64 0, .slice none 0 0] 24) := Lib.hid (by rw [hW11]; exact Blk.new _ _ _)
        have HC6_11 : Hid (w2.heap.size ≤ W1.heap.size) := Lib.hid G1.out.size
        have HR2_11 : Hid (StrsBut W11 (.slice av1 L.length cv1) L [W1.heap.size]) := Lib.hid (by rw [hW11]; exact (HR2_1.out.alloc _).perm (by simp))
        rw [← hW11]
        clear hW11
        refine hK.out _ _ ⟨(G11.out.cell (p := ⟨w.heap.size, 0, none⟩) hl0).trans x0, (G11.out.cell (p := ⟨w.heap.size, 1, none⟩) hl0).trans x1, (G11.out.cell (p := ⟨w.heap.size, 2, none⟩) hl0).trans x2⟩ (fun hHeld11 => ?_)
        clear hK K hc11
        try simp only [Act.put, List.setIfInBounds_toArray, List.set_cons_zero, List.set_cons_succ]
        refine wpAnyH_ready (rs := [5, 7]) (by kernel_rfl) (by simp) ?_
        refine AllReadyH.cons rfl (fun K hK => ?_) ?_
        · go_simp
          go_at_call 28
          refine (KR.out _ G11.out).mono ?_
          rintro e W12 ⟨vv12, rfl, ho12, hc12⟩
          obtain ⟨av12, cv12, rfl, -, -⟩ := ho12.slice
          have G12 := Lib.hid (G11.out.trans (hc12.mono G11.out.size))
          have HP6_12 := Lib.hid (HP6_11.out.below hc12 HP6_11.out.lt)
          have HR5_12 : Hid (StrsBut W12 (.slice av12 L.length cv12) L [W1.heap.size]) := Lib.hid (StrsBut.own ho12 (by intro q hq; simp at hq; have h1 := HP6_11.out.lt; omega))
          have HR2_12 := Lib.hid (HR2_11.out.below hc12)
          clear ho12
          refine hK.out _ _ ⟨(G12.out.cell (p := ⟨w.heap.size, 0, none⟩) hl0).trans x0, (G12.out.cell (p := ⟨w.heap.size, 1, none⟩) hl0).trans x1, (G12.out.cell (p := ⟨w.heap.size, 2, none⟩) hl0).trans x2⟩ (fun hHeld12 => ?_)
          clear hK K hc12
          try simp only [Act.put, List.setIfInBounds_toArray, List.set_cons_zero, List.set_cons_succ]
          refine wpAnyH_ready (rs := [7]) (by kernel_rfl) (by simp) ?_
          refine AllReadyH.cons rfl (fun K hK => ?_) ?_
          · go_simp
            obtain ⟨W13, hW13⟩ : ∃ W, W = W12.alloc (.cells #[.int .i64 0, .int .i64 0, .slice none 0 0] 24) := ⟨_, rfl⟩
            have hc13 : Below W12.heap.size W12 W13 := by rw [hW13]; exact (Below.refl _ _).alloc (Nat.le_refl _) _
            have G13 := Lib.hid (G12.out.trans (hc13.mono G12.out.size))
            have HP7_13 : Hid (Blk W13 W12.heap.size #[.int .i64 0, .int .i64 0, .slice none 0 0] 24) := Lib.hid (by rw [hW13]; exact Blk.new _ _ _)
            have HC7_13 : Hid (w2.heap.size ≤ W12.heap.size) := Lib.hid G12.out.size
            have HP6_13 := Lib.hid (HP6_12.out.below hc13 HP6_12.out.lt)
            have HNE_13 : Hid (W1.heap.size ≠ W12.heap.size) := Lib.hid (by have := HP6_12.out.lt; omega)
            have HR2_13 : Hid (StrsBut W13 (.slice av1 L.length cv1) L [W1.heap.size, W12.heap.size]) := Lib.hid (by rw [hW13]; exact (HR2_12.out.alloc _).perm (by simp))
            have HR5_13 : Hid (StrsBut W13 (.slice av12 L.length cv12) L [W1.heap.size, W12.heap.size]) := Lib.hid (by rw [hW13]; exact (HR5_12.out.alloc _).perm (by simp))
            rw [← hW13]
            clear hW13
            refine hK.out _ _ ⟨(G13.out.cell (p := ⟨w.heap.size, 0, none⟩) hl0).trans x0, (G13.out.cell (p := ⟨w.heap.size, 1, none⟩) hl0).trans x1, (G13.out.cell (p := ⟨w.heap.size, 2, none⟩) hl0).trans x2⟩ (fun hHeld13 => ?_)
            clear hK K hc13
            try simp only [Act.put, List.setIfInBounds_toArray, List.set_cons_zero, List.set_cons_succ]
            have y0_14 := HP6_13.out.cell
            have y1_14 := HP6_13.out.free
            refine wpAnyH_ready (rs := [8]) (by kernel_rfl) (by simp) ?_
            refine AllReadyH.cons rfl (fun K hK => ?_) AllReadyH.nil
            go_simp
            obtain ⟨W14, hW14⟩ : ∃ W, W = ((W13.setCell ⟨W1.heap.size, 0, none⟩ (.int .i64 a)).setCell ⟨W1.heap.size, 1, none⟩ (.int .i64 t)).setCell ⟨W1.heap.size, 2, none⟩ (.slice av1 L.length cv1) := ⟨_, rfl⟩
            have hs14 : W14 = set3 W13 (W1.heap.size) (.int .i64 a) (.int .i64 t) (.slice av1 L.length cv1) := hW14
            have G14 : Hid (Below w2.heap.size w2 W14) := Lib.hid (by rw [hs14]; exact below_three G13.out HC6_11.out)
            have HP6_14 : Hid (Blk W14 (W1.heap.size) #[.int .i64 a, .int .i64 t, .slice av1 L.length cv1] 24) := Lib.hid (by rw [hs14]; exact HP6_13.out.three _ _ _)
            have HP7_14 := Lib.hid (by rw [hs14]; exact ((HP7_13.out.other (Ne.symm HNE_13.out) 0 _).other (Ne.symm HNE_13.out) 1 _).other (Ne.symm HNE_13.out) 2 _ : Blk W14 (W12.heap.size) _ _)
            have HR2_14 : Hid (StrsBut W14 (.slice av1 L.length cv1) L [W1.heap.size, W12.heap.size]) := Lib.hid (by rw [hs14]; exact (((HR2_13.out.set (by simp) 0 _).set (by simp) 1 _).set (by simp) 2 _))
            have HR5_14 : Hid (StrsBut W14 (.slice av12 L.length cv12) L [W1.heap.size, W12.heap.size]) := Lib.hid (by rw [hs14]; exact (((HR5_13.out.set (by simp) 0 _).set (by simp) 1 _).set (by simp) 2 _))
            rw [← hW14]
            clear hW14 hs14
            clear y0_14 y1_14
            refine hK.out _ _ ⟨(G14.out.cell (p := ⟨w.heap.size, 0, none⟩) hl0).trans x0, (G14.out.cell (p := ⟨w.heap.size, 1, none⟩) hl0).trans x1, (G14.out.cell (p := ⟨w.heap.size, 2, none⟩) hl0).trans x2⟩ (fun hHeld14 => ?_)
            clear hK K
            try simp only [Act.put, List.setIfInBounds_toArray, List.set_cons_zero, List.set_cons_succ]
            have y0_15 := HP7_14.out.cell
            have y1_15 := HP7_14.out.free
            refine wpAnyH_ready (rs := [9]) (by kernel_rfl) (by simp) ?_
            refine AllReadyH.cons rfl (fun K hK => ?_) AllReadyH.nil
            go_simp
            obtain ⟨W15, hW15⟩ : ∃ W, W = ((W14.setCell ⟨W12.heap.size, 0, none⟩ (.int .i64 a)).setCell ⟨W12.heap.size, 1, none⟩ (.int .i64 t)).setCell ⟨W12.heap.size, 2, none⟩ (.slice av12 L.length cv12) := ⟨_, rfl⟩
            have hs15 : W15 = set3 W14 (W12.heap.size) (.int .i64 a) (.int .i64 t) (.slice av12 L.length cv12) := hW15
            have G15 : Hid (Below w2.heap.size w2 W15) := Lib.hid (by rw [hs15]; exact below_three G14.out HC7_13.out)
            have HP7_15 : Hid (Blk W15 (W12.heap.size) #[.int .i64 a, .int .i64 t, .slice av12 L.length cv12] 24) := Lib.hid (by rw [hs15]; exact HP7_14.out.three _ _ _)
            have HP6_15 := Lib.hid (by rw [hs15]; exact ((HP6_14.out.other HNE_13.out 0 _).other HNE_13.out 1 _).other HNE_13.out 2 _ : Blk W15 (W1.heap.size) _ _)
            have HR2_15 : Hid (StrsBut W15 (.slice av1 L.length cv1) L [W1.heap.size, W12.heap.size]) := Lib.hid (by rw [hs15]; exact (((HR2_14.out.set (by simp) 0 _).set (by simp) 1 _).set (by simp) 2 _))
            have HR5_15 : Hid (StrsBut W15 (.slice av12 L.length cv12) L [W1.heap.size, W12.heap.size]) := Lib.hid (by rw [hs15]; exact (((HR5_14.out.set (by simp) 0 _).set (by simp) 1 _).set (by simp) 2 _))
            rw [← hW15]
            clear hW15 hs15
            clear y0_15 y1_15
            refine hK.out _ _ ⟨(G15.out.cell (p := ⟨w.heap.size, 0, none⟩) hl0).trans x0, (G15.out.cell (p := ⟨w.heap.size, 1, none⟩) hl0).trans x1, (G15.out.cell (p := ⟨w.heap.size, 2, none⟩) hl0).trans x2⟩ (fun hHeld15 => ?_)
            clear hK K
            try simp only [Act.put, List.setIfInBounds_toArray, List.set_cons_zero, List.set_cons_succ]
            refine wpAnyH_done (by kernel_rfl) ?_ _
            go_wp2_with fail
            refine (lineAlive _ (HE2.out _ G15.out)).mono ?_
            rintro e wz ⟨rfl, hbz⟩
            have GZ := Lib.hid (G15.out.trans (hbz.mono G15.out.size))
            have m6 := (HP6_15.out.below hbz HP6_15.out.lt).cell
            have m7 := (HP7_15.out.below hbz HP7_15.out.lt).cell
            have HS := Lib.hid (refSame10 a t a t _ _ L L wz (HR2_15.out.strs.below hbz (Nat.le_refl _)) (HR5_15.out.strs.below hbz (Nat.le_refl _)))
            rw [same_self] at HS
            clear hbz
            go_wp2_with fail
            refine HS.out.mono ?_
            rintro e wy ⟨rfl, hby⟩
            have GY := Lib.hid (GZ.out.trans (hby.mono GZ.out.size))
            have q0 := (GY.out.cell (p := ⟨w.heap.size, 0, none⟩) hl0).trans x0
            have q1 := (GY.out.cell (p := ⟨w.heap.size, 1, none⟩) hl0).trans x1
            have q2 := (GY.out.cell (p := ⟨w.heap.size, 2, none⟩) hl0).trans x2
            clear hby m6 m7
            go_wp2_with fail
            refine (HSL.out _ GY.out).mono ?_
            rintro e wx ⟨rfl, hbx⟩
            go_wp2_with fail
            go_ret
            exact ⟨rfl, HB2.out.trans ((GY.out.trans (hbx.mono GY.out.size)).mono HB2.out.size)⟩
          exact AllReadyH.nil
        refine AllReadyH.cons rfl (fun K hK => ?_) ?_
        · go_simp
          obtain ⟨W16, hW16⟩ : ∃ W, W = W11.alloc (.cells #[.int .i64 0, .int .i64 0, .slice none 0 0] 24) := ⟨_, rfl⟩
          have hc16 : Below W11.heap.size W11 W16 := by rw [hW16]; exact (Below.refl _ _).alloc (Nat.le_refl _) _
          have G16 := Lib.hid (G11.out.trans (hc16.mono G11.out.size))
          have HP7_16 : Hid (Blk W16 W11.heap.size #[.int .i64 0, .int .i64 0, .slice none 0 0] 24) := Lib.hid (by rw [hW16]; exact Blk.new _ _ _)
          have HC7_16 : Hid (w2.heap.size ≤ W11.heap.size) := Lib.hid G11.out.size
          have HP6_16 := Lib.hid (HP6_11.out.below hc16 HP6_11.out.lt)
          have HNE_16 : Hid (W1.heap.size ≠ W11.heap.size) := Lib.hid (by have := HP6_11.out.lt; omega)
          have HR2_16 : Hid (StrsBut W16 (.slice av1 L.length cv1) L [W1.heap.size, W11.heap.size]) := Lib.hid (by rw [hW16]; exact (HR2_11.out.alloc _).perm (by simp))
          rw [← hW16]
          clear hW16
          refine hK.out _ _ ⟨(G16.out.cell (p := ⟨w.heap.size, 0, none⟩) hl0).trans x0, (G16.out.cell (p := ⟨w.heap.size, 1, none⟩) hl0).trans x1, (G16.out.cell (p := ⟨w.heap.size, 2, none⟩) hl0).trans x2⟩ (fun hHeld16 => ?_)
          clear hK K hc16
          try simp only [Act.put, List.setIfInBounds_toArray, List.set_cons_zero, List.set_cons_succ]
          refine wpAnyH_ready (rs := [5]) (by kernel_rfl) (by simp) ?_
          refine AllReadyH.cons rfl (fun K hK => ?_) ?_
          · go_simp
            go_at_call 28
            refine (KR.out _ G16.out).mono ?_
            rintro e W17 ⟨vv17, rfl, ho17, hc17⟩
            obtain ⟨av17, cv17, rfl, -, -⟩ := ho17.slice
            have G17 := Lib.hid (G16.out.trans (hc17.mono G16.out.size))
            have HP6_17 := Lib.hid (HP6_16.out.below hc17 HP6_16.out.lt)
            have HP7_17 := Lib.hid (HP7_16.out.below hc17 HP7_16.out.lt)
            have HR5_17 : Hid (StrsBut W17 (.slice av17 L.length cv17) L [W1.heap.size, W11.heap.size]) := Lib.hid (StrsBut.own ho17 (by intro q hq; simp at hq; have h1 := HP6_16.out.lt; have h2 := HP7_16.out.lt; omega))
            have HR2_17 := Lib.hid (HR2_16.out.below hc17)
            clear ho17
            refine hK.out _ _ ⟨(G17.out.cell (p := ⟨w.heap.size, 0, none⟩) hl0).trans x0, (G17.out.cell (p := ⟨w.heap.size, 1, none⟩) hl0).trans x1, (G17.out.cell (p := ⟨w.heap.size, 2, none⟩) hl0).trans x2⟩ (fun hHeld17 => ?_)
            clear hK K hc17
            try simp only [Act.put, List.setIfInBounds_toArray, List.set_cons_zero, List.set_cons_succ]
            have y0_18 := HP6_17.out.cell
            have y1_18 := HP6_17.out.free
            refine wpAnyH_ready (rs := [8]) (by kernel_rfl) (by simp) ?_
            refine AllReadyH.cons rfl (fun K hK => ?_) AllReadyH.nil
            go_simp
            obtain ⟨W18, hW18⟩ : ∃ W, W = ((W17.setCell ⟨W1.heap.size, 0, none⟩ (.int .i64 a)).setCell ⟨W1.heap.size, 1, none⟩ (.int .i64 t)).setCell ⟨W1.heap.size, 2, none⟩ (.slice av1 L.length cv1) := ⟨_, rfl⟩
            have hs18 : W18 = set3 W17 (W1.heap.size) (.int .i64 a) (.int .i64 t) (.slice av1 L.length cv1) := hW18
            have G18 : Hid (Below w2.heap.size w2 W18) := Lib.hid (by rw [hs18]; exact below_three G17.out HC6_11.out)
            have HP6_18 : Hid (Blk W18 (W1.heap.size) #[.int .i64 a, .int .i64 t, .slice av1 L.length cv1] 24) := Lib.hid (by rw [hs18]; exact HP6_17.out.three _ _ _)
            have HP7_18 := Lib.hid (by rw [hs18]; exact ((HP7_17.out.other (Ne.symm HNE_16.out) 0 _).other (Ne.symm HNE_16.out) 1 _).other (Ne.symm HNE_16.out) 2 _ : Blk W18 (W11.heap.size) _ _)
            have HR2_18 : Hid (StrsBut W18 (.slice av1 L.length cv1) L [W1.heap.size, W11.heap.size]) := Lib.hid (by rw [hs18]; exact (((HR2_17.out.set (by simp) 0 _).set (by simp) 1 _).set (by simp) 2 _))
            have HR5_18 : Hid (StrsBut W18 (.slice av17 L.length cv17) L [W1.heap.size, W11.heap.size]) := Lib.hid (by rw [hs18]; exact (((HR5_17.out.set (by simp) 0 _).set (by simp) 1 _).set (by simp) 2 _))
            rw [← hW18]
            clear hW18 hs18
            clear y0_18 y1_18
            refine hK.out _ _ ⟨(G18.out.cell (p := ⟨w.heap.size, 0, none⟩) hl0).trans x0, (G18.out.cell (p := ⟨w.heap.size, 1, none⟩) hl0).trans x1, (G18.out.cell (p := ⟨w.heap.size, 2, none⟩) hl0).trans x2⟩ (fun hHeld18 => ?_)
            clear hK K
            try simp only [Act.put, List.setIfInBounds_toArray, List.set_cons_zero, List.set_cons_succ]
            have y0_19 := HP7_18.out.cell
            have y1_19 := HP7_18.out.free
            refine wpAnyH_ready (rs := [9]) (by kernel_rfl) (by simp) ?_
            refine AllReadyH.cons rfl (fun K hK => ?_) AllReadyH.nil
            go_simp
            obtain ⟨W19, hW19⟩ : ∃ W, W = ((W18.setCell ⟨W11.heap.size, 0, none⟩ (.int .i64 a)).setCell ⟨W11.heap.size, 1, none⟩ (.int .i64 t)).setCell ⟨W11.heap.size, 2, none⟩ (.slice av17 L.length cv17) := ⟨_, rfl⟩
            have hs19 : W19 = set3 W18 (W11.heap.size) (.int .i64 a) (.int .i64 t) (.slice av17 L.length cv17) := hW19
            have G19 : Hid (Below w2.heap.size w2 W19) := Lib.hid (by rw [hs19]; exact below_three G18.out HC7_16.out)
            have HP7_19 : Hid (Blk W19 (W11.heap.size) #[.int .i64 a, .int .i64 t, .slice av17 L.length cv17] 24) := Lib.hid (by rw [hs19]; exact HP7_18.out.three _ _ _)
            have HP6_19 := Lib.hid (by rw [hs19]; exact ((HP6_18.out.other HNE_16.out 0 _).other HNE_16.out 1 _).other HNE_16.out 2 _ : Blk W19 (W1.heap.size) _ _)
            have HR2_19 : Hid (StrsBut W19 (.slice av1 L.length cv1) L [W1.heap.size, W11.heap.size]) := Lib.hid (by rw [hs19]; exact (((HR2_18.out.set (by simp) 0 _).set (by simp) 1 _).set (by simp) 2 _))
            have HR5_19 : Hid (StrsBut W19 (.slice av17 L.length cv17) L [W1.heap.size, W11.heap.size]) := Lib.hid (by rw [hs19]; exact (((HR5_18.out.set (by simp) 0 _).set (by simp) 1 _).set (by simp) 2 _))
            rw [← hW19]
            clear hW19 hs19
            clear y0_19 y1_19
            refine hK.out _ _ ⟨(G19.out.cell (p := ⟨w.heap.size, 0, none⟩) hl0).trans x0, (G19.out.cell (p := ⟨w.heap.size, 1, none⟩) hl0).trans x1, (G19.out.cell (p := ⟨w.heap.size, 2, none⟩) hl0).trans x2⟩ (fun hHeld19 => ?_)
            clear hK K
            try simp only [Act.put, List.setIfInBounds_toArray, List.set_cons_zero, List.set_cons_succ]
            refine wpAnyH_done (by kernel_rfl) ?_ _
            go_wp2_with fail
            refine (lineAlive _ (HE2.out _ G19.out)).mono ?_
            rintro e wz ⟨rfl, hbz⟩
            have GZ := Lib.hid (G19.out.trans (hbz.mono G19.out.size))
            have m6 := (HP6_19.out.below hbz HP6_19.out.lt).cell
            have m7 := (HP7_19.out.below hbz HP7_19.out.lt).cell
            have HS := Lib.hid (refSame10 a t a t _ _ L L wz (HR2_19.out.strs.below hbz (Nat.le_refl _)) (HR5_19.out.strs.below hbz (Nat.le_refl _)))
            rw [same_self] at HS
            clear hbz
            go_wp2_with fail
            refine HS.out.mono ?_
            rintro e wy ⟨rfl, hby⟩
            have GY := Lib.hid (GZ.out.trans (hby.mono GZ.out.size))
            have q0 := (GY.out.cell (p := ⟨w.heap.size, 0, none⟩) hl0).trans x0
            have q1 := (GY.out.cell (p := ⟨w.heap.size, 1, none⟩) hl0).trans x1
            have q2 := (GY.out.cell (p := ⟨w.heap.size, 2, none⟩) hl0).trans x2
            clear hby m6 m7
            go_wp2_with fail
            refine (HSL.out _ GY.out).mono ?_
            rintro e wx ⟨rfl, hbx⟩
            go_wp2_with fail
            go_ret
            exact ⟨rfl, HB2.out.trans ((GY.out.trans (hbx.mono GY.out.size)).mono HB2.out.size)⟩
          exact AllReadyH.nil
        exact AllReadyH.nil
      refine AllReadyH.cons rfl (fun K hK => ?_) ?_
      · go_simp
        obtain ⟨W20, hW20⟩ : ∃ W, W = W1.alloc (.cells #[.int .i64 0, .int .i64 0, .slice none 0 0] 24) := ⟨_, rfl⟩
        have hc20 : Below W1.heap.size W1 W20 := by rw [hW20]; exact (Below.refl _ _).alloc (Nat.le_refl _) _
        have G20 := Lib.hid (G1.out.trans (hc20.mono G1.out.size))
        have HP7_20 : Hid (Blk W20 W1.heap.size #[.int .i64 0, .int .i64 0, .slice none 0 0] 24) := Lib.hid (by rw [hW20]; exact Blk.new _ _ _)
        have HC7_20 : Hid (w2.heap.size ≤ W1.heap.size) := Lib.hid G1.out.size
        have HR2_20 : Hid (StrsBut W20 (.slice av1 L.length cv1) L [W1.heap.size]) := Lib.hid (by rw [hW20]; exact (HR2_1.out.alloc _).perm (by simp))
        rw [← hW20]
        clear hW20
        refine hK.out _ _ ⟨(G20.out.cell (p := ⟨w.heap.size, 0, none⟩) hl0).trans x0, (G20.out.cell (p := ⟨w.heap.size, 1, none⟩) hl0).trans x1, (G20.out.cell (p := ⟨w.heap.size, 2, none⟩) hl0).trans x2⟩ (fun hHeld20 => ?_)
        clear hK K hc20
        try simp only [Act.put, List.setIfInBounds_toArray, List.set_cons_zero, List.set_cons_succ]
        refine wpAnyH_ready (rs := [5, 6]) (by kernel_rfl) (by simp) ?_
        refine AllReadyH.cons rfl (fun K hK => ?_) ?_
        · go_simp
          go_at_call 28
          refine (KR.out _ G20.out).mono ?_
          rintro e W21 ⟨vv21, rfl, ho21, hc21⟩
          obtain ⟨av21, cv21, rfl, -, -⟩ := ho21.slice
          have G21 := Lib.hid (G20.out.trans (hc21.mono G20.out.size))
          have HP7_21 := Lib.hid (HP7_20.out.below hc21 HP7_20.out.lt)
          have HR5_21 : Hid (StrsBut W21 (.slice av21 L.length cv21) L [W1.heap.size]) := Lib.hid (StrsBut.own ho21 (by intro q hq; simp at hq; have h1 := HP7_20.out.lt; omega))
          have HR2_21 := Lib.hid (HR2_20.out.below hc21)
          clear ho21
          refine hK.out _ _ ⟨(G21.out.cell (p := ⟨w.heap.size, 0, none⟩) hl0).trans x0, (G21.out.cell (p := ⟨w.heap.size, 1, none⟩) hl0).trans x1, (G21.out.cell (p := ⟨w.heap.size, 2, none⟩) hl0).trans x2⟩ (fun hHeld21 => ?_)
          clear hK K hc21
          try simp only [Act.put, List.setIfInBounds_toArray, List.set_cons_zero, List.set_cons_succ]
          refine wpAnyH_ready (rs := [6]) (by kernel_rfl) (by simp) ?_
          refine AllReadyH.cons rfl (fun K hK => ?_) ?_
          · go_simp
            obtain ⟨W22, hW22⟩ : ∃ W, W = W21.alloc (.cells #[.int .i64 0, .int .i64 0, .slice none 0 0] 24) := ⟨_, rfl⟩
            have hc22 : Below W21.heap.size W21 W22 := by rw [hW22]; exact (Below.refl _ _).alloc (Nat.le_refl _) _
            have G22 := Lib.hid (G21.out.trans (hc22.mono G21.out.size))
            have HP6_22 : Hid (Blk W22 W21.heap.size #[.int .i64 0, .int .i64 0, .slice none 0 0] 24) := Lib.hid (by rw [hW22]; exact Blk.new _ _ _)
            have HC6_22 : Hid (w2.heap.size ≤ W21.heap.size) := Lib.hid G21.out.size
            have HP7_22 := Lib.hid (HP7_21.out.below hc22 HP7_21.out.lt)
            have HNE_22 : Hid (W21.heap.size ≠ W1.heap.size) := Lib.hid (by have := HP7_21.out.lt; omega)
            have HR2_22 : Hid (StrsBut W22 (.slice av1 L.length cv1) L [W21.heap.size, W1.heap.size]) := Lib.hid (by rw [hW22]; exact (HR2_21.out.alloc _).perm (by simp))
            have HR5_22 : Hid (StrsBut W22 (.slice av21 L.length cv21) L [W21.heap.size, W1.heap.size]) := Lib.hid (by rw [hW22]; exact (HR5_21.out.alloc _).perm (by simp))
            rw [← hW22]
            clear hW22
            refine hK.out _ _ ⟨(G22.out.cell (p := ⟨w.heap.size, 0, none⟩) hl0).trans x0, (G22.out.cell (p := ⟨w.heap.size, 1, none⟩) hl0).trans x1, (G22.out.cell (p := ⟨w.heap.size, 2, none⟩) hl0).trans x2⟩ (fun hHeld22 => ?_)
            clear hK K hc22
            try simp only [Act.put, List.setIfInBounds_toArray, List.set_cons_zero, List.set_cons_succ]
            have y0_23 := HP6_22.out.cell
            have y1_23 := HP6_22.out.free
            refine wpAnyH_ready (rs := [8]) (by kernel_rfl) (by simp) ?_
            refine AllReadyH.cons rfl (fun K hK => ?_) AllReadyH.nil
            go_simp
            obtain ⟨W23, hW23⟩ : ∃ W, W = ((W22.setCell ⟨W21.heap.size, 0, none⟩ (.int .i64 a)).setCell ⟨W21.heap.size, 1, none⟩ (.int .i64 t)).setCell ⟨W21.heap.size, 2, none⟩ (.slice av1 L.length cv1) := ⟨_, rfl⟩
            have hs23 : W23 = set3 W22 (W21.heap.size) (.int .i64 a) (.int .i64 t) (.slice av1 L.length cv1) := hW23
            have G23 : Hid (Below w2.heap.size w2 W23) := Lib.hid (by rw [hs23]; exact below_three G22.out HC6_22.out)
            have HP6_23 : Hid (Blk W23 (W21.heap.size) #[.int .i64 a, .int .i64 t, .slice av1 L.length cv1] 24) := Lib.hid (by rw [hs23]; exact HP6_22.out.three _ _ _)
            have HP7_23 := Lib.hid (by rw [hs23]; exact ((HP7_22.out.other (Ne.symm HNE_22.out) 0 _).other (Ne.symm HNE_22.out) 1 _).other (Ne.symm HNE_22.out) 2 _ : Blk W23 (W1.heap.size) _ _)
            have HR2_23 : Hid (StrsBut W23 (.slice av1 L.length cv1) L [W21.heap.size, W1.heap.size]) := Lib.hid (by rw [hs23]; exact (((HR2_22.out.set (by simp) 0 _).set (by simp) 1 _).set (by simp) 2 _))
            have HR5_23 : Hid (StrsBut W23 (.slice av21 L.length cv21) L [W21.heap.size, W1.heap.size]) := Lib.hid (by rw [hs23]; exact (((HR5_22.out.set (by simp) 0 _).set (by simp) 1 _).set (by simp) 2 _))
            rw [← hW23]
            clear hW23 hs23
            clear y0_23 y1_23
            refine hK.out _ _ ⟨(G23.out.cell (p := ⟨w.heap.size, 0, none⟩) hl0).trans x0, (G23.out.cell (p := ⟨w.heap.size, 1, none⟩) hl0).trans x1, (G23.out.cell (p := ⟨w.heap.size, 2, none⟩) hl0).trans x2⟩ (fun hHeld23 => ?_)
            clear hK K
            try simp only [Act.put, List.setIfInBounds_toArray, List.set_cons_zero, List.set_cons_succ]
            have y0_24 := HP7_23.out.cell
            have y1_24 := HP7_23.out.free
            refine wpAnyH_ready (rs := [9]) (by kernel_rfl) (by simp) ?_
            refine AllReadyH.cons rfl (fun K hK => ?_) AllReadyH.nil
            go_simp
            obtain ⟨W24, hW24⟩ : ∃ W, W = ((W23.setCell ⟨W1.heap.size, 0, none⟩ (.int .i64 a)).setCell ⟨W1.heap.size, 1, none⟩ (.int .i64 t)).setCell ⟨W1.heap.size, 2, none⟩ (.slice av21 L.length cv21) := ⟨_, rfl⟩
            have hs24 : W24 = set3 W23 (W1.heap.size) (.int .i64 a) (.int .i64 t) (.slice av21 L.length cv21) := hW24
            have G24 : Hid (Below w2.heap.size w2 W24) := Lib.hid (by rw [hs24]; exact below_three G23.out HC7_20.out)
            have HP7_24 : Hid (Blk W24 (W1.heap.size) #[.int .i64 a, .int .i64 t, .slice av21 L.length cv21] 24) := Lib.hid (by rw [hs24]; exact HP7_23.out.three _ _ _)
            have HP6_24 := Lib.hid (by rw [hs24]; exact ((HP6_23.out.other HNE_22.out 0 _).other HNE_22.out 1 _).other HNE_22.out 2 _ : Blk W24 (W21.heap.size) _ _)
            have HR2_24 : Hid (StrsBut W24 (.slice av1 L.length cv1) L [W21.heap.size, W1.heap.size]) := Lib.hid (by rw [hs24]; exact (((HR2_23.out.set (by simp) 0 _).set (by simp) 1 _).set (by simp) 2 _))
            have HR5_24 : Hid (StrsBut W24 (.slice av21 L.length cv21) L [W21.heap.size, W1.heap.size]) := Lib.hid (by rw [hs24]; exact (((HR5_23.out.set (by simp) 0 _).set (by simp) 1 _).set (by simp) 2 _))
            rw [← hW24]
            clear hW24 hs24
            clear y0_24 y1_24
            refine hK.out _ _ ⟨(G24.out.cell (p := ⟨w.heap.size, 0, none⟩) hl0).trans x0, (G24.out.cell (p := ⟨w.heap.size, 1, none⟩) hl0).trans x1, (G24.out.cell (p := ⟨w.heap.size, 2, none⟩) hl0).trans x2⟩ (fun hHeld24 => ?_)
            clear hK K
            try simp only [Act.put, List.setIfInBounds_toArray, List.set_cons_zero, List.set_cons_succ]
            refine wpAnyH_done (by kernel_rfl) ?_ _
            go_wp2_with fail
            refine (lineAlive _ (HE2.out _ G24.out)).mono ?_
            rintro e wz ⟨rfl, hbz⟩
            have GZ := Lib.hid (G24.out.trans (hbz.mono G24.out.size))
            have m6 := (HP6_24.out.below hbz HP6_24.out.lt).cell
            have m7 := (HP7_24.out.below hbz HP7_24.out.lt).cell
            have HS := Lib.hid (refSame10 a t a t _ _ L L wz (HR2_24.out.strs.below hbz (Nat.le_refl _)) (HR5_24.out.strs.below hbz (Nat.le_refl _)))
            rw [same_self] at HS
            clear hbz
            go_wp2_with fail
            refine HS.out.mono ?_
            rintro e wy ⟨rfl, hby⟩
            have GY := Lib.hid (GZ.out.trans (hby.mono GZ.out.size))
            have q0 := (GY.out.cell (p := ⟨w.heap.size, 0, none⟩) hl0).trans x0
            have q1 := (GY.out.cell (p := ⟨w.heap.size, 1, none⟩) hl0).trans x1
            have q2 := (GY.out.cell (p := ⟨w.heap.size, 2, none⟩) hl0).trans x2
            clear hby m6 m7
            go_wp2_with fail
            refine (HSL.out _ GY.out).mono ?_
            rintro e wx ⟨rfl, hbx⟩
            go_wp2_with fail
            go_ret
            exact ⟨rfl, HB2.out.trans ((GY.out.trans (hbx.mono GY.out.size)).mono HB2.out.size)⟩
          exact AllReadyH.nil
        refine AllReadyH.cons rfl (fun K hK => ?_) ?_
        · go_simp
          obtain ⟨W25, hW25⟩ : ∃ W, W = W20.alloc (.cells #[.int .i64 0, .int .i64 0, .slice none 0 0] 24) := ⟨_, rfl⟩
          have hc25 : Below W20.heap.size W20 W25 := by rw [hW25]; exact (Below.refl _ _).alloc (Nat.le_refl _) _
          have G25 := Lib.hid (G20.out.trans (hc25.mono G20.out.size))
          have HP6_25 : Hid (Blk W25 W20.heap.size #[.int .i64 0, .int .i64 0, .slice none 0 0] 24) := Lib.hid (by rw [hW25]; exact Blk.new _ _ _)
          have HC6_25 : Hid (w2.heap.size ≤ W20.heap.size) := Lib.hid G20.out.size
          have HP7_25 := Lib.hid (HP7_20.out.below hc25 HP7_20.out.lt)
          have HNE_25 : Hid (W20.heap.size ≠ W1.heap.size) := Lib.hid (by have := HP7_20.out.lt; omega)
          have HR2_25 : Hid (StrsBut W25 (.slice av1 L.length cv1) L [W20.heap.size, W1.heap.size]) := Lib.hid (by rw [hW25]; exact (HR2_20.out.alloc _).perm (by simp))
          rw [← hW25]
          clear hW25
          refine hK.out _ _ ⟨(G25.out.cell (p := ⟨w.heap.size, 0, none⟩) hl0).trans x0, (G25.out.cell (p := ⟨w.heap.size, 1, none⟩) hl0).trans x1, (G25.out.cell (p := ⟨w.heap.size, 2, none⟩) hl0).trans x2⟩ (fun hHeld25 => ?_)
          clear hK K hc25
          try simp only [Act.put, List.setIfInBounds_toArray, List.set_cons_zero, List.set_cons_succ]
          refine wpAnyH_ready (rs := [5]) (by kernel_rfl) (by simp) ?_
          refine AllReadyH.cons rfl (fun K hK => ?_) ?_
          · go_simp
            go_at_call 28
            refine (KR.out _ G25.out).mono ?_
            rintro e W26 ⟨vv26, rfl, ho26, hc26⟩
            obtain ⟨av26, cv26, rfl, -, -⟩ := ho26.slice
            have G26 := Lib.hid (G25.out.trans (hc26.mono G25.out.size))
            have HP6_26 := Lib.hid (HP6_25.out.below hc26 HP6_25.out.lt)
            have HP7_26 := Lib.hid (HP7_25.out.below hc26 HP7_25.out.lt)
            have HR5_26 : Hid (StrsBut W26 (.slice av26 L.length cv26) L [W20.heap.size, W1.heap.size]) := Lib.hid (StrsBut.own ho26 (by intro q hq; simp at hq; have h1 := HP6_25.out.lt; have h2 := HP7_25.out.lt; omega))
            have HR2_26 := Lib.hid (HR2_25.out.below hc26)
            clear ho26
            refine hK.out _ _ ⟨(G26.out.cell (p := ⟨w.heap.size, 0, none⟩) hl0).trans x0, (G26.out.cell (p := ⟨w.heap.size, 1, none⟩) hl0).trans x1, (G26.out.cell (p := ⟨w.heap.size, 2, none⟩) hl0).trans x2⟩ (fun hHeld26 => ?_)
            clear hK K hc26
            try simp only [Act.put, List.setIfInBounds_toArray, List.set_cons_zero, List.set_cons_succ]
            have y0_27 := HP6_26.out.cell
            have y1_27 := HP6_26.out.free
            refine wpAnyH_ready (rs := [8]) (by kernel_rfl) (by simp) ?_
            refine AllReadyH.cons rfl (fun K hK => ?_) AllReadyH.nil
            go_simp
            obtain ⟨W27, hW27⟩ : ∃ W, W = ((W26.setCell ⟨W20.heap.size, 0, none⟩ (.int .i64 a)).setCell ⟨W20.heap.size, 1, none⟩ (.int .i64 t)).setCell ⟨W20.heap.size, 2, none⟩ (.slice av1 L.length cv1) := ⟨_, rfl⟩
            have hs27 : W27 = set3 W26 (W20.heap.size) (.int .i64 a) (.int .i64 t) (.slice av1 L.length cv1) := hW27
            have G27 : Hid (Below w2.heap.size w2 W27) := Lib.hid (by rw [hs27]; exact below_three G26.out HC6_25.out)
            have HP6_27 : Hid (Blk W27 (W20.heap.size) #[.int .i64 a, .int .i64 t, .slice av1 L.length cv1] 24) := Lib.hid (by rw [hs27]; exact HP6_26.out.three _ _ _)
            have HP7_27 := Lib.hid (by rw [hs27]; exact ((HP7_26.out.other (Ne.symm HNE_25.out) 0 _).other (Ne.symm HNE_25.out) 1 _).other (Ne.symm HNE_25.out) 2 _ : Blk W27 (W1.heap.size) _ _)
            have HR2_27 : Hid (StrsBut W27 (.slice av1 L.length cv1) L [W20.heap.size, W1.heap.size]) := Lib.hid (by rw [hs27]; exact (((HR2_26.out.set (by simp) 0 _).set (by simp) 1 _).set (by simp) 2 _))
            have HR5_27 : Hid (StrsBut W27 (.slice av26 L.length cv26) L [W20.heap.size, W1.heap.size]) := Lib.hid (by rw [hs27]; exact (((HR5_26.out.set (by simp) 0 _).set (by simp) 1 _).set (by simp) 2 _))
            rw [← hW27]
            clear hW27 hs27
            clear y0_27 y1_27
            refine hK.out _ _ ⟨(G27.out.cell (p := ⟨w.heap.size, 0, none⟩) hl0).trans x0, (G27.out.cell (p := ⟨w.heap.size, 1, none⟩) hl0).trans x1, (G27.out.cell (p := ⟨w.heap.size, 2, none⟩) hl0).trans x2⟩ (fun hHeld27 => ?_)
            clear hK K
            try simp only [Act.put, List.setIfInBounds_toArray, List.set_cons_zero, List.set_cons_succ]
            have y0_28 := HP7_27.out.cell
            have y1_28 := HP7_27.out.free
            refine wpAnyH_ready (rs := [9]) (by kernel_rfl) (by simp) ?_
            refine AllReadyH.cons rfl (fun K hK => ?_) AllReadyH.nil
            go_simp
            obtain ⟨W28, hW28⟩ : ∃ W, W = ((W27.setCell ⟨W1.heap.size, 0, none⟩ (.int .i64 a)).setCell ⟨W1.heap.size, 1, none⟩ (.int .i64 t)).setCell ⟨W1.heap.size, 2, none⟩ (.slice av26 L.length cv26) := ⟨_, rfl⟩
            have hs28 : W28 = set3 W27 (W1.heap.size) (.int .i64 a) (.int .i64 t) (.slice av26 L.length cv26) := hW28
            have G28 : Hid (Below w2.heap.size w2 W28) := Lib.hid (by rw [hs28]; exact below_three G27.out HC7_20.out)
            have HP7_28 : Hid (Blk W28 (W1.heap.size) #[.int .i64 a, .int .i64 t, .slice av26 L.length cv26] 24) := Lib.hid (by rw [hs28]; exact HP7_27.out.three _ _ _)
            have HP6_28 := Lib.hid (by rw [hs28]; exact ((HP6_27.out.other HNE_25.out 0 _).other HNE_25.out 1 _).other HNE_25.out 2 _ : Blk W28 (W20.heap.size) _ _)
            have HR2_28 : Hid (StrsBut W28 (.slice av1 L.length cv1) L [W20.heap.size, W1.heap.size]) := Lib.hid (by rw [hs28]; exact (((HR2_27.out.set (by simp) 0 _).set (by simp) 1 _).set (by simp) 2 _))
            have HR5_28 : Hid (StrsBut W28 (.slice av26 L.length cv26) L [W20.heap.size, W1.heap.size]) := Lib.hid (by rw [hs28]; exact (((HR5_27.out.set (by simp) 0 _).set (by simp) 1 _).set (by simp) 2 _))
            rw [← hW28]
            clear hW28 hs28
            clear y0_28 y1_28
            refine hK.out _ _ ⟨(G28.out.cell (p := ⟨w.heap.size, 0, none⟩) hl0).trans x0, (G28.out.cell (p := ⟨w.heap.size, 1, none⟩) hl0).trans x1, (G28.out.cell (p := ⟨w.heap.size, 2, none⟩) hl0).trans x2⟩ (fun hHeld28 => ?_)
            clear hK K
            try simp only [Act.put, List.setIfInBounds_toArray, List.set_cons_zero, List.set_cons_succ]
            refine wpAnyH_done (by kernel_rfl) ?_ _
            go_wp2_with fail
            refine (lineAlive _ (HE2.out _ G28.out)).mono ?_
            rintro e wz ⟨rfl, hbz⟩
            have GZ := Lib.hid (G28.out.trans (hbz.mono G28.out.size))
            have m6 := (HP6_28.out.below hbz HP6_28.out.lt).cell
            have m7 := (HP7_28.out.below hbz HP7_28.out.lt).cell
            have HS := Lib.hid (refSame10 a t a t _ _ L L wz (HR2_28.out.strs.below hbz (Nat.le_refl _)) (HR5_28.out.strs.below hbz (Nat.le_refl _)))
            rw [same_self] at HS
            clear hbz
            go_wp2_with fail
            refine HS.out.mono ?_
            rintro e wy ⟨rfl, hby⟩
            have GY := Lib.hid (GZ.out.trans (hby.mono GZ.out.size))
            have q0 := (GY.out.cell (p := ⟨w.heap.size, 0, none⟩) hl0).trans x0
            have q1 := (GY.out.cell (p := ⟨w.heap.size, 1, none⟩) hl0).trans x1
            have q2 := (GY.out.cell (p := ⟨w.heap.size, 2, none⟩) hl0).trans x2
            clear hby m6 m7
            go_wp2_with fail
            refine (HSL.out _ GY.out).mono ?_
            rintro e wx ⟨rfl, hbx⟩
            go_wp2_with fail
            go_ret
            exact ⟨rfl, HB2.out.trans ((GY.out.trans (hbx.mono GY.out.size)).mono HB2.out.size)⟩
          exact AllReadyH.nil
        exact AllReadyH.nil
      exact AllReadyH.nil
    refine AllReadyH.cons rfl (fun K hK => ?_) ?_
    · go_simp
      obtain ⟨W29, hW29⟩ : ∃ W, W = W0.alloc (.cells #[.int .i64 0, .int .i64 0, .slice none 0 0] 24) := ⟨_, rfl⟩
      have hc29 : Below W0.heap.size W0 W29 := by rw [hW29]; exact (Below.refl _ _).alloc (Nat.le_refl _) _
      have G29 := Lib.hid (G0.out.trans (hc29.mono G0.out.size))
      have HP6_29 : Hid (Blk W29 W0.heap.size #[.int .i64 0, .int .i64 0, .slice none 0 0] 24) := Lib.hid (by rw [hW29]; exact Blk.new _ _ _)
      have HC6_29 : Hid (w2.heap.size ≤ W0.heap.size) := Lib.hid G0.out.size
      rw [← hW29]
      clear hW29
      refine hK.out _ _ ⟨(G29.out.cell (p := ⟨w.heap.size, 0, none⟩) hl0).trans x0, (G29.out.cell (p := ⟨w.heap.size, 1, none⟩) hl0).trans x1, (G29.out.cell (p := ⟨w.heap.size, 2, none⟩) hl0).trans x2⟩ (fun hHeld29 => ?_)
      clear hK K hc29
      try simp only [Act.put, List.setIfInBounds_toArray, List.set_cons_zero, List.set_cons_succ]
      refine wpAnyH_ready (rs := [2, 7]) (by kernel_rfl) (by simp) ?_
      refine AllReadyH.cons rfl (fun K hK => ?_) ?_
      · go_simp
        go_at_call 27
        refine (KA.out _ G29.out).mono ?_
        rintro e W30 ⟨vv30, rfl, ho30, hc30⟩
        obtain ⟨av30, cv30, rfl, -, -⟩ := ho30.slice
        have G30 := Lib.hid (G29.out.trans (hc30.mono G29.out.size))
        have HP6_30 := Lib.hid (HP6_29.out.below hc30 HP6_29.out.lt)
        have HR2_30 : Hid (StrsBut W30 (.slice av30 L.length cv30) L [W0.heap.size]) := Lib.hid (StrsBut.own ho30 (by intro q hq; simp at hq; have h1 := HP6_29.out.lt; omega))
        clear ho30
        refine hK.out _ _ ⟨(G30.out.cell (p := ⟨w.heap.size, 0, none⟩) hl0).trans x0, (G30.out.cell (p := ⟨w.heap.size, 1, none⟩) hl0).trans x1, (G30.out.cell (p := ⟨w.heap.size, 2, none⟩) hl0).trans x2⟩ (fun hHeld30 => ?_)
        clear hK K hc30
        try simp only [Act.put, List.setIfInBounds_toArray, List.set_cons_zero, List.set_cons_succ]
        refine wpAnyH_ready (rs := [5, 7]) (by kernel_rfl) (by simp) ?_
        refine AllReadyH.cons rfl (fun K hK => ?_) ?_
        · go_simp
          go_at_call 28
          refine (KR.out _ G30.out).mono ?_
          rintro e W31 ⟨vv31, rfl, ho31, hc31⟩
          obtain ⟨av31, cv31, rfl, -, -⟩ := ho31.slice
          have G31 := Lib.hid (G30.out.trans (hc31.mono G30.out.size))
          have HP6_31 := Lib.hid (HP6_30.out.below hc31 HP6_30.out.lt)
          have HR5_31 : Hid (StrsBut W31 (.slice av31 L.length cv31) L [W0.heap.size]) := Lib.hid (StrsBut.own ho31 (by intro q hq; simp at hq; have h1 := HP6_30.out.lt; omega))
          have HR2_31 := Lib.hid (HR2_30.out.below hc31)
          clear ho31
          refine hK.out _ _ ⟨(G31.out.cell (p := ⟨w.heap.size, 0, none⟩) hl0).trans x0, (G31.out.cell (p := ⟨w.heap.size, 1, none⟩) hl0).trans x1, (G31.out.cell (p := ⟨w.heap.size, 2, none⟩) hl0).trans x2⟩ (fun hHeld31 => ?_)
          clear hK K hc31
          try simp only [Act.put, List.setIfInBounds_toArray, List.set_cons_zero, List.set_cons_succ]
          refine wpAnyH_ready (rs := [7]) (by kernel_rfl) (by simp) ?_
          refine AllReadyH.cons rfl (fun K hK => ?_) ?_
          · go_simp
            obtain ⟨W32, hW32⟩ : ∃ W, W = W31.alloc (.cells #[.int .i64 0, .int .i64 0, .slice none 0 0] 24) := ⟨_, rfl⟩
            have hc32 : Below W31.heap.size W31 W32 := by rw [hW32]; exact (Below.refl _ _).alloc (Nat.le_refl _) _
            have G32 := Lib.hid (G31.out.trans (hc32.mono G31.out.size))
            have HP7_32 : Hid (Blk W32 W31.heap.size #[.int .i64 0, .int .i64 0, .slice none 0 0] 24) := Lib.hid (by rw [hW32]; exact Blk.new _ _ _)
            have HC7_32 : Hid (w2.heap.size ≤ W31.heap.size) := Lib.hid G31.out.size
            have HP6_32 := Lib.hid (HP6_31.out.below hc32 HP6_31.out.lt)
            have HNE_32 : Hid (W0.heap.size ≠ W31.heap.size) := Lib.hid (by have := HP6_31.out.lt; omega)
            have HR2_32 : Hid (StrsBut W32 (.slice av30 L.length cv30) L [W0.heap.size, W31.heap.size]) := Lib.hid (by rw [hW32]; exact (HR2_31.out.alloc _).perm (by simp))
            have HR5_32 : Hid (StrsBut W32 (.slice av31 L.length cv31) L [W0.heap.size, W31.heap.size]) := Lib.hid (by rw [hW32]; exact (HR5_31.out.alloc _).perm (by simp))
            rw [← hW32]
            clear hW32
            refine hK.out _ _ ⟨(G32.out.cell (p := ⟨w.heap.size, 0, none⟩) hl0).trans x0, (G32.out.cell (p := ⟨w.heap.size, 1, none⟩) hl0).trans x1, (G32.out.cell (p := ⟨w.heap.size, 2, none⟩) hl0).trans x2⟩ (fun hHeld32 => ?_)
            clear hK K hc32
            try simp only [Act.put, List.setIfInBounds_toArray, List.set_cons_zero, List.set_cons_succ]
            have y0_33 := HP6_32.out.cell
            have y1_33 := HP6_32.out.free
            refine wpAnyH_ready (rs := [8]) (by kernel_rfl) (by simp) ?_
            refine AllReadyH.cons rfl (fun K hK => ?_) AllReadyH.nil
            go_simp
            obtain ⟨W33, hW33⟩ : ∃ W, W = ((W32.setCell ⟨W0.heap.size, 0, none⟩ (.int .i64 a)).setCell ⟨W0.heap.size, 1, none⟩ (.int .i64 t)).setCell ⟨W0.heap.size, 2, none⟩ (.slice av30 L.length cv30) := ⟨_, rfl⟩
            have hs33 : W33 = set3 W32 (W0.heap.size) (.int .i64 a) (.int .i64 t) (.slice av30 L.length cv30) := hW33
            have G33 : Hid (Below w2.heap.size w2 W33) := Lib.hid (by rw [hs33]; exact below_three G32.out HC6_29.out)
            have HP6_33 : Hid (Blk W33 (W0.heap.size) #[.int .i64 a, .int .i64 t, .slice av30 L.length cv30] 24) := Lib.hid (by rw [hs33]; exact HP6_32.out.three _ _ _)
            have HP7_33 := Lib.hid (by rw [hs33]; exact ((HP7_32.out.other (Ne.symm HNE_32.out) 0 _).other (Ne.symm HNE_32.out) 1 _).other (Ne.symm HNE_32.out) 2 _ : Blk W33 (W31.heap.size) _ _)
            have HR2_33 : Hid (StrsBut W33 (.slice av30 L.length cv30) L [W0.heap.size, W31.heap.size]) := Lib.hid (by rw [hs33]; exact (((HR2_32.out.set (by simp) 0 _).set (by simp) 1 _).set (by simp) 2 _))
            have HR5_33 : Hid (StrsBut W33 (.slice av31 L.length cv31) L [W0.heap.size, W31.heap.size]) := Lib.hid (by rw [hs33]; exact (((HR5_32.out.set (by simp) 0 _).set (by simp) 1 _).set (by simp) 2 _))
            rw [← hW33]
            clear hW33 hs33
            clear y0_33 y1_33
            refine hK.out _ _ ⟨(G33.out.cell (p := ⟨w.heap.size, 0, none⟩) hl0).trans x0, (G33.out.cell (p := ⟨w.heap.size, 1, none⟩) hl0).trans x1, (G33.out.cell (p := ⟨w.heap.size, 2, none⟩) hl0).trans x2⟩ (fun hHeld33 => ?_)
            clear hK K
            try simp only [Act.put, List.setIfInBounds_toArray, List.set_cons_zero, List.set_cons_succ]
            have y0_34 := HP7_33.out.cell
            have y1_34 := HP7_33.out.free
            refine wpAnyH_ready (rs := [9]) (by kernel_rfl) (by simp) ?_
            refine AllReadyH.cons rfl (fun K hK => ?_) AllReadyH.nil
            go_simp
            obtain ⟨W34, hW34⟩ : ∃ W, W = ((W33.setCell ⟨W31.heap.size, 0, none⟩ (.int .i64 a)).setCell ⟨W31.heap.size, 1, none⟩ (.int .i64 t)).setCell ⟨W31.heap.size, 2, none⟩ (.slice av31 L.length cv31) := ⟨_, rfl⟩
            have hs34 : W34 = set3 W33 (W31.heap.size) (.int .i64 a) (.int .i64 t) (.slice av31 L.length cv31) := hW34
            have G34 : Hid (Below w2.heap.size w2 W34) := Lib.hid (by rw [hs34]; exact below_three G33.out HC7_32.out)
            have HP7_34 : Hid (Blk W34 (W31.heap.size) #[.int .i64 a, .int .i64 t, .slice av31 L.length cv31] 24) := Lib.hid (by rw [hs34]; exact HP7_33.out.three _ _ _)
            have HP6_34 := Lib.hid (by rw [hs34]; exact ((HP6_33.out.other HNE_32.out 0 _).other HNE_32.out 1 _).other HNE_32.out 2 _ : Blk W34 (W0.heap.size) _ _)
            have HR2_34 : Hid (StrsBut W34 (.slice av30 L.length cv30) L [W0.heap.size, W31.heap.size]) := Lib.hid (by rw [hs34]; exact (((HR2_33.out.set (by simp) 0 _).set (by simp) 1 _).set (by simp) 2 _))
            have HR5_34 : Hid (StrsBut W34 (.slice av31 L.length cv31) L [W0.heap.size, W31.heap.size]) := Lib.hid (by rw [hs34]; exact (((HR5_33.out.set (by simp) 0 _).set (by simp) 1 _).set (by simp) 2 _))
            rw [← hW34]
            clear hW34 hs34
            clear y0_34 y1_34
            refine hK.out _ _ ⟨(G34.out.cell (p := ⟨w.heap.size, 0, none⟩) hl0).trans x0, (G34.out.cell (p := ⟨w.heap.size, 1, none⟩) hl0).trans x1, (G34.out.cell (p := ⟨w.heap.size, 2, none⟩) hl0).trans x2⟩ (fun hHeld34 => ?_)
            clear hK K
            try simp only [Act.put, List.setIfInBounds_toArray, List.set_cons_zero, List.set_cons_succ]
            refine wpAnyH_done (by kernel_rfl) ?_ _
            go_wp2_with fail
            refine (lineAlive _ (HE2.out _ G34.out)).mono ?_
            rintro e wz ⟨rfl, hbz⟩
            have GZ := Lib.hid (G34.out.trans (hbz.mono G34.out.size))
            have m6 := (HP6_34.out.below hbz HP6_34.out.lt).cell
            have m7 := (HP7_34.out.below hbz HP7_34.out.lt).cell
            have HS := Lib.hid (refSame10 a t a t _ _ L L wz (HR2_34.out.strs.below hbz (Nat.le_refl _)) (HR5_34.out.strs.below hbz (Nat.le_refl _)))
            rw [same_self] at HS
            clear hbz
            go_wp2_with fail
            refine HS.out.mono ?_
            rintro e wy ⟨rfl, hby⟩
            have GY := Lib.hid (GZ.out.trans (hby.mono GZ.out.size))
            have q0 := (GY.out.cell (p := ⟨w.heap.size, 0, none⟩) hl0).trans x0
            have q1 := (GY.out.cell (p := ⟨w.heap.size, 1, none⟩) hl0).trans x1
            have q2 := (GY.out.cell (p := ⟨w.heap.size, 2, none⟩) hl0).trans x2
            clear hby m6 m7
            go_wp2_with fail
            refine (HSL.out _ GY.out).mono ?_
            rintro e wx ⟨rfl, hbx⟩
            go_wp2_with fail
            go_ret
            exact ⟨rfl, HB2.out.trans ((GY.out.trans (hbx.mono GY.out.size)).mono HB2.out.size)⟩
          exact AllReadyH.nil
        refine AllReadyH.cons rfl (fun K hK => ?_) ?_
        · go_simp
          obtain ⟨W35, hW35⟩ : ∃ W, W = W30.alloc (.cells #[.int .i64 0, .int .i64 0, .slice none 0 0] 24) := ⟨_, rfl⟩
          have hc35 : Below W30.heap.size W30 W35 := by rw [hW35]; exact (Below.refl _ _).alloc (Nat.le_refl _) _
          have G35 := Lib.hid (G30.out.trans (hc35.mono G30.out.size))
          have HP7_35 : Hid (Blk W35 W30.heap.size #[.int .i64 0, .int .i64 0, .slice none 0 0] 24) := Lib.hid (by rw [hW35]; exact Blk.new _ _ _)
          have HC7_35 : Hid (w2.heap.size ≤ W30.heap.size) := Lib.hid G30.out.size
          have HP6_35 := Lib.hid (HP6_30.out.below hc35 HP6_30.out.lt)
          have HNE_35 : Hid (W0.heap.size ≠ W30.heap.size) := Lib.hid (by have := HP6_30.out.lt; omega)
          have HR2_35 : Hid (StrsBut W35 (.slice av30 L.length cv30) L [W0.heap.size, W30.heap.size]) := Lib.hid (by rw [hW35]; exact (HR2_30.out.alloc _).perm (by simp))
          rw [← hW35]
          clear hW35
          refine hK.out _ _ ⟨(G35.out.cell (p := ⟨w.heap.size, 0, none⟩) hl0).trans x0, (G35.out.cell (p := ⟨w.heap.size, 1, none⟩) hl0).trans x1, (G35.out.cell (p := ⟨w.heap.size, 2, none⟩) hl0).trans x2⟩ (fun hHeld35 => ?_)
          clear hK K hc35
          try simp only [Act.put, List.setIfInBounds_toArray, List.set_cons_zero, List.set_cons_succ]
          refine wpAnyH_ready (rs := [5]) (by kernel_rfl) (by simp) ?_
          refine AllReadyH.cons rfl (fun K hK => ?_) ?_
          · go_simp
            go_at_call 28
            refine (KR.out _ G35.out).mono ?_
            rintro e W36 ⟨vv36, rfl, ho36, hc36⟩
            obtain ⟨av36, cv36, rfl, -, -⟩ := ho36.slice
            have G36 := Lib.hid (G35.out.trans (hc36.mono G35.out.size))
            have HP6_36 := Lib.hid (HP6_35.out.below hc36 HP6_35.out.lt)
            have HP7_36 := Lib.hid (HP7_35.out.below hc36 HP7_35.out.lt)
            have HR5_36 : Hid (StrsBut W36 (.slice av36 L.length cv36) L [W0.heap.size, W30.heap.size]) := Lib.hid (StrsBut.own ho36 (by intro q hq; simp at hq; have h1 := HP6_35.out.lt; have h2 := HP7_35.out.lt; omega))
            have HR2_36 := Lib.hid (HR2_35.out.below hc36)
            clear ho36
            refine hK.out _ _ ⟨(G36.out.cell (p := ⟨w.heap.size, 0, none⟩) hl0).trans x0, (G36.out.cell (p := ⟨w.heap.size, 1, none⟩) hl0).trans x1, (G36.out.cell (p := ⟨w.heap.size, 2, none⟩) hl0).trans x2⟩ (fun hHeld36 => ?_)
            clear hK K hc36
            try simp only [Act.put, List.setIfInBounds_toArray, List.set_cons_zero, List.set_cons_succ]
            have y0_37 := HP6_36.out.cell
            have y1_37 := HP6_36.out.free
            refine wpAnyH_ready (rs := [8]) (by kernel_rfl) (by simp) ?_
            refine AllReadyH.cons rfl (fun K hK => ?_) AllReadyH.nil
            go_simp
            obtain ⟨W37, hW37⟩ : ∃ W, W = ((W36.setCell ⟨W0.heap.size, 0, none⟩ (.int .i64 a)).setCell ⟨W0.heap.size, 1, none⟩ (.int .i64 t)).setCell ⟨W0.heap.size, 2, none⟩ (.slice av30 L.length cv30) := ⟨_, rfl⟩
            have hs37 : W37 = set3 W36 (W0.heap.size) (.int .i64 a) (.int .i64 t) (.slice av30 L.length cv30) := hW37
            have G37 : Hid (Below w2.heap.size w2 W37) := Lib.hid (by rw [hs37]; exact below_three G36.out HC6_29.out)
            have HP6_37 : Hid (Blk W37 (W0.heap.size) #[.int .i64 a, .int .i64 t, .slice av30 L.length cv30] 24) := Lib.hid (by rw [hs37]; exact HP6_36.out.three _ _ _)
            have HP7_37 := Lib.hid (by rw [hs37]; exact ((HP7_36.out.other (Ne.symm HNE_35.out) 0 _).other (Ne.symm HNE_35.out) 1 _).other (Ne.symm HNE_35.out) 2 _ : Blk W37 (W30.heap.size) _ _)
            have HR2_37 : Hid (StrsBut W37 (.slice av30 L.length cv30) L [W0.heap.size, W30.heap.size]) := Lib.hid (by rw [hs37]; exact (((HR2_36.out.set (by simp) 0 _).set (by simp) 1 _).set (by simp) 2 _))
            have HR5_37 : Hid (StrsBut W37 (.slice av36 L.length cv36) L [W0.heap.size, W30.heap.size]) := Lib.hid (by rw [hs37]; exact (((HR5_36.out.set (by simp) 0 _).set (by simp) 1 _).set (by simp) 2 _))
            rw [← hW37]
            clear hW37 hs37
            clear y0_37 y1_37
            refine hK.out _ _ ⟨(G37.out.cell (p := ⟨w.heap.size, 0, none⟩) hl0).trans x0, (G37.out.cell (p := ⟨w.heap.size, 1, none⟩) hl0).trans x1, (G37.out.cell (p := ⟨w.heap.size, 2, none⟩) hl0).trans x2⟩ (fun hHeld37 => ?_)
            clear hK K
            try simp only [Act.put, List.setIfInBounds_toArray, List.set_cons_zero, List.set_cons_succ]
            have y0_38 := HP7_37.out.cell
            have y1_38 := HP7_37.out.free
            refine wpAnyH_ready (rs := [9]) (by kernel_rfl) (by simp) ?_
            refine AllReadyH.cons rfl (fun K hK => ?_) AllReadyH.nil
            go_simp
            obtain ⟨W38, hW38⟩ : ∃ W, W = ((W37.setCell ⟨W30.heap.size, 0, none⟩ (.int .i64 a)).setCell ⟨W30.heap.size, 1, none⟩ (.int .i64 t)).setCell ⟨W30.heap.size, 2, none⟩ (.slice av36 L.length cv36) := ⟨_, rfl⟩
            have hs38 : W38 = set3 W37 (W30.heap.size) (.int .i64 a) (.int .i64 t) (.slice av36 L.length cv36) := hW38
            have G38 : Hid (Below w2.heap.size w2 W38) := Lib.hid (by rw [hs38]; exact below_three G37.out HC7_35.out)
            have HP7_38 : Hid (Blk W38 (W30.heap.size) #[.int .i64 a, .int .i64 t, .slice av36 L.length cv36] 24) := Lib.hid (by rw [hs38]; exact HP7_37.out.three _ _ _)
            have HP6_38 := Lib.hid (by rw [hs38]; exact ((HP6_37.out.other HNE_35.out 0 _).other HNE_35.out 1 _).other HNE_35.out 2 _ : Blk W38 (W0.heap.size) _ _)
            have HR2_38 : Hid (StrsBut W38 (.slice av30 L.length cv30) L [W0.heap.size, W30.heap.size]) := Lib.hid (by rw [hs38]; exact (((HR2_37.out.set (by simp) 0 _).set (by simp) 1 _).set (by simp) 2 _))
            have HR5_38 : Hid (StrsBut W38 (.slice av36 L.length cv36) L [W0.heap.size, W30.heap.size]) := Lib.hid (by rw [hs38]; exact (((HR5_37.out.set (by simp) 0 _).set (by simp) 1 _).set (by simp) 2 _))
            rw [← hW38]
            clear hW38 hs38
            clear y0_38 y1_38
            refine hK.out _ _ ⟨(G38.out.cell (p := ⟨w.heap.size, 0, none⟩) hl0).trans x0, (G38.out.cell (p := ⟨w.heap.size, 1, none⟩) hl0).trans x1, (G38.out.cell (p := ⟨w.heap.size, 2, none⟩) hl0).trans x2⟩ (fun hHeld38 => ?_)
            clear hK K
            try simp only [Act.put, List.setIfInBounds_toArray, List.set_cons_zero, List.set_cons_succ]
            refine wpAnyH_done (by kernel_rfl) ?_ _
            go_wp2_with fail
            refine (lineAlive _ (HE2.out _ G38.out)).mono ?_
            rintro e wz ⟨rfl, hbz⟩
            have GZ := Lib.hid (G38.out.trans (hbz.mono G38.out.size))
            have m6 := (HP6_38.out.below hbz HP6_38.out.lt).cell
            have m7 := (HP7_38.out.below hbz HP7_38.out.lt).cell
            have HS := Lib.hid (refSame10 a t a t _ _ L L wz (HR2_38.out.strs.below hbz (Nat.le_refl _)) (HR5_38.out.strs.below hbz (Nat.le_refl _)))
            rw [same_self] at HS
            clear hbz
            go_wp2_with fail
            refine HS.out.mono ?_
            rintro e wy ⟨rfl, hby⟩
            have GY := Lib.hid (GZ.out.trans (hby.mono GZ.out.size))
            have q0 := (GY.out.cell (p := ⟨w.heap.size, 0, none⟩) hl0).trans x0
            have q1 := (GY.out.cell (p := ⟨w.heap.size, 1, none⟩) hl0).trans x1
            have q2 := (GY.out.cell (p := ⟨w.heap.size, 2, none⟩) hl0).trans x2
            clear hby m6 m7
            go_wp2_with fail
            refine (HSL.out _ GY.out).mono ?_
            rintro e wx ⟨rfl, hbx⟩
            go_wp2_with fail
            go_ret
            exact ⟨rfl, HB2.out.trans ((GY.out.trans (hbx.mono GY.out.size)).mono HB2.out.size)⟩
          exact AllReadyH.nil
        exact AllReadyH.nil
      refine AllReadyH.cons rfl (fun K hK => ?_) ?_
      · go_simp
        obtain ⟨W39, hW39⟩ : ∃ W, W = W29.alloc (.cells #[.int .i64 0, .int .i64 0, .slice none 0 0] 24) := ⟨_, rfl⟩
        have hc39 : Below W29.heap.size W29 W39 := by rw [hW39]; exact (Below.refl _ _).alloc (Nat.le_refl _) _
        have G39 := Lib.hid (G29.out.trans (hc39.mono G29.out.size))
        have HP7_39 : Hid (Blk W39 W29.heap.size #[.int .i64 0, .int .i64 0, .slice none 0 0] 24) := Lib.hid (by rw [hW39]; exact Blk.new _ _ _)
        have HC7_39 : Hid (w2.heap.size ≤ W29.heap.size) := Lib.hid G29.out.size
        have HP6_39 := Lib.hid (HP6_29.out.below hc39 HP6_29.out.lt)
        have HNE_39 : Hid (W0.heap.size ≠ W29.heap.size) := Lib.hid (by have := HP6_29.out.lt; omega)
        rw [← hW39]
        clear hW39
        refine hK.out _ _ ⟨(G39.out.cell (p := ⟨w.heap.size, 0, none⟩) hl0).trans x0, (G39.out.cell (p := ⟨w.heap.size, 1, none⟩) hl0).trans x1, (G39.out.cell (p := ⟨w.heap.size, 2, none⟩) hl0).trans x2⟩ (fun hHeld39 => ?_)
        clear hK K hc39
        try simp only [Act.put, List.setIfInBounds_toArray, List.set_cons_zero, List.set_cons_succ]
        refine wpAnyH_ready (rs := [2]) (by kernel_rfl) (by simp) ?_
        refine AllReadyH.cons rfl (fun K hK => ?_) ?_
        · go_simp
          go_at_call 27
          refine (KA.out _ G39.out).mono ?_
          rintro e W40 ⟨vv40, rfl, ho40, hc40⟩
          obtain ⟨av40, cv40, rfl, -, -⟩ := ho40.slice
          have G40 := Lib.hid (G39.out.trans (hc40.mono G39.out.size))
          have HP6_40 := Lib.hid (HP6_39.out.below hc40 HP6_39.out.lt)
          have HP7_40 := Lib.hid (HP7_39.out.below hc40 HP7_39.out.lt)
          have HR2_40 : Hid (StrsBut W40 (.slice av40 L.length cv40) L [W0.heap.size, W29.heap.size]) := Lib.hid (StrsBut.own ho40 (by intro q hq; simp at hq; have h1 := HP6_39.out.lt; have h2 := HP7_39.out.lt; omega))
          clear ho40
          refine hK.out _ _ ⟨(G40.out.cell (p := ⟨w.heap.size, 0, none⟩) hl0).trans x0, (G40.out.cell (p := ⟨w.heap.size, 1, none⟩) hl0).trans x1, (G40.out.cell (p := ⟨w.heap.size, 2, none⟩) hl0).trans x2⟩ (fun hHeld40 => ?_)
          clear hK K hc40
          try simp only [Act.put, List.setIfInBounds_toArray, List.set_cons_zero, List.set_cons_succ]
          refine wpAnyH_ready (rs := [5]) (by kernel_rfl) (by simp) ?_
          refine AllReadyH.cons rfl (fun K hK => ?_) ?_
          · go_simp
            go_at_call 28
            refine (KR.out _ G40.out).mono ?_
            rintro e W41 ⟨vv41, rfl, ho41, hc41⟩
            obtain ⟨av41, cv41, rfl, -, -⟩ := ho41.slice
            have G41 := Lib.hid (G40.out.trans (hc41.mono G40.out.size))
            have HP6_41 := Lib.hid (HP6_40.out.below hc41 HP6_40.out.lt)
            have HP7_41 := Lib.hid (HP7_40.out.below hc41 HP7_40.out.lt)
            have HR5_41 : Hid (StrsBut W41 (.slice av41 L.length cv41) L [W0.heap.size, W29.heap.size]) := Lib.hid (StrsBut.own ho41 (by intro q hq; simp at hq; have h1 := HP6_40.out.lt; have h2 := HP7_40.out.lt; omega))
            have HR2_41 := Lib.hid (HR2_40.out.below hc41)
            clear ho41
            refine hK.out _ _ ⟨(G41.out.cell (p := ⟨w.heap.size, 0, none⟩) hl0).trans x0, (G41.out.cell (p := ⟨w.heap.size, 1, none⟩) hl0).trans x1, (G41.out.cell (p := ⟨w.heap.size, 2, none⟩) hl0).trans x2⟩ (fun hHeld41 => ?_)
            clear hK K hc41
            try simp only [Act.put, List.setIfInBounds_toArray, List.set_cons_zero, List.set_cons_succ]
            have y0_42 := HP6_41.out.cell
            have y1_42 := HP6_41.out.free
            refine wpAnyH_ready (rs := [8]) (by kernel_rfl) (by simp) ?_
            refine AllReadyH.cons rfl (fun K hK => ?_) AllReadyH.nil
            go_simp
            obtain ⟨W42, hW42⟩ : ∃ W, W = ((W41.setCell ⟨W0.heap.size, 0, none⟩ (.int .i64 a)).setCell ⟨W0.heap.size, 1, none⟩ (.int .i64 t)).setCell ⟨W0.heap.size, 2, none⟩ (.slice av40 L.length cv40) := ⟨_, rfl⟩
            have hs42 : W42 = set3 W41 (W0.heap.size) (.int .i64 a) (.int .i64 t) (.slice av40 L.length cv40) := hW42
            have G42 : Hid (Below w2.heap.size w2 W42) := Lib.hid (by rw [hs42]; exact below_three G41.out HC6_29.out)
            have HP6_42 : Hid (Blk W42 (W0.heap.size) #[.int .i64 a, .int .i64 t, .slice av40 L.length cv40] 24) := Lib.hid (by rw [hs42]; exact HP6_41.out.three _ _ _)
            have HP7_42 := Lib.hid (by rw [hs42]; exact ((HP7_41.out.other (Ne.symm HNE_39.out) 0 _).other (Ne.symm HNE_39.out) 1 _).other (Ne.symm HNE_39.out) 2 _ : Blk W42 (W29.heap.size) _ _)
            have HR2_42 : Hid (StrsBut W42 (.slice av40 L.length cv40) L [W0.heap.size, W29.heap.size]) := Lib.hid (by rw [hs42]; exact (((HR2_41.out.set (by simp) 0 _).set (by simp) 1 _).set (by simp) 2 _))
            have HR5_42 : Hid (StrsBut W42 (.slice av41 L.length cv41) L [W0.heap.size, W29.heap.size]) := Lib.hid (by rw [hs42]; exact (((HR5_41.out.set (by simp) 0 _).set (by simp) 1 _).set (by simp) 2 _))
            rw [← hW42]
            clear hW42 hs42
            clear y0_42 y1_42
            refine hK.out _ _ ⟨(G42.out.cell (p := ⟨w.heap.size, 0, none⟩) hl0).trans x0, (G42.out.cell (p := ⟨w.heap.size, 1, none⟩) hl0).trans x1, (G42.out.cell (p := ⟨w.heap.size, 2, none⟩) hl0).trans x2⟩ (fun hHeld42 => ?_)
            clear hK K
            try simp only [Act.put, List.setIfInBounds_toArray, List.set_cons_zero, List.set_cons_succ]
            have y0_43 := HP7_42.out.cell
            have y1_43 := HP7_42.out.free
            refine wpAnyH_ready (rs := [9]) (by kernel_rfl) (by simp) ?_
            refine AllReadyH.cons rfl (fun K hK => ?_) AllReadyH.nil
            go_simp
            obtain ⟨W43, hW43⟩ : ∃ W, W = ((W42.setCell ⟨W29.heap.size, 0, none⟩ (.int .i64 a)).setCell ⟨W29.heap.size, 1, none⟩ (.int .i64 t)).setCell ⟨W29.heap.size, 2, none⟩ (.slice av41 L.length cv41) := ⟨_, rfl⟩
            have hs43 : W43 = set3 W42 (W29.heap.size) (.int .i64 a) (.int .i64 t) (.slice av41 L.length cv41) := hW43
            have G43 : Hid (Below w2.heap.size w2 W43) := Lib.hid (by rw [hs43]; exact below_three G42.out HC7_39.out)
            have HP7_43 : Hid (Blk W43 (W29.heap.size) #[.int .i64 a, .int .i64 t, .slice av41 L.length cv41] 24) := Lib.hid (by rw [hs43]; exact HP7_42.out.three _ _ _)
            have HP6_43 := Lib.hid (by rw [hs43]; exact ((HP6_42.out.other HNE_39.out 0 _).other HNE_39.out 1 _).other HNE_39.out 2 _ : Blk W43 (W0.heap.size) _ _)
            have HR2_43 : Hid (StrsBut W43 (.slice av40 L.length cv40) L [W0.heap.size, W29.heap.size]) := Lib.hid (by rw [hs43]; exact (((HR2_42.out.set (by simp) 0 _).set (by simp) 1 _).set (by simp) 2 _))
            have HR5_43 : Hid (StrsBut W43 (.slice av41 L.length cv41) L [W0.heap.size, W29.heap.size]) := Lib.hid (by rw [hs43]; exact (((HR5_42.out.set (by simp) 0 _).set (by simp) 1 _).set (by simp) 2 _))
            rw [← hW43]
            clear hW43 hs43
            clear y0_43 y1_43
            refine hK.out _ _ ⟨(G43.out.cell (p := ⟨w.heap.size, 0, none⟩) hl0).trans x0, (G43.out.cell (p := ⟨w.heap.size, 1, none⟩) hl0).trans x1, (G43.out.cell (p := ⟨w.heap.size, 2, none⟩) hl0).trans x2⟩ (fun hHeld43 => ?_)
            clear hK K
            try simp only [Act.put, List.setIfInBounds_toArray, List.set_cons_zero, List.set_cons_succ]
            refine wpAnyH_done (by kernel_rfl) ?_ _
            go_wp2_with fail
            refine (lineAlive _ (HE2.out _ G43.out)).mono ?_
            rintro e wz ⟨rfl, hbz⟩
            have GZ := Lib.hid (G43.out.trans (hbz.mono G43.out.size))
            have m6 := (HP6_43.out.below hbz HP6_43.out.lt).cell
            have m7 := (HP7_43.out.below hbz HP7_43.out.lt).cell
            have HS := Lib.hid (refSame10 a t a t _ _ L L wz (HR2_43.out.strs.below hbz (Nat.le_refl _)) (HR5_43.out.strs.below hbz (Nat.le_refl _)))
            rw [same_self] at HS
            clear hbz
            go_wp2_with fail
            refine HS.out.mono ?_
            rintro e wy ⟨rfl, hby⟩
            have GY := Lib.hid (GZ.out.trans (hby.mono GZ.out.size))
            have q0 := (GY.out.cell (p := ⟨w.heap.size, 0, none⟩) hl0).trans x0
            have q1 := (GY.out.cell (p := ⟨w.heap.size, 1, none⟩) hl0).trans x1
            have q2 := (GY.out.cell (p := ⟨w.heap.size, 2, none⟩) hl0).trans x2
            clear hby m6 m7
            go_wp2_with fail
            refine (HSL.out _ GY.out).mono ?_
            rintro e wx ⟨rfl, hbx⟩
            go_wp2_with fail
            go_ret
            exact ⟨rfl, HB2.out.trans ((GY.out.trans (hbx.mono GY.out.size)).mono HB2.out.size)⟩
          exact AllReadyH.nil
        exact AllReadyH.nil
      exact AllReadyH.nil
    refine AllReadyH.cons rfl (fun K hK => ?_) ?_
    · go_simp
      obtain ⟨W44, hW44⟩ : ∃ W, W = W0.alloc (.cells #[.int .i64 0, .int .i64 0, .slice none 0 0] 24) := ⟨_, rfl⟩
      have hc44 : Below W0.heap.size W0 W44 := by rw [hW44]; exact (Below.refl _ _).alloc (Nat.le_refl _) _
      have G44 := Lib.hid (G0.out.trans (hc44.mono G0.out.size))
      have HP7_44 : Hid (Blk W44 W0.heap.size #[.int .i64 0, .int .i64 0, .slice none 0 0] 24) := Lib.hid (by rw [hW44]; exact Blk.new _ _ _)
      have HC7_44 : Hid (w2.heap.size ≤ W0.heap.size) := Lib.hid G0.out.size
      rw [← hW44]
      clear hW44
      refine hK.out _ _ ⟨(G44.out.cell (p := ⟨w.heap.size, 0, none⟩) hl0).trans x0, (G44.out.cell (p := ⟨w.heap.size, 1, none⟩) hl0).trans x1, (G44.out.cell (p := ⟨w.heap.size, 2, none⟩) hl0).trans x2⟩ (fun hHeld44 => ?_)
      clear hK K hc44
      try simp only [Act.put, List.setIfInBounds_toArray, List.set_cons_zero, List.set_cons_succ]
      refine wpAnyH_ready (rs := [2, 6]) (by kernel_rfl) (by simp) ?_
      refine AllReadyH.cons rfl (fun K hK => ?_) ?_
      · go_simp
        go_at_call 27
        refine (KA.out _ G44.out).mono ?_
        rintro e W45 ⟨vv45, rfl, ho45, hc45⟩
        obtain ⟨av45, cv45, rfl, -, -⟩ := ho45.slice
        have G45 := Lib.hid (G44.out.trans (hc45.mono G44.out.size))
        have HP7_45 := Lib.hid (HP7_44.out.below hc45 HP7_44.out.lt)
        have HR2_45 : Hid (StrsBut W45 (.slice av45 L.length cv45) L [W0.heap.size]) := Lib.hid (StrsBut.own ho45 (by intro q hq; simp at hq; have h1 := HP7_44.out.lt; omega))
        clear ho45
        refine hK.out _ _ ⟨(G45.out.cell (p := ⟨w.heap.size, 0, none⟩) hl0).trans x0, (G45.out.cell (p := ⟨w.heap.size, 1, none⟩) hl0).trans x1, (G45.out.cell (p := ⟨w.heap.size, 2, none⟩) hl0).trans x2⟩ (fun hHeld45 => ?_)
        clear hK K hc45
        try simp only [Act.put, List.setIfInBounds_toArray, List.set_cons_zero, List.set_cons_succ]
        refine wpAnyH_ready (rs := [5, 6]) (by kernel_rfl) (by simp) ?_
        refine AllReadyH.cons rfl (fun K hK => ?_) ?_
        · go_simp
          go_at_call 28
          refine (KR.out _ G45.out).mono ?_
          rintro e W46 ⟨vv46, rfl, ho46, hc46⟩
          obtain ⟨av46, cv46, rfl, -, -⟩ := ho46.slice
          have G46 := Lib.hid (G45.out.trans (hc46.mono G45.out.size))
          have HP7_46 := Lib.hid (HP7_45.out.below hc46 HP7_45.out.lt)
          have HR5_46 : Hid (StrsBut W46 (.slice av46 L.length cv46) L [W0.heap.size]) := Lib.hid (StrsBut.own ho46 (by intro q hq; simp at hq; have h1 := HP7_45.out.lt; omega))
          have HR2_46 := Lib.hid (HR2_45.out.below hc46)
          clear ho46
          refine hK.out _ _ ⟨(G46.out.cell (p := ⟨w.heap.size, 0, none⟩) hl0).trans x0, (G46.out.cell (p := ⟨w.heap.size, 1, none⟩) hl0).trans x1, (G46.out.cell (p := ⟨w.heap.size, 2, none⟩) hl0).trans x2⟩ (fun hHeld46 => ?_)
          clear hK K hc46
          try simp only [Act.put, List.setIfInBounds_toArray, List.set_cons_zero, List.set_cons_succ]
          refine wpAnyH_ready (rs := [6]) (by kernel_rfl) (by simp) ?_
          refine AllReadyH.cons rfl (fun K hK => ?_) ?_
          · go_simp
            obtain ⟨W47, hW47⟩ : ∃ W, W = W46.alloc (.cells #[.int .i64 0, .int .i64 0, .slice none 0 0] 24) := ⟨_, rfl⟩
            have hc47 : Below W46.heap.size W46 W47 := by rw [hW47]; exact (Below.refl _ _).alloc (Nat.le_refl _) _
            have G47 := Lib.hid (G46.out.trans (hc47.mono G46.out.size))
            have HP6_47 : Hid (Blk W47 W46.heap.size #[.int .i64 0, .int .i64 0, .slice none 0 0] 24) := Lib.hid (by rw [hW47]; exact Blk.new _ _ _)
            have HC6_47 : Hid (w2.heap.size ≤ W46.heap.size) := Lib.hid G46.out.size
            have HP7_47 := Lib.hid (HP7_46.out.below hc47 HP7_46.out.lt)
            have HNE_47 : Hid (W46.heap.size ≠ W0.heap.size) := Lib.hid (by have := HP7_46.out.lt; omega)
            have HR2_47 : Hid (StrsBut W47 (.slice av45 L.length cv45) L [W46.heap.size, W0.heap.size]) := Lib.hid (by rw [hW47]; exact (HR2_46.out.alloc _).perm (by simp))
            have HR5_47 : Hid (StrsBut W47 (.slice av46 L.length cv46) L [W46.heap.size, W0.heap.size]) := Lib.hid (by rw [hW47]; exact (HR5_46.out.alloc _).perm (by simp))
            rw [← hW47]
            clear hW47
            refine hK.out _ _ ⟨(G47.out.cell (p := ⟨w.heap.size, 0, none⟩) hl0).trans x0, (G47.out.cell (p := ⟨w.heap.size, 1, none⟩) hl0).trans x1, (G47.out.cell (p := ⟨w.heap.size, 2, none⟩) hl0).trans x2⟩ (fun hHeld47 => ?_)
            clear hK K hc47
            try simp only [Act.put, List.setIfInBounds_toArray, List.set_cons_zero, List.set_cons_succ]
            have y0_48 := HP6_47.out.cell
            have y1_48 := HP6_47.out.free
            refine wpAnyH_ready (rs := [8]) (by kernel_rfl) (by simp) ?_
            refine AllReadyH.cons rfl (fun K hK => ?_) AllReadyH.nil
            go_simp
            obtain ⟨W48, hW48⟩ : ∃ W, W = ((W47.setCell ⟨W46.heap.size, 0, none⟩ (.int .i64 a)).setCell ⟨W46.heap.size, 1, none⟩ (.int .i64 t)).setCell ⟨W46.heap.size, 2, none⟩ (.slice av45 L.length cv45) := ⟨_, rfl⟩
            have hs48 : W48 = set3 W47 (W46.heap.size) (.int .i64 a) (.int .i64 t) (.slice av45 L.length cv45) := hW48
            have G48 : Hid (Below w2.heap.size w2 W48) := Lib.hid (by rw [hs48]; exact below_three G47.out HC6_47.out)
            have HP6_48 : Hid (Blk W48 (W46.heap.size) #[.int .i64 a, .int .i64 t, .slice av45 L.length cv45] 24) := Lib.hid (by rw [hs48]; exact HP6_47.out.three _ _ _)
            have HP7_48 := Lib.hid (by rw [hs48]; exact ((HP7_47.out.other (Ne.symm HNE_47.out) 0 _).other (Ne.symm HNE_47.out) 1 _).other (Ne.symm HNE_47.out) 2 _ : Blk W48 (W0.heap.size) _ _)
            have HR2_48 : Hid (StrsBut W48 (.slice av45 L.length cv45) L [W46.heap.size, W0.heap.size]) := Lib.hid (by rw [hs48]; exact (((HR2_47.out.set (by simp) 0 _).set (by simp) 1 _).set (by simp) 2 _))
            have HR5_48 : Hid (StrsBut W48 (.slice av46 L.length cv46) L [W46.heap.size, W0.heap.size]) := Lib.hid (by rw [hs48]; exact (((HR5_47.out.set (by simp) 0 _).set (by simp) 1 _).set (by simp) 2 _))
            rw [← hW48]
            clear hW48 hs48
            clear y0_48 y1_48
            refine hK.out _ _ ⟨(G48.out.cell (p := ⟨w.heap.size, 0, none⟩) hl0).trans x0, (G48.out.cell (p := ⟨w.heap.size, 1, none⟩) hl0).trans x1, (G48.out.cell (p := ⟨w.heap.size, 2, none⟩) hl0).trans x2⟩ (fun hHeld48 => ?_)
            clear hK K
            try simp only [Act.put, List.setIfInBounds_toArray, List.set_cons_zero, List.set_cons_succ]
            have y0_49 := HP7_48.out.cell
            have y1_49 := HP7_48.out.free
            refine wpAnyH_ready (rs := [9]) (by kernel_rfl) (by simp) ?_
            refine AllReadyH.cons rfl (fun K hK => ?_) AllReadyH.nil
            go_simp
            obtain ⟨W49, hW49⟩ : ∃ W, W = ((W48.setCell ⟨W0.heap.size, 0, none⟩ (.int .i64 a)).setCell ⟨W0.heap.size, 1, none⟩ (.int .i64 t)).setCell ⟨W0.heap.size, 2, none⟩ (.slice av46 L.length cv46) := ⟨_, rfl⟩
            have hs49 : W49 = set3 W48 (W0.heap.size) (.int .i64 a) (.int .i64 t) (.slice av46 L.length cv46) := hW49
            have G49 : Hid (Below w2.heap.size w2 W49) := Lib.hid (by rw [hs49]; exact below_three G48.out HC7_44.out)
            have HP7_49 : Hid (Blk W49 (W0.heap.size) #[.int .i64 a, .int .i64 t, .slice av46 L.length cv46] 24) := Lib.hid (by rw [hs49]; exact HP7_48.out.three _ _ _)
            have HP6_49 := Lib.hid (by rw [hs49]; exact ((HP6_48.out.other HNE_47.out 0 _).other HNE_47.out 1 _).other HNE_47.out 2 _ : Blk W49 (W46.heap.size) _ _)
            have HR2_49 : Hid (StrsBut W49 (.slice av45 L.length cv45) L [W46.heap.size, W0.heap.size]) := Lib.hid (by rw [hs49]; exact (((HR2_48.out.set (by simp) 0 _).set (by simp) 1 _).set (by simp) 2 _))
            have HR5_49 : Hid (StrsBut W49 (.slice av46 L.length cv46) L [W46.heap.size, W0.heap.size]) := Lib.hid (by rw [hs49]; exact (((HR5_48.out.set (by simp) 0 _).set (by simp) 1 _).set (by simp) 2 _))
            rw [← hW49]
            clear hW49 hs49
            clear y0_49 y1_49
            refine hK.out _ _ ⟨(G49.out.cell (p := ⟨w.heap.size, 0, none⟩) hl0).trans x0, (G49.out.cell (p := ⟨w.heap.size, 1, none⟩) hl0).trans x1, (G49.out.cell (p := ⟨w.heap.size, 2, none⟩) hl0).trans x2⟩ (fun hHeld49 => ?_)
            clear hK K
            try simp only [Act.put, List.setIfInBounds_toArray, List.set_cons_zero, List.set_cons_succ]
            refine wpAnyH_done (by kernel_rfl) ?_ _
            go_wp2_with fail
            refine (lineAlive _ (HE2.out _ G49.out)).mono ?_
            rintro e wz ⟨rfl, hbz⟩
            have GZ := Lib.hid (G49.out.trans (hbz.mono G49.out.size))
            have m6 := (HP6_49.out.below hbz HP6_49.out.lt).cell
            have m7 := (HP7_49.out.below hbz HP7_49.out.lt).cell
            have HS := Lib.hid (refSame10 a t a t _ _ L L wz (HR2_49.out.strs.below hbz (Nat.le_refl _)) (HR5_49.out.strs.below hbz (Nat.le_refl _)))
            rw [same_self] at HS
            clear hbz
            go_wp2_with fail
            refine HS.out.mono ?_
            rintro e wy ⟨rfl, hby⟩
            have GY := Lib.hid (GZ.out.trans (hby.mono GZ.out.size))
            have q0 := (GY.out.cell (p := ⟨w.heap.size, 0, none⟩) hl0).trans x0
            have q1 := (GY.out.cell (p := ⟨w.heap.size, 1, none⟩) hl0).trans x1
            have q2 := (GY.out.cell (p := ⟨w.heap.size, 2, none⟩) hl0).trans x2
            clear hby m6 m7
            go_wp2_with fail
            refine (HSL.out _ GY.out).mono ?_
            rintro e wx ⟨rfl, hbx⟩
            go_wp2_with fail
            go_ret
            exact ⟨rfl, HB2.out.trans ((GY.out.trans (hbx.mono GY.out.size)).mono HB2.out.size)⟩
          exact AllReadyH.nil
        refine AllReadyH.cons rfl (fun K hK => ?_) ?_
        · go_simp
          obtain ⟨W50, hW50⟩ : ∃ W, W = W45.alloc (.cells #[.int .i64 0, .int .i64 0, .slice none 0 0] 24) := ⟨_, rfl⟩
          have hc50 : Below W45.heap.size W45 W50 := by rw [hW50]; exact (Below.refl _ _).alloc (Nat.le_refl _) _
          have G50 := Lib.hid (G45.out.trans (hc50.mono G45.out.size))
          have HP6_50 : Hid (Blk W50 W45.heap.size #[.int .i64 0, .int .i64 0, .slice none 0 0] 24) := Lib.hid (by rw [hW50]; exact Blk.new _ _ _)
          have HC6_50 : Hid (w2.heap.size ≤ W45.heap.size) := Lib.hid G45.out.size
          have HP7_50 := Lib.hid (HP7_45.out.below hc50 HP7_45.out.lt)
          have HNE_50 : Hid (W45.heap.size ≠ W0.heap.size) := Lib.hid (by have := HP7_45.out.lt; omega)
          have HR2_50 : Hid (StrsBut W50 (.slice av45 L.length cv45) L [W45.heap.size, W0.heap.size]) := Lib.hid (by rw [hW50]; exact (HR2_45.out.alloc _).perm (by simp))
          rw [← hW50]
          clear hW50
          refine hK.out _ _ ⟨(G50.out.cell (p := ⟨w.heap.size, 0, none⟩) hl0).trans x0, (G50.out.cell (p := ⟨w.heap.size, 1, none⟩) hl0).trans x1, (G50.out.cell (p := ⟨w.heap.size, 2, none⟩) hl0).trans x2⟩ (fun hHeld50 => ?_)
          clear hK K hc50
          try simp only [Act.put, List.setIfInBounds_toArray, List.set_cons_zero, List.set_cons_succ]
          refine wpAnyH_ready (rs := [5]) (by kernel_rfl) (by simp) ?_
          refine AllReadyH.cons rfl (fun K hK => ?_) ?_
          · go_simp
            go_at_call 28
            refine (KR.out _ G50.out).mono ?_
            rintro e W51 ⟨vv51, rfl, ho51, hc51⟩
            obtain ⟨av51, cv51, rfl, -, -⟩ := ho51.slice
            have G51 := Lib.hid (G50.out.trans (hc51.mono G50.out.size))
            have HP6_51 := Lib.hid (HP6_50.out.below hc51 HP6_50.out.lt)
            have HP7_51 := Lib.hid (HP7_50.out.below hc51 HP7_50.out.lt)
            have HR5_51 : Hid (StrsBut W51 (.slice av51 L.length cv51) L [W45.heap.size, W0.heap.size]) := Lib.hid (StrsBut.own ho51 (by intro q hq; simp at hq; have h1 := HP6_50.out.lt; have h2 := HP7_50.out.lt; omega))
            have HR2_51 := Lib.hid (HR2_50.out.below hc51)
            clear ho51
            refine hK.out _ _ ⟨(G51.out.cell (p := ⟨w.heap.size, 0, none⟩) hl0).trans x0, (G51.out.cell (p := ⟨w.heap.size, 1, none⟩) hl0).trans x1, (G51.out.cell (p := ⟨w.heap.size, 2, none⟩) hl0).trans x2⟩ (fun hHeld51 => ?_)
            clear hK K hc51
            try simp only [Act.put, List.setIfInBounds_toArray, List.set_cons_zero, List.set_cons_succ]
            have y0_52 := HP6_51.out.cell
            have y1_52 := HP6_51.out.free
            refine wpAnyH_ready (rs := [8]) (by kernel_rfl) (by simp) ?_
            refine AllReadyH.cons rfl (fun K hK => ?_) AllReadyH.nil
            go_simp
            obtain ⟨W52, hW52⟩ : ∃ W, W = ((W51.setCell ⟨W45.heap.size, 0, none⟩ (.int .i64 a)).setCell ⟨W45.heap.size, 1, none⟩ (.int .i64 t)).setCell ⟨W45.heap.size, 2, none⟩ (.slice av45 L.length cv45) := ⟨_, rfl⟩
            have hs52 : W52 = set3 W51 (W45.heap.size) (.int .i64 a) (.int .i64 t) (.slice av45 L.length cv45) := hW52
            have G52 : Hid (Below w2.heap.size w2 W52) := Lib.hid (by rw [hs52]; exact below_three G51.out HC6_50.out)
            have HP6_52 : Hid (Blk W52 (W45.heap.size) #[.int .i64 a, .int .i64 t, .slice av45 L.length cv45] 24) := Lib.hid (by rw [hs52]; exact HP6_51.out.three _ _ _)
            have HP7_52 := Lib.hid (by rw [hs52]; exact ((HP7_51.out.other (Ne.symm HNE_50.out) 0 _).other (Ne.symm HNE_50.out) 1 _).other (Ne.symm HNE_50.out) 2 _ : Blk W52 (W0.heap.size) _ _)
            have HR2_52 : Hid (StrsBut W52 (.slice av45 L.length cv45) L [W45.heap.size, W0.heap.size]) := Lib.hid (by rw [hs52]; exact (((HR2_51.out.set (by simp) 0 _).set (by simp) 1 _).set (by simp) 2 _))
            have HR5_52 : Hid (StrsBut W52 (.slice av51 L.length cv51) L [W45.heap.size, W0.heap.size]) := Lib.hid (by rw [hs52]; exact (((HR5_51.out.set (by simp) 0 _).set (by simp) 1 _).set (by simp) 2 _))
            rw [← hW52]
            clear hW52 hs52
            clear y0_52 y1_52
            refine hK.out _ _ ⟨(G52.out.cell (p := ⟨w.heap.size, 0, none⟩) hl0).trans x0, (G52.out.cell (p := ⟨w.heap.size, 1, none⟩) hl0).trans x1, (G52.out.cell (p := ⟨w.heap.size, 2, none⟩) hl0).trans x2⟩ (fun hHeld52 => ?_)
            clear hK K
            try simp only [Act.put, List.setIfInBounds_toArray, List.set_cons_zero, List.set_cons_succ]
            have y0_53 := HP7_52.out.cell
            have y1_53 := HP7_52.out.free
            refine wpAnyH_ready (rs := [9]) (by kernel_rfl) (by simp) ?_
            refine AllReadyH.cons rfl (fun K hK => ?_) AllReadyH.nil
            go_simp
            obtain ⟨W53, hW53⟩ : ∃ W, W = ((W52.setCell ⟨W0.heap.size, 0, none⟩ (.int .i64 a)).setCell ⟨W0.heap.size, 1, none⟩ (.int .i64 t)).setCell ⟨W0.heap.size, 2, none⟩ (.slice av51 L.length cv51) := ⟨_, rfl⟩
            have hs53 : W53 = set3 W52 (W0.heap.size) (.int .i64 a) (.int .i64 t) (.slice av51 L.length cv51) := hW53
            have G53 : Hid (Below w2.heap.size w2 W53) := Lib.hid (by rw [hs53]; exact below_three G52.out HC7_44.out)
            have HP7_53 : Hid (Blk W53 (W0.heap.size) #[.int .i64 a, .int .i64 t, .slice av51 L.length cv51] 24) := Lib.hid (by rw [hs53]; exact HP7_52.out.three _ _ _)
            have HP6_53 := Lib.hid (by rw [hs53]; exact ((HP6_52.out.other HNE_50.out 0 _).other HNE_50.out 1 _).other HNE_50.out 2 _ : Blk W53 (W45.heap.size) _ _)
            have HR2_53 : Hid (StrsBut W53 (.slice av45 L.length cv45) L [W45.heap.size, W0.heap.size]) := Lib.hid (by rw [hs53]; exact (((HR2_52.out.set (by simp) 0 _).set (by simp) 1 _).set (by simp) 2 _))
            have HR5_53 : Hid (StrsBut W53 (.slice av51 L.length cv51) L [W45.heap.size, W0.heap.size]) := Lib.hid (by rw [hs53]; exact (((HR5_52.out.set (by simp) 0 _).set (by simp) 1 _).set (by simp) 2 _))
            rw [← hW53]
            clear hW53 hs53
            clear y0_53 y1_53
            refine hK.out _ _ ⟨(G53.out.cell (p := ⟨w.heap.size, 0, none⟩) hl0).trans x0, (G53.out.cell (p := ⟨w.heap.size, 1, none⟩) hl0).trans x1, (G53.out.cell (p := ⟨w.heap.size, 2, none⟩) hl0).trans x2⟩ (fun hHeld53 => ?_)
            clear hK K
            try simp only [Act.put, List.setIfInBounds_toArray, List.set_cons_zero, List.set_cons_succ]
            refine wpAnyH_done (by kernel_rfl) ?_ _
            go_wp2_with fail
            refine (lineAlive _ (HE2.out _ G53.out)).mono ?_
            rintro e wz ⟨rfl, hbz⟩
            have GZ := Lib.hid (G53.out.trans (hbz.mono G53.out.size))
            have m6 := (HP6_53.out.below hbz HP6_53.out.lt).cell
            have m7 := (HP7_53.out.below hbz HP7_53.out.lt).cell
            have HS := Lib.hid (refSame10 a t a t _ _ L L wz (HR2_53.out.strs.below hbz (Nat.le_refl _)) (HR5_53.out.strs.below hbz (Nat.le_refl _)))
            rw [same_self] at HS
            clear hbz
            go_wp2_with fail
            refine HS.out.mono ?_
            rintro e wy ⟨rfl, hby⟩
            have GY := Lib.hid (GZ.out.trans (hby.mono GZ.out.size))
            have q0 := (GY.out.cell (p := ⟨w.heap.size, 0, none⟩) hl0).trans x0
            have q1 := (GY.out.cell (p := ⟨w.heap.size, 1, none⟩) hl0).trans x1
            have q2 := (GY.out.cell (p := ⟨w.heap.size, 2, none⟩) hl0).trans x2
            clear hby m6 m7
            go_wp2_with fail
            refine (HSL.out _ GY.out).mono ?_
            rintro e wx ⟨rfl, hbx⟩
            go_wp2_with fail
            go_ret
            exact ⟨rfl, HB2.out.trans ((GY.out.trans (hbx.mono GY.out.size)).mono HB2.out.size)⟩
          exact AllReadyH.nil
        exact AllReadyH.nil
      refine AllReadyH.cons rfl (fun K hK => ?_) ?_
      · go_simp
        obtain ⟨W54, hW54⟩ : ∃ W, W = W44.alloc (.cells #[.int .i64 0, .int .i64 0, .slice none 0 0] 24) := ⟨_, rfl⟩
        have hc54 : Below W44.heap.size W44 W54 := by rw [hW54]; exact (Below.refl _ _).alloc (Nat.le_refl _) _
        have G54 := Lib.hid (G44.out.trans (hc54.mono G44.out.size))
        have HP6_54 : Hid (Blk W54 W44.heap.size #[.int .i64 0, .int .i64 0, .slice none 0 0] 24) := Lib.hid (by rw [hW54]; exact Blk.new _ _ _)
        have HC6_54 : Hid (w2.heap.size ≤ W44.heap.size) := Lib.hid G44.out.size
        have HP7_54 := Lib.hid (HP7_44.out.below hc54 HP7_44.out.lt)
        have HNE_54 : Hid (W44.heap.size ≠ W0.heap.size) := Lib.hid (by have := HP7_44.out.lt; omega)
        rw [← hW54]
        clear hW54
        refine hK.out _ _ ⟨(G54.out.cell (p := ⟨w.heap.size, 0, none⟩) hl0).trans x0, (G54.out.cell (p := ⟨w.heap.size, 1, none⟩) hl0).trans x1, (G54.out.cell (p := ⟨w.heap.size, 2, none⟩) hl0).trans x2⟩ (fun hHeld54 => ?_)
        clear hK K hc54
        try simp only [Act.put, List.setIfInBounds_toArray, List.set_cons_zero, List.set_cons_succ]
        refine wpAnyH_ready (rs := [2]) (by kernel_rfl) (by simp) ?_
        refine AllReadyH.cons rfl (fun K hK => ?_) ?_
        · go_simp
          go_at_call 27
          refine (KA.out _ G54.out).mono ?_
          rintro e W55 ⟨vv55, rfl, ho55, hc55⟩
          obtain ⟨av55, cv55, rfl, -, -⟩ := ho55.slice
          have G55 := Lib.hid (G54.out.trans (hc55.mono G54.out.size))
          have HP6_55 := Lib.hid (HP6_54.out.below hc55 HP6_54.out.lt)
          have HP7_55 := Lib.hid (HP7_54.out.below hc55 HP7_54.out.lt)
          have HR2_55 : Hid (StrsBut W55 (.slice av55 L.length cv55) L [W44.heap.size, W0.heap.size]) := Lib.hid (StrsBut.own ho55 (by intro q hq; simp at hq; have h1 := HP6_54.out.lt; have h2 := HP7_54.out.lt; omega))
          clear ho55
          refine hK.out _ _ ⟨(G55.out.cell (p := ⟨w.heap.size, 0, none⟩) hl0).trans x0, (G55.out.cell (p := ⟨w.heap.size, 1, none⟩) hl0).trans x1, (G55.out.cell (p := ⟨w.heap.size, 2, none⟩) hl0).trans x2⟩ (fun hHeld55 => ?_)
          clear hK K hc55
          try simp only [Act.put, List.setIfInBounds_toArray, List.set_cons_zero, List.set_cons_succ]
          refine wpAnyH_ready (rs := [5]) (by kernel_rfl) (by simp) ?_
          refine AllReadyH.cons rfl (fun K hK => ?_) ?_
          · go_simp
            go_at_call 28
            refine (KR.out _ G55.out).mono ?_
            rintro e W56 ⟨vv56, rfl, ho56, hc56⟩
            obtain ⟨av56, cv56, rfl, -, -⟩ := ho56.slice
            have G56 := Lib.hid (G55.out.trans (hc56.mono G55.out.size))
            have HP6_56 := Lib.hid (HP6_55.out.below hc56 HP6_55.out.lt)
            have HP7_56 := Lib.hid (HP7_55.out.below hc56 HP7_55.out.lt)
            have HR5_56 : Hid (StrsBut W56 (.slice av56 L.length cv56) L [W44.heap.size, W0.heap.size]) := Lib.hid (StrsBut.own ho56 (by intro q hq; simp at hq; have h1 := HP6_55.out.lt; have h2 := HP7_55.out.lt; omega))
            have HR2_56 := Lib.hid (HR2_55.out.below hc56)
            clear ho56
            refine hK.out _ _ ⟨(G56.out.cell (p := ⟨w.heap.size, 0, none⟩) hl0).trans x0, (G56.out.cell (p := ⟨w.heap.size, 1, none⟩) hl0).trans x1, (G56.out.cell (p := ⟨w.heap.size, 2, none⟩) hl0).trans x2⟩ (fun hHeld56 => ?_)
            clear hK K hc56
            try simp only [Act.put, List.setIfInBounds_toArray, List.set_cons_zero, List.set_cons_succ]
            have y0_57 := HP6_56.out.cell
            have y1_57 := HP6_56.out.free
            refine wpAnyH_ready (rs := [8]) (by kernel_rfl) (by simp) ?_
            refine AllReadyH.cons rfl (fun K hK => ?_) AllReadyH.nil
            go_simp
            obtain ⟨W57, hW57⟩ : ∃ W, W = ((W56.setCell ⟨W44.heap.size, 0, none⟩ (.int .i64 a)).setCell ⟨W44.heap.size, 1, none⟩ (.int .i64 t)).setCell ⟨W44.heap.size, 2, none⟩ (.slice av55 L.length cv55) := ⟨_, rfl⟩
            have hs57 : W57 = set3 W56 (W44.heap.size) (.int .i64 a) (.int .i64 t) (.slice av55 L.length cv55) := hW57
            have G57 : Hid (Below w2.heap.size w2 W57) := Lib.hid (by rw [hs57]; exact below_three G56.out HC6_54.out)
            have HP6_57 : Hid (Blk W57 (W44.heap.size) #[.int .i64 a, .int .i64 t, .slice av55 L.length cv55] 24) := Lib.hid (by rw [hs57]; exact HP6_56.out.three _ _ _)
            have HP7_57 := Lib.hid (by rw [hs57]; exact ((HP7_56.out.other (Ne.symm HNE_54.out) 0 _).other (Ne.symm HNE_54.out) 1 _).other (Ne.symm HNE_54.out) 2 _ : Blk W57 (W0.heap.size) _ _)
            have HR2_57 : Hid (StrsBut W57 (.slice av55 L.length cv55) L [W44.heap.size, W0.heap.size]) := Lib.hid (by rw [hs57]; exact (((HR2_56.out.set (by simp) 0 _).set (by simp) 1 _).set (by simp) 2 _))
            have HR5_57 : Hid (StrsBut W57 (.slice av56 L.length cv56) L [W44.heap.size, W0.heap.size]) := Lib.hid (by rw [hs57]; exact (((HR5_56.out.set (by simp) 0 _).set (by simp) 1 _).set (by simp) 2 _))
            rw [← hW57]
            clear hW57 hs57
            clear y0_57 y1_57
            refine hK.out _ _ ⟨(G57.out.cell (p := ⟨w.heap.size, 0, none⟩) hl0).trans x0, (G57.out.cell (p := ⟨w.heap.size, 1, none⟩) hl0).trans x1, (G57.out.cell (p := ⟨w.heap.size, 2, none⟩) hl0).trans x2⟩ (fun hHeld57 => ?_)
            clear hK K
            try simp only [Act.put, List.setIfInBounds_toArray, List.set_cons_zero, List.set_cons_succ]
            have y0_58 := HP7_57.out.cell
            have y1_58 := HP7_57.out.free
            refine wpAnyH_ready (rs := [9]) (by kernel_rfl) (by simp) ?_
            refine AllReadyH.cons rfl (fun K hK => ?_) AllReadyH.nil
            go_simp
            obtain ⟨W58, hW58⟩ : ∃ W, W = ((W57.setCell ⟨W0.heap.size, 0, none⟩ (.int .i64 a)).setCell ⟨W0.heap.size, 1, none⟩ (.int .i64 t)).setCell ⟨W0.heap.size, 2, none⟩ (.slice av56 L.length cv56) := ⟨_, rfl⟩
            have hs58 : W58 = set3 W57 (W0.heap.size) (.int .i64 a) (.int .i64 t) (.slice av56 L.length cv56) := hW58
            have G58 : Hid (Below w2.heap.size w2 W58) := Lib.hid (by rw [hs58]; exact below_three G57.out HC7_44.out)
            have HP7_58 : Hid (Blk W58 (W0.heap.size) #[.int .i64 a, .int .i64 t, .slice av56 L.length cv56] 24) := Lib.hid (by rw [hs58]; exact HP7_57.out.three _ _ _)
            have HP6_58 := Lib.hid (by rw [hs58]; exact ((HP6_57.out.other HNE_54.out 0 _).other HNE_54.out 1 _).other HNE_54.out 2 _ : Blk W58 (W44.heap.size) _ _)
            have HR2_58 : Hid (StrsBut W58 (.slice av55 L.length cv55) L [W44.heap.size, W0.heap.size]) := Lib.hid (by rw [hs58]; exact (((HR2_57.out.set (by simp) 0 _).set (by simp) 1 _).set (by simp) 2 _))
            have HR5_58 : Hid (StrsBut W58 (.slice av56 L.length cv56) L [W44.heap.size, W0.heap.size]) := Lib.hid (by rw [hs58]; exact (((HR5_57.out.set (by simp) 0 _).set (by simp) 1 _).set (by simp) 2 _))
            rw [← hW58]
            clear hW58 hs58
            clear y0_58 y1_58
            refine hK.out _ _ ⟨(G58.out.cell (p := ⟨w.heap.size, 0, none⟩) hl0).trans x0, (G58.out.cell (p := ⟨w.heap.size, 1, none⟩) hl0).trans x1, (G58.out.cell (p := ⟨w.heap.size, 2, none⟩) hl0).trans x2⟩ (fun hHeld58 => ?_)
            clear hK K
            try simp only [Act.put, List.setIfInBounds_toArray, List.set_cons_zero, List.set_cons_succ]
            refine wpAnyH_done (by kernel_rfl) ?_ _
            go_wp2_with fail
            refine (lineAlive _ (HE2.out _ G58.out)).mono ?_
            rintro e wz ⟨rfl, hbz⟩
            have GZ := Lib.hid (G58.out.trans (hbz.mono G58.out.size))
            have m6 := (HP6_58.out.below hbz HP6_58.out.lt).cell
            have m7 := (HP7_58.out.below hbz HP7_58.out.lt).cell
            have HS := Lib.hid (refSame10 a t a t _ _ L L wz (HR2_58.out.strs.below hbz (Nat.le_refl _)) (HR5_58.out.strs.below hbz (Nat.le_refl _)))
            rw [same_self] at HS
            clear hbz
            go_wp2_with fail
            refine HS.out.mono ?_
            rintro e wy ⟨rfl, hby⟩
            have GY := Lib.hid (GZ.out.trans (hby.mono GZ.out.size))
            have q0 := (GY.out.cell (p := ⟨w.heap.size, 0, none⟩) hl0).trans x0
            have q1 := (GY.out.cell (p := ⟨w.heap.size, 1, none⟩) hl0).trans x1
            have q2 := (GY.out.cell (p := ⟨w.heap.size, 2, none⟩) hl0).trans x2
            clear hby m6 m7
            go_wp2_with fail
            refine (HSL.out _ GY.out).mono ?_
            rintro e wx ⟨rfl, hbx⟩
            go_wp2_with fail
            go_ret
            exact ⟨rfl, HB2.out.trans ((GY.out.trans (hbx.mono GY.out.size)).mono HB2.out.size)⟩
          exact AllReadyH.nil
        exact AllReadyH.nil
      exact AllReadyH.nil
    exact AllReadyH.nil
  · rw [hf1] at HF1
    clear hf1
    go_enter Tryd.func6, Tryd.ntmps6
    go_wp2_with fail
    rw [← hw0]
    clear hw0
    refine HF1.out.mono ?_
    rintro e w1 ⟨rfl, hb1⟩
    have B1 := Lib.hid hb1
    clear hb1
    go_wp2_with fail
    refine (lineAlive _ (HE.out _ B1.out)).mono ?_
    rintro e w3 ⟨rfl, hb3⟩
    go_wp2_with fail
    go_ret
    exact ⟨rfl, HB0.out.trans ((B1.out.trans (hb3.mono B1.out.size)).mono HB0.out.size)⟩
end Go.Proofs.YtbichcmpggbfnaaDoor
