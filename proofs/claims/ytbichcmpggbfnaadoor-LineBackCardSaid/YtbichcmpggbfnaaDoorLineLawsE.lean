/-
  THE LAWS OF LAYER 10: Parse inverts Text. By an AI agent.
-/
import Derived.Test.YtbichcmpggbfnaaDoorLineIn
namespace Go.Proofs.YtbichcmpggbfnaaDoor
open Go.RowKit
open Wd (Bs)

theorem text_short (l : Ln.Line) : (Ln.textL l).length ≤ 3000 := by
  rcases Ln.valid_cases l with ⟨s, n, -, -, -, -, -, hval, hvb⟩ | ⟨-, hvb⟩
  · rw [Ln.textL_valid hvb]; exact (parts_short hval).2
  · rw [Ln.textL_bad hvb]; simp
theorem fine_valid {l : Ln.Line} (h : Ln.validB l = true) : Fine l.subs := fun x hx => by
  have h1 := (Ln.name_p (Ln.isSub_name ((Ln.validB_iff.1 h).2.2.2.2.1 x hx)).1).2.1
  unfold maxLen
  omega
theorem types_valid {l : Ln.Line} (h : Ln.validB l = true) : l.types ≤ 9223372036854775807 := by
  have := fit_range (Ln.validB_iff.1 h).2.2.1
  omega
/-- Parse where there is no line -/
theorem parseNone (s : ByteArray) (h : Ln.parseO s.data.toList = none) (hs : s.size ≤ 140737488355328) (W : World) (hE : Env W) :
    Calls Tryd.prog 19 #[.string s] W fun e w' => ∃ v, e = .returned (.tuple #[.agg #[.int .i64 0, .int .i64 0, v], .int .i64 3]) ∧ Strs w' v [] ∧ Below W.heap.size W w' := by
  have h1 := lineParse s W hE hs
  unfold ParseRes at h1
  rw [(Ln.parse_none h).1, (Ln.parse_none h).2] at h1
  exact h1
theorem parseSome (s : ByteArray) (l : Ln.Line) (h : Ln.parseO s.data.toList = some l) (hs : s.size ≤ 140737488355328) (W : World) (hE : Env W) :
    Calls Tryd.prog 19 #[.string s] W fun e w' => ∃ v, e = .returned (.tuple #[.agg #[.int .i64 l.super, .int .i64 l.types, v], .int .i64 0]) ∧ Strs w' v l.subs ∧ Below W.heap.size W w' := by
  have h1 := lineParse s W hE hs
  unfold ParseRes at h1
  rw [(Ln.parse_some h).1, (Ln.parse_some h).2] at h1
  exact h1
set_option maxHeartbeats 4000000 in
set_option maxRecDepth 100000 in
theorem lawLineBack (a t : Int) (v : Value) (l : List Bs) (s : ByteArray) (w : World) (h1 : LineIn w v l) (hi : t ≤ 9223372036854775807) (hE : Env w) :
    Calls Tryd.prog 7 #[.agg #[.int .i64 a, .int .i64 t, v], .string s] w fun e w' => e = .returned (.bool true) ∧ Below w.heap.size w w' := by
  obtain ⟨w0, hw0⟩ : ∃ w0, w0 = w.alloc (.cells #[.int .i64 a, .int .i64 t, v] 24) := ⟨_, rfl⟩
  have hb0 : Below w.heap.size w w0 := by rw [hw0]; exact (Below.refl _ _).alloc (Nat.le_refl _) _
  have hz0 : Blk w0 w.heap.size #[.int .i64 a, .int .i64 t, v] 24 := by rw [hw0]; exact Blk.new _ _ _
  have HB0 := Lib.hid hb0
  have HZ0 := Lib.hid hz0
  have HE := Lib.hid (fun (W : World) (h : Below w0.heap.size w0 W) => (hE.below hb0).below h)
  have H1 := Lib.hid (fun (W : World) (h : Below w0.heap.size w0 W) => (h1.below hb0 (Nat.le_refl _)).below h (Nat.le_refl _))
  have HF1 := Lib.hid (lawFew a t v l w0 (h1.below hb0 (Nat.le_refl _)).strs)
  have K1 := Lib.hid (fun W (h : Below w0.heap.size w0 W) => lineText a t v l W (HE.out W h) (H1.out W h).strs h1.fine hi)
  have K2 := Lib.hid (fun W (h : Below w0.heap.size w0 W) => lineIs a t v l W (HE.out W h) (H1.out W h).strs h1.fine hi)
  obtain ⟨tx, htx, ex⟩ := exists_bytes (Ln.textL ⟨a, t, l⟩)
  rw [ex] at K1
  have htl : tx.size ≤ 3000 := by rw [← bytes_len tx, htx]; exact text_short _
  have GE := Lib.hid (fun W hE => parseNone (tx ++ ⟨#[32]⟩) (by rw [bytes_cat]; exact Ln.parse_blank_end _) (by rw [ByteArray.size_append]; have : (⟨#[32]⟩ : ByteArray).size = 1 := rfl; omega) W hE)
  have GH := Lib.hid (fun W hE => parseNone (⟨#[32]⟩ ++ tx) (by rw [bytes_cat]; exact Ln.parse_blank_head _) (by rw [ByteArray.size_append]; have : (⟨#[32]⟩ : ByteArray).size = 1 := rfl; omega) W hE)
  obtain ⟨ad, c, rfl, -, hcm, -⟩ := id h1.strs
  unfold maxLen at hcm
  have hl1 : w.heap.size < w0.heap.size := hz0.lt
  have HSM : Hid (∀ W v', Below w0.heap.size w0 W → Strs W v' l → Calls Tryd.prog 15 #[.agg #[.int .i64 a, .int .i64 t, v'], .agg #[.int .i64 a, .int .i64 t, .slice ad l.length c]] W fun e w' => e = .returned (.bool true) ∧ Below W.heap.size W w') := Lib.hid (fun W v' hb hv' => by
    have := lineSame a t a t v' (.slice ad l.length c) l l W hv' (H1.out W hb).strs
    rwa [show sameB ⟨a, t, l⟩ ⟨a, t, l⟩ = true by unfold sameB; simp] at this)
  clear hb0 hz0 hE h1 ex
  rcases few_cases l with ⟨hf1, -⟩ | hf1
  · rw [hf1] at HF1
    clear hf1
    by_cases hbig : 300 < s.size
    · clear htl GE GH HSM
      go_enter Tryd.func7, Tryd.ntmps7
      go_wp2_with fail
      rw [← hw0]
      clear hw0
      refine HF1.out.mono ?_
      rintro e w1 ⟨rfl, hb1⟩
      have B1 := Lib.hid hb1
      clear hb1
      go_wp2_with fail
      refine (lineAlive _ (HE.out _ B1.out)).mono ?_
      rintro e w3 ⟨rfl, hb3⟩
      go_wp2_with fail
      go_ret
      exact ⟨rfl, HB0.out.trans ((B1.out.trans (hb3.mono B1.out.size)).mono HB0.out.size)⟩
    · have hsz : (s.size : Int) ≤ 300 := by omega
      have hps : (Ln.parseO s.data.toList = none) ∨ ∃ m, Ln.parseO s.data.toList = some m ∧ Ln.validB m = true ∧ Ln.textL m = s.data.toList := by
        rcases Ln.parse_cases s.data.toList with ⟨h, -⟩ | ⟨m, h, -, -, h2, h3⟩
        · exact .inl h
        · exact .inr ⟨m, h, h2, h3⟩
      have h300 : s.size ≤ 140737488355328 := by omega
      clear hbig
      cases hvb : Ln.validB ⟨a, t, l⟩ with
      | true =>
        rw [hvb] at K2
        have GT := Lib.hid (fun W hE => parseSome tx ⟨a, t, l⟩ (by rw [htx]; exact Ln.parse_text hvb) (by omega) W hE)
        have hne : (!tx.toList.isEmpty) = true := bytes_some (fun e => Ln.textL_ne hvb (by rw [← htx, e]))
        clear hvb htx
        rcases hps with hn | ⟨m, hm, hm2, hm3⟩
        · have GS := Lib.hid (fun W hE => parseNone s hn h300 W hE)
          clear hn
          go_enter Tryd.func7, Tryd.ntmps7
          go_wp2_with fail
          rw [← hw0]
          clear hw0
          refine HF1.out.mono ?_
          rintro e w1 ⟨rfl, hb1⟩
          have B1 := Lib.hid hb1
          have z1 := (HZ0.out.below hb1 hl1).cell
          clear hb1
          go_wp2_with fail
          refine (K1.out _ B1.out).mono ?_
          rintro e w2 ⟨rfl, hb2⟩
          have B2 := Lib.hid (B1.out.trans (hb2.mono B1.out.size))
          clear hb2 z1
          go_wp2_with fail
          refine (GT.out _ (HE.out _ B2.out)).mono ?_
          rintro e wN3 ⟨vN3, rfl, hvN3, hbN3⟩
          obtain ⟨adN3, cN3, rfl, -, hcM3, -⟩ := id hvN3
          unfold maxLen at hcM3
          have BN3 := Lib.hid (B2.out.trans (hbN3.mono B2.out.size))
          obtain ⟨wM3, hwM3⟩ : ∃ wM, wM = wN3.alloc (.cells #[.int .i64 a, .int .i64 t, .slice adN3 l.length cN3] 24) := ⟨_, rfl⟩
          have hbM3 : Below wN3.heap.size wN3 wM3 := by rw [hwM3]; exact (Below.refl _ _).alloc (Nat.le_refl _) _
          have BM3 := Lib.hid (BN3.out.trans (hbM3.mono BN3.out.size))
          have hmM3 : Blk wM3 wN3.heap.size #[.int .i64 a, .int .i64 t, .slice adN3 l.length cN3] 24 := by rw [hwM3]; exact Blk.new _ _ _
          have HMM3 := Lib.hid hmM3
          have HVM3 := Lib.hid (hvN3.below hbM3 (Nat.le_refl _))
          clear hmM3
          have z3 := (HZ0.out.below BM3.out hl1).cell
          rw [hwM3] at z3
          clear hbN3 hbM3 hvN3
          go_wp2_with fail
          try rw [← hwM3]
          clear hwM3
          refine (K2.out _ BM3.out).mono ?_
          rintro e wI1 ⟨rfl, hbI1⟩
          have BI1 := Lib.hid (BM3.out.trans (hbI1.mono BM3.out.size))
          have zI1 := (HZ0.out.below BI1.out hl1).cell
          have HM1 := Lib.hid (HMM3.out.below hbI1 HMM3.out.lt)
          have HV1 := Lib.hid (HVM3.out.below hbI1 (Nat.le_refl _))
          clear hbI1 z3
          go_wp2_with fail
          refine (K2.out _ BI1.out).mono ?_
          rintro e wI2 ⟨rfl, hbI2⟩
          have BI2 := Lib.hid (BI1.out.trans (hbI2.mono BI1.out.size))
          have zI2 := (HZ0.out.below BI2.out hl1).cell
          have HM2 := Lib.hid (HM1.out.below hbI2 HM1.out.lt)
          have HV2 := Lib.hid (HV1.out.below hbI2 (Nat.le_refl _))
          clear hbI2 zI1
          go_wp2_with fail
          refine (K2.out _ BI2.out).mono ?_
          rintro e wI3 ⟨rfl, hbI3⟩
          have BI3 := Lib.hid (BI2.out.trans (hbI3.mono BI2.out.size))
          have zI3 := (HZ0.out.below BI3.out hl1).cell
          have HM3 := Lib.hid (HM2.out.below hbI3 HM2.out.lt)
          have HV3 := Lib.hid (HV2.out.below hbI3 (Nat.le_refl _))
          have mI3 := HM3.out.cell
          clear hbI3 zI2
          go_wp2_with fail
          refine (HSM.out _ _ BI3.out HV3.out).mono ?_
          rintro e w4 ⟨rfl, hb4⟩
          have B4 := Lib.hid (BI3.out.trans (hb4.mono BI3.out.size))
          clear hb4 zI3 mI3
          go_wp2_with fail
          refine (GE.out _ (HE.out _ B4.out)).mono ?_
          rintro e wN5 ⟨vN5, rfl, hvN5, hbN5⟩
          obtain ⟨adN5, cN5, rfl, -, hcM5, -⟩ := id hvN5
          unfold maxLen at hcM5
          have BN5 := Lib.hid (B4.out.trans (hbN5.mono B4.out.size))
          obtain ⟨wM5, hwM5⟩ : ∃ wM, wM = wN5.alloc (.cells #[.int .i64 0, .int .i64 0, .slice adN5 0 cN5] 24) := ⟨_, rfl⟩
          have hbM5 : Below wN5.heap.size wN5 wM5 := by rw [hwM5]; exact (Below.refl _ _).alloc (Nat.le_refl _) _
          have BM5 := Lib.hid (BN5.out.trans (hbM5.mono BN5.out.size))
          clear hbN5 hbM5 hvN5
          go_wp2_with fail
          try rw [← hwM5]
          clear hwM5
          refine (GH.out _ (HE.out _ BM5.out)).mono ?_
          rintro e wN6 ⟨vN6, rfl, hvN6, hbN6⟩
          obtain ⟨adN6, cN6, rfl, -, hcM6, -⟩ := id hvN6
          unfold maxLen at hcM6
          have BN6 := Lib.hid (BM5.out.trans (hbN6.mono BM5.out.size))
          obtain ⟨wM6, hwM6⟩ : ∃ wM, wM = wN6.alloc (.cells #[.int .i64 0, .int .i64 0, .slice adN6 0 cN6] 24) := ⟨_, rfl⟩
          have hbM6 : Below wN6.heap.size wN6 wM6 := by rw [hwM6]; exact (Below.refl _ _).alloc (Nat.le_refl _) _
          have BM6 := Lib.hid (BN6.out.trans (hbM6.mono BN6.out.size))
          clear hbN6 hbM6 hvN6
          go_wp2_with fail
          try rw [← hwM6]
          clear hwM6
          refine (GS.out _ (HE.out _ BM6.out)).mono ?_
          rintro e wN7 ⟨vN7, rfl, hvN7, hbN7⟩
          obtain ⟨adN7, cN7, rfl, -, hcM7, -⟩ := id hvN7
          unfold maxLen at hcM7
          have BN7 := Lib.hid (BM6.out.trans (hbN7.mono BM6.out.size))
          obtain ⟨wM7, hwM7⟩ : ∃ wM, wM = wN7.alloc (.cells #[.int .i64 0, .int .i64 0, .slice adN7 0 cN7] 24) := ⟨_, rfl⟩
          have hbM7 : Below wN7.heap.size wN7 wM7 := by rw [hwM7]; exact (Below.refl _ _).alloc (Nat.le_refl _) _
          have BM7 := Lib.hid (BN7.out.trans (hbM7.mono BN7.out.size))
          clear hbN7 hbM7 hvN7
          go_wp2_with fail
          try rw [← hwM7]
          clear hwM7
          refine (lineAlive _ (HE.out _ BM7.out)).mono ?_
          rintro e w9 ⟨rfl, hb9⟩
          go_wp2_with fail
          go_ret
          exact ⟨rfl, HB0.out.trans ((BM7.out.trans (hb9.mono BM7.out.size)).mono HB0.out.size)⟩
        · have GS := Lib.hid (fun W hE => parseSome s m hm h300 W hE)
          have HSI := Lib.hid (fun W v' hE hv' => (by have h := lineIs m.super m.types v' m.subs W hE hv' (fine_valid hm2) (types_valid hm2); rw [show (⟨m.super, m.types, m.subs⟩ : Ln.Line) = m from rfl, hm2] at h; exact h : Calls Tryd.prog 11 #[.agg #[.int .i64 m.super, .int .i64 m.types, v']] W fun e w' => e = .returned (.bool true) ∧ Below W.heap.size W w'))
          have HST := Lib.hid (fun W v' hE hv' => (by have h := lineText m.super m.types v' m.subs W hE hv' (fine_valid hm2) (types_valid hm2); rw [show (⟨m.super, m.types, m.subs⟩ : Ln.Line) = m from rfl, hm3, show str s.data.toList = .string s from rfl] at h; exact h : Calls Tryd.prog 21 #[.agg #[.int .i64 m.super, .int .i64 m.types, v']] W fun e w' => e = .returned (.string s) ∧ Below W.heap.size W w'))
          clear hm hm2 hm3
          go_enter Tryd.func7, Tryd.ntmps7
          go_wp2_with fail
          rw [← hw0]
          clear hw0
          refine HF1.out.mono ?_
          rintro e w1 ⟨rfl, hb1⟩
          have B1 := Lib.hid hb1
          have z1 := (HZ0.out.below hb1 hl1).cell
          clear hb1
          go_wp2_with fail
          refine (K1.out _ B1.out).mono ?_
          rintro e w2 ⟨rfl, hb2⟩
          have B2 := Lib.hid (B1.out.trans (hb2.mono B1.out.size))
          clear hb2 z1
          go_wp2_with fail
          refine (GT.out _ (HE.out _ B2.out)).mono ?_
          rintro e wN3 ⟨vN3, rfl, hvN3, hbN3⟩
          obtain ⟨adN3, cN3, rfl, -, hcM3, -⟩ := id hvN3
          unfold maxLen at hcM3
          have BN3 := Lib.hid (B2.out.trans (hbN3.mono B2.out.size))
          obtain ⟨wM3, hwM3⟩ : ∃ wM, wM = wN3.alloc (.cells #[.int .i64 a, .int .i64 t, .slice adN3 l.length cN3] 24) := ⟨_, rfl⟩
          have hbM3 : Below wN3.heap.size wN3 wM3 := by rw [hwM3]; exact (Below.refl _ _).alloc (Nat.le_refl _) _
          have BM3 := Lib.hid (BN3.out.trans (hbM3.mono BN3.out.size))
          have hmM3 : Blk wM3 wN3.heap.size #[.int .i64 a, .int .i64 t, .slice adN3 l.length cN3] 24 := by rw [hwM3]; exact Blk.new _ _ _
          have HMM3 := Lib.hid hmM3
          have HVM3 := Lib.hid (hvN3.below hbM3 (Nat.le_refl _))
          clear hmM3
          have z3 := (HZ0.out.below BM3.out hl1).cell
          rw [hwM3] at z3
          clear hbN3 hbM3 hvN3
          go_wp2_with fail
          try rw [← hwM3]
          clear hwM3
          refine (K2.out _ BM3.out).mono ?_
          rintro e wI1 ⟨rfl, hbI1⟩
          have BI1 := Lib.hid (BM3.out.trans (hbI1.mono BM3.out.size))
          have zI1 := (HZ0.out.below BI1.out hl1).cell
          have HM1 := Lib.hid (HMM3.out.below hbI1 HMM3.out.lt)
          have HV1 := Lib.hid (HVM3.out.below hbI1 (Nat.le_refl _))
          clear hbI1 z3
          go_wp2_with fail
          refine (K2.out _ BI1.out).mono ?_
          rintro e wI2 ⟨rfl, hbI2⟩
          have BI2 := Lib.hid (BI1.out.trans (hbI2.mono BI1.out.size))
          have zI2 := (HZ0.out.below BI2.out hl1).cell
          have HM2 := Lib.hid (HM1.out.below hbI2 HM1.out.lt)
          have HV2 := Lib.hid (HV1.out.below hbI2 (Nat.le_refl _))
          clear hbI2 zI1
          go_wp2_with fail
          refine (K2.out _ BI2.out).mono ?_
          rintro e wI3 ⟨rfl, hbI3⟩
          have BI3 := Lib.hid (BI2.out.trans (hbI3.mono BI2.out.size))
          have zI3 := (HZ0.out.below BI3.out hl1).cell
          have HM3 := Lib.hid (HM2.out.below hbI3 HM2.out.lt)
          have HV3 := Lib.hid (HV2.out.below hbI3 (Nat.le_refl _))
          have mI3 := HM3.out.cell
          clear hbI3 zI2
          go_wp2_with fail
          refine (HSM.out _ _ BI3.out HV3.out).mono ?_
          rintro e w4 ⟨rfl, hb4⟩
          have B4 := Lib.hid (BI3.out.trans (hb4.mono BI3.out.size))
          clear hb4 zI3 mI3
          go_wp2_with fail
          refine (GE.out _ (HE.out _ B4.out)).mono ?_
          rintro e wN5 ⟨vN5, rfl, hvN5, hbN5⟩
          obtain ⟨adN5, cN5, rfl, -, hcM5, -⟩ := id hvN5
          unfold maxLen at hcM5
          have BN5 := Lib.hid (B4.out.trans (hbN5.mono B4.out.size))
          obtain ⟨wM5, hwM5⟩ : ∃ wM, wM = wN5.alloc (.cells #[.int .i64 0, .int .i64 0, .slice adN5 0 cN5] 24) := ⟨_, rfl⟩
          have hbM5 : Below wN5.heap.size wN5 wM5 := by rw [hwM5]; exact (Below.refl _ _).alloc (Nat.le_refl _) _
          have BM5 := Lib.hid (BN5.out.trans (hbM5.mono BN5.out.size))
          clear hbN5 hbM5 hvN5
          go_wp2_with fail
          try rw [← hwM5]
          clear hwM5
          refine (GH.out _ (HE.out _ BM5.out)).mono ?_
          rintro e wN6 ⟨vN6, rfl, hvN6, hbN6⟩
          obtain ⟨adN6, cN6, rfl, -, hcM6, -⟩ := id hvN6
          unfold maxLen at hcM6
          have BN6 := Lib.hid (BM5.out.trans (hbN6.mono BM5.out.size))
          obtain ⟨wM6, hwM6⟩ : ∃ wM, wM = wN6.alloc (.cells #[.int .i64 0, .int .i64 0, .slice adN6 0 cN6] 24) := ⟨_, rfl⟩
          have hbM6 : Below wN6.heap.size wN6 wM6 := by rw [hwM6]; exact (Below.refl _ _).alloc (Nat.le_refl _) _
          have BM6 := Lib.hid (BN6.out.trans (hbM6.mono BN6.out.size))
          clear hbN6 hbM6 hvN6
          go_wp2_with fail
          try rw [← hwM6]
          clear hwM6
          refine (GS.out _ (HE.out _ BM6.out)).mono ?_
          rintro e wN7 ⟨vN7, rfl, hvN7, hbN7⟩
          obtain ⟨adN7, cN7, rfl, -, hcM7, -⟩ := id hvN7
          unfold maxLen at hcM7
          have BN7 := Lib.hid (BM6.out.trans (hbN7.mono BM6.out.size))
          obtain ⟨wM7, hwM7⟩ : ∃ wM, wM = wN7.alloc (.cells #[.int .i64 m.super, .int .i64 m.types, .slice adN7 m.subs.length cN7] 24) := ⟨_, rfl⟩
          have hbM7 : Below wN7.heap.size wN7 wM7 := by rw [hwM7]; exact (Below.refl _ _).alloc (Nat.le_refl _) _
          have BM7 := Lib.hid (BN7.out.trans (hbM7.mono BN7.out.size))
          have hmM7 : Blk wM7 wN7.heap.size #[.int .i64 m.super, .int .i64 m.types, .slice adN7 m.subs.length cN7] 24 := by rw [hwM7]; exact Blk.new _ _ _
          have HMM7 := Lib.hid hmM7
          have HVM7 := Lib.hid (hvN7.below hbM7 (Nat.le_refl _))
          clear hmM7
          clear hbN7 hbM7 hvN7
          go_wp2_with fail
          try rw [← hwM7]
          clear hwM7
          refine (lineAlive _ (HE.out _ BM7.out)).mono ?_
          rintro e w9 ⟨rfl, hb9⟩
          have B9 := Lib.hid (BM7.out.trans (hb9.mono BM7.out.size))
          have HM9 := Lib.hid (HMM7.out.below hb9 HMM7.out.lt)
          have HV9 := Lib.hid (HVM7.out.below hb9 (Nat.le_refl _))
          have mz9 := HM9.out.cell
          clear hb9
          go_wp2_with fail
          refine (HSI.out _ _ (HE.out _ B9.out) HV9.out).mono ?_
          rintro e w10 ⟨rfl, hb10⟩
          have B10 := Lib.hid (B9.out.trans (hb10.mono B9.out.size))
          have HV10 := Lib.hid (HV9.out.below hb10 (Nat.le_refl _))
          have mz10 := (HM9.out.below hb10 HM9.out.lt).cell
          clear hb10 mz9
          go_wp2_with fail
          refine (HST.out _ _ (HE.out _ B10.out) HV10.out).mono ?_
          rintro e w11 ⟨rfl, hb11⟩
          go_wp2_with fail
          go_ret
          exact ⟨rfl, HB0.out.trans ((B10.out.trans (hb11.mono B10.out.size)).mono HB0.out.size)⟩
      | false =>
        rw [hvb] at K2
        have hte : tx = ⟨#[]⟩ := bytes_nil (by rw [htx]; exact Ln.textL_bad hvb)
        subst hte
        have GT := Lib.hid (fun W hE => parseNone ⟨#[]⟩ Ln.parse_nil (by decide) W hE)
        clear hvb htx HSM
        rcases hps with hn | ⟨m, hm, hm2, hm3⟩
        · have GS := Lib.hid (fun W hE => parseNone s hn h300 W hE)
          clear hn
          go_enter Tryd.func7, Tryd.ntmps7
          go_wp2_with fail
          rw [← hw0]
          clear hw0
          refine HF1.out.mono ?_
          rintro e w1 ⟨rfl, hb1⟩
          have B1 := Lib.hid hb1
          have z1 := (HZ0.out.below hb1 hl1).cell
          clear hb1
          go_wp2_with fail
          refine (K1.out _ B1.out).mono ?_
          rintro e w2 ⟨rfl, hb2⟩
          have B2 := Lib.hid (B1.out.trans (hb2.mono B1.out.size))
          clear hb2 z1
          go_wp2_with fail
          refine (GT.out _ (HE.out _ B2.out)).mono ?_
          rintro e wN3 ⟨vN3, rfl, hvN3, hbN3⟩
          obtain ⟨adN3, cN3, rfl, -, hcM3, -⟩ := id hvN3
          unfold maxLen at hcM3
          have BN3 := Lib.hid (B2.out.trans (hbN3.mono B2.out.size))
          obtain ⟨wM3, hwM3⟩ : ∃ wM, wM = wN3.alloc (.cells #[.int .i64 0, .int .i64 0, .slice adN3 0 cN3] 24) := ⟨_, rfl⟩
          have hbM3 : Below wN3.heap.size wN3 wM3 := by rw [hwM3]; exact (Below.refl _ _).alloc (Nat.le_refl _) _
          have BM3 := Lib.hid (BN3.out.trans (hbM3.mono BN3.out.size))
          have z3 := (HZ0.out.below BM3.out hl1).cell
          rw [hwM3] at z3
          clear hbN3 hbM3 hvN3
          go_wp2_with fail
          try rw [← hwM3]
          clear hwM3
          refine (K2.out _ BM3.out).mono ?_
          rintro e wI1 ⟨rfl, hbI1⟩
          have BI1 := Lib.hid (BM3.out.trans (hbI1.mono BM3.out.size))
          have zI1 := (HZ0.out.below BI1.out hl1).cell
          clear hbI1 z3
          go_wp2_with fail
          refine (K2.out _ BI1.out).mono ?_
          rintro e wI2 ⟨rfl, hbI2⟩
          have BI2 := Lib.hid (BI1.out.trans (hbI2.mono BI1.out.size))
          have zI2 := (HZ0.out.below BI2.out hl1).cell
          clear hbI2 zI1
          go_wp2_with fail
          refine (K2.out _ BI2.out).mono ?_
          rintro e wI3 ⟨rfl, hbI3⟩
          have BI3 := Lib.hid (BI2.out.trans (hbI3.mono BI2.out.size))
          have zI3 := (HZ0.out.below BI3.out hl1).cell
          clear hbI3 zI2 zI3
          go_wp2_with fail
          refine (GE.out _ (HE.out _ BI3.out)).mono ?_
          rintro e wN5 ⟨vN5, rfl, hvN5, hbN5⟩
          obtain ⟨adN5, cN5, rfl, -, hcM5, -⟩ := id hvN5
          unfold maxLen at hcM5
          have BN5 := Lib.hid (BI3.out.trans (hbN5.mono BI3.out.size))
          obtain ⟨wM5, hwM5⟩ : ∃ wM, wM = wN5.alloc (.cells #[.int .i64 0, .int .i64 0, .slice adN5 0 cN5] 24) := ⟨_, rfl⟩
          have hbM5 : Below wN5.heap.size wN5 wM5 := by rw [hwM5]; exact (Below.refl _ _).alloc (Nat.le_refl _) _
          have BM5 := Lib.hid (BN5.out.trans (hbM5.mono BN5.out.size))
          clear hbN5 hbM5 hvN5
          go_wp2_with fail
          try rw [← hwM5]
          clear hwM5
          refine (GH.out _ (HE.out _ BM5.out)).mono ?_
          rintro e wN6 ⟨vN6, rfl, hvN6, hbN6⟩
          obtain ⟨adN6, cN6, rfl, -, hcM6, -⟩ := id hvN6
          unfold maxLen at hcM6
          have BN6 := Lib.hid (BM5.out.trans (hbN6.mono BM5.out.size))
          obtain ⟨wM6, hwM6⟩ : ∃ wM, wM = wN6.alloc (.cells #[.int .i64 0, .int .i64 0, .slice adN6 0 cN6] 24) := ⟨_, rfl⟩
          have hbM6 : Below wN6.heap.size wN6 wM6 := by rw [hwM6]; exact (Below.refl _ _).alloc (Nat.le_refl _) _
          have BM6 := Lib.hid (BN6.out.trans (hbM6.mono BN6.out.size))
          clear hbN6 hbM6 hvN6
          go_wp2_with fail
          try rw [← hwM6]
          clear hwM6
          refine (GS.out _ (HE.out _ BM6.out)).mono ?_
          rintro e wN7 ⟨vN7, rfl, hvN7, hbN7⟩
          obtain ⟨adN7, cN7, rfl, -, hcM7, -⟩ := id hvN7
          unfold maxLen at hcM7
          have BN7 := Lib.hid (BM6.out.trans (hbN7.mono BM6.out.size))
          obtain ⟨wM7, hwM7⟩ : ∃ wM, wM = wN7.alloc (.cells #[.int .i64 0, .int .i64 0, .slice adN7 0 cN7] 24) := ⟨_, rfl⟩
          have hbM7 : Below wN7.heap.size wN7 wM7 := by rw [hwM7]; exact (Below.refl _ _).alloc (Nat.le_refl _) _
          have BM7 := Lib.hid (BN7.out.trans (hbM7.mono BN7.out.size))
          clear hbN7 hbM7 hvN7
          go_wp2_with fail
          try rw [← hwM7]
          clear hwM7
          refine (lineAlive _ (HE.out _ BM7.out)).mono ?_
          rintro e w9 ⟨rfl, hb9⟩
          go_wp2_with fail
          go_ret
          exact ⟨rfl, HB0.out.trans ((BM7.out.trans (hb9.mono BM7.out.size)).mono HB0.out.size)⟩
        · have GS := Lib.hid (fun W hE => parseSome s m hm h300 W hE)
          have HSI := Lib.hid (fun W v' hE hv' => (by have h := lineIs m.super m.types v' m.subs W hE hv' (fine_valid hm2) (types_valid hm2); rw [show (⟨m.super, m.types, m.subs⟩ : Ln.Line) = m from rfl, hm2] at h; exact h : Calls Tryd.prog 11 #[.agg #[.int .i64 m.super, .int .i64 m.types, v']] W fun e w' => e = .returned (.bool true) ∧ Below W.heap.size W w'))
          have HST := Lib.hid (fun W v' hE hv' => (by have h := lineText m.super m.types v' m.subs W hE hv' (fine_valid hm2) (types_valid hm2); rw [show (⟨m.super, m.types, m.subs⟩ : Ln.Line) = m from rfl, hm3, show str s.data.toList = .string s from rfl] at h; exact h : Calls Tryd.prog 21 #[.agg #[.int .i64 m.super, .int .i64 m.types, v']] W fun e w' => e = .returned (.string s) ∧ Below W.heap.size W w'))
          clear hm hm2 hm3
          go_enter Tryd.func7, Tryd.ntmps7
          go_wp2_with fail
          rw [← hw0]
          clear hw0
          refine HF1.out.mono ?_
          rintro e w1 ⟨rfl, hb1⟩
          have B1 := Lib.hid hb1
          have z1 := (HZ0.out.below hb1 hl1).cell
          clear hb1
          go_wp2_with fail
          refine (K1.out _ B1.out).mono ?_
          rintro e w2 ⟨rfl, hb2⟩
          have B2 := Lib.hid (B1.out.trans (hb2.mono B1.out.size))
          clear hb2 z1
          go_wp2_with fail
          refine (GT.out _ (HE.out _ B2.out)).mono ?_
          rintro e wN3 ⟨vN3, rfl, hvN3, hbN3⟩
          obtain ⟨adN3, cN3, rfl, -, hcM3, -⟩ := id hvN3
          unfold maxLen at hcM3
          have BN3 := Lib.hid (B2.out.trans (hbN3.mono B2.out.size))
          obtain ⟨wM3, hwM3⟩ : ∃ wM, wM = wN3.alloc (.cells #[.int .i64 0, .int .i64 0, .slice adN3 0 cN3] 24) := ⟨_, rfl⟩
          have hbM3 : Below wN3.heap.size wN3 wM3 := by rw [hwM3]; exact (Below.refl _ _).alloc (Nat.le_refl _) _
          have BM3 := Lib.hid (BN3.out.trans (hbM3.mono BN3.out.size))
          have z3 := (HZ0.out.below BM3.out hl1).cell
          rw [hwM3] at z3
          clear hbN3 hbM3 hvN3
          go_wp2_with fail
          try rw [← hwM3]
          clear hwM3
          refine (K2.out _ BM3.out).mono ?_
          rintro e wI1 ⟨rfl, hbI1⟩
          have BI1 := Lib.hid (BM3.out.trans (hbI1.mono BM3.out.size))
          have zI1 := (HZ0.out.below BI1.out hl1).cell
          clear hbI1 z3
          go_wp2_with fail
          refine (K2.out _ BI1.out).mono ?_
          rintro e wI2 ⟨rfl, hbI2⟩
          have BI2 := Lib.hid (BI1.out.trans (hbI2.mono BI1.out.size))
          have zI2 := (HZ0.out.below BI2.out hl1).cell
          clear hbI2 zI1
          go_wp2_with fail
          refine (K2.out _ BI2.out).mono ?_
          rintro e wI3 ⟨rfl, hbI3⟩
          have BI3 := Lib.hid (BI2.out.trans (hbI3.mono BI2.out.size))
          have zI3 := (HZ0.out.below BI3.out hl1).cell
          clear hbI3 zI2 zI3
          go_wp2_with fail
          refine (GE.out _ (HE.out _ BI3.out)).mono ?_
          rintro e wN5 ⟨vN5, rfl, hvN5, hbN5⟩
          obtain ⟨adN5, cN5, rfl, -, hcM5, -⟩ := id hvN5
          unfold maxLen at hcM5
          have BN5 := Lib.hid (BI3.out.trans (hbN5.mono BI3.out.size))
          obtain ⟨wM5, hwM5⟩ : ∃ wM, wM = wN5.alloc (.cells #[.int .i64 0, .int .i64 0, .slice adN5 0 cN5] 24) := ⟨_, rfl⟩
          have hbM5 : Below wN5.heap.size wN5 wM5 := by rw [hwM5]; exact (Below.refl _ _).alloc (Nat.le_refl _) _
          have BM5 := Lib.hid (BN5.out.trans (hbM5.mono BN5.out.size))
          clear hbN5 hbM5 hvN5
          go_wp2_with fail
          try rw [← hwM5]
          clear hwM5
          refine (GH.out _ (HE.out _ BM5.out)).mono ?_
          rintro e wN6 ⟨vN6, rfl, hvN6, hbN6⟩
          obtain ⟨adN6, cN6, rfl, -, hcM6, -⟩ := id hvN6
          unfold maxLen at hcM6
          have BN6 := Lib.hid (BM5.out.trans (hbN6.mono BM5.out.size))
          obtain ⟨wM6, hwM6⟩ : ∃ wM, wM = wN6.alloc (.cells #[.int .i64 0, .int .i64 0, .slice adN6 0 cN6] 24) := ⟨_, rfl⟩
          have hbM6 : Below wN6.heap.size wN6 wM6 := by rw [hwM6]; exact (Below.refl _ _).alloc (Nat.le_refl _) _
          have BM6 := Lib.hid (BN6.out.trans (hbM6.mono BN6.out.size))
          clear hbN6 hbM6 hvN6
          go_wp2_with fail
          try rw [← hwM6]
          clear hwM6
          refine (GS.out _ (HE.out _ BM6.out)).mono ?_
          rintro e wN7 ⟨vN7, rfl, hvN7, hbN7⟩
          obtain ⟨adN7, cN7, rfl, -, hcM7, -⟩ := id hvN7
          unfold maxLen at hcM7
          have BN7 := Lib.hid (BM6.out.trans (hbN7.mono BM6.out.size))
          obtain ⟨wM7, hwM7⟩ : ∃ wM, wM = wN7.alloc (.cells #[.int .i64 m.super, .int .i64 m.types, .slice adN7 m.subs.length cN7] 24) := ⟨_, rfl⟩
          have hbM7 : Below wN7.heap.size wN7 wM7 := by rw [hwM7]; exact (Below.refl _ _).alloc (Nat.le_refl _) _
          have BM7 := Lib.hid (BN7.out.trans (hbM7.mono BN7.out.size))
          have hmM7 : Blk wM7 wN7.heap.size #[.int .i64 m.super, .int .i64 m.types, .slice adN7 m.subs.length cN7] 24 := by rw [hwM7]; exact Blk.new _ _ _
          have HMM7 := Lib.hid hmM7
          have HVM7 := Lib.hid (hvN7.below hbM7 (Nat.le_refl _))
          clear hmM7
          clear hbN7 hbM7 hvN7
          go_wp2_with fail
          try rw [← hwM7]
          clear hwM7
          refine (lineAlive _ (HE.out _ BM7.out)).mono ?_
          rintro e w9 ⟨rfl, hb9⟩
          have B9 := Lib.hid (BM7.out.trans (hb9.mono BM7.out.size))
          have HM9 := Lib.hid (HMM7.out.below hb9 HMM7.out.lt)
          have HV9 := Lib.hid (HVM7.out.below hb9 (Nat.le_refl _))
          have mz9 := HM9.out.cell
          clear hb9
          go_wp2_with fail
          refine (HSI.out _ _ (HE.out _ B9.out) HV9.out).mono ?_
          rintro e w10 ⟨rfl, hb10⟩
          have B10 := Lib.hid (B9.out.trans (hb10.mono B9.out.size))
          have HV10 := Lib.hid (HV9.out.below hb10 (Nat.le_refl _))
          have mz10 := (HM9.out.below hb10 HM9.out.lt).cell
          clear hb10 mz9
          go_wp2_with fail
          refine (HST.out _ _ (HE.out _ B10.out) HV10.out).mono ?_
          rintro e w11 ⟨rfl, hb11⟩
          go_wp2_with fail
          go_ret
          exact ⟨rfl, HB0.out.trans ((B10.out.trans (hb11.mono B10.out.size)).mono HB0.out.size)⟩
  · rw [hf1] at HF1
    clear hf1
    go_enter Tryd.func7, Tryd.ntmps7
    go_wp2_with fail
    rw [← hw0]
    clear hw0
    refine HF1.out.mono ?_
    rintro e w1 ⟨rfl, hb1⟩
    have B1 := Lib.hid hb1
    clear hb1
    go_wp2_with fail
    refine (lineAlive _ (HE.out _ B1.out)).mono ?_
    rintro e w3 ⟨rfl, hb3⟩
    go_wp2_with fail
    go_ret
    exact ⟨rfl, HB0.out.trans ((B1.out.trans (hb3.mono B1.out.size)).mono HB0.out.size)⟩
end Go.Proofs.YtbichcmpggbfnaaDoor
