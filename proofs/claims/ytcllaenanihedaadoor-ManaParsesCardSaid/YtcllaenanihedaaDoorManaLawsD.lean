/-
  THE LAWS OF LAYER 8: reading. By an AI agent.
-/
import Derived.Test.YtcllaenanihedaaDoorManaAlive
import Derived.Deep.RegionHeld3
import Derived.Test.YtcllaenanihedaaDoorManaLawsC
namespace Go.Proofs.YtcllaenanihedaaDoor
open Go.RowKit

set_option maxHeartbeats 1000000 in
set_option maxRecDepth 100000 in
theorem lawParsesAny (s : ByteArray) (c : Mana.Cst) (er : Int) (p : Mana.Pl) (pe : Int) (w : World) (hE : Env w)
    (h1 : s.size ≤ 500 → ∀ w, Env w → Calls Tryd.prog 18 #[.string s] w fun e w' => e = .returned (.tuple #[.agg #[.int .i64 c.g, .int .i64 c.x, .int .i64 c.c0, .int .i64 c.c1, .int .i64 c.c2, .int .i64 c.c3, .int .i64 c.c4], .int .i64 er]) ∧ Below w.heap.size w w')
    (h2 : ∀ w, Calls Tryd.prog 19 #[.string s] w fun e w' => e = .returned (.tuple #[.agg #[.int .i64 c.g, .int .i64 c.x, .int .i64 c.c0, .int .i64 c.c1, .int .i64 c.c2, .int .i64 c.c3, .int .i64 c.c4], .int .i64 er]) ∧ Below w.heap.size w w')
    (h3 : s.size ≤ 500 → ∀ w, Env w → Calls Tryd.prog 20 #[.string s] w fun e w' => e = .returned (.tuple #[.agg #[.int .i64 p.p0, .int .i64 p.p1, .int .i64 p.p2, .int .i64 p.p3, .int .i64 p.p4, .int .i64 p.p5], .int .i64 pe]) ∧ Below w.heap.size w w')
    (h4 : ∀ w, Calls Tryd.prog 21 #[.string s] w fun e w' => e = .returned (.tuple #[.agg #[.int .i64 p.p0, .int .i64 p.p1, .int .i64 p.p2, .int .i64 p.p3, .int .i64 p.p4, .int .i64 p.p5], .int .i64 pe]) ∧ Below w.heap.size w w') :
    Calls Tryd.prog 4 #[.string s] w fun e w' => e = .returned (.bool true) ∧ Below w.heap.size w w' := by
  have HE := Lib.hid hE
  by_cases hlong : 500 < s.size
  · have i1 : (500 : Int) < (s.size : Int) := by omega
    clear hE h1 h2 h3 h4
    go_enter Tryd.func4, Tryd.ntmps4
    go_wp2_with fail
    refine (manaAlive _ HE.out).mono ?_
    rintro e w1 ⟨rfl, hb1⟩
    go_wp2
    go_ret
    exact ⟨rfl, hb1⟩
  · have i1 : ¬ (500 : Int) < (s.size : Int) := by omega
    have G1 := Lib.hid (h1 (by omega))
    have G2 := Lib.hid h2
    have G3 := Lib.hid (h3 (by omega))
    have G4 := Lib.hid h4
    have q1 : ∀ W : World, (Op.equalIn 10000 35 (.agg #[.int .i64 p.p0, .int .i64 p.p1, .int .i64 p.p2, .int .i64 p.p3, .int .i64 p.p4, .int .i64 p.p5]) (.agg #[.int .i64 p.p0, .int .i64 p.p1, .int .i64 p.p2, .int .i64 p.p3, .int .i64 p.p4, .int .i64 p.p5])).run Tryd.prog W = .ok true W := fun W => by rw [run_eq_pool, eqP_refl]
    have q2 : ∀ W : World, (Op.equalIn 10000 24 (.agg #[.int .i64 c.g, .int .i64 c.x, .int .i64 c.c0, .int .i64 c.c1, .int .i64 c.c2, .int .i64 c.c3, .int .i64 c.c4]) (.agg #[.int .i64 c.g, .int .i64 c.x, .int .i64 c.c0, .int .i64 c.c1, .int .i64 c.c2, .int .i64 c.c3, .int .i64 c.c4])).run Tryd.prog W = .ok true W := fun W => by rw [run_eq_cost, eqC_refl]
    clear hE h1 h2 h3 h4
    go_enter Tryd.func4, Tryd.ntmps4
    go_wp2_with fail
    refine (G1.out _ HE.out).mono ?_
    rintro e w1 ⟨rfl, hb1⟩
    have A1 := Lib.hid (Blk.new w1 #[.int .i64 c.g, .int .i64 c.x, .int .i64 c.c0, .int .i64 c.c1, .int .i64 c.c2, .int .i64 c.c3, .int .i64 c.c4] 24)
    have AH := Lib.hid (hb1.alloc hb1.size (.cells #[.int .i64 c.g, .int .i64 c.x, .int .i64 c.c0, .int .i64 c.c1, .int .i64 c.c2, .int .i64 c.c3, .int .i64 c.c4] 24))
    clear hb1
    go_wp2_with fail
    refine (G2.out _).mono ?_
    rintro e w2 ⟨rfl, hb2⟩
    have B1 := Lib.hid ((A1.out.below hb2 A1.out.lt).alloc (.cells #[.int .i64 c.g, .int .i64 c.x, .int .i64 c.c0, .int .i64 c.c1, .int .i64 c.c2, .int .i64 c.c3, .int .i64 c.c4] 24))
    have B2 := Lib.hid (Blk.new w2 #[.int .i64 c.g, .int .i64 c.x, .int .i64 c.c0, .int .i64 c.c1, .int .i64 c.c2, .int .i64 c.c3, .int .i64 c.c4] 24)
    have BH := Lib.hid ((AH.out.trans (hb2.mono AH.out.size)).alloc ((AH.out.trans (hb2.mono AH.out.size)).size) (.cells #[.int .i64 c.g, .int .i64 c.x, .int .i64 c.c0, .int .i64 c.c1, .int .i64 c.c2, .int .i64 c.c3, .int .i64 c.c4] 24))
    clear hb2 A1 AH
    go_wp2_with fail
    refine (G3.out _ (HE.out.below BH.out)).mono ?_
    rintro e w3 ⟨rfl, hb3⟩
    have C1 := Lib.hid ((B1.out.below hb3 B1.out.lt).alloc (.cells #[.int .i64 p.p0, .int .i64 p.p1, .int .i64 p.p2, .int .i64 p.p3, .int .i64 p.p4, .int .i64 p.p5] 35))
    have C2 := Lib.hid ((B2.out.below hb3 B2.out.lt).alloc (.cells #[.int .i64 p.p0, .int .i64 p.p1, .int .i64 p.p2, .int .i64 p.p3, .int .i64 p.p4, .int .i64 p.p5] 35))
    have C3 := Lib.hid (Blk.new w3 #[.int .i64 p.p0, .int .i64 p.p1, .int .i64 p.p2, .int .i64 p.p3, .int .i64 p.p4, .int .i64 p.p5] 35)
    have CH := Lib.hid ((BH.out.trans (hb3.mono BH.out.size)).alloc ((BH.out.trans (hb3.mono BH.out.size)).size) (.cells #[.int .i64 p.p0, .int .i64 p.p1, .int .i64 p.p2, .int .i64 p.p3, .int .i64 p.p4, .int .i64 p.p5] 35))
    clear hb3 B1 B2 BH
    go_wp2_with fail
    refine (G4.out _).mono ?_
    rintro e w4 ⟨rfl, hb4⟩
    have D1 := Lib.hid ((C1.out.below hb4 C1.out.lt).alloc (.cells #[.int .i64 p.p0, .int .i64 p.p1, .int .i64 p.p2, .int .i64 p.p3, .int .i64 p.p4, .int .i64 p.p5] 35))
    have D2 := Lib.hid ((C2.out.below hb4 C2.out.lt).alloc (.cells #[.int .i64 p.p0, .int .i64 p.p1, .int .i64 p.p2, .int .i64 p.p3, .int .i64 p.p4, .int .i64 p.p5] 35))
    have D3 := Lib.hid ((C3.out.below hb4 C3.out.lt).alloc (.cells #[.int .i64 p.p0, .int .i64 p.p1, .int .i64 p.p2, .int .i64 p.p3, .int .i64 p.p4, .int .i64 p.p5] 35))
    have DH := Lib.hid ((CH.out.trans (hb4.mono CH.out.size)).alloc ((CH.out.trans (hb4.mono CH.out.size)).size) (.cells #[.int .i64 p.p0, .int .i64 p.p1, .int .i64 p.p2, .int .i64 p.p3, .int .i64 p.p4, .int .i64 p.p5] 35))
    clear hb4 C1 C2 C3 CH
    have c1 := D1.out.cell
    have c2 := D2.out.cell
    have c3 := D3.out.cell
    go_wp2_with fail
    refine (manaAlive _ (HE.out.below DH.out)).mono ?_
    rintro e w5 ⟨rfl, hb5⟩
    have EH := Lib.hid (DH.out.trans (hb5.mono DH.out.size))
    clear hb5 c1 c2 c3
    go_wp2
    go_ret
    exact ⟨rfl, EH.out⟩
theorem lawManaParses (s : ByteArray) (w : World) (hE : Env w) :
    Calls Tryd.prog 4 #[.string s] w fun e w' => e = .returned (.bool true) ∧ Below w.heap.size w w' := by
  have hr := Mana.parse_ref s.data.toList
  refine lawParsesAny s _ _ _ _ w hE (fun hs w hE => manaParse s (by omega) w hE) (fun w => ?_) (fun hs w hE => manaParsePool s (by omega) w hE) (fun w => ?_)
  · have := refParse8 s w
    rw [hr.1, hr.2] at this
    exact this
  · have := refParsePool8 s w
    rw [hr.1, hr.2] at this
    exact this
theorem dataOf (l : List UInt8) : (⟨l.toArray⟩ : ByteArray).data.toList = l := by simp
theorem parseBack (c : Mana.Cst) (h : Mana.okC c = true) (w : World) (hE : Env w) :
    Calls Tryd.prog 18 #[.string ⟨(Mana.textL c).toArray⟩] w fun e w' => e = .returned (.tuple #[.agg #[.int .i64 c.g, .int .i64 c.x, .int .i64 c.c0, .int .i64 c.c1, .int .i64 c.c2, .int .i64 c.c3, .int .i64 c.c4], .int .i64 0]) ∧ Below w.heap.size w w' := by
  have hl := Mana.text_len h
  have := manaParse ⟨(Mana.textL c).toArray⟩ (by show (Mana.textL c).toArray.size ≤ _; rw [List.size_toArray]; omega) w hE
  rw [dataOf, (Mana.parse_text h).1, (Mana.parse_text h).2] at this
  exact this
theorem parsePoolBack (p : Mana.Pl) (h : Mana.okC (Mana.poolC p) = true) (w : World) (hE : Env w) :
    Calls Tryd.prog 20 #[.string ⟨(Mana.textL (Mana.poolC p)).toArray⟩] w fun e w' => e = .returned (.tuple #[.agg #[.int .i64 p.p0, .int .i64 p.p1, .int .i64 p.p2, .int .i64 p.p3, .int .i64 p.p4, .int .i64 p.p5], .int .i64 0]) ∧ Below w.heap.size w w' := by
  have hl := Mana.text_len h
  have := manaParsePool ⟨(Mana.textL (Mana.poolC p)).toArray⟩ (by show (Mana.textL (Mana.poolC p)).toArray.size ≤ _; rw [List.size_toArray]; omega) w hE
  have hp := Mana.pp_yes (c := Mana.poolC p) (e := 0) rfl (Int.le_refl 0)
  rw [dataOf, (Mana.parse_text h).1, (Mana.parse_text h).2, hp.1, hp.2] at this
  exact this
set_option maxHeartbeats 4000000 in
set_option maxRecDepth 100000 in
theorem lawBackAny (c : Mana.Cst) (p : Mana.Pl) (l u : List UInt8) (okc okp : Bool) (w : World) (hE : Env w) (hl : (l == []) = !okc) (hu : (u == []) = !okp)
    (h1 : ∀ w, Env w → Calls Tryd.prog 11 #[.agg #[.int .i64 c.g, .int .i64 c.x, .int .i64 c.c0, .int .i64 c.c1, .int .i64 c.c2, .int .i64 c.c3, .int .i64 c.c4]] w fun e w' => e = .returned (.string ⟨l.toArray⟩) ∧ Below w.heap.size w w')
    (h2 : okc = true → ∀ w, Env w → Calls Tryd.prog 18 #[.string ⟨l.toArray⟩] w fun e w' => e = .returned (.tuple #[.agg #[.int .i64 c.g, .int .i64 c.x, .int .i64 c.c0, .int .i64 c.c1, .int .i64 c.c2, .int .i64 c.c3, .int .i64 c.c4], .int .i64 0]) ∧ Below w.heap.size w w')
    (h3 : ∀ w, Env w → Calls Tryd.prog 22 #[.agg #[.int .i64 p.p0, .int .i64 p.p1, .int .i64 p.p2, .int .i64 p.p3, .int .i64 p.p4, .int .i64 p.p5]] w fun e w' => e = .returned (.string ⟨u.toArray⟩) ∧ Below w.heap.size w w')
    (h4 : okp = true → ∀ w, Env w → Calls Tryd.prog 20 #[.string ⟨u.toArray⟩] w fun e w' => e = .returned (.tuple #[.agg #[.int .i64 p.p0, .int .i64 p.p1, .int .i64 p.p2, .int .i64 p.p3, .int .i64 p.p4, .int .i64 p.p5], .int .i64 0]) ∧ Below w.heap.size w w')
    (h5 : ∀ w, Calls Tryd.prog 9 #[.agg #[.int .i64 c.g, .int .i64 c.x, .int .i64 c.c0, .int .i64 c.c1, .int .i64 c.c2, .int .i64 c.c3, .int .i64 c.c4]] w fun e w' => e = .returned (.bool okc) ∧ Below w.heap.size w w') :
    Calls Tryd.prog 5 #[.agg #[.int .i64 c.g, .int .i64 c.x, .int .i64 c.c0, .int .i64 c.c1, .int .i64 c.c2, .int .i64 c.c3, .int .i64 c.c4], .agg #[.int .i64 p.p0, .int .i64 p.p1, .int .i64 p.p2, .int .i64 p.p3, .int .i64 p.p4, .int .i64 p.p5]] w fun e w' => e = .returned (.bool true) ∧ Below w.heap.size w w' := by
  have hb0 : Below w.heap.size w ((w.alloc (.cells #[.int .i64 c.g, .int .i64 c.x, .int .i64 c.c0, .int .i64 c.c1, .int .i64 c.c2, .int .i64 c.c3, .int .i64 c.c4] 24)).alloc (.cells #[.int .i64 p.p0, .int .i64 p.p1, .int .i64 p.p2, .int .i64 p.p3, .int .i64 p.p4, .int .i64 p.p5] 35)) := by go_grown
  have K0 := Lib.hid ((Blk.new w #[.int .i64 c.g, .int .i64 c.x, .int .i64 c.c0, .int .i64 c.c1, .int .i64 c.c2, .int .i64 c.c3, .int .i64 c.c4] 24).alloc (.cells #[.int .i64 p.p0, .int .i64 p.p1, .int .i64 p.p2, .int .i64 p.p3, .int .i64 p.p4, .int .i64 p.p5] 35))
  have K1 : Hid (Blk ((w.alloc (.cells #[.int .i64 c.g, .int .i64 c.x, .int .i64 c.c0, .int .i64 c.c1, .int .i64 c.c2, .int .i64 c.c3, .int .i64 c.c4] 24)).alloc (.cells #[.int .i64 p.p0, .int .i64 p.p1, .int .i64 p.p2, .int .i64 p.p3, .int .i64 p.p4, .int .i64 p.p5] 35)) (w.heap.size + 1) #[.int .i64 p.p0, .int .i64 p.p1, .int .i64 p.p2, .int .i64 p.p3, .int .i64 p.p4, .int .i64 p.p5] 35) := Lib.hid (by
    have n1 := Blk.new (w.alloc (.cells #[.int .i64 c.g, .int .i64 c.x, .int .i64 c.c0, .int .i64 c.c1, .int .i64 c.c2, .int .i64 c.c3, .int .i64 c.c4] 24)) #[.int .i64 p.p0, .int .i64 p.p1, .int .i64 p.p2, .int .i64 p.p3, .int .i64 p.p4, .int .i64 p.p5] 35
    simp only [World.size_alloc] at n1
    exact n1)
  have HE := Lib.hid hE
  have H0 := Lib.hid hb0
  have G1 := Lib.hid h1
  have G3 := Lib.hid h3
  have G5 := Lib.hid h5
  have q1 : ∀ W : World, (Op.equalIn 10000 35 (.agg #[.int .i64 p.p0, .int .i64 p.p1, .int .i64 p.p2, .int .i64 p.p3, .int .i64 p.p4, .int .i64 p.p5]) (.agg #[.int .i64 p.p0, .int .i64 p.p1, .int .i64 p.p2, .int .i64 p.p3, .int .i64 p.p4, .int .i64 p.p5])).run Tryd.prog W = .ok true W := fun W => by rw [run_eq_pool, eqP_refl]
  have q2 : ∀ W : World, (Op.equalIn 10000 24 (.agg #[.int .i64 c.g, .int .i64 c.x, .int .i64 c.c0, .int .i64 c.c1, .int .i64 c.c2, .int .i64 c.c3, .int .i64 c.c4]) (.agg #[.int .i64 c.g, .int .i64 c.x, .int .i64 c.c0, .int .i64 c.c1, .int .i64 c.c2, .int .i64 c.c3, .int .i64 c.c4])).run Tryd.prog W = .ok true W := fun W => by rw [run_eq_cost, eqC_refl]
  clear hE hb0 h1 h3 h5
  cases okc <;> cases okp
  · have t1 : (l == []) = true := hl
    have t2 : (u == []) = true := hu
    clear hl hu h2 h4
    go_enter Tryd.func5, Tryd.ntmps5
    go_wp2_with fail
    refine (G1.out _ (HE.out.below H0.out)).mono ?_
    rintro e w1 ⟨rfl, hb⟩
    have A0 := Lib.hid (K0.out.below hb K0.out.lt)
    have A1 := Lib.hid (K1.out.below hb K1.out.lt)
    have AH := Lib.hid (H0.out.trans (hb.mono H0.out.size))
    clear hb K0 K1 H0
    have c1 := A1.out.cell
    go_wp2_with fail
    refine (G3.out _ (HE.out.below AH.out)).mono ?_
    rintro e w3 ⟨rfl, hb⟩
    have C0 := Lib.hid (A0.out.below hb A0.out.lt)
    have C1 := Lib.hid (A1.out.below hb A1.out.lt)
    have CH := Lib.hid (AH.out.trans (hb.mono AH.out.size))
    clear hb A0 A1 AH c1
    go_wp2_with fail
    generalize w3 = w0 at *
    have c0 := keepC C0.out (Below.refl _ _)
    have hsz : w.heap.size + 1 ≤ w0.heap.size := C0.out.lt
    have hE0 := Lib.hid (fun (W : World) (hb : Below (w.heap.size + 1) w0 W) => HE.out.below (CH.out.trans (hb.mono (Nat.le_succ _))))
    go_region_held3 (fun w' => w'.cell? ⟨w.heap.size, 0, none⟩ = some (.int .i64 c.g) ∧ w'.cell? ⟨w.heap.size, 1, none⟩ = some (.int .i64 c.x) ∧ w'.cell? ⟨w.heap.size, 2, none⟩ = some (.int .i64 c.c0) ∧ w'.cell? ⟨w.heap.size, 3, none⟩ = some (.int .i64 c.c1) ∧ w'.cell? ⟨w.heap.size, 4, none⟩ = some (.int .i64 c.c2) ∧ w'.cell? ⟨w.heap.size, 5, none⟩ = some (.int .i64 c.c3) ∧ w'.cell? ⟨w.heap.size, 6, none⟩ = some (.int .i64 c.c4))
      (first | (with_reducible exact c0) | (with_reducible exact keepC C0.out hb1) | (with_reducible exact keepC C0.out (Below.drew hb1)) | go_keep)
      (first
        | (go_at_call 17; refine (fromBase (C := w.heap.size + 1) (w0 := w0) ?_ hsz (manaAlive _ (hE0.out _ ?_))).mono ?_; (go_grown); (go_grown); rintro e w1 ⟨rfl, hb1⟩)
        | (go_at_call 9; refine (fromBase (C := w.heap.size + 1) (w0 := w0) ?_ hsz (G5.out _)).mono ?_; (go_grown); rintro e w1 ⟨rfl, hb1⟩)
        | (go_at_call 11; refine (fromBase (C := w.heap.size + 1) (w0 := w0) ?_ hsz (G1.out _ (hE0.out _ ?_))).mono ?_; (go_grown); (go_grown); rintro e w1 ⟨rfl, hb1⟩))
    all_goals
      go_wp2
      go_ret
      exact ⟨rfl, CH.out.trans (Below.mono (by go_grown) (by omega : w.heap.size ≤ w.heap.size + 1))⟩
  · have t1 : (l == []) = true := hl
    have t2 : (u == []) = false := hu
    have G4 := Lib.hid (h4 rfl)
    clear hl hu h2 h4
    go_enter Tryd.func5, Tryd.ntmps5
    go_wp2_with fail
    refine (G1.out _ (HE.out.below H0.out)).mono ?_
    rintro e w1 ⟨rfl, hb⟩
    have A0 := Lib.hid (K0.out.below hb K0.out.lt)
    have A1 := Lib.hid (K1.out.below hb K1.out.lt)
    have AH := Lib.hid (H0.out.trans (hb.mono H0.out.size))
    clear hb K0 K1 H0
    have c1 := A1.out.cell
    go_wp2_with fail
    refine (G3.out _ (HE.out.below AH.out)).mono ?_
    rintro e w3 ⟨rfl, hb⟩
    have C0 := Lib.hid (A0.out.below hb A0.out.lt)
    have C1 := Lib.hid (A1.out.below hb A1.out.lt)
    have CH := Lib.hid (AH.out.trans (hb.mono AH.out.size))
    clear hb A0 A1 AH c1
    go_wp2_with fail
    refine (G4.out _ (HE.out.below CH.out)).mono ?_
    rintro e w4 ⟨rfl, hb⟩
    have D0 := Lib.hid ((C0.out.below hb C0.out.lt).alloc (.cells #[.int .i64 p.p0, .int .i64 p.p1, .int .i64 p.p2, .int .i64 p.p3, .int .i64 p.p4, .int .i64 p.p5] 35))
    have D1 := Lib.hid ((C1.out.below hb C1.out.lt).alloc (.cells #[.int .i64 p.p0, .int .i64 p.p1, .int .i64 p.p2, .int .i64 p.p3, .int .i64 p.p4, .int .i64 p.p5] 35))
    have DH := Lib.hid ((CH.out.trans (hb.mono CH.out.size)).alloc ((CH.out.trans (hb.mono CH.out.size)).size) (.cells #[.int .i64 p.p0, .int .i64 p.p1, .int .i64 p.p2, .int .i64 p.p3, .int .i64 p.p4, .int .i64 p.p5] 35))
    clear hb C0 C1 CH
    have c1 := D1.out.cell
    go_wp2_with fail
    clear c1
    generalize w4.alloc (.cells #[.int .i64 p.p0, .int .i64 p.p1, .int .i64 p.p2, .int .i64 p.p3, .int .i64 p.p4, .int .i64 p.p5] 35) = w0 at *
    have c0 := keepC D0.out (Below.refl _ _)
    have hsz : w.heap.size + 1 ≤ w0.heap.size := D0.out.lt
    have hE0 := Lib.hid (fun (W : World) (hb : Below (w.heap.size + 1) w0 W) => HE.out.below (DH.out.trans (hb.mono (Nat.le_succ _))))
    go_region_held3 (fun w' => w'.cell? ⟨w.heap.size, 0, none⟩ = some (.int .i64 c.g) ∧ w'.cell? ⟨w.heap.size, 1, none⟩ = some (.int .i64 c.x) ∧ w'.cell? ⟨w.heap.size, 2, none⟩ = some (.int .i64 c.c0) ∧ w'.cell? ⟨w.heap.size, 3, none⟩ = some (.int .i64 c.c1) ∧ w'.cell? ⟨w.heap.size, 4, none⟩ = some (.int .i64 c.c2) ∧ w'.cell? ⟨w.heap.size, 5, none⟩ = some (.int .i64 c.c3) ∧ w'.cell? ⟨w.heap.size, 6, none⟩ = some (.int .i64 c.c4))
      (first | (with_reducible exact c0) | (with_reducible exact keepC D0.out hb1) | (with_reducible exact keepC D0.out (Below.drew hb1)) | go_keep)
      (first
        | (go_at_call 17; refine (fromBase (C := w.heap.size + 1) (w0 := w0) ?_ hsz (manaAlive _ (hE0.out _ ?_))).mono ?_; (go_grown); (go_grown); rintro e w1 ⟨rfl, hb1⟩)
        | (go_at_call 9; refine (fromBase (C := w.heap.size + 1) (w0 := w0) ?_ hsz (G5.out _)).mono ?_; (go_grown); rintro e w1 ⟨rfl, hb1⟩)
        | (go_at_call 11; refine (fromBase (C := w.heap.size + 1) (w0 := w0) ?_ hsz (G1.out _ (hE0.out _ ?_))).mono ?_; (go_grown); (go_grown); rintro e w1 ⟨rfl, hb1⟩))
    all_goals
      go_wp2
      go_ret
      exact ⟨rfl, DH.out.trans (Below.mono (by go_grown) (by omega : w.heap.size ≤ w.heap.size + 1))⟩
  · have t1 : (l == []) = false := hl
    have t2 : (u == []) = true := hu
    have G2 := Lib.hid (h2 rfl)
    clear hl hu h2 h4
    go_enter Tryd.func5, Tryd.ntmps5
    go_wp2_with fail
    refine (G1.out _ (HE.out.below H0.out)).mono ?_
    rintro e w1 ⟨rfl, hb⟩
    have A0 := Lib.hid (K0.out.below hb K0.out.lt)
    have A1 := Lib.hid (K1.out.below hb K1.out.lt)
    have AH := Lib.hid (H0.out.trans (hb.mono H0.out.size))
    clear hb K0 K1 H0
    go_wp2_with fail
    refine (G2.out _ (HE.out.below AH.out)).mono ?_
    rintro e w2 ⟨rfl, hb⟩
    have B0 := Lib.hid ((A0.out.below hb A0.out.lt).alloc (.cells #[.int .i64 c.g, .int .i64 c.x, .int .i64 c.c0, .int .i64 c.c1, .int .i64 c.c2, .int .i64 c.c3, .int .i64 c.c4] 24))
    have B1 := Lib.hid ((A1.out.below hb A1.out.lt).alloc (.cells #[.int .i64 c.g, .int .i64 c.x, .int .i64 c.c0, .int .i64 c.c1, .int .i64 c.c2, .int .i64 c.c3, .int .i64 c.c4] 24))
    have BH := Lib.hid ((AH.out.trans (hb.mono AH.out.size)).alloc ((AH.out.trans (hb.mono AH.out.size)).size) (.cells #[.int .i64 c.g, .int .i64 c.x, .int .i64 c.c0, .int .i64 c.c1, .int .i64 c.c2, .int .i64 c.c3, .int .i64 c.c4] 24))
    clear hb A0 A1 AH
    have c0 := B0.out.cell
    have c1 := B1.out.cell
    go_wp2_with fail
    refine (G3.out _ (HE.out.below BH.out)).mono ?_
    rintro e w3 ⟨rfl, hb⟩
    have C0 := Lib.hid (B0.out.below hb B0.out.lt)
    have C1 := Lib.hid (B1.out.below hb B1.out.lt)
    have CH := Lib.hid (BH.out.trans (hb.mono BH.out.size))
    clear hb B0 B1 BH c1 c0
    go_wp2_with fail
    generalize w3 = w0 at *
    have c0 := keepC C0.out (Below.refl _ _)
    have hsz : w.heap.size + 1 ≤ w0.heap.size := C0.out.lt
    have hE0 := Lib.hid (fun (W : World) (hb : Below (w.heap.size + 1) w0 W) => HE.out.below (CH.out.trans (hb.mono (Nat.le_succ _))))
    go_region_held3 (fun w' => w'.cell? ⟨w.heap.size, 0, none⟩ = some (.int .i64 c.g) ∧ w'.cell? ⟨w.heap.size, 1, none⟩ = some (.int .i64 c.x) ∧ w'.cell? ⟨w.heap.size, 2, none⟩ = some (.int .i64 c.c0) ∧ w'.cell? ⟨w.heap.size, 3, none⟩ = some (.int .i64 c.c1) ∧ w'.cell? ⟨w.heap.size, 4, none⟩ = some (.int .i64 c.c2) ∧ w'.cell? ⟨w.heap.size, 5, none⟩ = some (.int .i64 c.c3) ∧ w'.cell? ⟨w.heap.size, 6, none⟩ = some (.int .i64 c.c4))
      (first | (with_reducible exact c0) | (with_reducible exact keepC C0.out hb1) | (with_reducible exact keepC C0.out (Below.drew hb1)) | go_keep)
      (first
        | (go_at_call 17; refine (fromBase (C := w.heap.size + 1) (w0 := w0) ?_ hsz (manaAlive _ (hE0.out _ ?_))).mono ?_; (go_grown); (go_grown); rintro e w1 ⟨rfl, hb1⟩)
        | (go_at_call 9; refine (fromBase (C := w.heap.size + 1) (w0 := w0) ?_ hsz (G5.out _)).mono ?_; (go_grown); rintro e w1 ⟨rfl, hb1⟩)
        | (go_at_call 11; refine (fromBase (C := w.heap.size + 1) (w0 := w0) ?_ hsz (G1.out _ (hE0.out _ ?_))).mono ?_; (go_grown); (go_grown); rintro e w1 ⟨rfl, hb1⟩))
    all_goals
      go_wp2
      go_ret
      exact ⟨rfl, CH.out.trans (Below.mono (by go_grown) (by omega : w.heap.size ≤ w.heap.size + 1))⟩
  · have t1 : (l == []) = false := hl
    have t2 : (u == []) = false := hu
    have G2 := Lib.hid (h2 rfl)
    have G4 := Lib.hid (h4 rfl)
    clear hl hu h2 h4
    go_enter Tryd.func5, Tryd.ntmps5
    go_wp2_with fail
    refine (G1.out _ (HE.out.below H0.out)).mono ?_
    rintro e w1 ⟨rfl, hb⟩
    have A0 := Lib.hid (K0.out.below hb K0.out.lt)
    have A1 := Lib.hid (K1.out.below hb K1.out.lt)
    have AH := Lib.hid (H0.out.trans (hb.mono H0.out.size))
    clear hb K0 K1 H0
    go_wp2_with fail
    refine (G2.out _ (HE.out.below AH.out)).mono ?_
    rintro e w2 ⟨rfl, hb⟩
    have B0 := Lib.hid ((A0.out.below hb A0.out.lt).alloc (.cells #[.int .i64 c.g, .int .i64 c.x, .int .i64 c.c0, .int .i64 c.c1, .int .i64 c.c2, .int .i64 c.c3, .int .i64 c.c4] 24))
    have B1 := Lib.hid ((A1.out.below hb A1.out.lt).alloc (.cells #[.int .i64 c.g, .int .i64 c.x, .int .i64 c.c0, .int .i64 c.c1, .int .i64 c.c2, .int .i64 c.c3, .int .i64 c.c4] 24))
    have BH := Lib.hid ((AH.out.trans (hb.mono AH.out.size)).alloc ((AH.out.trans (hb.mono AH.out.size)).size) (.cells #[.int .i64 c.g, .int .i64 c.x, .int .i64 c.c0, .int .i64 c.c1, .int .i64 c.c2, .int .i64 c.c3, .int .i64 c.c4] 24))
    clear hb A0 A1 AH
    have c0 := B0.out.cell
    have c1 := B1.out.cell
    go_wp2_with fail
    refine (G3.out _ (HE.out.below BH.out)).mono ?_
    rintro e w3 ⟨rfl, hb⟩
    have C0 := Lib.hid (B0.out.below hb B0.out.lt)
    have C1 := Lib.hid (B1.out.below hb B1.out.lt)
    have CH := Lib.hid (BH.out.trans (hb.mono BH.out.size))
    clear hb B0 B1 BH c1 c0
    go_wp2_with fail
    refine (G4.out _ (HE.out.below CH.out)).mono ?_
    rintro e w4 ⟨rfl, hb⟩
    have D0 := Lib.hid ((C0.out.below hb C0.out.lt).alloc (.cells #[.int .i64 p.p0, .int .i64 p.p1, .int .i64 p.p2, .int .i64 p.p3, .int .i64 p.p4, .int .i64 p.p5] 35))
    have D1 := Lib.hid ((C1.out.below hb C1.out.lt).alloc (.cells #[.int .i64 p.p0, .int .i64 p.p1, .int .i64 p.p2, .int .i64 p.p3, .int .i64 p.p4, .int .i64 p.p5] 35))
    have DH := Lib.hid ((CH.out.trans (hb.mono CH.out.size)).alloc ((CH.out.trans (hb.mono CH.out.size)).size) (.cells #[.int .i64 p.p0, .int .i64 p.p1, .int .i64 p.p2, .int .i64 p.p3, .int .i64 p.p4, .int .i64 p.p5] 35))
    clear hb C0 C1 CH
    have c1 := D1.out.cell
    go_wp2_with fail
    clear c1
    generalize w4.alloc (.cells #[.int .i64 p.p0, .int .i64 p.p1, .int .i64 p.p2, .int .i64 p.p3, .int .i64 p.p4, .int .i64 p.p5] 35) = w0 at *
    have c0 := keepC D0.out (Below.refl _ _)
    have hsz : w.heap.size + 1 ≤ w0.heap.size := D0.out.lt
    have hE0 := Lib.hid (fun (W : World) (hb : Below (w.heap.size + 1) w0 W) => HE.out.below (DH.out.trans (hb.mono (Nat.le_succ _))))
    go_region_held3 (fun w' => w'.cell? ⟨w.heap.size, 0, none⟩ = some (.int .i64 c.g) ∧ w'.cell? ⟨w.heap.size, 1, none⟩ = some (.int .i64 c.x) ∧ w'.cell? ⟨w.heap.size, 2, none⟩ = some (.int .i64 c.c0) ∧ w'.cell? ⟨w.heap.size, 3, none⟩ = some (.int .i64 c.c1) ∧ w'.cell? ⟨w.heap.size, 4, none⟩ = some (.int .i64 c.c2) ∧ w'.cell? ⟨w.heap.size, 5, none⟩ = some (.int .i64 c.c3) ∧ w'.cell? ⟨w.heap.size, 6, none⟩ = some (.int .i64 c.c4))
      (first | (with_reducible exact c0) | (with_reducible exact keepC D0.out hb1) | (with_reducible exact keepC D0.out (Below.drew hb1)) | go_keep)
      (first
        | (go_at_call 17; refine (fromBase (C := w.heap.size + 1) (w0 := w0) ?_ hsz (manaAlive _ (hE0.out _ ?_))).mono ?_; (go_grown); (go_grown); rintro e w1 ⟨rfl, hb1⟩)
        | (go_at_call 9; refine (fromBase (C := w.heap.size + 1) (w0 := w0) ?_ hsz (G5.out _)).mono ?_; (go_grown); rintro e w1 ⟨rfl, hb1⟩)
        | (go_at_call 11; refine (fromBase (C := w.heap.size + 1) (w0 := w0) ?_ hsz (G1.out _ (hE0.out _ ?_))).mono ?_; (go_grown); (go_grown); rintro e w1 ⟨rfl, hb1⟩))
    all_goals
      go_wp2
      go_ret
      exact ⟨rfl, DH.out.trans (Below.mono (by go_grown) (by omega : w.heap.size ≤ w.heap.size + 1))⟩
theorem text_empty (c : Mana.Cst) : (Mana.textL c == []) = !Mana.okC c := by
  cases h : Mana.okC c with
  | true => simpa using Mana.text_ne h
  | false => rw [Mana.text_no h]; rfl
theorem lawManaBack (c : Mana.Cst) (p : Mana.Pl) (w : World) (hE : Env w) :
    Calls Tryd.prog 5 #[.agg #[.int .i64 c.g, .int .i64 c.x, .int .i64 c.c0, .int .i64 c.c1, .int .i64 c.c2, .int .i64 c.c3, .int .i64 c.c4], .agg #[.int .i64 p.p0, .int .i64 p.p1, .int .i64 p.p2, .int .i64 p.p3, .int .i64 p.p4, .int .i64 p.p5]] w fun e w' => e = .returned (.bool true) ∧ Below w.heap.size w w' :=
  lawBackAny c p _ _ _ _ w hE (text_empty c) (text_empty (Mana.poolC p)) (fun w hE => manaText c w hE) (fun h w hE => parseBack c h w hE) (fun w hE => manaPoolText p w hE) (fun h w hE => parsePoolBack p h w hE) (fun w => manaIs c w)
end Go.Proofs.YtcllaenanihedaaDoor
