/-
  CONTRACTS OF LAYER 13's REFERENCE: apart, bound, Is. By an AI agent.
-/
import Derived.Test.YtkohfomiigcifaaGreatDoorFilIs
import Derived.Test.YtkohfomiigcifaaGreatDoorFLineR
namespace Go.Proofs.YtkohfomiigcifaaGreatDoor
open Go.RowKit
open Wd (Bs)

/-- no common bit below k -/
def apartTo (a b : Nat) : Nat → Bool
  | 0 => true
  | k + 1 => apartTo a b k && !(Num.bitB a k && Num.bitB b k)
theorem apart_all : ∀ a, a < 64 → ∀ b, b < 64 → (a &&& b == 0) = apartTo a b 6 := by decide +kernel
theorem apart_down {a b k : Nat} (h : apartTo a b k = false) : ∀ d, k + d = 6 → apartTo a b 6 = false := by
  have key : ∀ d, apartTo a b (k + d) = false := by
    intro d
    induction d with
    | zero => exact h
    | succ d ih => show (apartTo a b (k + d) && _) = false; rw [ih]; rfl
  intro d hd
  rw [← hd]; exact key d
set_option maxHeartbeats 1000000 in
set_option maxRecDepth 100000 in
theorem refApart (x y top : Int) (ht : top ≤ 63) (w : World) :
    Calls Tryz.prog 78 #[.int .i64 x, .int .i64 y, .int .i64 top] w fun e w' => e = .returned (.bool (Fil.masksB x y top)) ∧ w = w' := by
  rcases Int.lt_or_le x 0 with h0 | h0
  · have HR : Hid (Fil.masksB x y top = false) := Lib.hid (by unfold Fil.masksB Fil.within; rw [show decide (0 ≤ x) = false by simp; omega]; rfl)
    go_enter Tryz.func78, Tryz.ntmps78
    go_wp2_with fail
    go_ret
    exact ⟨ret_bool HR.out.symm, rfl⟩
  · rcases Int.lt_or_le top x with h1 | h1
    · have HR : Hid (Fil.masksB x y top = false) := Lib.hid (by unfold Fil.masksB Fil.within; rw [show decide (x ≤ top) = false by simp; omega]; simp)
      go_enter Tryz.func78, Tryz.ntmps78
      go_wp2_with fail
      go_ret
      exact ⟨ret_bool HR.out.symm, rfl⟩
    · rcases Int.lt_or_le y 0 with h2 | h2
      · have HR : Hid (Fil.masksB x y top = false) := Lib.hid (by unfold Fil.masksB Fil.within; rw [show decide (0 ≤ y) = false by simp; omega]; simp)
        go_enter Tryz.func78, Tryz.ntmps78
        go_wp2_with fail
        go_ret
        exact ⟨ret_bool HR.out.symm, rfl⟩
      · rcases Int.lt_or_le top y with h3 | h3
        · have HR : Hid (Fil.masksB x y top = false) := Lib.hid (by unfold Fil.masksB Fil.within; rw [show decide (y ≤ top) = false by simp; omega]; simp)
          go_enter Tryz.func78, Tryz.ntmps78
          go_wp2_with fail
          go_ret
          exact ⟨ret_bool HR.out.symm, rfl⟩
        · obtain ⟨m, rfl⟩ : ∃ m : Nat, x = (m : Int) := ⟨x.toNat, by omega⟩
          obtain ⟨n, rfl⟩ : ∃ n : Nat, y = (n : Int) := ⟨y.toNat, by omega⟩
          have HR : Hid (Fil.masksB (m : Int) (n : Int) top = apartTo m n 6) := Lib.hid (by
            unfold Fil.masksB
            rw [Fil.within_iff.2 ⟨h0, h1⟩, Fil.within_iff.2 ⟨h2, h3⟩]
            show (true && true && (m &&& n == 0)) = _
            rw [apart_all m (by omega) n (by omega)]; rfl)
          go_enter Tryz.func78, Tryz.ntmps78
          go_wp2_with fail
          go_loop [0, 1, 7] (fun xv yv iv => ∃ k a b : Nat, k ≤ 6 ∧ a ≤ 63 ∧ b ≤ 63 ∧ iv = .int .i64 (k : Int) ∧ xv = .int .i64 (a : Int) ∧ yv = .int .i64 (b : Int) ∧ Hid (Num.HalfRel m k a ∧ Num.HalfRel n k b ∧ apartTo m n k = true)) (fun _ _ iv => 6 - (intOf iv).toNat)
          case atStart => exact ⟨0, m, n, by omega, by omega, by omega, rfl, rfl, rfl, Lib.hid ⟨Num.halfRel_start m, Num.halfRel_start n, rfl⟩⟩
          case round =>
            obtain ⟨k, a, b, hk, ha, hb, rfl, rfl, rfl, HK⟩ := hrel
            have ha1 : (a : Int) ≤ 9223372036854775807 := by omega
            have hb1 : (b : Int) ≤ 9223372036854775807 := by omega
            by_cases hlt : k < 6
            · have ta := Num.half_test a
              have tb := Num.half_test b
              have HA := Lib.hid (Num.halfRel_bit HK.out.1)
              have HB := Lib.hid (Num.halfRel_bit HK.out.2.1)
              have HNA := Lib.hid (Num.halfRel_step HK.out.1)
              have HNB := Lib.hid (Num.halfRel_step HK.out.2.1)
              cases ea : a % 2 == 1 with
              | false =>
                rw [ea] at ta
                have HN : Hid (apartTo m n (k + 1) = true) := Lib.hid (by show (apartTo m n k && _) = true; rw [HK.out.2.2, ← HA.out, ea]; rfl)
                clear ea tb
                go_wp2_with fail
                go_round
                case rel => exact ⟨k + 1, a / 2, b / 2, by omega, by omega, by omega, by go_num, by go_num, by go_num, Lib.hid ⟨HNA.out, HNB.out, HN.out⟩⟩
                case measure => simp [intOf]; omega
              | true =>
                rw [ea] at ta
                cases eb : b % 2 == 1 with
                | false =>
                  rw [eb] at tb
                  have HN : Hid (apartTo m n (k + 1) = true) := Lib.hid (by show (apartTo m n k && _) = true; rw [HK.out.2.2, ← HA.out, ← HB.out, ea, eb]; rfl)
                  clear ea eb
                  go_wp2_with fail
                  go_round
                  case rel => exact ⟨k + 1, a / 2, b / 2, by omega, by omega, by omega, by go_num, by go_num, by go_num, Lib.hid ⟨HNA.out, HNB.out, HN.out⟩⟩
                  case measure => simp [intOf]; omega
                | true =>
                  rw [eb] at tb
                  have HN : Hid (apartTo m n 6 = false) := Lib.hid (by
                    have h1 : apartTo m n (k + 1) = false := by show (apartTo m n k && _) = false; rw [← HA.out, ← HB.out, ea, eb]; simp
                    exact apart_down h1 (6 - (k + 1)) (by omega))
                  clear ea eb
                  go_wp2_with fail
                  go_ret
                  exact ⟨ret_bool (by rw [HR.out, HN.out]), rfl⟩
            · obtain rfl : k = 6 := by omega
              go_wp2_with fail
              go_ret
              exact ⟨ret_bool (by rw [HR.out, HK.out.2.2]), rfl⟩
theorem refBound (b : Fil.Bd) (w : World) :
    Calls Tryz.prog 80 #[.agg #[.int .i64 b.kind, .int .i64 b.n]] w fun e w' => e = .returned (.bool (Fil.bdB b)) ∧ Below w.heap.size w w' := by
  have HB : Hid (Below w.heap.size w (w.alloc (.cells #[.int .i64 b.kind, .int .i64 b.n] 23))) := Lib.hid ((Below.refl _ _).alloc (Nat.le_refl _) _)
  by_cases hv : 0 ≤ b.kind ∧ b.kind ≤ 3 ∧ 0 ≤ b.n ∧ b.n ≤ 1000000
  · obtain ⟨h0, h1, h2, h3⟩ := hv
    obtain ⟨k, n⟩ := b
    change 0 ≤ k at h0; change k ≤ 3 at h1; change 0 ≤ n at h2; change n ≤ 1000000 at h3
    by_cases hk : k = 0
    · subst hk
      by_cases hn : n = 0
      · subst hn
        have HR : Hid (Fil.bdB ⟨0, 0⟩ = true) := Lib.hid (by decide)
        clear HB
        go_enter Tryz.func80, Tryz.ntmps80
        go_wp2_with fail
        go_ret
        exact ⟨ret_bool HR.out.symm, (Below.refl _ _).alloc (Nat.le_refl _) _⟩
      · have HR : Hid (Fil.bdB ⟨0, n⟩ = false) := Lib.hid (by unfold Fil.bdB; simp [hn])
        clear HB
        have hn' : (n == 0) = false := by simp [hn]
        go_enter Tryz.func80, Tryz.ntmps80
        go_wp2_with fail
        go_ret
        exact ⟨ret_bool HR.out.symm, (Below.refl _ _).alloc (Nat.le_refl _) _⟩
    · have HR : Hid (Fil.bdB ⟨k, n⟩ = true) := Lib.hid (by
        unfold Fil.bdB; rw [Fil.within_iff.2 ⟨h0, h1⟩, Fil.within_iff.2 ⟨h2, h3⟩]; simp [hk])
      clear HB
      have hk' : (k == 0) = false := by simp [hk]
      go_enter Tryz.func80, Tryz.ntmps80
      go_wp2_with fail
      go_ret
      exact ⟨ret_bool HR.out.symm, (Below.refl _ _).alloc (Nat.le_refl _) _⟩
  · have HR : Hid (Fil.bdB b = false) := Lib.hid (by
      cases hb : Fil.bdB b with
      | false => rfl
      | true =>
        have := Fil.bd_valid hb
        exact absurd ⟨this.1, this.2.1, this.2.2.1, this.2.2.2.1⟩ hv)
    rcases Int.lt_or_le b.kind 0 with h0 | h0
    · clear hv
      go_enter Tryz.func80, Tryz.ntmps80
      go_wp2_with fail
      go_ret
      exact ⟨ret_bool HR.out.symm, HB.out⟩
    · rcases Int.lt_or_le 3 b.kind with h1 | h1
      · clear hv
        go_enter Tryz.func80, Tryz.ntmps80
        go_wp2_with fail
        go_ret
        exact ⟨ret_bool HR.out.symm, HB.out⟩
      · rcases Int.lt_or_le b.n 0 with h2 | h2
        · clear hv
          go_enter Tryz.func80, Tryz.ntmps80
          go_wp2_with fail
          go_ret
          exact ⟨ret_bool HR.out.symm, HB.out⟩
        · have h3 : 1000000 < b.n := by omega
          clear hv
          go_enter Tryz.func80, Tryz.ntmps80
          go_wp2_with fail
          go_ret
          exact ⟨ret_bool HR.out.symm, HB.out⟩
set_option maxHeartbeats 4000000 in
set_option maxRecDepth 100000 in
theorem refIs13 (f : Fil.Flt) (fs : ByteArray) (hf : f.sub = fs.data.toList) (hs : fs.size ≤ maxLen) (w : World) :
    Calls Tryz.prog 50 #[.agg #[.int .i64 f.zone, .int .i64 f.who, .int .i64 f.self, .int .i64 f.types, .int .i64 f.ntypes, .int .i64 f.colors, .int .i64 f.ncolors, .string fs, .int .i64 f.keys, .int .i64 f.tap, .int .i64 f.pow.kind, .int .i64 f.pow.n, .int .i64 f.tough.kind, .int .i64 f.tough.n, .int .i64 f.val.kind, .int .i64 f.val.n]] w fun e w' => e = .returned (.bool (Fil.validB f)) ∧ Below w.heap.size w w' := by
  obtain ⟨b0, H0⟩ : ∃ b, Hid (Fil.within f.zone 5 = b) := ⟨_, Lib.hid rfl⟩
  obtain ⟨b1, H1⟩ : ∃ b, Hid (Fil.within f.who 2 = b) := ⟨_, Lib.hid rfl⟩
  obtain ⟨b2, H2⟩ : ∃ b, Hid (Fil.within f.self 2 = b) := ⟨_, Lib.hid rfl⟩
  obtain ⟨b3, H3⟩ : ∃ b, Hid (Fil.within f.tap 2 = b) := ⟨_, Lib.hid rfl⟩
  obtain ⟨b4, H4⟩ : ∃ b, Hid (Fil.masksB f.types f.ntypes 63 = b) := ⟨_, Lib.hid rfl⟩
  obtain ⟨b5, H5⟩ : ∃ b, Hid (Fil.masksB f.colors f.ncolors 31 = b) := ⟨_, Lib.hid rfl⟩
  obtain ⟨b6, H6⟩ : ∃ b, Hid (Fil.subB f.sub = b) := ⟨_, Lib.hid rfl⟩
  obtain ⟨b7, H7⟩ : ∃ b, Hid (Kw.validB f.keys = b) := ⟨_, Lib.hid rfl⟩
  obtain ⟨b8, H8⟩ : ∃ b, Hid (Fil.bdB f.pow = b) := ⟨_, Lib.hid rfl⟩
  obtain ⟨b9, H9⟩ : ∃ b, Hid (Fil.bdB f.tough = b) := ⟨_, Lib.hid rfl⟩
  obtain ⟨b10, H10⟩ : ∃ b, Hid (Fil.bdB f.val = b) := ⟨_, Lib.hid rfl⟩
  have R : Hid (Fil.validB f = (b0 && (b1 && (b2 && (b3 && (b4 && (b5 && (b6 && (b7 && (b8 && (b9 && b10))))))))))) := Lib.hid (by unfold Fil.validB; rw [H0.out, H1.out, H2.out, H3.out, H4.out, H5.out, H6.out, H7.out, H8.out, H9.out, H10.out]; simp only [Bool.and_assoc])
  have HB0 : Hid (Below w.heap.size w (w.alloc (.cells #[.int .i64 f.zone, .int .i64 f.who, .int .i64 f.self, .int .i64 f.types, .int .i64 f.ntypes, .int .i64 f.colors, .int .i64 f.ncolors, .string fs, .int .i64 f.keys, .int .i64 f.tap, .int .i64 f.pow.kind, .int .i64 f.pow.n, .int .i64 f.tough.kind, .int .i64 f.tough.n, .int .i64 f.val.kind, .int .i64 f.val.n] 25))) := Lib.hid ((Below.refl _ _).alloc (Nat.le_refl _) _)
  have HX0 : Hid (Below (w.alloc (.cells #[.int .i64 f.zone, .int .i64 f.who, .int .i64 f.self, .int .i64 f.types, .int .i64 f.ntypes, .int .i64 f.colors, .int .i64 f.ncolors, .string fs, .int .i64 f.keys, .int .i64 f.tap, .int .i64 f.pow.kind, .int .i64 f.pow.n, .int .i64 f.tough.kind, .int .i64 f.tough.n, .int .i64 f.val.kind, .int .i64 f.val.n] 25)).heap.size (w.alloc (.cells #[.int .i64 f.zone, .int .i64 f.who, .int .i64 f.self, .int .i64 f.types, .int .i64 f.ntypes, .int .i64 f.colors, .int .i64 f.ncolors, .string fs, .int .i64 f.keys, .int .i64 f.tap, .int .i64 f.pow.kind, .int .i64 f.pow.n, .int .i64 f.tough.kind, .int .i64 f.tough.n, .int .i64 f.val.kind, .int .i64 f.val.n] 25)) (w.alloc (.cells #[.int .i64 f.zone, .int .i64 f.who, .int .i64 f.self, .int .i64 f.types, .int .i64 f.ntypes, .int .i64 f.colors, .int .i64 f.ncolors, .string fs, .int .i64 f.keys, .int .i64 f.tap, .int .i64 f.pow.kind, .int .i64 f.pow.n, .int .i64 f.tough.kind, .int .i64 f.tough.n, .int .i64 f.val.kind, .int .i64 f.val.n] 25))) := Lib.hid (Below.refl _ _)
  have HF := Lib.hid hf
  have HS := Lib.hid hs
  clear hf hs
  rcases Int.lt_or_le f.zone 0 with l0 | l0
  · obtain rfl : b0 = false := by rw [← H0.out]; unfold Fil.within; simp; omega
    go_enter Tryz.func50, Tryz.ntmps50
    go_wp2_with fail
    go_ret
    exact ⟨ret_bool R.out.symm, HB0.out⟩
  · rcases Int.lt_or_le 5 f.zone with u0 | u0
    · obtain rfl : b0 = false := by rw [← H0.out]; unfold Fil.within; simp; omega
      go_enter Tryz.func50, Tryz.ntmps50
      go_wp2_with fail
      go_ret
      exact ⟨ret_bool R.out.symm, HB0.out⟩
    · obtain rfl : b0 = true := by rw [← H0.out]; unfold Fil.within; simp; omega
      rcases Int.lt_or_le f.who 0 with l1 | l1
      · obtain rfl : b1 = false := by rw [← H1.out]; unfold Fil.within; simp; omega
        go_enter Tryz.func50, Tryz.ntmps50
        go_wp2_with fail
        go_ret
        exact ⟨ret_bool R.out.symm, HB0.out⟩
      · rcases Int.lt_or_le 2 f.who with u1 | u1
        · obtain rfl : b1 = false := by rw [← H1.out]; unfold Fil.within; simp; omega
          go_enter Tryz.func50, Tryz.ntmps50
          go_wp2_with fail
          go_ret
          exact ⟨ret_bool R.out.symm, HB0.out⟩
        · obtain rfl : b1 = true := by rw [← H1.out]; unfold Fil.within; simp; omega
          rcases Int.lt_or_le f.self 0 with l2 | l2
          · obtain rfl : b2 = false := by rw [← H2.out]; unfold Fil.within; simp; omega
            go_enter Tryz.func50, Tryz.ntmps50
            go_wp2_with fail
            go_ret
            exact ⟨ret_bool R.out.symm, HB0.out⟩
          · rcases Int.lt_or_le 2 f.self with u2 | u2
            · obtain rfl : b2 = false := by rw [← H2.out]; unfold Fil.within; simp; omega
              go_enter Tryz.func50, Tryz.ntmps50
              go_wp2_with fail
              go_ret
              exact ⟨ret_bool R.out.symm, HB0.out⟩
            · obtain rfl : b2 = true := by rw [← H2.out]; unfold Fil.within; simp; omega
              rcases Int.lt_or_le f.tap 0 with l3 | l3
              · obtain rfl : b3 = false := by rw [← H3.out]; unfold Fil.within; simp; omega
                go_enter Tryz.func50, Tryz.ntmps50
                go_wp2_with fail
                go_ret
                exact ⟨ret_bool R.out.symm, HB0.out⟩
              · rcases Int.lt_or_le 2 f.tap with u3 | u3
                · obtain rfl : b3 = false := by rw [← H3.out]; unfold Fil.within; simp; omega
                  go_enter Tryz.func50, Tryz.ntmps50
                  go_wp2_with fail
                  go_ret
                  exact ⟨ret_bool R.out.symm, HB0.out⟩
                · obtain rfl : b3 = true := by rw [← H3.out]; unfold Fil.within; simp; omega
                  go_enter Tryz.func50, Tryz.ntmps50
                  go_wp2_with fail
                  refine (refApart f.types f.ntypes 63 (by decide) _).mono ?_
                  rw [H4.out]
                  rintro e w1 ⟨rfl, rfl⟩
                  cases b4 with
                  | false =>
                    go_wp2_with fail
                    go_ret
                    exact ⟨ret_bool R.out.symm, HB0.out⟩
                  | true =>
                    go_wp2_with fail
                    refine (refApart f.colors f.ncolors 31 (by decide) _).mono ?_
                    rw [H5.out]
                    rintro e w1 ⟨rfl, rfl⟩
                    cases b5 with
                    | false =>
                      go_wp2_with fail
                      go_ret
                      exact ⟨ret_bool R.out.symm, HB0.out⟩
                    | true =>
                      rcases sub_cases fs with ⟨t1, e1⟩ | ⟨t1, e1⟩
                      · obtain rfl : b6 = true := by rw [← H6.out, HF.out]; unfold Fil.subB; rw [e1]; rfl
                        rcases Kw.valid_cases f.keys with ⟨m, hm, hml, hv⟩ | ⟨ho, hv⟩
                        · obtain rfl : b7 = true := by rw [← H7.out, hv]
                          have k0 : ¬ f.keys < 0 := by omega
                          have k1 : ¬ 131071 < f.keys := by omega
                          clear hm hml hv
                          go_wp2_with fail
                          refine (refBound f.pow _).mono ?_
                          rw [H8.out]
                          rintro e w8 ⟨rfl, hb⟩
                          have HX8 : Hid (Below (w.alloc (.cells #[.int .i64 f.zone, .int .i64 f.who, .int .i64 f.self, .int .i64 f.types, .int .i64 f.ntypes, .int .i64 f.colors, .int .i64 f.ncolors, .string fs, .int .i64 f.keys, .int .i64 f.tap, .int .i64 f.pow.kind, .int .i64 f.pow.n, .int .i64 f.tough.kind, .int .i64 f.tough.n, .int .i64 f.val.kind, .int .i64 f.val.n] 25)).heap.size (w.alloc (.cells #[.int .i64 f.zone, .int .i64 f.who, .int .i64 f.self, .int .i64 f.types, .int .i64 f.ntypes, .int .i64 f.colors, .int .i64 f.ncolors, .string fs, .int .i64 f.keys, .int .i64 f.tap, .int .i64 f.pow.kind, .int .i64 f.pow.n, .int .i64 f.tough.kind, .int .i64 f.tough.n, .int .i64 f.val.kind, .int .i64 f.val.n] 25)) w8) := Lib.hid (HX0.out.trans (hb.mono HX0.out.size))
                          clear hb
                          obtain ⟨hcl8, hfr8⟩ := below_cells HX8.out
                          cases b8 with
                          | false =>
                            go_wp2_with fail
                            go_ret
                            exact ⟨ret_bool R.out.symm, below_boxed HX8.out⟩
                          | true =>
                            go_wp2_with fail
                            refine (refBound f.tough _).mono ?_
                            rw [H9.out]
                            rintro e w9 ⟨rfl, hb⟩
                            have HX9 : Hid (Below (w.alloc (.cells #[.int .i64 f.zone, .int .i64 f.who, .int .i64 f.self, .int .i64 f.types, .int .i64 f.ntypes, .int .i64 f.colors, .int .i64 f.ncolors, .string fs, .int .i64 f.keys, .int .i64 f.tap, .int .i64 f.pow.kind, .int .i64 f.pow.n, .int .i64 f.tough.kind, .int .i64 f.tough.n, .int .i64 f.val.kind, .int .i64 f.val.n] 25)).heap.size (w.alloc (.cells #[.int .i64 f.zone, .int .i64 f.who, .int .i64 f.self, .int .i64 f.types, .int .i64 f.ntypes, .int .i64 f.colors, .int .i64 f.ncolors, .string fs, .int .i64 f.keys, .int .i64 f.tap, .int .i64 f.pow.kind, .int .i64 f.pow.n, .int .i64 f.tough.kind, .int .i64 f.tough.n, .int .i64 f.val.kind, .int .i64 f.val.n] 25)) w9) := Lib.hid (HX8.out.trans (hb.mono HX8.out.size))
                            clear hb
                            clear hcl8 hfr8
                            obtain ⟨hcl9, hfr9⟩ := below_cells HX9.out
                            cases b9 with
                            | false =>
                              go_wp2_with fail
                              go_ret
                              exact ⟨ret_bool R.out.symm, below_boxed HX9.out⟩
                            | true =>
                              go_wp2_with fail
                              refine (refBound f.val _).mono ?_
                              rw [H10.out]
                              rintro e w10 ⟨rfl, hb⟩
                              have HX10 : Hid (Below (w.alloc (.cells #[.int .i64 f.zone, .int .i64 f.who, .int .i64 f.self, .int .i64 f.types, .int .i64 f.ntypes, .int .i64 f.colors, .int .i64 f.ncolors, .string fs, .int .i64 f.keys, .int .i64 f.tap, .int .i64 f.pow.kind, .int .i64 f.pow.n, .int .i64 f.tough.kind, .int .i64 f.tough.n, .int .i64 f.val.kind, .int .i64 f.val.n] 25)).heap.size (w.alloc (.cells #[.int .i64 f.zone, .int .i64 f.who, .int .i64 f.self, .int .i64 f.types, .int .i64 f.ntypes, .int .i64 f.colors, .int .i64 f.ncolors, .string fs, .int .i64 f.keys, .int .i64 f.tap, .int .i64 f.pow.kind, .int .i64 f.pow.n, .int .i64 f.tough.kind, .int .i64 f.tough.n, .int .i64 f.val.kind, .int .i64 f.val.n] 25)) w10) := Lib.hid (HX9.out.trans (hb.mono HX9.out.size))
                              clear hb
                              go_wp2_with fail
                              go_ret
                              exact ⟨ret_bool R.out.symm, below_boxed HX10.out⟩
                        · obtain rfl : b7 = false := by rw [← H7.out, hv]
                          rcases ho with ho | ho
                          · have hv' : f.keys < 0 := ho
                            clear hv
                            go_wp2_with fail
                            go_ret
                            exact ⟨ret_bool R.out.symm, HB0.out⟩
                          · have hv' : ¬ f.keys < 0 := by omega
                            clear hv
                            go_wp2_with fail
                            go_ret
                            exact ⟨ret_bool R.out.symm, HB0.out⟩
                      · have HI : Hid (Ln.isSub fs.data.toList = b6) := Lib.hid (by rw [← H6.out, HF.out]; unfold Fil.subB; simp [e1])
                        go_wp2_with fail
                        refine (refIsSub fs _ HS.out).mono ?_
                        rw [HI.out]
                        rintro e ws ⟨rfl, hb⟩
                        have HXS : Hid (Below (w.alloc (.cells #[.int .i64 f.zone, .int .i64 f.who, .int .i64 f.self, .int .i64 f.types, .int .i64 f.ntypes, .int .i64 f.colors, .int .i64 f.ncolors, .string fs, .int .i64 f.keys, .int .i64 f.tap, .int .i64 f.pow.kind, .int .i64 f.pow.n, .int .i64 f.tough.kind, .int .i64 f.tough.n, .int .i64 f.val.kind, .int .i64 f.val.n] 25)).heap.size (w.alloc (.cells #[.int .i64 f.zone, .int .i64 f.who, .int .i64 f.self, .int .i64 f.types, .int .i64 f.ntypes, .int .i64 f.colors, .int .i64 f.ncolors, .string fs, .int .i64 f.keys, .int .i64 f.tap, .int .i64 f.pow.kind, .int .i64 f.pow.n, .int .i64 f.tough.kind, .int .i64 f.tough.n, .int .i64 f.val.kind, .int .i64 f.val.n] 25)) ws) := Lib.hid (HX0.out.trans (hb.mono HX0.out.size))
                        clear hb HX0
                        have HX0 := HXS
                        obtain ⟨hcls, hfrs⟩ := below_cells HX0.out
                        cases b6 with
                        | false =>
                          go_wp2_with fail
                          go_ret
                          exact ⟨ret_bool R.out.symm, below_boxed HX0.out⟩
                        | true =>
                          rcases Kw.valid_cases f.keys with ⟨m, hm, hml, hv⟩ | ⟨ho, hv⟩
                          · obtain rfl : b7 = true := by rw [← H7.out, hv]
                            have k0 : ¬ f.keys < 0 := by omega
                            have k1 : ¬ 131071 < f.keys := by omega
                            clear hm hml hv
                            go_wp2_with fail
                            refine (refBound f.pow _).mono ?_
                            rw [H8.out]
                            rintro e w8 ⟨rfl, hb⟩
                            have HX8 : Hid (Below (w.alloc (.cells #[.int .i64 f.zone, .int .i64 f.who, .int .i64 f.self, .int .i64 f.types, .int .i64 f.ntypes, .int .i64 f.colors, .int .i64 f.ncolors, .string fs, .int .i64 f.keys, .int .i64 f.tap, .int .i64 f.pow.kind, .int .i64 f.pow.n, .int .i64 f.tough.kind, .int .i64 f.tough.n, .int .i64 f.val.kind, .int .i64 f.val.n] 25)).heap.size (w.alloc (.cells #[.int .i64 f.zone, .int .i64 f.who, .int .i64 f.self, .int .i64 f.types, .int .i64 f.ntypes, .int .i64 f.colors, .int .i64 f.ncolors, .string fs, .int .i64 f.keys, .int .i64 f.tap, .int .i64 f.pow.kind, .int .i64 f.pow.n, .int .i64 f.tough.kind, .int .i64 f.tough.n, .int .i64 f.val.kind, .int .i64 f.val.n] 25)) w8) := Lib.hid (HX0.out.trans (hb.mono HX0.out.size))
                            clear hb
                            clear hcls hfrs
                            obtain ⟨hcl8, hfr8⟩ := below_cells HX8.out
                            cases b8 with
                            | false =>
                              go_wp2_with fail
                              go_ret
                              exact ⟨ret_bool R.out.symm, below_boxed HX8.out⟩
                            | true =>
                              go_wp2_with fail
                              refine (refBound f.tough _).mono ?_
                              rw [H9.out]
                              rintro e w9 ⟨rfl, hb⟩
                              have HX9 : Hid (Below (w.alloc (.cells #[.int .i64 f.zone, .int .i64 f.who, .int .i64 f.self, .int .i64 f.types, .int .i64 f.ntypes, .int .i64 f.colors, .int .i64 f.ncolors, .string fs, .int .i64 f.keys, .int .i64 f.tap, .int .i64 f.pow.kind, .int .i64 f.pow.n, .int .i64 f.tough.kind, .int .i64 f.tough.n, .int .i64 f.val.kind, .int .i64 f.val.n] 25)).heap.size (w.alloc (.cells #[.int .i64 f.zone, .int .i64 f.who, .int .i64 f.self, .int .i64 f.types, .int .i64 f.ntypes, .int .i64 f.colors, .int .i64 f.ncolors, .string fs, .int .i64 f.keys, .int .i64 f.tap, .int .i64 f.pow.kind, .int .i64 f.pow.n, .int .i64 f.tough.kind, .int .i64 f.tough.n, .int .i64 f.val.kind, .int .i64 f.val.n] 25)) w9) := Lib.hid (HX8.out.trans (hb.mono HX8.out.size))
                              clear hb
                              clear hcl8 hfr8
                              obtain ⟨hcl9, hfr9⟩ := below_cells HX9.out
                              cases b9 with
                              | false =>
                                go_wp2_with fail
                                go_ret
                                exact ⟨ret_bool R.out.symm, below_boxed HX9.out⟩
                              | true =>
                                go_wp2_with fail
                                refine (refBound f.val _).mono ?_
                                rw [H10.out]
                                rintro e w10 ⟨rfl, hb⟩
                                have HX10 : Hid (Below (w.alloc (.cells #[.int .i64 f.zone, .int .i64 f.who, .int .i64 f.self, .int .i64 f.types, .int .i64 f.ntypes, .int .i64 f.colors, .int .i64 f.ncolors, .string fs, .int .i64 f.keys, .int .i64 f.tap, .int .i64 f.pow.kind, .int .i64 f.pow.n, .int .i64 f.tough.kind, .int .i64 f.tough.n, .int .i64 f.val.kind, .int .i64 f.val.n] 25)).heap.size (w.alloc (.cells #[.int .i64 f.zone, .int .i64 f.who, .int .i64 f.self, .int .i64 f.types, .int .i64 f.ntypes, .int .i64 f.colors, .int .i64 f.ncolors, .string fs, .int .i64 f.keys, .int .i64 f.tap, .int .i64 f.pow.kind, .int .i64 f.pow.n, .int .i64 f.tough.kind, .int .i64 f.tough.n, .int .i64 f.val.kind, .int .i64 f.val.n] 25)) w10) := Lib.hid (HX9.out.trans (hb.mono HX9.out.size))
                                clear hb
                                go_wp2_with fail
                                go_ret
                                exact ⟨ret_bool R.out.symm, below_boxed HX10.out⟩
                          · obtain rfl : b7 = false := by rw [← H7.out, hv]
                            rcases ho with ho | ho
                            · have hv' : f.keys < 0 := ho
                              clear hv
                              go_wp2_with fail
                              go_ret
                              exact ⟨ret_bool R.out.symm, below_boxed HX0.out⟩
                            · have hv' : ¬ f.keys < 0 := by omega
                              clear hv
                              go_wp2_with fail
                              go_ret
                              exact ⟨ret_bool R.out.symm, below_boxed HX0.out⟩
end Go.Proofs.YtkohfomiigcifaaGreatDoor
