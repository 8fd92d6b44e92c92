/-
  CONTRACTS OF LAYER 8 (mana): Text, of the program and of the reference. By an AI agent.
-/
import Derived.Test.YtcllaenanihedaaDoorManaWalksB
import Derived.Test.YtcllaenanihedaaDoorManaText
import Derived.Test.YtcllaenanihedaaDoorNumWalksB
namespace Go.Proofs.YtcllaenanihedaaDoor
open Go.RowKit

theorem ret_str' {a b : List UInt8} (h : a = b) : Ending.returned (.string ⟨b.toArray⟩) = .returned (.string ⟨a.toArray⟩) := by rw [h]
theorem repeatOne (b : UInt8) : ∀ n, Lib.repeatL [b] n = List.replicate n b
  | 0 => rfl
  | n + 1 => by rw [Lib.repeatL, repeatOne b n]; rfl
theorem strRepeat (b : UInt8) (n : Int) (h0 : 0 ≤ n) (h1 : n ≤ 9) (w : World) :
    Calls Tryd.prog 32 #[.string ⟨#[b]⟩, .int .i64 n] w fun e w' => e = .returned (.string ⟨(Mana.rep b n).toArray⟩) ∧ Below w.heap.size w w' := by
  obtain ⟨k, rfl⟩ : ∃ k : Nat, n = (k : Int) := ⟨n.toNat, by omega⟩
  refine (Tryd.strings_Repeat ⟨#[b]⟩ k w (by omega) (by show 1 * k ≤ _; omega)).mono fun e w' ⟨h1, h2⟩ => ⟨?_, h2⟩
  rw [h1]
  refine ret_str ?_
  show Lib.repeatL [b] k = _
  rw [repeatOne]
  simp [Mana.rep]
theorem extractLetter (k : Nat) (hk : k < 5) : (⟨#[65, 67, 74, 82, 69]⟩ : ByteArray).extract k (k + 1) = ⟨#[Mana.letter k]⟩ := by
  match k, hk with
  | 0, _ => rfl
  | 1, _ => rfl
  | 2, _ => rfl
  | 3, _ => rfl
  | 4, _ => rfl
theorem strRepeatAt (k : Nat) (hk : k < 5) (n : Int) (h0 : 0 ≤ n) (h1 : n ≤ 9) (w : World) :
    Calls Tryd.prog 32 #[.string ((⟨#[65, 67, 74, 82, 69]⟩ : ByteArray).extract k (k + 1)), .int .i64 n] w fun e w' => e = .returned (.string ⟨(Mana.rep (Mana.letter k) n).toArray⟩) ∧ Below w.heap.size w w' := by
  rw [extractLetter k hk]
  exact strRepeat _ n h0 h1 w
set_option maxHeartbeats 1000000 in
set_option maxRecDepth 100000 in
theorem manaText (c : Mana.Cst) (w : World) (hE : Env w) :
    Calls Tryd.prog 11 #[.agg #[.int .i64 c.g, .int .i64 c.x, .int .i64 c.c0, .int .i64 c.c1, .int .i64 c.c2, .int .i64 c.c3, .int .i64 c.c4]] w fun e w' => e = .returned (.string ⟨(Mana.textL c).toArray⟩) ∧ Below w.heap.size w w' := by
  cases hok : Mana.okC c with
  | false =>
    have HO := Lib.hid hok
    have HV := Lib.hid (Mana.text_no hok)
    clear hok
    go_enter Tryd.func11, Tryd.ntmps11
    go_wp2_with fail
    refine (manaIs c _).mono ?_
    rintro e w1 ⟨rfl, hb⟩
    rw [HO.out]
    go_wp2
    go_ret
    exact ⟨by rw [HV.out]; rfl, below_boxed hb⟩
  | true =>
    have HO := Lib.hid hok
    obtain ⟨⟨g0, g1⟩, ⟨x0, x1⟩, -⟩ := Mana.okC_iff.1 hok
    have HC := Lib.hid (Mana.okC_col hok)
    have HL := Lib.hid (Mana.body_len hok)
    have HE := Lib.hid (hE.below ((Below.refl w.heap.size w).alloc (Nat.le_refl _) (.cells #[.int .i64 c.g, .int .i64 c.x, .int .i64 c.c0, .int .i64 c.c1, .int .i64 c.c2, .int .i64 c.c3, .int .i64 c.c4] 24)))
    clear hok hE
    go_enter Tryd.func11, Tryd.ntmps11
    go_wp2_with fail
    refine (manaIs c _).mono ?_
    rintro e w1 ⟨rfl, hb⟩
    rw [HO.out]
    have HB := Lib.hid hb
    obtain ⟨hcl, hfr⟩ := below_cells hb
    clear hb
    go_wp2_with fail
    refine (strRepeat 88 _ x0 (by omega) _).mono ?_
    rintro e w2 ⟨rfl, hb2⟩
    have HB2 := Lib.hid (HB.out.trans (hb2.mono HB.out.size))
    have HE2 := Lib.hid (HE.out.below HB2.out)
    obtain ⟨hcl2, hfr2⟩ := below_cells HB2.out
    clear hcl hfr hb2 HE HB
    by_cases hg : 0 < c.g
    · have HG : Hid (Mana.bodyTo c 0 = Mana.rep 88 c.x ++ Lib.itoa c.g) := Lib.hid (by rw [Mana.body_zero, Mana.genL, if_pos hg])
      have hxl : (Mana.rep 88 c.x).length ≤ 9 := Mana.rep_len9 88 (by omega)
      have hgl : (Lib.itoa c.g).length ≤ 2 := by have := Mana.gen_len g1; rw [Mana.genL, if_pos hg] at this; exact this
      go_wp2_with fail
      refine (numText c.g (by omega) (by omega) _ HE2.out).mono ?_
      rintro e w3 ⟨rfl, hb3⟩
      have HB3 := Lib.hid (HB2.out.trans (hb3.mono HB2.out.size))
      have HW := Lib.hid (below_boxed HB3.out)
      obtain ⟨hcl3, hfr3⟩ := below_cells HB3.out
      clear hcl2 hfr2 hb3 HE2
      go_wp2
      go_loopw [3, 22] (fun s i wr => ∃ k : Nat, k ≤ 5 ∧ i = .int .i64 (k : Int) ∧ s = .string ⟨(Mana.bodyTo c k).toArray⟩ ∧ Below w.heap.size w wr) (fun _ i _ => 5 - (intOf i).toNat)
      case atStart => exact ⟨0, by omega, rfl, by rw [HG.out]; exact congrArg Value.string (str_cat _ _), HW.out⟩
      case round =>
        obtain ⟨k, hk, rfl, rfl, hb⟩ := hrel
        have HBW := Lib.hid hb
        clear hb
        have hlen := HL.out k hk
        by_cases hlt : k < 5
        · have hi := index5 c k hlt
          obtain ⟨n0, n1⟩ := HC.out k
          have hrl := Mana.rep_len9 (Mana.letter k) n1
          have HS := Lib.hid (Mana.body_succ c k)
          go_wp2_with fail
          refine (strRepeatAt k hlt _ n0 n1 _).mono ?_
          rintro e w5 ⟨rfl, hb5⟩
          have HB5 := Lib.hid (HBW.out.trans (hb5.mono HBW.out.size))
          clear hb5
          go_wp2
          go_roundw
          case rel => exact ⟨k + 1, by omega, by go_num, by rw [HS.out]; exact congrArg Value.string (str_cat _ _), HB5.out⟩
          case measure => simp [intOf]; omega
        · obtain rfl : k = 5 := by omega
          by_cases hn : Mana.bodyTo c 5 = []
          · have HN := Lib.hid (Mana.text_nil HO.out hn)
            have t1 : ((Mana.bodyTo c 5) == []) = true := by rw [hn]; rfl
            have HNN := Lib.hid hn
            clear hn
            go_wp2
            go_ret
            exact ⟨ret_str' HN.out, HBW.out⟩
          · have HN := Lib.hid (Mana.text_body HO.out hn)
            have t1 : ((Mana.bodyTo c 5) == []) = false := by simpa using hn
            have HNN := Lib.hid hn
            clear hn
            go_wp2
            go_ret
            exact ⟨ret_str' HN.out, HBW.out⟩
    · have HG : Hid (Mana.bodyTo c 0 = Mana.rep 88 c.x) := Lib.hid (by rw [Mana.body_zero, Mana.genL, if_neg hg, List.append_nil])
      have HW := Lib.hid (below_boxed HB2.out)
      go_wp2
      go_loopw [3, 22] (fun s i wr => ∃ k : Nat, k ≤ 5 ∧ i = .int .i64 (k : Int) ∧ s = .string ⟨(Mana.bodyTo c k).toArray⟩ ∧ Below w.heap.size w wr) (fun _ i _ => 5 - (intOf i).toNat)
      case atStart => exact ⟨0, by omega, rfl, by rw [HG.out], HW.out⟩
      case round =>
        obtain ⟨k, hk, rfl, rfl, hb⟩ := hrel
        have HBW := Lib.hid hb
        clear hb
        have hlen := HL.out k hk
        by_cases hlt : k < 5
        · have hi := index5 c k hlt
          obtain ⟨n0, n1⟩ := HC.out k
          have hrl := Mana.rep_len9 (Mana.letter k) n1
          have HS := Lib.hid (Mana.body_succ c k)
          go_wp2_with fail
          refine (strRepeatAt k hlt _ n0 n1 _).mono ?_
          rintro e w5 ⟨rfl, hb5⟩
          have HB5 := Lib.hid (HBW.out.trans (hb5.mono HBW.out.size))
          clear hb5
          go_wp2
          go_roundw
          case rel => exact ⟨k + 1, by omega, by go_num, by rw [HS.out]; exact congrArg Value.string (str_cat _ _), HB5.out⟩
          case measure => simp [intOf]; omega
        · obtain rfl : k = 5 := by omega
          by_cases hn : Mana.bodyTo c 5 = []
          · have HN := Lib.hid (Mana.text_nil HO.out hn)
            have t1 : ((Mana.bodyTo c 5) == []) = true := by rw [hn]; rfl
            have HNN := Lib.hid hn
            clear hn
            go_wp2
            go_ret
            exact ⟨ret_str' HN.out, HBW.out⟩
          · have HN := Lib.hid (Mana.text_body HO.out hn)
            have t1 : ((Mana.bodyTo c 5) == []) = false := by simpa using hn
            have HNN := Lib.hid hn
            clear hn
            go_wp2
            go_ret
            exact ⟨ret_str' HN.out, HBW.out⟩
end Go.Proofs.YtcllaenanihedaaDoor
