/-
  CONTRACTS OF LAYER 1 (num) that layer 13 reaches: Text, Number; what the listed variables give. By an AI agent.
-/
import Derived.Test.YtokenooggmnbaaaDoorWordPlain
import Derived.Test.YtokenooggmnbaaaDoorNumPlain
import Derived.Test.YtokenooggmnbaaaDoorStrs
import Derived.Test.YtokenooggmnbaaaDoorShelf
import Derived.WalkKit
import Derived.WalkLawsBesides
import Derived.BigQuiet
import Derived.Deep.QuietTactic
import Derived.Handy
import Derived.Lib.Hide
import Derived.OwnWalk
import Derived.WalkSpells
import Derived.Lib.SmallJoins
import Derived.Lib.AppendIntMem
import Derived.Test.YtokenooggmnbaaaDoorNumText
import Derived.Laws.IdiomStrings
import Derived.Lib.Strings
namespace Go.Proofs.YtokenooggmnbaaaDoor
open Go.RowKit
open Wd (Bs)


theorem ret_int {k : IntKind} {a b : Int} (h : a = b) : Ending.returned (.int k a) = .returned (.int k b) := by rw [h]
theorem ret_bool {a b : Bool} (h : a = b) : Ending.returned (.bool a) = .returned (.bool b) := by rw [h]

set_option maxRecDepth 100000 in
theorem numClamp (n : Int) (w : World) :
    Calls Tryd.prog 25 #[.int .i64 n] w fun e w' => e = .returned (.int .i64 (Num.clampI n)) ∧ w = w' := by
  go_enter Tryd.func25, Tryd.ntmps25
  go_wp2
  all_goals (
    go_ret
    refine ⟨?_, rfl⟩
    show Ending.returned (.int .i64 (max (-1000000) (min n 1000000))) = _
    exact ret_int (by unfold Num.clampI; split <;> (try split) <;> omega))
theorem ret_str {a b : List UInt8} (h : a = b) : Ending.returned (str a) = .returned (str b) := by rw [h]
/-- what is told of the package-level variables: strconv's table of powers, its two errors -/
structure EnvN (w : World) : Prop where
  tab : Lib.TabIs Tryd.prog w "internal/strconv.uint64pow10" .u64 Lib.pow10Tab
  syn : ∃ tp p, w.var? Tryd.prog "strconv.ErrSyntax" = some #[.iface tp p]
  rng : ∃ tp p, w.var? Tryd.prog "strconv.ErrRange" = some #[.iface tp p]
theorem var_below {w w' : World} (hb : Below w.heap.size w w') {n : String} {cs : Array Value} (h : w.var? Tryd.prog n = some cs) : w'.var? Tryd.prog n = some cs := by
  unfold World.var? at *
  cases hg : Tryd.prog.globalNamed n with
  | none => simp [hg] at h
  | some g =>
    simp only [hg, Option.bind_some] at h ⊢
    have hlt : g < w.heap.size := by
      rcases Nat.lt_or_ge g w.heap.size with h' | h'
      · exact h'
      · rw [Array.getElem?_eq_none h'] at h; simp at h
    rw [hb.block g hlt]
    exact h
theorem EnvN.below {w w' : World} (h : EnvN w) (hb : Below w.heap.size w w') : EnvN w' :=
  ⟨var_below hb h.tab, h.syn.imp fun _ h => h.imp fun _ h => var_below hb h, h.rng.imp fun _ h => h.imp fun _ h => var_below hb h⟩

theorem numText (n : Int) (h0 : -9223372036854775808 ≤ n) (h1 : n ≤ 9223372036854775807) (w : World) (hE : EnvN w) :
    Calls Tryd.prog 21 #[.int .i64 n] w fun e w' => e = .returned (.string ⟨(Lib.itoa n).toArray⟩) ∧ Below w.heap.size w w' := by
  have hd := Lib.hid (Tryd.strconv_Itoa n h0 h1 w hE.tab)
  go_enter Tryd.func21, Tryd.ntmps21
  go_wp2_with fail
  refine hd.out.mono ?_
  rintro e w1 ⟨rfl, k, os, rfl⟩
  go_wp2
  go_ret
  exact ⟨rfl, Lib.below_grow _ _ (Nat.le_refl _) _ _⟩

theorem numClampIn {v : Int} (h0 : -1000000 ≤ v) (h1 : v ≤ 1000000) (w : World) :
    Calls Tryd.prog 25 #[.int .i64 v] w fun e w' => e = .returned (.int .i64 v) ∧ w = w' := by
  have h := numClamp v w
  rw [Num.clampI_in h0 h1] at h
  exact h
/-- the results of Number -/
def numRes (l : List UInt8) (e : Ending) : Prop := e = .returned (.tuple #[.int .i64 ((Num.numberL l).getD 0), .bool (Num.numberL l).isSome])
theorem numRes_none {l : List UInt8} (h : Num.numberL l = none) : numRes l (.returned (.tuple #[.int .i64 0, .bool false])) := by unfold numRes; rw [h]; rfl
theorem numRes_some {l : List UInt8} {n : Int} (h : Num.numberL l = some n) : numRes l (.returned (.tuple #[.int .i64 n, .bool true])) := by unfold numRes; rw [h]; rfl

theorem numClampOut {v : Int} (h : ¬ (-1000000 ≤ v ∧ v ≤ 1000000)) : ∃ c : Int, ¬ v = c ∧ ∀ w : World,
    Calls Tryd.prog 25 #[.int .i64 v] w fun e w' => e = .returned (.int .i64 c) ∧ w = w' :=
  ⟨Num.clampI v, fun e => h (by rw [e]; exact Num.clampI_bd v), fun w => numClamp v w⟩
theorem atoiBelow {w w1 : World} {t : TypeId} (hw : w1 = w ∨ ∃ s, w1 = Lib.bytesWorld w t s) : Below w.heap.size w w1 := by
  rcases hw with rfl | ⟨s, rfl⟩
  · exact Below.refl _ _
  · exact Lib.bytesWorld_below _ _ _
theorem bytes_list (s : ByteArray) : s.toList = s.data.toList := Lib.toList_data s
theorem eq_of_test {l : List UInt8} {s : ByteArray} (h : (!l == s.toList) = false) : l = s.data.toList := by
  rw [bytes_list] at h; simpa using h
theorem ne_of_test {l : List UInt8} {s : ByteArray} (h : (!l == s.toList) = true) : ¬ l = s.data.toList := by
  rw [bytes_list] at h; simpa using h

set_option maxRecDepth 100000 in
theorem numNumber (s : ByteArray) (hs : s.size ≤ 281474976710656) (w : World) (hE : EnvN w) :
    Calls Tryd.prog 29 #[.string s] w fun e w' => numRes s.data.toList e ∧ Below w.heap.size w w' := by
  rcases h : Lib.atoiAll s.data.toList with v | _ | _
  ·
    obtain ⟨v0, v1⟩ := Lib.atoiAll_bounds h
    have hA := Lib.hid (Tryd.strconv_Atoi_ok s (by omega) v h w)
    have HN := Lib.hid (Num.numberL_ok h)
    clear h
    by_cases hin : -1000000 ≤ v ∧ v ≤ 1000000
    · obtain ⟨i0, i1⟩ := hin
      go_enter Tryd.func29, Tryd.ntmps29
      go_wp2_with fail
      refine hA.out.mono ?_
      rintro e w1 ⟨rfl, hw⟩
      have hb1 : Below w.heap.size w w1 := atoiBelow hw
      clear hw
      go_wp2_with fail
      refine (numClampIn i0 i1 _).mono ?_
      rintro e w2 ⟨rfl, rfl⟩
      go_wp2_with fail
      refine (numText v v0 v1 _ (hE.below hb1)).mono ?_
      rintro e w2 ⟨rfl, hb2⟩
      go_wp2_with fail
      · have ht : (!Lib.itoa v == s.toList) = true := by assumption
        go_ret2
        exact ⟨numRes_none (by rw [HN.out, if_neg (fun h => ne_of_test ht h.2.2)]), hb1.trans (hb2.mono hb1.size)⟩
      · have ht := (by assumption : (!Lib.itoa v == s.toList) = false)
        go_wp2
        go_ret2
        exact ⟨numRes_some (by rw [HN.out, if_pos ⟨i0, i1, eq_of_test ht⟩]), hb1.trans (hb2.mono hb1.size)⟩
    · obtain ⟨c, hc, hcl⟩ := numClampOut hin
      go_enter Tryd.func29, Tryd.ntmps29
      go_wp2_with fail
      refine hA.out.mono ?_
      rintro e w1 ⟨rfl, hw⟩
      have hb1 : Below w.heap.size w w1 := atoiBelow hw
      clear hw
      go_wp2_with fail
      refine (hcl _).mono ?_
      rintro e w2 ⟨rfl, rfl⟩
      go_wp2_with fail
      go_ret2
      exact ⟨numRes_none (by rw [HN.out, if_neg (fun h => hin ⟨h.1, h.2.1⟩)]), hb1⟩
  ·
    obtain ⟨tp, p, hv⟩ := hE.syn
    have hA := Lib.hid (Tryd.strconv_Atoi_syntax_var s hs h tp p w hv)
    have HN := Lib.hid (Num.numberL_bad h)
    clear h hv
    go_enter Tryd.func29, Tryd.ntmps29
    go_wp2_with fail
    refine hA.out.mono ?_
    rintro e w1 ⟨N, rfl, -, -, hb⟩
    go_wp2
    go_ret2
    exact ⟨numRes_none HN.out, hb⟩
  ·
    obtain ⟨tp, p, hv⟩ := hE.rng
    have hA := Lib.hid (Tryd.strconv_Atoi_range_var s hs h tp p w hv)
    have HN := Lib.hid (Num.numberL_range h)
    clear h hv
    go_enter Tryd.func29, Tryd.ntmps29
    go_wp2_with fail
    refine hA.out.mono ?_
    rintro e w1 ⟨N, rfl, -, -, hb⟩
    go_wp2
    go_ret2
    exact ⟨numRes_none HN.out, hb⟩
end Go.Proofs.YtokenooggmnbaaaDoor
