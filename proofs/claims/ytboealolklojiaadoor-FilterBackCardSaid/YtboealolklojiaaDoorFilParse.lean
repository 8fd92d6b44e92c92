/-
  CONTRACT OF LAYER 13 (filter): Parse; Text of any filter. By an AI agent.
-/
import Derived.Test.YtboealolklojiaaDoorFilText
import Derived.Test.YtboealolklojiaaDoorFilParseB
namespace Go.Proofs.YtboealolklojiaaDoor
open Go.RowKit
open Wd (Bs)

/-- a valid filter holds no negative numbers but in its bounds -/
theorem acc_of {f : Fil.Flt} (h : Fil.validB f = true) : ∃ a : Fil.Acc, f = a.flt := by
  have v := Fil.valid_of h
  refine ⟨⟨f.zone.toNat, f.who.toNat, f.self.toNat, f.types.toNat, f.ntypes.toNat, f.colors.toNat, f.ncolors.toNat, f.sub, f.keys.toNat, f.tap.toNat, f.pow, f.tough, f.val⟩, ?_⟩
  unfold Fil.Acc.flt
  rw [Int.toNat_of_nonneg v.zone.1, Int.toNat_of_nonneg v.who.1, Int.toNat_of_nonneg v.self.1, Int.toNat_of_nonneg v.types.1, Int.toNat_of_nonneg v.ntypes.1, Int.toNat_of_nonneg v.colors.1, Int.toNat_of_nonneg v.ncolors.1, Int.toNat_of_nonneg v.keys.1, Int.toNat_of_nonneg v.tap.1]
set_option maxRecDepth 100000 in
/-- Text of any filter -/
theorem filText (f : Fil.Flt) (fs : ByteArray) (hf : f.sub = fs.data.toList) (hs : fs.size ≤ maxLen) (w : World) (hE : Env w) :
    Calls Tryd.prog 7 #[.agg #[.int .i64 f.zone, .int .i64 f.who, .int .i64 f.self, .int .i64 f.types, .int .i64 f.ntypes, .int .i64 f.colors, .int .i64 f.ncolors, .string fs, .int .i64 f.keys, .int .i64 f.tap, .int .i64 f.pow.kind, .int .i64 f.pow.n, .int .i64 f.tough.kind, .int .i64 f.tough.n, .int .i64 f.val.kind, .int .i64 f.val.n]] w fun e w' => e = .returned (str (Fil.textF f)) ∧ Below w.heap.size w w' := by
  cases hvb : Fil.validB f with
  | true =>
    obtain ⟨a, rfl⟩ := acc_of hvb
    exact filTextA a fs hf hs w hE
  | false =>
    have HC := Lib.hid (fun W hW => filIs f fs hf hs W hW)
    have HVB := Lib.hid hvb
    have HT := Lib.hid (Fil.textF_bad hvb)
    have hb0 : Below w.heap.size w (w.alloc (.cells #[.int .i64 f.zone, .int .i64 f.who, .int .i64 f.self, .int .i64 f.types, .int .i64 f.ntypes, .int .i64 f.colors, .int .i64 f.ncolors, .string fs, .int .i64 f.keys, .int .i64 f.tap, .int .i64 f.pow.kind, .int .i64 f.pow.n, .int .i64 f.tough.kind, .int .i64 f.tough.n, .int .i64 f.val.kind, .int .i64 f.val.n] 25)) := (Below.refl _ _).alloc (Nat.le_refl _) _
    have HB := Lib.hid hb0
    have HE := Lib.hid (hE.below hb0)
    clear hvb hb0 hE hf hs
    go_enter Tryd.func7, Tryd.ntmps7
    go_wp2_with fail
    refine (HC.out _ HE.out).mono ?_
    rw [HVB.out]
    rintro e w1 ⟨rfl, hb1⟩
    go_wp2_with fail
    go_ret
    exact ⟨by rw [HT.out]; rfl, HB.out.trans (hb1.mono HB.out.size)⟩
/-- what Parse answers: a filter with its subtype's bytes, an error -/
def ParseRes (s : Bs) (w : World) (e : Ending) (w' : World) : Prop :=
  (∃ (a : Fil.Acc) (fs : ByteArray), Fil.parseV s = a.flt ∧ Fil.parseE s = 0 ∧ Fil.validB a.flt = true ∧ Fil.textF a.flt = s ∧ a.sub = fs.data.toList ∧ e = .returned (.tuple #[.agg #[.int .i64 (a.zone : Int), .int .i64 (a.who : Int), .int .i64 (a.self : Int), .int .i64 (a.types : Int), .int .i64 (a.ntypes : Int), .int .i64 (a.colors : Int), .int .i64 (a.ncolors : Int), .string fs, .int .i64 (a.keys : Int), .int .i64 (a.tap : Int), .int .i64 a.pow.kind, .int .i64 a.pow.n, .int .i64 a.tough.kind, .int .i64 a.tough.n, .int .i64 a.val.kind, .int .i64 a.val.n], .int .i64 0]) ∧ Below w.heap.size w w') ∨
  (Fil.parseV s = Fil.zero ∧ Fil.parseE s = 3 ∧ e = .returned (.tuple #[.agg #[.int .i64 0, .int .i64 0, .int .i64 0, .int .i64 0, .int .i64 0, .int .i64 0, .int .i64 0, .string ⟨#[]⟩, .int .i64 0, .int .i64 0, .int .i64 0, .int .i64 0, .int .i64 0, .int .i64 0, .int .i64 0, .int .i64 0], .int .i64 3]) ∧ Below w.heap.size w w')
/-- what a parser's walk leaves, read as the answer -/
theorem parseRes_of {s : ByteArray} {a : Fil.Acc} {fs tx : ByteArray} {w w' : World} {e : Ending} (hsub : a.sub = fs.data.toList) (htx : tx.data.toList = Fil.textF a.flt)
    (hyes : Fil.validB a.flt = true → Fil.textF a.flt = s.data.toList → Fil.parseV s.data.toList = a.flt ∧ Fil.parseE s.data.toList = 0)
    (hno : ¬ Fil.Is_ a.flt s.data.toList → Fil.parseV s.data.toList = Fil.zero ∧ Fil.parseE s.data.toList = 3)
    (he : e = .returned (if (Fil.validB a.flt && (tx.toList == s.toList)) = true then .tuple #[.agg (cellsA a fs), .int .i64 0] else .tuple #[.agg cellsZ, .int .i64 3])) (hb : Below w.heap.size w w') : ParseRes s.data.toList w e w' := by
  by_cases h : Fil.Is_ a.flt s.data.toList
  · have h2 : (tx.toList == s.toList) = true := bytes_eq (by rw [htx]; exact h.2)
    rw [h.1, h2, if_pos (by rfl)] at he
    have h3 := hyes h.1 h.2
    exact .inl ⟨a, fs, h3.1, h3.2, h.1, h.2, hsub, he, hb⟩
  · have h3 := hno h
    have h4 : (Fil.validB a.flt && (tx.toList == s.toList)) = false := by
      cases hv : Fil.validB a.flt with
      | false => rfl
      | true => exact bytes_ne (by rw [htx]; exact fun e => h ⟨hv, e⟩)
    rw [h4, if_neg (by decide)] at he
    exact .inr ⟨h3.1, h3.2, he, hb⟩
theorem filParse (s : ByteArray) (w : World) (hs : s.size ≤ 1000000) (hE : Env w) : Calls Tryd.prog 8 #[.string s] w (ParseRes s.data.toList w) := by
  obtain ⟨a, fs, hr, hsub, hfl, hcall⟩ := filReadAcc s hs
  have hm : fs.size ≤ maxLen := by unfold maxLen; omega
  obtain ⟨tx, htx, etx⟩ := exists_bytes (Fil.textF a.flt)
  refine (parseWalk s w hE a fs (Fil.validB a.flt) _ tx rfl (Lib.hid hcall) (Lib.hid fun W hW => filIs a.flt fs hsub hm W hW) (Lib.hid fun W hW => by rw [← etx]; exact filText a.flt fs hsub hm W hW)).mono fun e w' ⟨he, hb⟩ => ?_
  exact parseRes_of hsub htx (fun h1 h2 => by rw [← hr]; exact Fil.parse_yes (by rw [hr]; exact h1) (by rw [hr]; exact h2)) (fun h => Fil.parse_no (by rw [hr]; exact h)) he hb
end Go.Proofs.YtboealolklojiaaDoor
