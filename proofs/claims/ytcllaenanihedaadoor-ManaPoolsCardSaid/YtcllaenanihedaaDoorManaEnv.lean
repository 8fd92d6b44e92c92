/-
  WHAT A ROW's LISTED VARIABLES GIVE: strconv's table of powers, its two errors; a world that meets the list, laid by a function (a pinned table among them); costs and pools among the arguments. By an AI agent.
-/
import Derived.Test.YtcllaenanihedaaDoorRows
import Derived.Test.YtcllaenanihedaaDoorNumWalksB
import Derived.Test.YtcllaenanihedaaDoorManaPlain
import Derived.Lib.LaidTab
import Derived.LaidMore
import Derived.Stop.LaidErr
import Derived.LaidLaws
import Derived.MakeChecks
import Derived.Lay
import Derived.OpenShut
namespace Go.Proofs.YtcllaenanihedaaDoor
open Go.RowKit Go.ChangeShapes Go.WideShapes

/-- the list of this seat's rows -/
def seatLaid : List (String × DataW Unit) := Rows.manaTextsRow.laid

theorem gPow : Tryd.prog.globalNamed "internal/strconv.uint64pow10" = some 5 := by kernel_rfl
theorem gPowType : (Tryd.prog.globals[5]?).map (·.type) = some 125 := by kernel_rfl
theorem gSyn : Tryd.prog.globalNamed "strconv.ErrSyntax" = some 1 := by kernel_rfl
theorem gSynType : (Tryd.prog.globals[1]?).map (·.type) = some 68 := by kernel_rfl
theorem gRng : Tryd.prog.globalNamed "strconv.ErrRange" = some 2 := by kernel_rfl
theorem gRngType : (Tryd.prog.globals[2]?).map (·.type) = some 68 := by kernel_rfl
theorem cellsArr : Tryd.prog.cellsOf 125 = 20 := by kernel_rfl
theorem cellsU64 : Tryd.prog.cellsOf 74 = 1 := by kernel_rfl
theorem cellsErr : Tryd.prog.cellsOf 132 = 1 := by kernel_rfl
theorem cellsStr : Tryd.prog.cellsOf 9 = 1 := by kernel_rfl
theorem starErr : "*" ++ "errors.errorString" = "*errors.errorString" := by decide
theorem rowErr (u : TypeId) (h : Tryd.prog.typeName? 3 u = some "*errors.errorString") : u = 130 :=
  typeName_ptr_named (nm := "errors.errorString") (by rw [starErr]; kernel_rfl) (by kernel_rfl) (by decide) u (by rw [starErr]; exact h)

theorem powList : (("internal/strconv.uint64pow10", Rows.laid_internal_strconv_uint64pow10) : String × DataW Unit) = ("internal/strconv.uint64pow10", Lib.tabData .u64 Lib.pow10Tab) := by
  refine Prod.ext rfl ?_
  show Rows.laid_internal_strconv_uint64pow10 = Lib.tabData .u64 Lib.pow10Tab
  kernel_rfl
theorem plainList : (seatLaid.all fun x => x.2.handleName?.isNone) = true := by kernel_rfl
theorem env_of_laid {W : World} (h : laidMetH Tryd.prog seatLaid W) : Env W := by
  rw [MakeChecks.laidMetH_plain _ _ _ plainList] at h
  have h1 : laidMet Tryd.prog (("internal/strconv.uint64pow10", Rows.laid_internal_strconv_uint64pow10) :: ("unicode/utf8.acceptRanges", Rows.laid_unicode_utf8_acceptRanges) :: ("strconv.ErrRange", Rows.laid_strconv_ErrRange) :: ("strconv.ErrSyntax", Rows.laid_strconv_ErrSyntax) :: [("unicode/utf8.first", Rows.laid_unicode_utf8_first)]) W := h.tail.tail
  have h2 := h1.tail.tail
  have h3 := h2.tail
  rw [powList] at h1
  have hr := laid_sentinel h2 gRng gRngType Tryd.underlying68 rowErr Tryd.underlying130 Tryd.underlying132 rfl rfl Tryd.underlying9 cellsErr cellsStr
  have hs := laid_sentinel h3 gSyn gSynType Tryd.underlying68 rowErr Tryd.underlying130 Tryd.underlying132 rfl rfl Tryd.underlying9 cellsErr cellsStr
  obtain ⟨a, _, hv, _⟩ := hr
  obtain ⟨b, _, hw, _⟩ := hs
  exact ⟨Lib.tabIs_of_head gPow gPowType Tryd.underlying125 Tryd.underlying74 cellsU64 cellsArr h1, ⟨_, _, hw⟩, ⟨_, _, hv⟩⟩

theorem own : ownKnob Tryd.prog.godebug = none := by kernel_rfl
theorem laidOut : laidOutB Tryd.prog = true := by kernel_rfl
/-- The world that is laid by a function meets the list. -/
theorem laid_met (os : Os) (args : Array Value) : laidMetH Tryd.prog seatLaid ((World.laidAll Tryd.prog os seatLaid).forCall (fun _ _ => 0) ⟨#[], args, []⟩).memory := by
  rw [MakeChecks.laidMetH_plain _ _ _ plainList]
  exact laidMet_laidAll _ (by kernel_rfl) (by kernel_rfl)
theorem laid_shaped (os : Os) : (World.laidAll Tryd.prog os seatLaid).Shaped Tryd.prog := World.shaped_of_ZipB (by kernel_rfl) (by kernel_rfl)

theorem list6 {α : Type} (l : List α) (h : (⟨l⟩ : Array α).size = 6) : ∃ a b c d e f, l = [a, b, c, d, e, f] := by
  match l, h with
  | [a, b, c, d, e, f], _ => exact ⟨a, b, c, d, e, f, rfl⟩
theorem list7 {α : Type} (l : List α) (h : (⟨l⟩ : Array α).size = 7) : ∃ a b c d e f g, l = [a, b, c, d, e, f, g] := by
  match l, h with
  | [a, b, c, d, e, f, g], _ => exact ⟨a, b, c, d, e, f, g, rfl⟩
theorem cellsInt : Tryd.prog.cellsOf 3 = 1 := by kernel_rfl
theorem cells5 : Tryd.prog.cellsOf 22 = 5 := by kernel_rfl
theorem cellsPool : Tryd.prog.cellsOf 35 = 6 := by kernel_rfl
theorem cellsCost : Tryd.prog.cellsOf 24 = 7 := by kernel_rfl
section
variable {H : Type} {enc : TypeId × Value → H} {W : World}
theorem int_cell {fuel : Nat} {held : Bool} {sp : Nat → Bool} {v : Value} {x : DataW H × List MemPlace} (h : DataW.trod enc Tryd.prog W 0 sp held fuel 3 [v] = some x) : ∃ z : Int, v = .int .i64 z := by
  obtain ⟨z, e, _, _⟩ := DataW.trod_int Tryd.underlying3 h
  exact ⟨z, by simpa using e⟩
set_option maxRecDepth 100000 in
theorem open_pool {b0 : Nat} {v : Value} {d : DataW H} {ps : List MemPlace} (hok : Value.okWide Tryd.prog W .any b0 35 v) (hd : DataW.Trod enc Tryd.prog W 0 (fun _ => true) true 35 v d ps) : ∃ p : Mana.Pl, v = .agg #[.int .i64 p.p0, .int .i64 p.p1, .int .i64 p.p2, .int .i64 p.p3, .int .i64 p.p4, .int .i64 p.p5] := by
  obtain ⟨cs, rfl, hsz, _⟩ : ∃ cs, v = .agg cs ∧ cs.size = Tryd.prog.cellsOf 35 ∧ Row.okWide Tryd.prog W .any b0 35 cs := by
    simpa [Value.okWide, Tryd.underlying35] using hok
  rw [cellsPool] at hsz
  obtain ⟨l⟩ := cs
  obtain ⟨a, b, c, e, f, g, rfl⟩ := list6 l hsz
  obtain ⟨fuel, hf⟩ := hd
  obtain ⟨xs, m, _, _, _, hl, hel⟩ := DataW.trod_array Tryd.underlying35 hf
  rw [cellsInt] at hel
  have k : ∀ i (hi : i < 6), ∃ y, xs[i]? = some y := fun i hi => ⟨_, List.getElem?_eq_getElem (by omega)⟩
  obtain ⟨y0, e0⟩ := k 0 (by omega); obtain ⟨y1, e1⟩ := k 1 (by omega); obtain ⟨y2, e2⟩ := k 2 (by omega)
  obtain ⟨y3, e3⟩ := k 3 (by omega); obtain ⟨y4, e4⟩ := k 4 (by omega); obtain ⟨y5, e5⟩ := k 5 (by omega)
  obtain ⟨z0, rfl⟩ := int_cell (v := a) ((hel 0 (by omega)).trans e0)
  obtain ⟨z1, rfl⟩ := int_cell (v := b) ((hel 1 (by omega)).trans e1)
  obtain ⟨z2, rfl⟩ := int_cell (v := c) ((hel 2 (by omega)).trans e2)
  obtain ⟨z3, rfl⟩ := int_cell (v := e) ((hel 3 (by omega)).trans e3)
  obtain ⟨z4, rfl⟩ := int_cell (v := f) ((hel 4 (by omega)).trans e4)
  obtain ⟨z5, rfl⟩ := int_cell (v := g) ((hel 5 (by omega)).trans e5)
  exact ⟨⟨z0, z1, z2, z3, z4, z5⟩, rfl⟩
set_option maxRecDepth 100000 in
theorem open_cost {b0 : Nat} {v : Value} {d : DataW H} {ps : List MemPlace} (hok : Value.okWide Tryd.prog W .any b0 24 v) (hd : DataW.Trod enc Tryd.prog W 0 (fun _ => true) true 24 v d ps) : ∃ c : Mana.Cst, v = .agg #[.int .i64 c.g, .int .i64 c.x, .int .i64 c.c0, .int .i64 c.c1, .int .i64 c.c2, .int .i64 c.c3, .int .i64 c.c4] := by
  obtain ⟨cs, rfl, hsz⟩ := okWide_struct Tryd.underlying24 hok
  rw [cellsCost] at hsz
  obtain ⟨l⟩ := cs
  obtain ⟨a, b, c, e, f, g, h, rfl⟩ := list7 l hsz
  obtain ⟨fuel, hf⟩ := hd
  obtain ⟨xs, n, _, _, _, hl, hg⟩ := DataW.trod_struct Tryd.underlying24 hf
  have hl3 : xs.length = 3 := hl
  have k : ∀ i (hi : i < 3), ∃ y, xs[i]? = some y := fun i hi => ⟨_, List.getElem?_eq_getElem (by omega)⟩
  obtain ⟨y0, e0⟩ := k 0 (by omega); obtain ⟨y1, e1⟩ := k 1 (by omega); obtain ⟨y2, e2⟩ := k 2 (by omega)
  have g0 : DataW.trod enc Tryd.prog W 0 (fun _ => true) true n 3 ((([a, b, c, e, f, g, h] : List Value).drop 0).take (Tryd.prog.cellsOf 3)) = xs[0]? := hg 0 _ rfl
  have g1 : DataW.trod enc Tryd.prog W 0 (fun _ => true) true n 3 ((([a, b, c, e, f, g, h] : List Value).drop 1).take (Tryd.prog.cellsOf 3)) = xs[1]? := hg 1 _ rfl
  have g2 : DataW.trod enc Tryd.prog W 0 (fun _ => true) true n 22 ((([a, b, c, e, f, g, h] : List Value).drop 2).take (Tryd.prog.cellsOf 22)) = xs[2]? := hg 2 _ rfl
  rw [cellsInt, e0] at g0
  rw [cellsInt, e1] at g1
  rw [cells5, e2] at g2
  obtain ⟨z0, rfl⟩ := int_cell (v := a) g0
  obtain ⟨z1, rfl⟩ := int_cell (v := b) g1
  obtain ⟨ys, m, _, _, _, hl', hel⟩ := DataW.trod_array Tryd.underlying22 g2
  rw [cellsInt] at hel
  have k' : ∀ i (hi : i < 5), ∃ y, ys[i]? = some y := fun i hi => ⟨_, List.getElem?_eq_getElem (by omega)⟩
  obtain ⟨y0, e0⟩ := k' 0 (by omega); obtain ⟨y1, e1⟩ := k' 1 (by omega); obtain ⟨y2, e2⟩ := k' 2 (by omega)
  obtain ⟨y3, e3⟩ := k' 3 (by omega); obtain ⟨y4, e4⟩ := k' 4 (by omega)
  obtain ⟨z2, rfl⟩ := int_cell (v := c) ((hel 0 (by omega)).trans e0)
  obtain ⟨z3, rfl⟩ := int_cell (v := e) ((hel 1 (by omega)).trans e1)
  obtain ⟨z4, rfl⟩ := int_cell (v := f) ((hel 2 (by omega)).trans e2)
  obtain ⟨z5, rfl⟩ := int_cell (v := g) ((hel 3 (by omega)).trans e3)
  obtain ⟨z6, rfl⟩ := int_cell (v := h) ((hel 4 (by omega)).trans e4)
  exact ⟨⟨z0, z1, z2, z3, z4, z5, z6⟩, rfl⟩
end
end Go.Proofs.YtcllaenanihedaaDoor
