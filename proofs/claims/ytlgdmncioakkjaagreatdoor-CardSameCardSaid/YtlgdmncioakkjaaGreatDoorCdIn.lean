/-
  WHAT A ROW's LISTED VARIABLES GIVE: strconv's powers and errors; the names of counters, colours, types as known blocks; a world that meets the list, laid by a function. By an AI agent.
-/
import Derived.Test.YtlgdmncioakkjaaGreatDoorRows
import Derived.Test.YtlgdmncioakkjaaGreatDoorCdAlv
import Derived.Lib.LaidTab
import Derived.LaidMore
import Derived.Stop.LaidErr
import Derived.LaidLaws
import Derived.MakeChecks
import Derived.Lay
import Derived.OpenShut
import Derived.HandedShaped
namespace Go.Proofs.YtlgdmncioakkjaaGreatDoor
open Go.RowKit Go.ChangeShapes Go.WideShapes Go.Sx
open Go.ChangeMaps (open_string)

/-- the list of this seat's rows -/
def seatLaid : List (String × DataW Unit) := Rows.cardSameRow.laid

/-- An array of strings that reads as the list holds the list's texts, cell for cell. -/
theorem cells_of_strs {H : Type} {enc : TypeId × Value → H} {P : Program} {w : World} {base : Nat} {sp : Nat → Bool} {held : Bool} {fuel : Nat} {t e : TypeId} {n : Nat} {cs : List Value} {zs : List (List UInt8)} {p : List MemPlace}
    (ht : P.underlying t = some (.array n e)) (he : P.underlying e = some .string) (hce : P.cellsOf e = 1) (hct : P.cellsOf t = n)
    (h : DataW.trod enc P w base sp held fuel t cs = some (.agg (zs.map fun z => .lit (.string z)), p)) : cs = zs.map str := by
  cases fuel with
  | zero => simp [DataW.trod] at h
  | succ fuel =>
    simp only [DataW.trod, ht, hce, hct, Nat.mul_one] at h
    split at h
    · rename_i hl
      obtain ⟨xs, hm, hx⟩ := Option.map_eq_some_iff.1 h
      have hxs : xs.map (·.1) = zs.map fun z => (DataW.lit (.string z) : DataW H) := by
        have := congrArg Prod.fst hx
        simpa using this
      have hxl : xs.length = n := by simpa using Lib.mapM_length hm
      have hzl : zs.length = n := by
        have := congrArg List.length hxs
        simp at this
        omega
      apply List.ext_getElem?
      intro i
      by_cases hi : i < n
      · obtain ⟨b, hb, hf⟩ := Lib.mapM_at hm i i (by simp [hi])
        obtain ⟨s, hc, rfl, _⟩ := DataW.trod_string he hf
        have h1 : cs[i]? = some (.string s) := by
          have := congrArg (·[0]?) hc
          simpa [List.getElem?_take, List.getElem?_drop] using this
        have h2 : (xs.map (·.1))[i]? = some (DataW.lit (.string s.data.toList) : DataW H) := by simp [hb]
        rw [hxs] at h2
        simp only [List.getElem?_map, Option.map_eq_some_iff, DataW.lit.injEq, Lit.string.injEq] at h2
        obtain ⟨z', hz', e'⟩ := h2
        rw [h1, List.getElem?_map, hz', e']
        rfl
      · rw [List.getElem?_eq_none (by omega), List.getElem?_eq_none (by simp; omega)]
    · cases h

theorem gWords : Tryz.prog.globalNamed "cardgame/line.words" = some 0 := by kernel_rfl
theorem gWordsType : (Tryz.prog.globals[0]?).map (·.type) = some 146 := by kernel_rfl
theorem cellsWords : Tryz.prog.cellsOf 146 = 8 := by kernel_rfl
theorem gNames : Tryz.prog.globalNamed "cardgame/color.names" = some 1 := by kernel_rfl
theorem gNamesType : (Tryz.prog.globals[1]?).map (·.type) = some 173 := by kernel_rfl
theorem cellsNames : Tryz.prog.cellsOf 173 = 5 := by kernel_rfl
theorem gNamesK : Tryz.prog.globalNamed "cardgame/counter.names" = some 3 := by kernel_rfl
theorem gCtrType : (Tryz.prog.globals[3]?).map (·.type) = some 234 := by kernel_rfl
theorem cellsCtr : Tryz.prog.cellsOf 234 = 3 := by kernel_rfl
theorem cellsStr : Tryz.prog.cellsOf 9 = 1 := by kernel_rfl
theorem gPow : Tryz.prog.globalNamed "internal/strconv.uint64pow10" = some 8 := by kernel_rfl
theorem gPowType : (Tryz.prog.globals[8]?).map (·.type) = some 281 := by kernel_rfl
theorem gSyn : Tryz.prog.globalNamed "strconv.ErrSyntax" = some 4 := by kernel_rfl
theorem gSynType : (Tryz.prog.globals[4]?).map (·.type) = some 112 := by kernel_rfl
theorem gRng : Tryz.prog.globalNamed "strconv.ErrRange" = some 5 := by kernel_rfl
theorem gRngType : (Tryz.prog.globals[5]?).map (·.type) = some 112 := by kernel_rfl
theorem cellsArr : Tryz.prog.cellsOf 281 = 20 := by kernel_rfl
theorem cellsU64 : Tryz.prog.cellsOf 220 = 1 := by kernel_rfl
theorem cellsErr : Tryz.prog.cellsOf 271 = 1 := by kernel_rfl
theorem starErr : "*" ++ "errors.errorString" = "*errors.errorString" := by decide
theorem rowErr (u : TypeId) (h : Tryz.prog.typeName? 3 u = some "*errors.errorString") : u = 269 :=
  typeName_ptr_named (nm := "errors.errorString") (by rw [starErr]; kernel_rfl) (by kernel_rfl) (by decide) u (by rw [starErr]; exact h)
theorem powList : (("internal/strconv.uint64pow10", Rows.laid_internal_strconv_uint64pow10) : String × DataW Unit) = ("internal/strconv.uint64pow10", Lib.tabData .u64 Lib.pow10Tab) := by
  refine Prod.ext rfl ?_
  show Rows.laid_internal_strconv_uint64pow10 = Lib.tabData .u64 Lib.pow10Tab
  kernel_rfl
theorem plainList : (seatLaid.all fun x => x.2.handleName?.isNone) = true := by kernel_rfl
theorem find_mem : ∀ {l : List Bk} {i : Nat} {x : Bk}, find l i = some x → x ∈ l
  | [], _, _, h => by cases h
  | z :: l, i, x, h => by
    unfold find at h
    split at h
    · injection h with h
      subst h
      exact List.mem_cons_self
    · exact List.mem_cons_of_mem _ (find_mem h)
/-- a listed variable of strings, as a block -/
theorem heap_of {W : World} (hs : W.ShapedOpen Tryz.prog) {n : String} {g : Nat} {t : TypeId} {cs : Array Value} (hg : Tryz.prog.globalNamed n = some g) (hlt : g < Tryz.prog.globals.size)
    {zero : Array Value} (h0 : ((begin Tryz.prog (fun _ _ => 0) default).world.heap[g]?).bind Obj.row? = some (zero, t)) (hv : W.var? Tryz.prog n = some cs) : W.heap[g]? = some (.cells cs t (0, 0)) := by
  obtain ⟨cs', hh, _, _⟩ := hs.1 g zero t hlt h0
  unfold World.var? at hv
  simp only [hg, Option.bind_some, hh] at hv
  rw [hh]
  have : cs' = cs := by simpa using hv
  rw [this]
theorem size_of {W : World} (hs : W.ShapedOpen Tryz.prog) : GN ≤ W.heap.size := by
  have hlast : ∃ zero t, ((begin Tryz.prog (fun _ _ => 0) default).world.heap[10]?).bind Obj.row? = some (zero, t) := by
    have h : (((begin Tryz.prog (fun _ _ => 0) default).world.heap[10]?).bind Obj.row?).isSome = true := by kernel_rfl
    obtain ⟨⟨zero, t⟩, h⟩ := Option.isSome_iff_exists.1 h
    exact ⟨zero, t, h⟩
  obtain ⟨zero, t, h⟩ := hlast
  obtain ⟨cs, hc, _, _⟩ := hs.1 10 zero t (of_decide_eq_true (by kernel_rfl)) h
  exact (Array.getElem?_eq_some_iff.1 hc).1
theorem env_of_laid {W : World} (h : laidMetH Tryz.prog seatLaid W) (hs : W.ShapedOpen Tryz.prog) : EnvX W ∧ Knows GN gl W := by
  rw [MakeChecks.laidMetH_plain _ _ _ plainList] at h
  have h1 : laidMet Tryz.prog (("internal/strconv.uint64pow10", Rows.laid_internal_strconv_uint64pow10) :: ("unicode/utf8.acceptRanges", Rows.laid_unicode_utf8_acceptRanges) :: ("strconv.ErrRange", Rows.laid_strconv_ErrRange) :: ("strconv.ErrSyntax", Rows.laid_strconv_ErrSyntax) :: ("cardgame/counter.names", Rows.laid_cardgame_counter_names) :: ("cardgame/color.names", Rows.laid_cardgame_color_names) :: ("cardgame/line.words", Rows.laid_cardgame_line_words) :: [("unicode/utf8.first", Rows.laid_unicode_utf8_first)]) W := h.tail.tail
  have h2 := h1.tail.tail
  have h3 := h2.tail
  have h4 := h3.tail
  have h5 := h4.tail
  have h6 := h5.tail
  rw [powList] at h1
  have hr := laid_sentinel h2 gRng gRngType Tryz.underlying112 rowErr Tryz.underlying269 Tryz.underlying271 rfl rfl Tryz.underlying9 cellsErr cellsStr
  have hs' := laid_sentinel h3 gSyn gSynType Tryz.underlying112 rowErr Tryz.underlying269 Tryz.underlying271 rfl rfl Tryz.underlying9 cellsErr cellsStr
  obtain ⟨a, _, hv, _⟩ := hr
  obtain ⟨b, _, hw, _⟩ := hs'
  have hk : W.heap[3]? = some (.cells #[.string ⟨#[112, 108, 117, 115]⟩, .string ⟨#[109, 105, 110, 117, 115]⟩, .string ⟨#[99, 104, 97, 114, 103, 101]⟩] 234 (0, 0)) := by
    obtain ⟨ps, ⟨g', t', cs, fuel, p, q, hg', ht', hvar, hd, _, _⟩, _⟩ := h4
    obtain rfl := Option.some.inj (gNamesK.symm.trans hg')
    obtain rfl := Option.some.inj (gCtrType.symm.trans ht')
    have hcs := cells_of_strs (zs := [[112, 108, 117, 115], [109, 105, 110, 117, 115], [99, 104, 97, 114, 103, 101]]) Tryz.underlying234 Tryz.underlying9 cellsStr cellsCtr hd
    have e : cs = #[.string ⟨#[112, 108, 117, 115]⟩, .string ⟨#[109, 105, 110, 117, 115]⟩, .string ⟨#[99, 104, 97, 114, 103, 101]⟩] := by
      rw [show cs = cs.toList.toArray from rfl, hcs]
      rfl
    subst e
    exact heap_of hs gNamesK (of_decide_eq_true (by kernel_rfl)) (show _ = some ((#[y, y, y] : Array Value), 234) by kernel_rfl) hvar
  have hn : W.heap[1]? = some (.cells #[.string ⟨#[97, 109, 98, 101, 114]⟩, .string ⟨#[99, 111, 98, 97, 108, 116]⟩, .string ⟨#[106, 101, 116]⟩, .string ⟨#[114, 117, 98, 121]⟩, .string ⟨#[101, 109, 101, 114, 97, 108, 100]⟩] 173 (0, 0)) := by
    obtain ⟨ps, ⟨g', t', cs, fuel, p, q, hg', ht', hvar, hd, _, _⟩, _⟩ := h5
    obtain rfl := Option.some.inj (gNames.symm.trans hg')
    obtain rfl := Option.some.inj (gNamesType.symm.trans ht')
    have hcs := cells_of_strs (zs := [[97, 109, 98, 101, 114], [99, 111, 98, 97, 108, 116], [106, 101, 116], [114, 117, 98, 121], [101, 109, 101, 114, 97, 108, 100]]) Tryz.underlying173 Tryz.underlying9 cellsStr cellsNames hd
    have e : cs = #[.string ⟨#[97, 109, 98, 101, 114]⟩, .string ⟨#[99, 111, 98, 97, 108, 116]⟩, .string ⟨#[106, 101, 116]⟩, .string ⟨#[114, 117, 98, 121]⟩, .string ⟨#[101, 109, 101, 114, 97, 108, 100]⟩] := by
      rw [show cs = cs.toList.toArray from rfl, hcs]
      rfl
    subst e
    exact heap_of hs gNames (of_decide_eq_true (by kernel_rfl)) (show _ = some ((#[y, y, y, y, y] : Array Value), 173) by kernel_rfl) hvar
  have hl : W.heap[0]? = some (.cells #[.string ⟨#[98, 97, 115, 105, 99]⟩, .string ⟨#[117, 110, 105, 113, 117, 101]⟩, .string ⟨#[99, 114, 101, 97, 116, 117, 114, 101]⟩, .string ⟨#[105, 110, 115, 116, 97, 110, 116]⟩, .string ⟨#[114, 105, 116, 117, 97, 108]⟩, .string ⟨#[114, 101, 108, 105, 99]⟩, .string ⟨#[99, 104, 97, 114, 109]⟩, .string ⟨#[108, 97, 110, 100]⟩] 146 (0, 0)) := by
    obtain ⟨ps, ⟨g', t', cs, fuel, p, q, hg', ht', hvar, hd, _, _⟩, _⟩ := h6
    obtain rfl := Option.some.inj (gWords.symm.trans hg')
    obtain rfl := Option.some.inj (gWordsType.symm.trans ht')
    have hcs := cells_of_strs (zs := [[98, 97, 115, 105, 99], [117, 110, 105, 113, 117, 101], [99, 114, 101, 97, 116, 117, 114, 101], [105, 110, 115, 116, 97, 110, 116], [114, 105, 116, 117, 97, 108], [114, 101, 108, 105, 99], [99, 104, 97, 114, 109], [108, 97, 110, 100]]) Tryz.underlying146 Tryz.underlying9 cellsStr cellsWords hd
    have e : cs = #[.string ⟨#[98, 97, 115, 105, 99]⟩, .string ⟨#[117, 110, 105, 113, 117, 101]⟩, .string ⟨#[99, 114, 101, 97, 116, 117, 114, 101]⟩, .string ⟨#[105, 110, 115, 116, 97, 110, 116]⟩, .string ⟨#[114, 105, 116, 117, 97, 108]⟩, .string ⟨#[114, 101, 108, 105, 99]⟩, .string ⟨#[99, 104, 97, 114, 109]⟩, .string ⟨#[108, 97, 110, 100]⟩] := by
      rw [show cs = cs.toList.toArray from rfl, hcs]
      rfl
    subst e
    exact heap_of hs gWords (of_decide_eq_true (by kernel_rfl)) (show _ = some ((#[y, y, y, y, y, y, y, y] : Array Value), 146) by kernel_rfl) hvar
  refine ⟨⟨⟨Lib.tabIs_of_head gPow gPowType Tryz.underlying281 Tryz.underlying220 cellsU64 cellsArr h1, ⟨_, _, hw⟩, ⟨_, _, hv⟩⟩, cell_of_shapedOpen_int (zero := #[.int .i64 0]) (t := 3) hs (of_decide_eq_true (by kernel_rfl)) (by kernel_rfl) rfl (by kernel_rfl) (by kernel_rfl) Tryz.underlying3⟩, size_of hs, fun i x hx => ?_⟩
  have key : ∀ b ∈ gl, b.i < GN ∧ b.ro = true ∧ b.ex = true ∧ W.heap[b.i]? = some (.cells b.c b.T (0, 0)) ∧ b.c.all dry = true := by
    intro b hb
    simp only [gl, List.mem_cons, List.not_mem_nil, or_false] at hb
    rcases hb with rfl | rfl | rfl
    · exact ⟨by decide, rfl, rfl, hk, by decide +kernel⟩
    · exact ⟨by decide, rfl, rfl, hl, by decide +kernel⟩
    · exact ⟨by decide, rfl, rfl, hn, by decide +kernel⟩
  have hi := find_i hx
  have hm : x ∈ gl := find_mem hx
  obtain ⟨k1, k2, k3, k4, k5⟩ := key x hm
  rw [hi] at k1 k4
  exact ⟨k1, k2, k3, k4, k5⟩
abbrev EnvS (W : World) : Prop := EnvX W ∧ Knows GN gl W
theorem own : ownKnob Tryz.prog.godebug = none := by kernel_rfl
theorem laidOut : laidOutB Tryz.prog = true := by kernel_rfl
/-- The world that is laid by a function meets the list. -/
theorem laid_met (os : Os) (args : Array Value) : laidMetH Tryz.prog seatLaid ((World.laidAll Tryz.prog os seatLaid).forCall (fun _ _ => 0) ⟨#[], args, []⟩).memory := by
  rw [MakeChecks.laidMetH_plain _ _ _ plainList]
  exact laidMet_laidAll _ (by kernel_rfl) (by kernel_rfl)
theorem laid_shaped (os : Os) : (World.laidAll Tryz.prog os seatLaid).Shaped Tryz.prog := World.shaped_of_ZipB (by kernel_rfl) (by kernel_rfl)
section
variable {H : Type} {enc : TypeId × Value → H}
/-- the kit's two bridges in one: a condition on the listed variables, and the world's shape -/
theorem handed_both {a : Assume} {C : Checked} {os : Os} {f : FuncId} {fn : Func} {s : ChangeSpec} {conds : List PathCond} {apart fresh handsOn again : Bool} {X : World → Array Value → Prop}
    (hX : ∀ (w w' : World) (args : Array Value), w.heap = w'.heap → X w args → X w' args)
    (own : ownKnob C.prog.godebug = none) (started : os.Started) (noInit : C.prog.inits.idxOf? f = none) (hfn : C.prog.funcs[f]? = some fn)
    (witness : ∃ (w : World) (tape : Tape) (i : Input), w.os = os ∧ (w.forCall tape i).Shaped C.prog ∧ i.vars = [] ∧ Input.okWide C.prog (w.forCall tape i) .any w.heap.size f i ∧
      ((s.pre enc C.prog fn conds apart (w.forCall tape i).memory i.args ∧ X (w.forCall tape i).memory i.args) ∧ sizedMet enc C.prog fn (OpenSpec.ofChange s) apart (w.forCall tape i).memory i.args) ∧ a.holds C.prog (lone (Frame.enter C.prog f i.args .normal) [] (w.forCall tape i)))
    (contract : ∀ (W : World) (base : Nat) (args : Array Value) (ds gs : List (DataW H)) (before : List MemPlace),
      (∀ (j : Nat) t v, fn.params[j]? = some t → args[j]? = some v → Value.okWide C.prog W .any base t v) →
      DataW.Whole enc C.prog fn.params.toList s.vars apart W args.toList ds gs before →
      conds.all (PathCond.test C.prog ⟨fn.params.toList, ds, s.plain.varTypes C.prog, gs⟩) = true →
      (DataW.weightsEach C.prog (fn.params.toList ++ s.plain.varTypes C.prog) (ds ++ gs)).all (· ≤ reachBytes) = true → X W args → W.ShapedOpen C.prog →
      a.holds C.prog (lone (Frame.enter C.prog f args .normal) [] W) →
      Calls C.prog f args W fun e W' => ∃ v, e = .returned v ∧ s.post enc C.prog fn apart fresh handsOn again W args v W') :
    ReturnsInHanded a C os f .any (fun w args => (s.pre enc C.prog fn conds apart w args ∧ X w args) ∧ sizedMet enc C.prog fn (OpenSpec.ofChange s) apart w args) (s.post enc C.prog fn apart fresh handsOn again) := by
  refine returnsInHanded_of_calls own started noInit witness ?_
  intro w tape i _ hsh _ hok hpre hholds
  obtain ⟨_, _, _, fn', hfn', _, _, _, _, hval⟩ := hok
  obtain rfl : fn' = fn := Option.some.inj (hfn'.symm.trans hfn)
  obtain ⟨⟨⟨ds, gs, before, hw, hc⟩, hx⟩, hz⟩ := hpre
  refine (contract (w.forCall tape i) w.heap.size i.args ds gs before hval (DataW.Whole.of_heap (w' := w.forCall tape i) (by rfl) hw) hc (hz.weights hw) (hX _ _ _ (by rfl) hx) hsh hholds).mono fun e W' ⟨v, he, hp⟩ => ?_
  subst he
  exact ChangeSpec.post_blind hp
end
end Go.Proofs.YtlgdmncioakkjaaGreatDoor
