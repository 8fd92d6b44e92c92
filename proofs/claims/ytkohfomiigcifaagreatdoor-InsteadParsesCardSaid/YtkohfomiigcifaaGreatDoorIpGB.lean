/-
  MERGED: IpEnv, Frame. By an AI agent.
-/
import Derived.Test.YtkohfomiigcifaaGreatDoorRows
import Derived.Test.YtkohfomiigcifaaGreatDoorIpGD
import Derived.Lib.LaidTab
import Derived.LaidMore
import Derived.Stop.LaidErr
import Derived.LaidLaws
import Derived.MakeChecks
import Derived.Lay
import Derived.OpenShut
import Derived.HandedShaped
import Derived.ProofKit
import Derived.Carry
import Derived.ChangeSame
import Derived.WalkKit
namespace Go.Proofs.YtkohfomiigcifaaGreatDoor
open Go.RowKit Go.ChangeShapes Go.WideShapes
open Go.ChangeMaps (open_string)
open Wd (Bs)

/-- the list of this seat's rows -/
def seatLaid : List (String × DataW Unit) := Rows.insteadIsRow.laid

/-- An array of strings that reads as the list holds the list's texts, cell for cell. -/
theorem cells_of_strs {H : Type} {enc : TypeId × Value → H} {P : Program} {w : World} {base : Nat} {sp : Nat → Bool} {held : Bool} {fuel : Nat} {t e : TypeId} {n : Nat} {cs : List Value} {zs : List (List UInt8)} {p : List MemPlace}
    (ht : P.underlying t = some (.array n e)) (he : P.underlying e = some .string) (hce : P.cellsOf e = 1) (hct : P.cellsOf t = n)
    (h : DataW.trod enc P w base sp held fuel t cs = some (.agg (zs.map fun z => .lit (.string z)), p)) : cs = zs.map str := by
  cases fuel with
  | zero => simp [DataW.trod] at h
  | succ fuel =>
    simp only [DataW.trod, ht, hce, hct, Nat.mul_one] at h
    split at h
    · rename_i hl
      obtain ⟨xs, hm, hx⟩ := Option.map_eq_some_iff.1 h
      have hxs : xs.map (·.1) = zs.map fun z => (DataW.lit (.string z) : DataW H) := by
        have := congrArg Prod.fst hx
        simpa using this
      have hxl : xs.length = n := by simpa using Lib.mapM_length hm
      have hzl : zs.length = n := by
        have := congrArg List.length hxs
        simp at this
        omega
      apply List.ext_getElem?
      intro i
      by_cases hi : i < n
      · obtain ⟨b, hb, hf⟩ := Lib.mapM_at hm i i (by simp [hi])
        obtain ⟨s, hc, rfl, _⟩ := DataW.trod_string he hf
        have h1 : cs[i]? = some (.string s) := by
          have := congrArg (·[0]?) hc
          simpa [List.getElem?_take, List.getElem?_drop] using this
        have h2 : (xs.map (·.1))[i]? = some (DataW.lit (.string s.data.toList) : DataW H) := by simp [hb]
        rw [hxs] at h2
        simp only [List.getElem?_map, Option.map_eq_some_iff, DataW.lit.injEq, Lit.string.injEq] at h2
        obtain ⟨z', hz', e'⟩ := h2
        rw [h1, List.getElem?_map, hz', e']
        rfl
      · rw [List.getElem?_eq_none (by omega), List.getElem?_eq_none (by simp; omega)]
    · cases h

theorem gWordsType : (Tryz.prog.globals[1]?).map (·.type) = some 74 := by kernel_rfl
theorem cellsWords : Tryz.prog.cellsOf 74 = 8 := by kernel_rfl
theorem gNamesType : (Tryz.prog.globals[2]?).map (·.type) = some 88 := by kernel_rfl
theorem cellsNames : Tryz.prog.cellsOf 88 = 5 := by kernel_rfl
theorem cellsStr : Tryz.prog.cellsOf 9 = 1 := by kernel_rfl
theorem cellsInt : Tryz.prog.cellsOf 3 = 1 := by kernel_rfl
theorem cellsTF : Tryz.prog.cellsOf 25 = 16 := by kernel_rfl
theorem cellsTB : Tryz.prog.cellsOf 23 = 2 := by kernel_rfl
theorem gPow : Tryz.prog.globalNamed "internal/strconv.uint64pow10" = some 4 := by kernel_rfl
theorem gPowType : (Tryz.prog.globals[4]?).map (·.type) = some 133 := by kernel_rfl
theorem gSyn : Tryz.prog.globalNamed "strconv.ErrSyntax" = some 5 := by kernel_rfl
theorem gSynType : (Tryz.prog.globals[5]?).map (·.type) = some 94 := by kernel_rfl
theorem gRng : Tryz.prog.globalNamed "strconv.ErrRange" = some 6 := by kernel_rfl
theorem gRngType : (Tryz.prog.globals[6]?).map (·.type) = some 94 := by kernel_rfl
theorem cellsArr : Tryz.prog.cellsOf 133 = 20 := by kernel_rfl
theorem cellsU64 : Tryz.prog.cellsOf 78 = 1 := by kernel_rfl
theorem cellsErr : Tryz.prog.cellsOf 148 = 1 := by kernel_rfl
theorem starErr : "*" ++ "errors.errorString" = "*errors.errorString" := by decide
theorem rowErr (u : TypeId) (h : Tryz.prog.typeName? 3 u = some "*errors.errorString") : u = 146 :=
  typeName_ptr_named (nm := "errors.errorString") (by rw [starErr]; kernel_rfl) (by kernel_rfl) (by decide) u (by rw [starErr]; exact h)
theorem powList : (("internal/strconv.uint64pow10", Rows.laid_internal_strconv_uint64pow10) : String × DataW Unit) = ("internal/strconv.uint64pow10", Lib.tabData .u64 Lib.pow10Tab) := by
  refine Prod.ext rfl ?_
  show Rows.laid_internal_strconv_uint64pow10 = Lib.tabData .u64 Lib.pow10Tab
  kernel_rfl
theorem plainList : (seatLaid.all fun x => x.2.handleName?.isNone) = true := by kernel_rfl
theorem len_of_shaped {W : World} (h : W.ShapedOpen Tryz.prog) : LenEnv W :=
  cell_of_shapedOpen_int (zero := #[.int .i64 0]) (t := 3) h (of_decide_eq_true (by kernel_rfl)) (by kernel_rfl) rfl (by kernel_rfl) (by kernel_rfl) Tryz.underlying3
theorem gCtrType : (Tryz.prog.globals[0]?).map (·.type) = some 62 := by kernel_rfl
theorem cellsCtr : Tryz.prog.cellsOf 62 = 3 := by kernel_rfl
theorem env_of_laid {W : World} (h : laidMetH Tryz.prog seatLaid W) (hs : W.ShapedOpen Tryz.prog) : EnvI W := by
  rw [MakeChecks.laidMetH_plain _ _ _ plainList] at h
  have h1 : laidMet Tryz.prog (("internal/strconv.uint64pow10", Rows.laid_internal_strconv_uint64pow10) :: ("strconv.ErrRange", Rows.laid_strconv_ErrRange) :: ("strconv.ErrSyntax", Rows.laid_strconv_ErrSyntax) :: ("cardgame/counter.names", Rows.laid_cardgame_counter_names) :: ("cardgame/color.names", Rows.laid_cardgame_color_names) :: [("cardgame/line.words", Rows.laid_cardgame_line_words)]) W := h.tail.tail
  have h2 := h1.tail
  have h3 := h2.tail
  have h4 := h3.tail
  have h5 := h4.tail
  have h6 := h5.tail
  rw [powList] at h1
  have hr := laid_sentinel h2 gRng gRngType Tryz.underlying94 rowErr Tryz.underlying146 Tryz.underlying148 rfl rfl Tryz.underlying9 cellsErr cellsStr
  have hs' := laid_sentinel h3 gSyn gSynType Tryz.underlying94 rowErr Tryz.underlying146 Tryz.underlying148 rfl rfl Tryz.underlying9 cellsErr cellsStr
  obtain ⟨a, _, hv, _⟩ := hr
  obtain ⟨b, _, hw, _⟩ := hs'
  have hk : EnvK W := by
    obtain ⟨ps, ⟨g', t', cs, fuel, p, q, hg', ht', hvar, hd, _, _⟩, _⟩ := h4
    obtain rfl := Option.some.inj (gNamesK.symm.trans hg')
    obtain rfl := Option.some.inj (gCtrType.symm.trans ht')
    have hcs := cells_of_strs (zs := [[112, 108, 117, 115], [109, 105, 110, 117, 115], [99, 104, 97, 114, 103, 101]]) Tryz.underlying62 Tryz.underlying9 cellsStr cellsCtr hd
    refine ⟨hvar.trans ?_⟩
    rw [show cs = cs.toList.toArray from rfl, hcs]
    rfl
  have hn : EnvC W := by
    obtain ⟨ps, ⟨g', t', cs, fuel, p, q, hg', ht', hvar, hd, _, _⟩, _⟩ := h5
    obtain rfl := Option.some.inj (gNames.symm.trans hg')
    obtain rfl := Option.some.inj (gNamesType.symm.trans ht')
    have hcs := cells_of_strs (zs := [[97, 109, 98, 101, 114], [99, 111, 98, 97, 108, 116], [106, 101, 116], [114, 117, 98, 121], [101, 109, 101, 114, 97, 108, 100]]) Tryz.underlying88 Tryz.underlying9 cellsStr cellsNames hd
    refine ⟨hvar.trans ?_⟩
    rw [show cs = cs.toList.toArray from rfl, hcs]
    rfl
  have hl : EnvL W := by
    obtain ⟨ps, ⟨g', t', cs, fuel, p, q, hg', ht', hvar, hd, _, _⟩, _⟩ := h6
    obtain rfl := Option.some.inj (gWords.symm.trans hg')
    obtain rfl := Option.some.inj (gWordsType.symm.trans ht')
    have hcs := cells_of_strs (zs := Ln.words) Tryz.underlying74 Tryz.underlying9 cellsStr cellsWords hd
    refine ⟨len_of_shaped hs, hvar.trans ?_⟩
    rw [show cs = cs.toList.toArray from rfl, hcs]
  exact ⟨⟨⟨Lib.tabIs_of_head gPow gPowType Tryz.underlying133 Tryz.underlying78 cellsU64 cellsArr h1, ⟨_, _, hw⟩, ⟨_, _, hv⟩⟩, hl, hn⟩, hk⟩
theorem own : ownKnob Tryz.prog.godebug = none := by kernel_rfl
theorem laidOut : laidOutB Tryz.prog = true := by kernel_rfl
/-- The world that is laid by a function meets the list. -/
theorem laid_met (os : Os) (args : Array Value) : laidMetH Tryz.prog seatLaid ((World.laidAll Tryz.prog os seatLaid).forCall (fun _ _ => 0) ⟨#[], args, []⟩).memory := by
  rw [MakeChecks.laidMetH_plain _ _ _ plainList]
  exact laidMet_laidAll _ (by kernel_rfl) (by kernel_rfl)
theorem laid_shaped (os : Os) : (World.laidAll Tryz.prog os seatLaid).Shaped Tryz.prog := World.shaped_of_ZipB (by kernel_rfl) (by kernel_rfl)
section
variable {H : Type} {enc : TypeId × Value → H}
/-- the kit's two bridges in one: a condition on the listed variables, and the world's shape -/
theorem handed_both {a : Assume} {C : Checked} {os : Os} {f : FuncId} {fn : Func} {s : ChangeSpec} {conds : List PathCond} {apart fresh handsOn again : Bool} {X : World → Array Value → Prop}
    (hX : ∀ (w w' : World) (args : Array Value), w.heap = w'.heap → X w args → X w' args)
    (own : ownKnob C.prog.godebug = none) (started : os.Started) (noInit : C.prog.inits.idxOf? f = none) (hfn : C.prog.funcs[f]? = some fn)
    (witness : ∃ (w : World) (tape : Tape) (i : Input), w.os = os ∧ (w.forCall tape i).Shaped C.prog ∧ i.vars = [] ∧ Input.okWide C.prog (w.forCall tape i) .any w.heap.size f i ∧
      ((s.pre enc C.prog fn conds apart (w.forCall tape i).memory i.args ∧ X (w.forCall tape i).memory i.args) ∧ sizedMet enc C.prog fn (OpenSpec.ofChange s) apart (w.forCall tape i).memory i.args) ∧ a.holds C.prog (lone (Frame.enter C.prog f i.args .normal) [] (w.forCall tape i)))
    (contract : ∀ (W : World) (base : Nat) (args : Array Value) (ds gs : List (DataW H)) (before : List MemPlace),
      (∀ (j : Nat) t v, fn.params[j]? = some t → args[j]? = some v → Value.okWide C.prog W .any base t v) →
      DataW.Whole enc C.prog fn.params.toList s.vars apart W args.toList ds gs before →
      conds.all (PathCond.test C.prog ⟨fn.params.toList, ds, s.plain.varTypes C.prog, gs⟩) = true →
      (DataW.weightsEach C.prog (fn.params.toList ++ s.plain.varTypes C.prog) (ds ++ gs)).all (· ≤ reachBytes) = true → X W args → W.ShapedOpen C.prog →
      a.holds C.prog (lone (Frame.enter C.prog f args .normal) [] W) →
      Calls C.prog f args W fun e W' => ∃ v, e = .returned v ∧ s.post enc C.prog fn apart fresh handsOn again W args v W') :
    ReturnsInHanded a C os f .any (fun w args => (s.pre enc C.prog fn conds apart w args ∧ X w args) ∧ sizedMet enc C.prog fn (OpenSpec.ofChange s) apart w args) (s.post enc C.prog fn apart fresh handsOn again) := by
  refine returnsInHanded_of_calls own started noInit witness ?_
  intro w tape i _ hsh _ hok hpre hholds
  obtain ⟨_, _, _, fn', hfn', _, _, _, _, hval⟩ := hok
  obtain rfl : fn' = fn := Option.some.inj (hfn'.symm.trans hfn)
  obtain ⟨⟨⟨ds, gs, before, hw, hc⟩, hx⟩, hz⟩ := hpre
  refine (contract (w.forCall tape i) w.heap.size i.args ds gs before hval (DataW.Whole.of_heap (w' := w.forCall tape i) (by rfl) hw) hc (hz.weights hw) (hX _ _ _ (by rfl) hx) hsh hholds).mono fun e W' ⟨v, he, hp⟩ => ?_
  subst he
  exact ChangeSpec.post_blind hp
variable {W : World}
theorem int_cell {fuel : Nat} {held : Bool} {sp : Nat → Bool} {v : Value} {x : DataW H × List MemPlace} (h : DataW.trod enc Tryz.prog W 0 sp held fuel 3 [v] = some x) : ∃ z : Int, v = .int .i64 z := by
  obtain ⟨z, e, _, _⟩ := DataW.trod_int Tryz.underlying3 h
  exact ⟨z, by simpa using e⟩
theorem str_cell {fuel : Nat} {held : Bool} {sp : Nat → Bool} {v : Value} {x : DataW H × List MemPlace} (h : DataW.trod enc Tryz.prog W 0 sp held fuel 9 [v] = some x) : ∃ s : ByteArray, v = .string s ∧ s.size ≤ maxLen := by
  obtain ⟨s, e, _, hs⟩ := DataW.trod_string Tryz.underlying9 h
  exact ⟨s, by simpa using e, hs⟩
theorem bd_cells {fuel : Nat} {a b : Value} {x : DataW H × List MemPlace} (hf : DataW.trod enc Tryz.prog W 0 (fun _ => true) true fuel 23 [a, b] = some x) : ∃ p : Fil.Bd, a = .int .i64 p.kind ∧ b = .int .i64 p.n := by
  obtain ⟨xs, n, _, _, _, hl, hg⟩ := DataW.trod_struct Tryz.underlying23 hf
  have hl2 : xs.length = 2 := hl
  have k : ∀ i (hi : i < 2), ∃ y, xs[i]? = some y := fun i hi => ⟨_, List.getElem?_eq_getElem (by omega)⟩
  obtain ⟨y0, e0⟩ := k 0 (by omega)
  obtain ⟨y1, e1⟩ := k 1 (by omega)
  have g0 : DataW.trod enc Tryz.prog W 0 (fun _ => true) true n 3 ((([a, b] : List Value).drop 0).take (Tryz.prog.cellsOf 3)) = xs[0]? := hg 0 _ rfl
  have g1 : DataW.trod enc Tryz.prog W 0 (fun _ => true) true n 3 ((([a, b] : List Value).drop 1).take (Tryz.prog.cellsOf 3)) = xs[1]? := hg 1 _ rfl
  rw [cellsInt, e0] at g0
  rw [cellsInt, e1] at g1
  obtain ⟨z0, rfl⟩ := int_cell (v := a) g0
  obtain ⟨z1, rfl⟩ := int_cell (v := b) g1
  exact ⟨⟨z0, z1⟩, rfl, rfl⟩
theorem list2 {α : Type} (l : List α) (h : (⟨l⟩ : Array α).size = 2) : ∃ a b, l = [a, b] := by
  match l, h with
  | [a, b], _ => exact ⟨a, b, rfl⟩
theorem uncons {α : Type} {l : List α} {n : Nat} (h : l.length = n + 1) : ∃ a r, l = a :: r ∧ r.length = n := by
  cases l with
  | nil => cases h
  | cons a r => exact ⟨a, r, rfl, by simpa using h⟩
theorem list16 {α : Type} (l : List α) (h : (⟨l⟩ : Array α).size = 16) : ∃ c0 c1 c2 c3 c4 c5 c6 c7 c8 c9 c10 c11 c12 c13 c14 c15, l = [c0, c1, c2, c3, c4, c5, c6, c7, c8, c9, c10, c11, c12, c13, c14, c15] := by
  have h0 : l.length = 16 := h
  obtain ⟨c0, r0, rfl, h1⟩ := uncons h0
  obtain ⟨c1, r1, rfl, h2⟩ := uncons h1
  obtain ⟨c2, r2, rfl, h3⟩ := uncons h2
  obtain ⟨c3, r3, rfl, h4⟩ := uncons h3
  obtain ⟨c4, r4, rfl, h5⟩ := uncons h4
  obtain ⟨c5, r5, rfl, h6⟩ := uncons h5
  obtain ⟨c6, r6, rfl, h7⟩ := uncons h6
  obtain ⟨c7, r7, rfl, h8⟩ := uncons h7
  obtain ⟨c8, r8, rfl, h9⟩ := uncons h8
  obtain ⟨c9, r9, rfl, h10⟩ := uncons h9
  obtain ⟨c10, r10, rfl, h11⟩ := uncons h10
  obtain ⟨c11, r11, rfl, h12⟩ := uncons h11
  obtain ⟨c12, r12, rfl, h13⟩ := uncons h12
  obtain ⟨c13, r13, rfl, h14⟩ := uncons h13
  obtain ⟨c14, r14, rfl, h15⟩ := uncons h14
  obtain ⟨c15, r15, rfl, h16⟩ := uncons h15
  obtain rfl := List.eq_nil_of_length_eq_zero h16
  exact ⟨c0, c1, c2, c3, c4, c5, c6, c7, c8, c9, c10, c11, c12, c13, c14, c15, rfl⟩
set_option maxRecDepth 100000 in
theorem open_bd {b0 : Nat} {v : Value} {d : DataW H} {ps : List MemPlace} (hok : Value.okWide Tryz.prog W .any b0 23 v) (hd : DataW.Trod enc Tryz.prog W 0 (fun _ => true) true 23 v d ps) : ∃ p : Fil.Bd, v = .agg #[.int .i64 p.kind, .int .i64 p.n] := by
  obtain ⟨cs, rfl, hsz⟩ := okWide_struct Tryz.underlying23 hok
  rw [cellsTB] at hsz
  obtain ⟨l⟩ := cs
  obtain ⟨a, b, rfl⟩ := list2 l hsz
  obtain ⟨fuel, hf⟩ := hd
  obtain ⟨p, rfl, rfl⟩ := bd_cells hf
  exact ⟨p, rfl⟩
set_option maxRecDepth 100000 in
theorem flt_cells {fuel : Nat} {cs : List Value} {x : DataW H × List MemPlace} (hf : DataW.trod enc Tryz.prog W 0 (fun _ => true) true fuel 25 cs = some x) (hsz : cs.length = 16) :
    ∃ (f : Fil.Flt) (fs : ByteArray), cs = (cellsF f fs).toList ∧ f.sub = fs.data.toList ∧ fs.size ≤ maxLen := by
  obtain ⟨c0, c1, c2, c3, c4, c5, c6, c7, c8, c9, c10, c11, c12, c13, c14, c15, rfl⟩ := list16 cs hsz
  obtain ⟨xs, n, _, _, _, hl, hg⟩ := DataW.trod_struct Tryz.underlying25 hf
  have hl13 : xs.length = 13 := hl
  have k : ∀ i (hi : i < 13), ∃ y, xs[i]? = some y := fun i hi => ⟨_, List.getElem?_eq_getElem (by omega)⟩
  obtain ⟨y0, e0⟩ := k 0 (by omega)
  have g0 : DataW.trod enc Tryz.prog W 0 (fun _ => true) true n 3 ((([c0, c1, c2, c3, c4, c5, c6, c7, c8, c9, c10, c11, c12, c13, c14, c15] : List Value).drop 0).take (Tryz.prog.cellsOf 3)) = xs[0]? := hg 0 _ rfl
  rw [cellsInt, e0] at g0
  obtain ⟨y1, e1⟩ := k 1 (by omega)
  have g1 : DataW.trod enc Tryz.prog W 0 (fun _ => true) true n 3 ((([c0, c1, c2, c3, c4, c5, c6, c7, c8, c9, c10, c11, c12, c13, c14, c15] : List Value).drop 1).take (Tryz.prog.cellsOf 3)) = xs[1]? := hg 1 _ rfl
  rw [cellsInt, e1] at g1
  obtain ⟨y2, e2⟩ := k 2 (by omega)
  have g2 : DataW.trod enc Tryz.prog W 0 (fun _ => true) true n 3 ((([c0, c1, c2, c3, c4, c5, c6, c7, c8, c9, c10, c11, c12, c13, c14, c15] : List Value).drop 2).take (Tryz.prog.cellsOf 3)) = xs[2]? := hg 2 _ rfl
  rw [cellsInt, e2] at g2
  obtain ⟨y3, e3⟩ := k 3 (by omega)
  have g3 : DataW.trod enc Tryz.prog W 0 (fun _ => true) true n 3 ((([c0, c1, c2, c3, c4, c5, c6, c7, c8, c9, c10, c11, c12, c13, c14, c15] : List Value).drop 3).take (Tryz.prog.cellsOf 3)) = xs[3]? := hg 3 _ rfl
  rw [cellsInt, e3] at g3
  obtain ⟨y4, e4⟩ := k 4 (by omega)
  have g4 : DataW.trod enc Tryz.prog W 0 (fun _ => true) true n 3 ((([c0, c1, c2, c3, c4, c5, c6, c7, c8, c9, c10, c11, c12, c13, c14, c15] : List Value).drop 4).take (Tryz.prog.cellsOf 3)) = xs[4]? := hg 4 _ rfl
  rw [cellsInt, e4] at g4
  obtain ⟨y5, e5⟩ := k 5 (by omega)
  have g5 : DataW.trod enc Tryz.prog W 0 (fun _ => true) true n 3 ((([c0, c1, c2, c3, c4, c5, c6, c7, c8, c9, c10, c11, c12, c13, c14, c15] : List Value).drop 5).take (Tryz.prog.cellsOf 3)) = xs[5]? := hg 5 _ rfl
  rw [cellsInt, e5] at g5
  obtain ⟨y6, e6⟩ := k 6 (by omega)
  have g6 : DataW.trod enc Tryz.prog W 0 (fun _ => true) true n 3 ((([c0, c1, c2, c3, c4, c5, c6, c7, c8, c9, c10, c11, c12, c13, c14, c15] : List Value).drop 6).take (Tryz.prog.cellsOf 3)) = xs[6]? := hg 6 _ rfl
  rw [cellsInt, e6] at g6
  obtain ⟨y7, e7⟩ := k 7 (by omega)
  have g7 : DataW.trod enc Tryz.prog W 0 (fun _ => true) true n 9 ((([c0, c1, c2, c3, c4, c5, c6, c7, c8, c9, c10, c11, c12, c13, c14, c15] : List Value).drop 7).take (Tryz.prog.cellsOf 9)) = xs[7]? := hg 7 _ rfl
  rw [cellsStr, e7] at g7
  obtain ⟨y8, e8⟩ := k 8 (by omega)
  have g8 : DataW.trod enc Tryz.prog W 0 (fun _ => true) true n 3 ((([c0, c1, c2, c3, c4, c5, c6, c7, c8, c9, c10, c11, c12, c13, c14, c15] : List Value).drop 8).take (Tryz.prog.cellsOf 3)) = xs[8]? := hg 8 _ rfl
  rw [cellsInt, e8] at g8
  obtain ⟨y9, e9⟩ := k 9 (by omega)
  have g9 : DataW.trod enc Tryz.prog W 0 (fun _ => true) true n 3 ((([c0, c1, c2, c3, c4, c5, c6, c7, c8, c9, c10, c11, c12, c13, c14, c15] : List Value).drop 9).take (Tryz.prog.cellsOf 3)) = xs[9]? := hg 9 _ rfl
  rw [cellsInt, e9] at g9
  obtain ⟨y10, e10⟩ := k 10 (by omega)
  have g10 : DataW.trod enc Tryz.prog W 0 (fun _ => true) true n 23 ((([c0, c1, c2, c3, c4, c5, c6, c7, c8, c9, c10, c11, c12, c13, c14, c15] : List Value).drop 10).take (Tryz.prog.cellsOf 23)) = xs[10]? := hg 10 _ rfl
  rw [cellsTB, e10] at g10
  obtain ⟨y11, e11⟩ := k 11 (by omega)
  have g11 : DataW.trod enc Tryz.prog W 0 (fun _ => true) true n 23 ((([c0, c1, c2, c3, c4, c5, c6, c7, c8, c9, c10, c11, c12, c13, c14, c15] : List Value).drop 12).take (Tryz.prog.cellsOf 23)) = xs[11]? := hg 11 _ rfl
  rw [cellsTB, e11] at g11
  obtain ⟨y12, e12⟩ := k 12 (by omega)
  have g12 : DataW.trod enc Tryz.prog W 0 (fun _ => true) true n 23 ((([c0, c1, c2, c3, c4, c5, c6, c7, c8, c9, c10, c11, c12, c13, c14, c15] : List Value).drop 14).take (Tryz.prog.cellsOf 23)) = xs[12]? := hg 12 _ rfl
  rw [cellsTB, e12] at g12
  obtain ⟨z0, rfl⟩ := int_cell (v := c0) g0
  obtain ⟨z1, rfl⟩ := int_cell (v := c1) g1
  obtain ⟨z2, rfl⟩ := int_cell (v := c2) g2
  obtain ⟨z3, rfl⟩ := int_cell (v := c3) g3
  obtain ⟨z4, rfl⟩ := int_cell (v := c4) g4
  obtain ⟨z5, rfl⟩ := int_cell (v := c5) g5
  obtain ⟨z6, rfl⟩ := int_cell (v := c6) g6
  obtain ⟨z7, rfl, h7⟩ := str_cell (v := c7) g7
  obtain ⟨z8, rfl⟩ := int_cell (v := c8) g8
  obtain ⟨z9, rfl⟩ := int_cell (v := c9) g9
  obtain ⟨z10, rfl, rfl⟩ := bd_cells (a := c10) (b := c11) g10
  obtain ⟨z11, rfl, rfl⟩ := bd_cells (a := c12) (b := c13) g11
  obtain ⟨z12, rfl, rfl⟩ := bd_cells (a := c14) (b := c15) g12
  exact ⟨⟨z0, z1, z2, z3, z4, z5, z6, z7.data.toList, z8, z9, z10, z11, z12⟩, z7, rfl, rfl, h7⟩
set_option maxHeartbeats 4000000 in
set_option maxRecDepth 100000 in
theorem rep_cells {fuel : Nat} {cs : List Value} {x : DataW H × List MemPlace} (hf : DataW.trod enc Tryz.prog W 0 (fun _ => true) true fuel 27 cs = some x) (hsz : cs.length = 22) :
    ∃ (on : Int) (who : Int) (f : Fil.Flt) (fs : ByteArray) (d : Int) (n : Int) (z : Int) (c : Int), cs = (cat [#[.int .i64 on], #[.int .i64 who], cellsF f fs, #[.int .i64 d], #[.int .i64 n], #[.int .i64 z], #[.int .i64 c]]).toList ∧ f.sub = fs.data.toList ∧ fs.size ≤ maxLen := by
  obtain ⟨xs, fu, _, _, _, hl, hg⟩ := DataW.trod_struct Tryz.underlying27 hf
  have hlk : xs.length = 7 := hl
  have kk : ∀ i (hi : i < 7), ∃ y, xs[i]? = some y := fun i hi => ⟨_, List.getElem?_eq_getElem (by omega)⟩
  obtain ⟨y0, e0⟩ := kk 0 (by omega)
  have g0 : DataW.trod enc Tryz.prog W 0 (fun _ => true) true fu 3 ((cs.drop 0).take (Tryz.prog.cellsOf 3)) = xs[0]? := hg 0 _ rfl
  rw [show Tryz.prog.cellsOf 3 = 1 by kernel_rfl, e0] at g0
  obtain ⟨v0, q0⟩ := one_of ((cs.drop 0).take 1) (by simp; omega)
  rw [q0] at g0
  obtain ⟨on, rfl⟩ := int_cell g0
  obtain ⟨y1, e1⟩ := kk 1 (by omega)
  have g1 : DataW.trod enc Tryz.prog W 0 (fun _ => true) true fu 3 ((cs.drop 1).take (Tryz.prog.cellsOf 3)) = xs[1]? := hg 1 _ rfl
  rw [show Tryz.prog.cellsOf 3 = 1 by kernel_rfl, e1] at g1
  obtain ⟨v1, q1⟩ := one_of ((cs.drop 1).take 1) (by simp; omega)
  rw [q1] at g1
  obtain ⟨who, rfl⟩ := int_cell g1
  obtain ⟨y2, e2⟩ := kk 2 (by omega)
  have g2 : DataW.trod enc Tryz.prog W 0 (fun _ => true) true fu 25 ((cs.drop 2).take (Tryz.prog.cellsOf 25)) = xs[2]? := hg 2 _ rfl
  rw [show Tryz.prog.cellsOf 25 = 16 by kernel_rfl, e2] at g2
  obtain ⟨f, fs, q2, h2_0, h2_1⟩ := flt_cells g2 (by simp; omega)
  obtain ⟨y3, e3⟩ := kk 3 (by omega)
  have g3 : DataW.trod enc Tryz.prog W 0 (fun _ => true) true fu 3 ((cs.drop 18).take (Tryz.prog.cellsOf 3)) = xs[3]? := hg 3 _ rfl
  rw [show Tryz.prog.cellsOf 3 = 1 by kernel_rfl, e3] at g3
  obtain ⟨v3, q3⟩ := one_of ((cs.drop 18).take 1) (by simp; omega)
  rw [q3] at g3
  obtain ⟨d, rfl⟩ := int_cell g3
  obtain ⟨y4, e4⟩ := kk 4 (by omega)
  have g4 : DataW.trod enc Tryz.prog W 0 (fun _ => true) true fu 3 ((cs.drop 19).take (Tryz.prog.cellsOf 3)) = xs[4]? := hg 4 _ rfl
  rw [show Tryz.prog.cellsOf 3 = 1 by kernel_rfl, e4] at g4
  obtain ⟨v4, q4⟩ := one_of ((cs.drop 19).take 1) (by simp; omega)
  rw [q4] at g4
  obtain ⟨n, rfl⟩ := int_cell g4
  obtain ⟨y5, e5⟩ := kk 5 (by omega)
  have g5 : DataW.trod enc Tryz.prog W 0 (fun _ => true) true fu 3 ((cs.drop 20).take (Tryz.prog.cellsOf 3)) = xs[5]? := hg 5 _ rfl
  rw [show Tryz.prog.cellsOf 3 = 1 by kernel_rfl, e5] at g5
  obtain ⟨v5, q5⟩ := one_of ((cs.drop 20).take 1) (by simp; omega)
  rw [q5] at g5
  obtain ⟨z, rfl⟩ := int_cell g5
  obtain ⟨y6, e6⟩ := kk 6 (by omega)
  have g6 : DataW.trod enc Tryz.prog W 0 (fun _ => true) true fu 3 ((cs.drop 21).take (Tryz.prog.cellsOf 3)) = xs[6]? := hg 6 _ rfl
  rw [show Tryz.prog.cellsOf 3 = 1 by kernel_rfl, e6] at g6
  obtain ⟨v6, q6⟩ := one_of ((cs.drop 21).take 1) (by simp; omega)
  rw [q6] at g6
  obtain ⟨c, rfl⟩ := int_cell g6
  have e : cs.drop 0 = _ := (part_step cs 0 1 q0 (part_step cs 1 1 q1 (part_step cs 2 16 q2 (part_step cs 18 1 q3 (part_step cs 19 1 q4 (part_step cs 20 1 q5 (part_step cs 21 1 q6 (part_end cs hsz))))))))
  refine ⟨on, who, f, fs, d, n, z, c, ?_, h2_0, h2_1⟩
  rw [List.drop_zero] at e
  rw [e, cat_list]
  simp
set_option maxRecDepth 100000 in
theorem open_rep {b0 : Nat} {v : Value} {d : DataW H} {ps : List MemPlace} (hok : Value.okWide Tryz.prog W .any b0 27 v) (hd : DataW.Trod enc Tryz.prog W 0 (fun _ => true) true 27 v d ps) :
    ∃ (on : Int) (who : Int) (f : Fil.Flt) (fs : ByteArray) (d : Int) (n : Int) (z : Int) (c : Int), v = .agg (cat [#[.int .i64 on], #[.int .i64 who], cellsF f fs, #[.int .i64 d], #[.int .i64 n], #[.int .i64 z], #[.int .i64 c]]) ∧ f.sub = fs.data.toList ∧ fs.size ≤ maxLen := by
  obtain ⟨cs, rfl, hsz⟩ := okWide_struct Tryz.underlying27 hok
  rw [show Tryz.prog.cellsOf 27 = 22 by kernel_rfl] at hsz
  obtain ⟨l⟩ := cs
  obtain ⟨fuel, hf⟩ := hd
  have h9 : l.length = 22 := hsz
  obtain ⟨on, who, f, fs, d, n, z, c, h8, h0, h1⟩ := rep_cells hf h9
  exact ⟨on, who, f, fs, d, n, z, c, (congrArg (fun z => Value.agg ⟨z⟩) h8).trans (agg_list _), h0, h1⟩
end
end Go.Proofs.YtkohfomiigcifaaGreatDoor
namespace Go.Proofs.YtkohfomiigcifaaGreatDoor.Frame
open Go.ChangeShapes Go.WideShapes Go.RowKit
/-- a byte's number as a byte -/
theorem byte_of {n : Int} (h : (Lit.int .u8 n).wf = true) : ∃ c : UInt8, n = (c.toNat : Int) := by
  have h2 : 0 ≤ n ∧ n ≤ 255 := bounds_u8 h
  exact ⟨UInt8.ofNat n.toNat, by rw [UInt8.toNat_ofNat_of_lt' (by simp; omega)]; omega⟩
theorem u16_of {n : Int} (h : (Lit.int .u16 n).wf = true) : ∃ c : Nat, c < 65536 ∧ n = (c : Int) := by
  have h2 : 0 ≤ n ∧ n ≤ 65535 := bounds_u16 h
  exact ⟨n.toNat, by omega, by omega⟩
theorem u32_of {n : Int} (h : (Lit.int .u32 n).wf = true) : ∃ c : Nat, c < 4294967296 ∧ n = (c : Int) := by
  have h2 : 0 ≤ n ∧ n ≤ 4294967295 := bounds_u32 h
  exact ⟨n.toNat, by omega, by omega⟩
variable {H : Type} {enc : TypeId × Value → H} {P : Program}

theorem trodAll_below (hl : laidOutB P = true) {W W' : World} (hb : Below W.heap.size W W') :
    ∀ {ts : List TypeId} {vs : List Value} {ds : List (DataW H)} {ps : List MemPlace}, (ts.all fun t => P.readableRec t && decide (t < P.types.size)) = true →
      DataW.TrodAll enc P W 0 (fun _ => true) true ts vs ds ps → (∀ x ∈ ps, x.block < W.heap.size) →
      DataW.TrodAll enc P W' 0 (fun b => decide (b < W.heap.size)) true ts vs ds ps
  | [], vs, ds, ps, _, h, _ => by
    obtain ⟨rfl, rfl, rfl⟩ := trodAll_nil h
    exact trodAll_mk0
  | t :: ts, vs, ds, ps, hr, h, hlt => by
    obtain ⟨v, vs', d, ds', p, q, rfl, rfl, rfl, h0, h1⟩ := trodAll_cons h
    simp only [List.all_cons, Bool.and_eq_true, decide_eq_true_eq] at hr
    exact trodAll_cons_mk (Below.trod hl hr.1.1 hr.1.2 h0 hb (fun x hx => hlt x (List.mem_append_left _ hx)))
      (trodAll_below hl hb (by simpa using hr.2) h1 (fun x hx => hlt x (List.mem_append_right _ hx)))

theorem post_law {f : Func} {s : ChangeSpec} {tb : TypeId} {W W' : World} {args : Array Value} {ds gs : List (DataW H)} {before : List MemPlace} {apart : Bool}
    (hl : laidOutB P = true) (hr : (f.params.toList.all fun t => P.readableRec t && decide (t < P.types.size)) = true) (hres : f.resultTypes = #[tb]) (htb : P.underlying tb = some .bool) (hvars : s.vars = [])
    (hW : DataW.Whole enc P f.params.toList s.vars apart W args.toList ds gs before) (hspec : s.fn H ds = { results := [.lit (.bool true)], args := ds }) (hb : Below W.heap.size W W') :
    s.post enc P f apart true false false W args (.bool true) W' := by
  have hW' := hW
  have hlt := hW.lt
  obtain ⟨p, q, hA, hV, rfl, _, _⟩ := hW
  rw [hvars] at hV
  obtain ⟨rfl, rfl⟩ := trodVars_none hV
  simp only [List.append_nil] at hW' hlt
  refine ⟨ds, [], p, [], p, [], hW', ?_, ?_, ?_, hb.frame _, fun h => by cases h⟩
  · rw [List.append_nil, hspec, hres]
    exact trodAll_cons_mk (shut_bool htb true) trodAll_mk0
  · rw [List.append_nil, hspec]
    exact trodAll_below hl hb hr hA hlt
  · rw [List.append_nil, hspec, hvars]
    rfl
end Go.Proofs.YtkohfomiigcifaaGreatDoor.Frame
