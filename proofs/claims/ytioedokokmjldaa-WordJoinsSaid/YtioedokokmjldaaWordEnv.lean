/-
  WHAT THE PLAIN ROWS OF LAYER 2 NEED: the knob, the lay-out, that strings.Contains' variable holds a number; a slice of strings among the arguments. By an AI agent.
-/
import Derived.Test.YtioedokokmjldaaRows
import Derived.Test.YtioedokokmjldaaWordWalksE
import Derived.SliceStrings
import Derived.SizedLaws
import Derived.Shelf.Vars
namespace Go.Proofs.Ytioedokokmjldaa
open Go.RowKit Go.ChangeShapes Go.WideShapes

theorem own : ownKnob Try.prog.godebug = none := by kernel_rfl
theorem laidOut : laidOutB Try.prog = true := by kernel_rfl
theorem env_of_shaped {W : World} (h : W.ShapedOpen Try.prog) : Env W :=
  cell_of_shapedOpen_int (zero := #[.int .i64 0]) (t := 3) h (of_decide_eq_true (by kernel_rfl)) (by kernel_rfl) rfl (by kernel_rfl) (by kernel_rfl) Try.underlying3
theorem cellsStr : Try.prog.cellsOf 9 = 1 := by kernel_rfl
theorem weightsAll_mem {H : Type} {P : Program} {e : TypeId} : ∀ {l : List (DataW H)} {d : DataW H}, d ∈ l → ∀ n ∈ d.weights P e, n ∈ DataW.weightsAll P e l
  | [], _, h, _, _ => by cases h
  | a :: r, d, h, n, hn => by
    simp only [DataW.weightsAll, List.mem_append]
    rcases List.mem_cons.1 h with rfl | h
    · exact Or.inl hn
    · exact Or.inr (weightsAll_mem h n hn)
/-- the form's own reach, of a string in a slice -/
theorem sized_elem {H : Type} {P : Program} {ts : List TypeId} {ds : List (DataW H)} (h : (DataW.weightsEach P ts ds).all (· ≤ reachBytes) = true) {j : Nat} {t e : TypeId} {elems spare : List (DataW H)} {x : List UInt8}
    (ht : ts[j]? = some t) (hd : ds[j]? = some (.slice elems spare)) (hu : P.underlying t = some (.slice e)) (hx : DataW.lit (.string x) ∈ elems) : x.length ≤ reachBytes := by
  refine of_decide_eq_true (List.all_eq_true.1 h _ (DataW.weights_mem_each ht hd _ ?_))
  simp only [DataW.weights, hu, List.mem_cons, List.mem_append]
  exact Or.inr (Or.inl (weightsAll_mem hx _ (by simp [DataW.weights])))
theorem open_arg_strs {H : Type} {enc : TypeId × Value → H} {W : World} {b0 j : Nat} {v : Value} {d : DataW H} {ps : List MemPlace} {ts : List TypeId} {ds : List (DataW H)}
    (hok : Value.okWide Try.prog W .any b0 25 v) (hd : DataW.Trod enc Try.prog W 0 (fun _ => true) true 25 v d ps)
    (hsz : (DataW.weightsEach Try.prog ts ds).all (· ≤ reachBytes) = true) (ht : ts[j]? = some 25) (hdj : ds[j]? = some d) :
    ∃ l : List (List UInt8), Strs W v l ∧ ∀ x ∈ l, x.length ≤ 140737488355328 := by
  obtain ⟨a0, len, cap, rfl⟩ := okWide_slice Try.underlying25 hok
  obtain ⟨fuel, hf⟩ := hd
  rcases open_strings Try.underlying25 Try.underlying9 cellsStr hf with ⟨hcs, _⟩ | ⟨a, len', cap', ss, hcs, _, hl, hm, hz, hx, hcell, _⟩
  · have e : Value.slice a0 len cap = .slice none 0 0 := by have h : [Value.slice a0 len cap] = [.slice none 0 0] := hcs; simpa using h
    rw [e]
    exact ⟨[], Strs.nil W, fun x hx => by cases hx⟩
  · have e : Value.slice a0 len cap = .slice (some a) len' cap' := by have h : [Value.slice a0 len cap] = [.slice (some a) len' cap'] := hcs; simpa using h
    rw [e]
    have hz' : ss.length = cap' := by simpa using hz
    have hlen : ((ss.take len').map (·.data.toList)).length = len' := by simp; omega
    refine ⟨(ss.take len').map (·.data.toList), ?_, ?_⟩
    · refine ⟨some a, cap', by rw [hlen], by rw [hlen]; exact hl, hm, fun i x hx' => ?_⟩
      have hi : i < len' := by have := (List.getElem?_eq_some_iff.1 hx').1; rw [hlen] at this; exact this
      have h0 := hcell 0 (by omega)
      have hspot : a.spot = none := by
        have := World.cell?_spot h0
        simpa [Addr.add] using this
      obtain ⟨b, o, sp⟩ := a
      simp only at hspot
      subst hspot
      have hlt : b < W.heap.size := by
        have := World.block_lt_of_cell? W _ h0
        simpa [Addr.add] using this
      refine ⟨b, o, rfl, hlt, ?_⟩
      have hci := hcell i (by omega)
      have hadd : (⟨b, o, none⟩ : Addr).add i = ⟨b, o + i, none⟩ := by unfold Addr.add; split <;> simp_all
      rw [hadd] at hci
      rw [hci]
      simp only [List.getElem?_map, List.getElem?_take, if_pos hi] at hx'
      rw [List.getElem?_eq_getElem (by omega)] at hx'
      simp only [Option.map_some, Option.some.injEq] at hx'
      subst hx'
      simp only [List.getD, List.getElem?_eq_getElem (show i < ss.length by omega), Option.getD_some, str_data]
    · intro x hxm
      have hx2 := (Prod.mk.inj hx).1
      rw [hx2] at hdj
      have := sized_elem hsz ht hdj Try.underlying25 (x := x) (by
        unfold strs
        obtain ⟨s, hs, rfl⟩ := List.mem_map.1 hxm
        exact List.mem_map.2 ⟨s, hs, rfl⟩)
      have h2 : reachBytes = 140737488351232 := by decide
      omega
end Go.Proofs.Ytioedokokmjldaa
