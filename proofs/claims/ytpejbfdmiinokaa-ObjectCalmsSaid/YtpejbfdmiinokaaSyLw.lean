/-
  RUNS RECKONED AHEAD: a law without loops, whatever its arguments are: all ways answer true. By an AI agent.
-/
import Derived.Test.YtpejbfdmiinokaaSyOp
import Derived.WideShapes
import Derived.ChangeMaps5
namespace Go.Sx
open Go.RowKit Go.ChangeShapes Go.WideShapes
/-- scalars, then more -/
def Shp.ts : List Nat → Shp → Shp
  | [], r => r
  | g :: l, r => .t g (Shp.ts l r)
/-- all ways answer true -/
def allT : T3 → Bool
  | .l v => veq v (.bool true)
  | .n _ a b => match allT a with
    | true => allT b
    | false => false
theorem allT_out [Th] {X : Value} : ∀ (T : T3), allT T = true → T.Out X → X = .bool true
  | .l v, h, ⟨r, k⟩ => by
    have e := veq_eq (show veq v (.bool true) = true from h)
    subst e
    exact still3_eq k rfl
  | .n t a b, h, k => by
    unfold allT at h
    split at h
    · rename_i ha
      rcases k with ⟨-, k⟩ | ⟨-, k⟩
      · exact allT_out a ha k
      · exact allT_out b h k
    · cases h
/-- a value by its cells -/
def ofCells (agg : Bool) (xs : List Value) : Value := match agg with
  | true => .agg ⟨xs⟩
  | false => xs.headD undef
def aggT (P : Program) (t : TypeId) : Bool := match P.underlying t with
  | some (.struct _) => true
  | some (.array _ _) => true
  | _ => false
/-- a parameter: whether it is a row of cells, and which -/
abbrev Par := Bool × Shp
def letA (a : Par) (k : Nat) : Value := match a.1 with
  | true => .agg ⟨letR a.2.tags (1000 * (k + 1))⟩
  | false => L (a.2.tags.headD 0) (1000 * (k + 1))
def letArgs : List Par → Nat → List Value
  | [], _ => []
  | a :: l, k => letA a k :: letArgs l (k + 1)
def valArgs : List Par → List (List Value) → List Value
  | a :: l, x :: r => ofCells a.1 x :: valArgs l r
  | _, _ => []
/-- the letters of the arguments -/
def rhoArgs (xss : List (List Value)) (i : Nat) : Value := (((xss[i / 1000 - 1]?).getD [])[i % 1000]?).getD undef
def parOk (a : Par) : Bool := (Nat.blt a.2.tags.length 1000 && a.2.tags.all (fun g => Nat.blt g 16)) && (a.1 || Nat.beq a.2.tags.length 1)
def ArgsAt : List Par → List (List Value) → Prop
  | [], [] => True
  | a :: l, x :: r => Tags a.2.tags x ∧ ArgsAt l r
  | _, _ => False
section
variable {W : World}
theorem rhoArgs_at {xss : List (List Value)} {k : Nat} {x : List Value} (h : xss[k]? = some x) {j : Nat} (hj : j < 1000) : rhoArgs xss (1000 * (k + 1) + j) = (x[j]?).getD undef := by
  unfold rhoArgs
  have e1 : (1000 * (k + 1) + j) / 1000 - 1 = k := by omega
  have e2 : (1000 * (k + 1) + j) % 1000 = j := by omega
  rw [e1, e2, h]
  rfl
theorem letArgs_all {r : List Nat} {xss : List (List Value)} : ∀ {as : List Par} {ys : List (List Value)} {k : Nat}, as.all parOk = true → ArgsAt as ys → (∀ i y, ys[i]? = some y → xss[k + i]? = some y) →
    @All (@V2 (thOf (rhoArgs xss) W) r) (letArgs as k).toArray (valArgs as ys).toArray
  | [], [], _, _, _, _ => by
    letI := thOf (rhoArgs xss) W
    exact All.nil
  | [], _ :: _, _, _, h, _ => h.elim
  | _ :: _, [], _, _, h, _ => h.elim
  | a :: l, y :: ys, k, hp, h, hx => by
    letI := thOf (rhoArgs xss) W
    rw [List.all_cons, Bool.and_eq_true] at hp
    have hy := hx 0 y rfl
    have ih := letArgs_all (r := r) (xss := xss) (as := l) (ys := ys) (k := k + 1) hp.2 h.2 (fun i z hz => by
      have := hx (i + 1) z hz
      rw [show k + (i + 1) = k + 1 + i by omega] at this
      exact this)
    obtain ⟨hsz, hel⟩ := ih
    have hp1 := hp.1
    unfold parOk at hp1
    simp only [Bool.and_eq_true, List.all_eq_true, Bool.or_eq_true] at hp1
    obtain ⟨⟨p1, p2⟩, p3⟩ := hp1
    have p1 : a.2.tags.length < 1000 := by simpa [Nat.blt_eq] using p1
    have hρ : ∀ j, j < a.2.tags.length → rhoArgs xss (1000 * (k + 1) + j) = (y[j]?).getD undef := fun j hj => rhoArgs_at (by simpa using hy) (by omega)
    have head : V2 r (letA a k) (ofCells a.1 y) := by
      obtain ⟨agg, s⟩ := a
      cases agg with
      | true => exact ⟨_, rfl, letR_all h.1 (fun g hg => by simpa [Nat.blt_eq] using p2 g hg) hρ⟩
      | false =>
        have hlen : s.tags.length = 1 := by
          rcases p3 with p3 | p3
          · cases p3
          · exact Nat.eq_of_beq_eq_true p3
        obtain ⟨g, hg⟩ : ∃ g, s.tags = [g] := by
          match hs : s.tags, hlen with
          | [g], _ => exact ⟨g, rfl⟩
        obtain ⟨v, v1, v2⟩ := h.1.2 0 g (by simp [hg])
        have ey : y.headD undef = v := by
          cases y with
          | nil => simp at v1
          | cons z t => simpa using v1
        have e0 : rhoArgs xss (1000 * (k + 1)) = v := by
          have := hρ 0 (by show 0 < s.tags.length; omega)
          rw [Nat.add_zero, v1] at this
          exact this
        show V2 r (L (s.tags.headD 0) (1000 * (k + 1))) (y.headD undef)
        rw [hg, ey]
        have := let_de (ρ := rhoArgs xss) (W := W) (g := g) (i := 1000 * (k + 1)) (by
          have := p2 g (by simp [hg])
          simpa [Nat.blt_eq] using this) (by rw [e0]; exact v2)
        rw [e0] at this
        exact this
    refine ⟨by simpa [letArgs, valArgs] using hsz, fun i u v hu hv => ?_⟩
    rcases i with _ | i
    · simp [letArgs] at hu
      simp [valArgs] at hv
      subst hu hv
      exact head
    · refine hel i u v ?_ ?_
      · simpa [letArgs] using hu
      · simpa [valArgs] using hv
/-- A LAW WITHOUT LOOPS -/
theorem lawBy {P : Program} {G : Nat} {l : List Bk} {f : FuncId} {as : List Par} {T : T3} {n : Nat} {env : EnvF} (hN : NoGo P) (hM : P.follows .mixedOrders = true) (hc : chk (runF P G (fun _ => env) [] n l f (letArgs as 0).toArray) T [] = true) (hT : allT T = true) (has : as.all parOk = true)
    {xss : List (List Value)} (hx : ArgsAt as xss) (henv : @EnvOk (thOf (rhoArgs xss) W) P G W env) (hK : Knows G l W) : Calls P f (valArgs as xss).toArray W fun e w' => e = .returned (.bool true) ∧ Below W.heap.size W w' := by
  letI := thOf (rhoArgs xss) W
  haveI := ts_of (rhoArgs xss) W
  haveI := at_of (rhoArgs xss) W
  refine (reckonedO n hN hM (T := T) (F := []) (M := []) (env := fun _ => env) (l := l) hc (fun p h => (by cases h)) (fun p h => (by cases h)) W (args' := (valArgs as xss).toArray) (letArgs_all (k := 0) has hx (fun i y h => by simpa using h)) (fun F hF => henv) hK).mono ?_
  rintro e w' ⟨X, rfl, h1, h2⟩
  rw [allT_out T hT h1]
  exact ⟨rfl, h2⟩
variable {H : Type} {enc : TypeId × Value → H} {P : Program}
theorem open_any {d : Nat} {T : TypeId} {s : Shp} {agg : Bool} {b0 : Nat} {v : Value} {dt : DataW H} {ps : List MemPlace} (hs : shOf P d T = some s) (ha : aggT P T = agg) (hc : P.cellsOf T = s.tags.length) (hok : Value.okWide P W .any b0 T v) (hd : DataW.Trod enc P W 0 (fun _ => true) true T v dt ps) :
    ∃ (xs : List Value) (ds : List Da), v = ofCells agg xs ∧ Dat W s xs ds := by
  cases d with
  | zero => cases hs
  | succ d =>
  obtain ⟨fuel, hf⟩ := id hd
  have fin : ∀ x : Value, v = x → x.cells = #[x] → s.tags.length = 1 → agg = false → ∃ (xs : List Value) (ds : List Da), v = ofCells agg xs ∧ Dat W s xs ds := fun x hx h1 h2 h3 => by
    subst hx h3
    rw [h1] at hf
    obtain ⟨ds, h⟩ := opens (d + 1) T s hs fuel [v] _ hf (by rw [h2]; rfl)
    exact ⟨[v], ds, rfl, h⟩
  have hs0 := hs
  unfold shOf at hs0
  unfold aggT at ha
  split at hs0
  · rename_i hu
    rw [hu] at ha
    injection hs0 with hs0
    obtain ⟨b, rfl, -⟩ := open_bool hu hok hd
    exact fin _ rfl rfl (by rw [← hs0]; rfl) ha.symm
  · rename_i k hu
    rw [hu] at ha
    injection hs0 with hs0
    obtain ⟨b, rfl, -⟩ := open_int hu hok hd
    exact fin _ rfl rfl (by rw [← hs0]; rfl) ha.symm
  · rename_i hu
    rw [hu] at ha
    injection hs0 with hs0
    obtain ⟨b, rfl, -⟩ := Go.ChangeMaps.open_string hu hok hd
    exact fin _ rfl rfl (by rw [← hs0]; rfl) ha.symm
  · rename_i e hu
    rw [hu] at ha
    have hsl : s.tags.length = 1 := by
      split at hs0
      · split at hs0
        · injection hs0 with hs0
          rw [← hs0]
          rfl
        · cases hs0
      · cases hs0
    have hno : ∀ cs, v ≠ .agg cs := fun cs e => by
      subst e
      unfold Value.okWide at hok
      rw [hu] at hok
      unfold Cell.okWide at hok
      rw [hu] at hok
      unfold Cell.ok at hok
      rw [hu] at hok
      exact hok
    exact fin v rfl (by cases v <;> first | rfl | exact absurd rfl (hno _)) hsl ha.symm
  · rename_i n e hu
    rw [hu] at ha
    obtain ⟨cs, rfl, hsz, -⟩ : ∃ cs, v = .agg cs ∧ cs.size = P.cellsOf T ∧ Row.okWide P W .any b0 T cs := by
      unfold Value.okWide at hok
      rw [hu] at hok
      exact hok
    obtain ⟨l⟩ := cs
    subst ha
    obtain ⟨ds, h⟩ := opens (d + 1) T s hs fuel l _ hf (by rw [← hc, ← hsz]; rfl)
    exact ⟨l, ds, rfl, h⟩
  · rename_i fs hu
    rw [hu] at ha
    obtain ⟨cs, rfl, hsz⟩ := okWide_struct hu hok
    obtain ⟨l⟩ := cs
    subst ha
    obtain ⟨ds, h⟩ := opens (d + 1) T s hs fuel l _ hf (by rw [← hc, ← hsz]; rfl)
    exact ⟨l, ds, rfl, h⟩
  · cases hs0
end
end Go.Sx
