/-
  '==' OF ARRAYS OF INTS AND OF COSTS: laws for this program. By an AI agent.
-/
import Derived.Test.YtcllaenanihedaaDoorManaPlain
import Derived.Test.YtcllaenanihedaaDoorProg
import Derived.WalkKit
import Derived.Laws.StructEq
import Derived.ChangeKeysEq
namespace Go.Proofs.YtcllaenanihedaaDoor
open Go.RowKit

/-- array elements compared, one after the other -/
def eqElems (d : Nat) (e : TypeId) (n : Nat) (xs ys : Array Value) : List Nat → Sem Bool
  | [] => pure true
  | i :: is => do
    let a ← part e xs (i * n)
    let b ← part e ys (i * n)
    let r ← Op.equalIn d e a b
    if (!r) = true then pure false else eqElems d e n xs ys is
theorem run_equalIn_array {P : Program} (w : World) (d : Nat) (t e : TypeId) (k n : Nat) (xs ys : Array Value) (ht : P.underlying t = some (.array k e)) (hs : ∀ w, (sizeOf e).run P w = .ok n w) :
    (Op.equalIn (d + 1) t (.agg xs) (.agg ys)).run P w = (eqElems d e n xs ys (List.range k)).run P w := by
  simp only [Op.equalIn, Sem.run_bind, run_underlying ht, Result.andThen_ok, hs]
  rw [Std.Legacy.Range.forIn_eq_forIn_range']
  simp only [Std.Legacy.Range.size]
  rw [show List.range' 0 ((k - 0 + 1 - 1) / 1) 1 = List.range k by simp [List.range_eq_range']]
  generalize List.range k = is
  clear ht
  induction is generalizing w with
  | nil => simp [eqElems]
  | cons i is ih =>
    simp only [List.forIn_cons, eqElems, Sem.run_bind]
    generalize (part e xs (i * n)).run P w = r1
    cases r1 with
    | ok a w1 =>
      simp only [Result.andThen_ok]
      generalize (part e ys (i * n)).run P w1 = r2
      cases r2 with
      | ok b w2 =>
        simp only [Result.andThen_ok]
        generalize (Op.equalIn d e a b).run P w2 = r3
        cases r3 with
        | ok r w3 =>
          cases r
          · simp [Sem.run_pure]
          · simp only [Result.andThen_ok, Bool.not_true, Bool.false_eq_true, if_false, Sem.run_pure]
            exact ih w3
        | halt x w3 => simp [Result.andThen]
      | halt x w2 => simp [Result.andThen]
    | halt x w1 => simp [Result.andThen]
theorem range5 : List.range 5 = [0, 1, 2, 3, 4] := rfl
theorem range6 : List.range 6 = [0, 1, 2, 3, 4, 5] := rfl
theorem sizeInt (w : World) : (sizeOf 3).run Tryd.prog w = .ok 1 w := by kernel_rfl
theorem partInt (xs : Array Value) (i : Nat) (v : Value) (h : xs[i]? = some v) (w : World) : (part 3 xs i).run Tryd.prog w = .ok v w :=
  run_part_plain w (by kernel_rfl) h
theorem eqElems_step (d : Nat) (xs ys : Array Value) (i : Nat) (is : List Nat) (a b : Int) (ha : xs[i]? = some (.int .i64 a)) (hb : ys[i]? = some (.int .i64 b)) {r : Bool} (w : World)
    (h : (eqElems (d + 1) 3 1 xs ys is).run Tryd.prog w = .ok r w) : (eqElems (d + 1) 3 1 xs ys (i :: is)).run Tryd.prog w = .ok (a == b && r) w := by
  simp only [eqElems, Nat.mul_one, Sem.run_bind, partInt _ _ _ ha, partInt _ _ _ hb, Result.andThen_ok, run_equalIn_int w d 3 .i64 .i64 a b Tryd.underlying3]
  cases a == b
  · simp
  · simp [h]
theorem eqElems_nil (d : Nat) (xs ys : Array Value) (w : World) : (eqElems d 3 1 xs ys []).run Tryd.prog w = .ok true w := by simp [eqElems]
theorem run_eq_five (d : Nat) (a0 a1 a2 a3 a4 b0 b1 b2 b3 b4 : Int) (w : World) :
    (Op.equalIn (d + 1 + 1) 22 (.agg #[.int .i64 a0, .int .i64 a1, .int .i64 a2, .int .i64 a3, .int .i64 a4]) (.agg #[.int .i64 b0, .int .i64 b1, .int .i64 b2, .int .i64 b3, .int .i64 b4])).run Tryd.prog w =
      .ok (a0 == b0 && (a1 == b1 && (a2 == b2 && (a3 == b3 && (a4 == b4 && true))))) w := by
  rw [run_equalIn_array w (d + 1) 22 3 5 1 _ _ Tryd.underlying22 sizeInt, range5]
  exact eqElems_step d _ _ 0 _ _ _ rfl rfl w (eqElems_step d _ _ 1 _ _ _ rfl rfl w (eqElems_step d _ _ 2 _ _ _ rfl rfl w (eqElems_step d _ _ 3 _ _ _ rfl rfl w (eqElems_step d _ _ 4 _ _ _ rfl rfl w (eqElems_nil _ _ _ w)))))
/-- two pools are the same -/
def eqP (p q : Mana.Pl) : Bool := p.p0 == q.p0 && (p.p1 == q.p1 && (p.p2 == q.p2 && (p.p3 == q.p3 && (p.p4 == q.p4 && (p.p5 == q.p5 && true)))))
theorem eqP_iff {p q : Mana.Pl} : eqP p q = true ↔ p = q := by
  cases p; cases q
  simp [eqP]
theorem eqP_refl (p : Mana.Pl) : eqP p p = true := eqP_iff.2 rfl
theorem run_eq_pool (p q : Mana.Pl) (w : World) : (Op.equalIn 10000 35 (.agg #[.int .i64 p.p0, .int .i64 p.p1, .int .i64 p.p2, .int .i64 p.p3, .int .i64 p.p4, .int .i64 p.p5]) (.agg #[.int .i64 q.p0, .int .i64 q.p1, .int .i64 q.p2, .int .i64 q.p3, .int .i64 q.p4, .int .i64 q.p5])).run Tryd.prog w = .ok (eqP p q) w := by
  rw [run_equalIn_array w 9999 35 3 6 1 _ _ Tryd.underlying35 sizeInt, range6]
  exact eqElems_step 9998 _ _ 0 _ _ _ rfl rfl w (eqElems_step 9998 _ _ 1 _ _ _ rfl rfl w (eqElems_step 9998 _ _ 2 _ _ _ rfl rfl w (eqElems_step 9998 _ _ 3 _ _ _ rfl rfl w (eqElems_step 9998 _ _ 4 _ _ _ rfl rfl w (eqElems_step 9998 _ _ 5 _ _ _ rfl rfl w (eqElems_nil _ _ _ w))))))
/-- two costs are the same -/
def eqC (c d : Mana.Cst) : Bool := c.g == d.g && (c.x == d.x && (c.c0 == d.c0 && (c.c1 == d.c1 && (c.c2 == d.c2 && (c.c3 == d.c3 && (c.c4 == d.c4 && true))))))
theorem eqC_iff {c d : Mana.Cst} : eqC c d = true ↔ c = d := by
  cases c; cases d
  simp [eqC]
theorem eqC_refl (c : Mana.Cst) : eqC c c = true := eqC_iff.2 rfl
theorem partColors (c : Mana.Cst) (w : World) : (part 22 #[.int .i64 c.g, .int .i64 c.x, .int .i64 c.c0, .int .i64 c.c1, .int .i64 c.c2, .int .i64 c.c3, .int .i64 c.c4] 2).run Tryd.prog w = .ok (.agg #[.int .i64 c.c0, .int .i64 c.c1, .int .i64 c.c2, .int .i64 c.c3, .int .i64 c.c4]) w := by kernel_rfl
theorem eqFields_step (d : Nat) (xs ys : Array Value) (f : Field) (fs : List Field) (hn : f.name ≠ "_") (u v : Value) {s r : Bool} (w : World) (ha : (part f.type xs f.offset).run Tryd.prog w = .ok u w) (hb : (part f.type ys f.offset).run Tryd.prog w = .ok v w)
    (hs : (Op.equalIn d f.type u v).run Tryd.prog w = .ok s w) (h : (Op.eqFields d xs ys fs).run Tryd.prog w = .ok r w) : (Op.eqFields d xs ys (f :: fs)).run Tryd.prog w = .ok (s && r) w := by
  simp only [Op.eqFields, Sem.run_bind, Sem.run_ite, if_pos hn, ha, hb, Result.andThen_ok, hs]
  cases s
  · simp
  · simp [h]
theorem run_eq_cost_d (d : Nat) (c e : Mana.Cst) (w : World) : (Op.eqFields (d + 1 + 1) #[.int .i64 c.g, .int .i64 c.x, .int .i64 c.c0, .int .i64 c.c1, .int .i64 c.c2, .int .i64 c.c3, .int .i64 c.c4] #[.int .i64 e.g, .int .i64 e.x, .int .i64 e.c0, .int .i64 e.c1, .int .i64 e.c2, .int .i64 e.c3, .int .i64 e.c4] [{ name := "Generic", type := 3, offset := 0, embedded := false, tag := "", pkgPath := "", byteOffset := 0 },
      { name := "X", type := 3, offset := 1, embedded := false, tag := "", pkgPath := "", byteOffset := 8 }, { name := "Color", type := 22, offset := 2, embedded := false, tag := "", pkgPath := "", byteOffset := 16 }]).run Tryd.prog w = .ok (eqC c e) w := by
  have h1 := run_equalIn_int w (d + 1) 3 .i64 .i64 c.g e.g Tryd.underlying3
  have h2 := run_equalIn_int w (d + 1) 3 .i64 .i64 c.x e.x Tryd.underlying3
  have h3 := run_eq_five d c.c0 c.c1 c.c2 c.c3 c.c4 e.c0 e.c1 e.c2 e.c3 e.c4 w
  have k3 := eqFields_step (d + 1 + 1) #[.int .i64 c.g, .int .i64 c.x, .int .i64 c.c0, .int .i64 c.c1, .int .i64 c.c2, .int .i64 c.c3, .int .i64 c.c4] #[.int .i64 e.g, .int .i64 e.x, .int .i64 e.c0, .int .i64 e.c1, .int .i64 e.c2, .int .i64 e.c3, .int .i64 e.c4] { name := "Color", type := 22, offset := 2, embedded := false, tag := "", pkgPath := "", byteOffset := 16 } [] (by decide) _ _ w (partColors c w) (partColors e w) h3 (r := true) (by simp [Op.eqFields])
  have k2 := eqFields_step (d + 1 + 1) #[.int .i64 c.g, .int .i64 c.x, .int .i64 c.c0, .int .i64 c.c1, .int .i64 c.c2, .int .i64 c.c3, .int .i64 c.c4] #[.int .i64 e.g, .int .i64 e.x, .int .i64 e.c0, .int .i64 e.c1, .int .i64 e.c2, .int .i64 e.c3, .int .i64 e.c4] { name := "X", type := 3, offset := 1, embedded := false, tag := "", pkgPath := "", byteOffset := 8 } _ (by decide) _ _ w (partInt _ 1 _ rfl w) (partInt _ 1 _ rfl w) h2 k3
  have k1 := eqFields_step (d + 1 + 1) #[.int .i64 c.g, .int .i64 c.x, .int .i64 c.c0, .int .i64 c.c1, .int .i64 c.c2, .int .i64 c.c3, .int .i64 c.c4] #[.int .i64 e.g, .int .i64 e.x, .int .i64 e.c0, .int .i64 e.c1, .int .i64 e.c2, .int .i64 e.c3, .int .i64 e.c4] { name := "Generic", type := 3, offset := 0, embedded := false, tag := "", pkgPath := "", byteOffset := 0 } _ (by decide) _ _ w (partInt _ 0 _ rfl w) (partInt _ 0 _ rfl w) h1 k2
  rw [k1]
  simp [eqC]
theorem run_eq_cost (c e : Mana.Cst) (w : World) : (Op.equalIn 10000 24 (.agg #[.int .i64 c.g, .int .i64 c.x, .int .i64 c.c0, .int .i64 c.c1, .int .i64 c.c2, .int .i64 c.c3, .int .i64 c.c4]) (.agg #[.int .i64 e.g, .int .i64 e.x, .int .i64 e.c0, .int .i64 e.c1, .int .i64 e.c2, .int .i64 e.c3, .int .i64 e.c4])).run Tryd.prog w = .ok (eqC c e) w := by
  rw [run_equalIn_struct w 9999 24 _ _ (by kernel_rfl) (by kernel_rfl)]
  simp only [Program.fieldsOf, Tryd.underlying24]
  exact run_eq_cost_d 9997 c e w
end Go.Proofs.YtcllaenanihedaaDoor
