/-
  '==' OF ARRAYS OF INTS: laws for this program. By an AI agent.
-/
import Derived.Test.YtgljibplhiabgaaDoorCtrPlain
import Derived.Test.YtgljibplhiabgaaDoorProg
import Derived.WalkKit
import Derived.Laws.StructEq
import Derived.ChangeKeysEq
namespace Go.Proofs.YtgljibplhiabgaaDoor
open Go.RowKit


/-- array elements compared, one after the other -/
def eqElems (d : Nat) (e : TypeId) (n : Nat) (xs ys : Array Value) : List Nat → Sem Bool
  | [] => pure true
  | i :: is => do
    let a ← part e xs (i * n)
    let b ← part e ys (i * n)
    let r ← Op.equalIn d e a b
    if (!r) = true then pure false else eqElems d e n xs ys is
theorem run_equalIn_array {P : Program} (w : World) (d : Nat) (t e : TypeId) (k n : Nat) (xs ys : Array Value) (ht : P.underlying t = some (.array k e)) (hs : ∀ w, (sizeOf e).run P w = .ok n w) :
    (Op.equalIn (d + 1) t (.agg xs) (.agg ys)).run P w = (eqElems d e n xs ys (List.range k)).run P w := by
  simp only [Op.equalIn, Sem.run_bind, run_underlying ht, Result.andThen_ok, hs]
  rw [Std.Legacy.Range.forIn_eq_forIn_range']
  simp only [Std.Legacy.Range.size]
  rw [show List.range' 0 ((k - 0 + 1 - 1) / 1) 1 = List.range k by simp [List.range_eq_range']]
  generalize List.range k = is
  clear ht
  induction is generalizing w with
  | nil => simp [eqElems]
  | cons i is ih =>
    simp only [List.forIn_cons, eqElems, Sem.run_bind]
    generalize (part e xs (i * n)).run P w = r1
    cases r1 with
    | ok a w1 =>
      simp only [Result.andThen_ok]
      generalize (part e ys (i * n)).run P w1 = r2
      cases r2 with
      | ok b w2 =>
        simp only [Result.andThen_ok]
        generalize (Op.equalIn d e a b).run P w2 = r3
        cases r3 with
        | ok r w3 =>
          cases r
          · simp [Sem.run_pure]
          · simp only [Result.andThen_ok, Bool.not_true, Bool.false_eq_true, if_false, Sem.run_pure]
            exact ih w3
        | halt x w3 => simp [Result.andThen]
      | halt x w2 => simp [Result.andThen]
    | halt x w1 => simp [Result.andThen]
theorem sizeInt (w : World) : (sizeOf 3).run Tryd.prog w = .ok 1 w := by kernel_rfl
theorem partInt (xs : Array Value) (i : Nat) (v : Value) (h : xs[i]? = some v) (w : World) : (part 3 xs i).run Tryd.prog w = .ok v w :=
  run_part_plain w (by kernel_rfl) h
theorem eqElems_step (d : Nat) (xs ys : Array Value) (i : Nat) (is : List Nat) (a b : Int) (ha : xs[i]? = some (.int .i64 a)) (hb : ys[i]? = some (.int .i64 b)) {r : Bool} (w : World)
    (h : (eqElems (d + 1) 3 1 xs ys is).run Tryd.prog w = .ok r w) : (eqElems (d + 1) 3 1 xs ys (i :: is)).run Tryd.prog w = .ok (a == b && r) w := by
  simp only [eqElems, Nat.mul_one, Sem.run_bind, partInt _ _ _ ha, partInt _ _ _ hb, Result.andThen_ok, run_equalIn_int w d 3 .i64 .i64 a b Tryd.underlying3]
  cases a == b
  · simp
  · simp [h]
theorem eqElems_nil (d : Nat) (xs ys : Array Value) (w : World) : (eqElems d 3 1 xs ys []).run Tryd.prog w = .ok true w := by simp [eqElems]
theorem range3 : List.range 3 = [0, 1, 2] := rfl
/-- two counters are the same -/
def eqT (p q : Ctr.Tri) : Bool := p.a == q.a && (p.b == q.b && (p.c == q.c && true))
theorem eqT_iff {p q : Ctr.Tri} : eqT p q = true ↔ p = q := by
  cases p; cases q
  simp [eqT]
theorem eqT_refl (p : Ctr.Tri) : eqT p p = true := eqT_iff.2 rfl
theorem run_eq_tri (p q : Ctr.Tri) (w : World) : (Op.equalIn 10000 22 (.agg #[.int .i64 p.a, .int .i64 p.b, .int .i64 p.c]) (.agg #[.int .i64 q.a, .int .i64 q.b, .int .i64 q.c])).run Tryd.prog w = .ok (eqT p q) w := by
  rw [run_equalIn_array w 9999 22 3 3 1 _ _ Tryd.underlying22 sizeInt, range3]
  exact eqElems_step 9998 _ _ 0 _ _ _ rfl rfl w (eqElems_step 9998 _ _ 1 _ _ _ rfl rfl w (eqElems_step 9998 _ _ 2 _ _ _ rfl rfl w (eqElems_nil _ _ _ w)))
theorem run_eq_same (p : Ctr.Tri) (w : World) : (Op.equalIn 10000 22 (.agg #[.int .i64 p.a, .int .i64 p.b, .int .i64 p.c]) (.agg #[.int .i64 p.a, .int .i64 p.b, .int .i64 p.c])).run Tryd.prog w = .ok true w := by rw [run_eq_tri, eqT_refl]
end Go.Proofs.YtgljibplhiabgaaDoor
