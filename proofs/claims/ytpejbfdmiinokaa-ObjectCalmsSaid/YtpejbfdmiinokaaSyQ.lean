/-
  RUNS RECKONED AHEAD: operations by a short way. By an AI agent.
-/
import Derived.Test.YtpejbfdmiinokaaSyE3
import Derived.Lib.SlicesS
import Derived.IntWalk
import Derived.Lib.Strings
namespace Go.Sx
variable [Th]
section
variable {P : Program}
def noSel : Op → Bool
  | .select _ _ => false
  | _ => true
omit [Th] in
theorem arun_bind {α β : Type} {f : α → Sem β} : ∀ (s : Sem α) (m : AM), arun P (s.bind f) m = match arun P s m with | some (a, m') => arun P (f a) m' | none => none := by
  intro s
  induction s with
  | pure a => intro m; rfl
  | load q a k ih =>
    intro m
    simp only [Sem.bind, arun, fV_eq]
    split
    · split
      · exact ih _ _
      · rfl
    · rfl
  | store q a v k ih =>
    intro m
    simp only [Sem.bind, arun, fV_eq, fM_eq]
    split
    · split
      · exact ih _
      · rfl
    · rfl
  | new o k ih =>
    intro m
    cases o <;> simp only [Sem.bind, arun, fM_eq, fN_eq]
    exact ih _ _
  | shape b k ih =>
    intro m
    simp only [Sem.bind, arun]
    split
    · split
      · exact ih _ _
      · rfl
    · rfl
  | frozen a k ih =>
    intro m
    simp only [Sem.bind, arun]
    split
    · exact ih _ _
    · rfl
  | program k ih => intro m; exact ih P m
  | mark q k ih => intro m; exact ih m
  | freeze => intro m; rfl
  | getObj => intro m; rfl
  | setObj => intro m; rfl
  | choose => intro m; rfl
  | sys => intro m; rfl
  | halt => intro m; rfl
omit [Th] in
theorem arun_bind' {α β : Type} {f : α → Sem β} (s : Sem α) (m : AM) : arun P (s >>= f) m = match arun P s m with | some (a, m') => arun P (f a) m' | none => none := arun_bind s m
omit [Th] in
theorem arun_pure {α : Type} (a : α) (m : AM) : arun P (pure a : Sem α) m = some (a, m) := rfl
omit [Th] in
theorem arun_underlying {t : TypeId} {d : TypeDesc} (h : P.underlying t = some d) (m : AM) : arun P (underlying t) m = some (d, m) := by
  show arun P (match P.underlying t with | some d => pure d | none => stuck "no such type") m = _
  rw [h]
  rfl
omit [Th] in
theorem arun_typeInfo {t : TypeId} {i : TypeInfo} (h : P.info? t = some i) (m : AM) : arun P (typeInfo t) m = some (i, m) := by
  show arun P (match P.info? t with | some d => pure d | none => stuck "no such type") m = _
  rw [h]
  rfl
omit [Th] in
theorem arun_sizeOf {t : TypeId} {i : TypeInfo} (h : P.info? t = some i) (m : AM) : arun P (sizeOf t) m = some (i.size, m) := by
  unfold sizeOf
  rw [arun_bind', arun_typeInfo h]
  rfl
def kEq : IntKind → IntKind → Bool
  | .i8, .i8 | .i16, .i16 | .i32, .i32 | .i64, .i64 | .u8, .u8 | .u16, .u16 | .u32, .u32 | .u64, .u64 => true
  | _, _ => false
omit [Th] in
theorem kEq_eq {j k : IntKind} (h : kEq j k = true) : j = k := by cases j <;> cases k <;> first | rfl | cases h
def iEq : Int → Int → Bool
  | .ofNat m, .ofNat n => Nat.beq m n
  | .negSucc m, .negSucc n => Nat.beq m n
  | _, _ => false
def iLt : Int → Int → Bool
  | .ofNat m, .ofNat n => Nat.blt m n
  | .negSucc _, .ofNat _ => true
  | .ofNat _, .negSucc _ => false
  | .negSucc m, .negSucc n => Nat.blt n m
omit [Th] in
theorem iEq_eq (a b : Int) : iEq a b = (a == b) := by
  cases a with
  | ofNat m => cases b with
    | ofNat n =>
      show Nat.beq m n = _
      rw [Bool.eq_iff_iff]
      simp [Nat.beq_eq]
      omega
    | negSucc n => simp [iEq]
  | negSucc m => cases b with
    | ofNat n => simp [iEq]
    | negSucc n =>
      show Nat.beq m n = _
      rw [Bool.eq_iff_iff]
      simp [Nat.beq_eq]
omit [Th] in
theorem iLt_eq (a b : Int) : iLt a b = decide (a < b) := by
  cases a with
  | ofNat m => cases b with
    | ofNat n =>
      show Nat.blt m n = _
      rw [Bool.eq_iff_iff]
      simp [Nat.blt_eq]
    | negSucc n => simp [iLt]; omega
  | negSucc m => cases b with
    | ofNat n => simp [iLt]; omega
    | negSucc n =>
      show Nat.blt n m = _
      rw [Bool.eq_iff_iff]
      simp [Nat.blt_eq]
      omega
/-- a small number stays -/
def wr (k : IntKind) (n : Int) : Int := match k, n with
  | .i64, .ofNat m => match Nat.blt m 9223372036854775808 with
    | true => .ofNat m
    | false => k.wrap n
  | .i64, .negSucc m => match Nat.blt m 9223372036854775808 with
    | true => .negSucc m
    | false => k.wrap n
  | _, _ => k.wrap n
omit [Th] in
theorem wrap_i64 {n : Int} (h0 : -9223372036854775808 ≤ n) (h1 : n < 9223372036854775808) : IntKind.i64.wrap n = n := IntWalk.i64_in n (by omega)
omit [Th] in
theorem wr_eq (k : IntKind) (n : Int) : wr k n = k.wrap n := by
  unfold wr
  split
  · rename_i m
    split
    · rename_i h
      have h : m < 9223372036854775808 := by simpa [Nat.blt_eq] using h
      exact (wrap_i64 (by have : Int.ofNat m = (m : Int) := rfl; omega) (by have : Int.ofNat m = (m : Int) := rfl; omega)).symm
    · rfl
  · rename_i m
    split
    · rename_i h
      have h : m < 9223372036854775808 := by simpa [Nat.blt_eq] using h
      exact (wrap_i64 (by omega) (by omega)).symm
    · rfl
  · rfl
def bEq : List UInt8 → List UInt8 → Bool
  | [], [] => true
  | a :: l, b :: r => match Nat.beq a.toNat b.toNat with
    | true => bEq l r
    | false => false
  | _, _ => false
omit [Th] in
theorem bEq_eq : ∀ (l r : List UInt8), bEq l r = (l == r)
  | [], [] => rfl
  | [], _ :: _ => rfl
  | _ :: _, [] => rfl
  | a :: l, b :: r => by
    unfold bEq
    rw [List.cons_beq_cons, ← bEq_eq l r]
    have e : Nat.beq a.toNat b.toNat = (a == b) := by
      rw [Bool.eq_iff_iff]
      simp [Nat.beq_eq, UInt8.toNat_inj]
    rw [e]
    cases a == b <;> rfl
def fBin : BinOp → Value → Value → Option Value
  | op, .int k a, .int k' b => match kEq k k' with
    | true => match op with
      | .add => some (.int k (wr k (a + b)))
      | .sub => some (.int k (wr k (a - b)))
      | .mul => some (.int k (wr k (a * b)))
      | .eql => some (.bool (iEq a b))
      | .neq => some (.bool (!iEq a b))
      | .lss => some (.bool (iLt a b))
      | .leq => some (.bool (!iLt b a))
      | .gtr => some (.bool (iLt b a))
      | .geq => some (.bool (!iLt a b))
      | _ => none
    | false => none
  | op, .string a, .string b => match op with
    | .eql => some (.bool (bEq a.data.toList b.data.toList))
    | .neq => some (.bool (!bEq a.data.toList b.data.toList))
    | _ => none
  | _, _, _ => none
omit [Th] in
theorem not_lt_dec (a b : Int) : (!decide (b < a)) = decide (a ≤ b) := by
  by_cases h : a ≤ b
  · have : ¬ b < a := by omega
    simp [h, this]
  · have : b < a := by omega
    simp [h, this]
omit [Th] in
theorem fBin_ans {op : BinOp} {T : TypeId} {x y : Operand} {u v w : Value} (h : fBin op u v = some w) : still u = true ∧ still v = true ∧ ans P (do eqGuard op T x y u v; binOp op T u v) = some w := by
  unfold fBin at h
  split at h
  · rename_i k a k' b
    split at h
    · rename_i hk
      have := kEq_eq hk
      subst this
      refine ⟨rfl, rfl, ?_⟩
      cases op <;> simp only at h <;> first
        | cases h; done
        | (injection h with h; subst h; simp only [wr_eq, iEq_eq, iLt_eq, not_lt_dec]; simp [eqGuard, binOp, Op.intArith, Op.intCmp, ans, pure, Bind.bind, Sem.bind, bne])
    · cases h
  · rename_i a b
    refine ⟨rfl, rfl, ?_⟩
    cases op
    case eql =>
      injection h with h
      subst h
      rw [bEq_eq, ← Go.Lib.toList_data, ← Go.Lib.toList_data]
      simp [eqGuard, binOp, Op.stringOp, ans, pure, Bind.bind, Sem.bind]
    case neq =>
      injection h with h
      subst h
      rw [bEq_eq, ← Go.Lib.toList_data, ← Go.Lib.toList_data]
      simp [eqGuard, binOp, Op.stringOp, ans, pure, Bind.bind, Sem.bind]
    all_goals cases h
  · cases h
omit [Th] in
theorem fBin_still {op : BinOp} {u v w : Value} (h : fBin op u v = some w) : still3 w = true := by
  unfold fBin at h
  split at h
  · split at h
    · cases op <;> simp only at h <;> first
        | (injection h with h; subst h; rfl)
        | cases h
    · cases h
  · cases op <;> simp only at h <;> first
      | (injection h with h; subst h; rfl)
      | cases h
  · cases h
end
end Go.Sx
