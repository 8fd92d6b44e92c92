/-
  RUNS RECKONED AHEAD: loads, stores, places by a short way. By an AI agent.
-/
import Derived.Test.YtlgdmncioakkjaaGreatDoorSyE3
import Derived.Lib.SlicesS
import Derived.IntWalk
import Derived.Lib.Strings
namespace Go.Sx
variable [Th]
section
variable {P : Program}
def noSel : Op → Bool
  | .select _ _ => false
  | _ => true
omit [Th] in
theorem arun_bind {α β : Type} {f : α → Sem β} : ∀ (s : Sem α) (m : AM), arun P (s.bind f) m = match arun P s m with | some (a, m') => arun P (f a) m' | none => none := by
  intro s
  induction s with
  | pure a => intro m; rfl
  | load q a k ih =>
    intro m
    simp only [Sem.bind, arun, fV_eq]
    split
    · split
      · exact ih _ _
      · rfl
    · rfl
  | store q a v k ih =>
    simp only [Sem.bind, arun, fV_eq, fM_eq]
      · exact ih _
  | new o k ih =>
    cases o <;> simp only [Sem.bind, arun, fM_eq, fN_eq]
    exact ih _ _
  | shape b k ih =>
    simp only [Sem.bind, arun]
  | frozen a k ih =>
    · exact ih _ _
  | program k ih => intro m; exact ih P m
  | mark q k ih => intro m; exact ih m
  | freeze => intro m; rfl
  | getObj => intro m; rfl
  | setObj => intro m; rfl
  | choose => intro m; rfl
  | sys => intro m; rfl
  | halt => intro m; rfl
theorem arun_bind' {α β : Type} {f : α → Sem β} (s : Sem α) (m : AM) : arun P (s >>= f) m = match arun P s m with | some (a, m') => arun P (f a) m' | none => none := arun_bind s m
theorem arun_pure {α : Type} (a : α) (m : AM) : arun P (pure a : Sem α) m = some (a, m) := rfl
theorem arun_underlying {t : TypeId} {d : TypeDesc} (h : P.underlying t = some d) (m : AM) : arun P (underlying t) m = some (d, m) := by
  show arun P (match P.underlying t with | some d => pure d | none => stuck "no such type") m = _
  rw [h]
  rfl
theorem arun_typeInfo {t : TypeId} {i : TypeInfo} (h : P.info? t = some i) (m : AM) : arun P (typeInfo t) m = some (i, m) := by
  show arun P (match P.info? t with | some d => pure d | none => stuck "no such type") m = _
theorem arun_sizeOf {t : TypeId} {i : TypeInfo} (h : P.info? t = some i) (m : AM) : arun P (sizeOf t) m = some (i.size, m) := by
  unfold sizeOf
  rw [arun_bind', arun_typeInfo h]
def kEq : IntKind → IntKind → Bool
  | .i8, .i8 | .i16, .i16 | .i32, .i32 | .i64, .i64 | .u8, .u8 | .u16, .u16 | .u32, .u32 | .u64, .u64 => true
  | _, _ => false
theorem kEq_eq {j k : IntKind} (h : kEq j k = true) : j = k := by cases j <;> cases k <;> first | rfl | cases h
def iEq : Int → Int → Bool
  | .ofNat m, .ofNat n => Nat.beq m n
  | .negSucc m, .negSucc n => Nat.beq m n
def iLt : Int → Int → Bool
  | .ofNat m, .ofNat n => Nat.blt m n
  | .negSucc _, .ofNat _ => true
  | .ofNat _, .negSucc _ => false
  | .negSucc m, .negSucc n => Nat.blt n m
theorem iEq_eq (a b : Int) : iEq a b = (a == b) := by
  cases a with
  | ofNat m => cases b with
    | ofNat n =>
      show Nat.beq m n = _
      rw [Bool.eq_iff_iff]
      simp [Nat.beq_eq]
      omega
    | negSucc n => simp [iEq]
  | negSucc m => cases b with
    | ofNat n => simp [iEq]
    | negSucc n =>
theorem iLt_eq (a b : Int) : iLt a b = decide (a < b) := by
      show Nat.blt m n = _
      simp [Nat.blt_eq]
    | negSucc n => simp [iLt]; omega
    | ofNat n => simp [iLt]; omega
      show Nat.blt n m = _
/-- a small number stays -/
def wr (k : IntKind) (n : Int) : Int := match k, n with
  | .i64, .ofNat m => match Nat.blt m 9223372036854775808 with
    | true => .ofNat m
    | false => k.wrap n
  | .i64, .negSucc m => match Nat.blt m 9223372036854775808 with
    | true => .negSucc m
  | _, _ => k.wrap n
theorem wrap_i64 {n : Int} (h0 : -9223372036854775808 ≤ n) (h1 : n < 9223372036854775808) : IntKind.i64.wrap n = n := IntWalk.i64_in n (by omega)
theorem wr_eq (k : IntKind) (n : Int) : wr k n = k.wrap n := by
  unfold wr
  split
  · rename_i m
    · rename_i h
      have h : m < 9223372036854775808 := by simpa [Nat.blt_eq] using h
      exact (wrap_i64 (by have : Int.ofNat m = (m : Int) := rfl; omega) (by have : Int.ofNat m = (m : Int) := rfl; omega)).symm
      exact (wrap_i64 (by omega) (by omega)).symm
  · rfl
def bEq : List UInt8 → List UInt8 → Bool
  | [], [] => true
  | a :: l, b :: r => match Nat.beq a.toNat b.toNat with
    | true => bEq l r
    | false => false
theorem bEq_eq : ∀ (l r : List UInt8), bEq l r = (l == r)
  | [], [] => rfl
  | [], _ :: _ => rfl
  | _ :: _, [] => rfl
  | a :: l, b :: r => by
    unfold bEq
    rw [List.cons_beq_cons, ← bEq_eq l r]
    have e : Nat.beq a.toNat b.toNat = (a == b) := by
      simp [Nat.beq_eq, UInt8.toNat_inj]
    rw [e]
    cases a == b <;> rfl
def fBin : BinOp → Value → Value → Option Value
  | op, .int k a, .int k' b => match kEq k k' with
    | true => match op with
      | .add => some (.int k (wr k (a + b)))
      | .sub => some (.int k (wr k (a - b)))
      | .mul => some (.int k (wr k (a * b)))
      | .eql => some (.bool (iEq a b))
      | .neq => some (.bool (!iEq a b))
      | .lss => some (.bool (iLt a b))
      | .leq => some (.bool (!iLt b a))
      | .gtr => some (.bool (iLt b a))
      | .geq => some (.bool (!iLt a b))
      | _ => none
    | false => none
  | op, .string a, .string b => match op with
    | .eql => some (.bool (bEq a.data.toList b.data.toList))
    | .neq => some (.bool (!bEq a.data.toList b.data.toList))
    | _ => none
  | _, _, _ => none
theorem not_lt_dec (a b : Int) : (!decide (b < a)) = decide (a ≤ b) := by
  by_cases h : a ≤ b
  · have : ¬ b < a := by omega
    simp [h, this]
  · have : b < a := by omega
theorem fBin_ans {op : BinOp} {T : TypeId} {x y : Operand} {u v w : Value} (h : fBin op u v = some w) : still u = true ∧ still v = true ∧ ans P (do eqGuard op T x y u v; binOp op T u v) = some w := by
  unfold fBin at h
  split at h
  · rename_i k a k' b
    split at h
    · rename_i hk
      have := kEq_eq hk
      subst this
      refine ⟨rfl, rfl, ?_⟩
      cases op <;> simp only at h <;> first
        | cases h; done
        | (injection h with h; subst h; simp only [wr_eq, iEq_eq, iLt_eq, not_lt_dec]; simp [eqGuard, binOp, Op.intArith, Op.intCmp, ans, pure, Bind.bind, Sem.bind, bne])
    · cases h
  · rename_i a b
    refine ⟨rfl, rfl, ?_⟩
    cases op
    case eql =>
      injection h with h
      subst h
      rw [bEq_eq, ← Go.Lib.toList_data, ← Go.Lib.toList_data]
      simp [eqGuard, binOp, Op.stringOp, ans, pure, Bind.bind, Sem.bind]
    case neq =>
    all_goals cases h
  · cases h
theorem fBin_still {op : BinOp} {u v w : Value} (h : fBin op u v = some w) : still3 w = true := by
  · split at h
    · cases op <;> simp only at h <;> first
        | (injection h with h; subst h; rfl)
        | cases h
  · cases op <;> simp only at h <;> first
      | (injection h with h; subst h; rfl)
      | cases h
end
end Go.Sx
def nthV {α : Type} : List α → Nat → Option α
  | [], _ => none
  | x :: _, 0 => some x
  | _ :: l, n + 1 => nthV l n
theorem nthV_eq {α : Type} : ∀ (l : List α) (n : Nat), nthV l n = l[n]?
  | [], _ => rfl
  | _ :: _, 0 => rfl
  | _ :: l, n + 1 => by rw [nthV, nthV_eq l n]; rfl
/-- a type's size, if its values are rows -/
def rowN (P : Program) (T : TypeId) : Option (Option Nat) := match P.underlying T, P.info? T with
  | some d, some i => match d with
    | .struct _ => some (some i.size)
    | .array _ _ => some (some i.size)
    | _ => some none
  | _, _ => none
theorem arun_isAgg_row {T : TypeId} {n : Nat} (h : rowN P T = some (some n)) (m : AM) : arun P (isAgg T) m = some (true, m) ∧ arun P (sizeOf T) m = some (n, m) := by
  unfold rowN at h
  · rename_i d i hd hi
    have hs := arun_sizeOf hi m
    unfold isAgg
    rw [arun_bind', arun_underlying hd]
    cases d <;> simp only at h <;> first
      | (injection h with h; injection h with h; subst h; exact ⟨rfl, hs⟩)
      | (injection h with h; cases h)
theorem arun_isAgg_cell {T : TypeId} (h : rowN P T = some none) (m : AM) : arun P (isAgg T) m = some (false, m) := by
      | rfl
theorem add_eq (a : Addr) (h : a.spot = none) (i : Nat) : (a.add i).block = a.block ∧ (a.add i).off = a.off + i ∧ (a.add i).spot = none := by
  unfold Addr.add
  · rename_i h0
    subst h0
    exact ⟨rfl, rfl, h⟩
  · exact ⟨rfl, rfl, rfl⟩
theorem arun_load {a : Addr} {m : AM} {x : Bk} {v : Value} (hs : a.spot = none) (hx : find m.bs a.block = some x) (hv : x.c[a.off]? = some v) : arun P (load a) m = some (v, m) := by
  show arun P (Sem.load .plain a Sem.pure) m = _
  simp only [arun, fV_eq, hs, hx, hv]
theorem arun_loadCellsFrom {a : Addr} {m : AM} {x : Bk} (hs : a.spot = none) (hx : find m.bs a.block = some x) : ∀ (n i : Nat) (acc : Array Value), ((x.c.toList.drop (a.off + i)).take n).length = n →
    arun P (loadCellsFrom a i n acc) m = some (acc ++ ((x.c.toList.drop (a.off + i)).take n).toArray, m)
  | 0, i, acc, _ => by simp [loadCellsFrom, arun_pure]
  | n + 1, i, acc, h => by
    have hlt : a.off + i < x.c.toList.length := by
      simp at h
      simp
    rw [List.drop_eq_getElem_cons hlt, List.take_succ_cons] at h ⊢
    obtain ⟨e1, e2, e3⟩ := add_eq a hs i
    unfold loadCellsFrom
    rw [arun_bind', arun_load (a := a.add i) e3 (by rw [e1]; exact hx) (v := x.c.toList[a.off + i]) (by rw [e2]; simp at hlt; simp [hlt])]
    simp only
    rw [arun_loadCellsFrom hs hx n (i + 1) _ (by simpa [Nat.add_assoc] using h)]
    simp [Nat.add_assoc]
theorem arun_loadVar_cell {T : TypeId} {a : Addr} {m : AM} {x : Bk} {v : Value} (ht : rowN P T = some none) (hs : a.spot = none) (hx : find m.bs a.block = some x) (hv : nthV x.c.toList a.off = some v) : arun P (loadVar T a) m = some (v, m) := by
  unfold loadVar
  rw [arun_bind', arun_isAgg_cell ht]
  exact arun_load hs hx (by rw [nthV_eq] at hv; simpa using hv)
theorem arun_loadVar_row {T : TypeId} {n : Nat} {a : Addr} {m : AM} {x : Bk} (ht : rowN P T = some (some n)) (hs : a.spot = none) (hx : find m.bs a.block = some x) (hl : ((x.c.toList.drop a.off).take n).length = n) :
    arun P (loadVar T a) m = some (.agg ((x.c.toList.drop a.off).take n).toArray, m) := by
  obtain ⟨h1, h2⟩ := arun_isAgg_row ht m
  rw [arun_bind', h1]
  show arun P (sizeOf T >>= fun n => loadCells a n >>= fun c => pure (Value.agg c)) m = _
  rw [arun_bind', h2]
  simp only
  rw [arun_bind']
  unfold loadCells
  rw [arun_loadCellsFrom hs hx n 0 #[] (by simpa using hl)]
  simp [arun_pure]
/-- a field's place -/
def offF (P : Program) (T : TypeId) (f : Nat) : Option Nat := match P.underlying T with
  | some (.struct fs) => match fs[f]? with
    | some x => match P.info? x.type with
      | some i => match Nat.beq i.size 0 with
        | false => some x.offset
        | true => none
      | none => none
    | none => none
  | _ => none
theorem offF_spec {T : TypeId} {f o : Nat} (h : offF P T f = some o) (a : Addr) (m : AM) : wideField P T f = true ∧ arun P (Instr.fieldAt T (.pointer (some a)) f) m = some (.pointer (some (a.add o)), m) := by
  unfold offF at h
  · rename_i fs hu
    · rename_i x hx
      split at h
      · rename_i i hi
        split at h
        · rename_i hz
          injection h with h
          subst h
          constructor
          · unfold wideField
            rw [hu]
            simp only [hx, hi, hz]
            rfl
          · unfold Instr.fieldAt
            rw [arun_bind', arun_underlying hu]
            simp only [hx]
            show arun P (pure a >>= fun a => fieldPlace a x >>= fun q => pure (Value.pointer (some q))) m = _
            rw [arun_bind', arun_pure]
            simp only
            rw [arun_bind']
            unfold fieldPlace
            rw [arun_bind', arun_sizeOf hi]
            rw [if_neg (Nat.ne_of_beq_eq_false hz)]
        · cases h
      · cases h
/-- an element's size -/
def sizeE (P : Program) (T : TypeId) : Option Nat := match P.underlying T with
  | some (.slice e) => match P.info? e with
    | some i => some i.size
theorem sizeE_spec {T : TypeId} {z : Nat} (h : sizeE P T = some z) (a : Addr) (n c k : Nat) (hk : k < n) (ik : IntKind) (m : AM) : arun P (Instr.indexAt T (.slice (some a) n c) (.int ik (.ofNat k))) m = some (.pointer (some (a.add (k * z))), m) := by
  unfold sizeE at h
  · rename_i e hu
    · rename_i i hi
      unfold Instr.indexAt
      show arun P (pure (ik, Int.ofNat k) >>= _) m = _
      rw [arun_bind', arun_pure]
      simp only
      rw [arun_bind', arun_underlying hu]
      show arun P (pure (some a, n, e) >>= _) m = _
      have hc : (0 : Int) ≤ Int.ofNat k ∧ Int.ofNat k < (n : Int) := by
        have : Int.ofNat k = (k : Int) := rfl
        omega
      rw [if_pos hc]
      rw [arun_bind', arun_sizeOf hi]
      rfl
def zeroC (P : Program) (T : TypeId) : Option (Array Value) := match P.info? T with
  | some i => match i.zero with
    | some z => match z.cells.all dry with
      | true => some z.cells
      | false => none
  | none => none
theorem zeroC_spec {T : TypeId} {c : Array Value} (h : zeroC P T = some c) (m : AM) : dryZero P T = true ∧ arun P (Instr.alloc T true (.tuple #[])) m = some (.pointer (some ⟨m.n, 0, none⟩), ⟨m.n + 1, ⟨m.n, c, T, true, false⟩ :: m.bs⟩) := by
  unfold zeroC at h
  · rename_i i hi
    · rename_i z hz
      · rename_i hd
        injection h with h
        subst h
        constructor
        · unfold dryZero
          rw [hi]
          simp only [Option.bind_some, hz]
          exact hd
        · unfold Instr.alloc zeroValue
          rw [arun_bind', arun_bind', arun_typeInfo hi]
          simp only [hz]
          show arun P (Sem.new (.cells z.cells T) fun r => (pure (Value.pointer (some ⟨r, 0, none⟩)) : Sem Value)) m = _
          simp only [arun, fM_eq, fN_eq]
          rfl
/-- a value of one cell stored -/
def oneN (P : Program) (T : TypeId) : Bool := match P.info? T with
  | some i => Nat.beq i.size 1
  | none => false
theorem oneN_spec {T : TypeId} (h : oneN P T = true) {a : Addr} {m : AM} {x : Bk} {v : Value} (hv : isWide v = false) (hs : a.spot = none) (hx : find m.bs a.block = some x) (hr : x.ro = false) (hl : Nat.ble (a.off + 1) x.c.size = true) :
    arun P (storeVar T a v) m = some ((), ⟨m.n, setB m.bs a.block a.off v⟩) := by
  unfold oneN at h
    have hi1 := Nat.eq_of_beq_eq_true h
    have hc : v.cells = #[v] := by cases v <;> first | rfl | cases hv
    unfold storeVar
    rw [arun_bind', arun_sizeOf hi]
    simp only [hc, hi1]
    show arun P (storeCells a [v] 0) m = _
    show arun P (Sem.store .plain (a.add 0) v (storeCells a [] 1)) m = _
    simp only [arun, fV_eq, fM_eq, hv, Addr.add, if_true, hs, hx, hr, hl]
    rfl
/-- many cells laid over a row -/
def over : List Value → List Value → List Value
  | [], l => l
  | _ :: _, [] => []
  | v :: vs, _ :: l => v :: over vs l
def splice (vs : List Value) : Nat → List Value → List Value
  | 0, l => over vs l
  | _ + 1, [] => []
  | o + 1, x :: l => x :: splice vs o l
theorem splice_nil : ∀ (o : Nat) (l : List Value), splice [] o l = l
  | 0, l => by cases l <;> rfl
  | _ + 1, [] => rfl
  | o + 1, x :: l => by rw [splice, splice_nil o l]
theorem splice_cons (v : Value) (vs : List Value) : ∀ (o : Nat) (l : List Value), splice (v :: vs) o l = splice vs (o + 1) (l.set o v)
  | 0, [] => rfl
  | 0, x :: l => rfl
  | o + 1, x :: l => by
    rw [splice, splice_cons v vs o l, List.set_cons_succ]
def setW : List Bk → Nat → Nat → List Value → List Bk
  | [], _, _, _ => []
  | x :: l, b, o, vs => match Nat.beq x.i b with
    | true => fB x fun i c T ex ro => ⟨i, ⟨splice vs o c.toList⟩, T, ex, ro⟩ :: l
    | false => x :: setW l b o vs
theorem setW_nil (b o : Nat) : ∀ (l : List Bk), setW l b o [] = l
  | [] => rfl
  | x :: l => by
    unfold setW
    cases Nat.beq x.i b
    · simp only [setW_nil b o l]
    · simp only [splice_nil, fB_eq]
theorem setW_cons (b o : Nat) (v : Value) (vs : List Value) : ∀ (l : List Bk), setW l b o (v :: vs) = setW (setB l b o v) b (o + 1) vs
    cases h : Nat.beq x.i b
    · simp only [setW, setB, h]
      rw [setW_cons b o v vs l]
    · simp only [setW, setB, h, fB_eq, splice_cons, Array.toList_setIfInBounds]
def nws : List Value → Bool
  | [] => true
  | v :: l => match isWide v with
    | true => false
    | false => nws l
theorem arun_storeCells {a : Addr} (hs : a.spot = none) : ∀ (vs : List Value) (i : Nat) (m : AM) (x : Bk), find m.bs a.block = some x → x.ro = false → nws vs = true → a.off + i + vs.length ≤ x.c.size →
    arun P (storeCells a vs i) m = some ((), ⟨m.n, setW m.bs a.block (a.off + i) vs⟩)
  | [], i, m, x, _, _, _, _ => by
    rw [setW_nil]
  | v :: vs, i, m, x, hx, hr, hn, hl => by
    unfold nws at hn
    split at hn
    · cases hn
    · rename_i hv
      obtain ⟨e1, e2, e3⟩ := add_eq a hs i
      simp only [List.length_cons] at hl
      show arun P (Sem.store .plain (a.add i) v (storeCells a vs (i + 1))) m = _
      have hb : Nat.ble (a.off + i + 1) x.c.size = true := Nat.ble_eq_true_of_le (by omega)
      simp only [arun, fV_eq, fM_eq, hv, e1, e2, e3, hx, hr, hb]
      obtain ⟨z, hz⟩ := find_set_some (o := a.off + i) (v := v) (b := a.block) hx
      obtain ⟨y, hy, q0, q1, q2, q3, q4⟩ := find_set hz
      rw [hx] at hy
      injection hy with hy
      subst hy
      rw [if_pos rfl] at q4
      rw [arun_storeCells hs vs (i + 1) _ z hz (by rw [q3]; exact hr) hn (by rw [q4]; simp; omega), setW_cons]
def sizeN (P : Program) (T : TypeId) : Option Nat := match P.info? T with
  | some i => some i.size
def fSa (n : Nat) (v : Value) (m : AM) : Value → Option (Value × AM)
  | .pointer (some a) => match v with
    | .agg vs => match a.spot, find m.bs a.block with
      | none, some b => match nws vs.toList, Nat.beq vs.toList.length n, b.ro, Nat.ble (a.off + vs.toList.length) b.c.size with
        | true, true, false, true => some (undef, ⟨m.n, setW m.bs a.block a.off vs.toList⟩)
        | _, _, _, _ => none
      | _, _ => none
theorem fSa_spec {T : TypeId} {n : Nat} (h : sizeN P T = some n) {u v : Value} {m : AM} {r : Value × AM} (e : fSa n v m u = some r) :
    nt u = true ∧ nt v = true ∧ arun P (Instr.storeAt T u v >>= fun _ => (pure Next.skip : Sem Next)) m = some (.skip, r.2) ∧ r.1 = undef := by
  unfold fSa at e
  split at e
  · rename_i a
    split at e
    · rename_i vs
      split at e
      · rename_i b hs hb
        split at e
        · rename_i k1 k2 k3 k4
          injection e with e
          subst e
          refine ⟨rfl, rfl, ?_, rfl⟩
          unfold sizeN at h
          split at h
          · rename_i i hi
            injection h with h
            subst h
            have hn := Nat.eq_of_beq_eq_true k2
            have e1 : arun P (Instr.storeAt T (Value.pointer (some a)) (.agg vs)) m = arun P (storeVar T a (.agg vs)) m := rfl
            have hc : (Value.agg vs).cells = vs := rfl
            have hsz : vs.size = i.size := hn
            have this := arun_storeCells (P := P) hs vs.toList 0 m b hb k3 k1 (Nat.le_of_ble_eq_true k4)
            have e2 : arun P (storeVar T a (.agg vs)) m = some ((), ⟨m.n, setW m.bs a.block a.off vs.toList⟩) := by
              unfold storeVar
              rw [arun_bind', arun_sizeOf hi]
              simp only [hc, hsz, ne_eq, not_true_eq_false, if_false]
              exact this
            rw [e1, e2]
          · cases h
        · cases e
      · cases e
    · cases e
  · cases e
def idxS (k : Nat) (m : AM) (s : ByteArray) : Option (Value × AM) := match nthV s.data.toList k with
  | some b => some (.int .u8 b.toNat, m)
theorem arun_index {T : TypeId} (hu : P.underlying T = some .string) {s : ByteArray} {k : Nat} {ik : IntKind} {b : UInt8} (hb : nthV s.data.toList k = some b) (m : AM) : arun P (Instr.index T (.string s) (.int ik (.ofNat k))) m = some (.int .u8 b.toNat, m) := by
  rw [nthV_eq] at hb
  have hb' : s.data[k]? = some b := by simpa using hb
  have hlt : k < s.size := (Array.getElem?_eq_some_iff.1 hb').1
  have hs : s[k]? = some b := by
    rw [getElem?_pos s k hlt]
    have := (Array.getElem?_eq_some_iff.1 hb').2
    exact congrArg some this
  unfold Instr.index
  show arun P (pure (ik, Int.ofNat k) >>= _) m = _
  rw [arun_bind', arun_pure]
  rw [arun_bind', arun_underlying hu]
  have h0 : (0 : Int) ≤ Int.ofNat k := Int.natCast_nonneg k
  rw [if_pos h0]
  show arun P (match s[k]? with | some b => pure (Value.int .u8 b.toNat) | none => boundsPanic ik (Int.ofNat k) s.size .index) m = _
  rw [hs]
/-- a bound of a slice expression -/
def bnd (d : Nat) : Option Value → Option Nat
  | none => some d
  | some (.int _ (.ofNat k)) => some k
def subS (l h : Option Nat) (m : AM) (s : ByteArray) : Option (Value × AM) := match l, h with
  | some a, some b => match Nat.ble a b, Nat.ble b s.data.toList.length with
    | true, true => some (.string ⟨((s.data.toList.drop a).take (b - a)).toArray⟩, m)
    | _, _ => none
theorem extract_eq (s : ByteArray) (a b : Nat) : s.extract a b = ⟨((s.data.toList.drop a).take (b - a)).toArray⟩ := by
  apply ByteArray.ext
  rw [ByteArray.data_extract]
  apply Array.ext'
  simp [Array.toList_extract, List.extract_eq_take_drop]
theorem arun_bound {x : Option Value} {n d k : Nat} {c : BoundsCode} (h : bnd d x = some k) (hk : k ≤ n) (m : AM) :
    arun P (match x with | some v => Instr.sliceBound v n c | none => pure d) m = some (k, m) := by
  unfold bnd at h
  · injection h with h
    subst h
  · rename_i ik k'
    injection h with h
    show arun P (Instr.sliceBound (.int ik (.ofNat k')) n c) m = _
    unfold Instr.sliceBound
    show arun P (pure (ik, Int.ofNat k') >>= _) m = _
    rw [arun_bind', arun_pure]
    have : (0 : Int) ≤ Int.ofNat k' ∧ Int.ofNat k' ≤ (n : Int) := by
      have : Int.ofNat k' = (k' : Int) := rfl
    rw [if_pos this]
theorem arun_sub {T : TypeId} (hu : P.underlying T = some .string) {s : ByteArray} {l h : Option Value} {a b : Nat} (hl : bnd 0 l = some a) (hh : bnd s.size h = some b) (hab : a ≤ b) (hb : b ≤ s.size) (m : AM) :
    arun P (Instr.sliceAt T (.string s) l h none) m = some (.string (s.extract a b), m) := by
  have one : ∀ (v : Value) (n k : Nat) (c : BoundsCode), bnd 0 (some v) = some k → k ≤ n → arun P (Instr.sliceBound v n c) m = some (k, m) := fun v n k c h hk => arun_bound (x := some v) (d := 0) h hk m
  have one' : ∀ (v : Value) (k : Nat), bnd s.size (some v) = some k → bnd 0 (some v) = some k := fun v k h => by
    cases v with
    | int ik n => cases n <;> exact h
    | _ => cases h
  unfold Instr.sliceAt
  unfold Instr.slice
  simp only [Option.isSome_none, Bool.false_eq_true, if_false]
  have hsb : arun P (Instr.sliceBounds false s.size s.size l h none) m = some ((a, b, s.size), m) := by
    unfold Instr.sliceBounds
    cases h with
    | none =>
      injection hh with hh
      subst hh
      cases l with
      | none =>
        injection hl with hl
        subst hl
        rfl
      | some v =>
        show arun P (Instr.sliceBound v s.size _ >>= fun l => pure (l, s.size, s.size)) m = _
        rw [arun_bind', one v _ _ _ hl hab]
    | some u =>
        show arun P (Instr.sliceBound u s.size _ >>= fun h => pure (0, h, s.size)) m = _
        rw [arun_bind', one u _ _ _ (one' u b hh) hb]
        show arun P (Instr.sliceBound u s.size _ >>= fun h => (Instr.sliceBound v h _ >>= fun l => pure (l, h, s.size))) m = _
        simp only
  rw [hsb]
/-- whether a type is string -/
def isStr (P : Program) (T : TypeId) : Bool := match P.underlying T with
  | some .string => true
  | _ => false
theorem isStr_spec {T : TypeId} (h : isStr P T = true) : P.underlying T = some .string := by
  unfold isStr at h
  · assumption
def isSl (P : Program) (T : TypeId) : Bool := match P.underlying T with
  | some (.slice _) => true
theorem isSl_spec {T : TypeId} (h : isSl P T = true) : ∃ e, P.underlying T = some (.slice e) := by
  unfold isSl at h
  · rename_i e he
    exact ⟨e, he⟩
def lenV (st sl : Bool) (m : AM) : Value → Option (Value × AM)
  | .string s => match st with
    | true => some (.int .i64 (.ofNat s.data.toList.length), m)
  | .slice _ n _ => match sl with
    | true => some (.int .i64 (.ofNat n), m)
theorem arun_len {T ty : TypeId} {ts : Array TypeId} (ht : ts[0]? = some T) {u : Value} {m : AM} {r : Value × AM} (h : lenV (isStr P T) (isSl P T) m u = some r) : arun P (Builtin.len_ ts ty #[u]) m = some r ∧ nt u = true := by
  unfold lenV at h
  · rename_i s
    · rename_i hs
      refine ⟨?_, rfl⟩
      unfold Builtin.len_
      rw [ht]
      show arun P (underlying T >>= _) m = _
      rw [arun_bind', arun_underlying (isStr_spec hs)]
      rw [Array.length_toList]
  · rename_i a n c
      obtain ⟨e, he⟩ := isSl_spec hs
      rw [arun_bind', arun_underlying he]
def fast (P : Program) (e : Operand → Value) (m : AM) : Op → Option (Value × AM)
  | .move x | .assign x => some (e x, m)
  | .pick c a b => match e c with
    | .bool true => some (e a, m)
    | .bool false => some (e b, m)
  | .binOp op _ x y _ => match fBin op (e x) (e y) with
    | some v => some (v, m)
  | .extract x i => match e x with
    | .tuple vs => match nthV vs.toList i with
      | some v => some (v, m)
  | .load T x => match e x with
    | .pointer (some a) => match a.spot, find m.bs a.block with
      | none, some b => match rowN P T with
        | some none => match nthV b.c.toList a.off with
          | some v => some (v, m)
          | none => none
        | some (some n) => match Nat.beq ((b.c.toList.drop a.off).take n).length n with
          | true => some (.agg ((b.c.toList.drop a.off).take n).toArray, m)
          | false => none
        | none => none
  | .store T x y => match oneN P T with
    | true => match e x with
      | .pointer (some a) => match a.spot, find m.bs a.block with
        | none, some b => match isWide (e y), true, b.ro, Nat.ble (a.off + 1) b.c.size with
          | false, true, false, true => some (undef, ⟨m.n, setB m.bs a.block a.off (e y)⟩)
          | _, _, _, _ => none
        | _, _ => none
    | false => match sizeN P T with
      | some n => fSa n (e y) m (e x)
  | .alloc T => match zeroC P T with
    | some c => some (.pointer (some ⟨m.n, 0, none⟩), ⟨m.n + 1, ⟨m.n, c, T, true, false⟩ :: m.bs⟩)
  | .fieldAddr T x f => match e x, offF P T f with
    | .pointer (some a), some o => some (.pointer (some (a.add o)), m)
  | .indexAddr T x i => match e x, e i, sizeE P T with
    | .slice (some a) n _, .int _ (.ofNat k), some z => match Nat.blt k n with
      | true => some (.pointer (some (a.add (k * z))), m)
    | _, _, _ => none
  | .index T x i => match e x, e i, isStr P T with
    | .string s, .int _ (.ofNat k), true => idxS k m s
  | .slice T x l h mx => match mx, e x, isStr P T with
    | none, .string s, true => subS (bnd 0 (l.map e)) (bnd s.data.toList.length (h.map e)) m s
  | .call { callee := .builtin .len, args := ⟨[x]⟩, argTypes := ⟨[T]⟩ } => lenV (isStr P T) (isSl P T) m (e x)
/-- the short way's answer is the long way's -/
theorem fast_spec {e : Operand → Value} {m m' : AM} {o : Oper} {v : Value} (h : fast P e m o.op = some (v, m')) :
    (okOp P e o.op = true ∧ (arun P (execOp e o) m = some (.value v, m') ∨ (arun P (execOp e o) m = some (.skip, m') ∧ v = undef))) ∨
    (okOp P e o.op = false ∧ noSel o.op = true ∧ (∀ x ∈ o.op.operands, still (e x) = true) ∧ ans P (execOp e o) = some (.value v) ∧ m' = m ∧ still3 v = true) := by
  obtain ⟨dst, op, type, pos, after, guard⟩ := o
  simp only at h ⊢
  unfold fast at h
    injection h with h1 h2
    subst h1 h2
    exact .inl ⟨rfl, .inl rfl⟩
  · rename_i c a b
    refine .inl ⟨rfl, .inl ?_⟩
    · rename_i hc
      injection h with h1 h2
      subst h1 h2
      simp only [execOp, hc]
  · rename_i bop T x y yt
    · rename_i w hw
      obtain ⟨h1, h2, h3⟩ := fBin_ans (P := P) (T := T) (x := x) (y := y) hw
      refine .inr ⟨rfl, rfl, fun z hz => ?_, ?_, rfl, fBin_still hw⟩
      · simp only [Op.operands] at hz
        rcases (by simpa using hz : z = x ∨ z = y) with rfl | rfl
        · exact h1
        · exact h2
      · simp only [execOp]
        have : ∀ (s : Sem Value), ans P s = some w → ans P (do pure (Next.value (← s))) = some (.value w) := by
          intro s
          induction s with
          | pure a => intro h; injection h with h; subst h; rfl
          | program k ih => intro h; exact ih P h
          | mark q k ih => intro h; exact ih h
          | _ => intro h; cases h
        exact this _ h3
  · rename_i x i
    · rename_i vs hvs
      · rename_i w hw
        injection h with h1 h2
        subst h1 h2
        rw [nthV_eq] at hw
        have hw' : vs[i]? = some w := by simpa using hw
        simp only [execOp, hvs, Instr.extract, hw']
  · rename_i T x
    · rename_i a ha
        have key : ∀ w, arun P (loadVar T a) m = some (w, m) → okOp P e (.load T x) = true ∧ (arun P (execOp e ⟨dst, .load T x, type, pos, after, guard⟩) m = some (.value w, m) ∨ (arun P (execOp e ⟨dst, .load T x, type, pos, after, guard⟩) m = some (.skip, m) ∧ w = undef)) := by
          intro w hw
          refine ⟨by simp only [okOp, ha]; rfl, .inl ?_⟩
          simp only [execOp, ha]
          show arun P (Instr.loadAt T (.pointer (some a)) >>= fun q => pure (Next.value q)) m = _
          rw [arun_bind']
          have e1 : arun P (Instr.loadAt T (Value.pointer (some a))) m = arun P (loadVar T a) m := rfl
          rw [e1, hw]
        · rename_i ht
          · rename_i w hw
            injection h with h1 h2
            subst h1 h2
            exact .inl (key _ (arun_loadVar_cell ht hs hb hw))
        · rename_i n ht
          · rename_i hl
            exact .inl (key _ (arun_loadVar_row ht hs hb (Nat.eq_of_beq_eq_true hl)))
  · rename_i T x y
    · rename_i ho0
      · rename_i a ha
        · rename_i b hs hb
          · rename_i hw ho hr hl
            refine .inl ⟨?_, .inr ⟨?_, rfl⟩⟩
            · simp only [okOp, ha]
              generalize e y = u at hw
              cases u <;> first | rfl | cases hw
            · simp only [execOp, ha]
              show arun P (Instr.storeAt T (.pointer (some a)) (e y) >>= fun _ => pure Next.skip) m = _
              rw [arun_bind']
              have e1 : arun P (Instr.storeAt T (Value.pointer (some a)) (e y)) m = arun P (storeVar T a (e y)) m := rfl
              rw [e1, oneN_spec ho0 hw hs hb hr hl]
              rfl
    · split at h
      · rename_i n hn
        obtain ⟨k1, k2, k3, k4⟩ := fSa_spec hn h
        refine .inl ⟨?_, .inr ⟨?_, k4⟩⟩
        · simp only [okOp, k1, k2]
        · simp only [execOp]
          exact k3
  · rename_i T
    · rename_i c hc
      obtain ⟨k1, k2⟩ := zeroC_spec hc m
      refine .inl ⟨k1, .inl ?_⟩
      simp only [execOp]
      rw [arun_bind', k2]
  · rename_i T x f
    · rename_i a o' ha ho
      obtain ⟨k1, k2⟩ := offF_spec ho a m
      refine .inl ⟨by simp only [okOp, ha, k1]; rfl, .inl ?_⟩
      simp only [execOp, ha]
  · rename_i T x i
    · rename_i a n c ik k z ha hi hz
      · rename_i hk
        have hk' : k < n := by simpa [Nat.blt_eq] using hk
        refine .inl ⟨by simp only [okOp, ha, hi]; rfl, .inl ?_⟩
        simp only [execOp, ha, hi]
        rw [arun_bind', sizeE_spec hz a n _ k hk']
    · rename_i s ik k ha hi ht
      unfold idxS at h
      · rename_i b hb
        rw [arun_bind', arun_index (isStr_spec ht) hb]
  · rename_i T x l hh mx
    · rename_i s ha ht
      unfold subS at h
      · rename_i a b hl hb
        · rename_i k1 k2
          have k1 := Nat.le_of_ble_eq_true k1
          have k2 := Nat.le_of_ble_eq_true k2
          have hsz : s.data.toList.length = s.size := Array.length_toList
          rw [hsz] at k2 hb
          injection h with h1 h2
          subst h1 h2
          have hbn : ∀ (d k : Nat) (z : Option Operand), bnd d (z.map e) = some k → z.all (fun y => nt (e y)) = true := by
            intro d k z hz
            cases z with
            | none => rfl
            | some y =>
              simp only [Option.map_some] at hz
              simp only [Option.all_some]
              generalize e y = u at hz
              cases u <;> first | rfl | (simp [bnd] at hz)
          refine .inl ⟨?_, .inl ?_⟩
          · simp only [okOp, ha, hbn _ _ l hl, hbn _ _ hh hb]
            simp [capOk, isStr_spec ht, nt]
          · simp only [execOp, ha, Option.map_none]
            rw [arun_bind', arun_sub (isStr_spec ht) hl hb k1 k2, extract_eq]
  · rename_i x T
    obtain ⟨k1, k2⟩ := arun_len (ty := type) (ts := ⟨[T]⟩) rfl h
    refine .inl ⟨k2, .inl ?_⟩
    obtain ⟨d, hd⟩ : ∃ d, ∀ g : Operand → Value, resolve g ⟨.builtin .len, ⟨[x]⟩, ⟨[T]⟩⟩ type = pure ⟨.builtin .len ⟨[T]⟩ type d, #[g x]⟩ := ⟨_, fun g => by simp only [resolve, List.map_toArray, List.map_cons, List.map_nil]; rfl⟩
    simp only [execOp]
    rw [hd]
    show arun P (Builtin.len_ ⟨[T]⟩ type #[e x] >>= fun q => pure (Next.value q)) m = _
    rw [arun_bind', k1]

