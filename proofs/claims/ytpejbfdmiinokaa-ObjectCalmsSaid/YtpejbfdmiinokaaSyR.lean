/-
  RUNS RECKONED AHEAD: loads, stores, places by a short way. By an AI agent.
-/
import Derived.Test.YtpejbfdmiinokaaSyQ
namespace Go.Sx
variable [Th]
section
variable {P : Program}
def nthV {α : Type} : List α → Nat → Option α
  | [], _ => none
  | x :: _, 0 => some x
  | _ :: l, n + 1 => nthV l n
omit [Th] in
theorem nthV_eq {α : Type} : ∀ (l : List α) (n : Nat), nthV l n = l[n]?
  | [], _ => rfl
  | _ :: _, 0 => rfl
  | _ :: l, n + 1 => by rw [nthV, nthV_eq l n]; rfl
/-- a type's size, if its values are rows -/
def rowN (P : Program) (T : TypeId) : Option (Option Nat) := match P.underlying T, P.info? T with
  | some d, some i => match d with
    | .struct _ => some (some i.size)
    | .array _ _ => some (some i.size)
    | _ => some none
  | _, _ => none
omit [Th] in
theorem arun_isAgg_row {T : TypeId} {n : Nat} (h : rowN P T = some (some n)) (m : AM) : arun P (isAgg T) m = some (true, m) ∧ arun P (sizeOf T) m = some (n, m) := by
  unfold rowN at h
  split at h
  · rename_i d i hd hi
    have hs := arun_sizeOf hi m
    unfold isAgg
    rw [arun_bind', arun_underlying hd]
    cases d <;> simp only at h <;> first
      | (injection h with h; injection h with h; subst h; exact ⟨rfl, hs⟩)
      | (injection h with h; cases h)
  · cases h
omit [Th] in
theorem arun_isAgg_cell {T : TypeId} (h : rowN P T = some none) (m : AM) : arun P (isAgg T) m = some (false, m) := by
  unfold rowN at h
  split at h
  · rename_i d i hd hi
    unfold isAgg
    rw [arun_bind', arun_underlying hd]
    cases d <;> simp only at h <;> first
      | rfl
      | (injection h with h; cases h)
  · cases h
omit [Th] in
theorem add_eq (a : Addr) (h : a.spot = none) (i : Nat) : (a.add i).block = a.block ∧ (a.add i).off = a.off + i ∧ (a.add i).spot = none := by
  unfold Addr.add
  split
  · rename_i h0
    subst h0
    exact ⟨rfl, rfl, h⟩
  · exact ⟨rfl, rfl, rfl⟩
omit [Th] in
theorem arun_load {a : Addr} {m : AM} {x : Bk} {v : Value} (hs : a.spot = none) (hx : find m.bs a.block = some x) (hv : x.c[a.off]? = some v) : arun P (load a) m = some (v, m) := by
  show arun P (Sem.load .plain a Sem.pure) m = _
  simp only [arun, fV_eq, hs, hx, hv]
omit [Th] in
theorem arun_loadCellsFrom {a : Addr} {m : AM} {x : Bk} (hs : a.spot = none) (hx : find m.bs a.block = some x) : ∀ (n i : Nat) (acc : Array Value), ((x.c.toList.drop (a.off + i)).take n).length = n →
    arun P (loadCellsFrom a i n acc) m = some (acc ++ ((x.c.toList.drop (a.off + i)).take n).toArray, m)
  | 0, i, acc, _ => by simp [loadCellsFrom, arun_pure]
  | n + 1, i, acc, h => by
    have hlt : a.off + i < x.c.toList.length := by
      simp at h
      simp
      omega
    rw [List.drop_eq_getElem_cons hlt, List.take_succ_cons] at h ⊢
    obtain ⟨e1, e2, e3⟩ := add_eq a hs i
    unfold loadCellsFrom
    rw [arun_bind', arun_load (a := a.add i) e3 (by rw [e1]; exact hx) (v := x.c.toList[a.off + i]) (by rw [e2]; simp at hlt; simp [hlt])]
    simp only
    rw [arun_loadCellsFrom hs hx n (i + 1) _ (by simpa [Nat.add_assoc] using h)]
    simp [Nat.add_assoc]
omit [Th] in
theorem arun_loadVar_cell {T : TypeId} {a : Addr} {m : AM} {x : Bk} {v : Value} (ht : rowN P T = some none) (hs : a.spot = none) (hx : find m.bs a.block = some x) (hv : nthV x.c.toList a.off = some v) : arun P (loadVar T a) m = some (v, m) := by
  unfold loadVar
  rw [arun_bind', arun_isAgg_cell ht]
  exact arun_load hs hx (by rw [nthV_eq] at hv; simpa using hv)
omit [Th] in
theorem arun_loadVar_row {T : TypeId} {n : Nat} {a : Addr} {m : AM} {x : Bk} (ht : rowN P T = some (some n)) (hs : a.spot = none) (hx : find m.bs a.block = some x) (hl : ((x.c.toList.drop a.off).take n).length = n) :
    arun P (loadVar T a) m = some (.agg ((x.c.toList.drop a.off).take n).toArray, m) := by
  unfold loadVar
  obtain ⟨h1, h2⟩ := arun_isAgg_row ht m
  rw [arun_bind', h1]
  show arun P (sizeOf T >>= fun n => loadCells a n >>= fun c => pure (Value.agg c)) m = _
  rw [arun_bind', h2]
  simp only
  rw [arun_bind']
  unfold loadCells
  rw [arun_loadCellsFrom hs hx n 0 #[] (by simpa using hl)]
  simp [arun_pure]
/-- a field's place -/
def offF (P : Program) (T : TypeId) (f : Nat) : Option Nat := match P.underlying T with
  | some (.struct fs) => match fs[f]? with
    | some x => match P.info? x.type with
      | some i => match Nat.beq i.size 0 with
        | false => some x.offset
        | true => none
      | none => none
    | none => none
  | _ => none
omit [Th] in
theorem offF_spec {T : TypeId} {f o : Nat} (h : offF P T f = some o) (a : Addr) (m : AM) : wideField P T f = true ∧ arun P (Instr.fieldAt T (.pointer (some a)) f) m = some (.pointer (some (a.add o)), m) := by
  unfold offF at h
  split at h
  · rename_i fs hu
    split at h
    · rename_i x hx
      split at h
      · rename_i i hi
        split at h
        · rename_i hz
          injection h with h
          subst h
          constructor
          · unfold wideField
            rw [hu]
            simp only [hx, hi, hz]
            rfl
          · unfold Instr.fieldAt
            rw [arun_bind', arun_underlying hu]
            simp only [hx]
            show arun P (pure a >>= fun a => fieldPlace a x >>= fun q => pure (Value.pointer (some q))) m = _
            rw [arun_bind', arun_pure]
            simp only
            rw [arun_bind']
            unfold fieldPlace
            rw [arun_bind', arun_sizeOf hi]
            simp only
            rw [if_neg (Nat.ne_of_beq_eq_false hz)]
            rfl
        · cases h
      · cases h
    · cases h
  · cases h
/-- an element's size -/
def sizeE (P : Program) (T : TypeId) : Option Nat := match P.underlying T with
  | some (.slice e) => match P.info? e with
    | some i => some i.size
    | none => none
  | _ => none
omit [Th] in
theorem sizeE_spec {T : TypeId} {z : Nat} (h : sizeE P T = some z) (a : Addr) (n c k : Nat) (hk : k < n) (ik : IntKind) (m : AM) : arun P (Instr.indexAt T (.slice (some a) n c) (.int ik (.ofNat k))) m = some (.pointer (some (a.add (k * z))), m) := by
  unfold sizeE at h
  split at h
  · rename_i e hu
    split at h
    · rename_i i hi
      injection h with h
      subst h
      unfold Instr.indexAt
      show arun P (pure (ik, Int.ofNat k) >>= _) m = _
      rw [arun_bind', arun_pure]
      simp only
      rw [arun_bind', arun_underlying hu]
      simp only
      show arun P (pure (some a, n, e) >>= _) m = _
      rw [arun_bind', arun_pure]
      simp only
      rw [arun_bind', arun_underlying hu]
      simp only
      have hc : (0 : Int) ≤ Int.ofNat k ∧ Int.ofNat k < (n : Int) := by
        have : Int.ofNat k = (k : Int) := rfl
        omega
      rw [if_pos hc]
      rw [arun_bind', arun_sizeOf hi]
      rfl
    · cases h
  · cases h
def zeroC (P : Program) (T : TypeId) : Option (Array Value) := match P.info? T with
  | some i => match i.zero with
    | some z => match z.cells.all dry with
      | true => some z.cells
      | false => none
    | none => none
  | none => none
omit [Th] in
theorem zeroC_spec {T : TypeId} {c : Array Value} (h : zeroC P T = some c) (m : AM) : dryZero P T = true ∧ arun P (Instr.alloc T true (.tuple #[])) m = some (.pointer (some ⟨m.n, 0, none⟩), ⟨m.n + 1, ⟨m.n, c, T, true, false⟩ :: m.bs⟩) := by
  unfold zeroC at h
  split at h
  · rename_i i hi
    split at h
    · rename_i z hz
      split at h
      · rename_i hd
        injection h with h
        subst h
        constructor
        · unfold dryZero
          rw [hi]
          simp only [Option.bind_some, hz]
          exact hd
        · unfold Instr.alloc zeroValue
          rw [arun_bind', arun_bind', arun_typeInfo hi]
          simp only [hz]
          show arun P (Sem.new (.cells z.cells T) fun r => (pure (Value.pointer (some ⟨r, 0, none⟩)) : Sem Value)) m = _
          simp only [arun, fM_eq, fN_eq]
          rfl
      · cases h
    · cases h
  · cases h
/-- a value of one cell stored -/
def oneN (P : Program) (T : TypeId) : Bool := match P.info? T with
  | some i => Nat.beq i.size 1
  | none => false
omit [Th] in
theorem oneN_spec {T : TypeId} (h : oneN P T = true) {a : Addr} {m : AM} {x : Bk} {v : Value} (hv : isWide v = false) (hs : a.spot = none) (hx : find m.bs a.block = some x) (hr : x.ro = false) (hl : Nat.ble (a.off + 1) x.c.size = true) :
    arun P (storeVar T a v) m = some ((), ⟨m.n, setB m.bs a.block a.off v⟩) := by
  unfold oneN at h
  split at h
  · rename_i i hi
    have hi1 := Nat.eq_of_beq_eq_true h
    have hc : v.cells = #[v] := by cases v <;> first | rfl | cases hv
    unfold storeVar
    rw [arun_bind', arun_sizeOf hi]
    simp only [hc, hi1]
    show arun P (storeCells a [v] 0) m = _
    show arun P (Sem.store .plain (a.add 0) v (storeCells a [] 1)) m = _
    simp only [arun, fV_eq, fM_eq, hv, Addr.add, if_true, hs, hx, hr, hl]
    rfl
  · cases h
/-- many cells laid over a row -/
def over : List Value → List Value → List Value
  | [], l => l
  | _ :: _, [] => []
  | v :: vs, _ :: l => v :: over vs l
def splice (vs : List Value) : Nat → List Value → List Value
  | 0, l => over vs l
  | _ + 1, [] => []
  | o + 1, x :: l => x :: splice vs o l
omit [Th] in
theorem splice_nil : ∀ (o : Nat) (l : List Value), splice [] o l = l
  | 0, l => by cases l <;> rfl
  | _ + 1, [] => rfl
  | o + 1, x :: l => by rw [splice, splice_nil o l]
omit [Th] in
theorem splice_cons (v : Value) (vs : List Value) : ∀ (o : Nat) (l : List Value), splice (v :: vs) o l = splice vs (o + 1) (l.set o v)
  | 0, [] => rfl
  | 0, x :: l => rfl
  | _ + 1, [] => rfl
  | o + 1, x :: l => by
    rw [splice, splice_cons v vs o l, List.set_cons_succ]
    rfl
def setW : List Bk → Nat → Nat → List Value → List Bk
  | [], _, _, _ => []
  | x :: l, b, o, vs => match Nat.beq x.i b with
    | true => fB x fun i c T ex ro => ⟨i, ⟨splice vs o c.toList⟩, T, ex, ro⟩ :: l
    | false => x :: setW l b o vs
omit [Th] in
theorem setW_nil (b o : Nat) : ∀ (l : List Bk), setW l b o [] = l
  | [] => rfl
  | x :: l => by
    unfold setW
    cases Nat.beq x.i b
    · simp only [setW_nil b o l]
    · simp only [splice_nil, fB_eq]
omit [Th] in
theorem setW_cons (b o : Nat) (v : Value) (vs : List Value) : ∀ (l : List Bk), setW l b o (v :: vs) = setW (setB l b o v) b (o + 1) vs
  | [] => rfl
  | x :: l => by
    cases h : Nat.beq x.i b
    · simp only [setW, setB, h]
      rw [setW_cons b o v vs l]
    · simp only [setW, setB, h, fB_eq, splice_cons, Array.toList_setIfInBounds]
def nws : List Value → Bool
  | [] => true
  | v :: l => match isWide v with
    | true => false
    | false => nws l
omit [Th] in
theorem arun_storeCells {a : Addr} (hs : a.spot = none) : ∀ (vs : List Value) (i : Nat) (m : AM) (x : Bk), find m.bs a.block = some x → x.ro = false → nws vs = true → a.off + i + vs.length ≤ x.c.size →
    arun P (storeCells a vs i) m = some ((), ⟨m.n, setW m.bs a.block (a.off + i) vs⟩)
  | [], i, m, x, _, _, _, _ => by
    rw [setW_nil]
    rfl
  | v :: vs, i, m, x, hx, hr, hn, hl => by
    unfold nws at hn
    split at hn
    · cases hn
    · rename_i hv
      obtain ⟨e1, e2, e3⟩ := add_eq a hs i
      simp only [List.length_cons] at hl
      show arun P (Sem.store .plain (a.add i) v (storeCells a vs (i + 1))) m = _
      have hb : Nat.ble (a.off + i + 1) x.c.size = true := Nat.ble_eq_true_of_le (by omega)
      simp only [arun, fV_eq, fM_eq, hv, e1, e2, e3, hx, hr, hb]
      obtain ⟨z, hz⟩ := find_set_some (o := a.off + i) (v := v) (b := a.block) hx
      obtain ⟨y, hy, q0, q1, q2, q3, q4⟩ := find_set hz
      rw [hx] at hy
      injection hy with hy
      subst hy
      rw [if_pos rfl] at q4
      rw [arun_storeCells hs vs (i + 1) _ z hz (by rw [q3]; exact hr) hn (by rw [q4]; simp; omega), setW_cons]
      rfl
def sizeN (P : Program) (T : TypeId) : Option Nat := match P.info? T with
  | some i => some i.size
  | none => none
def fSa (n : Nat) (v : Value) (m : AM) : Value → Option (Value × AM)
  | .pointer (some a) => match v with
    | .agg vs => match a.spot, find m.bs a.block with
      | none, some b => match nws vs.toList, Nat.beq vs.toList.length n, b.ro, Nat.ble (a.off + vs.toList.length) b.c.size with
        | true, true, false, true => some (undef, ⟨m.n, setW m.bs a.block a.off vs.toList⟩)
        | _, _, _, _ => none
      | _, _ => none
    | _ => none
  | _ => none
omit [Th] in
theorem fSa_spec {T : TypeId} {n : Nat} (h : sizeN P T = some n) {u v : Value} {m : AM} {r : Value × AM} (e : fSa n v m u = some r) :
    nt u = true ∧ nt v = true ∧ arun P (Instr.storeAt T u v >>= fun _ => (pure Next.skip : Sem Next)) m = some (.skip, r.2) ∧ r.1 = undef := by
  unfold fSa at e
  split at e
  · rename_i a
    split at e
    · rename_i vs
      split at e
      · rename_i b hs hb
        split at e
        · rename_i k1 k2 k3 k4
          injection e with e
          subst e
          refine ⟨rfl, rfl, ?_, rfl⟩
          unfold sizeN at h
          split at h
          · rename_i i hi
            injection h with h
            subst h
            have hn := Nat.eq_of_beq_eq_true k2
            rw [arun_bind']
            have e1 : arun P (Instr.storeAt T (Value.pointer (some a)) (.agg vs)) m = arun P (storeVar T a (.agg vs)) m := rfl
            have hc : (Value.agg vs).cells = vs := rfl
            have hsz : vs.size = i.size := hn
            have this := arun_storeCells (P := P) hs vs.toList 0 m b hb k3 k1 (Nat.le_of_ble_eq_true k4)
            have e2 : arun P (storeVar T a (.agg vs)) m = some ((), ⟨m.n, setW m.bs a.block a.off vs.toList⟩) := by
              unfold storeVar
              rw [arun_bind', arun_sizeOf hi]
              simp only [hc, hsz, ne_eq, not_true_eq_false, if_false]
              exact this
            rw [e1, e2]
            rfl
          · cases h
        · cases e
      · cases e
    · cases e
  · cases e
def idxS (k : Nat) (m : AM) (s : ByteArray) : Option (Value × AM) := match nthV s.data.toList k with
  | some b => some (.int .u8 b.toNat, m)
  | none => none
omit [Th] in
theorem arun_index {T : TypeId} (hu : P.underlying T = some .string) {s : ByteArray} {k : Nat} {ik : IntKind} {b : UInt8} (hb : nthV s.data.toList k = some b) (m : AM) : arun P (Instr.index T (.string s) (.int ik (.ofNat k))) m = some (.int .u8 b.toNat, m) := by
  rw [nthV_eq] at hb
  have hb' : s.data[k]? = some b := by simpa using hb
  have hlt : k < s.size := (Array.getElem?_eq_some_iff.1 hb').1
  have hs : s[k]? = some b := by
    rw [getElem?_pos s k hlt]
    have := (Array.getElem?_eq_some_iff.1 hb').2
    exact congrArg some this
  unfold Instr.index
  show arun P (pure (ik, Int.ofNat k) >>= _) m = _
  rw [arun_bind', arun_pure]
  simp only
  rw [arun_bind', arun_underlying hu]
  simp only
  have h0 : (0 : Int) ≤ Int.ofNat k := Int.natCast_nonneg k
  rw [if_pos h0]
  show arun P (match s[k]? with | some b => pure (Value.int .u8 b.toNat) | none => boundsPanic ik (Int.ofNat k) s.size .index) m = _
  rw [hs]
  rfl
/-- a bound of a slice expression -/
def bnd (d : Nat) : Option Value → Option Nat
  | none => some d
  | some (.int _ (.ofNat k)) => some k
  | _ => none
def subS (l h : Option Nat) (m : AM) (s : ByteArray) : Option (Value × AM) := match l, h with
  | some a, some b => match Nat.ble a b, Nat.ble b s.data.toList.length with
    | true, true => some (.string ⟨((s.data.toList.drop a).take (b - a)).toArray⟩, m)
    | _, _ => none
  | _, _ => none
omit [Th] in
theorem extract_eq (s : ByteArray) (a b : Nat) : s.extract a b = ⟨((s.data.toList.drop a).take (b - a)).toArray⟩ := by
  apply ByteArray.ext
  rw [ByteArray.data_extract]
  apply Array.ext'
  simp [Array.toList_extract, List.extract_eq_take_drop]
omit [Th] in
theorem arun_bound {x : Option Value} {n d k : Nat} {c : BoundsCode} (h : bnd d x = some k) (hk : k ≤ n) (m : AM) :
    arun P (match x with | some v => Instr.sliceBound v n c | none => pure d) m = some (k, m) := by
  unfold bnd at h
  split at h
  · injection h with h
    subst h
    rfl
  · rename_i ik k'
    injection h with h
    subst h
    show arun P (Instr.sliceBound (.int ik (.ofNat k')) n c) m = _
    unfold Instr.sliceBound
    show arun P (pure (ik, Int.ofNat k') >>= _) m = _
    rw [arun_bind', arun_pure]
    simp only
    have : (0 : Int) ≤ Int.ofNat k' ∧ Int.ofNat k' ≤ (n : Int) := by
      have : Int.ofNat k' = (k' : Int) := rfl
      omega
    rw [if_pos this]
    rfl
  · cases h
omit [Th] in
theorem arun_sub {T : TypeId} (hu : P.underlying T = some .string) {s : ByteArray} {l h : Option Value} {a b : Nat} (hl : bnd 0 l = some a) (hh : bnd s.size h = some b) (hab : a ≤ b) (hb : b ≤ s.size) (m : AM) :
    arun P (Instr.sliceAt T (.string s) l h none) m = some (.string (s.extract a b), m) := by
  have one : ∀ (v : Value) (n k : Nat) (c : BoundsCode), bnd 0 (some v) = some k → k ≤ n → arun P (Instr.sliceBound v n c) m = some (k, m) := fun v n k c h hk => arun_bound (x := some v) (d := 0) h hk m
  have one' : ∀ (v : Value) (k : Nat), bnd s.size (some v) = some k → bnd 0 (some v) = some k := fun v k h => by
    cases v with
    | int ik n => cases n <;> exact h
    | _ => cases h
  unfold Instr.sliceAt
  rw [arun_bind', arun_underlying hu]
  simp only
  unfold Instr.slice
  rw [arun_bind', arun_underlying hu]
  simp only [Option.isSome_none, Bool.false_eq_true, if_false]
  rw [arun_bind']
  have hsb : arun P (Instr.sliceBounds false s.size s.size l h none) m = some ((a, b, s.size), m) := by
    unfold Instr.sliceBounds
    cases h with
    | none =>
      injection hh with hh
      subst hh
      cases l with
      | none =>
        injection hl with hl
        subst hl
        rfl
      | some v =>
        show arun P (Instr.sliceBound v s.size _ >>= fun l => pure (l, s.size, s.size)) m = _
        rw [arun_bind', one v _ _ _ hl hab]
        rfl
    | some u =>
      cases l with
      | none =>
        injection hl with hl
        subst hl
        show arun P (Instr.sliceBound u s.size _ >>= fun h => pure (0, h, s.size)) m = _
        rw [arun_bind', one u _ _ _ (one' u b hh) hb]
        rfl
      | some v =>
        show arun P (Instr.sliceBound u s.size _ >>= fun h => (Instr.sliceBound v h _ >>= fun l => pure (l, h, s.size))) m = _
        rw [arun_bind', one u _ _ _ (one' u b hh) hb]
        simp only
        rw [arun_bind', one v _ _ _ hl hab]
        rfl
  rw [hsb]
  rfl
/-- whether a type is string -/
def isStr (P : Program) (T : TypeId) : Bool := match P.underlying T with
  | some .string => true
  | _ => false
omit [Th] in
theorem isStr_spec {T : TypeId} (h : isStr P T = true) : P.underlying T = some .string := by
  unfold isStr at h
  split at h
  · assumption
  · cases h
def isSl (P : Program) (T : TypeId) : Bool := match P.underlying T with
  | some (.slice _) => true
  | _ => false
omit [Th] in
theorem isSl_spec {T : TypeId} (h : isSl P T = true) : ∃ e, P.underlying T = some (.slice e) := by
  unfold isSl at h
  split at h
  · rename_i e he
    exact ⟨e, he⟩
  · cases h
def lenV (st sl : Bool) (m : AM) : Value → Option (Value × AM)
  | .string s => match st with
    | true => some (.int .i64 (.ofNat s.data.toList.length), m)
    | false => none
  | .slice _ n _ => match sl with
    | true => some (.int .i64 (.ofNat n), m)
    | false => none
  | _ => none
omit [Th] in
theorem arun_len {T ty : TypeId} {ts : Array TypeId} (ht : ts[0]? = some T) {u : Value} {m : AM} {r : Value × AM} (h : lenV (isStr P T) (isSl P T) m u = some r) : arun P (Builtin.len_ ts ty #[u]) m = some r ∧ nt u = true := by
  unfold lenV at h
  split at h
  · rename_i s
    split at h
    · rename_i hs
      injection h with h
      subst h
      refine ⟨?_, rfl⟩
      unfold Builtin.len_
      rw [ht]
      show arun P (underlying T >>= _) m = _
      rw [arun_bind', arun_underlying (isStr_spec hs)]
      simp only
      rw [Array.length_toList]
      rfl
    · cases h
  · rename_i a n c
    split at h
    · rename_i hs
      injection h with h
      subst h
      obtain ⟨e, he⟩ := isSl_spec hs
      refine ⟨?_, rfl⟩
      unfold Builtin.len_
      rw [ht]
      show arun P (underlying T >>= _) m = _
      rw [arun_bind', arun_underlying he]
      rfl
    · cases h
  · cases h
def fast (P : Program) (e : Operand → Value) (m : AM) : Op → Option (Value × AM)
  | .move x | .assign x => some (e x, m)
  | .pick c a b => match e c with
    | .bool true => some (e a, m)
    | .bool false => some (e b, m)
    | _ => none
  | .binOp op _ x y _ => match fBin op (e x) (e y) with
    | some v => some (v, m)
    | none => none
  | .extract x i => match e x with
    | .tuple vs => match nthV vs.toList i with
      | some v => some (v, m)
      | none => none
    | _ => none
  | .load T x => match e x with
    | .pointer (some a) => match a.spot, find m.bs a.block with
      | none, some b => match rowN P T with
        | some none => match nthV b.c.toList a.off with
          | some v => some (v, m)
          | none => none
        | some (some n) => match Nat.beq ((b.c.toList.drop a.off).take n).length n with
          | true => some (.agg ((b.c.toList.drop a.off).take n).toArray, m)
          | false => none
        | none => none
      | _, _ => none
    | _ => none
  | .store T x y => match oneN P T with
    | true => match e x with
      | .pointer (some a) => match a.spot, find m.bs a.block with
        | none, some b => match isWide (e y), true, b.ro, Nat.ble (a.off + 1) b.c.size with
          | false, true, false, true => some (undef, ⟨m.n, setB m.bs a.block a.off (e y)⟩)
          | _, _, _, _ => none
        | _, _ => none
      | _ => none
    | false => match sizeN P T with
      | some n => fSa n (e y) m (e x)
      | none => none
  | .alloc T => match zeroC P T with
    | some c => some (.pointer (some ⟨m.n, 0, none⟩), ⟨m.n + 1, ⟨m.n, c, T, true, false⟩ :: m.bs⟩)
    | none => none
  | .fieldAddr T x f => match e x, offF P T f with
    | .pointer (some a), some o => some (.pointer (some (a.add o)), m)
    | _, _ => none
  | .indexAddr T x i => match e x, e i, sizeE P T with
    | .slice (some a) n _, .int _ (.ofNat k), some z => match Nat.blt k n with
      | true => some (.pointer (some (a.add (k * z))), m)
      | false => none
    | _, _, _ => none
  | .index T x i => match e x, e i, isStr P T with
    | .string s, .int _ (.ofNat k), true => idxS k m s
    | _, _, _ => none
  | .slice T x l h mx => match mx, e x, isStr P T with
    | none, .string s, true => subS (bnd 0 (l.map e)) (bnd s.data.toList.length (h.map e)) m s
    | _, _, _ => none
  | .call { callee := .builtin .len, args := ⟨[x]⟩, argTypes := ⟨[T]⟩ } => lenV (isStr P T) (isSl P T) m (e x)
  | _ => none
omit [Th] in
/-- the short way's answer is the long way's -/
theorem fast_spec {e : Operand → Value} {m m' : AM} {o : Oper} {v : Value} (h : fast P e m o.op = some (v, m')) :
    (okOp P e o.op = true ∧ (arun P (execOp e o) m = some (.value v, m') ∨ (arun P (execOp e o) m = some (.skip, m') ∧ v = undef))) ∨
    (okOp P e o.op = false ∧ noSel o.op = true ∧ (∀ x ∈ o.op.operands, still (e x) = true) ∧ ans P (execOp e o) = some (.value v) ∧ m' = m ∧ still3 v = true) := by
  obtain ⟨dst, op, type, pos, after, guard⟩ := o
  simp only at h ⊢
  unfold fast at h
  split at h
  · injection h with h
    injection h with h1 h2
    subst h1 h2
    exact .inl ⟨rfl, .inl rfl⟩
  · injection h with h
    injection h with h1 h2
    subst h1 h2
    exact .inl ⟨rfl, .inl rfl⟩
  · rename_i c a b
    refine .inl ⟨rfl, .inl ?_⟩
    split at h
    · rename_i hc
      injection h with h
      injection h with h1 h2
      subst h1 h2
      simp only [execOp, hc]
      rfl
    · rename_i hc
      injection h with h
      injection h with h1 h2
      subst h1 h2
      simp only [execOp, hc]
      rfl
    · cases h
  · rename_i bop T x y yt
    split at h
    · rename_i w hw
      injection h with h
      injection h with h1 h2
      subst h1 h2
      obtain ⟨h1, h2, h3⟩ := fBin_ans (P := P) (T := T) (x := x) (y := y) hw
      refine .inr ⟨rfl, rfl, fun z hz => ?_, ?_, rfl, fBin_still hw⟩
      · simp only [Op.operands] at hz
        rcases (by simpa using hz : z = x ∨ z = y) with rfl | rfl
        · exact h1
        · exact h2
      · simp only [execOp]
        have : ∀ (s : Sem Value), ans P s = some w → ans P (do pure (Next.value (← s))) = some (.value w) := by
          intro s
          induction s with
          | pure a => intro h; injection h with h; subst h; rfl
          | program k ih => intro h; exact ih P h
          | mark q k ih => intro h; exact ih h
          | _ => intro h; cases h
        exact this _ h3
    · cases h
  · rename_i x i
    refine .inl ⟨rfl, .inl ?_⟩
    split at h
    · rename_i vs hvs
      split at h
      · rename_i w hw
        injection h with h
        injection h with h1 h2
        subst h1 h2
        rw [nthV_eq] at hw
        have hw' : vs[i]? = some w := by simpa using hw
        simp only [execOp, hvs, Instr.extract, hw']
        rfl
      · cases h
    · cases h
  · rename_i T x
    split at h
    · rename_i a ha
      split at h
      · rename_i b hs hb
        have key : ∀ w, arun P (loadVar T a) m = some (w, m) → okOp P e (.load T x) = true ∧ (arun P (execOp e ⟨dst, .load T x, type, pos, after, guard⟩) m = some (.value w, m) ∨ (arun P (execOp e ⟨dst, .load T x, type, pos, after, guard⟩) m = some (.skip, m) ∧ w = undef)) := by
          intro w hw
          refine ⟨by simp only [okOp, ha]; rfl, .inl ?_⟩
          simp only [execOp, ha]
          show arun P (Instr.loadAt T (.pointer (some a)) >>= fun q => pure (Next.value q)) m = _
          rw [arun_bind']
          have e1 : arun P (Instr.loadAt T (Value.pointer (some a))) m = arun P (loadVar T a) m := rfl
          rw [e1, hw]
          rfl
        split at h
        · rename_i ht
          split at h
          · rename_i w hw
            injection h with h
            injection h with h1 h2
            subst h1 h2
            exact .inl (key _ (arun_loadVar_cell ht hs hb hw))
          · cases h
        · rename_i n ht
          split at h
          · rename_i hl
            injection h with h
            injection h with h1 h2
            subst h1 h2
            exact .inl (key _ (arun_loadVar_row ht hs hb (Nat.eq_of_beq_eq_true hl)))
          · cases h
        · cases h
      · cases h
    · cases h
  · rename_i T x y
    split at h
    · rename_i ho0
      split at h
      · rename_i a ha
        split at h
        · rename_i b hs hb
          split at h
          · rename_i hw ho hr hl
            injection h with h
            injection h with h1 h2
            subst h1 h2
            refine .inl ⟨?_, .inr ⟨?_, rfl⟩⟩
            · simp only [okOp, ha]
              generalize e y = u at hw
              cases u <;> first | rfl | cases hw
            · simp only [execOp, ha]
              show arun P (Instr.storeAt T (.pointer (some a)) (e y) >>= fun _ => pure Next.skip) m = _
              rw [arun_bind']
              have e1 : arun P (Instr.storeAt T (Value.pointer (some a)) (e y)) m = arun P (storeVar T a (e y)) m := rfl
              rw [e1, oneN_spec ho0 hw hs hb hr hl]
              rfl
          · cases h
        · cases h
      · cases h
    · split at h
      · rename_i n hn
        obtain ⟨k1, k2, k3, k4⟩ := fSa_spec hn h
        refine .inl ⟨?_, .inr ⟨?_, k4⟩⟩
        · simp only [okOp, k1, k2]
          rfl
        · simp only [execOp]
          exact k3
      · cases h
  · rename_i T
    split at h
    · rename_i c hc
      injection h with h
      injection h with h1 h2
      subst h1 h2
      obtain ⟨k1, k2⟩ := zeroC_spec hc m
      refine .inl ⟨k1, .inl ?_⟩
      simp only [execOp]
      rw [arun_bind', k2]
      rfl
    · cases h
  · rename_i T x f
    split at h
    · rename_i a o' ha ho
      injection h with h
      injection h with h1 h2
      subst h1 h2
      obtain ⟨k1, k2⟩ := offF_spec ho a m
      refine .inl ⟨by simp only [okOp, ha, k1]; rfl, .inl ?_⟩
      simp only [execOp, ha]
      rw [arun_bind', k2]
      rfl
    · cases h
  · rename_i T x i
    split at h
    · rename_i a n c ik k z ha hi hz
      split at h
      · rename_i hk
        injection h with h
        injection h with h1 h2
        subst h1 h2
        have hk' : k < n := by simpa [Nat.blt_eq] using hk
        refine .inl ⟨by simp only [okOp, ha, hi]; rfl, .inl ?_⟩
        simp only [execOp, ha, hi]
        rw [arun_bind', sizeE_spec hz a n _ k hk']
        rfl
      · cases h
    · cases h
  · rename_i T x i
    split at h
    · rename_i s ik k ha hi ht
      unfold idxS at h
      split at h
      · rename_i b hb
        injection h with h
        injection h with h1 h2
        subst h1 h2
        refine .inl ⟨by simp only [okOp, ha, hi]; rfl, .inl ?_⟩
        simp only [execOp, ha, hi]
        rw [arun_bind', arun_index (isStr_spec ht) hb]
        rfl
      · cases h
    · cases h
  · rename_i T x l hh mx
    split at h
    · rename_i s ha ht
      unfold subS at h
      split at h
      · rename_i a b hl hb
        split at h
        · rename_i k1 k2
          have k1 := Nat.le_of_ble_eq_true k1
          have k2 := Nat.le_of_ble_eq_true k2
          have hsz : s.data.toList.length = s.size := Array.length_toList
          rw [hsz] at k2 hb
          injection h with h
          injection h with h1 h2
          subst h1 h2
          have hbn : ∀ (d k : Nat) (z : Option Operand), bnd d (z.map e) = some k → z.all (fun y => nt (e y)) = true := by
            intro d k z hz
            cases z with
            | none => rfl
            | some y =>
              simp only [Option.map_some] at hz
              simp only [Option.all_some]
              generalize e y = u at hz
              cases u <;> first | rfl | (simp [bnd] at hz)
          refine .inl ⟨?_, .inl ?_⟩
          · simp only [okOp, ha, hbn _ _ l hl, hbn _ _ hh hb]
            simp [capOk, isStr_spec ht, nt]
          · simp only [execOp, ha, Option.map_none]
            rw [arun_bind', arun_sub (isStr_spec ht) hl hb k1 k2, extract_eq]
            rfl
        · cases h
      · cases h
    · cases h
  · rename_i x T
    obtain ⟨k1, k2⟩ := arun_len (ty := type) (ts := ⟨[T]⟩) rfl h
    refine .inl ⟨k2, .inl ?_⟩
    obtain ⟨d, hd⟩ : ∃ d, ∀ g : Operand → Value, resolve g ⟨.builtin .len, ⟨[x]⟩, ⟨[T]⟩⟩ type = pure ⟨.builtin .len ⟨[T]⟩ type d, #[g x]⟩ := ⟨_, fun g => by simp only [resolve, List.map_toArray, List.map_cons, List.map_nil]; rfl⟩
    simp only [execOp]
    rw [hd]
    show arun P (Builtin.len_ ⟨[T]⟩ type #[e x] >>= fun q => pure (Next.value q)) m = _
    rw [arun_bind', k1]
    rfl
  · cases h
end
end Go.Sx
