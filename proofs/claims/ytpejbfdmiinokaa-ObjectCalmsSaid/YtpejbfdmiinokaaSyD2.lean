/-
  RUNS RECKONED AHEAD: literals of structs and slices, make. By an AI agent.
-/
import Derived.Test.YtpejbfdmiinokaaSyD
import Derived.Laws.Sem
import Derived.IntWalk
namespace Go.Sx
variable [Th]
section
variable {P : Program}
theorem fold_rel {r : List Nat} (o : Nat) : ∀ (l l' : List Value) (k : Nat) (c c' : Array Value), All (V1 r) l.toArray l'.toArray → All (V1 r) c c' →
    All (V1 r) ((l.zipIdx k).foldl (fun cs x => cs.setIfInBounds (o + x.2) x.1) c) ((l'.zipIdx k).foldl (fun cs x => cs.setIfInBounds (o + x.2) x.1) c')
  | [], l', k, c, c', h, hc => by
    cases l' with
    | nil => exact hc
    | cons y l' => simp [All] at h
  | x :: l, l', k, c, c', h, hc => by
    obtain ⟨y, l2, e, hxy, hl⟩ := h.cons
    injection e with e
    subst e
    exact fold_rel o l l2 (k + 1) _ _ hl (hc.set (o + k) hxy)
/-- parts of a literal -/
def PR (r : List Nat) : List (Nat × Value) → List (Nat × Value) → Prop
  | [], l => l = []
  | (i, u) :: l, l' => ∃ v l2, l' = (i, v) :: l2 ∧ V2 r u v ∧ PR r l l2
theorem fill_rel {r : List Nat} (place : Nat → Option (Nat × Nat)) : ∀ (l l' : List (Nat × Value)) (c c' : Array Value), PR r l l' → All (V1 r) c c' →
    ∀ x, Instr.fill place c l = some x → ∃ y, Instr.fill place c' l' = some y ∧ All (V1 r) x y
  | [], l', c, c', h, hc, x, e => by
    have : l' = [] := h
    subst this
    injection e with e
    subst e
    exact ⟨c', rfl, hc⟩
  | (i, u) :: l, l', c, c', h, hc, x, e => by
    obtain ⟨v, l2, rfl, huv, hl⟩ := h
    unfold Instr.fill at e ⊢
    have hcell := huv.cells
    cases hp : place i with
    | none => rw [hp] at e; cases e
    | some q =>
      obtain ⟨off, size⟩ := q
      rw [hp] at e
      simp only at e ⊢
      rw [← hcell.1, ← hc.1]
      split at e
      · cases e
      · rename_i hn
        rw [if_neg hn]
        refine fill_rel place l l2 _ _ hl ?_ x e
        have := fold_rel (r := r) off u.cells.toList v.cells.toList 0 c c' (by simpa using hcell) hc
        show All (V1 r) (u.cells.zipIdx.foldl (fun cs x => cs.setIfInBounds (off + x.2) x.1) c) (v.cells.zipIdx.foldl (fun cs x => cs.setIfInBounds (off + x.2) x.1) c')
        rw [← Array.foldl_toList, ← Array.foldl_toList, Array.toList_zipIdx, Array.toList_zipIdx]
        exact this
theorem pr_map {r : List Nat} {e f : Operand → Value} : ∀ (ps : List (Nat × Operand)), (∀ p ∈ ps, V2 r (e p.2) (f p.2)) → PR r (ps.map fun (i, x) => (i, e x)) (ps.map fun (i, x) => (i, f x))
  | [], _ => rfl
  | (i, x) :: ps, h => ⟨f x, _, rfl, h (i, x) List.mem_cons_self, pr_map ps fun p hp => h p (List.mem_cons_of_mem _ hp)⟩
theorem PR.ext {r s : List Nat} (h : Ext r s) : ∀ {l l' : List (Nat × Value)}, PR r l l' → PR s l l'
  | [], _, k => k
  | (_, _) :: _, _, k => by
    obtain ⟨v, l2, rfl, huv, hl⟩ := k
    exact ⟨v, l2, rfl, huv.ext h, PR.ext h hl⟩
omit [Th] in
theorem dry_range {z : Array Value} (hz : z.all dry = true) (n : Nat) : ((Array.range n).map fun i => z[i % z.size]!).all dry = true := by
  rw [Array.all_eq_true_iff_forall_mem] at hz ⊢
  intro x hx
  obtain ⟨i, -, rfl⟩ := Array.mem_map.1 hx
  rcases Nat.lt_or_ge (i % z.size) z.size with h | h
  · rw [getElem!_pos z _ h]
    exact hz _ (Array.getElem_mem h)
  · rw [getElem!_neg z _ (by omega)]
    rfl
theorem sr_newRowDry {r : List Nat} {c : Array Value} (T : TypeId) (h : c.all dry = true) : SR P (fun r' a b => AR r' a b) r (newRow T c) (newRow T c) := sr_newRow T (dry_all h)
def dryZ (P : Program) (t : TypeId) : Bool := match P.info? t with
  | some i => match i.zero with
    | some z => z.cells.all dry
    | none => false
  | none => false
def okSliceLit (P : Program) (T : TypeId) (len : Nat) : Bool := Nat.blt len K && match P.underlying T with
  | some (.slice e) => dryZ P e
  | _ => false
theorem sr_buildSlice {r : List Nat} (T : TypeId) (len : Nat) {l l' : Array (Nat × Value)} (h : PR r l.toList l'.toList) (hk : okSliceLit P T len = true) : SR P V2 r (Instr.buildSlice T len l) (Instr.buildSlice T len l') := by
  unfold Instr.buildSlice
  refine SR.self (self_underlying T) fun r1 d he hd => ?_
  unfold okSliceLit at hk
  rw [hd, Bool.and_eq_true] at hk
  have hK : len < K := by simpa [Nat.blt_eq] using hk.1
  have h := h.ext he
  clear he
  cases d with
  | slice e =>
    have hz : dryZ P e = true := hk.2
    refine SR.self (self_sizeOf e) fun r2 size he hs => ?_
    have h := h.ext he
    clear he
    dsimp only
    split
    · trivial
    · have tail : ∀ (r3 : List Nat) (a : Array Value), Ext r2 r3 → a.all dry = true → SR P V2 r3 (match Instr.fill (fun i => some (i * size, size)) ((Array.range (len * size)).map fun x => a[x % a.size]!) l.toList with
          | some c => do let q ← newRow e c; pure (.slice (some q) len len)
          | _ => stuck "buildSlice: a part of the wrong size") (match Instr.fill (fun i => some (i * size, size)) ((Array.range (len * size)).map fun x => a[x % a.size]!) l'.toList with
          | some c => do let q ← newRow e c; pure (.slice (some q) len len)
          | _ => stuck "buildSlice: a part of the wrong size") := by
        intro r3 a he hdry
        have h := h.ext he
        cases hf : Instr.fill (fun i => some (i * size, size)) ((Array.range (len * size)).map fun x => a[x % a.size]!) l.toList with
        | none => trivial
        | some c =>
          obtain ⟨c', hc', hcc⟩ := fill_rel _ _ _ _ _ h (dry_all (dry_range hdry _)) c hf
          rw [hc']
          exact SR.then (sr_newRow e hcc) fun r4 a b _ hab => SR.ret ⟨b, len, rfl, hab.of, .inl ⟨hK, rfl⟩⟩
      by_cases h0 : len * size = 0
      · simp only [if_pos h0]
        exact SR.self (Φ := fun a => a.all dry = true) (Self.of (by simp)) tail
      · simp only [if_neg h0]
        refine SR.self (self_zeroValue e) fun r3 z he3 ⟨i, hi, hz2⟩ => SR.self (Φ := fun a => a.all dry = true) (Self.of ?_) fun r4 a he4 ha => tail r4 a (he3.trans he4) ha
        unfold dryZ at hz
        rw [hi] at hz
        simp only [hz2] at hz
        exact hz
  | _ => cases hk.2
def okMake (P : Program) (T : TypeId) : Value → Value → Bool
  | .int _ (.ofNat l), .int _ (.ofNat c) => match Nat.ble l c && Nat.ble c 1099511627776, P.underlying T with
    | true, some (.slice e) => match P.info? e with
      | some i => dryZ P e && Nat.ble (i.bytes * c) 281474976710656
      | none => false
    | _, _ => false
  | _, _ => false
theorem self_askRoom (n : Nat) : Self P (fun _ => True) (askRoom n) := fun r => by
  unfold askRoom
  split
  · exact ⟨_, _, rfl, SR.ret ⟨rfl, trivial⟩⟩
  · exact SR.ret ⟨rfl, trivial⟩
theorem sr_makeSlice {r : List Nat} (T : TypeId) (u v : Value) (hk : okMake P T u v = true) : SR P V2 r (Instr.makeSlice T u v) (Instr.makeSlice T u v) := by
  unfold okMake at hk
  split at hk
  · rename_i kl l kc c
    split at hk
    · rename_i e hlc hu
      split at hk
      · rename_i i0 hi
        rw [Bool.and_eq_true] at hlc hk
        have hle := Nat.le_of_ble_eq_true hlc.1
        have hc := Nat.le_of_ble_eq_true hlc.2
        have hb := Nat.le_of_ble_eq_true hk.2
        have hz := hk.1
        have wl : IntKind.i64.wrap (Int.ofNat l) = Int.ofNat l := IntWalk.i64_in _ (by simp; omega)
        have wc : IntKind.i64.wrap (Int.ofNat c) = Int.ofNat c := IntWalk.i64_in _ (by simp; omega)
        unfold Instr.makeSlice
        refine SR.self (self_underlying T) fun r1 d he hd => ?_
        rw [hu] at hd
        injection hd with hd
        subst hd
        have ai : ∀ (k : IntKind) (n : Int), Self P (fun m => m = n) (asInt (.int k n)) := fun k n => Self.of rfl
        refine SR.self (ai kl (Int.ofNat l)) fun r2 l' _ hl' => SR.self (ai kc (Int.ofNat c)) fun r3 c' _ hc' => ?_
        subst hl' hc'
        refine SR.self (self_typeInfo e) fun r4 i _ hi' => ?_
        rw [hi] at hi'
        injection hi' with hi'
        subst hi'
        simp only [wl, wc]
        have hbi : (i0.bytes : Int) * (c : Int) ≤ 281474976710656 := by
          rw [← Int.natCast_mul]
          omega
        have hcond : ((decide (Int.ofNat c < 0) || decide ((i0.bytes : Int) * Int.ofNat c > 2 ^ 48)) || decide (Int.ofNat l < 0) || decide (Int.ofNat l > Int.ofNat c)) = false := by
          simp only [Bool.or_eq_false_iff, decide_eq_false_iff_not]
          refine ⟨⟨⟨by simp, ?_⟩, by simp⟩, by simp; omega⟩
          show ¬ ((i0.bytes : Int) * (c : Int) > 2 ^ 48)
          omega
        have tail : ∀ (r3 : List Nat) (a : Array Value) (n : Nat), a.all dry = true → SR P V2 r3 (do let q ← newRow e ((Array.range n).map fun x => a[x % a.size]!); pure (.slice (some q) l c)) (do let q ← newRow e ((Array.range n).map fun x => a[x % a.size]!); pure (.slice (some q) l c)) := fun r3 a n ha =>
          SR.then (sr_newRowDry e (dry_range ha n)) fun r4 x y _ hab => SR.ret ⟨y, c, rfl, hab.of, .inl ⟨by unfold K; omega, rfl⟩⟩
        simp only [hcond, Bool.false_eq_true, if_false]
        refine SR.self (self_askRoom _) fun r6 _ _ _ => SR.self (self_sizeOf e) fun r7 size _ _ => ?_
        by_cases h0 : (Int.ofNat c).toNat * size = 0
        · simp only [if_pos h0]
          exact SR.self (Φ := fun a => a.all dry = true) (Self.of (by simp)) fun r8 a _ ha => tail r8 a _ ha
        · simp only [if_neg h0]
          refine SR.self (self_zeroValue e) fun r8 z _ ⟨i, hi2, hz2⟩ => SR.self (Φ := fun a => a.all dry = true) (Self.of ?_) fun r9 a _ ha => tail r9 a _ ha
          unfold dryZ at hz
          rw [hi2] at hz
          simp only [hz2] at hz
          exact hz
      · cases hk
    · cases hk
  · cases hk
theorem self_mapM {α β : Type} {f : α → Sem β} (h : ∀ x, Self P (fun _ => True) (f x)) : ∀ l : List α, Self P (fun _ => True) (l.mapM f)
  | [] => fun _ => SR.ret ⟨rfl, trivial⟩
  | x :: l => fun r => by
    rw [List.mapM_cons]
    exact SR.self (h x) fun r1 a _ _ => SR.self (self_mapM h l) fun r2 b _ _ => SR.ret ⟨rfl, trivial⟩
theorem sr_build {r : List Nat} (T : TypeId) {l l' : Array (Nat × Value)} (h : PR r l.toList l'.toList) (hk : dryZ P T = true) : SR P V2 r (Instr.build T l) (Instr.build T l') := by
  unfold Instr.build
  refine SR.self (self_zeroValue T) fun r1 z he ⟨i, hi, hz⟩ => ?_
  have hd : z.cells.all dry = true := by
    unfold dryZ at hk
    rw [hi] at hk
    simp only [hz] at hk
    exact hk
  have h := h.ext he
  clear he
  refine SR.self (self_underlying T) fun r2 d he hd2 => ?_
  have h := h.ext he
  clear he
  cases d with
  | struct fs =>
    refine SR.self (Φ := fun _ => True) ?_ fun r3 places he _ => ?_
    · rw [Array.mapM_eq_mapM_toList]
      exact fun r => SR.self (self_mapM (fun x r => SR.self (self_sizeOf x.type) fun _ _ _ _ => SR.ret ⟨rfl, trivial⟩) _) fun _ a _ _ => SR.ret ⟨rfl, trivial⟩
    · have h := h.ext he
      cases hf : Instr.fill (places[·]?) z.cells l.toList with
      | none => trivial
      | some c =>
        obtain ⟨c', hc', hcc⟩ := fill_rel _ _ _ _ _ h (dry_all hd) c hf
        rw [hc']
        exact SR.ret ⟨c', rfl, hcc⟩
  | array n e =>
    refine SR.self (self_sizeOf e) fun r3 size he _ => ?_
    have h := h.ext he
    cases hf : Instr.fill (fun i => some (i * size, size)) z.cells l.toList with
    | none => trivial
    | some c =>
      obtain ⟨c', hc', hcc⟩ := fill_rel _ _ _ _ _ h (dry_all hd) c hf
      rw [hc']
      exact SR.ret ⟨c', rfl, hcc⟩
  | _ => trivial
theorem sr_lenOf {r : List Nat} {u v : Value} (h : V2 r u v) : SR P (fun _ a b => a = b) r (Builtin.lenOf u) (Builtin.lenOf v) := by
  cases u with
  | slice a n c => cases a with
    | none =>
      obtain ⟨-, rfl⟩ := h
      exact SR.ret rfl
    | some a =>
      obtain ⟨b, c', rfl, -⟩ := h
      exact SR.ret rfl
  | string s =>
    obtain ⟨-, rfl⟩ := h
    exact SR.ret rfl
  | _ => trivial
theorem sr_firstCells {r : List Nat} {u v : Value} (z n : Nat) (hf : fixB u = true) (h : V2 r u v) : SR P (fun r' a b => All (V1 r') a b) r (Builtin.firstCells z n u) (Builtin.firstCells z n v) := by
  cases u with
  | slice a k c => cases a with
    | none =>
      obtain ⟨-, rfl⟩ := h
      exact SR.ret All.nil
    | some a =>
      obtain ⟨b, c', rfl, hb, -⟩ := h
      exact sr_loadCells (n * z) (hb.ar (fixB_or hf))
  | string s =>
    obtain ⟨-, rfl⟩ := h
    exact SR.ret (All.map fun x _ => ⟨rfl, rfl⟩)
  | _ => trivial
def OA (r : List Nat) : Option Addr → Option Addr → Prop
  | none, y => y = none
  | some a, y => ∃ b, y = some b ∧ AR r a b
theorem slice_OA {r : List Nat} {a : Option Addr} {n c : Nat} {v : Value} (hf : fixB (.slice a n c) = true) (h : V2 r (.slice a n c) v) : ∃ a' c', v = .slice a' n c' ∧ OA r a a' := by
  cases a with
  | none =>
    obtain ⟨-, rfl⟩ := h
    exact ⟨_, _, rfl, rfl⟩
  | some p =>
    obtain ⟨b, c', rfl, hb, -⟩ := h
    exact ⟨_, _, rfl, b, rfl, hb.ar (fixB_or hf)⟩
theorem sr_copy {r : List Nat} {u v x y : Value} (ts : Array TypeId) (T : TypeId) (hfu : fixB u = true) (hfx : fixB x = true) (h : V2 r u v) (hx : V2 r x y) : SR P V2 r (Builtin.copy_ ts T #[u, x]) (Builtin.copy_ ts T #[v, y]) := by
  unfold Builtin.copy_
  cases ts[0]? with
  | none => trivial
  | some t =>
    try dsimp only [List.getElem?_toArray, List.getElem?_cons_zero]
    refine SR.self (self_underlying t) fun r1 d he hd => ?_
    have h := h.ext he
    have hx := hx.ext he
    clear he
    cases d with
    | slice e =>
      cases u with
      | slice a n c =>
        obtain ⟨a', c', rfl, ha⟩ := slice_OA hfu h
        refine SR.then (sr_lenOf hx) fun r2 k k' he hk => ?_
        subst hk
        refine SR.self (self_sizeOf e) fun r3 z he3 _ => ?_
        refine SR.then (sr_firstCells z _ hfx ((hx.ext he).ext he3)) fun r4 cs cs' he4 hcs => ?_
        clear h
        cases a with
        | none =>
          have ha : a' = none := ha
          subst ha
          exact SR.ret ⟨rfl, rfl⟩
        | some p =>
          obtain ⟨q, rfl, hq⟩ := ha
          exact SR.then (sr_storeCells cs.toList 0 (((hq.ext he).ext he3).ext he4) (by simpa using hcs)) fun _ _ _ _ _ => SR.ret ⟨rfl, rfl⟩
      | _ => trivial
    | _ => trivial
end
end Go.Sx
