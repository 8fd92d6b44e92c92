/-
  RUNS RECKONED AHEAD: structs compared field by field, in the code's own order; slices among the fields by a letter that their own comparison answers. By an AI agent.
-/
import Derived.Test.YtpejbfdmiinokaaSyW
namespace Go.Sx
open Go.RowKit
/-- two bools compared -/
abbrev BB (x y : Value) : Value := .iface 968 (.agg ⟨[x, y]⟩)
theorem de_bb {ρ : Nat → Value} {W : World} {a b : Nat} {p q y : Bool} (hd : @De (thOf ρ W) (BB (L 8 a) (L 8 b)) (.bool y)) (hp : ρ a = .bool p) (hq : ρ b = .bool q) : y = true ↔ p = q := by
  have h1 := de_dn hd
  have e1 : dn ρ (L 8 a) = .bool p := by rw [dn_let' (by decide) (by rw [hp]; exact rfl), hp]
  have e2 : dn ρ (L 8 b) = .bool q := by rw [dn_let' (by decide) (by rw [hq]; exact rfl), hq]
  have h2 : dn ρ (BB (L 8 a) (L 8 b)) = .bool (p == q) := by
    rw [dn_two, e1, e2]
    have : sem2 (968 / 16) (.bool p) (.bool q) = some (.bool (p == q)) := by simp [sem2, bOf]
    rw [this]
    exact fit_eq (v := .bool (p == q)) rfl
  rw [h2] at h1
  injection h1 with h1
  rw [← h1]
  simp
/-- one cell compared: its tag, its number, whether by '!=' -/
structure It where
  g : Nat
  i : Nat
  ng : Bool
/-- the comparison's tree, for a piece -/
def eqTo (a b s : Nat) (t f : TP) : List It → TP
  | [] => t
  | x :: l => match x.g with
    | 8 => .n (BB (L 8 (a + x.i)) (L 8 (b + x.i))) (eqTo a b s t f l) f
    | 10 => .n (L 8 (s + x.i)) (eqTo a b s t f l) f
    | g => match x.ng with
      | true => .n (B (bc .neq 8) (L g (a + x.i)) (L g (b + x.i))) f (eqTo a b s t f l)
      | false => .n (B (bc .eql 8) (L g (a + x.i)) (L g (b + x.i))) (eqTo a b s t f l) f
/-- the same, for a whole call; z: its answer where all agree -/
def eq3 (a b s : Nat) (z : Value) : List It → T3
  | [] => .l z
  | x :: l => match x.g with
    | 8 => .n (BB (L 8 (a + x.i)) (L 8 (b + x.i))) (eq3 a b s z l) (.l (.bool false))
    | 10 => .n (L 8 (s + x.i)) (eq3 a b s z l) (.l (.bool false))
    | g => match x.ng with
      | true => .n (B (bc .neq 8) (L g (a + x.i)) (L g (b + x.i))) (.l (.bool false)) (eq3 a b s z l)
      | false => .n (B (bc .eql 8) (L g (a + x.i)) (L g (b + x.i))) (eq3 a b s z l) (.l (.bool false))
/-- a cell agrees -/
def It.Ag (ρ : Nat → Value) (a b s : Nat) (x : It) : Prop := if x.g = 10 then ρ (s + x.i) = .bool true else ρ (a + x.i) = ρ (b + x.i)
/-- the letters are as the cells' tags say -/
def It.Ok (ρ : Nat → Value) (a b s : Nat) (x : It) : Prop := x.g ≤ 10 ∧ if x.g = 10 then ∃ q, ρ (s + x.i) = .bool q else hasTag x.g (ρ (a + x.i)) ∧ hasTag x.g (ρ (b + x.i))
section
variable {ρ : Nat → Value} {W : World} {a b s : Nat}
/-- what one test says -/
theorem It.test {x : It} (ho : x.Ok ρ a b s) (h8 : x.g ≠ 8) (h10 : x.g ≠ 10) (ng : Bool) {y : Bool} (hd : @De (thOf ρ W) (B (bc (if ng then .neq else .eql) 8) (L x.g (a + x.i)) (L x.g (b + x.i))) (.bool y)) : (y = !ng ↔ x.Ag ρ a b s) := by
  obtain ⟨h1, h2⟩ := ho
  rw [if_neg h10] at h2
  have hg0 : x.g ≤ 7 ∨ x.g = 9 := by omega
  have hg16 : x.g < 16 := by omega
  have hA : x.Ag ρ a b s ↔ ρ (a + x.i) = ρ (b + x.i) := by unfold It.Ag; rw [if_neg h10]
  rw [hA]
  cases ng with
  | false =>
    obtain ⟨c, hc, hiff⟩ := sBin_eql hg0 h2.1 h2.2
    have e := de_test (op := .eql) hd (by rw [dn_let' hg16 h2.1, dn_let' hg16 h2.2]; exact hc)
    rw [e]
    exact hiff
  | true =>
    obtain ⟨c, hc, hiff⟩ := sBin_neq hg0 h2.1 h2.2
    have e := de_test (op := .neq) hd (by rw [dn_let' hg16 h2.1, dn_let' hg16 h2.2]; exact hc)
    rw [e]
    exact hiff
theorem It.bool8 {x : It} (ho : x.Ok ρ a b s) (h8 : x.g = 8) : ∃ p q, ρ (a + x.i) = .bool p ∧ ρ (b + x.i) = .bool q ∧ (x.Ag ρ a b s ↔ p = q) := by
  obtain ⟨h1, h2⟩ := ho
  rw [if_neg (by omega), h8] at h2
  obtain ⟨p, hp⟩ := hasTag_bool h2.1
  obtain ⟨q, hq⟩ := hasTag_bool h2.2
  refine ⟨p, q, hp, hq, ?_⟩
  unfold It.Ag
  rw [if_neg (by omega), hp, hq]
  simp
theorem It.slice10 {x : It} (ho : x.Ok ρ a b s) (h10 : x.g = 10) : ∃ q, ρ (s + x.i) = .bool q ∧ (x.Ag ρ a b s ↔ q = true) := by
  obtain ⟨h1, h2⟩ := ho
  rw [if_pos h10] at h2
  obtain ⟨q, hq⟩ := h2
  refine ⟨q, hq, ?_⟩
  unfold It.Ag
  rw [if_pos h10, hq]
  simp
theorem eqTo_sem {X : Nat → (Nat → Value) → Prop} {t f : TP} : ∀ (l : List It), (∀ x ∈ l, x.Ok ρ a b s) → ((∀ x ∈ l, x.Ag ρ a b s) → t.Sem ρ W X) → (¬ (∀ x ∈ l, x.Ag ρ a b s) → f.Sem ρ W X) → (eqTo a b s t f l).Sem ρ W X
  | [], _, h1, _ => h1 (fun x h => by cases h)
  | x :: l, ho, h1, h0 => by
    have hx := ho x List.mem_cons_self
    have rest : x.Ag ρ a b s → (eqTo a b s t f l).Sem ρ W X := fun hg => eqTo_sem l (fun y hy => ho y (List.mem_cons_of_mem _ hy)) (fun h => h1 (fun y hy => by
      rcases List.mem_cons.1 hy with rfl | hy
      · exact hg
      · exact h y hy)) (fun h => h0 fun hh => h fun y hy => hh y (List.mem_cons_of_mem _ hy))
    have other : ¬ x.Ag ρ a b s → f.Sem ρ W X := fun hg => h0 fun h => hg (h x List.mem_cons_self)
    unfold eqTo
    split
    · rename_i h8
      obtain ⟨p, q, hp, hq, hA⟩ := It.bool8 hx h8
      refine ⟨fun hd => ?_, fun hd => ?_⟩ <;> have e1 := de_bb hd hp hq
      · exact rest (hA.2 (e1.1 rfl))
      · exact other (fun h => by have := e1.2 (hA.1 h); cases this)
    · rename_i h10
      obtain ⟨q, hq, hA⟩ := It.slice10 hx h10
      refine ⟨fun hd => ?_, fun hd => ?_⟩ <;> have e1 := de_bool hd hq <;> subst e1
      · exact rest (hA.2 rfl)
      · exact other (fun h => by have := hA.1 h; cases this)
    · rename_i h8 h10
      split
      · refine ⟨fun hd => ?_, fun hd => ?_⟩
        · have := It.test (ng := true) hx (fun e => h8 e) (fun e => h10 e) hd
          exact other (fun h => by have := this.2 h; cases this)
        · have := It.test (ng := true) hx (fun e => h8 e) (fun e => h10 e) hd
          exact rest (this.1 rfl)
      · refine ⟨fun hd => ?_, fun hd => ?_⟩
        · have := It.test (ng := false) hx (fun e => h8 e) (fun e => h10 e) hd
          exact rest (this.1 rfl)
        · have := It.test (ng := false) hx (fun e => h8 e) (fun e => h10 e) hd
          exact other (fun h => by have := this.2 h; cases this)
theorem eq3_out {X z : Value} {Z : Prop} (hz : (∃ r, @V3 (thOf ρ W) r z X) → ∃ q, X = .bool q ∧ (q = true ↔ Z)) : ∀ (l : List It), (∀ x ∈ l, x.Ok ρ a b s) → @T3.Out (thOf ρ W) (eq3 a b s z l) X → ∃ q, X = .bool q ∧ (q = true ↔ (∀ x ∈ l, x.Ag ρ a b s) ∧ Z)
  | [], _, h => by
    obtain ⟨q, h1, h2⟩ := hz h
    exact ⟨q, h1, h2.trans ⟨fun h => ⟨fun x hx => (by cases hx), h⟩, fun h => h.2⟩⟩
  | x :: l, ho, h => by
    have hx := ho x List.mem_cons_self
    have rest : x.Ag ρ a b s → @T3.Out (thOf ρ W) (eq3 a b s z l) X → ∃ q, X = .bool q ∧ (q = true ↔ (∀ y ∈ x :: l, y.Ag ρ a b s) ∧ Z) := fun hg ht => by
      obtain ⟨q, h1, h2⟩ := eq3_out hz l (fun y hy => ho y (List.mem_cons_of_mem _ hy)) ht
      refine ⟨q, h1, h2.trans ⟨fun h => ⟨fun y hy => ?_, h.2⟩, fun h => ⟨fun y hy => h.1 y (List.mem_cons_of_mem _ hy), h.2⟩⟩⟩
      rcases List.mem_cons.1 hy with rfl | hy
      · exact hg
      · exact h.1 y hy
    have other : ¬ x.Ag ρ a b s → @T3.Out (thOf ρ W) (.l (.bool false)) X → ∃ q, X = .bool q ∧ (q = true ↔ (∀ y ∈ x :: l, y.Ag ρ a b s) ∧ Z) := fun hg ht => by
      obtain ⟨r, ht⟩ := ht
      exact ⟨false, @still3_eq (thOf ρ W) _ _ _ ht rfl, fun h => (by cases h), fun h => absurd (h.1 x List.mem_cons_self) hg⟩
    unfold eq3 at h
    split at h
    · rename_i h8
      obtain ⟨p, q, hp, hq, hA⟩ := It.bool8 hx h8
      rcases h with ⟨hd, h⟩ | ⟨hd, h⟩ <;> have e1 := de_bb hd hp hq
      · exact rest (hA.2 (e1.1 rfl)) h
      · exact other (fun h => by have := e1.2 (hA.1 h); cases this) h
    · rename_i h10
      obtain ⟨q, hq, hA⟩ := It.slice10 hx h10
      rcases h with ⟨hd, h⟩ | ⟨hd, h⟩ <;> have e1 := de_bool hd hq <;> subst e1
      · exact rest (hA.2 rfl) h
      · exact other (fun h => by have := hA.1 h; cases this) h
    · rename_i h8 h10
      split at h
      · rcases h with ⟨hd, h⟩ | ⟨hd, h⟩
        · have := It.test (ng := true) hx (fun e => h8 e) (fun e => h10 e) hd
          exact other (fun h => by have := this.2 h; cases this) h
        · have := It.test (ng := true) hx (fun e => h8 e) (fun e => h10 e) hd
          exact rest (this.1 rfl) h
      · rcases h with ⟨hd, h⟩ | ⟨hd, h⟩
        · have := It.test (ng := false) hx (fun e => h8 e) (fun e => h10 e) hd
          exact rest (this.1 rfl) h
        · have := It.test (ng := false) hx (fun e => h8 e) (fun e => h10 e) hd
          exact other (fun h => by have := this.2 h; cases this) h
/-- a call on two letters that are slices (and a function, perhaps), answered by a letter -/
structure Ent where
  f : FuncId
  x : Option FuncId
  p : Nat
  q : Nat
  s : Nat
def extA : Option FuncId → List Value
  | none => []
  | some g => [.func (.func g) #[] #[]]
def oEq : Option FuncId → Option FuncId → Bool
  | none, none => true
  | some a, some b => Nat.beq a b
  | _, _ => false
theorem oEq_eq : ∀ {a b : Option FuncId}, oEq a b = true → a = b
  | none, none, _ => rfl
  | some _, some _, h => by rw [Nat.eq_of_beq_eq_true h]
  | none, some _, h => by cases h
  | some _, none, h => by cases h
def findE : List Ent → FuncId → Option FuncId → Int → Int → Option Nat
  | [], _, _, _, _ => none
  | e :: l, f, g, x, y => match Nat.beq e.f f, oEq e.x g, decide (x = (e.p : Int)), decide (y = (e.q : Int)) with
    | true, true, true, true => some e.s
    | _, _, _, _ => findE l f g x y
theorem findE_mem : ∀ {l : List Ent} {f : FuncId} {g : Option FuncId} {x y : Int} {s : Nat}, findE l f g x y = some s → ∃ e ∈ l, e.f = f ∧ e.x = g ∧ x = (e.p : Int) ∧ y = (e.q : Int) ∧ e.s = s
  | [], _, _, _, _, _, h => by cases h
  | e :: l, f, g, x, y, s, h => by
    unfold findE at h
    split at h
    · rename_i h1 h0 h2 h3
      injection h with h
      exact ⟨e, List.mem_cons_self, Nat.eq_of_beq_eq_true h1, oEq_eq h0, of_decide_eq_true h2, of_decide_eq_true h3, h⟩
    · obtain ⟨e, h1, h2⟩ := findE_mem h
      exact ⟨e, List.mem_cons_of_mem _ h1, h2⟩
/-- what stands behind the two slices -/
def restOf : List Value → Option (Option FuncId)
  | [] => some none
  | [.func (.func g) ⟨[]⟩ ⟨[]⟩] => some (some g)
  | _ => none
def envEnts (l : List Ent) : EnvF := fun f args m => match args with
  | ⟨.iface 10 (.int .u64 x) :: .iface 10 (.int .u64 y) :: rest⟩ => match restOf rest with
    | some g => match findE l f g x y with
      | some s => some (L 8 s, m)
      | none => none
    | none => none
  | _ => none
theorem restOf_args [Th] {r : List Nat} {rest : List Value} {g : Option FuncId} {l : List Value} (h : restOf rest = some g) (hl : All (V2 r) rest.toArray l.toArray) : l = extA g := by
  unfold restOf at h
  split at h
  · injection h with h
    subst h
    show l = []
    simpa using hl.1.symm
  · rename_i g'
    injection h with h
    subst h
    obtain ⟨z, l2, e, hx, hl2⟩ := hl.cons
    have : l2 = [] := by simpa using hl2.1.symm
    subst this
    obtain ⟨a, b, rfl, ha, hb⟩ := hx
    have e1 : a = #[] := Array.eq_empty_of_size_eq_zero ha.1.symm
    have e2 : b = #[] := Array.eq_empty_of_size_eq_zero hb.1.symm
    subst e1 e2
    exact congrArg Array.toList e
  · cases h
theorem envEnts_ok {P : Program} {G : Nat} {l : List Ent} (h : ∀ e ∈ l, hasTag 10 (ρ e.p) ∧ hasTag 10 (ρ e.q) ∧ (∃ q, ρ e.s = .bool q) ∧ ∀ w, Below W.heap.size W w → Calls P e.f (ρ e.p :: ρ e.q :: extA e.x).toArray w fun X w' => X = .returned (ρ e.s) ∧ Below w.heap.size w w') :
    @EnvOk (thOf ρ W) P G W (envEnts l) := by
  letI := thOf ρ W
  intro f args m v m' e r w args' ha hw hB
  unfold envEnts at e
  split at e
  · rename_i x y rest
    split at e
    · rename_i g hg
      split at e
      · rename_i s hs
        injection e with e
        injection e with e1 e2
        subst e1 e2
        obtain ⟨en, hm, rfl, rfl, rfl, rfl, rfl⟩ := findE_mem hs
        obtain ⟨t1, t2, ⟨q, hq⟩, hc⟩ := h en hm
        have e1 : args' = (ρ en.p :: ρ en.q :: extA en.x).toArray := by
          obtain ⟨z1, l2, e, hx, hl⟩ := (show All (V2 r) (Value.iface 10 (.int .u64 (en.p : Int)) :: .iface 10 (.int .u64 (en.q : Int)) :: rest).toArray args' from ha).cons
          obtain ⟨z2, l3, e', hy, hl3⟩ := hl.cons
          have k1 : z1 = ρ en.p := by
            have h1 : z1 = dn ρ (L 10 en.p) := hx
            rw [h1]
            exact dn_let' (by decide) t1
          have k2 : z2 = ρ en.q := by
            have h1 : z2 = dn ρ (L 10 en.q) := hy
            rw [h1]
            exact dn_let' (by decide) t2
          have e4 : l2 = z2 :: l3 := congrArg Array.toList e'
          rw [e, e4, k1, k2, restOf_args hg hl3]
        subst e1
        refine (hc w hw.low).mono ?_
        rintro X w' ⟨rfl, hb⟩
        refine ⟨_, r, rfl, ?_, hw.below hb⟩
        show V3 r (L 8 en.s) (ρ en.s)
        have := let_de (ρ := ρ) (W := W) (g := 8) (i := en.s) (by decide) (by rw [hq]; exact rfl)
        exact this
      · cases e
    · cases e
  · cases e
theorem RowAt.below {gs : List Nat} {x : Value} {rows : List (List Value)} (h : RowAt W gs x rows) {w : World} (hb : Below W.heap.size W w) : RowAt w gs x rows := by
  obtain ⟨p, c, h1, h2, h3, h4⟩ := h
  refine ⟨p, c, h1, h2, h3, fun A hA => ⟨(h4 A hA).1, fun k row hk => ?_⟩⟩
  obtain ⟨g1, g2, g3⟩ := (h4 A hA).2 k row hk
  refine ⟨g1, Nat.lt_of_lt_of_le g2 hb.size, fun j g hg => ?_⟩
  obtain ⟨v, v1, v2, v3⟩ := g3 j g hg
  refine ⟨v, v1, v2, ?_⟩
  have hblk : ((A.add (k * gs.length)).add j).block < W.heap.size := by
    obtain ⟨e1, -, -⟩ := add_eq (A.add (k * gs.length)) (spot_add A _ ((h4 A hA).1 (Nat.lt_of_le_of_lt (Nat.zero_le k) (List.getElem?_eq_some_iff.1 hk).1))) j
    rw [e1]
    exact g2
  rw [← v3]
  unfold World.cell?
  rw [hb.block _ hblk]
/-- cells with their tags -/
def Tags (gs : List Nat) (xs : List Value) : Prop := xs.length = gs.length ∧ ∀ (j : Nat) g, gs[j]? = some g → ∃ v, xs[j]? = some v ∧ hasTag g v
open Classical in
/-- the letters of two structs compared -/
noncomputable def rhoS (xa xb : List Value) (sl : Nat → Prop) (i : Nat) : Value := if i < 1000 then undef else if i < 2000 then (xa[i - 1000]?).getD undef else if i < 3000 then (xb[i - 2000]?).getD undef else .bool (decide (sl (i - 3000)))
def itOk (gs : List Nat) (x : It) : Bool := match gs[x.i]? with
  | some g => Nat.beq g x.g && Nat.ble g 10
  | none => false
def endV : Option Nat → Value
  | none => .bool true
  | some i => L 8 (3000 + i)
def endP (sl : Nat → Prop) : Option Nat → Prop
  | none => True
  | some i => sl i
theorem rhoS_a {xa xb : List Value} {sl : Nat → Prop} {j : Nat} (h : j < 1000) : rhoS xa xb sl (1000 + j) = (xa[j]?).getD undef := by
  unfold rhoS
  rw [if_neg (by omega), if_pos (by omega), Nat.add_sub_cancel_left]
theorem rhoS_b {xa xb : List Value} {sl : Nat → Prop} {j : Nat} (h : j < 1000) : rhoS xa xb sl (2000 + j) = (xb[j]?).getD undef := by
  unfold rhoS
  rw [if_neg (by omega), if_neg (by omega), if_pos (by omega), Nat.add_sub_cancel_left]
open Classical in
theorem rhoS_s {xa xb : List Value} {sl : Nat → Prop} {j : Nat} : rhoS xa xb sl (3000 + j) = .bool (decide (sl j)) := by
  unfold rhoS
  rw [if_neg (by omega), if_neg (by omega), if_neg (by omega), Nat.add_sub_cancel_left]
theorem letR_all {ρ : Nat → Value} {W : World} {gs : List Nat} {xs : List Value} {a : Nat} {r : List Nat} (h : Tags gs xs) (hg : ∀ g ∈ gs, g < 16) (hρ : ∀ j, j < gs.length → ρ (a + j) = (xs[j]?).getD undef) : @All (@V1 (thOf ρ W) r) ⟨letR gs a⟩ ⟨xs⟩ := by
  letI := thOf ρ W
  have hlen : ∀ (gs : List Nat) a, (letR gs a).length = gs.length := by
    intro gs
    induction gs with
    | nil => intro a; rfl
    | cons g l ih => intro a; simp [letR, ih]
  refine ⟨by simp [hlen, h.1], fun i u v hu hv => ?_⟩
  have hu : (letR gs a)[i]? = some u := by simpa using hu
  have hv : xs[i]? = some v := by simpa using hv
  obtain ⟨g, hgi, rfl⟩ := letR_get gs a i u hu
  obtain ⟨v', h1, h2⟩ := h.2 i g hgi
  rw [hv] at h1
  injection h1 with h1
  subst h1
  have hi := (List.getElem?_eq_some_iff.1 hgi).1
  have e : ρ (a + i) = v := by rw [hρ i hi, hv]; rfl
  have := let_de (ρ := ρ) (W := W) (g := g) (i := a + i) (hg g (List.mem_of_getElem? hgi)) (by rw [e]; exact h2)
  rw [e] at this
  exact this
theorem items_ok {gs : List Nat} {items : List It} (hit : items.all (itOk gs) = true) (hgs : gs.length < 1000) {xa xb : List Value} (ta : Tags gs xa) (tb : Tags gs xb) (sl : Nat → Prop) :
    (∀ x ∈ items, x.Ok (rhoS xa xb sl) 1000 2000 3000) ∧ ∀ x ∈ items, (x.Ag (rhoS xa xb sl) 1000 2000 3000 ↔ if x.g = 10 then sl x.i else xa[x.i]? = xb[x.i]?) := by
  let ρ := rhoS xa xb sl
  have hA : ∀ j, j < gs.length → ρ (1000 + j) = (xa[j]?).getD undef := fun j hj => rhoS_a (by omega)
  have hB : ∀ j, j < gs.length → ρ (2000 + j) = (xb[j]?).getD undef := fun j hj => rhoS_b (by omega)
  have hS : ∀ j, ∃ q, ρ (3000 + j) = .bool q ∧ (q = true ↔ sl j) := fun j => ⟨_, rhoS_s, by simp⟩
  have ok : ∀ x ∈ items, x.Ok ρ 1000 2000 3000 := fun x hx => by
    have h := List.all_eq_true.1 hit x hx
    unfold itOk at h
    split at h
    · rename_i g hg
      rw [Bool.and_eq_true] at h
      have e1 := Nat.eq_of_beq_eq_true h.1
      have e2 := Nat.le_of_ble_eq_true h.2
      subst e1
      refine ⟨e2, ?_⟩
      have hi := (List.getElem?_eq_some_iff.1 hg).1
      split
      · obtain ⟨q, hq, -⟩ := hS x.i
        exact ⟨q, hq⟩
      · obtain ⟨v1, g1, g2⟩ := ta.2 x.i x.g hg
        obtain ⟨v2, g3, g4⟩ := tb.2 x.i x.g hg
        rw [hA x.i hi, hB x.i hi, g1, g3]
        exact ⟨g2, g4⟩
    · cases h
  have ag : ∀ x ∈ items, (x.Ag ρ 1000 2000 3000 ↔ if x.g = 10 then sl x.i else xa[x.i]? = xb[x.i]?) := fun x hx => by
    have h := List.all_eq_true.1 hit x hx
    unfold itOk at h
    split at h
    · rename_i g hg
      rw [Bool.and_eq_true] at h
      have e1 := Nat.eq_of_beq_eq_true h.1
      subst e1
      have hi := (List.getElem?_eq_some_iff.1 hg).1
      obtain ⟨v1, g1, g2⟩ := ta.2 x.i x.g hg
      obtain ⟨v2, g3, g4⟩ := tb.2 x.i x.g hg
      unfold It.Ag
      split
      · obtain ⟨q, hq, hq2⟩ := hS x.i
        rw [hq, ← hq2]
        simp
      · rw [hA x.i hi, hB x.i hi, g1, g3]
        simp
    · cases h
  exact ⟨ok, ag⟩
/-- TWO STRUCTS COMPARED by a function without loops; what the slices' own comparisons answer is told by env -/
theorem structEq0 {P : Program} {G : Nat} (hN : NoGo P) (hM : P.follows .mixedOrders = true) {l : List Bk} {f : FuncId} {gs : List Nat} {items : List It} {env : EnvF} {zi : Option Nat} {n : Nat}
    (hc : chk (runF P G (fun _ => env) [] n l f #[.agg ⟨letR gs 1000⟩, .agg ⟨letR gs 2000⟩]) (eq3 1000 2000 3000 (endV zi) items) [] = true) (hit : items.all (itOk gs) = true) (hgs : gs.length < 1000 ∧ ∀ g ∈ gs, g < 16)
    {xa xb : List Value} (ta : Tags gs xa) (tb : Tags gs xb) (sl : Nat → Prop) (henv : @EnvOk (thOf (rhoS xa xb sl) W) P G W env) (hKn : Knows G l W) :
    Calls P f #[.agg ⟨xa⟩, .agg ⟨xb⟩] W fun e w' => ∃ q, e = .returned (.bool q) ∧ (q = true ↔ (∀ x ∈ items, if x.g = 10 then sl x.i else xa[x.i]? = xb[x.i]?) ∧ endP sl zi) ∧ Below W.heap.size W w' := by
  let ρ := rhoS xa xb sl
  have hA : ∀ j, j < gs.length → ρ (1000 + j) = (xa[j]?).getD undef := fun j hj => rhoS_a (by omega)
  have hB : ∀ j, j < gs.length → ρ (2000 + j) = (xb[j]?).getD undef := fun j hj => rhoS_b (by omega)
  have hS : ∀ j, ∃ q, ρ (3000 + j) = .bool q ∧ (q = true ↔ sl j) := fun j => ⟨_, rhoS_s, by simp⟩
  letI := thOf ρ W
  haveI := ts_of ρ W
  haveI := at_of ρ W
  refine (reckonedO n hN hM (T := eq3 1000 2000 3000 (endV zi) items) (F := []) (M := []) (env := fun _ => env) (l := l) hc (fun p h => (by cases h)) (fun p h => (by cases h)) W (args' := #[.agg ⟨xa⟩, .agg ⟨xb⟩]) ?_ (fun F hF => henv) hKn).mono ?_
  · have h0 : V2 (List.range G) (.agg ⟨letR gs 1000⟩) (.agg ⟨xa⟩) := ⟨_, rfl, letR_all ta hgs.2 hA⟩
    have h1 : V2 (List.range G) (.agg ⟨letR gs 2000⟩) (.agg ⟨xb⟩) := ⟨_, rfl, letR_all tb hgs.2 hB⟩
    exact (All.nil.push h0).push h1
  · rintro e w' ⟨X, rfl, h1, h2⟩
    obtain ⟨ok, ag⟩ := items_ok hit hgs.1 ta tb sl
    obtain ⟨q, rfl, hq⟩ := eq3_out (Z := endP sl zi) (fun ⟨r, hz⟩ => by
      cases zi with
      | none => exact ⟨true, still3_eq hz rfl, by simp [endP]⟩
      | some i =>
        obtain ⟨q, hq, hq2⟩ := hS i
        refine ⟨q, ?_, hq2⟩
        have h1 : X = dn ρ (L 8 (3000 + i)) := hz
        rw [h1, dn_let' (by decide) (by rw [hq]; exact rfl), hq]) items ok h1
    refine ⟨q, rfl, hq.trans ⟨fun h => ⟨fun x hx => (ag x hx).1 (h.1 x hx), h.2⟩, fun h => ⟨fun x hx => (ag x hx).2 (h.1 x hx), h.2⟩⟩, h2⟩
/-- TWO STRUCTS COMPARED by a function without loops: the slices among the fields by their own comparisons -/
theorem structEq {P : Program} {G : Nat} (hN : NoGo P) (hM : P.follows .mixedOrders = true) {l : List Bk} {f : FuncId} {gs : List Nat} {items : List It} {ents : List Ent} {zi : Option Nat} {n : Nat}
    (hc : chk (runF P G (fun _ => envEnts ents) [] n l f #[.agg ⟨letR gs 1000⟩, .agg ⟨letR gs 2000⟩]) (eq3 1000 2000 3000 (endV zi) items) [] = true) (hit : items.all (itOk gs) = true) (hgs : gs.length < 1000 ∧ ∀ g ∈ gs, g < 16)
    {xa xb : List Value} (ta : Tags gs xa) (tb : Tags gs xb) (sl : Nat → Prop)
    (hent : ∀ e ∈ ents, ∃ i va vb, e = ⟨e.f, e.x, 1000 + i, 2000 + i, 3000 + i⟩ ∧ gs[i]? = some 10 ∧ xa[i]? = some va ∧ xb[i]? = some vb ∧ ∀ w, Below W.heap.size W w → Calls P e.f (va :: vb :: extA e.x).toArray w fun X w' => ∃ q, X = .returned (.bool q) ∧ (q = true ↔ sl i) ∧ Below w.heap.size w w')
    (hKn : Knows G l W) :
    Calls P f #[.agg ⟨xa⟩, .agg ⟨xb⟩] W fun e w' => ∃ q, e = .returned (.bool q) ∧ (q = true ↔ (∀ x ∈ items, if x.g = 10 then sl x.i else xa[x.i]? = xb[x.i]?) ∧ endP sl zi) ∧ Below W.heap.size W w' := by
  let ρ := rhoS xa xb sl
  have hA : ∀ j, j < gs.length → ρ (1000 + j) = (xa[j]?).getD undef := fun j hj => rhoS_a (by omega)
  have hB : ∀ j, j < gs.length → ρ (2000 + j) = (xb[j]?).getD undef := fun j hj => rhoS_b (by omega)
  have hS : ∀ j, ∃ q, ρ (3000 + j) = .bool q ∧ (q = true ↔ sl j) := fun j => ⟨_, rhoS_s, by simp⟩
  have env : @EnvOk (thOf ρ W) P G W (envEnts ents) := by
    refine envEnts_ok fun e he => ?_
    obtain ⟨i, va, vb, he1, hg, h1, h2, hcall⟩ := hent e he
    have hi := (List.getElem?_eq_some_iff.1 hg).1
    obtain ⟨q, hq, hq2⟩ := hS i
    have ep : e.p = 1000 + i := congrArg Ent.p he1
    have eq : e.q = 2000 + i := congrArg Ent.q he1
    have es : e.s = 3000 + i := congrArg Ent.s he1
    have va' : ρ e.p = va := by rw [ep, hA i hi, h1]; rfl
    have vb' : ρ e.q = vb := by rw [eq, hB i hi, h2]; rfl
    obtain ⟨v1, g1, g2⟩ := ta.2 i 10 hg
    obtain ⟨v2, g3, g4⟩ := tb.2 i 10 hg
    rw [h1] at g1
    rw [h2] at g3
    injection g1 with g1
    injection g3 with g3
    subst g1 g3
    refine ⟨by rw [va']; exact g2, by rw [vb']; exact g4, ⟨q, by rw [es, hq]⟩, fun w hw => ?_⟩
    rw [va', vb', es, hq]
    refine (hcall w hw).mono ?_
    rintro X w' ⟨q', rfl, hq', hb⟩
    refine ⟨?_, hb⟩
    rw [Bool.eq_iff_iff.2 (hq'.trans hq2.symm)]
  exact structEq0 hN hM hc hit hgs ta tb sl env hKn
end
end Go.Sx
