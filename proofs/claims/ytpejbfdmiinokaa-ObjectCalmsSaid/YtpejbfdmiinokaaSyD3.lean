/-
  RUNS RECKONED AHEAD: what terms say of the letters' values; rows of structs among the arguments. By an AI agent.
-/
import Derived.Test.YtpejbfdmiinokaaSyS
namespace Go.Sx
open Go.RowKit
section
variable {ρ : Nat → Value} {W : World}
theorem dn_let' {g i : Nat} (hg : g < 16) (h : hasTag g (ρ i)) : dn ρ (L g i) = ρ i := by
  show dn ρ (.iface g (.int .u64 (.ofNat i))) = ρ i
  rw [dn_let, Nat.mod_eq_of_lt hg]
  exact fit_eq h
theorem de_of {x X : Value} (h : dn ρ x = X) (k : isTok x = true) : @De (thOf ρ W) x X := by
  cases x with
  | iface c u => exact Eq.symm h
  | _ => cases k
theorem dn_bop (op : BinOp) {g : Nat} (hg : g ≤ 11) {x y R : Value} (h : sBin op (dn ρ x) (dn ρ y) = some R) (ht : hasTag g R) : dn ρ (B (bc op g) x y) = R := by
  obtain ⟨h1, h2⟩ := bc_div op hg
  show dn ρ (.iface (bc op g) (.agg ⟨[x, y]⟩)) = R
  rw [dn_two, h1, h2]
  unfold sem2
  rw [bOf_bN]
  simp only [h]
  exact fit_eq ht
/-- a test that has come out b -/
theorem de_test {op : BinOp} {x y : Value} {b c : Bool} (hd : @De (thOf ρ W) (B (bc op 8) x y) (.bool b)) (h : sBin op (dn ρ x) (dn ρ y) = some (.bool c)) : b = c := by
  have h1 := de_dn hd
  rw [dn_bop op (by decide) h rfl] at h1
  injection h1 with h1
  exact h1.symm
theorem de_cmp {op : BinOp} (hc : isCmp op = true) {x y : Value} {k : IntKind} {a b : Int} {c : Bool} (hx : dn ρ x = .int k a) (hy : dn ρ y = .int k b) (h : cmpI op a b = c) : @De (thOf ρ W) (B (bc op 8) x y) (.bool c) :=
  de_of (dn_bop op (by decide) (by rw [hx, hy, cmp_sBin hc, h]) rfl) rfl
theorem of_cmp {op : BinOp} (hc : isCmp op = true) {x y : Value} {k : IntKind} {a b : Int} {c : Bool} (hx : dn ρ x = .int k a) (hy : dn ρ y = .int k b) (h : @De (thOf ρ W) (B (bc op 8) x y) (.bool c)) : cmpI op a b = c := by
  have := @De.one (thOf ρ W) _ _ _ (de_cmp (W := W) hc hx hy rfl) h
  injection this with this
  exact this.symm
theorem sBin_eql {g : Nat} {X Y : Value} (hg : g ≤ 7 ∨ g = 9) (hX : hasTag g X) (hY : hasTag g Y) : ∃ c, sBin .eql X Y = some (.bool c) ∧ (c = true ↔ X = Y) := by
  rcases hg with hg | rfl
  · obtain ⟨k, a, rfl, hk⟩ := hasTag_int hX hg
    obtain ⟨k', a', rfl, hk'⟩ := hasTag_int hY hg
    have := kN_inj (hk.trans hk'.symm)
    subst this
    refine ⟨_, cmp_sBin rfl k a a', ?_⟩
    simp [cmpI]
  · obtain ⟨s, rfl, -⟩ := hasTag_str hX
    obtain ⟨s', rfl, -⟩ := hasTag_str hY
    refine ⟨_, rfl, ?_⟩
    constructor
    · intro h
      have := eq_of_beq h
      rw [Go.Lib.toList_data, Go.Lib.toList_data] at this
      exact congrArg Value.string (ByteArray.ext (Array.ext' this))
    · intro h
      injection h with h
      rw [h]
      simp
/-- the letters of a row -/
def letR : List Nat → Nat → List Value
  | [], _ => []
  | g :: l, a => L g a :: letR l (a + 1)
theorem letR_get : ∀ (gs : List Nat) (a j : Nat) (u : Value), (letR gs a)[j]? = some u → ∃ g, gs[j]? = some g ∧ u = L g (a + j)
  | [], _, _, _, h => by simp [letR] at h
  | g :: gs, a, 0, u, h => by
    simp [letR] at h
    exact ⟨g, rfl, h.symm⟩
  | g :: gs, a, j + 1, u, h => by
    obtain ⟨g', h1, h2⟩ := letR_get gs (a + 1) j u (by simpa [letR] using h)
    exact ⟨g', by simpa using h1, by rw [h2, Nat.add_assoc, Nat.add_comm 1]⟩
/-- two rows of letters compared -/
def eqT : List Nat → Nat → Nat → TP → TP → TP
  | [], _, _, t, _ => t
  | 8 :: l, a, b, t, f => .n (L 8 a) (.n (L 8 b) (eqT l (a + 1) (b + 1) t f) f) (.n (L 8 b) f (eqT l (a + 1) (b + 1) t f))
  | g :: l, a, b, t, f => .n (B (bc .eql 8) (L g a) (L g b)) (eqT l (a + 1) (b + 1) t f) f
theorem de_bool {a : Nat} {x y : Bool} (h : @De (thOf ρ W) (L 8 a) (.bool y)) (hx : ρ a = .bool x) : x = y := by
  have h1 := de_dn h
  have h2 : dn ρ (L 8 a) = ρ a := dn_let' (by decide) (by rw [hx]; exact rfl)
  rw [h2, hx] at h1
  injection h1
theorem eqT_sem {X : Nat → (Nat → Value) → Prop} {t f : TP} : ∀ (gs : List Nat) (a b : Nat), (∀ g ∈ gs, g ≤ 9) → (∀ (i : Nat) g, gs[i]? = some g → hasTag g (ρ (a + i)) ∧ hasTag g (ρ (b + i))) →
    ((∀ i, i < gs.length → ρ (a + i) = ρ (b + i)) → t.Sem ρ W X) → (¬ (∀ i, i < gs.length → ρ (a + i) = ρ (b + i)) → f.Sem ρ W X) → (eqT gs a b t f).Sem ρ W X
  | [], a, b, _, _, h1, _ => h1 (fun i h => by simp at h)
  | g :: gs, a, b, hg, ht, h1, h0 => by
    have hgm := hg g List.mem_cons_self
    have ht0 : hasTag g (ρ a) ∧ hasTag g (ρ b) := ht 0 g rfl
    have rest : ρ a = ρ b → (eqT gs (a + 1) (b + 1) t f).Sem ρ W X := fun h0e => by
      refine eqT_sem gs (a + 1) (b + 1) (fun g hg' => hg g (List.mem_cons_of_mem _ hg')) (fun i g hi => ?_) (fun hall => h1 ?_) (fun hn => h0 ?_)
      · have := ht (i + 1) g (by simpa using hi)
        rw [show a + (i + 1) = a + 1 + i by omega, show b + (i + 1) = b + 1 + i by omega] at this
        exact this
      · intro i hi
        cases i with
        | zero => exact h0e
        | succ i =>
          have := hall i (by simpa using hi)
          rw [show a + (i + 1) = a + 1 + i by omega, show b + (i + 1) = b + 1 + i by omega]
          exact this
      · intro hall
        refine hn fun i hi => ?_
        have := hall (i + 1) (by simpa using hi)
        rw [show a + (i + 1) = a + 1 + i by omega, show b + (i + 1) = b + 1 + i by omega] at this
        exact this
    have other : ρ a ≠ ρ b → f.Sem ρ W X := fun hne => h0 fun hall => hne (hall 0 (by simp))
    by_cases h8 : g = 8
    · subst h8
      obtain ⟨x, hx⟩ := hasTag_bool ht0.1
      obtain ⟨y, hy⟩ := hasTag_bool ht0.2
      refine ⟨fun hd => ⟨fun hd2 => ?_, fun hd2 => ?_⟩, fun hd => ⟨fun hd2 => ?_, fun hd2 => ?_⟩⟩ <;> have e1 := de_bool hd hx <;> have e2 := de_bool hd2 hy <;> subst e1 e2
      · exact rest (by rw [hx, hy])
      · exact other (by rw [hx, hy]; simp)
      · exact other (by rw [hx, hy]; simp)
      · exact rest (by rw [hx, hy])
    have hg0 : g ≤ 7 ∨ g = 9 := by omega
    have hg16 : g < 16 := by omega
    obtain ⟨c, hc, hiff⟩ := sBin_eql hg0 (X := ρ a) (Y := ρ b) ht0.1 ht0.2
    have hsb : sBin .eql (dn ρ (L g a)) (dn ρ (L g b)) = some (.bool c) := by
      rw [dn_let' hg16 ht0.1, dn_let' hg16 ht0.2]
      exact hc
    have he : eqT (g :: gs) a b t f = .n (B (bc .eql 8) (L g a) (L g b)) (eqT gs (a + 1) (b + 1) t f) f := by
      rw [eqT]
      exact fun h => h8 h
    rw [he]
    refine ⟨fun hd => ?_, fun hd => ?_⟩
    · have e := de_test hd hsb
      subst e
      exact rest (hiff.1 rfl)
    · have e := de_test hd hsb
      subst e
      refine other fun h => ?_
      have := hiff.2 h
      cases this
/-- a slice of rows among the arguments -/
def RowAt (W : World) (gs : List Nat) (s : Value) (rows : List (List Value)) : Prop := ∃ p c, s = .slice p rows.length c ∧ rows.length < 9223372036854775808 ∧ (p = none → rows = []) ∧
  ∀ A, p = some A → (0 < rows.length → A.spot = none) ∧ ∀ (k : Nat) row, rows[k]? = some row → row.length = gs.length ∧ (A.add (k * gs.length)).block < W.heap.size ∧ ∀ (j : Nat) g, gs[j]? = some g → ∃ v, row[j]? = some v ∧ hasTag g v ∧ W.cell? ((A.add (k * gs.length)).add j) = some v
theorem RowAt.tag {gs : List Nat} {s : Value} {rows : List (List Value)} (h : RowAt W gs s rows) : hasTag 10 s := by
  obtain ⟨p, c, rfl, h1, h2, h3⟩ := h
  exact ⟨rfl, h1, fun e => by rw [h2 e]; rfl, fun q e => (h3 q e).1⟩
theorem RowAt.row {gs : List Nat} {s : Value} {rows : List (List Value)} (h : RowAt W gs s rows) {k : Nat} {row : List Value} (hk : rows[k]? = some row) : row.length = gs.length ∧ ∀ (j : Nat) g, gs[j]? = some g → ∃ v, row[j]? = some v ∧ hasTag g v := by
  obtain ⟨p, c, -, h1, h2, h3⟩ := h
  cases p with
  | none =>
    rw [h2 rfl] at hk
    simp at hk
  | some A =>
    obtain ⟨a1, -, a3⟩ := (h3 A rfl).2 k row hk
    exact ⟨a1, fun j g hg => by
      obtain ⟨v, b1, b2, -⟩ := a3 j g hg
      exact ⟨v, b1, b2⟩⟩
/-- the place of an element, and its length -/
abbrev IX (z : Nat) (s i : Value) : Value := .iface (16 * (64 + z) + 11) (.agg ⟨[s, i]⟩)
abbrev LEN (s : Value) : Value := .iface (uc 9 3) s
theorem dn_len {a n c : Nat} {p : Option Addr} (h : ρ a = .slice p n c) (ht : hasTag 10 (ρ a)) : dn ρ (LEN (L 10 a)) = .int .i64 n := by
  have hd := dn_let' (ρ := ρ) (by decide) ht
  show dn ρ (.iface (uc 9 3) (.iface 10 _)) = _
  obtain ⟨h1, h2⟩ := uc_div (o := 9) (g := 3) (by decide)
  rw [dn_un, h1, h2]
  have hd2 : dn ρ (.iface 10 (.int .u64 (.ofNat a))) = .slice p n c := hd.trans h
  rw [hd2]
  rw [h] at ht
  exact fit_eq (v := .int .i64 n) ⟨rfl, by simp [IntKind.min, IntKind.bits, IntKind.signed]; (try (have := ht.2.1; omega)), by simp [IntKind.max, IntKind.bits, IntKind.signed]; have := ht.2.1; omega⟩
theorem RowAt.memB {gs : List Nat} {rows : List (List Value)} {a i b : Nat} {k : Nat} {row : List Value} (h : RowAt W gs (ρ a) rows) (hi : ρ i = .int .i64 (k : Int)) (hk : rows[k]? = some row) (hr : ∀ j, j < gs.length → ρ (b + j) = (row[j]?).getD undef) (hgs : ∀ g ∈ gs, g ≤ 11) :
    ∃ A, @De (thOf ρ W) (IX gs.length (L 10 a) (L 3 i)) (.pointer (some A)) ∧ @CellsAt (thOf ρ W) A (letR gs b) ∧ ∃ p n c, ρ a = .slice (some p) n c ∧ A.block = p.block := by
  have htag := h.tag
  obtain ⟨p, c, hs, h1, h2, h3⟩ := h
  have hlt : k < rows.length := (List.getElem?_eq_some_iff.1 hk).1
  cases p with
  | none =>
    rw [h2 rfl] at hlt
    simp at hlt
  | some A =>
    obtain ⟨hsp, hrow⟩ := h3 A rfl
    have hsp := hsp (by omega)
    obtain ⟨hl, hblk, hcells⟩ := hrow k row hk
    have hti : hasTag 3 (ρ i) := by
      rw [hi]
      exact ⟨rfl, by simp [IntKind.min, IntKind.bits, IntKind.signed]; try omega, by simp [IntKind.max, IntKind.bits, IntKind.signed]; try omega⟩
    have hd : dn ρ (IX gs.length (L 10 a) (L 3 i)) = .pointer (some (A.add (k * gs.length))) := by
      show dn ρ (.iface (16 * (64 + gs.length) + 11) (.agg ⟨[L 10 a, L 3 i]⟩)) = _
      have e1 : (16 * (64 + gs.length) + 11) / 16 = 64 + gs.length := by omega
      have e2 : (16 * (64 + gs.length) + 11) % 16 = 11 := by omega
      rw [dn_two, dn_let' (by decide) htag, dn_let' (by decide) hti, e1, e2, hs, hi]
      unfold sem2
      rw [bOf_none]
      simp only
      rw [if_pos ⟨by omega, by omega, by omega⟩, Nat.add_sub_cancel_left]
      exact fit_eq (v := .pointer (some (A.add (k * gs.length)))) ⟨rfl, spot_add A _ hsp⟩
    refine ⟨A.add (k * gs.length), de_of hd rfl, ⟨spot_add A _ hsp, ⟨hblk, fun h => h⟩, fun j u hu => ?_⟩, A, _, _, hs, by unfold Addr.add; split <;> rfl⟩
    obtain ⟨g, hg, rfl⟩ := letR_get gs b j u hu
    obtain ⟨v, hv, ht, hc⟩ := hcells j g hg
    have hj := (List.getElem?_eq_some_iff.1 hg).1
    have hgl := hgs g (List.mem_of_getElem? hg)
    refine ⟨v, hc, ?_⟩
    have hρ : ρ (b + j) = v := by rw [hr j hj, hv]; rfl
    show v = dn ρ (L g (b + j))
    rw [dn_let' (by omega) (by rw [hρ]; exact ht), hρ]
theorem RowAt.mem {gs : List Nat} {rows : List (List Value)} {a i b : Nat} {k : Nat} {row : List Value} (h : RowAt W gs (ρ a) rows) (hi : ρ i = .int .i64 (k : Int)) (hk : rows[k]? = some row) (hr : ∀ j, j < gs.length → ρ (b + j) = (row[j]?).getD undef) (hgs : ∀ g ∈ gs, g ≤ 11) :
    ∃ A, @De (thOf ρ W) (IX gs.length (L 10 a) (L 3 i)) (.pointer (some A)) ∧ @CellsAt (thOf ρ W) A (letR gs b) := by
  obtain ⟨A, h1, h2, -⟩ := h.memB hi hk hr hgs
  exact ⟨A, h1, h2⟩
end
end Go.Sx
