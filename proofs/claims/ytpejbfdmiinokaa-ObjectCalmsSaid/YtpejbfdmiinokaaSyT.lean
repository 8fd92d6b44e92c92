/-
  RUNS RECKONED AHEAD: letters, terms over them, decisions. By an AI agent.
-/
import Derived.Test.YtpejbfdmiinokaaSyR
namespace Go.Sx
variable [Th]
/-- a kind of integers as a number -/
def kN : IntKind → Nat
  | .i8 => 0 | .i16 => 1 | .i32 => 2 | .i64 => 3 | .u8 => 4 | .u16 => 5 | .u32 => 6 | .u64 => 7
omit [Th] in
theorem kN_inj {j k : IntKind} (h : kN j = kN k) : j = k := by cases j <;> cases k <;> first | rfl | cases h
omit [Th] in
theorem kN_le (k : IntKind) : kN k ≤ 7 := by cases k <;> decide
/-- what a tag says: 0 to 7 integers in range, 8 a bool, 9 a string, 10 a slice, 11 a pointer to somewhere, 12 a string that is not long -/
def hasTag (g : Nat) : Value → Prop
  | .bool _ => g = 8
  | .int k n => g = kN k ∧ k.min ≤ n ∧ n ≤ k.max
  | .string s => (g = 9 ∧ s.size < 9223372036854775808) ∨ (g = 12 ∧ s.size ≤ 1099511627776)
  | .slice a n _ => g = 10 ∧ n < 9223372036854775808 ∧ (a = none → n = 0) ∧ ∀ p, a = some p → 0 < n → p.spot = none
  | .pointer (some a) => g = 11 ∧ a.spot = none
  | _ => False
omit [Th] in
theorem wrap_range (k : IntKind) (n : Int) : k.min ≤ k.wrap n ∧ k.wrap n ≤ k.max := by
  cases k <;> simp only [IntKind.min, IntKind.max, IntKind.wrap, IntKind.bits, IntKind.signed] <;> simp <;> (try split) <;> omega
omit [Th] in
theorem tag_int (k : IntKind) (n : Int) : hasTag (kN k) (.int k (k.wrap n)) := ⟨rfl, wrap_range k n⟩
/-- a term, and what it stands for -/
def De (x X : Value) : Prop := match x with
  | .iface c u => X = Th.val c u
  | x => dry x = true ∧ X = x
theorem De.one {x X Y : Value} (h : De x X) (k : De x Y) : Y = X := by
  cases x with
  | iface c u =>
    have h : X = _ := h
    have k : Y = _ := k
    rw [h, k]
  | _ => exact k.2.trans h.2.symm
omit [Th] in
theorem dec_beq (a b : Int) : (a == b) = decide (a = b) := by
  by_cases h : a = b <;> simp [h]
/-- an operation on two scalars -/
def sBin : BinOp → Value → Value → Option Value
  | op, .int k a, .int k' b => match kEq k k' with
    | true => match op with
      | .add => some (.int k (k.wrap (a + b)))
      | .sub => some (.int k (k.wrap (a - b)))
      | .mul => some (.int k (k.wrap (a * b)))
      | .and => some (.int k (k.wrap ((BitVec.ofInt k.bits a &&& BitVec.ofInt k.bits b).toNat : Int)))
      | .or => some (.int k (k.wrap ((BitVec.ofInt k.bits a ||| BitVec.ofInt k.bits b).toNat : Int)))
      | .xor => some (.int k (k.wrap ((BitVec.ofInt k.bits a ^^^ BitVec.ofInt k.bits b).toNat : Int)))
      | .andNot => some (.int k (k.wrap ((BitVec.ofInt k.bits a &&& ~~~BitVec.ofInt k.bits b).toNat : Int)))
      | .eql => some (.bool (decide (a = b)))
      | .neq => some (.bool (!decide (a = b)))
      | .lss => some (.bool (decide (a < b)))
      | .leq => some (.bool (decide (a ≤ b)))
      | .gtr => some (.bool (decide (b < a)))
      | .geq => some (.bool (decide (b ≤ a)))
      | _ => none
    | false => none
  | op, .string a, .string b => match op with
    | .eql => some (.bool (a.toList == b.toList))
    | .neq => some (.bool (!(a.toList == b.toList)))
    | .add => if a.size + b.size < 9223372036854775808 then some (.string (a ++ b)) else none
    | _ => none
  | _, _, _ => none
omit [Th] in
theorem sBin_ans {P : Program} {op : BinOp} {T : TypeId} {x y : Operand} {u v w : Value} (h : sBin op u v = some w) : ans P (do eqGuard op T x y u v; binOp op T u v) = some w := by
  unfold sBin at h
  split at h
  · rename_i k a k' b
    split at h
    · rename_i hk
      have := kEq_eq hk
      subst this
      cases op <;> simp only at h <;> first
        | cases h; done
        | (injection h with h; subst h; simp [eqGuard, binOp, Op.intArith, Op.intBits, Op.intCmp, ans, pure, Bind.bind, Sem.bind, bne, dec_beq])
    · cases h
  · rename_i a b
    cases op
    case eql =>
      injection h with h
      subst h
      simp [eqGuard, binOp, Op.stringOp, ans, pure, Bind.bind, Sem.bind]
    case neq =>
      injection h with h
      subst h
      simp [eqGuard, binOp, Op.stringOp, ans, pure, Bind.bind, Sem.bind]
    case add =>
      simp only at h
      split at h
      · rename_i hsz
        injection h with h
        subst h
        have : ¬ ((a.size + b.size : Nat) : Int) > IntKind.i64.max := by
          simp [IntKind.max, IntKind.bits, IntKind.signed]
          omega
        have this2 : ¬ IntKind.i64.max < (a.size : Int) + (b.size : Int) := by
          simp [IntKind.max, IntKind.bits, IntKind.signed]
          omega
        have hmx : IntKind.i64.max = 9223372036854775807 := by decide
        have this3 : ¬ (9223372036854775807 : Int) < (a.size : Int) + (b.size : Int) := by omega
        simp [eqGuard, binOp, Op.stringOp, pure, Bind.bind, Sem.bind, hmx, this3]
        rfl
      · cases h
    all_goals cases h
  · cases h
/-- an operation on one scalar: 0 not; 1 + k to integers of kind k; 9 the length of a string -/
def kOf : Nat → Option IntKind
  | 0 => some .i8 | 1 => some .i16 | 2 => some .i32 | 3 => some .i64 | 4 => some .u8 | 5 => some .u16 | 6 => some .u32 | 7 => some .u64 | _ => none
omit [Th] in
theorem kOf_kN (k : IntKind) : kOf (kN k) = some k := by cases k <;> rfl
def sUn : Nat → Value → Option Value
  | 0, .bool b => some (.bool (!b))
  | n + 1, .int _ a => match kOf n with
    | some k => some (.int k (k.wrap a))
    | none => none
  | 9, .string s => some (.int .i64 s.size)
  | 9, .slice _ n _ => some (.int .i64 n)
  | _, _ => none
def bN : BinOp → Nat
  | .add => 1 | .sub => 2 | .mul => 3 | .quo => 4 | .rem => 5 | .and => 6 | .or => 7 | .xor => 8 | .shl => 9 | .shr => 10 | .andNot => 11
  | .eql => 12 | .neq => 13 | .lss => 14 | .leq => 15 | .gtr => 16 | .geq => 17
def bOf : Nat → Option BinOp
  | 1 => some .add | 2 => some .sub | 3 => some .mul | 4 => some .quo | 5 => some .rem | 6 => some .and | 7 => some .or | 8 => some .xor | 9 => some .shl | 10 => some .shr | 11 => some .andNot
  | 12 => some .eql | 13 => some .neq | 14 => some .lss | 15 => some .leq | 16 => some .gtr | 17 => some .geq | _ => none
omit [Th] in
theorem bOf_bN (op : BinOp) : bOf (bN op) = some op := by cases op <;> rfl
omit [Th] in
theorem bN_bOf {n : Nat} {op : BinOp} (h : bOf n = some op) : bN op = n := by
  unfold bOf at h
  split at h <;> first | (injection h with h; subst h; rfl) | cases h
/-- an operation on two values: a scalar one; 60: two bools compared; or 64 + z: the place of an element of z cells -/
def sem2 (o : Nat) (X Y : Value) : Option Value := match bOf o with
  | some op => sBin op X Y
  | none => match X, Y with
    | .slice (some a) n _, .int _ k => if 64 ≤ o ∧ 0 ≤ k ∧ k < n then some (.pointer (some (a.add (k.toNat * (o - 64))))) else none
    | .bool a, .bool b => if o = 60 then some (.bool (a == b)) else none
    | _, _ => none
/-- an operation on one value: 32 + o a scalar one; 4096 + d: a place d cells on -/
def sem1 (o : Nat) (X : Value) : Option Value := if o < 4096 then sUn (o - 32) X else match X with
  | .pointer (some a) => some (.pointer (some (a.add (o - 4096))))
  | _ => none
/-- the code of a term: its operation and its tag -/
def bc (op : BinOp) (g : Nat) : Nat := 16 * bN op + g
def uc (o g : Nat) : Nat := 16 * (32 + o) + g
/-- what the terms say -/
class Ts : Prop where
  tag : ∀ c u, c % 16 ≤ 12 → hasTag (c % 16) (Th.val c u)
  bin : ∀ c x y X Y R, De x X → De y Y → sem2 (c / 16) X Y = some R → hasTag (c % 16) R → Th.val c (.agg #[x, y]) = R
  un : ∀ c d u R, sem1 (c / 16) (Th.val d u) = some R → hasTag (c % 16) R → Th.val c (.iface d u) = R
omit [Th] in
theorem bc_div (op : BinOp) {g : Nat} (h : g ≤ 11) : bc op g / 16 = bN op ∧ bc op g % 16 = g := by
  unfold bc
  omega
omit [Th] in
theorem uc_div {o g : Nat} (h : g ≤ 11) : uc o g / 16 = 32 + o ∧ uc o g % 16 = g := by
  unfold uc
  omega
theorem Ts.bop [Ts] (op : BinOp) (g : Nat) (hg : g ≤ 11) (x y X Y R : Value) (hx : De x X) (hy : De y Y) (h : sBin op X Y = some R) (ht : hasTag g R) : Th.val (bc op g) (.agg #[x, y]) = R := by
  obtain ⟨h1, h2⟩ := bc_div op hg
  refine Ts.bin _ x y X Y R hx hy ?_ (by rw [h2]; exact ht)
  rw [h1]
  unfold sem2
  rw [bOf_bN]
  exact h
theorem Ts.uop [Ts] (o g c : Nat) (u R : Value) (ho : o < 4000) (hg : g ≤ 11) (h : sUn o (Th.val c u) = some R) (ht : hasTag g R) : Th.val (uc o g) (.iface c u) = R := by
  obtain ⟨h1, h2⟩ := uc_div (o := o) hg
  refine Ts.un _ c u R ?_ (by rw [h2]; exact ht)
  rw [h1]
  unfold sem1
  rw [if_pos (by omega), Nat.add_sub_cancel_left]
  exact h

def isTok : Value → Bool
  | .iface _ _ => true
  | _ => false
def tagN : Value → Option Nat
  | .bool _ => some 8
  | .int k _ => some (kN k)
  | .string _ => some 9
  | .iface c _ => match Nat.ble (Nat.mod c 16) 9 with
    | true => some (Nat.mod c 16)
    | false => match Nat.beq (Nat.mod c 16) 12 with
      | true => some 9
      | false => none
  | _ => none
omit [Th] in
theorem hasTag_int {g : Nat} : ∀ {X : Value}, hasTag g X → g ≤ 7 → ∃ k a, X = .int k a ∧ kN k = g
  | .bool _, h, hg => by have h : g = 8 := h; omega
  | .int k n, h, _ => ⟨k, n, rfl, h.1.symm⟩
  | .string _, h, hg => by rcases h with h | h <;> have := h.1 <;> omega
  | .slice _ _ _, h, hg => by have h : g = 10 := h.1; omega
  | .pointer (some _), h, hg => by have h : g = 11 := h.1; omega
omit [Th] in
theorem hasTag_bool : ∀ {X : Value}, hasTag 8 X → ∃ b, X = .bool b
  | .bool b, _ => ⟨b, rfl⟩
  | .int k n, h => by
    have h1 := h.1
    have h2 := kN_le k
    omega
  | .string _, h => by rcases h with h | h <;> have := h.1 <;> omega
  | .slice _ _ _, h => by have h : 8 = 10 := h.1; omega
  | .pointer (some _), h => by have h : 8 = 11 := h.1; omega
omit [Th] in
theorem hasTag_str : ∀ {X : Value}, hasTag 9 X → ∃ b, X = .string b ∧ b.size < 9223372036854775808
  | .string b, h => ⟨b, rfl, by rcases h with h | h; exact h.2; have := h.1; omega⟩
  | .int k n, h => by
    have h1 := h.1
    have h2 := kN_le k
    omega
  | .bool _, h => by have h : 9 = 8 := h; omega
  | .slice _ _ _, h => by have h : 9 = 10 := h.1; omega
  | .pointer (some _), h => by have h : 9 = 11 := h.1; omega
omit [Th] in
theorem hasTag_short : ∀ {X : Value}, hasTag 12 X → ∃ b, X = .string b ∧ b.size ≤ 1099511627776
  | .string b, h => ⟨b, rfl, by rcases h with h | h; have := h.1; omega; exact h.2⟩
  | .int k n, h => by
    have h1 := h.1
    have h2 := kN_le k
    omega
  | .bool _, h => by have h : 12 = 8 := h; omega
  | .slice _ _ _, h => by have h : 12 = 10 := h.1; omega
  | .pointer (some _), h => by have h : 12 = 11 := h.1; omega
omit [Th] in
theorem hasTag_slice : ∀ {X : Value}, hasTag 10 X → ∃ a n c, X = .slice a n c ∧ n < 9223372036854775808 ∧ (a = none → n = 0) ∧ ∀ p, a = some p → 0 < n → p.spot = none
  | .slice a n c, h => ⟨a, n, c, rfl, h.2⟩
  | .int k n, h => by
    have h1 := h.1
    have h2 := kN_le k
    omega
  | .bool _, h => by have h : 10 = 8 := h; omega
  | .string _, h => by rcases h with h | h <;> have := h.1 <;> omega
  | .pointer (some _), h => by have h : 10 = 11 := h.1; omega
omit [Th] in
theorem hasTag_ptr : ∀ {X : Value}, hasTag 11 X → ∃ a, X = .pointer (some a) ∧ a.spot = none
  | .pointer (some a), h => ⟨a, rfl, h.2⟩
  | .int k n, h => by
    have h1 := h.1
    have h2 := kN_le k
    omega
  | .bool _, h => by have h : 11 = 8 := h; omega
  | .string _, h => by rcases h with h | h <;> have := h.1 <;> omega
  | .slice _ _ _, h => by have h : 11 = 10 := h.1; omega
/-- a literal of the tag, or a term -/
theorem tagN_spec [Ts] {x X : Value} {g : Nat} (h : tagN x = some g) (hd : De x X) : (hasTag g X) ∨ (∃ k a, X = .int k a ∧ kN k = g) ∨ (∃ s, X = .string s ∧ g = 9) := by
  unfold tagN at h
  split at h
  · injection h with h
    obtain ⟨-, rfl⟩ := hd
    exact .inl h.symm
  · injection h with h
    obtain ⟨-, rfl⟩ := hd
    exact .inr (.inl ⟨_, _, rfl, h⟩)
  · injection h with h
    obtain ⟨-, rfl⟩ := hd
    exact .inr (.inr ⟨_, rfl, h.symm⟩)
  · rename_i c u
    split at h
    · rename_i hb
      injection h with h
      have ht := Ts.tag c u (Nat.le_trans (Nat.le_of_ble_eq_true hb) (by decide))
      have hd : X = Th.val c u := hd
      rw [← hd] at ht
      have h : c % 16 = g := h
      rw [h] at ht
      exact .inl ht
    · split at h
      · rename_i hb
        injection h with h
        have hb : c % 16 = 12 := Nat.eq_of_beq_eq_true hb
        have ht := Ts.tag c u (Nat.le_of_eq hb)
        have hd : X = Th.val c u := hd
        rw [← hd, hb] at ht
        obtain ⟨s, hs, -⟩ := hasTag_short ht
        exact .inr (.inr ⟨s, hs, h.symm⟩)
      · cases h
  · cases h
theorem tagN_int [Ts] {x X : Value} {g : Nat} (h : tagN x = some g) (hd : De x X) (hg : g ≤ 7) : ∃ k a, X = .int k a ∧ kN k = g := by
  rcases tagN_spec h hd with h | h | ⟨s, rfl, h⟩
  · exact hasTag_int h hg
  · exact h
  · omega
theorem tagN_str [Ts] {x X : Value} (h : tagN x = some 9) (hd : De x X) : ∃ s, X = .string s := by
  rcases tagN_spec h hd with h | ⟨k, a, rfl, h⟩ | ⟨s, rfl, h⟩
  · obtain ⟨s, hs, -⟩ := hasTag_str h
    exact ⟨s, hs⟩
  · have := kN_le k
    omega
  · exact ⟨s, rfl⟩
theorem tagN_bool [Ts] {x X : Value} (h : tagN x = some 8) (hd : De x X) : ∃ b, X = .bool b := by
  rcases tagN_spec h hd with h | ⟨k, a, rfl, h⟩ | ⟨s, rfl, h⟩
  · exact hasTag_bool h
  · have := kN_le k
    omega
  · cases h
/-- the tag of what an operation answers on two scalars of a tag -/
def resTag (op : BinOp) (g : Nat) : Option Nat := match Nat.ble g 7 with
  | true => match op with
    | .add | .sub | .mul | .and | .or | .xor | .andNot => some g
    | .eql | .neq | .lss | .leq | .gtr | .geq => some 8
    | _ => none
  | false => match Nat.beq g 9, op with
    | true, .eql => some 8
    | true, .neq => some 8
    | _, _ => none
omit [Th] in
theorem resTag_le {op : BinOp} {g t : Nat} (h : resTag op g = some t) : t ≤ 11 := by
  unfold resTag at h
  split at h
  · rename_i hle
    have hle := Nat.le_of_ble_eq_true hle
    cases op <;> simp only at h <;> first
      | (injection h with h; omega)
      | cases h
  · split at h <;> first
      | (injection h with h; omega)
      | cases h
/-- the term for an operation on two scalars, one of them a term -/
def tokB (op : BinOp) (x y : Value) : Option Value := match isTok x || isTok y with
  | true => match tagN x, tagN y with
    | some g, some h => match Nat.beq g h with
      | true => match resTag op g with
        | some t => fN (bc op t) fun c => fV x fun x => fV y fun y => some (.iface c (.agg ⟨[x, y]⟩))
        | none => none
      | false => none
    | _, _ => none
  | false => none
theorem tokB_sound [Ts] {op : BinOp} {x y X Y t : Value} (h : tokB op x y = some t) (hx : De x X) (hy : De y Y) : ∃ R, sBin op X Y = some R ∧ De t R := by
  unfold tokB at h
  simp only [fN_eq, fV_eq] at h
  split at h
  · split at h
    · rename_i g g' hg hg'
      split at h
      · rename_i hgg
        have hgg := Nat.eq_of_beq_eq_true hgg
        subst hgg
        split at h
        · rename_i t' ht
          injection h with h
          subst h
          have hle' : t' ≤ 11 := resTag_le ht
          have fin : ∀ R, sBin op X Y = some R → hasTag t' R → ∃ R, sBin op X Y = some R ∧ De (.iface (bc op t') (.agg ⟨[x, y]⟩)) R := fun R h1 h2 => ⟨R, h1, (Ts.bop op t' hle' x y X Y R hx hy h1 h2).symm⟩
          unfold resTag at ht
          split at ht
          · rename_i hle
            have hle := Nat.le_of_ble_eq_true hle
            obtain ⟨k, a, rfl, hk⟩ := tagN_int hg hx hle
            obtain ⟨k', b, rfl, hk'⟩ := tagN_int hg' hy hle
            have := kN_inj (hk.trans hk'.symm)
            subst this
            have hkk : kEq k k = true := by cases k <;> rfl
            subst hk
            cases op <;> simp only at ht <;> first
              | cases ht; done
              | (injection ht with ht; subst ht; refine fin _ (by simp only [sBin, hkk]; rfl) ?_; first | exact tag_int _ _ | rfl)
          · rename_i hle
            split at ht
            · rename_i h9 
              have h9 := Nat.eq_of_beq_eq_true h9
              subst h9
              obtain ⟨s, rfl⟩ := tagN_str hg hx
              obtain ⟨s', rfl⟩ := tagN_str hg' hy
              injection ht with ht
              subst ht
              exact fin _ rfl rfl
            · rename_i h9
              have h9 := Nat.eq_of_beq_eq_true h9
              subst h9
              obtain ⟨s, rfl⟩ := tagN_str hg hx
              obtain ⟨s', rfl⟩ := tagN_str hg' hy
              injection ht with ht
              subst ht
              exact fin _ rfl rfl
            · cases ht
        · cases h
      · cases h
    · cases h
  · cases h

/-- two terms are the same -/
def teq : Nat → Value → Value → Bool
  | 0, _, _ => false
  | _ + 1, .int j a, .int k b => match kEq j k with
    | true => iEq a b
    | false => false
  | _ + 1, .string a, .string b => bEq a.data.toList b.data.toList
  | _ + 1, .bool a, .bool b => match a, b with
    | true, true => true
    | false, false => true
    | _, _ => false
  | n + 1, .iface c u, .iface d v => match Nat.beq c d with
    | true => teq n u v
    | false => false
  | n + 1, .agg ⟨[a, b]⟩, .agg ⟨[c, d]⟩ => match teq n a c with
    | true => teq n b d
    | false => false
  | _, _, _ => false
omit [Th] in
theorem teq_eq : ∀ (n : Nat) (x y : Value), teq n x y = true → x = y
  | 0, _, _, h => by cases h
  | n + 1, x, y, h => by
    unfold teq at h
    split at h
    · rename_i e; cases e
    · split at h
      · rename_i hk
        rw [kEq_eq hk]
        rw [iEq_eq] at h
        rw [eq_of_beq h]
      · cases h
    · rename_i a b
      rw [bEq_eq] at h
      have := eq_of_beq h
      exact congrArg Value.string (ByteArray.ext (Array.ext' this))
    · split at h <;> first | rfl | cases h
    · rename_i m c u d v hm
      injection hm with hm
      subst hm
      split at h
      · rename_i hc
        rw [Nat.eq_of_beq_eq_true hc, teq_eq _ u v h]
      · cases h
    · rename_i m a b c d hm
      injection hm with hm
      subst hm
      split at h
      · rename_i hc
        rw [teq_eq _ a c hc, teq_eq _ b d h]
      · cases h
    · cases h
/-- decisions that are given -/
abbrev Fs := List (Value × Bool)
def lookF : Fs → Value → Option Bool
  | [], _ => none
  | (u, b) :: l, t => match teq 40 u t with
    | true => some b
    | false => lookF l t
omit [Th] in
theorem lookF_mem : ∀ {l : Fs} {t : Value} {b : Bool}, lookF l t = some b → (t, b) ∈ l
  | [], _, _, h => by cases h
  | (u, c) :: l, t, b, h => by
    unfold lookF at h
    split at h
    · rename_i he
      injection h with h
      rw [teq_eq _ _ _ he, h]
      exact List.mem_cons_self
    · exact List.mem_cons_of_mem _ (lookF_mem h)
/-- a test of an integer against a number -/
def flip : BinOp → BinOp
  | .lss => .gtr | .leq => .geq | .gtr => .lss | .geq => .leq | o => o
def isCmp : BinOp → Bool
  | .eql | .neq | .lss | .leq | .gtr | .geq => true
  | _ => false
def cmpI (op : BinOp) (a n : Int) : Bool := match op with
  | .eql => decide (a = n)
  | .neq => !decide (a = n)
  | .lss => decide (a < n)
  | .leq => decide (a ≤ n)
  | .gtr => decide (n < a)
  | .geq => decide (n ≤ a)
  | _ => false
def view : Value → Option (Value × BinOp × Int)
  | .iface c (.agg ⟨[x, .int k n]⟩) => match Nat.beq (Nat.mod c 16) 8, bOf (Nat.div c 16) with
    | true, some op => match isCmp op, tagN x with
      | true, some g => match Nat.beq g (kN k), isTok x with
        | true, true => some (x, op, n)
        | _, _ => none
      | _, _ => none
    | _, _ => none
  | .iface c (.agg ⟨[.int k n, x]⟩) => match Nat.beq (Nat.mod c 16) 8, bOf (Nat.div c 16) with
    | true, some op => match isCmp op, tagN x with
      | true, some g => match Nat.beq g (kN k), isTok x with
        | true, true => some (x, flip op, n)
        | _, _ => none
      | _, _ => none
    | _, _ => none
  | _ => none
theorem tok_D {x : Value} (h : isTok x = true) : ∃ X, De x X := by
  cases x with
  | iface c u => exact ⟨Th.val c u, rfl⟩
  | _ => cases h
omit [Th] in
theorem kEq_refl (k : IntKind) : kEq k k = true := by cases k <;> rfl
omit [Th] in
theorem cmp_sBin {op : BinOp} (h : isCmp op = true) (k : IntKind) (a n : Int) : sBin op (.int k a) (.int k n) = some (.bool (cmpI op a n)) := by
  unfold sBin
  simp only [kEq_refl]
  cases op <;> first | rfl | cases h
omit [Th] in
theorem cmp_flip {op : BinOp} (h : isCmp op = true) (k : IntKind) (a n : Int) : isCmp (flip op) = true ∧ sBin op (.int k n) (.int k a) = some (.bool (cmpI (flip op) a n)) := by
  unfold sBin
  simp only [kEq_refl]
  cases op <;> first
    | (cases h; done)
    | exact ⟨rfl, rfl⟩
    | (refine ⟨rfl, ?_⟩; simp only [cmpI, flip]; rw [decide_eq_decide.2 (show n = a ↔ a = n from ⟨Eq.symm, Eq.symm⟩)])
theorem view_spec [Ts] {t : Value} {x : Value} {op : BinOp} {n : Int} (h : view t = some (x, op, n)) : isCmp op = true ∧ ∃ k a, De x (.int k a) ∧ De t (.bool (cmpI op a n)) := by
  unfold view at h
  split at h
  · rename_i c x' k n'
    split at h
    · rename_i op' hc ho
      split at h
      · rename_i g hcmp hg
        split at h
        · rename_i hgk htok
          injection h with h
          injection h with h1 h
          injection h with h2 h3
          subst h1 h2 h3
          have hgk := Nat.eq_of_beq_eq_true hgk
          subst hgk
          obtain ⟨X, hX⟩ := tok_D htok
          obtain ⟨k', a, rfl, hk⟩ := tagN_int hg hX (kN_le k)
          have := kN_inj hk
          subst this
          refine ⟨hcmp, k', a, hX, ?_⟩
          have hbc : bc op' 8 = c := by
            have h1 := Nat.eq_of_beq_eq_true hc
            have h2 := bN_bOf ho
            have h1 : c % 16 = 8 := h1
            have h2 : bN op' = c / 16 := h2
            have h3 : bc op' 8 = 16 * bN op' + 8 := rfl
            rw [h3, h2]
            have h4 := Nat.div_add_mod c 16
            rw [h1] at h4
            exact h4
          have := Ts.bop op' 8 (by decide) x' (.int k' n') (.int k' a) (.int k' n') (.bool (cmpI op' a n')) hX ⟨rfl, rfl⟩ (cmp_sBin hcmp k' a n') rfl
          rw [hbc] at this
          exact this.symm
        · cases h
      · cases h
    · cases h
  · rename_i c k n' x' _
    split at h
    · rename_i op' hc ho
      split at h
      · rename_i g hcmp hg
        split at h
        · rename_i hgk htok
          injection h with h
          injection h with h1 h
          injection h with h2 h3
          subst h1 h2 h3
          have hgk := Nat.eq_of_beq_eq_true hgk
          subst hgk
          obtain ⟨X, hX⟩ := tok_D htok
          obtain ⟨k', a, rfl, hk⟩ := tagN_int hg hX (kN_le k)
          have := kN_inj hk
          subst this
          refine ⟨(cmp_flip hcmp k' a n').1, k', a, hX, ?_⟩
          have hbc : bc op' 8 = c := by
            have h1 := Nat.eq_of_beq_eq_true hc
            have h2 := bN_bOf ho
            have h1 : c % 16 = 8 := h1
            have h2 : bN op' = c / 16 := h2
            have h3 : bc op' 8 = 16 * bN op' + 8 := rfl
            rw [h3, h2]
            have h4 := Nat.div_add_mod c 16
            rw [h1] at h4
            exact h4
          have := Ts.bop op' 8 (by decide) (.int k' n') x' (.int k' n') (.int k' a) (.bool (cmpI (flip op') a n')) ⟨rfl, rfl⟩ hX (cmp_flip hcmp k' a n').2 rfl
          rw [hbc] at this
          exact this.symm
        · cases h
      · cases h
    · cases h
  · cases h
/-- what is known of an integer -/
structure Iv where
  lo : Option Int
  hi : Option Int
  ex : List Int
def Iv.Of (v : Iv) (a : Int) : Prop := (∀ l, v.lo = some l → l ≤ a) ∧ (∀ h, v.hi = some h → a ≤ h) ∧ ∀ e ∈ v.ex, a ≠ e
def up (l : Option Int) (n : Int) : Option Int := match l with
  | none => some n
  | some m => match iLt m n with
    | true => some n
    | false => some m
def down (l : Option Int) (n : Int) : Option Int := match l with
  | none => some n
  | some m => match iLt n m with
    | true => some n
    | false => some m
omit [Th] in
theorem up_spec {l : Option Int} {n a : Int} (h : ∀ m, l = some m → m ≤ a) (k : n ≤ a) : ∀ m, up l n = some m → m ≤ a := by
  intro m hm
  unfold up at hm
  split at hm
  · injection hm with hm; omega
  · split at hm <;> injection hm with hm
    · omega
    · exact hm ▸ h _ rfl
omit [Th] in
theorem down_spec {l : Option Int} {n a : Int} (h : ∀ m, l = some m → a ≤ m) (k : a ≤ n) : ∀ m, down l n = some m → a ≤ m := by
  intro m hm
  unfold down at hm
  split at hm
  · injection hm with hm; omega
  · split at hm <;> injection hm with hm
    · omega
    · exact hm ▸ h _ rfl
def Iv.tell (v : Iv) (op : BinOp) (n : Int) (b : Bool) : Iv := match op, b with
  | .eql, true => ⟨up v.lo n, down v.hi n, v.ex⟩
  | .neq, false => ⟨up v.lo n, down v.hi n, v.ex⟩
  | .eql, false => ⟨v.lo, v.hi, n :: v.ex⟩
  | .neq, true => ⟨v.lo, v.hi, n :: v.ex⟩
  | .lss, true => ⟨v.lo, down v.hi (n - 1), v.ex⟩
  | .lss, false => ⟨up v.lo n, v.hi, v.ex⟩
  | .leq, true => ⟨v.lo, down v.hi n, v.ex⟩
  | .leq, false => ⟨up v.lo (n + 1), v.hi, v.ex⟩
  | .gtr, true => ⟨up v.lo (n + 1), v.hi, v.ex⟩
  | .gtr, false => ⟨v.lo, down v.hi n, v.ex⟩
  | .geq, true => ⟨up v.lo n, v.hi, v.ex⟩
  | .geq, false => ⟨v.lo, down v.hi (n - 1), v.ex⟩
  | _, _ => v
omit [Th] in
theorem Iv.tell_spec {v : Iv} {a : Int} (h : v.Of a) {op : BinOp} {n : Int} {b : Bool} (k : isCmp op = true) (e : cmpI op a n = b) : (v.tell op n b).Of a := by
  obtain ⟨h1, h2, h3⟩ := h
  cases op <;> first
    | cases k; done
    | (cases b <;> simp [cmpI] at e <;> unfold Iv.tell <;> simp only <;> refine ⟨?_, ?_, ?_⟩ <;> simp only <;> first
        | exact h1
        | exact h2
        | exact h3
        | exact up_spec h1 (by omega)
        | exact down_spec h2 (by omega)
        | (intro e he; rcases List.mem_cons.1 he with rfl | he <;> first | assumption | exact h3 _ he))
/-- all that is told of x -/
def ivOf (x : Value) : Fs → Iv → Iv
  | [], v => v
  | (t, b) :: l, v => match view t with
    | some (y, op, n) => match teq 40 y x with
      | true => ivOf x l (v.tell op n b)
      | false => ivOf x l v
    | none => ivOf x l v
def SatL (F : Fs) : Prop := ∀ p ∈ F, De p.1 (.bool p.2)
theorem ivOf_spec [Ts] {x : Value} {k : IntKind} {a : Int} (hx : De x (.int k a)) : ∀ {F : Fs} {v : Iv}, SatL F → v.Of a → (ivOf x F v).Of a
  | [], _, _, h => h
  | (t, b) :: l, v, hF, h => by
    have hl : SatL l := fun p hp => hF p (List.mem_cons_of_mem _ hp)
    unfold ivOf
    split
    · rename_i y op n hv
      split
      · rename_i he
        have := teq_eq _ _ _ he
        subst this
        obtain ⟨h1, k', a', h2, h3⟩ := view_spec hv
        have e := De.one hx h2
        injection e with e1 e2
        subst e2
        have e := De.one h3 (hF _ List.mem_cons_self)
        injection e with e
        exact ivOf_spec hx hl (Iv.tell_spec h h1 e.symm)
      · exact ivOf_spec hx hl h
    · exact ivOf_spec hx hl h
def inL (n : Int) : List Int → Bool
  | [] => false
  | e :: l => match iEq n e with
    | true => true
    | false => inL n l
omit [Th] in
theorem inL_mem {n : Int} : ∀ {l : List Int}, inL n l = true → n ∈ l
  | [], h => by cases h
  | e :: l, h => by
    unfold inL at h
    split at h
    · rename_i he
      rw [iEq_eq] at he
      rw [eq_of_beq he]
      exact List.mem_cons_self
    · exact List.mem_cons_of_mem _ (inL_mem h)
/-- bounds that are left out -/
def tight : Nat → Iv → Iv
  | 0, v => v
  | m + 1, ⟨some l, hi, ex⟩ => match inL l ex with
    | true => tight m ⟨some (l + 1), hi, ex⟩
    | false => match hi with
      | some h => match inL h ex with
        | true => tight m ⟨some l, some (h - 1), ex⟩
        | false => ⟨some l, hi, ex⟩
      | none => ⟨some l, hi, ex⟩
  | m + 1, ⟨none, some h, ex⟩ => match inL h ex with
    | true => tight m ⟨none, some (h - 1), ex⟩
    | false => ⟨none, some h, ex⟩
  | _ + 1, v => v
omit [Th] in
theorem tight_spec {a : Int} : ∀ (m : Nat) (v : Iv), v.Of a → (tight m v).Of a
  | 0, _, h => h
  | m + 1, ⟨some l, hi, ex⟩, h => by
    unfold tight
    split
    · rename_i hl
      refine tight_spec m _ ⟨fun l' e => ?_, h.2.1, h.2.2⟩
      injection e with e
      have h1 := h.1 l rfl
      have h2 := h.2.2 l (inL_mem hl)
      omega
    · split
      · split
        · rename_i hh
          refine tight_spec m _ ⟨h.1, fun h' e => ?_, h.2.2⟩
          injection e with e
          have h1 := h.2.1 _ rfl
          have h2 := h.2.2 _ (inL_mem hh)
          omega
        · exact h
      · exact h
  | m + 1, ⟨none, some hi, ex⟩, h => by
    unfold tight
    split
    · rename_i hh
      refine tight_spec m _ ⟨h.1, fun h' e => ?_, h.2.2⟩
      injection e with e
      have h1 := h.2.1 _ rfl
      have h2 := h.2.2 _ (inL_mem hh)
      omega
    · exact h
  | m + 1, ⟨none, none, ex⟩, h => h
/-- below n: some true; at least n: some false -/
def ltQ (v : Iv) (n : Int) : Option Bool := match v.hi, v.lo with
  | some h, l => match iLt h n with
    | true => some true
    | false => match l with
      | some l => match iLt l n with
        | true => none
        | false => some false
      | none => none
  | none, some l => match iLt l n with
    | true => none
    | false => some false
  | none, none => none
omit [Th] in
theorem ltQ_spec {v : Iv} {n a : Int} {b : Bool} (h : v.Of a) (e : ltQ v n = some b) : decide (a < n) = b := by
  obtain ⟨lo, hi, ex⟩ := v
  obtain ⟨h1, h2, -⟩ := h
  unfold ltQ at e
  simp only at e h1 h2
  split at e
  · rename_i hh
    split at e
    · rename_i hlt
      injection e with e
      subst e
      rw [iLt_eq, decide_eq_true_eq] at hlt
      have := h2 _ rfl
      rw [decide_eq_true_eq]
      omega
    · split at e
      · split at e
        · cases e
        · rename_i hlt
          injection e with e
          subst e
          rw [iLt_eq, decide_eq_false_iff_not] at hlt
          have := h1 _ rfl
          rw [decide_eq_false_iff_not]
          omega
      · cases e
  · split at e
    · cases e
    · rename_i hlt
      injection e with e
      subst e
      rw [iLt_eq, decide_eq_false_iff_not] at hlt
      have := h1 _ rfl
      rw [decide_eq_false_iff_not]
      omega
  · cases e
def eqQ (v : Iv) (n : Int) : Option Bool := match inL n v.ex with
  | true => some false
  | false => match ltQ v n, ltQ v (n + 1) with
    | some true, _ => some false
    | _, some false => some false
    | some false, some true => some true
    | _, _ => none
omit [Th] in
theorem eqQ_spec {v : Iv} {n a : Int} {b : Bool} (h : v.Of a) (e : eqQ v n = some b) : decide (a = n) = b := by
  unfold eqQ at e
  split at e
  · rename_i hn
    injection e with e
    subst e
    rw [decide_eq_false_iff_not]
    exact h.2.2 _ (inL_mem hn)
  · split at e
    · rename_i h1
      injection e with e
      subst e
      have := ltQ_spec h h1
      rw [decide_eq_true_eq] at this
      rw [decide_eq_false_iff_not]
      omega
    · rename_i h1 _
      injection e with e
      subst e
      have := ltQ_spec h h1
      rw [decide_eq_false_iff_not] at this
      rw [decide_eq_false_iff_not]
      omega
    · rename_i h1 h2
      injection e with e
      subst e
      have h1 := ltQ_spec h h1
      have h2 := ltQ_spec h h2
      rw [decide_eq_false_iff_not] at h1
      rw [decide_eq_true_eq] at h2
      rw [decide_eq_true_eq]
      omega
    · cases e
def neg : Option Bool → Option Bool
  | some true => some false
  | some false => some true
  | none => none
def askIv (v : Iv) (op : BinOp) (n : Int) : Option Bool := match op with
  | .eql => eqQ v n
  | .neq => neg (eqQ v n)
  | .lss => ltQ v n
  | .geq => neg (ltQ v n)
  | .leq => ltQ v (n + 1)
  | .gtr => neg (ltQ v (n + 1))
  | _ => none
omit [Th] in
theorem neg_spec {o : Option Bool} {b : Bool} (h : neg o = some b) : o = some (!b) := by
  unfold neg at h
  split at h <;> first | (injection h with h; subst h; rfl) | cases h
omit [Th] in
theorem askIv_spec {v : Iv} {op : BinOp} {n a : Int} {b : Bool} (h : v.Of a) (e : askIv v op n = some b) : cmpI op a n = b := by
  unfold askIv at e
  split at e
  · exact eqQ_spec h e
  · have := eqQ_spec h (neg_spec e)
    simp [cmpI, this]
  · exact ltQ_spec h e
  · have := ltQ_spec h (neg_spec e)
    simp only [cmpI]
    cases b <;> simp at this ⊢ <;> omega
  · have := ltQ_spec h e
    simp only [cmpI]
    cases b <;> simp at this ⊢ <;> omega
  · have := ltQ_spec h (neg_spec e)
    simp only [cmpI]
    cases b <;> simp at this ⊢ <;> omega
  · cases e
/-- the contrary comparison -/
def ngC : BinOp → BinOp
  | .eql => .neq
  | .neq => .eql
  | .lss => .geq
  | .geq => .lss
  | .leq => .gtr
  | .gtr => .leq
  | o => o
/-- a comparison, as it is decided in another spelling: its contrary, its sides exchanged, both -/
def look2 (F : Fs) (op : BinOp) (x y : Value) : Option Bool := match lookF F (.iface (bc (ngC op) 8) (.agg ⟨[x, y]⟩)) with
  | some b => some (!b)
  | none => match lookF F (.iface (bc (flip op) 8) (.agg ⟨[y, x]⟩)) with
    | some b => some b
    | none => match lookF F (.iface (bc (ngC (flip op)) 8) (.agg ⟨[y, x]⟩)) with
      | some b => some (!b)
      | none => none
def ask2 (F : Fs) (c : Nat) (u : Value) : Value := match u with
  | .agg ⟨[x, y]⟩ => match bOf (Nat.div c 16), tagN x, tagN y with
    | some op, some g, some g' => match isCmp op && (Nat.beq g g' && Nat.ble g 7) with
      | true => match look2 F op x y with
        | some b => .bool b
        | none => .iface c u
      | false => .iface c u
    | _, _, _ => .iface c u
  | _ => .iface c u
omit [Th] in
theorem ngC_spec {op : BinOp} (h : isCmp op = true) (a b : Int) : isCmp (ngC op) = true ∧ cmpI (ngC op) a b = !cmpI op a b := by
  cases op <;> first
    | (cases h; done)
    | exact ⟨rfl, rfl⟩
    | exact ⟨rfl, by rw [Bool.eq_iff_iff]; simp [ngC, cmpI]⟩
    | exact ⟨rfl, by rw [Bool.eq_iff_iff]; simp [ngC, cmpI]; omega⟩
omit [Th] in
theorem flip_spec {op : BinOp} (h : isCmp op = true) (a b : Int) : isCmp (flip op) = true ∧ cmpI (flip op) b a = cmpI op a b := by
  cases op <;> first
    | (cases h; done)
    | exact ⟨rfl, rfl⟩
    | exact ⟨rfl, decide_eq_decide.2 ⟨Eq.symm, Eq.symm⟩⟩
    | exact ⟨rfl, congrArg (!·) (decide_eq_decide.2 ⟨Eq.symm, Eq.symm⟩)⟩
    | exact ⟨rfl, by rw [Bool.eq_iff_iff]; simp [flip, cmpI]⟩
    | exact ⟨rfl, by rw [Bool.eq_iff_iff]; simp [flip, cmpI]; omega⟩
theorem tagN_D {x : Value} {g : Nat} (h : tagN x = some g) : ∃ X, De x X := by
  cases x with
  | iface c u => exact ⟨Th.val c u, rfl⟩
  | bool b => exact ⟨.bool b, rfl, rfl⟩
  | int k n => exact ⟨.int k n, rfl, rfl⟩
  | string s => exact ⟨.string s, rfl, rfl⟩
  | _ => cases h
theorem ask2_sound [Ts] {F : Fs} (hF : SatL F) {c : Nat} {u T : Value} (hc : Nat.beq (Nat.mod c 16) 8 = true) (h : De (.iface c u) T) : De (ask2 F c u) T := by
  unfold ask2
  split
  · rename_i x y
    split
    · rename_i op g g' ho hg hg'
      split
      · rename_i hk
        simp only [Bool.and_eq_true] at hk
        obtain ⟨hcmp, hgg, hle⟩ := hk
        have hgg := Nat.eq_of_beq_eq_true hgg
        have hle := Nat.le_of_ble_eq_true hle
        subst hgg
        obtain ⟨X, hX⟩ := tagN_D hg
        obtain ⟨Y, hY⟩ := tagN_D hg'
        obtain ⟨k, a, rfl, e1⟩ := tagN_int hg hX hle
        obtain ⟨k', b, rfl, e2⟩ := tagN_int hg' hY hle
        have := kN_inj (e1.trans e2.symm)
        subst this
        have val : ∀ (op : BinOp), isCmp op = true → De (.iface (bc op 8) (.agg ⟨[x, y]⟩)) (.bool (cmpI op a b)) := fun op h => (Ts.bop op 8 (by decide) x y _ _ _ hX hY (cmp_sBin h k a b) rfl).symm
        have val' : ∀ (op : BinOp), isCmp op = true → De (.iface (bc op 8) (.agg ⟨[y, x]⟩)) (.bool (cmpI op b a)) := fun op h => (Ts.bop op 8 (by decide) y x _ _ _ hY hX (cmp_sBin h k b a) rfl).symm
        have hbc : c = bc op 8 := by
          have h1 : c % 16 = 8 := Nat.eq_of_beq_eq_true hc
          have h2 : bN op = c / 16 := bN_bOf ho
          have h3 : bc op 8 = 16 * bN op + 8 := rfl
          have h4 := Nat.div_add_mod c 16
          omega
        have hT : T = .bool (cmpI op a b) := by
          have h' := val op hcmp
          rw [← hbc] at h'
          exact De.one h' h
        have of_ : ∀ {t : Value} {q r : Bool}, (t, q) ∈ F → De t (.bool r) → q = r := fun hm hd => by
          have h1 : De _ _ := hF _ hm
          have := De.one hd h1
          injection this
        split
        · rename_i q hq
          have key : q = cmpI op a b := by
            unfold look2 at hq
            split at hq
            · rename_i p hp
              injection hq with hq
              obtain ⟨g1, g2⟩ := ngC_spec hcmp a b
              rw [← hq, of_ (lookF_mem hp) (val _ g1), g2, Bool.not_not]
            · split at hq
              · rename_i p hp
                injection hq with hq
                obtain ⟨g1, g2⟩ := flip_spec hcmp a b
                rw [← hq, of_ (lookF_mem hp) (val' _ g1), g2]
              · split at hq
                · rename_i p hp
                  injection hq with hq
                  obtain ⟨g1, g2⟩ := flip_spec hcmp a b
                  obtain ⟨g3, g4⟩ := ngC_spec g1 b a
                  rw [← hq, of_ (lookF_mem hp) (val' _ g3), g4, g2, Bool.not_not]
                · cases hq
          rw [hT, key]
          exact ⟨rfl, rfl⟩
        · exact h
      · exact h
    · exact h
  · exact h
/-- a comparison of two integers -/
def cmpOf (c : Nat) (p q : Value) : Option BinOp := match Nat.beq (Nat.mod c 16) 8, bOf (Nat.div c 16), tagN p, tagN q with
  | true, some op, some g, some g' => match isCmp op && (Nat.beq g g' && Nat.ble g 7) with
    | true => some op
    | false => none
  | _, _, _, _ => none
theorem cmpOf_spec [Ts] {c : Nat} {p q T : Value} {op : BinOp} (h : cmpOf c p q = some op) (hd : De (.iface c (.agg ⟨[p, q]⟩)) T) : isCmp op = true ∧ ∃ k a b, De p (.int k a) ∧ De q (.int k b) ∧ T = .bool (cmpI op a b) := by
  unfold cmpOf at h
  split at h
  · rename_i op' g g' hc ho hg hg'
    split at h
    · rename_i hk
      injection h with h
      subst h
      simp only [Bool.and_eq_true] at hk
      obtain ⟨hcmp, hgg, hle⟩ := hk
      have hgg := Nat.eq_of_beq_eq_true hgg
      have hle := Nat.le_of_ble_eq_true hle
      subst hgg
      obtain ⟨X, hX⟩ := tagN_D hg
      obtain ⟨Y, hY⟩ := tagN_D hg'
      obtain ⟨k, a, rfl, e1⟩ := tagN_int hg hX hle
      obtain ⟨k', b, rfl, e2⟩ := tagN_int hg' hY hle
      have := kN_inj (e1.trans e2.symm)
      subst this
      refine ⟨hcmp, k, a, b, hX, hY, ?_⟩
      have val : De (.iface (bc op' 8) (.agg ⟨[p, q]⟩)) (.bool (cmpI op' a b)) := (Ts.bop op' 8 (by decide) p q _ _ _ hX hY (cmp_sBin hcmp k a b) rfl).symm
      have hbc : c = bc op' 8 := by
        have h1 : c % 16 = 8 := Nat.eq_of_beq_eq_true hc
        have h2 : bN op' = c / 16 := bN_bOf ho
        have h3 : bc op' 8 = 16 * bN op' + 8 := rfl
        have h4 := Nat.div_add_mod c 16
        omega
      rw [← hbc] at val
      exact De.one val hd
    · cases h
  · cases h
/-- what an interval of the other side tells -/
def nearV (v z : Iv) (op : BinOp) : Iv := match op with
  | .lss => match z.hi with | some h => v.tell .lss h true | none => v
  | .leq => match z.hi with | some h => v.tell .leq h true | none => v
  | .gtr => match z.lo with | some l => v.tell .gtr l true | none => v
  | .geq => match z.lo with | some l => v.tell .geq l true | none => v
  | _ => v
omit [Th] in
theorem nearV_spec {v z : Iv} {op : BinOp} {a b : Int} (hv : v.Of a) (hz : z.Of b) (h : cmpI op a b = true) : (nearV v z op).Of a := by
  unfold nearV
  split
  · split
    · rename_i q hq
      have h1 := hz.2.1 q hq
      have h2 : a < b := of_decide_eq_true h
      exact Iv.tell_spec hv rfl (decide_eq_true (by omega))
    · exact hv
  · split
    · rename_i q hq
      have h1 := hz.2.1 q hq
      have h2 : a ≤ b := of_decide_eq_true h
      exact Iv.tell_spec hv rfl (decide_eq_true (by omega))
    · exact hv
  · split
    · rename_i q hq
      have h1 := hz.1 q hq
      have h2 : b < a := of_decide_eq_true h
      exact Iv.tell_spec hv rfl (decide_eq_true (by omega))
    · exact hv
  · split
    · rename_i q hq
      have h1 := hz.1 q hq
      have h2 : b ≤ a := of_decide_eq_true h
      exact Iv.tell_spec hv rfl (decide_eq_true (by omega))
    · exact hv
  · exact hv
def opB (op : BinOp) : Bool → BinOp
  | true => op
  | false => ngC op
omit [Th] in
theorem opB_spec {op : BinOp} (h : isCmp op = true) {a b : Int} {q : Bool} (e : q = cmpI op a b) : isCmp (opB op q) = true ∧ cmpI (opB op q) a b = true := by
  cases q with
  | true => exact ⟨h, e.symm⟩
  | false =>
    obtain ⟨h1, h2⟩ := ngC_spec h a b
    exact ⟨h1, h2.trans (by rw [← e]; rfl)⟩
def iv0 : Iv := ⟨none, none, []⟩
omit [Th] in
theorem iv0_of (a : Int) : iv0.Of a := ⟨fun _ e => (by cases e), fun _ e => (by cases e), fun _ e => (by cases e)⟩
/-- what the decisions on x and another term tell, by that term's interval -/
def near (x : Value) (F0 : Fs) : Fs → Iv → Iv
  | [], v => v
  | (t, b) :: l, v => match t with
    | .iface c (.agg ⟨[p, q]⟩) => match cmpOf c p q with
      | some op => match teq 40 p x with
        | true => near x F0 l (nearV v (tight 30 (ivOf q F0 iv0)) (opB op b))
        | false => match teq 40 q x with
          | true => near x F0 l (nearV v (tight 30 (ivOf p F0 iv0)) (flip (opB op b)))
          | false => near x F0 l v
      | none => near x F0 l v
    | _ => near x F0 l v
theorem near_spec [Ts] {x : Value} {k : IntKind} {a : Int} {F0 : Fs} (hF0 : SatL F0) (hx : De x (.int k a)) : ∀ {F : Fs} {v : Iv}, SatL F → v.Of a → (near x F0 F v).Of a
  | [], _, _, h => h
  | (t, b) :: l, v, hF, h => by
    have hl : SatL l := fun p hp => hF p (List.mem_cons_of_mem _ hp)
    unfold near
    split
    · rename_i c p q
      split
      · rename_i op ho
        obtain ⟨hcmp, k', y, z, hp, hq, hT⟩ := cmpOf_spec ho (hF _ List.mem_cons_self)
        injection hT with hT
        obtain ⟨g1, g2⟩ := opB_spec hcmp hT
        split
        · rename_i he
          have := teq_eq _ _ _ he
          subst this
          have e := De.one hx hp
          injection e with e1 e2
          subst e2
          exact near_spec hF0 hx hl (nearV_spec h (tight_spec 30 _ (ivOf_spec hq hF0 (iv0_of _))) g2)
        · split
          · rename_i he
            have := teq_eq _ _ _ he
            subst this
            have e := De.one hx hq
            injection e with e1 e2
            subst e2
            obtain ⟨g3, g4⟩ := flip_spec g1 y z
            exact near_spec hF0 hx hl (nearV_spec h (tight_spec 30 _ (ivOf_spec hp hF0 (iv0_of _))) (g4.trans g2))
          · exact near_spec hF0 hx hl h
      · exact near_spec hF0 hx hl h
    · exact near_spec hF0 hx hl h
/-- a test is asked of the decisions, then of what they tell of its integer -/
def ask (F : Fs) (t : Value) : Value := match t with
  | .iface c u => match Nat.beq (Nat.mod c 16) 8 with
    | true => match lookF F (.iface c u) with
      | some b => .bool b
      | none => match view (.iface c u) with
        | some (x, op, n) => match askIv (tight 30 (ivOf x F iv0)) op n with
          | some b => .bool b
          | none => match askIv (tight 30 (near x F F (ivOf x F iv0))) op n with
            | some b => .bool b
            | none => ask2 F c u
        | none => ask2 F c u
    | false => .iface c u
  | t => t
theorem ask_sound [Ts] {F : Fs} (hF : SatL F) {t T : Value} (h : De t T) : De (ask F t) T := by
  unfold ask
  split
  · rename_i c u
    split
    · rename_i hc8
      split
      · rename_i b hb
        have h1 : De _ _ := hF _ (lookF_mem hb)
        rw [De.one h1 h]
        exact ⟨rfl, rfl⟩
      · split
        · rename_i x op n hv
          split
          · rename_i b hb
            obtain ⟨h1, k, a, h2, h3⟩ := view_spec hv
            have := askIv_spec (tight_spec 30 _ (ivOf_spec h2 hF (iv0_of a))) hb
            rw [this] at h3
            rw [De.one h3 h]
            exact ⟨rfl, rfl⟩
          · split
            · rename_i b hb
              obtain ⟨h1, k, a, h2, h3⟩ := view_spec hv
              have := askIv_spec (tight_spec 30 _ (near_spec hF h2 hF (ivOf_spec h2 hF (iv0_of a)))) hb
              rw [this] at h3
              rw [De.one h3 h]
              exact ⟨rfl, rfl⟩
            · exact ask2_sound hF hc8 h
        · exact ask2_sound hF hc8 h
    · exact h
  · exact h
def rng (k : IntKind) (n : Int) : Bool := match iLt n k.min with
  | true => false
  | false => match iLt k.max n with
    | true => false
    | false => true
/-- a value of the tag -/
def okTag (g : Nat) : Value → Bool
  | .iface c _ => match Nat.beq (Nat.mod c 16) g with
    | true => Nat.ble g 12
    | false => match Nat.beq g 9 with
      | true => Nat.beq (Nat.mod c 16) 12
      | false => false
  | .bool _ => Nat.beq g 8
  | .int k n => match Nat.beq g (kN k) with
    | true => rng k n
    | false => false
  | .string s => match Nat.beq g 9 with
    | true => Nat.blt s.data.toList.length 9223372036854775808
    | false => match Nat.beq g 12 with
      | true => Nat.ble s.data.toList.length 1099511627776
      | false => false
  | .slice none n _ => match Nat.beq g 10 with
    | true => Nat.beq n 0
    | false => false
  | _ => false
theorem okTag_spec [Ts] {g : Nat} {u X : Value} (h : okTag g u = true) (hd : De u X) : hasTag g X := by
  unfold okTag at h
  split at h
  · rename_i c v
    split at h
    · rename_i hc
      have hc : c % 16 = g := Nat.eq_of_beq_eq_true hc
      have h1 : X = Th.val c v := hd
      have h2 := Ts.tag c v (by rw [hc]; exact Nat.le_of_ble_eq_true h)
      rw [hc] at h2
      rw [h1]
      exact h2
    · split at h
      · rename_i hg
        have hg := Nat.eq_of_beq_eq_true hg
        have hc : c % 16 = 12 := Nat.eq_of_beq_eq_true h
        have h1 : X = Th.val c v := hd
        have h2 := Ts.tag c v (Nat.le_of_eq hc)
        rw [hc] at h2
        obtain ⟨s, hs, hle⟩ := hasTag_short h2
        rw [h1, hs, hg]
        exact .inl ⟨rfl, by omega⟩
      · cases h
  · obtain ⟨-, rfl⟩ := hd
    exact Nat.eq_of_beq_eq_true h
  · rename_i k n
    obtain ⟨-, rfl⟩ := hd
    split at h
    · rename_i hg
      unfold rng at h
      split at h
      · cases h
      · split at h
        · cases h
        · rename_i h1 _ h2
          rw [iLt_eq, decide_eq_false_iff_not] at h1 h2
          exact ⟨Nat.eq_of_beq_eq_true hg, by omega, by omega⟩
    · cases h
  · rename_i s
    obtain ⟨-, rfl⟩ := hd
    split at h
    · rename_i hg
      refine .inl ⟨Nat.eq_of_beq_eq_true hg, ?_⟩
      have : s.data.toList.length < 9223372036854775808 := by simpa [Nat.blt_eq] using h
      simpa using this
    · split at h
      · rename_i hg
        refine .inr ⟨Nat.eq_of_beq_eq_true hg, ?_⟩
        have := Nat.le_of_ble_eq_true h
        simpa using this
      · cases h
  · rename_i n c
    obtain ⟨-, rfl⟩ := hd
    split at h
    · rename_i hg
      have h := Nat.eq_of_beq_eq_true h
      subst h
      exact ⟨Nat.eq_of_beq_eq_true hg, by decide, fun _ => rfl, fun p e => by cases e⟩
    · cases h
  · cases h
end Go.Sx
