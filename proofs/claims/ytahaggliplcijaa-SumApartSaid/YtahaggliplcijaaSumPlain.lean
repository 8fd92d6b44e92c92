/-
  LAYER 5 AS PLAIN FUNCTIONS: the register of a CRC, what seals bytes, what opens them; a change of up to 32 bits in a row is found. By an AI agent.
-/
namespace Go.Proofs.Ytahaggliplcijaa.Crc

/-- the register behind a bit of zero -/
def z (r : Nat) : Nat := if r % 2 = 1 then r / 2 ^^^ 3988292384 else r / 2
/-- behind k bits of zero -/
def zn : Nat → Nat → Nat
  | 0, r => r
  | k + 1, r => zn k (z r)
/-- behind one bit -/
def bit (r b : Nat) : Nat := if r % 2 = b then r / 2 else r / 2 ^^^ 3988292384
/-- behind the first k bits of the byte c -/
def bits (r c : Nat) : Nat → Nat
  | 0 => r
  | k + 1 => bit (bits r c k) (c / 2 ^ k % 2)
/-- behind the bytes of l -/
def reg (r : Nat) (l : List UInt8) : Nat := l.foldl (fun r c => bits r c.toNat 8) r
/-- the checksum -/
def ofS (l : List UInt8) : Nat := 4294967295 - reg 4294967295 l
def le (n : Nat) : List UInt8 := [n.toUInt8, (n / 256).toUInt8, (n / 65536).toUInt8, (n / 16777216).toUInt8]
def endS (l : List UInt8) : List UInt8 := le (ofS l)
def sealS (l : List UInt8) : List UInt8 := l ++ endS l

/-! ### bounds, linearity -/
theorem xor_mod2 (a b : Nat) : (a ^^^ b) % 2 = (a + b) % 2 := by
  have h := Nat.xor_mod_two_eq_one (a := a) (b := b)
  by_cases ha : a % 2 = 1 <;> by_cases hb : b % 2 = 1
  · have h1 : ¬ (a ^^^ b) % 2 = 1 := by rw [h]; simp [ha, hb]
    omega
  · have h1 : (a ^^^ b) % 2 = 1 := by rw [h]; simp [ha, hb]
    omega
  · have h1 : (a ^^^ b) % 2 = 1 := by rw [h]; simp [ha, hb]
    omega
  · have h1 : ¬ (a ^^^ b) % 2 = 1 := by rw [h]; simp [ha, hb]
    omega
theorem xor_zero_eq {a b : Nat} (h : a ^^^ b = 0) : a = b := by
  have e : a ^^^ b ^^^ b = a := by rw [Nat.xor_assoc, Nat.xor_self, Nat.xor_zero]
  rw [h, Nat.zero_xor] at e
  exact e.symm
theorem xor_lt {a b : Nat} (ha : a < 4294967296) (hb : b < 4294967296) : a ^^^ b < 4294967296 := Nat.xor_lt_two_pow (n := 32) ha hb
theorem z_lt {r : Nat} (h : r < 4294967296) : z r < 4294967296 := by
  unfold z
  split
  · exact xor_lt (by omega) (by decide)
  · omega
theorem bit_lt {r b : Nat} (h : r < 4294967296) : bit r b < 4294967296 := by
  unfold bit
  split
  · omega
  · exact xor_lt (by omega) (by decide)
theorem bits_lt {r c : Nat} (h : r < 4294967296) (k : Nat) : bits r c k < 4294967296 := by
  induction k with
  | zero => exact h
  | succ k ih => rw [bits]; exact bit_lt ih
theorem reg_append (r : Nat) (l m : List UInt8) : reg r (l ++ m) = reg (reg r l) m := by simp [reg]
theorem reg_cons (r : Nat) (c : UInt8) (l : List UInt8) : reg r (c :: l) = reg (bits r c.toNat 8) l := by unfold reg; rw [List.foldl_cons]
theorem reg_nil (r : Nat) : reg r [] = r := by unfold reg; rw [List.foldl_nil]
theorem reg_lt {r : Nat} (h : r < 4294967296) : ∀ l : List UInt8, reg r l < 4294967296 := by
  intro l
  induction l generalizing r with
  | nil => exact h
  | cons c l ih => rw [reg_cons]; exact ih (bits_lt h 8)
theorem reg_take {r : Nat} {l : List UInt8} {k : Nat} (h : k < l.length) : reg r (l.take (k + 1)) = bits (reg r (l.take k)) l[k].toNat 8 := by
  rw [List.take_succ_eq_append_getElem h, reg_append, reg_cons, reg_nil]
theorem z_xor (a b : Nat) : z (a ^^^ b) = z a ^^^ z b := by
  unfold z
  have h : (a ^^^ b) % 2 = (a + b) % 2 := xor_mod2 _ _
  have hd : (a ^^^ b) / 2 = a / 2 ^^^ b / 2 := Nat.xor_div_two
  rw [h, hd]
  have hs : 3988292384 ^^^ 3988292384 = 0 := by decide
  rcases Nat.mod_two_eq_zero_or_one a with ha | ha <;> rcases Nat.mod_two_eq_zero_or_one b with hb | hb
  · rw [if_neg (by omega), if_neg (by omega), if_neg (by omega)]
  · rw [if_pos (by omega), if_neg (by omega), if_pos (by omega), Nat.xor_assoc]
  · rw [if_pos (by omega), if_pos (by omega), if_neg (by omega), Nat.xor_assoc, Nat.xor_assoc, Nat.xor_comm (b / 2)]
  · rw [if_neg (by omega), if_pos (by omega), if_pos (by omega), Nat.xor_assoc, ← Nat.xor_assoc 3988292384, Nat.xor_comm 3988292384 (b / 2), Nat.xor_assoc (b / 2), hs, Nat.xor_zero]
theorem zn_xor : ∀ (k a b : Nat), zn k (a ^^^ b) = zn k a ^^^ zn k b
  | 0, _, _ => rfl
  | k + 1, a, b => by simp only [zn]; rw [z_xor, zn_xor k]
theorem zn_add : ∀ (j k r : Nat), zn (j + k) r = zn k (zn j r)
  | 0, k, r => by rw [Nat.zero_add]; rfl
  | j + 1, k, r => by rw [show j + 1 + k = (j + k) + 1 by omega]; simp only [zn]; exact zn_add j k _
theorem zn_lt : ∀ (k : Nat) {r : Nat}, r < 4294967296 → zn k r < 4294967296
  | 0, _, h => h
  | k + 1, _, h => zn_lt k (z_lt h)
theorem z_zero {r : Nat} (h : r < 4294967296) (h0 : z r = 0) : r = 0 := by
  unfold z at h0
  split at h0
  · have e : r / 2 = 3988292384 := xor_zero_eq h0
    omega
  · omega
theorem zn_zero : ∀ (k : Nat) {r : Nat}, r < 4294967296 → zn k r = 0 → r = 0
  | 0, _, _, h0 => h0
  | k + 1, _, h, h0 => z_zero h (zn_zero k (z_lt h) h0)
theorem zn_of_zero : ∀ k, zn k 0 = 0
  | 0 => rfl
  | k + 1 => by simp only [zn]; rw [show z 0 = 0 by decide]; exact zn_of_zero k
theorem zn_inj (k : Nat) {a b : Nat} (ha : a < 4294967296) (hb : b < 4294967296) : zn k a = zn k b ↔ a = b := by
  constructor
  · intro h
    have h0 : zn k (a ^^^ b) = 0 := by rw [zn_xor, h, Nat.xor_self]
    exact xor_zero_eq (zn_zero k (xor_lt ha hb) h0)
  · intro h; rw [h]
/-- bits that are zero fall out -/
theorem zn_pow : ∀ (k b : Nat), zn k (b * 2 ^ k) = b
  | 0, b => by simp [zn]
  | k + 1, b => by
    have e : b * 2 ^ (k + 1) = 2 * (b * 2 ^ k) := by rw [Nat.pow_succ, Nat.mul_comm (2 ^ k) 2, ← Nat.mul_assoc, Nat.mul_comm b 2, Nat.mul_assoc]
    have hz : z (b * 2 ^ (k + 1)) = b * 2 ^ k := by
      rw [e]
      unfold z
      rw [if_neg (by omega)]
      omega
    simp only [zn]
    rw [hz]
    exact zn_pow k b
theorem xor_add {b k : Nat} (a : Nat) (h : b < 2 ^ k) : b ^^^ a * 2 ^ k = b + a * 2 ^ k := by
  apply Nat.eq_of_testBit_eq
  intro j
  have h1 : (2 ^ k * a + b).testBit j = if j < k then b.testBit j else a.testBit (j - k) := Nat.testBit_two_pow_mul_add a h j
  have h2 : (2 ^ k * a + 0).testBit j = if j < k then (0 : Nat).testBit j else a.testBit (j - k) := Nat.testBit_two_pow_mul_add a (Nat.two_pow_pos k) j
  rw [Nat.testBit_xor, Nat.add_comm b, Nat.mul_comm a, h1]
  rw [Nat.add_zero] at h2
  rw [h2]
  by_cases hj : j < k
  · simp [hj]
  · have hbj : b.testBit j = false := Nat.testBit_lt_two_pow (Nat.lt_of_lt_of_le h (Nat.pow_le_pow_right (by decide) (by omega)))
    simp [hj, hbj]
theorem bit_z {r b : Nat} (hb : b < 2) : bit r b = z (r ^^^ b) := by
  have h : (r ^^^ b) % 2 = (r + b) % 2 := xor_mod2 _ _
  have hd : (r ^^^ b) / 2 = r / 2 ^^^ b / 2 := Nat.xor_div_two
  unfold bit z
  rw [h, hd, show b / 2 = 0 by omega, Nat.xor_zero]
  by_cases e : r % 2 = b
  · rw [if_pos e, if_neg (by omega)]
  · rw [if_neg e, if_pos (by omega)]
theorem bits_zn (r c : Nat) : ∀ k, bits r c k = zn k (r ^^^ c % 2 ^ k)
  | 0 => by simp [bits, zn, Nat.mod_one]
  | k + 1 => by
    have hb : c / 2 ^ k % 2 < 2 := Nat.mod_lt _ (by decide)
    have e : c % 2 ^ (k + 1) = c % 2 ^ k ^^^ (c / 2 ^ k % 2) * 2 ^ k := by
      rw [xor_add _ (Nat.mod_lt _ (Nat.two_pow_pos k)), Nat.pow_succ, Nat.mod_mul, Nat.mul_comm (2 ^ k)]
    have h1 : bits r c (k + 1) = z (zn k (r ^^^ c % 2 ^ k) ^^^ c / 2 ^ k % 2) := by rw [bits, bits_zn r c k, bit_z hb]
    have h2 : zn k (r ^^^ c % 2 ^ k) ^^^ c / 2 ^ k % 2 = zn k (r ^^^ c % 2 ^ k ^^^ c / 2 ^ k % 2 * 2 ^ k) := by rw [zn_xor k (r ^^^ c % 2 ^ k), zn_pow]
    rw [h1, h2, e, ← Nat.xor_assoc, zn_add k 1]
    rfl
theorem bits8 (r : Nat) (c : UInt8) : bits r c.toNat 8 = zn 8 (r ^^^ c.toNat) := by
  rw [bits_zn, Nat.mod_eq_of_lt (show c.toNat < 2 ^ 8 from UInt8.toNat_lt c)]
theorem reg_xor (r s : Nat) : ∀ l : List UInt8, reg (r ^^^ s) l = reg r l ^^^ zn (8 * l.length) s := by
  intro l
  induction l generalizing r s with
  | nil => rfl
  | cons c l ih =>
    rw [reg_cons, reg_cons, bits8, bits8, show r ^^^ s ^^^ c.toNat = r ^^^ c.toNat ^^^ s by rw [Nat.xor_assoc, Nat.xor_comm s, ← Nat.xor_assoc], zn_xor, ih, ← zn_add, List.length_cons]
    rw [show 8 + 8 * l.length = 8 * (l.length + 1) by omega]

/-! ### what seals -/
theorem ofS_lt (l : List UInt8) : ofS l < 4294967296 := by unfold ofS; omega
theorem le_length (n : Nat) : (le n).length = 4 := rfl
theorem endS_length (l : List UInt8) : (endS l).length = 4 := rfl
theorem sealS_length (l : List UInt8) : (sealS l).length = l.length + 4 := by simp [sealS, endS_length]
theorem compl_xor {r : Nat} (h : r < 4294967296) : r ^^^ (4294967295 - r) = 4294967295 := by
  have hx : ∀ x : BitVec 32, x ^^^ ~~~ x = 4294967295#32 := by
    intro x
    apply BitVec.eq_of_getLsbD_eq
    intro i hi
    have h1 : (4294967295#32 : BitVec 32) = BitVec.allOnes 32 := by decide
    rw [h1, BitVec.getLsbD_xor, BitVec.getLsbD_not, BitVec.getLsbD_allOnes]
    cases x.getLsbD i <;> simp [hi]
  have h2 := congrArg BitVec.toNat (hx (BitVec.ofNat 32 r))
  rw [BitVec.toNat_xor, BitVec.toNat_not, BitVec.toNat_ofNat, Nat.mod_eq_of_lt h] at h2
  exact h2
/-- four bytes in a row are their number -/
theorem reg_le (r n : Nat) (hn : n < 4294967296) : reg r (le n) = zn 32 (r ^^^ n) := by
  have b0 : (n.toUInt8).toNat = n % 256 := by simp
  have b1 : ((n / 256).toUInt8).toNat = n / 256 % 256 := by simp
  have b2 : ((n / 65536).toUInt8).toNat = n / 65536 % 256 := by simp
  have b3 : ((n / 16777216).toUInt8).toNat = n / 16777216 := by simp; omega
  have c1 : n / 256 % 256 = (n / 256) % 2 ^ 8 := rfl
  have e3 : n / 65536 = n / 65536 % 256 ^^^ n / 16777216 * 2 ^ 8 := by rw [xor_add _ (by omega)]; omega
  have e2 : n / 256 = n / 256 % 256 ^^^ n / 65536 * 2 ^ 8 := by rw [xor_add _ (by omega)]; omega
  have e1 : n = n % 256 ^^^ n / 256 * 2 ^ 8 := by rw [xor_add _ (by omega)]; omega
  have step (r a b m : Nat) (e : m = a ^^^ b * 2 ^ 8) : zn 8 (r ^^^ m) = zn 8 (r ^^^ a) ^^^ b := by rw [e, ← Nat.xor_assoc, zn_xor 8 (r ^^^ a), zn_pow]
  have h : zn 32 (r ^^^ n) = zn 8 (zn 8 (zn 8 (zn 8 (r ^^^ n)))) := by rw [← zn_add, ← zn_add, ← zn_add]
  simp only [le, reg_cons, reg_nil]
  rw [bits8, bits8, bits8, bits8, b0, b1, b2, b3, h, step _ _ _ _ e1, step _ _ _ _ e2, step _ _ _ _ e3]
/-- what a sealed string leaves in the register -/
theorem reg_ends (l : List UInt8) (n : Nat) (hn : n < 4294967296) : reg 4294967295 (l ++ le n) = zn 32 4294967295 ↔ n = ofS l := by
  have hr : reg 4294967295 l < 4294967296 := reg_lt (by decide) l
  have hc := compl_xor hr
  rw [reg_append, reg_le _ _ hn, zn_inj 32 (xor_lt hr hn) (by decide)]
  constructor
  · intro h
    have h2 : n ^^^ (4294967295 - reg 4294967295 l) = 0 := by
      have h3 : reg 4294967295 l ^^^ n ^^^ (reg 4294967295 l ^^^ (4294967295 - reg 4294967295 l)) = 0 := by rw [h, hc, Nat.xor_self]
      rw [Nat.xor_comm (reg 4294967295 l) n, Nat.xor_assoc, ← Nat.xor_assoc (reg 4294967295 l) (reg 4294967295 l), Nat.xor_self, Nat.zero_xor] at h3
      exact h3
    exact xor_zero_eq h2
  · intro h
    rw [h]
    exact hc
theorem le_inj {m n : Nat} (hm : m < 4294967296) (hn : n < 4294967296) (h : le m = le n) : m = n := by
  simp only [le, List.cons.injEq, and_true] at h
  obtain ⟨h0, h1, h2, h3⟩ := h
  have g0 := congrArg UInt8.toNat h0
  have g1 := congrArg UInt8.toNat h1
  have g2 := congrArg UInt8.toNat h2
  have g3 := congrArg UInt8.toNat h3
  simp only [Nat.toUInt8_eq, UInt8.toNat_ofNat'] at g0 g1 g2 g3
  omega
/-- every four bytes are a number's -/
theorem le_of {d : List UInt8} (h : d.length = 4) : ∃ n, n < 4294967296 ∧ d = le n := by
  match d, h with
  | [a, b, c, e], _ =>
    have ha := UInt8.toNat_lt a
    have hb := UInt8.toNat_lt b
    have hc := UInt8.toNat_lt c
    have he := UInt8.toNat_lt e
    refine ⟨a.toNat + 256 * b.toNat + 65536 * c.toNat + 16777216 * e.toNat, by omega, ?_⟩
    simp only [le, List.cons.injEq, and_true]
    refine ⟨?_, ?_, ?_, ?_⟩ <;> apply UInt8.toNat_inj.1 <;> simp only [Nat.toUInt8_eq, UInt8.toNat_ofNat'] <;> omega
/-- are the last four bytes the checksum of the others? -/
def okS (l : List UInt8) : Bool := l.drop (l.length - 4) == endS (l.take (l.length - 4))
theorem okS_reg {l : List UInt8} (h : 4 ≤ l.length) : okS l = true ↔ reg 4294967295 l = zn 32 4294967295 := by
  obtain ⟨n, hn, hd⟩ := le_of (d := l.drop (l.length - 4)) (by rw [List.length_drop]; omega)
  have e : l.take (l.length - 4) ++ le n = l := by rw [← hd]; exact List.take_append_drop _ _
  have h2 := reg_ends (l.take (l.length - 4)) n hn
  rw [e] at h2
  rw [h2]
  unfold okS endS
  rw [hd, beq_iff_eq]
  exact ⟨fun h => le_inj hn (ofS_lt _) h, fun h => by rw [h]⟩
theorem okS_seal (l : List UInt8) : okS (sealS l) = true := by
  have h := sealS_length l
  have h4 : (sealS l).length - 4 = l.length := by omega
  unfold okS
  rw [h4, sealS, List.drop_left, List.take_left]
  simp
theorem okS_eq {l : List UInt8} (h : okS l = true) : sealS (l.take (l.length - 4)) = l := by
  unfold okS at h
  rw [beq_iff_eq] at h
  unfold sealS
  rw [← h]
  exact List.take_append_drop _ _

/-! ### a change of some bits -/
/-- the bit k of l turned -/
def flip (l : List UInt8) (k : Nat) : List UInt8 := l.set (k / 8) (l.getD (k / 8) 0 ^^^ (2 ^ (k % 8)).toUInt8)
theorem flip_length (l : List UInt8) (k : Nat) : (flip l k).length = l.length := by simp [flip]
theorem pow_byte (t : Nat) (h : t < 8) : ((2 ^ t).toUInt8).toNat = 2 ^ t := by
  have : 2 ^ t < 2 ^ 8 := Nat.pow_lt_pow_right (by decide) h
  simp only [Nat.toUInt8_eq, UInt8.toNat_ofNat']
  exact Nat.mod_eq_of_lt this
theorem zn_one (k j : Nat) (h : j ≤ k) : zn k (2 ^ j) = zn (k - j) 1 := by
  have e : k = j + (k - j) := by omega
  have h1 := zn_pow j 1
  rw [Nat.one_mul] at h1
  rw [e, zn_add, h1, Nat.add_sub_cancel_left]
theorem reg_flip (r : Nat) (l : List UInt8) (k : Nat) (hk : k < 8 * l.length) : reg r (flip l k) = reg r l ^^^ zn (8 * l.length - k) 1 := by
  have hj : k / 8 < l.length := by omega
  have ht : k % 8 < 8 := Nat.mod_lt _ (by decide)
  have hsplit : l = l.take (k / 8) ++ l[k / 8] :: l.drop (k / 8 + 1) := by rw [List.getElem_cons_drop, List.take_append_drop]
  have hg : l.getD (k / 8) 0 = l[k / 8] := by simp [List.getD, hj]
  have hf : flip l k = l.take (k / 8) ++ (l[k / 8] ^^^ (2 ^ (k % 8)).toUInt8) :: l.drop (k / 8 + 1) := by
    unfold flip
    rw [hg, List.set_eq_take_append_cons_drop, if_pos hj]
  have h2 : reg r l = reg (bits (reg r (l.take (k / 8))) l[k / 8].toNat 8) (l.drop (k / 8 + 1)) := by
    conv => lhs; rw [hsplit]
    rw [reg_append, reg_cons]
  rw [hf, reg_append, reg_cons, h2, bits8, bits8, UInt8.toNat_xor, pow_byte _ ht, ← Nat.xor_assoc, zn_xor 8 (reg r (l.take (k / 8)) ^^^ l[k / 8].toNat), reg_xor, zn_one 8 _ (by omega), ← zn_add, List.length_drop]
  rw [show 8 - k % 8 + 8 * (l.length - (k / 8 + 1)) = 8 * l.length - k by omega]
/-- what i of the bits from 'at' on leave in the register -/
def Turned (l0 l : List UInt8) (at' i : Nat) (changed : Bool) : Prop :=
  l.length = l0.length ∧ ∃ e : Nat, e < 2 ^ i ∧ changed = decide (e ≠ 0) ∧ reg 4294967295 l = reg 4294967295 l0 ^^^ zn (8 * l0.length - at') e
theorem Turned.start (l : List UInt8) (at' : Nat) : Turned l l at' 0 false := ⟨rfl, 0, by decide, rfl, by rw [zn_of_zero, Nat.xor_zero]⟩
theorem Turned.same {l0 l : List UInt8} {at' i : Nat} {c : Bool} (h : Turned l0 l at' i c) : Turned l0 l at' (i + 1) c := by
  obtain ⟨h1, e, h2, h3, h4⟩ := h
  exact ⟨h1, e, by rw [Nat.pow_succ]; omega, h3, h4⟩
theorem Turned.flip {l0 l : List UInt8} {at' i : Nat} {c : Bool} (h : Turned l0 l at' i c) (hk : at' + i < 8 * l0.length) : Turned l0 (flip l (at' + i)) at' (i + 1) true := by
  obtain ⟨h1, e, h2, h3, h4⟩ := h
  have hp := Nat.two_pow_pos i
  have hx : e ^^^ 2 ^ i = e + 2 ^ i := by have := xor_add (b := e) (k := i) 1 h2; rw [Nat.one_mul] at this; exact this
  refine ⟨by rw [flip_length, h1], e + 2 ^ i, by rw [Nat.pow_succ]; omega, ?_, ?_⟩
  · symm
    rw [decide_eq_true_eq]
    omega
  · rw [reg_flip _ _ _ (by omega), h4, h1, ← hx, zn_xor _ e, zn_one _ _ (by omega), Nat.xor_assoc, Nat.sub_sub]
theorem Turned.opens {l0 l : List UInt8} {at' i : Nat} {c : Bool} (h : Turned l0 l at' i c) (h4 : 4 ≤ l0.length) (hi : i ≤ 32) (h0 : okS l0 = true) : okS l = !c := by
  obtain ⟨h1, e, h2, h3, hr⟩ := h
  have he : e < 4294967296 := Nat.lt_of_lt_of_le h2 (Nat.pow_le_pow_right (by decide) hi : 2 ^ i ≤ 2 ^ 32)
  have h5 := (okS_reg h4).1 h0
  have h6 := okS_reg (l := l) (by omega)
  rw [hr, h5] at h6
  by_cases hz : e = 0
  · subst hz
    rw [zn_of_zero, Nat.xor_zero] at h6
    rw [h3, h6.2 rfl]
    rfl
  · have h7 : ¬ okS l = true := by
      intro hok
      have h8 := h6.1 hok
      apply hz
      apply zn_zero (8 * l0.length - at') he
      have h9 : zn 32 4294967295 ^^^ (zn 32 4294967295 ^^^ zn (8 * l0.length - at') e) = 0 := by rw [h8, Nat.xor_self]
      rw [← Nat.xor_assoc, Nat.xor_self, Nat.zero_xor] at h9
      exact h9
    rw [h3, Bool.eq_false_iff.2 h7]
    simp [hz]
/-- every byte turned -/
def notAll (l : List UInt8) : List UInt8 := l.map (· ^^^ 255)
/-- the errors' numbers; what opening answers -/
def openV (l : List UInt8) : List UInt8 × Int := if l.length < 4 then ([], 4) else if okS l then (l.take (l.length - 4), 0) else ([], 8)
theorem openV_seal (l : List UInt8) : openV (sealS l) = (l, 0) := by
  have h := sealS_length l
  have h4 : (sealS l).length - 4 = l.length := by omega
  unfold openV
  rw [if_neg (by omega), if_pos (okS_seal l), h4, sealS, List.take_left]
end Go.Proofs.Ytahaggliplcijaa.Crc
