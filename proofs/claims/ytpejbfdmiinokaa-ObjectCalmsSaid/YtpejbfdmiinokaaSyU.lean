/-
  RUNS RECKONED AHEAD: operations over letters. By an AI agent.
-/
import Derived.Test.YtpejbfdmiinokaaSyT
namespace Go.Sx
variable [Th]
/-- the decisions that a run is reckoned under; what lies at places that are letters -/
class Fx where
  F : Fs
  M : List (Value × List Value)
section
variable {P : Program}
theorem V3.de {r : List Nat} {x X : Value} {g : Nat} (h : V3 r x X) (k : tagN x = some g) : De x X := by
  cases x <;> first
    | exact h
    | cases k
theorem De.v3 {r : List Nat} {x X : Value} {g : Nat} (h : De x X) (k : tagN x = some g) : V3 r x X := by
  cases x <;> first
    | exact h
    | cases k
theorem tok_v3 {r : List Nat} {c : Nat} {u X : Value} (h : De (.iface c u) X) : V3 r (.iface c u) X := h
omit [Th] in
theorem ask2_cases (F : Fs) (c : Nat) (u : Value) : ask2 F c u = .iface c u ∨ ∃ b, ask2 F c u = .bool b := by
  unfold ask2
  split
  · split
    · split
      · split
        · exact .inr ⟨_, rfl⟩
        · exact .inl rfl
      · exact .inl rfl
    · exact .inl rfl
  · exact .inl rfl
omit [Th] in
theorem ask_cases (F : Fs) (c : Nat) (u : Value) : ask F (.iface c u) = .iface c u ∨ ∃ b, ask F (.iface c u) = .bool b := by
  unfold ask
  simp only
  split
  · split
    · exact .inr ⟨_, rfl⟩
    · split
      · split
        · exact .inr ⟨_, rfl⟩
        · split
          · exact .inr ⟨_, rfl⟩
          · exact ask2_cases F c u
      · exact ask2_cases F c u
  · exact .inl rfl
theorem ask_v3 [Ts] {F : Fs} (hF : SatL F) {r : List Nat} {c : Nat} {u X : Value} (h : De (.iface c u) X) : V3 r (ask F (.iface c u)) X := by
  have h1 := ask_sound hF h
  rcases ask_cases F c u with e | ⟨b, e⟩
  · rw [e] at h1 ⊢
    exact h1
  · rw [e] at h1 ⊢
    exact h1
/-- a test is answered -/
theorem ask_bool [Ts] {F : Fs} (hF : SatL F) {r : List Nat} {x X : Value} {b : Bool} (h : V3 r x X) (e : ask F x = .bool b) : X = .bool b := by
  cases x with
  | iface c u =>
    have h1 := ask_sound hF (show De (.iface c u) X from h)
    rw [e] at h1
    exact h1.2
  | bool c =>
    injection e with e
    subst e
    exact h.2
  | _ => cases e
/-- a term of one part -/
def tokU (o g : Nat) : Value → Option Value
  | .iface c u => fN (uc o g) fun d => fN c fun c => some (.iface d (.iface c u))
  | _ => none
theorem tokU_sound [Ts] {o g : Nat} {x X t R : Value} (h : tokU o g x = some t) (hx : De x X) (hR : sUn o X = some R) (ht : hasTag g R) (ho : o < 4000) (hg : g ≤ 11) : De t R ∧ ∃ c u, t = .iface c u := by
  unfold tokU at h
  split at h
  · rename_i c u
    simp only [fN_eq] at h
    injection h with h
    subst h
    have hx : X = Th.val c u := hx
    subst hx
    exact ⟨(Ts.uop o g c u R ho hg hR ht).symm, _, _, rfl⟩
  · cases h
omit [Th] in
theorem wrap_id {k : IntKind} {n : Int} (h : hasTag (kN k) (.int k n)) : k.wrap n = n := by
  obtain ⟨-, h1, h2⟩ := h
  cases k <;> simp only [IntKind.min, IntKind.max, IntKind.wrap, IntKind.bits, IntKind.signed] at h1 h2 ⊢ <;> simp at h1 h2 ⊢ <;> (try split) <;> omega
/-- an index that is known to be within a slice -/
def isT : Value → Bool
  | .bool true => true
  | _ => false
def isNat : Value → Bool
  | .int _ (.ofNat _) => true
  | _ => false
def askT (F : Fs) : Option Value → Bool
  | some t => isT (ask F t)
  | none => false
/-- the length of a slice -/
def lenT (s : Value) : Value := fN (uc 9 3) fun d => .iface d s
def inRange (F : Fs) (s i : Value) : Bool := match askT F (tokB .lss i (lenT s)) with
  | true => match isNat i with
    | true => true
    | false => match askT F (tokB .leq (.int .i64 0) i) with
      | true => true
      | false => askT F (tokB .geq i (.int .i64 0))
  | false => false
def tokIx (z : Nat) (s i : Value) : Option Value := fN (16 * (64 + z) + 11) fun c => fV i fun i => some (.iface c (.agg ⟨[s, i]⟩))
def tokOff (o : Nat) (p : Value) : Option Value := match o with
  | 0 => some p
  | o + 1 => fN (16 * (4096 + (o + 1)) + 11) fun c => some (.iface c p)
theorem askT_spec [Ts] {F : Fs} (hF : SatL F) {o : Option Value} (h : askT F o = true) : ∃ t, o = some t ∧ ∀ X, De t X → X = .bool true := by
  unfold askT at h
  split at h
  · rename_i t
    refine ⟨t, rfl, fun X hX => ?_⟩
    have h1 := ask_sound hF hX
    unfold isT at h
    split at h
    · rename_i e
      rw [e] at h1
      exact h1.2
    · cases h
  · cases h
theorem tokB_int [Ts] {F : Fs} (hF : SatL F) {op : BinOp} {x y : Value} {k : IntKind} {a : Int} {Y : Value} (hc : isCmp op = true) (h : askT F (tokB op x y) = true) (hx : De x (.int k a)) (hy : De y Y) : ∃ n, Y = .int k n ∧ cmpI op a n = true := by
  obtain ⟨t, ht, h1⟩ := askT_spec hF h
  obtain ⟨R, h2, h3⟩ := tokB_sound ht hx hy
  have := h1 R h3
  subst this
  cases Y with
  | int k' n =>
    by_cases hk : k = k'
    · subst hk
      rw [cmp_sBin hc] at h2
      injection h2 with h2
      injection h2 with h2
      exact ⟨n, rfl, h2⟩
    · exfalso
      unfold sBin at h2
      cases hkk : kEq k k' with
      | true => exact hk (kEq_eq hkk)
      | false => simp only [hkk] at h2; cases h2
  | _ => cases h2
theorem lenT_de [Ts] {c : Nat} {u : Value} {p : Option Addr} {n cap : Nat} (h : De (.iface c u) (.slice p n cap)) (hn : n < 9223372036854775808) : De (lenT (.iface c u)) (.int .i64 n) := by
  have h : Value.slice p n cap = Th.val c u := h
  unfold lenT
  rw [fN_eq]
  exact (Ts.uop 9 3 c u (.int .i64 n) (by decide) (by decide) (by rw [← h]; rfl) ⟨rfl, by simp [IntKind.min, IntKind.bits, IntKind.signed]; try omega, by simp [IntKind.max, IntKind.bits, IntKind.signed]; try omega⟩).symm
theorem inRange_spec [Ts] {F : Fs} (hF : SatL F) {c : Nat} {u i : Value} {p : Option Addr} {n cap : Nat} {k : IntKind} {a : Int} (h : inRange F (.iface c u) i = true) (hs : De (.iface c u) (.slice p n cap)) (hn : n < 9223372036854775808) (hi : De i (.int k a)) : 0 ≤ a ∧ a < n := by
  unfold inRange at h
  split at h
  · rename_i h1
    obtain ⟨m, hm, h2⟩ := tokB_int hF rfl h1 hi (lenT_de hs hn)
    injection hm with hk hm
    subst hk hm
    simp only [cmpI, decide_eq_true_eq] at h2
    refine ⟨?_, h2⟩
    split at h
    · rename_i hq
      unfold isNat at hq
      split at hq
      · obtain ⟨-, e⟩ := hi
        injection e with e1 e2
        rw [e2]
        exact Int.natCast_nonneg _
      · cases hq
    · split at h
      · rename_i h3
        obtain ⟨m, hm, h4⟩ := tokB_int hF rfl h3 (x := .int .i64 0) ⟨rfl, rfl⟩ hi
        injection hm with _ hm
        subst hm
        simpa [cmpI] using h4
      · obtain ⟨m, hm, h4⟩ := tokB_int hF rfl h hi (Y := .int .i64 0) ⟨rfl, rfl⟩
        injection hm with _ hm
        subst hm
        simpa [cmpI] using h4
  · cases h
/-- a string's length is at most this -/
def strBnd : Nat → Value → Option Nat
  | _, .string s => some s.data.toList.length
  | n, .iface c u => match Nat.beq (Nat.mod c 16) 12 with
    | true => some 1099511627776
    | false => match n, Nat.beq c 25, u with
      | n + 1, true, .agg ⟨[x, y]⟩ => match strBnd n x, strBnd n y with
        | some a, some b => some (a + b)
        | _, _ => none
      | _, _, _ => none
  | _, _ => none
theorem strBnd_spec [Ts] : ∀ (n : Nat) (t : Value) (k : Nat), strBnd n t = some k → ∃ s, De t (.string s) ∧ s.size ≤ k := by
  intro n
  induction n with
  | zero =>
    intro t k h
    cases t with
    | string s =>
      unfold strBnd at h
      injection h with h
      exact ⟨s, ⟨rfl, rfl⟩, by rw [← h]; simp⟩
    | iface c u =>
      unfold strBnd at h
      split at h
      · rename_i hc
        injection h with h
        have hc : c % 16 = 12 := Nat.eq_of_beq_eq_true hc
        have ht := Ts.tag c u (Nat.le_of_eq hc)
        rw [hc] at ht
        obtain ⟨s, hs, hle⟩ := hasTag_short ht
        exact ⟨s, hs.symm, by omega⟩
      · cases h
    | _ => cases h
  | succ n ih =>
    intro t k h
    cases t with
    | string s =>
      unfold strBnd at h
      injection h with h
      exact ⟨s, ⟨rfl, rfl⟩, by rw [← h]; simp⟩
    | iface c u =>
      unfold strBnd at h
      split at h
      · rename_i hc
        injection h with h
        have hc : c % 16 = 12 := Nat.eq_of_beq_eq_true hc
        have ht := Ts.tag c u (Nat.le_of_eq hc)
        rw [hc] at ht
        obtain ⟨s, hs, hle⟩ := hasTag_short ht
        exact ⟨s, hs.symm, by omega⟩
      · split at h
        · rename_i n' x y hm hc
          injection hm with hm
          subst hm
          split at h
          · rename_i a b ha hb
            injection h with h
            subst h
            obtain ⟨sa, h1, h2⟩ := ih x a ha
            obtain ⟨sb, h3, h4⟩ := ih y b hb
            have hc := Nat.eq_of_beq_eq_true hc
            subst hc
            have ht := Ts.tag 25 (.agg #[x, y]) (by decide)
            obtain ⟨s, hs, hlt⟩ := hasTag_str ht
            refine ⟨s, hs.symm, ?_⟩
            by_cases hsum : sa.size + sb.size < 9223372036854775808
            · have := Ts.bop .add 9 (by decide) x y (.string sa) (.string sb) (.string (sa ++ sb)) h1 h3 (if_pos hsum) (.inl ⟨rfl, by rw [ByteArray.size_append]; exact hsum⟩)
              have e : Th.val 25 (.agg #[x, y]) = .string (sa ++ sb) := this
              rw [hs] at e
              injection e with e
              rw [e, ByteArray.size_append]
              omega
            · omega
          · cases h
        · cases h
    | _ => cases h
/-- two strings one behind the other, parts in a row -/
def cat1 (x y : Value) : Value := match x, y with
  | .string a, .string b => .string ⟨⟨a.data.toList ++ b.data.toList⟩⟩
  | .string a, .iface c u => match a.data.toList with
    | [] => .iface c u
    | _ :: _ => match Nat.beq c 25, u with
      | true, .agg ⟨[.string b, r]⟩ => .iface 25 (.agg ⟨[.string ⟨⟨a.data.toList ++ b.data.toList⟩⟩, r]⟩)
      | _, _ => .iface 25 (.agg ⟨[.string a, .iface c u]⟩)
  | x, .string b => match b.data.toList with
    | [] => x
    | _ :: _ => .iface 25 (.agg ⟨[x, .string b]⟩)
  | x, y => .iface 25 (.agg ⟨[x, y]⟩)
def catN : Nat → Value → Value → Value
  | 0, x, y => .iface 25 (.agg ⟨[x, y]⟩)
  | n + 1, x, y => match x with
    | .iface c u => match Nat.beq c 25, u with
      | true, .agg ⟨[p, q]⟩ => cat1 p (catN n q y)
      | _, _ => cat1 (.iface c u) y
    | x => cat1 x y
omit [Th] in
theorem ba_append (a b : ByteArray) : (⟨⟨a.data.toList ++ b.data.toList⟩⟩ : ByteArray) = a ++ b := by
  apply ByteArray.ext
  apply Array.ext'
  simp
theorem val_cat [Ts] {x y : Value} {a b : ByteArray} (hx : De x (.string a)) (hy : De y (.string b)) (h : a.size + b.size < 9223372036854775808) : De (.iface 25 (.agg ⟨[x, y]⟩)) (.string (a ++ b)) :=
  (Ts.bop .add 9 (by decide) x y (.string a) (.string b) (.string (a ++ b)) hx hy (if_pos h) (.inl ⟨rfl, by rw [ByteArray.size_append]; exact h⟩)).symm
omit [Th] in
theorem ba_nil {a : ByteArray} (h : a.data.toList = []) (b : ByteArray) : a ++ b = b ∧ b ++ a = b := by
  have : a = ⟨⟨[]⟩⟩ := ByteArray.ext (Array.ext' h)
  subst this
  constructor
  · rw [← ba_append]
    rfl
  · rw [← ba_append]
    apply ByteArray.ext
    apply Array.ext'
    simp
def DecS (y : Value) (b : ByteArray) : Prop := ∀ (s : ByteArray) r, y = .iface 25 (.agg ⟨[.string s, r]⟩) → ∃ t, De r (.string t) ∧ b = s ++ t
theorem decS_lit {c : Nat} {x y : Value} {b : ByteArray} (h : ∀ s, x = .string s → ∃ t, De y (.string t) ∧ b = s ++ t) : DecS (.iface c (.agg ⟨[x, y]⟩)) b := by
  intro s r e
  injection e with _ e
  injection e with e
  injection e with e
  injection e with e1 e
  injection e with e2 e
  subst e1 e2
  exact h s rfl
theorem cat1_spec [Ts] {x y : Value} {a b : ByteArray} (hx : De x (.string a)) (hy : De y (.string b)) (h : a.size + b.size < 9223372036854775808) (ha : DecS x a) (hb : DecS y b) : De (cat1 x y) (.string (a ++ b)) ∧ DecS (cat1 x y) (a ++ b) := by
  cases x with
  | string a' =>
    obtain ⟨-, e1⟩ := hx
    injection e1 with e1
    subst e1
    cases y with
    | string b' =>
      obtain ⟨-, e2⟩ := hy
      injection e2 with e2
      subst e2
      show De (.string _) _ ∧ DecS (.string _) _
      rw [ba_append]
      exact ⟨⟨rfl, rfl⟩, fun s r e => by cases e⟩
    | iface c u =>
      unfold cat1
      simp only
      split
      · rename_i hn
        rw [(ba_nil hn b).1]
        exact ⟨hy, hb⟩
      · split
        · rename_i s2 r hc
          have hc := Nat.eq_of_beq_eq_true hc
          subst hc
          obtain ⟨t, ht, rfl⟩ := hb s2 r rfl
          rw [ba_append]
          rw [ByteArray.size_append] at h
          have := val_cat (x := .string (a ++ s2)) (y := r) ⟨rfl, rfl⟩ ht (by rw [ByteArray.size_append]; omega)
          rw [ByteArray.append_assoc] at this
          refine ⟨this, decS_lit fun s e => ?_⟩
          injection e with e
          subst e
          exact ⟨t, ht, by rw [ByteArray.append_assoc]⟩
        · refine ⟨val_cat (x := .string a) ⟨rfl, rfl⟩ hy h, decS_lit fun s e => ?_⟩
          injection e with e
          subst e
          exact ⟨b, hy, rfl⟩
    | _ => cases hy.2
  | iface c u =>
    cases y with
    | string b' =>
      obtain ⟨-, e1⟩ := hy
      injection e1 with e1
      subst e1
      unfold cat1
      simp only
      split
      · rename_i hn
        rw [(ba_nil hn a).2]
        exact ⟨hx, ha⟩
      · exact ⟨val_cat hx (y := .string b) ⟨rfl, rfl⟩ h, decS_lit fun s e => by cases e⟩
    | iface d v => exact ⟨val_cat hx hy h, decS_lit fun s e => by cases e⟩
    | _ => cases hy.2
  | _ => cases hx.2
theorem decS_bnd [Ts] {n k : Nat} {x : Value} {a : ByteArray} (h : strBnd n x = some k) (hk : k < 9223372036854775808) (hx : De x (.string a)) : DecS x a := by
  intro s r e
  subst e
  unfold strBnd at h
  split at h
  · rename_i hc
    cases hc
  · split at h
    · rename_i n' x y hm hc hu
      injection hu with hu
      injection hu with hu
      injection hu with e1 hu
      injection hu with e2 hu
      subst e1 e2
      split at h
      · rename_i p q hp hq
        injection h with h
        subst h
        obtain ⟨sa, h1, h2⟩ := strBnd_spec _ _ _ hp
        obtain ⟨sb, h3, h4⟩ := strBnd_spec _ _ _ hq
        have e := (val_cat h1 h3 (by omega)).one hx
        injection e with e
        have h1' : Value.string sa = .string s := h1.2
        injection h1' with h1'
        subst h1'
        exact ⟨sb, h3, e⟩
      · cases h
    · cases h
theorem catN_spec [Ts] : ∀ (n : Nat) (x y : Value) (a b : ByteArray) (k : Nat), strBnd n x = some k → k + b.size < 9223372036854775808 → De x (.string a) → De y (.string b) → DecS y b → De (catN n x y) (.string (a ++ b)) ∧ DecS (catN n x y) (a ++ b)
  | 0, x, y, a, b, k, hk, hs, hx, hy, hb => by
    obtain ⟨a', h1, h2⟩ := strBnd_spec _ _ _ hk
    have e := h1.one hx
    injection e with e
    subst e
    refine ⟨val_cat hx hy (by omega), decS_lit fun s e => ?_⟩
    subst e
    have := hx.2
    injection this with this
    subst this
    exact ⟨b, hy, rfl⟩
  | n + 1, x, y, a, b, k, hk, hs, hx, hy, hb => by
    obtain ⟨a', h1, h2⟩ := strBnd_spec _ _ _ hk
    have e := h1.one hx
    injection e with e
    subst e
    have base : De (cat1 x y) (.string (a ++ b)) ∧ DecS (cat1 x y) (a ++ b) := cat1_spec hx hy (by omega) (decS_bnd hk (by omega) hx) hb
    cases x with
    | iface c u =>
      unfold catN
      simp only
      split
      · rename_i p q hc
        have hc := Nat.eq_of_beq_eq_true hc
        subst hc
        have hk : (match strBnd n p, strBnd n q with | some a, some b => some (a + b) | _, _ => none) = some k := hk
        split at hk
        · rename_i kp kq hp hq
          injection hk with hk
          subst hk
          obtain ⟨sp, g1, g2⟩ := strBnd_spec _ _ _ hp
          obtain ⟨sq, g3, g4⟩ := strBnd_spec _ _ _ hq
          have e := (val_cat g1 g3 (by omega)).one hx
          injection e with e
          subst e
          rw [ByteArray.append_assoc]
          obtain ⟨r1, r2⟩ := catN_spec n q y sq b kq hq (by omega) g3 hy hb
          exact cat1_spec g1 r1 (by rw [ByteArray.size_append]; omega) (decS_bnd hp (by omega) g1) r2
        · cases hk
      · exact base
    | _ => exact base
/-- the sum of two strings that are not long -/
def tokCat (x y : Value) : Option Value := match isTok x || isTok y with
  | true => match strBnd 60 x, strBnd 60 y with
    | some a, some b => match Nat.blt (a + b) 4611686018427387904 with
      | true => some (catN 60 x y)
      | false => none
    | _, _ => none
  | false => none
/-- two terms that are the same compared -/
def sameT (op : BinOp) (x y : Value) : Option Value := match isTok x, teq 40 x y, tagN x with
  | true, true, some g => match Nat.ble g 7 with
    | true => match op with
      | .eql | .leq | .geq => some (.bool true)
      | .neq | .lss | .gtr => some (.bool false)
      | _ => none
    | false => match Nat.beq g 9, op with
      | true, .eql => some (.bool true)
      | true, .neq => some (.bool false)
      | _, _ => none
  | _, _, _ => none
def isAdd : BinOp → Bool
  | .add => true
  | _ => false
def tokBin (F : Fs) (op : BinOp) (x y : Value) : Option Value := match sameT op x y with
  | some v => some v
  | none => match tokB op x y with
    | some t => some (ask F t)
    | none => match isAdd op with
      | true => tokCat x y
      | false => none
/-- the smaller or the greater one of two integers, by a decision -/
def pick2 (F : Fs) (op : BinOp) (x y : Value) : Option Value := match tagN x with
  | some g => match Nat.ble g 7, tokBin F op y x with
    | true, some (.bool true) => some y
    | true, some (.bool false) => some x
    | _, _ => none
  | none => none
/-- an operation over letters, without a world -/
def tokOp (P : Program) (F : Fs) (a : Operand → Value) : Op → Option Value
  | .binOp op _ x y _ => tokBin F op (a x) (a y)
  | .unOp .not _ x => match ask F (a x) with
    | .bool true => some (.bool false)
    | .bool false => some (.bool true)
    | .iface c u => match Nat.beq (Nat.mod c 16) 8 with
      | true => tokU 0 8 (.iface c u)
      | false => none
    | _ => none
  | .pick c x y => match ask F (a c) with
    | .bool true => some (a x)
    | .bool false => some (a y)
    | _ => none
  | .convert s d x => match a x, P.underlying s, P.underlying d with
    | .iface c u, some _, some (.int k) => match Nat.ble (Nat.mod c 16) 7, Nat.beq (kN k) (Nat.mod c 16) with
      | true, true => some (.iface c u)
      | true, false => tokU (1 + kN k) (kN k) (.iface c u)
      | _, _ => none
    | .iface c u, some _, some .string => match Nat.beq (Nat.mod c 16) 9 with
      | true => some (.iface c u)
      | _ => none
    | _, _, _ => none
  | .call { callee := .builtin .len, args := ⟨[x]⟩, argTypes := ⟨[T]⟩ } => match a x, isStr P T with
    | .iface c u, true => match Nat.beq (Nat.mod c 16) 9 with
      | true => tokU 9 3 (.iface c u)
      | false => none
    | .iface c u, false => match Nat.beq (Nat.mod c 16) 10, isSl P T with
      | true, true => tokU 9 3 (.iface c u)
      | _, _ => none
    | _, _ => none
  | .call { callee := .builtin .min, args := ⟨[x, y]⟩, argTypes := _ } => pick2 F .lss (a x) (a y)
  | .call { callee := .builtin .max, args := ⟨[x, y]⟩, argTypes := _ } => pick2 F .gtr (a x) (a y)
  | .indexAddr T x i => match a x with
    | .iface c u => match Nat.beq (Nat.mod c 16) 10, sizeE P T, tagN (a i) with
      | true, some z, some g => match Nat.ble g 7, inRange F (.iface c u) (a i) with
        | true, true => tokIx z (.iface c u) (a i)
        | _, _ => none
      | _, _, _ => none
    | _ => none
  | .fieldAddr T x f => match a x, offF P T f with
    | .iface c u, some o => match Nat.beq (Nat.mod c 16) 11 with
      | true => tokOff o (.iface c u)
      | false => none
    | _, _ => none
  | .nilCheck x => match a x with
    | .iface c u => match Nat.beq (Nat.mod c 16) 11 with
      | true => some (.iface c u)
      | false => none
    | _ => none
  | _ => none
omit [Th] in
theorem ans_next {s : Sem Value} {v : Value} (h : ans P s = some v) : ans P (do pure (Next.value (← s))) = some (.value v) := by
  have : ∀ (s : Sem Value), ans P s = some v → ans P (do pure (Next.value (← s))) = some (.value v) := by
    intro s
    induction s with
    | pure a => intro h; injection h with h; subst h; rfl
    | program k ih => intro h; exact ih P h
    | mark q k ih => intro h; exact ih h
    | _ => intro h; cases h
  exact this s h
omit [Th] in
theorem ans_bind {α β : Type} {f : α → Sem β} {s : Sem α} {a : α} {b : β} (h : ans P s = some a) (k : ans P (f a) = some b) : ans P (s >>= f) = some b := by
  have : ∀ (s : Sem α), ans P s = some a → ans P (s.bind f) = some b := by
    intro s
    induction s with
    | pure c => intro h; injection h with h; subst h; exact k
    | program q ih => intro h; exact ih P h
    | mark q c ih => intro h; exact ih h
    | _ => intro h; cases h
  exact this s h
omit [Th] in
theorem ans_underlying {t : TypeId} {d : TypeDesc} (h : P.underlying t = some d) : ans P (underlying t) = some d := by
  show ans P (match P.underlying t with | some d => pure d | none => stuck "no such type") = _
  rw [h]
  rfl
omit [Th] in
theorem ans_bindE {α β : Type} {f : α → Sem β} (s : Sem α) : ans P (s >>= f) = match ans P s with | some a => ans P (f a) | none => none := by
  show ans P (s.bind f) = _
  induction s with
  | pure c => rfl
  | program q ih => exact ih P
  | mark q c ih => exact ih
  | _ => rfl
omit [Th] in
theorem ans_pure {α : Type} (a : α) : ans P (pure a : Sem α) = some a := rfl
omit [Th] in
theorem ans_typeInfo {t : TypeId} {i : TypeInfo} (h : P.info? t = some i) : ans P (typeInfo t) = some i := by
  show ans P (match P.info? t with | some d => pure d | none => stuck "no such type") = _
  rw [h]
  rfl
omit [Th] in
theorem ans_sizeOf {t : TypeId} {i : TypeInfo} (h : P.info? t = some i) : ans P (sizeOf t) = some i.size := by
  unfold sizeOf
  rw [ans_bindE, ans_typeInfo h]
  rfl
omit [Th] in
theorem bOf_none (z : Nat) : bOf (64 + z) = none := by
  cases h : bOf (64 + z) with
  | none => rfl
  | some op =>
    have := bN_bOf h
    have h2 : bN op ≤ 17 := by cases op <;> decide
    omega
omit [Th] in
theorem spot_add (p : Addr) (n : Nat) (h : p.spot = none) : (p.add n).spot = none := by
  unfold Addr.add
  split
  · exact h
  · rfl
omit [Th] in
theorem ans_indexAt {T : TypeId} {z : Nat} (h : sizeE P T = some z) (p : Addr) (n c : Nat) (m : Int) (ik : IntKind) (h0 : 0 ≤ m) (h1 : m < n) : ans P (Instr.indexAt T (.slice (some p) n c) (.int ik m)) = some (.pointer (some (p.add (m.toNat * z)))) := by
  unfold sizeE at h
  split at h
  · rename_i e hu
    split at h
    · rename_i i hi
      injection h with h
      subst h
      unfold Instr.indexAt
      show ans P (pure (ik, m) >>= _) = _
      rw [ans_bindE, ans_pure]
      simp only
      rw [ans_bindE, ans_underlying hu]
      simp only
      show ans P (pure (some p, n, e) >>= _) = _
      rw [ans_bindE, ans_pure]
      simp only
      rw [ans_bindE, ans_underlying hu]
      simp only
      rw [if_pos ⟨h0, h1⟩]
      rw [ans_bindE, ans_sizeOf hi]
      rfl
    · cases h
  · cases h
omit [Th] in
theorem ans_fieldAt {T : TypeId} {f o : Nat} (h : offF P T f = some o) (a : Addr) : ans P (Instr.fieldAt T (.pointer (some a)) f) = some (.pointer (some (a.add o))) := by
  unfold offF at h
  split at h
  · rename_i fs hu
    split at h
    · rename_i x hx
      split at h
      · rename_i i hi
        split at h
        · rename_i hz
          injection h with h
          subst h
          unfold Instr.fieldAt
          rw [ans_bindE, ans_underlying hu]
          simp only [hx]
          show ans P (pure a >>= fun a => fieldPlace a x >>= fun q => pure (Value.pointer (some q))) = _
          rw [ans_bindE, ans_pure]
          simp only
          rw [ans_bindE]
          unfold fieldPlace
          rw [ans_bindE, ans_sizeOf hi]
          simp only
          rw [if_neg (Nat.ne_of_beq_eq_false hz)]
          rfl
        · cases h
      · cases h
    · cases h
  · cases h
theorem tag_of [Ts] {c : Nat} {u X : Value} (h : De (.iface c u) X) (k : c % 16 ≤ 12) : hasTag (c % 16) X := by
  have h : X = Th.val c u := h
  rw [h]
  exact Ts.tag c u k
theorem sameT_sound [Ts] {op : BinOp} {r : List Nat} {x y X Y w : Value} (h : sameT op x y = some w) (hx : V3 r x X) (hy : V3 r y Y) : sBin op X Y = some w ∧ still3 w = true := by
  unfold sameT at h
  split at h
  · rename_i g htok hteq hg
    have := teq_eq _ _ _ hteq
    subst this
    have hdx := hx.de hg
    have hdy := hy.de hg
    have := hdx.one hdy
    subst this
    split at h
    · rename_i h7
      obtain ⟨k, a, rfl, -⟩ := tagN_int hg hdy (Nat.le_of_ble_eq_true h7)
      cases op <;> simp only at h <;> first
        | (cases h; done)
        | (injection h with h; subst h; simp [sBin, kEq_refl, still3, still, dry]; done)
    · split at h
      · rename_i h9
        obtain ⟨s, rfl⟩ := tagN_str (by rw [hg, Nat.eq_of_beq_eq_true h9]) hdy
        injection h with h
        subst h
        simp [sBin, still3, still, dry]
      · rename_i h9
        obtain ⟨s, rfl⟩ := tagN_str (by rw [hg, Nat.eq_of_beq_eq_true h9]) hdy
        injection h with h
        subst h
        simp [sBin, still3, still, dry]
      · cases h
  · cases h
theorem tokCat_sound [Ts] {r : List Nat} {x y X Y t : Value} (h : tokCat x y = some t) (hx : V3 r x X) (hy : V3 r y Y) : ∃ R, sBin .add X Y = some R ∧ V3 r t R := by
  unfold tokCat at h
  split at h
  · rename_i htok
    split at h
    · rename_i a b ha hb
      split at h
      · rename_i hlt
        have hlt : a + b < 4611686018427387904 := by simpa [Nat.blt_eq] using hlt
        injection h with h
        subst h
        obtain ⟨sa, h1, h2⟩ := strBnd_spec _ _ _ ha
        obtain ⟨sb, h3, h4⟩ := strBnd_spec _ _ _ hb
        have de : ∀ {n k : Nat} {u V : Value}, strBnd n u = some k → V3 r u V → De u V := fun {n k u V} hk hV => by
          cases u <;> first
            | exact hV
            | (cases n <;> cases hk)
        have e1 := h1.one (de ha hx)
        have e2 := h3.one (de hb hy)
        subst e1 e2
        obtain ⟨g1, -⟩ := catN_spec 60 x y sa sb a ha (by omega) h1 h3 (decS_bnd hb (by omega) h3)
        refine ⟨.string (sa ++ sb), if_pos (by omega), ?_⟩
        have tok : ∀ {z : Value} {s : ByteArray}, De z (.string s) → V3 r z (.string s) := fun {z s} hz => by
          cases z <;> first
            | exact hz
            | cases hz.2
        exact tok g1
      · cases h
    · cases h
  · cases h
theorem tokBin_sound [Ts] {F : Fs} (hF : SatL F) {op : BinOp} {r : List Nat} {x y X Y v : Value} (e : tokBin F op x y = some v) (hx : V3 r x X) (hy : V3 r y Y) : ∃ R, sBin op X Y = some R ∧ V3 r v R := by
  unfold tokBin at e
  split at e
  · rename_i w hw
    injection e with e
    subst e
    obtain ⟨hd, hs⟩ := sameT_sound hw hx hy
    exact ⟨w, hd, still3_V3 hs⟩
  · split at e
    · rename_i t ht
      injection e with e
      subst e
      obtain ⟨g, g', hg, hg'⟩ : ∃ g g', tagN x = some g ∧ tagN y = some g' := by
        unfold tokB at ht
        split at ht
        · split at ht
          · exact ⟨_, _, by assumption, by assumption⟩
          · cases ht
        · cases ht
      obtain ⟨R, h1, h2⟩ := tokB_sound ht (hx.de hg) (hy.de hg')
      obtain ⟨c, u, rfl⟩ : ∃ c u, t = .iface c u := by
        unfold tokB at ht
        simp only [fN_eq, fV_eq] at ht
        split at ht
        · split at ht
          · split at ht
            · split at ht
              · injection ht with ht
                exact ⟨_, _, ht.symm⟩
              · cases ht
            · cases ht
          · cases ht
        · cases ht
      exact ⟨R, h1, ask_v3 hF h2⟩
    · split at e
      · rename_i ha
        have : op = .add := by cases op <;> first | rfl | cases ha
        subst this
        exact tokCat_sound e hx hy
      · cases e
theorem pick2_sound [Ts] {F : Fs} (hF : SatL F) {op : BinOp} {r : List Nat} {x y X Y v : Value} (e : pick2 F op x y = some v) (hx : V3 r x X) (hy : V3 r y Y) : ∃ k a q, X = .int k a ∧ sBin op Y X = some (.bool q) ∧ V3 r v (if q then Y else X) := by
  unfold pick2 at e
  split at e
  · rename_i g hg
    split at e
    · rename_i hle hq
      injection e with e
      subst e
      obtain ⟨k, n, hk, -⟩ := tagN_int hg (hx.de hg) (Nat.le_of_ble_eq_true hle)
      obtain ⟨R, h1, h2⟩ := tokBin_sound hF hq hy hx
      obtain ⟨-, rfl⟩ := h2
      exact ⟨k, n, true, hk, h1, hy⟩
    · rename_i hle hq
      injection e with e
      subst e
      obtain ⟨k, n, hk, -⟩ := tagN_int hg (hx.de hg) (Nat.le_of_ble_eq_true hle)
      obtain ⟨R, h1, h2⟩ := tokBin_sound hF hq hy hx
      obtain ⟨-, rfl⟩ := h2
      exact ⟨k, n, false, hk, h1, hx⟩
    · cases e
  · cases e
omit [Th] in
theorem min_ans (ts : Array TypeId) (T : TypeId) (k : IntKind) (a c : Int) : ans P (Builtin.min_ ts T #[.int k a, .int k c]) = some (.int k (if c < a then c else a)) := by
  have : Builtin.min_ ts T #[.int k a, .int k c] = pure (.int k (if c < a then c else a)) := by simp [Builtin.min_, Builtin.min2]
  rw [this]
  rfl
omit [Th] in
theorem max_ans (ts : Array TypeId) (T : TypeId) (k : IntKind) (a c : Int) : ans P (Builtin.max_ ts T #[.int k a, .int k c]) = some (.int k (if c > a then c else a)) := by
  have : Builtin.max_ ts T #[.int k a, .int k c] = pure (.int k (if c > a then c else a)) := by simp [Builtin.max_, Builtin.max2]
  rw [this]
  rfl
omit [Th] in
theorem sBin_ints {op : BinOp} {k : IntKind} {a : Int} {Y R : Value} (h : sBin op Y (.int k a) = some R) : ∃ c, Y = .int k c := by
  cases Y with
  | int j c =>
    simp only [sBin] at h
    cases hk : kEq j k with
    | true => rw [kEq_eq hk]; exact ⟨c, rfl⟩
    | false => rw [hk] at h; cases h
  | _ => simp [sBin] at h
theorem tokOp_sound [Ts] {F : Fs} (hF : SatL F) {r : List Nat} {a b : Operand → Value} {o : Oper} {v : Value} (e : tokOp P F a o.op = some v) (h : ∀ x ∈ o.op.operands, V3 r (a x) (b x)) :
    ∃ v', V3 r v v' ∧ ans P (execOp b o) = some (.value v') := by
  obtain ⟨dst, op, type, pos, after, guard⟩ := o
  simp only at e h ⊢
  unfold tokOp at e
  split at e
  · rename_i bop T x y yt
    have hx := h x (by simp [Op.operands])
    have hy := h y (by simp [Op.operands])
    obtain ⟨R, h1, h2⟩ := tokBin_sound hF e hx hy
    exact ⟨R, h2, by simp only [execOp]; exact ans_next (sBin_ans h1)⟩
  · rename_i T x
    have hx := h x (by simp [Op.operands])
    have key : ∀ c, b x = .bool c → ans P (execOp b ⟨dst, .unOp .not T x, type, pos, after, guard⟩) = some (.value (.bool (!c))) := by
      intro c hc
      simp only [execOp, hc]
      rfl
    split at e
    · rename_i hb
      injection e with e
      subst e
      exact ⟨_, ⟨rfl, rfl⟩, key _ (ask_bool hF hx hb)⟩
    · rename_i hb
      injection e with e
      subst e
      exact ⟨_, ⟨rfl, rfl⟩, key _ (ask_bool hF hx hb)⟩
    · rename_i c u hb
      split at e
      · rename_i hc
        have hc : c % 16 = 8 := Nat.eq_of_beq_eq_true hc
        have hax : a x = .iface c u := by
          cases hq : a x with
          | iface c' u' =>
            rw [hq] at hb
            rcases ask_cases F c' u' with e' | ⟨q, e'⟩
            · rw [e'] at hb
              exact hb
            · rw [e'] at hb
              cases hb
          | _ => rw [hq] at hb; cases hb
        rw [hax] at hx
        have hd : De (.iface c u) (b x) := hx
        have ht := tag_of hd (Nat.le_trans (Nat.le_of_eq hc) (by decide))
        rw [hc] at ht
        obtain ⟨q, hq⟩ := hasTag_bool ht
        obtain ⟨h1, c', u', rfl⟩ := tokU_sound (R := .bool (!q)) e hd (by rw [hq]; rfl) rfl (by decide) (by decide)
        exact ⟨_, tok_v3 h1, key q hq⟩
      · cases e
    · cases e
  · rename_i c x y
    have hc := h c (by simp [Op.operands])
    have hx := h x (by simp [Op.operands])
    have hy := h y (by simp [Op.operands])
    split at e
    · rename_i hb
      injection e with e
      subst e
      have := ask_bool hF hc hb
      exact ⟨b x, hx, by simp only [execOp, this]; rfl⟩
    · rename_i hb
      injection e with e
      subst e
      have := ask_bool hF hc hb
      exact ⟨b y, hy, by simp only [execOp, this]; rfl⟩
    · cases e
  · rename_i s d x
    have hx := h x (by simp [Op.operands])
    split at e
    · rename_i c u d1 k hax h1 h2
      rw [hax] at hx
      have hd : De (.iface c u) (b x) := hx
      have key : ∀ (j : IntKind) (n : Int), b x = .int j n → ans P (execOp b ⟨dst, .convert s d x, type, pos, after, guard⟩) = some (.value (.int k (k.wrap n))) := by
        intro j n hn
        simp only [execOp, hn]
        refine ans_next ?_
        unfold convert
        refine ans_bind (ans_underlying h1) (ans_bind (ans_underlying h2) ?_)
        simp only
        rfl
      split at e
      · rename_i hle hk
        have hle : c % 16 ≤ 7 := Nat.le_of_ble_eq_true hle
        have hk : kN k = c % 16 := Nat.eq_of_beq_eq_true hk
        injection e with e
        subst e
        have ht := tag_of hd (Nat.le_trans hle (by decide))
        obtain ⟨j, n, hn, hj⟩ := hasTag_int ht hle
        have := kN_inj (hj.trans hk.symm)
        subst this
        rw [hn, ← hk] at ht
        refine ⟨b x, tok_v3 hd, ?_⟩
        rw [key j n hn, wrap_id ht, hn]
      · rename_i hle hk
        have hle : c % 16 ≤ 7 := Nat.le_of_ble_eq_true hle
        have ht := tag_of hd (Nat.le_trans hle (by decide))
        obtain ⟨j, n, hn, hj⟩ := hasTag_int ht hle
        obtain ⟨g1, c', u', rfl⟩ := tokU_sound (R := .int k (k.wrap n)) e hd (by
          rw [hn, Nat.add_comm]
          simp only [sUn, kOf_kN]) (tag_int k n) (by have := kN_le k; omega) (by have := kN_le k; omega)
        exact ⟨_, tok_v3 g1, key j n hn⟩
      · cases e
    · rename_i c u d1 hax h1 h2
      rw [hax] at hx
      have hd : De (.iface c u) (b x) := hx
      split at e
      · rename_i hk
        have hk : c % 16 = 9 := Nat.eq_of_beq_eq_true hk
        injection e with e
        subst e
        have ht := tag_of hd (Nat.le_trans (Nat.le_of_eq hk) (by decide))
        rw [hk] at ht
        obtain ⟨q, hq, -⟩ := hasTag_str ht
        refine ⟨b x, tok_v3 hd, ?_⟩
        simp only [execOp, hq]
        refine ans_next ?_
        unfold convert
        refine ans_bind (ans_underlying h1) (ans_bind (ans_underlying h2) ?_)
        cases d1 <;> rfl
      · cases e
    · cases e
  · rename_i x T
    have hx := h x (by simp [Op.operands, Call.operands])
    split at e
    · rename_i c u hax hst
      rw [hax] at hx
      have hd : De (.iface c u) (b x) := hx
      split at e
      · rename_i hk
        have hk : c % 16 = 9 := Nat.eq_of_beq_eq_true hk
        have ht := tag_of hd (Nat.le_trans (Nat.le_of_eq hk) (by decide))
        rw [hk] at ht
        obtain ⟨q, hq, hqs⟩ := hasTag_str ht
        obtain ⟨g1, c', u', rfl⟩ := tokU_sound (R := .int .i64 q.size) e hd (by rw [hq]; rfl) ⟨rfl, by simp [IntKind.min, IntKind.bits, IntKind.signed]; try omega, by simp [IntKind.max, IntKind.bits, IntKind.signed]; try omega⟩ (by decide) (by decide)
        refine ⟨_, tok_v3 g1, ?_⟩
        obtain ⟨d, hd2⟩ : ∃ d, ∀ g : Operand → Value, resolve g ⟨.builtin .len, ⟨[x]⟩, ⟨[T]⟩⟩ type = pure ⟨.builtin .len ⟨[T]⟩ type d, #[g x]⟩ := ⟨_, fun g => by simp only [resolve, List.map_toArray, List.map_cons, List.map_nil]; rfl⟩
        simp only [execOp]
        rw [hd2, hq]
        show ans P (do pure (Next.value (← Builtin.len_ ⟨[T]⟩ type #[.string q]))) = _
        refine ans_next ?_
        unfold Builtin.len_
        simp only [List.getElem?_toArray, List.getElem?_cons_zero]
        refine ans_bind (ans_underlying (isStr_spec hst)) ?_
        rfl
      · cases e
    · rename_i c u hax hst
      rw [hax] at hx
      have hd : De (.iface c u) (b x) := hx
      split at e
      · rename_i hk hsl
        obtain ⟨el, hel⟩ := isSl_spec hsl
        have hk : c % 16 = 10 := Nat.eq_of_beq_eq_true hk
        have ht := tag_of hd (Nat.le_trans (Nat.le_of_eq hk) (by decide))
        rw [hk] at ht
        obtain ⟨p, n, cap, hq, hqs, hq0, hqp⟩ := hasTag_slice ht
        obtain ⟨g1, c', u', rfl⟩ := tokU_sound (R := .int .i64 n) e hd (by rw [hq]; rfl) ⟨rfl, by simp [IntKind.min, IntKind.bits, IntKind.signed]; try omega, by simp [IntKind.max, IntKind.bits, IntKind.signed]; try omega⟩ (by decide) (by decide)
        refine ⟨_, tok_v3 g1, ?_⟩
        obtain ⟨d, hd2⟩ : ∃ d, ∀ g : Operand → Value, resolve g ⟨.builtin .len, ⟨[x]⟩, ⟨[T]⟩⟩ type = pure ⟨.builtin .len ⟨[T]⟩ type d, #[g x]⟩ := ⟨_, fun g => by simp only [resolve, List.map_toArray, List.map_cons, List.map_nil]; rfl⟩
        simp only [execOp]
        rw [hd2, hq]
        show ans P (do pure (Next.value (← Builtin.len_ ⟨[T]⟩ type #[.slice p n cap]))) = _
        refine ans_next ?_
        unfold Builtin.len_
        simp only [List.getElem?_toArray, List.getElem?_cons_zero]
        refine ans_bind (ans_underlying hel) ?_
        rfl
      · cases e
    · cases e
  · rename_i x y ts
    have hx := h x (by simp [Op.operands, Call.operands])
    have hy := h y (by simp [Op.operands, Call.operands])
    obtain ⟨k, n, q, hX, hs, hv⟩ := pick2_sound hF e hx hy
    rw [hX] at hs
    obtain ⟨c, hY⟩ := sBin_ints hs
    refine ⟨_, hv, ?_⟩
    obtain ⟨d, hd2⟩ : ∃ d, ∀ g : Operand → Value, resolve g ⟨.builtin .min, ⟨[x, y]⟩, ts⟩ type = pure ⟨.builtin .min ts type d, #[g x, g y]⟩ := ⟨_, fun g => by simp only [resolve, List.map_toArray, List.map_cons, List.map_nil]; rfl⟩
    simp only [execOp]
    rw [hd2, hX, hY]
    show ans P (do pure (Next.value (← Builtin.min_ ts type #[.int k n, .int k c]))) = _
    refine ans_next ?_
    rw [hY] at hs
    have hs : some (Value.bool (decide (c < n))) = some (.bool q) := by
      have e1 : sBin .lss (.int k c) (.int k n) = some (.bool (decide (c < n))) := by
        unfold sBin
        have : kEq k k = true := by cases k <;> rfl
        simp only [this]
      rw [← e1]
      exact hs
    injection hs with hs
    injection hs with hs
    subst hs
    rw [min_ans]
    by_cases hlt : c < n <;> simp [hlt]
  · rename_i x y ts
    have hx := h x (by simp [Op.operands, Call.operands])
    have hy := h y (by simp [Op.operands, Call.operands])
    obtain ⟨k, n, q, hX, hs, hv⟩ := pick2_sound hF e hx hy
    rw [hX] at hs
    obtain ⟨c, hY⟩ := sBin_ints hs
    refine ⟨_, hv, ?_⟩
    obtain ⟨d, hd2⟩ : ∃ d, ∀ g : Operand → Value, resolve g ⟨.builtin .max, ⟨[x, y]⟩, ts⟩ type = pure ⟨.builtin .max ts type d, #[g x, g y]⟩ := ⟨_, fun g => by simp only [resolve, List.map_toArray, List.map_cons, List.map_nil]; rfl⟩
    simp only [execOp]
    rw [hd2, hX, hY]
    show ans P (do pure (Next.value (← Builtin.max_ ts type #[.int k n, .int k c]))) = _
    refine ans_next ?_
    rw [hY] at hs
    have hs : some (Value.bool (decide (n < c))) = some (.bool q) := by
      have e1 : sBin .gtr (.int k c) (.int k n) = some (.bool (decide (n < c))) := by
        unfold sBin
        have : kEq k k = true := by cases k <;> rfl
        simp only [this]
      rw [← e1]
      exact hs
    injection hs with hs
    injection hs with hs
    subst hs
    rw [max_ans]
    by_cases hlt : n < c <;> simp [hlt]
  · rename_i T x i
    have hx := h x (by simp [Op.operands])
    have hi := h i (by simp [Op.operands])
    split at e
    · rename_i c u hax
      rw [hax] at hx
      have hd : De (.iface c u) (b x) := hx
      split at e
      · rename_i z g hk hz hg
        split at e
        · rename_i hle hir
          have hk : c % 16 = 10 := Nat.eq_of_beq_eq_true hk
          have ht := tag_of hd (Nat.le_trans (Nat.le_of_eq hk) (by decide))
          rw [hk] at ht
          obtain ⟨p, n, cap, hq, hqs, hq0, hqp⟩ := hasTag_slice ht
          obtain ⟨k, m, hm, -⟩ := tagN_int hg (hi.de hg) (Nat.le_of_ble_eq_true hle)
          rw [hq] at hd
          have hdi := hi.de hg
          rw [hm] at hdi
          obtain ⟨h0, h1⟩ := inRange_spec hF hir hd hqs hdi
          cases p with
          | none =>
            have := hq0 rfl
            omega
          | some p =>
          unfold tokIx at e
          rw [fN_eq, fV_eq] at e
          injection e with e
          subst e
          have hsp := hqp p rfl (by omega)
          have hR : Th.val (16 * (64 + z) + 11) (.agg #[.iface c u, a i]) = .pointer (some (p.add (m.toNat * z))) := by
            have e1 : (16 * (64 + z) + 11) / 16 = 64 + z := by omega
            have e2 : (16 * (64 + z) + 11) % 16 = 11 := by omega
            refine Ts.bin _ _ _ _ _ _ hd hdi ?_ ?_
            · rw [e1]
              unfold sem2
              rw [bOf_none z]
              simp only
              rw [if_pos ⟨by omega, h0, h1⟩, Nat.add_sub_cancel_left]
            · rw [e2]
              exact ⟨rfl, spot_add p _ hsp⟩
          refine ⟨_, tok_v3 (X := .pointer (some (p.add (m.toNat * z)))) hR.symm, ?_⟩
          simp only [execOp, hq, hm]
          exact ans_next (ans_indexAt hz p n cap m k h0 h1)
        · cases e
      · cases e
    · cases e
  · rename_i T x f
    have hx := h x (by simp [Op.operands])
    split at e
    · rename_i c u o hax ho
      rw [hax] at hx
      have hd : De (.iface c u) (b x) := hx
      split at e
      · rename_i hk
        have hk : c % 16 = 11 := Nat.eq_of_beq_eq_true hk
        have ht := tag_of hd (Nat.le_trans (Nat.le_of_eq hk) (by decide))
        rw [hk] at ht
        obtain ⟨p, hp, hsp⟩ := hasTag_ptr ht
        have ha : ans P (execOp b ⟨dst, .fieldAddr T x f, type, pos, after, guard⟩) = some (.value (.pointer (some (p.add o)))) := by
          simp only [execOp, hp]
          exact ans_next (ans_fieldAt ho p)
        unfold tokOff at e
        split at e
        · injection e with e
          subst e
          refine ⟨b x, tok_v3 hd, ?_⟩
          rw [ha, hp]
          rfl
        · rename_i o'
          rw [fN_eq] at e
          injection e with e
          subst e
          refine ⟨_, tok_v3 (X := .pointer (some (p.add (o' + 1)))) ?_, ha⟩
          have e1 : (16 * (4096 + (o' + 1)) + 11) / 16 = 4096 + (o' + 1) := by omega
          have e2 : (16 * (4096 + (o' + 1)) + 11) % 16 = 11 := by omega
          refine (Ts.un _ _ _ _ ?_ ?_).symm
          · have hd : b x = Th.val c u := hd
            rw [e1, ← hd, hp]
            unfold sem1
            rw [if_neg (by omega), Nat.add_sub_cancel_left]
          · rw [e2]
            exact ⟨rfl, spot_add p _ hsp⟩
      · cases e
    · cases e
  · rename_i x
    have hx := h x (by simp [Op.operands])
    split at e
    · rename_i c u hax
      rw [hax] at hx
      have hd : De (.iface c u) (b x) := hx
      split at e
      · rename_i hk
        have hk : c % 16 = 11 := Nat.eq_of_beq_eq_true hk
        injection e with e
        subst e
        have ht := tag_of hd (Nat.le_trans (Nat.le_of_eq hk) (by decide))
        rw [hk] at ht
        obtain ⟨p, hp, -⟩ := hasTag_ptr ht
        exact ⟨b x, tok_v3 hd, by simp only [execOp, hp]; rfl⟩
      · cases e
    · cases e
  · cases e
end
end Go.Sx
