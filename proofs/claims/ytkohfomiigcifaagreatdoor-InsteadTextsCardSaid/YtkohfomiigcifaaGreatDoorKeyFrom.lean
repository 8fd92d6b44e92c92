/-
  CONTRACT OF LAYER 11 (keyword): namesFrom, a switch with fallthrough: the names from a bit on, a row of the call's own. The switch is walked by laws over any codes: a test, an arm, a block with its arm behind it. By an AI agent.
-/
import Derived.Test.YtkohfomiigcifaaGreatDoorKeyPlain
import Derived.Test.YtkohfomiigcifaaGreatDoorStrs
import Derived.WalkKit
import Derived.WalkLawsBesides
import Derived.BigQuiet
import Derived.Handy
import Derived.Lib.Hide
namespace Go.Proofs.YtkohfomiigcifaaGreatDoor
open Go.RowKit

/-- the state of the switch: n slots, none deferred, the row in slot 3, the number that is looked at in slot 4 -/
structure SwAt (n : Nat) (a : Act) (v : Value) (i : Int) : Prop where
  size : a.tmps.size = n
  none : a.defers = []
  row : a.tmps.getD 3 undef = v
  num : a.tmps.getD 4 undef = .int .i64 i
theorem getD_set_same {a : Array Value} {d : Nat} (h : d < a.size) (v : Value) : (a.setIfInBounds d v).getD d undef = v := by
  simp [Array.getD_eq_getD_getElem?, h]
theorem getD_set_other {a : Array Value} {d e : Nat} (h : d ≠ e) (v : Value) : (a.setIfInBounds d v).getD e undef = a.getD e undef := by
  simp [Array.getD_eq_getD_getElem?, h]
theorem SwAt.put {n : Nat} {a : Act} {v : Value} {i : Int} (h : SwAt n a v i) {d : Nat} (h3 : d ≠ 3) (h4 : d ≠ 4) (x : Value) : SwAt n (a.put (some d) x) v i :=
  ⟨by simp [Act.put, h.size], h.none, by simp only [Act.put]; rw [getD_set_other h3]; exact h.row, by simp only [Act.put]; rw [getD_set_other h4]; exact h.num⟩
theorem SwAt.put3 {n : Nat} {a : Act} {v : Value} {i : Int} (h : SwAt n a v i) (hn : 3 < n) (x : Value) : SwAt n (a.put (some 3) x) x i :=
  ⟨by simp [Act.put, h.size], h.none, by simp only [Act.put]; exact getD_set_same (by rw [h.size]; exact hn) x, by simp only [Act.put]; rw [getD_set_other (by omega)]; exact h.num⟩
theorem SwAt.eval_put {n : Nat} {a : Act} {v : Value} {i : Int} (h : SwAt n a v i) {d : Nat} (hd : d < n) (x : Value) : (a.put (some d) x).eval (.tmp d) = x := by
  simp only [Act.put, Act.eval]
  exact getD_set_same (by rw [h.size]; exact hd) x
theorem eval_other {a : Act} {d e : Nat} (h : d ≠ e) (x : Value) : (a.put (some d) x).eval (.tmp e) = a.eval (.tmp e) := by
  simp only [Act.put, Act.eval]
  exact getD_set_other h x
/-- a test and the way out behind it -/
theorem sw_test {r d e k n : Nat} {c i : Int} {p1 p2 : String} {f1 f2 : Array Edge} {Q : Exit → Act → World → Prop} {a : Act} {w : World} {v : Value}
    (hd : 4 < d) (he : 4 < e) (hdn : d < n) (hen : e < n) (h : SwAt n a v i)
    (hy : i = c → ∀ a', SwAt n a' v i → Q (.exit k) a' w) (hn : i ≠ c → ∀ a', SwAt n a' v i → Q .normal a' w) :
    ((Code.region r #[{ dst := some d, op := .binOp .eql 3 (.tmp 4) (.const (.int .i64 c)) 3, type := 4, pos := p1, after := f1, guard := Option.none },
      { dst := some e, op := .assign (.tmp d), type := 4, pos := p2, after := f2, guard := Option.none }] false).seq (Code.cond (.tmp e) (Code.exit k) Code.skip)).wp Tryz.prog Q a w := by
  have hv : a.eval (.tmp 4) = .int .i64 i := h.num
  refine wp_seq (wp_region_lit (wpList_plain rfl fun K hK => ?_))
  unfold Oper.wp
  simp only [execOp]
  rw [hv]
  go_simp
  refine hK (a.put (some d) (.bool (i == c))) w (wpList_plain rfl fun K2 hK2 => ?_)
  have h1 := h.put (d := d) (by omega) (by omega) (.bool (i == c))
  have h2 := h1.put (d := e) (by omega) (by omega) (.bool (i == c))
  unfold Oper.wp
  simp only [execOp]
  rw [h.eval_put hdn]
  go_simp
  refine hK2 ((a.put (some d) (.bool (i == c))).put (some e) (.bool (i == c))) w ?_
  show (Code.cond (.tmp e) (Code.exit k) Code.skip).wp Tryz.prog Q _ w
  refine wp_cond (h1.eval_put hen _) ?_
  by_cases hc : i = c
  · rw [show (i == c) = true by simpa using hc, if_pos rfl]
    rw [show (i == c) = true by simpa using hc] at h2
    exact wp_exit (hy hc _ h2)
  · rw [show (i == c) = false by simpa using hc, if_neg (by simp)]
    rw [show (i == c) = false by simpa using hc] at h2
    exact wp_skip (hn hc _ h2)
/-- an arm: one name more -/
theorem sw_arm {r d1 d2 d3 n B : Nat} {i : Int} {s : ByteArray} {l : List (List UInt8)} {p1 p2 p3 p4 : String} {f1 f2 f3 f4 : Array Edge} {Q : Exit → Act → World → Prop} {a : Act} {w0 w : World} {v : Value}
    (h1 : 4 < d1) (h2 : 4 < d2) (h3 : 4 < d3) (h12 : d1 ≠ d2) (hn1 : d1 < n) (hn2 : d2 < n) (hn3 : d3 < n) (h : SwAt n a v i)
    (ho : OwnStrs B w v l) (hl : l.length ≤ 1000000) (hB : B ≤ w.heap.size) (hb : Below B w0 w)
    (hq : ∀ a' v' w', SwAt n a' v' i → OwnStrs B w' v' (l ++ [s.data.toList]) → Below B w0 w' → Q .normal a' w') :
    (Code.region r #[{ dst := some d1, op := .move (.tmp 3), type := 50, pos := p1, after := f1, guard := Option.none },
      { dst := some d2, op := .buildSlice 50 1 #[(0, .const (.string s))], type := 50, pos := p2, after := f2, guard := Option.none },
      { dst := some d3, op := .call { callee := .builtin .append, args := #[.tmp d1, .tmp d2], argTypes := #[50, 50] }, type := 50, pos := p3, after := f3, guard := Option.none },
      { dst := some 3, op := .assign (.tmp d3), type := 50, pos := p4, after := f4, guard := Option.none }] false).wp Tryz.prog Q a w := by
  have hv : a.eval (.tmp 3) = v := h.row
  refine wp_region_lit (wpList_plain rfl fun K hK => ?_)
  unfold Oper.wp
  simp only [execOp]
  rw [hv]
  go_simp
  refine hK (a.put (some d1) v) w (wpList_plain rfl fun K2 hK2 => ?_)
  have k1 := h.put (d := d1) (by omega) (by omega) v
  unfold Oper.wp
  simp only [execOp]
  go_simp
  refine hK2 ((a.put (some d1) v).put (some d2) (.slice (some ⟨w.heap.size, 0, none⟩) 1 1)) (w.alloc (.cells #[.string s] 9)) ?_
  have k2 := k1.put (d := d2) (by omega) (by omega) (.slice (some ⟨w.heap.size, 0, none⟩) 1 1)
  refine wpList_push_str rfl (.tmp d1) (.tmp d2) rfl ((eval_other (Ne.symm h12) _).trans (h.eval_put hn1 _)) ho s (k1.eval_put hn2 _) (by omega) hB hb fun v' w' ho' hb' => ?_
  have k3 := k2.put (d := d3) (by omega) (by omega) v'
  refine wpList_plain rfl fun K3 hK3 => ?_
  unfold Oper.wp
  simp only [execOp]
  rw [k2.eval_put hn3]
  go_simp
  exact hK3 _ w' (hq _ v' w' (k3.put3 (by omega) v') ho' hb')
/-- which exit the tests take (0: none fits) -/
def ixOf (i : Int) : Nat := if 0 ≤ i ∧ i ≤ 16 then i.toNat + 1 else 0
theorem ixOf_nat {i : Int} {c : Nat} (hc : c ≤ 16) (h : i = (c : Int)) : ixOf i = c + 1 := by unfold ixOf; rw [if_pos (by omega)]; omega
/-- the code's tests have been taken, and of the blocks the first j, each with its arm behind it -/
def Lev (n : Nat) (C : Code) (j : Nat) (i : Int) : Prop :=
  ∀ (Q : Exit → Act → World → Prop) (a : Act) (w : World), SwAt n a (.slice none 0 0) i →
    (ixOf i = 0 ∨ j < ixOf i → (∀ a', SwAt n a' (.slice none 0 0) i → Q (.exit (ixOf i)) a' w) → C.wp Tryz.prog Q a w) ∧
    (∀ k, ixOf i = k + 1 → k < j → (∀ a' v' w', SwAt n a' v' i → OwnStrs w.heap.size w' v' ((Kw.names.take j).drop k) → Below w.heap.size w w' → Q .normal a' w') → C.wp Tryz.prog Q a w)
theorem names_step {j k : Nat} (hj : j < 17) (hk : k ≤ j) : (Kw.names.take (j + 1)).drop k = (Kw.names.take j).drop k ++ [Kw.name j] := by
  have hl : j < Kw.names.length := hj
  rw [List.take_succ_eq_append_getElem hl, List.drop_append_of_le_length (by simp; omega)]
  unfold Kw.name List.getD
  rw [List.getElem?_eq_getElem hl]
  rfl
theorem sw_level {r d1 d2 d3 n j : Nat} {i : Int} {s : ByteArray} {C : Code} {p1 p2 p3 p4 : String} {f1 f2 f3 f4 : Array Edge}
    (hC : Lev n C j i) (h1 : 4 < d1) (h2 : 4 < d2) (h3 : 4 < d3) (h12 : d1 ≠ d2) (hn1 : d1 < n) (hn2 : d2 < n) (hn3 : d3 < n) (hj : j < 17) (hs : Kw.name j = s.data.toList) :
    Lev n ((Code.block (j + 1) C).seq (Code.region r #[{ dst := some d1, op := .move (.tmp 3), type := 50, pos := p1, after := f1, guard := Option.none },
      { dst := some d2, op := .buildSlice 50 1 #[(0, .const (.string s))], type := 50, pos := p2, after := f2, guard := Option.none },
      { dst := some d3, op := .call { callee := .builtin .append, args := #[.tmp d1, .tmp d2], argTypes := #[50, 50] }, type := 50, pos := p3, after := f3, guard := Option.none },
      { dst := some 3, op := .assign (.tmp d3), type := 50, pos := p4, after := f4, guard := Option.none }] false)) (j + 1) i := by
  intro Q a w ha
  refine ⟨fun hx hq => wp_seq (wp_block ((hC _ a w ha).1 (by omega) fun a' ha' => ?_)), fun k hk hkj hq => ?_⟩
  · show Exit.inBlock (j + 1) _ _ _ _
    unfold Exit.inBlock
    simp only
    rw [if_neg (by omega)]
    exact hq a' ha'
  · by_cases hkj' : k < j
    · refine wp_seq (wp_block ((hC _ a w ha).2 k hk hkj' fun a' v' w' ha' ho' hb' => ?_))
      refine sw_arm h1 h2 h3 h12 hn1 hn2 hn3 ha' ho' ?_ hb'.size hb' fun a2 v2 w2 ha2 ho2 hb2 => hq a2 v2 w2 ha2 ?_ hb2
      · simp; omega
      · rw [names_step hj (by omega), hs]; exact ho2
    · obtain rfl : k = j := by omega
      refine wp_seq (wp_block ((hC _ a w ha).1 (by omega) fun a' ha' => ?_))
      show Exit.inBlock (k + 1) _ _ _ _
      unfold Exit.inBlock
      simp only
      rw [if_pos hk]
      refine sw_arm h1 h2 h3 h12 hn1 hn2 hn3 ha' (OwnStrs.nil _ _) (by decide) (Nat.le_refl _) (Below.refl _ _) fun a2 v2 w2 ha2 ho2 hb2 => hq a2 v2 w2 ha2 ?_ hb2
      rw [names_step hj (by omega), hs]
      rw [List.drop_eq_nil_of_le (by simp; omega)]
      exact ho2
/-- one test more ahead of the others -/
def Tst (n : Nat) (C : Code) (c : Nat) (i : Int) : Prop :=
  ∀ (Q : Exit → Act → World → Prop) (a : Act) (w : World), SwAt n a (.slice none 0 0) i → (∀ k : Nat, k < c → i ≠ (k : Int)) →
    (ixOf i = 0 → (∀ a', SwAt n a' (.slice none 0 0) i → Q .normal a' w) → C.wp Tryz.prog Q a w) ∧
    (0 < ixOf i → (∀ a', SwAt n a' (.slice none 0 0) i → Q (.exit (ixOf i)) a' w) → C.wp Tryz.prog Q a w)
theorem sw_last {r d e n c : Nat} {i : Int} {p1 p2 : String} {f1 f2 : Array Edge} (hc : c = 16) (hd : 4 < d) (he : 4 < e) (hdn : d < n) (hen : e < n) :
    Tst n ((Code.region r #[{ dst := some d, op := .binOp .eql 3 (.tmp 4) (.const (.int .i64 (c : Int))) 3, type := 4, pos := p1, after := f1, guard := Option.none },
      { dst := some e, op := .assign (.tmp d), type := 4, pos := p2, after := f2, guard := Option.none }] false).seq (Code.cond (.tmp e) (Code.exit (c + 1)) Code.skip)) c i := by
  subst hc
  intro Q a w ha hno
  refine ⟨fun h0 hq => sw_test hd he hdn hen ha (fun hi a' ha' => ?_) (fun _ a' ha' => hq a' ha'), fun h0 hq => sw_test hd he hdn hen ha (fun hi a' ha' => ?_) (fun hi a' ha' => ?_)⟩
  · rw [ixOf_nat (c := 16) (by omega) hi] at h0; cases h0
  · have := hq a' ha'
    rwa [ixOf_nat (c := 16) (by omega) hi] at this
  · exfalso
    unfold ixOf at h0
    split at h0
    · have := hno i.toNat (by omega)
      omega
    · omega
theorem sw_more {r d e n c : Nat} {i : Int} {C : Code} {p1 p2 : String} {f1 f2 : Array Edge} (hC : Tst n C (c + 1) i) (hc : c < 16) (hd : 4 < d) (he : 4 < e) (hdn : d < n) (hen : e < n) :
    Tst n (((Code.region r #[{ dst := some d, op := .binOp .eql 3 (.tmp 4) (.const (.int .i64 (c : Int))) 3, type := 4, pos := p1, after := f1, guard := Option.none },
      { dst := some e, op := .assign (.tmp d), type := 4, pos := p2, after := f2, guard := Option.none }] false).seq (Code.cond (.tmp e) (Code.exit (c + 1)) Code.skip)).seq C) c i := by
  intro Q a w ha hno
  have hno' : i ≠ (c : Int) → ∀ k : Nat, k < c + 1 → i ≠ (k : Int) := fun hi k hk => by
    by_cases e : k = c
    · subst e; exact hi
    · exact hno k (by omega)
  refine ⟨fun h0 hq => wp_seq (sw_test hd he hdn hen ha (fun hi a' ha' => ?_) (fun hi a' ha' => (hC Q a' w ha' (hno' hi)).1 h0 hq)),
    fun h0 hq => wp_seq (sw_test hd he hdn hen ha (fun hi a' ha' => ?_) (fun hi a' ha' => (hC Q a' w ha' (hno' hi)).2 h0 hq))⟩
  · rw [ixOf_nat (c := c) (by omega) hi] at h0; cases h0
  · have := hq a' ha'
    rwa [ixOf_nat (c := c) (by omega) hi] at this
theorem sw_start {n : Nat} {i : Int} {C : Code} (hC : Tst n C 0 i) : Lev n (C.seq (Code.exit 0)) 0 i := by
  intro Q a w ha
  refine ⟨fun hx hq => ?_, fun k _ hk => absurd hk (by omega)⟩
  rcases Nat.eq_zero_or_pos (ixOf i) with h0 | h0
  · refine wp_seq ((hC _ a w ha (fun k hk => absurd hk (by omega))).1 h0 fun a' ha' => wp_exit ?_)
    have := hq a' ha'
    rwa [h0] at this
  · refine wp_seq ((hC _ a w ha (fun k hk => absurd hk (by omega))).2 h0 fun a' ha' => ?_)
    exact hq a' ha'
theorem sw_whole {r d1 d2 d3 n : Nat} {i : Int} {s : ByteArray} {C : Code} {p1 p2 p3 p4 : String} {f1 f2 f3 f4 : Array Edge} {Q : Exit → Act → World → Prop} {a : Act} {w : World}
    (hC : Lev n C 16 i) (h1 : 4 < d1) (h2 : 4 < d2) (h3 : 4 < d3) (h12 : d1 ≠ d2) (hn1 : d1 < n) (hn2 : d2 < n) (hn3 : d3 < n) (hs : Kw.name 16 = s.data.toList) (ha : SwAt n a (.slice none 0 0) i)
    (hq : ∀ a' v' w', SwAt n a' v' i → OwnStrs w.heap.size w' v' (Kw.fromI i) → Below w.heap.size w w' → Q .normal a' w') :
    (Code.block 0 ((Code.block 17 C).seq ((Code.region r #[{ dst := some d1, op := .move (.tmp 3), type := 50, pos := p1, after := f1, guard := Option.none },
      { dst := some d2, op := .buildSlice 50 1 #[(0, .const (.string s))], type := 50, pos := p2, after := f2, guard := Option.none },
      { dst := some d3, op := .call { callee := .builtin .append, args := #[.tmp d1, .tmp d2], argTypes := #[50, 50] }, type := 50, pos := p3, after := f3, guard := Option.none },
      { dst := some 3, op := .assign (.tmp d3), type := 50, pos := p4, after := f4, guard := Option.none }] false).seq (Code.exit 0)))).wp Tryz.prog Q a w := by
  refine wp_block ?_
  by_cases h0 : ixOf i = 0
  · refine wp_seq (wp_block ((hC _ a w ha).1 (by omega) fun a' ha' => ?_))
    show Exit.inBlock 17 _ _ _ _
    unfold Exit.inBlock
    simp only
    rw [if_neg (by omega), h0]
    show Exit.inBlock 0 Q (.exit 0) a' w
    unfold Exit.inBlock
    simp only
    rw [if_pos trivial]
    refine hq a' _ w ha' ?_ (Below.refl _ _)
    rw [Kw.fromI_out (by unfold ixOf at h0; split at h0 <;> omega)]
    exact OwnStrs.nil _ _
  · obtain ⟨k, hk, hk16, hi⟩ : ∃ k : Nat, ixOf i = k + 1 ∧ k ≤ 16 ∧ i = (k : Int) := by
      unfold ixOf at h0 ⊢
      split
      · exact ⟨i.toNat, rfl, by omega, by omega⟩
      · rename_i h; rw [if_neg h] at h0; exact absurd rfl h0
    have hfin : Kw.fromI i = (Kw.names.take 17).drop k := by rw [hi, Kw.fromI_nat]; rfl
    by_cases hlt : k < 16
    · refine wp_seq (wp_block ((hC _ a w ha).2 k hk hlt fun a' v' w' ha' ho' hb' => ?_))
      show ((Code.region r _ false).seq (Code.exit 0)).wp _ _ _ _
      refine wp_seq (sw_arm h1 h2 h3 h12 hn1 hn2 hn3 ha' ho' ?_ hb'.size hb' fun a2 v2 w2 ha2 ho2 hb2 => ?_)
      · simp; omega
      show (Code.exit 0).wp _ _ _ _
      refine wp_exit ?_
      show Exit.inBlock 0 Q (.exit 0) a2 w2
      unfold Exit.inBlock
      simp only
      rw [if_pos trivial]
      refine hq a2 v2 w2 ha2 ?_ hb2
      rw [hfin, names_step (by omega) (by omega), hs]
      exact ho2
    · obtain rfl : k = 16 := by omega
      refine wp_seq (wp_block ((hC _ a w ha).1 (by omega) fun a' ha' => ?_))
      show Exit.inBlock 17 _ _ _ _
      unfold Exit.inBlock
      simp only
      rw [if_pos hk]
      show ((Code.region r _ false).seq (Code.exit 0)).wp _ _ _ _
      refine wp_seq (sw_arm h1 h2 h3 h12 hn1 hn2 hn3 ha' (OwnStrs.nil _ _) (by decide) (Nat.le_refl _) (Below.refl _ _) fun a2 v2 w2 ha2 ho2 hb2 => ?_)
      show (Code.exit 0).wp _ _ _ _
      refine wp_exit ?_
      show Exit.inBlock 0 Q (.exit 0) a2 w2
      unfold Exit.inBlock
      simp only
      rw [if_pos trivial]
      refine hq a2 v2 w2 ha2 ?_ hb2
      rw [hfin, names_step (by omega) (by omega), hs]
      rw [List.drop_eq_nil_of_le (by simp; omega)]
      exact ho2
theorem wp_set {P : Program} {r d : Nat} {x : Operand} {ty : TypeId} {p : String} {f : Array Edge} {Q : Exit → Act → World → Prop} {a : Act} {w : World} {v : Value} (hx : a.eval x = v) (h : Q .normal (a.put (some d) v) w) :
    (Code.region r #[{ dst := some d, op := .assign x, type := ty, pos := p, after := f, guard := Option.none }] false).wp P Q a w := by
  refine wp_region_lit (wpList_plain rfl fun K hK => ?_)
  unfold Oper.wp
  simp only [execOp]
  rw [hx]
  go_simp
  exact hK _ w h
theorem wp_moved {P : Program} {r d : Nat} {x : Operand} {ty : TypeId} {p : String} {f : Array Edge} {Q : Exit → Act → World → Prop} {a : Act} {w : World} {v : Value} (hx : a.eval x = v) (h : Q .normal (a.put (some d) v) w) :
    (Code.region r #[{ dst := some d, op := .move x, type := ty, pos := p, after := f, guard := Option.none }] false).wp P Q a w := by
  refine wp_region_lit (wpList_plain rfl fun K hK => ?_)
  unfold Oper.wp
  simp only [execOp]
  rw [hx]
  go_simp
  exact hK _ w h
theorem wp_move_set {P : Program} {r d e n : Nat} {x : Operand} {t1 t2 : TypeId} {p1 p2 : String} {f1 f2 : Array Edge} {Q : Exit → Act → World → Prop} {a : Act} {w : World} {v : Value} (hn : a.tmps.size = n) (hd : d < n) (hx : a.eval x = v)
    (h : Q .normal ((a.put (some d) v).put (some e) v) w) :
    (Code.region r #[{ dst := some d, op := .move x, type := t1, pos := p1, after := f1, guard := Option.none }, { dst := some e, op := .assign (.tmp d), type := t2, pos := p2, after := f2, guard := Option.none }] false).wp P Q a w := by
  refine wp_region_lit (wpList_plain rfl fun K hK => ?_)
  unfold Oper.wp
  simp only [execOp]
  rw [hx]
  go_simp
  refine hK (a.put (some d) v) w (wpList_plain rfl fun K2 hK2 => ?_)
  unfold Oper.wp
  simp only [execOp]
  rw [show (a.put (some d) v).eval (.tmp d) = v by simp only [Act.put, Act.eval]; exact getD_set_same (by rw [hn]; exact hd) v]
  go_simp
  exact hK2 _ w h
theorem keyFrom (i : Int) (w : World) :
    Calls Tryz.prog 122 #[.int .i64 i] w fun e w' => ∃ v, e = .returned v ∧ OwnStrs w.heap.size w' v (Kw.fromI i) ∧ Below w.heap.size w w' := by
  refine calls_of_wp Tryz.func122 rfl ?_
  rw [Tryz.ntmps122]
  obtain ⟨a, ha⟩ : ∃ a : Act, a = { tmps := #[.int .i64 i] ++ Array.replicate (91 - (#[Value.int .i64 i] : Array Value).size) undef, defers := [] } := ⟨_, rfl⟩
  have s0 : a.tmps.size = 91 := by rw [ha]; simp
  have d0 : a.defers = [] := by rw [ha]
  have v0 : a.tmps.getD 0 undef = .int .i64 i := by rw [ha]; simp [Array.getD_eq_getD_getElem?]
  rw [← ha]
  clear ha
  refine wp_seq (wp_set rfl ?_)
  refine wp_seq (wp_set rfl ?_)
  refine wp_seq (wp_seq (wp_moved (v := .int .i64 i) ?_ ?_))
  · simp only [Act.put, Act.eval]
    rw [getD_set_other (by decide), getD_set_other (by decide)]
    exact v0
  have hS : SwAt 91 (((a.put (some 2) (a.eval (.const (.slice none 0 0)))).put (some 3) ((a.put (some 2) (a.eval (.const (.slice none 0 0)))).eval (.const (.slice none 0 0)))).put (some 4) (.int .i64 i)) (.slice none 0 0) i := by
    refine ⟨by simp [Act.put, s0], d0, ?_, ?_⟩
    · simp only [Act.put, Act.eval]
      rw [getD_set_other (by decide)]
      exact getD_set_same (by simp [s0]) _
    · simp only [Act.put]
      exact getD_set_same (by simp [s0]) _
  generalize (((a.put (some 2) (a.eval (.const (.slice none 0 0)))).put (some 3) ((a.put (some 2) (a.eval (.const (.slice none 0 0)))).eval (.const (.slice none 0 0)))).put (some 4) (.int .i64 i)) = b at hS
  refine sw_whole (n := 91) (i := i) ?_ (by decide) (by decide) (by decide) (by decide) (by decide) (by decide) (by decide) rfl hS (fun a' v' w' ha' ho' hb' => ?_)
  · exact sw_level (j := 15) (sw_level (j := 14) (sw_level (j := 13) (sw_level (j := 12) (sw_level (j := 11) (sw_level (j := 10) (sw_level (j := 9) (sw_level (j := 8) (sw_level (j := 7) (sw_level (j := 6) (sw_level (j := 5) (sw_level (j := 4) (sw_level (j := 3) (sw_level (j := 2) (sw_level (j := 1) (sw_level (j := 0) (sw_start (sw_more (c := 0) (sw_more (c := 1) (sw_more (c := 2) (sw_more (c := 3) (sw_more (c := 4) (sw_more (c := 5) (sw_more (c := 6) (sw_more (c := 7) (sw_more (c := 8) (sw_more (c := 9) (sw_more (c := 10) (sw_more (c := 11) (sw_more (c := 12) (sw_more (c := 13) (sw_more (c := 14) (sw_more (c := 15) (sw_last (c := 16) rfl (by decide) (by decide) (by decide) (by decide)) (by decide) (by decide) (by decide) (by decide) (by decide)) (by decide) (by decide) (by decide) (by decide) (by decide)) (by decide) (by decide) (by decide) (by decide) (by decide)) (by decide) (by decide) (by decide) (by decide) (by decide)) (by decide) (by decide) (by decide) (by decide) (by decide)) (by decide) (by decide) (by decide) (by decide) (by decide)) (by decide) (by decide) (by decide) (by decide) (by decide)) (by decide) (by decide) (by decide) (by decide) (by decide)) (by decide) (by decide) (by decide) (by decide) (by decide)) (by decide) (by decide) (by decide) (by decide) (by decide)) (by decide) (by decide) (by decide) (by decide) (by decide)) (by decide) (by decide) (by decide) (by decide) (by decide)) (by decide) (by decide) (by decide) (by decide) (by decide)) (by decide) (by decide) (by decide) (by decide) (by decide)) (by decide) (by decide) (by decide) (by decide) (by decide)) (by decide) (by decide) (by decide) (by decide) (by decide))) (by decide) (by decide) (by decide) (by decide) (by decide) (by decide) (by decide) (by decide) rfl) (by decide) (by decide) (by decide) (by decide) (by decide) (by decide) (by decide) (by decide) rfl) (by decide) (by decide) (by decide) (by decide) (by decide) (by decide) (by decide) (by decide) rfl) (by decide) (by decide) (by decide) (by decide) (by decide) (by decide) (by decide) (by decide) rfl) (by decide) (by decide) (by decide) (by decide) (by decide) (by decide) (by decide) (by decide) rfl) (by decide) (by decide) (by decide) (by decide) (by decide) (by decide) (by decide) (by decide) rfl) (by decide) (by decide) (by decide) (by decide) (by decide) (by decide) (by decide) (by decide) rfl) (by decide) (by decide) (by decide) (by decide) (by decide) (by decide) (by decide) (by decide) rfl) (by decide) (by decide) (by decide) (by decide) (by decide) (by decide) (by decide) (by decide) rfl) (by decide) (by decide) (by decide) (by decide) (by decide) (by decide) (by decide) (by decide) rfl) (by decide) (by decide) (by decide) (by decide) (by decide) (by decide) (by decide) (by decide) rfl) (by decide) (by decide) (by decide) (by decide) (by decide) (by decide) (by decide) (by decide) rfl) (by decide) (by decide) (by decide) (by decide) (by decide) (by decide) (by decide) (by decide) rfl) (by decide) (by decide) (by decide) (by decide) (by decide) (by decide) (by decide) (by decide) rfl) (by decide) (by decide) (by decide) (by decide) (by decide) (by decide) (by decide) (by decide) rfl) (by decide) (by decide) (by decide) (by decide) (by decide) (by decide) (by decide) (by decide) rfl
  · refine wp_seq (wp_move_set ha'.size (by decide) ha'.row ?_)
    refine wp_ret ?_
    refine bodyPost_ret (v := v') ?_ ha'.none ⟨v', rfl, ho', hb'⟩
    simp only [results, Tryz.results122]
    simp [go_sem, Act.put]
    intro h
    rw [ha'.size] at h
    exact absurd h (by decide)
end Go.Proofs.YtkohfomiigcifaaGreatDoor
