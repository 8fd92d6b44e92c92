/-
  RUNS RECKONED AHEAD: a region that draws its order, where several operations that make memory may come up at once: all their orders, as a tree. By an AI agent.
-/
import Derived.Test.YtpejbfdmiinokaaSyRc
namespace Go.Sx
open Go.RowKit
/-- those that may come up -/
def rdys (L : Nat) : List OM → List Nat
  | [] => []
  | x :: l => match rdy L x with
    | true => x.i :: rdys L l
    | false => rdys L l
theorem mem_rdys {L : Nat} {i : Nat} : ∀ {l : List OM}, i ∈ rdys L l ↔ ∃ x ∈ l, x.i = i ∧ rdy L x = true
  | [] => by simp [rdys]
  | x :: l => by
    unfold rdys
    split
    · rename_i h
      rw [List.mem_cons, mem_rdys]
      constructor
      · rintro (rfl | ⟨y, hy, h2⟩)
        · exact ⟨x, List.mem_cons_self, rfl, h⟩
        · exact ⟨y, List.mem_cons_of_mem _ hy, h2⟩
      · rintro ⟨y, hy, h2, h3⟩
        rcases List.mem_cons.1 hy with rfl | hy
        · exact .inl h2.symm
        · exact .inr ⟨y, hy, h2, h3⟩
    · rename_i h
      rw [mem_rdys]
      constructor
      · rintro ⟨y, hy, h2⟩
        exact ⟨y, List.mem_cons_of_mem _ hy, h2⟩
      · rintro ⟨y, hy, h2, h3⟩
        rcases List.mem_cons.1 hy with rfl | hy
        · rw [h3] at h
          cases h
        · exact ⟨y, hy, h2, h3⟩
section
variable [Fx]
abbrev TreeF := Nat → List OM → Held → Tr → AM → Bool
noncomputable def stepQ (P : Program) (G k : Nat) (ops : Array Oper) (ih : TreeF) (L : Nat) (todo : List OM) (F : Held) (a : Tr) (m : AM) (i : Nat) : Bool := match ops[i]? with
  | some o => match wantT k ops a o with
    | none => false
    | some false => ih (Nat.lor (Nat.pow 2 i) L) (rem i todo) ((i, []) :: F) (a.put k o.dst undef) m
    | some true => match quietT P G (a.ev k) m o with
      | some (v, F') => ih (Nat.lor (Nat.pow 2 i) L) (rem i todo) ((i, F') :: F) (a.put k o.dst v) m
      | none => false
  | none => false
noncomputable def stepH (P : Program) (G : Nat) (call : CallF) (k : Nat) (ops : Array Oper) (ih : TreeF) (L : Nat) (todo : List OM) (F : Held) (a : Tr) (m : AM) (i : Nat) : Bool := match ops[i]? with
  | some o => match wantT k ops a o with
    | none => false
    | some false => ih (Nat.lor (Nat.pow 2 i) L) (rem i todo) (still_ ops i F) (a.put k o.dst undef) m
    | some true => match evO P k G call a m o with
      | some (v, m') => match (still_ ops i F).all fun p => p.2.all (stays m') with
        | true => ih (Nat.lor (Nat.pow 2 i) L) (rem i todo) (still_ ops i F) (a.put k o.dst v) m'
        | false => false
      | none => false
  | none => false
def allB (f : Nat → Bool) : List Nat → Bool
  | [] => true
  | i :: l => match f i with
    | true => allB f l
    | false => false
omit [Fx] in
theorem allB_mem {f : Nat → Bool} : ∀ {l : List Nat}, allB f l = true → ∀ i ∈ l, f i = true
  | [], _, i, h => by simp at h
  | x :: l, h, i, hi => by
    unfold allB at h
    split at h
    · rename_i hx
      rcases List.mem_cons.1 hi with rfl | hi
      · exact hx
      · exact allB_mem h i hi
    · cases h
noncomputable def treeOne (P : Program) (G : Nat) (call : CallF) (k : Nat) (ops : Array Oper) (leaf : Tr → AM → Bool) (ih : TreeF) (L : Nat) (todo : List OM) (F : Held) (a : Tr) (m : AM) : Bool := match todo with
  | [] => leaf a m
  | _ => match fstQ L todo todo with
    | some i => stepQ P G k ops ih L todo F a m i
    | none => match rdys L todo with
      | [] => false
      | l => allB (stepH P G call k ops ih L todo F a m) l
noncomputable def evTree (P : Program) (G : Nat) (call : CallF) (k : Nat) (ops : Array Oper) (leaf : Tr → AM → Bool) (n : Nat) : TreeF :=
  Nat.rec (motive := fun _ => TreeF) (fun _ todo _ a m => match todo with | [] => leaf a m | _ => false) (fun _ ih L todo F a m => treeOne P G call k ops leaf ih L todo F a m) n
end
section
variable [Th] [Fx] {P : Program} {G : Nat} {W : World}
theorem evTree_sound [Ts] [Sat] {call : CallF} (hN : NoGo P) (hC : CallOk P G W call) {k : Nat} {ops : Array Oper} (hsel : Region.noSelect ops = true) {leaf : Tr → AM → Bool} {Q : Exit → Act → World → Prop} (hQ : ∀ c a w, ¬ Q (.panic c) a w) :
    ∀ (n : Nat) {L : Nat} {todo : List OM} {listed : Array Bool} {F : Held} {r : List Nat} {a : Tr} {b : Act} {m : AM} {w : World} {S : HeldR}, Left ops L listed todo → evTree P G call k ops leaf n L todo F a m = true → AcT k r a b → Wd P G W r m w → W.heap.size ≤ w.heap.size → Closed ops listed → ToldH r F S → Now S w →
    (∀ r' b' w' a' m', leaf a' m' = true → AcT k r' a' b' → Wd P G W r' m' w' → Step r m w r' m' w' → Q .normal b' w') → wpAnyO P ops Q n S listed b w := by
  have rdyL : ∀ {L : Nat} {todo : List OM} {listed : Array Bool}, Left ops L listed todo → ∀ {x : OM}, x ∈ todo → rdy L x = true → x.i ∈ Region.ready .any ops listed := by
    intro L todo listed hlf x hx hr
    obtain ⟨o, ho, e, hun⟩ := hlf.only x hx
    rw [e] at hr
    exact mem_ready.2 ⟨hun, o, ho, (rdy_spec hlf x.i o).1 hr⟩
  have done : ∀ {L : Nat} {listed : Array Bool}, Left ops L listed [] → Region.ready .any ops listed = [] := by
    intro L listed hlf
    apply List.eq_nil_iff_forall_not_mem.2
    intro j hj
    obtain ⟨hun, o, ho, _⟩ := mem_ready.1 hj
    have := hlf.all_ j o ho hun
    simp at this
  intro n
  induction n with
  | zero =>
    intro L todo listed F r a b m w S hlf e h hw hB hL ht hh q
    cases todo with
    | cons x l => cases e
    | nil => exact ⟨done hlf, q r b w a m e h hw (Step.refl r m w)⟩
  | succ n ih =>
    intro L todo listed F r a b m w S hlf e h hw hB hL ht hh q
    have e : treeOne P G call k ops leaf (evTree P G call k ops leaf n) L todo F a m = true := e
    unfold treeOne at e
    split at e
    · exact ⟨fun _ => q r b w a m e h hw (Step.refl r m w), by rw [done hlf]; simp⟩
    · split at e
      · rename_i i hfq
        obtain ⟨x, hx, rfl, hrx, hap⟩ := fstQ_spec hfq
        have hmem := rdyL hlf hx hrx
        obtain ⟨o, ho, hxo, hun⟩ := hlf.only x hx
        have hisz : x.i < ops.size := (Array.getElem?_eq_some_iff.1 ho).1
        have hL2 := closed_set hL hmem
        have hfree : ∀ j oj, ops[j]? = some oj → j ≠ x.i → listed.getD j true = false → (∀ e ∈ oj.after, Region.binds .any e = true → e.on ≠ x.i) → o.apart ops oj = true := by
          intro j oj hj hne hju hno
          have h1 := List.all_eq_true.1 hap _ (hlf.all_ j oj hj hju)
          unfold apM at h1
          rw [Bool.or_eq_true, Bool.or_eq_true, Bool.and_eq_true] at h1
          rcases h1 with h1 | h1 | ⟨h1, h2⟩
          · exact absurd (Nat.eq_of_beq_eq_true h1) hne
          · exfalso
            rw [has_bit] at h1
            have h1 : (mk ((oj.after.toList.filter fun e => Region.binds .any e).map (·.on))).testBit x.i = true := h1
            rw [mk_bit, List.mem_map] at h1
            obtain ⟨e, he, heq⟩ := h1
            rw [List.mem_filter] at he
            exact hno e (by simpa using he.1) he.2 heq
          · rw [hxo] at h1 h2
            exact apart_of h1 h2
        unfold stepQ at e
        split at e
        · rename_i o2 ho2
          rw [ho] at ho2
          injection ho2 with ho2
          subst ho2
          split at e
          · cases e
          · rename_i hwant
            have hwant := h.want ops o hwant
            refine wpAnyO_first (Z := []) ho (Region.noSelect_spec hsel) (fun c a w q => absurd q (hQ _ _ _)) n S listed b w hL hfree hmem (.inr ⟨hwant, rfl⟩) ⟨hw.lowT, fun y hy => by simp at hy⟩ hh ?_
            refine ih (hlf.next hisz) e (h.put _ undef_V3) hw hB hL2 (fun p hq => ?_) (fun p hq => ?_) q
            · rcases List.mem_cons.1 hq with rfl | hq
              · exact ⟨_, List.mem_cons_self, rfl, fun y hy => by simp at hy⟩
              · obtain ⟨p', hp, h1⟩ := ht p hq
                exact ⟨p', List.mem_cons_of_mem _ hp, h1⟩
            · rcases List.mem_cons.1 hq with rfl | hq
              · exact ⟨hw.lowT, fun y hy => by simp at hy⟩
              · exact hh p hq
          · rename_i hwant
            have hwant := h.want ops o hwant
            split at e
            · rename_i v F' hqt
              obtain ⟨v', Z, hv', ht', hh', hrun⟩ := quietT_sound hqt (h.eval hw.g) hw
              refine wpAnyO_first (Z := Z) ho (Region.noSelect_spec hsel) (fun c a w q => absurd q (hQ _ _ _)) n S listed b w hL hfree hmem (.inl ⟨hwant, hrun⟩) hh' hh ?_
              refine ih (hlf.next hisz) e (h.put _ hv') hw hB hL2 (fun p hq => ?_) (fun p hq => ?_) q
              · rcases List.mem_cons.1 hq with rfl | hq
                · exact ⟨_, List.mem_cons_self, rfl, ht'⟩
                · obtain ⟨p', hp, h1⟩ := ht p hq
                  exact ⟨p', List.mem_cons_of_mem _ hp, h1⟩
              · rcases List.mem_cons.1 hq with rfl | hq
                · exact hh'
                · exact hh p hq
            · cases e
        · cases e
      · split at e
        · cases e
        · refine ⟨fun h0 => ?_, fun j hj => ?_⟩
          · rename_i hne
            exfalso
            cases hr : rdys L todo with
            | nil => exact hne hr
            | cons i l =>
              obtain ⟨x, hx, -, hrx⟩ := mem_rdys.1 (show i ∈ rdys L todo by rw [hr]; exact List.mem_cons_self)
              have := rdyL hlf hx hrx
              rw [h0] at this
              cases this
          · obtain ⟨hju, oj, hoj, hall⟩ := mem_ready.1 hj
            have hisz : j < ops.size := (Array.getElem?_eq_some_iff.1 hoj).1
            have e := allB_mem e j (mem_rdys.2 ⟨_, hlf.all_ j oj hoj hju, rfl, (rdy_spec hlf j oj).2 hall⟩)
            unfold stepH at e
            split at e
            · rename_i o ho
              have hL2 := closed_set hL hj
              unfold wpOp
              rw [ho]
              simp only
              split at e
              · cases e
              · rename_i hwant
                rw [h.want ops o hwant]
                simp only [Bool.false_eq_true, if_false]
                have hnow : Now (stillR ops j S) w := fun p hp => hh p (List.mem_filter.1 hp).1
                exact ⟨hnow, ih (hlf.next hisz) e (h.put _ undef_V3) hw hB hL2 (ht.still ops j) hnow q⟩
              · rename_i hwant
                rw [h.want ops o hwant]
                simp only [if_true]
                split at e
                · rename_i v m1 hev
                  split at e
                  · rename_i hst
                    refine .inl (evO_sound hN hC hev (h.eval hw.g) hw hB fun r' v' w' hv hw' hs => ?_)
                    have hnow : Now (stillR ops j S) w' := fun p hp => by
                      obtain ⟨p', hp', _, h2⟩ := (ht.still ops j) p hp
                      exact ⟨hw'.lowT, stays_holds h2 hs.ext hw' (List.all_eq_true.1 hst p' hp')⟩
                    refine ⟨hnow, ?_⟩
                    exact ih (hlf.next hisz) e ((h.ext hs.ext).put _ hv) hw' (Nat.le_trans hB hs.size) hL2 ((ht.ext hs.ext).still ops j) hnow fun r2 b2 w2 a2 m2 hl h2 hw2 hs2 => q r2 b2 w2 a2 m2 hl h2 hw2 (hs.trans hs2)
                  · cases e
                · cases e
            · cases e
end
/-- what is told of the ends: a template -/
noncomputable def leafT (h0 G nt : Nat) (E : Es) (x : Tr) (y : AM) (t : Tr) (m : AM) : Bool := cvT E h0 y.n (dpt nt) t x && cvM E h0 G m y
section
variable {P : Program} {G : Nat} {W : World} {ρ : Nat → Value} {γ : Ga} {env : EnvF} {M : List (Value × List Value)}
/-- items of which the last one is such a region -/
theorem treeR (hN : NoGo P) (hM : P.follows .mixedOrders = true) {F : Fs} {id n nt h0 : Nat} {ops : Array Oper} {t tx : Tr} {m mx : AM} {E : Es} {L L' : List Rt} (hsel : Region.noSelect ops = true) (hK : Kn P G W ρ (fun _ => env) M F) (hrow : rowsOk E L L' = true)
    (hck : @evTree ⟨F, M⟩ P G (evCall P env (@evCode ⟨F, M⟩ P G env n)) nt ops (leafT h0 G nt E tx mx) ops.size 0 (omsL ops 0 ops.toList) [] t m = true)
    {Q : Exit → Act → World → Prop} {N : Act → World → Prop} (hQ : ∀ c a w, ¬ Q (.panic c) a w) {b : Act} {w : World} (hI : InvR P G W ρ γ L nt t m b w)
    (h : ∀ b' w', InvR P G W (upd ρ E) (updG γ E) L' nt tx mx b' w' → N b' w') : (Code.region id ops true).wp P (Exit.then N Q) b w := by
  letI := thOf ρ W
  haveI := ts_of ρ W
  haveI := at_of ρ W
  letI : Fx := ⟨F, M⟩
  haveI : Sat := ⟨hK.sat, hK.mem⟩
  have hE : EnvOk P G W env := hK.env F hK.sat
  obtain ⟨r, ha, hw, hB, hR⟩ := hI
  have hwd : Wd P G W r m { w with drawn := w.drawn + 1 } := ⟨⟨hw.low.os, hw.low.tape, hw.low.output, hw.low.size, hw.low.block⟩, hw.n, hw.g, hw.at_, hw.inj, ⟨hw.low2.os, hw.low2.tape, hw.low2.output, hw.low2.size, hw.low2.block⟩, hw.opn⟩
  refine wp_region_any hM (wpAny_of_O _ [] _ _ _ (evTree_sound hN (evCall_ok hE (evCode_good hN hM hE n).1) hsel (Q := Exit.then N Q) (fun c a w h => hQ c a w h) ops.size (left_start ops) hck ha hwd hB closed_none (F := []) (fun y hy => by simp at hy) (fun y hy => by simp at hy) fun r' b' w' a' m' hl ha' hw' hs => ?_))
  unfold leafT at hl
  rw [Bool.and_eq_true] at hl
  have hst : Step r m w r' m' w' := ⟨hs.ext, hs.os, hs.tape, hs.output, hs.size, hs.block, hs.dom⟩
  exact h b' w' ⟨_, cvT_sound (upd_Upd E h0) hl.1 ha', cvM_sound (upd_Upd E h0) hl.2 hw', Nat.le_trans hB hs.size, ((hR.step hst).next hrow).cv hl.2⟩
end
end Go.Sx
