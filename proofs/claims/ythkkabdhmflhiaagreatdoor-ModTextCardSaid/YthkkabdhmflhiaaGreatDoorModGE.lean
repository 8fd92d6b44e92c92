/-
  MERGED: ModProgA, ModList, ModCuts, ModLsP, ModAlvW. By an AI agent.
-/
import Derived.Test.YthkkabdhmflhiaaGreatDoorModIsW
import Derived.Test.YthkkabdhmflhiaaGreatDoorModGD
import Derived.Test.YthkkabdhmflhiaaGreatDoorModGC
import Derived.Test.YthkkabdhmflhiaaGreatDoorModGA
import Derived.Test.YthkkabdhmflhiaaGreatDoorModGB
import Derived.Deep.Cut
namespace Go.Proofs.YthkkabdhmflhiaaGreatDoor
open Go.RowKit
open Wd (Bs)

theorem same_below {f : FuncId} {args : Array Value} {v : Value} {w : World} (h : Calls Tryz.prog f args w fun e w' => e = .returned v ∧ w = w') : Calls Tryz.prog f args w fun e w' => e = .returned v ∧ Below w.heap.size w w' :=
  h.mono fun _ _ ⟨he, hw⟩ => ⟨he, hw ▸ Below.refl _ _⟩
theorem same_below' {f : FuncId} {args : Array Value} {v : Value} {w : World} (h : Calls Tryz.prog f args w fun e w' => e = .returned v ∧ w' = w) : Calls Tryz.prog f args w fun e w' => e = .returned v ∧ Below w.heap.size w w' :=
  h.mono fun _ _ ⟨he, hw⟩ => ⟨he, hw ▸ Below.refl _ _⟩
theorem and_types : ∀ t : Nat, t < 64 → (bits .and .i64 (t : Int) 6 == 0) = (t &&& 6 == 0) := by decide +kernel
theorem types_via (n : Int) : Mo.typesB n = (Mo.inB 1 63 n && (bits .and .i64 n 6 == 0)) := by
  unfold Mo.typesB Mo.inB
  by_cases h : 1 ≤ n ∧ n ≤ 63
  · obtain ⟨t, rfl⟩ : ∃ t : Nat, n = (t : Int) := ⟨n.toNat, by omega⟩
    rw [and_types t (by omega)]
    simp [Bool.and_assoc]
  · have : (decide (1 ≤ n) && decide (n ≤ 63)) = false := by
      cases hd : (decide (1 ≤ n) && decide (n ≤ 63)) with
      | false => rfl
      | true => simp only [Bool.and_eq_true, decide_eq_true_eq] at hd; omega
    rw [← Bool.and_assoc, this]
    rfl
theorem in_pos (hi n : Int) : Mo.inB 1 hi n = (Mo.inB 0 hi n && decide (0 < n)) := by
  unfold Mo.inB
  rw [Bool.eq_iff_iff]
  simp only [Bool.and_eq_true, decide_eq_true_eq]
  omega
set_option maxHeartbeats 1000000 in
theorem modIs (k n m : Int) (s : ByteArray) (f : Fil.Flt) (fs : ByteArray) (hf : f.sub = fs.data.toList) (hss : s.size ≤ maxLen) (hs : fs.size ≤ maxLen) (w : World) (hE : Env w) :
    Calls Tryz.prog 12 #[.agg (mO k n m s (cellsF f fs))] w fun e w' => e = .returned (.bool (Mo.okB ⟨k, n, m, s.data.toList, f⟩)) ∧ Below w.heap.size w w' := by
  cases hk : Mo.isKind k with
  | false =>
    rw [Mo.ok_not (x := ⟨k, n, m, s.data.toList, f⟩) hk]
    simp only [Mo.isKind, Bool.or_eq_false_iff] at hk
    obtain ⟨⟨⟨⟨⟨⟨⟨⟨⟨⟨⟨⟨⟨h1, h10⟩, h14⟩, h2⟩, h3⟩, h4⟩, h5⟩, h6⟩, h7⟩, h8⟩, h9⟩, h11⟩, h12⟩, h13⟩ := hk
    exact mIsOther k n m s f fs w h1 h10 h14 h2 h3 h4 h5 h6 h7 h8 h9 h11 h12 h13
  | true =>
    refine modIsIn k n m s f fs (bits .and .i64 n 6) (Mo.inB 1 63 n) (bits .and .i64 n 6 == 0) (Ln.isSub s.data.toList) (Col.validB n) (decide (0 < n)) (Kw.validB n) (Fil.validB f) (Mo.inB 0 99 n) (Mo.inB 0 99 m) (Mo.inB (-99) 99 n) (Mo.inB (-99) 99 m) w hf (Lib.hid fun W _ => same_below (modWithin n 1 63 W)) rfl rfl (types_via n) (Lib.hid fun W hb => same_below (lineIsSub s W (hE.below hb).line hss)) rfl (Lib.hid fun W _ => same_below (colorIs n W)) rfl rfl (in_pos 31 n) (Lib.hid fun W _ => same_below (keyIs n W)) (in_pos 131071 n)
      (Lib.hid fun W hb => filIs f fs hf hs W (hE.below hb)) rfl (Lib.hid fun W _ => same_below (modWithin n 0 99 W)) rfl (Lib.hid fun W _ => same_below (modWithin m 0 99 W)) rfl (Lib.hid fun W _ => same_below (modWithin n (-99) 99 W)) rfl (Lib.hid fun W _ => same_below (modWithin m (-99) 99 W)) rfl hk
/-- what validity says of the fields -/
theorem ok_rng {k n m : Int} {s : Bs} {f : Fil.Flt} (h : Mo.okB ⟨k, n, m, s, f⟩ = true) : (-99 ≤ n ∧ n ≤ 131071 ∧ -99 ≤ m ∧ m ≤ 99) ∧ (k = 2 ∨ k = 3 → 1 ≤ n ∧ n ≤ 63) ∧ (k = 4 ∨ k = 5 → Ln.isSub s = true) ∧ (k = 6 ∨ k = 7 → 0 ≤ n ∧ n ≤ 31) ∧ (k = 8 ∨ k = 9 → 1 ≤ n ∧ n ≤ 131071) ∧ (k = 11 → Fil.validB f = true) ∧ (k = 12 ∨ k = 13 → n ≤ 99) := by
  rcases Mo.ok_cases h with ⟨hk, e⟩ | ⟨t, hk, h1, h2, _, e⟩ | ⟨hk, hs, e⟩ | ⟨c, hk, h2, e⟩ | ⟨c, hk, h1, h2, e⟩ | ⟨hk, hv, e⟩ | ⟨hk, h1, h2, h3, h4, e⟩ | ⟨hk, h1, h2, h3, h4, e⟩
  all_goals
    simp only [Mo.Md.mk.injEq] at e hk
    try simp only at h1 h2 h3 h4
    try simp only at hs
    try simp only at hv
    refine ⟨by omega, by omega, ?_, by omega, by omega, ?_, by omega⟩
    · first | exact fun _ => hs | exact fun h => by omega
    · first | exact fun _ => hv | exact fun h => by omega
theorem itoa_99 : ∀ k : Nat, k < 199 → (Lib.itoa ((k : Int) - 99)).length ≤ 3 := by decide +kernel
theorem itoa_short {n : Int} (h0 : -99 ≤ n) (h1 : n ≤ 99) : (Lib.itoa n).length ≤ 3 := by
  have := itoa_99 (n + 99).toNat (by omega)
  rwa [show (((n + 99).toNat : Nat) : Int) - 99 = n by omega] at this
theorem name_short {s : Bs} (h : Ln.isSub s = true) : s.length ≤ 32 := sub_len (by unfold Fil.subB; rw [h]; simp)
theorem rawT_len {k n m : Int} {s : Bs} {f : Fil.Flt} (h : Mo.okB ⟨k, n, m, s, f⟩ = true) : (Mo.rawT ⟨k, n, m, s, f⟩).length ≤ 5000 := by
  obtain ⟨h0, h2, h4, h6, h8, h11, h12⟩ := ok_rng h
  unfold Mo.rawT
  simp only
  split
  · exact Nat.le_trans (typesN_len _) (by decide)
  · split
    · rename_i hk; exact Nat.le_trans (name_short (h4 hk)) (by decide)
    · split
      · rename_i hk; exact Nat.le_trans (Col.textN_len (by have := h6 hk; omega)) (by decide)
      · split
        · rename_i hk; exact Nat.le_trans (Kw.textN_len (by have := h8 hk; omega)) (by decide)
        · split
          · rename_i hk
            have := textF_len (h11 hk)
            rw [List.length_append]
            simp
            omega
          · split
            · rename_i hk
              have hn := h12 hk
              have e1 := itoa_short (n := n) (by omega) (by omega)
              have e2 := itoa_short (n := m) (by omega) (by omega)
              unfold Mo.pairS
              rw [List.length_append, List.length_cons]
              omega
            · simp
set_option maxHeartbeats 1000000 in
theorem modTail (k n m : Int) (s : ByteArray) (f : Fil.Flt) (fs : ByteArray) (hf : f.sub = fs.data.toList) (hs : fs.size ≤ maxLen) (hok : Mo.okB ⟨k, n, m, s.data.toList, f⟩ = true) (w : World) (hE : Env w) :
    Calls Tryz.prog 38 #[.agg (mO k n m s (cellsF f fs))] w fun e w' => e = .returned (str (Mo.rawT ⟨k, n, m, s.data.toList, f⟩)) ∧ Below w.heap.size w w' := by
  obtain ⟨h0, h2, h4, h6, h8, h11, h12⟩ := ok_rng hok
  have hfl : (Fil.textF f).length ≤ 4000 := by
    cases hv : Fil.validB f with
    | true => exact textF_len hv
    | false => unfold Fil.textF; rw [hv]; simp
  have hil : ∀ z : Int, -99 ≤ z → z ≤ 131071 → (Lib.itoa z).length ≤ 1000 := fun z h1 h2 => by
    rcases Int.lt_or_le z 0 with h | h
    · exact Nat.le_trans (itoa_short (by omega) (by omega)) (by decide)
    · rw [Num.itoa_nonneg h]; exact Nat.le_trans (Num.decDigits_len 6 _ (by simp; omega)) (by decide)
  have hn := hil n h0.1 h0.2.1
  have hm := hil m h0.2.2.1 (by omega)
  refine tailIn k n m s f fs ⟨(Mo.rawT ⟨k, n, m, s.data.toList, f⟩).toArray⟩ ⟨(typesI n).toArray⟩ ⟨(Col.textI n).toArray⟩ ⟨(Kw.textI n).toArray⟩ ⟨(Fil.textF f).toArray⟩ ⟨(Lib.itoa n).toArray⟩ ⟨(Lib.itoa m).toArray⟩ w
    (Lib.hid fun W hb => lineTypesText n W (hE.below hb).line) (Lib.hid fun hk => ?_) (Lib.hid fun hk => ?_) (Lib.hid fun W hb => colorText n W (hE.below hb).col) (Lib.hid fun hk => ?_) (Lib.hid fun W _ => keyText n W) (Lib.hid fun hk => ?_)
    (Lib.hid fun W hb => filText f fs hf hs W (hE.below hb)) (by rw [size_of]; omega) (Lib.hid fun hk => ?_) (Lib.hid fun W hb => numText n (by omega) (by omega) W (hE.below hb).num) (Lib.hid fun W hb => numText m (by omega) (by omega) W (hE.below hb).num) (by rw [size_of]; omega) (by rw [size_of]; omega) (Lib.hid fun hk => ?_) (Lib.hid fun a2 a4 a6 a8 a11 a12 => ?_)
  · have := h2 hk
    obtain ⟨t, rfl⟩ : ∃ t : Nat, n = (t : Int) := ⟨n.toNat, by omega⟩
    unfold Mo.rawT
    rw [if_pos hk, typesI_nat (by omega) (by omega)]
    rfl
  · unfold Mo.rawT
    rw [if_neg (by simp only; omega), if_pos hk]
  · have := h6 hk
    obtain ⟨t, rfl⟩ : ∃ t : Nat, n = (t : Int) := ⟨n.toNat, by omega⟩
    unfold Mo.rawT
    rw [if_neg (by simp only; omega), if_neg (by simp only; omega), if_pos hk, Col.textI_nat (by omega)]
    rfl
  · have := h8 hk
    obtain ⟨t, rfl⟩ : ∃ t : Nat, n = (t : Int) := ⟨n.toNat, by omega⟩
    unfold Mo.rawT
    rw [if_neg (by simp only; omega), if_neg (by simp only; omega), if_neg (by simp only; omega), if_pos hk, Kw.textI_nat (by omega)]
    rfl
  · unfold Mo.rawT
    rw [if_neg (by simp only; omega), if_neg (by simp only; omega), if_neg (by simp only; omega), if_neg (by simp only; omega), if_pos hk]
    exact bytes_one (by simp)
  · unfold Mo.rawT
    rw [if_neg (by simp only; omega), if_neg (by simp only; omega), if_neg (by simp only; omega), if_neg (by simp only; omega), if_neg (by simp only; omega), if_pos hk]
    exact bytes_one (by simp [Mo.pairS])
  · unfold Mo.rawT
    rw [if_neg a2, if_neg a4, if_neg a6, if_neg a8, if_neg a11, if_neg a12]
theorem heads_len : ∀ j, j < 15 → (Mo.headL j).length ≤ 9 := by decide
theorem modText (k n m : Int) (s : ByteArray) (f : Fil.Flt) (fs : ByteArray) (hf : f.sub = fs.data.toList) (hss : s.size ≤ maxLen) (hs : fs.size ≤ maxLen) (w : World) (hE : Env w) :
    Calls Tryz.prog 14 #[.agg (mO k n m s (cellsF f fs))] w fun e w' => e = .returned (str (Mo.textM ⟨k, n, m, s.data.toList, f⟩)) ∧ Below w.heap.size w w' := by
  have HI : Hid (∀ W, Below w.heap.size w W → _) := Lib.hid fun W hb => modIs k n m s f fs hf hss hs W (hE.below hb)
  cases hv : Mo.okB ⟨k, n, m, s.data.toList, f⟩ with
  | false =>
    rw [hv] at HI
    refine (mTextBad k n m s f fs w HI).mono ?_
    rintro e w1 ⟨rfl, hb⟩
    exact ⟨by rw [Mo.textM_bad hv]; rfl, hb⟩
  | true =>
    rw [hv] at HI
    have hr := Mo.ok_range hv
    simp only at hr
    obtain ⟨j, rfl⟩ : ∃ j : Nat, k = (j : Int) := ⟨k.toNat, by omega⟩
    have hj : j < 15 := by omega
    refine (mTextOk j n m s f fs ⟨(Mo.headL j).toArray⟩ ⟨(Mo.rawT ⟨j, n, m, s.data.toList, f⟩).toArray⟩ w HI hj (headsC_at hj) (Lib.hid fun W hb => modTail j n m s f fs hf hs hv W (hE.below hb)) (by rw [size_of]; have := heads_len j hj; omega) (by rw [size_of]; have := rawT_len hv; omega)).mono ?_
    rintro e w1 ⟨rfl, hb⟩
    refine ⟨?_, hb⟩
    rw [Mo.textM_ok hv, Mo.raw_head hv, str_of (l := Mo.headL (Mo.Md.k ⟨j, n, m, s.data.toList, f⟩).toNat ++ Mo.rawT ⟨j, n, m, s.data.toList, f⟩) (by simp)]
theorem parseV_sub (s : Bs) : (Fil.parseV s).sub.length ≤ 32 := by
  rcases Fil.parse_cases s with ⟨h, _⟩ | ⟨g, h1, _, h3, _⟩
  · rw [h]; decide
  · rw [h3]; exact sub_len (Fil.valid_of h1).sub
theorem tailM_short (j : Nat) (r : Bs) : (Mo.tailM j r).sub.length ≤ r.length ∧ (Mo.tailM j r).f.sub.length ≤ 32 := by
  have hz : Fil.zero.sub.length ≤ 32 := by decide
  unfold Mo.tailM
  split
  · exact ⟨Nat.zero_le _, hz⟩
  · split
    · exact ⟨Nat.le_refl _, hz⟩
    · split
      · exact ⟨Nat.zero_le _, hz⟩
      · split
        · exact ⟨Nat.zero_le _, hz⟩
        · split
          · exact ⟨Nat.zero_le _, parseV_sub _⟩
          · split
            · exact ⟨Nat.zero_le _, hz⟩
            · exact ⟨Nat.zero_le _, hz⟩
theorem readM_short (s : Bs) : (Mo.readM s).sub.length ≤ s.length ∧ (Mo.readM s).f.sub.length ≤ 32 := by
  unfold Mo.readM
  split
  · rename_i k _
    have := tailM_short k (s.drop (Mo.headL k).length)
    rw [List.length_drop] at this
    exact ⟨by omega, this.2⟩
  · exact ⟨Nat.zero_le _, by decide⟩
theorem pV_yes {s : Bs} (h : Mo.pB s = true) : Mo.pV s = Mo.readM s ∧ Mo.pE s = 0 := by
  refine ⟨?_, (Mo.p_yes h).2.2⟩
  rw [(Mo.parse_read s).2 h]
  unfold Mo.pV
  rw [if_pos h]
theorem modParseOf (t : ByteArray) (hs : t.size ≤ 1000000) (w : World) (hE : Env w)
    (HR : Hid (∀ W, Below w.heap.size w W → Calls Tryz.prog 44 #[.string t] W fun e w' => e = .returned (.agg (cellsX (Mo.readM t.data.toList))) ∧ Below W.heap.size W w')) :
    Calls Tryz.prog 18 #[.string t] w fun e w' => e = .returned (.tuple #[.agg (cellsX (Mo.pV t.data.toList)), .int .i64 (Mo.pE t.data.toList)]) ∧ Below w.heap.size w w' := by
  have hsl : t.data.toList.length = t.size := Array.length_toList
  obtain ⟨x, hx⟩ : ∃ x, Mo.readM t.data.toList = x := ⟨_, rfl⟩
  have hl := readM_short t.data.toList
  rw [hx] at hl
  have h1 : (ByteArray.mk x.sub.toArray).size ≤ maxLen := by rw [size_of]; unfold maxLen; omega
  have h2 : (fsOf x.f).size ≤ maxLen := by unfold fsOf; rw [size_of]; unfold maxLen; omega
  obtain ⟨u, hu, eu⟩ := exists_bytes (Mo.textM x)
  rw [hx] at HR
  have HT : Hid (∀ W, Below w.heap.size w W → _) := Lib.hid fun W hb => modText x.k x.n x.m ⟨x.sub.toArray⟩ x.f (fsOf x.f) (fsOf_sub x.f) h1 h2 W (hE.below hb)
  have ex : Mo.Md.mk x.k x.n x.m (ByteArray.mk x.sub.toArray).data.toList x.f = x := rfl
  rw [ex, eu] at HT
  have HI : Hid (∀ W, Below w.heap.size w W → _) := Lib.hid fun W hb => modIs x.k x.n x.m ⟨x.sub.toArray⟩ x.f (fsOf x.f) (fsOf_sub x.f) h1 h2 W (hE.below hb)
  rw [ex] at HI
  refine (mParseW t u x.k x.n x.m ⟨x.sub.toArray⟩ x.f (fsOf x.f) (Mo.okB x) (Mo.textM x == t.data.toList) w HR HI HT (by rw [Lib.toList_data, Lib.toList_data, hu])).mono ?_
  rintro e w1 ⟨rfl, hb⟩
  refine ⟨?_, hb⟩
  have hp := (Mo.parse_read t.data.toList).1
  rw [hx] at hp
  rw [hp]
  cases hB : Mo.pB t.data.toList with
  | true =>
    rw [if_pos rfl, (pV_yes hB).1, (pV_yes hB).2, hx]
    rfl
  | false =>
    rw [if_neg (by decide), (Mo.p_no hB).1, (Mo.p_no hB).2]
    rfl
end Go.Proofs.YthkkabdhmflhiaaGreatDoor
namespace Go.Proofs.YthkkabdhmflhiaaGreatDoor.Fil

theorem plain_digitsC {n : Int} (h : 0 ≤ n) : Ct.PlainP 44 (Lib.itoa n) := by
  rw [Num.itoa_nonneg h]
  intro b hb
  have := Num.decDigits_digit _ b hb
  refine ⟨fun e => by rw [e] at this; simp at this, ?_⟩
  unfold Wd.brk
  have k : ∀ k : UInt8, k.toNat < 48 ∨ 57 < k.toNat → (b == k) = false := by
    intro k hk
    cases hbk : b == k with
    | false => rfl
    | true => rw [beq_iff_eq] at hbk; subst hbk; omega
  rw [k 40 (by decide), k 41 (by decide), k 91 (by decide), k 93 (by decide)]
  rfl
theorem plain_signsC : ∀ k, k ≤ 3 → Ct.plainB 44 (signW k) = true := by decide
theorem plain_tblC {l : List Bs} (h : (l.all fun p => Ct.plainB 44 p) = true) (x : Int) : Ct.PlainP 44 (tbl l x) := by
  unfold tbl
  rw [List.getD]
  cases hx : l[x.toNat]? with
  | none => exact plain_nil 44
  | some p => exact Ct.plain_of (List.all_eq_true.1 h p (List.mem_of_getElem? hx))
theorem plain_bdC {nm : Bs} (hnm : Ct.plainB 44 nm = true) {b : Bd} (hv : bdB b = true) : Ct.PlainP 44 (bdW nm b) := by
  obtain ⟨h0, h1, h2, h3, h4⟩ := bd_valid hv
  unfold bdW
  split
  · exact plain_nil 44
  · exact plain_append (plain_append (Ct.plain_of hnm) (Ct.plain_of (plain_signsC _ (by omega)))) (plain_digitsC h2)
theorem plain_subC {s : Bs} (h : subB s = true) : Ct.PlainP 44 (subW s) := by
  unfold subW
  split
  · exact plain_nil 44
  · rename_i h0
    exact plain_append (Ct.plain_of (by decide)) (Ln.name_plain (c := 44) (by decide) (sub_name h h0))
theorem seg_plainC {f : Flt} (h : Valid f) (i : Nat) {w : Bs} (hw : w ∈ seg f i) : Ct.PlainP 44 w ∧ w ≠ [] := by
  have o : ∀ {x : Bs}, Ct.PlainP 44 x → w ∈ one x → Ct.PlainP 44 w ∧ w ≠ [] := by
    intro x hx hw
    obtain ⟨rfl, h0⟩ := mem_one hw
    exact ⟨hx, h0⟩
  have mk : ∀ {nm : Nat → Bs} {pre : Bs} {m n : Nat}, (∀ k, k < n → Ct.plainB 44 (pre ++ nm k) = true) → (∀ k, k < n → pre ++ nm k ≠ []) → w ∈ maskW nm pre m n → Ct.PlainP 44 w ∧ w ≠ [] := by
    intro nm pre m n h1 h2 hw
    obtain ⟨k, hk, _, rfl⟩ := mem_maskW hw
    exact ⟨Ct.plain_of (h1 k hk), h2 k hk⟩
  match i, hw with
  | 0, hw => exact o (plain_tblC (by decide) _) hw
  | 1, hw => exact o (plain_tblC (by decide) _) hw
  | 2, hw => exact o (plain_tblC (by decide) _) hw
  | 3, hw => exact mk (show ∀ k, k < 6 → Ct.plainB 44 ([] ++ typeW k) = true by decide +kernel) (by decide +kernel) hw
  | 4, hw => exact mk (show ∀ k, k < 6 → Ct.plainB 44 (sNon ++ typeW k) = true by decide +kernel) (by decide +kernel) hw
  | 5, hw => exact mk (show ∀ k, k < 5 → Ct.plainB 44 ([] ++ Col.name k) = true by decide +kernel) (by decide +kernel) hw
  | 6, hw => exact mk (show ∀ k, k < 5 → Ct.plainB 44 (sNon ++ Col.name k) = true by decide +kernel) (by decide +kernel) hw
  | 7, hw => exact o (plain_subC h.sub) hw
  | 8, hw => exact mk (show ∀ k, k < 17 → Ct.plainB 44 (sWith ++ Kw.name k) = true by decide +kernel) (by decide +kernel) hw
  | 9, hw => exact o (plain_tblC (by decide) _) hw
  | 10, hw => exact o (plain_bdC (by decide) h.pow) hw
  | 11, hw => exact o (plain_bdC (by decide) h.tough) hw
  | 12, hw => exact o (plain_bdC (by decide) h.val) hw
  | n + 13, hw => cases hw
theorem from_plainC {f : Flt} (h : Valid f) : ∀ (n i : Nat) {w : Bs}, w ∈ from_ f i n → Ct.PlainP 44 w ∧ w ≠ []
  | 0, _, _, hw => by cases hw
  | n + 1, i, w, hw => by
    rcases List.mem_append.1 hw with h1 | h1
    · exact seg_plainC h i h1
    · exact from_plainC h n (i + 1) h1
theorem rest_plainC {f : Flt} (h : Valid f) (n i : Nat) : ∀ y ∈ from_ f i n, Ct.PlainP 44 y := fun _ hy => (from_plainC h n i hy).1
end Go.Proofs.YthkkabdhmflhiaaGreatDoor.Fil
namespace Go.Proofs.YthkkabdhmflhiaaGreatDoor.Mo
/-! no comma in a text -/
def NoC (l : Bs) : Prop := ∀ b ∈ l, b ≠ 44
theorem NoC.of {l : Bs} (h : Ct.PlainP 44 l) : NoC l := fun b hb => (h b hb).1
theorem NoC.app {a b : Bs} (ha : NoC a) (hb : NoC b) : NoC (a ++ b) := fun x hx => by
  rcases List.mem_append.1 hx with h | h
  · exact ha x h
  · exact hb x h
theorem NoC.join {ps : List Bs} {c : UInt8} (hc : c ≠ 44) (h : ∀ p ∈ ps, NoC p) : NoC (Lib.join ps [c]) := fun b hb => by
  rcases Ct.mem_join hb with rfl | ⟨p, hp, hbp⟩
  · exact hc
  · exact h p hp b hbp
theorem comma_ty : ∀ t, t < 64 → NoC (tyN t) := by unfold NoC; decide +kernel
theorem comma_col : ∀ c, c < 32 → NoC (Col.textN c) := by unfold NoC; decide +kernel
theorem comma_key : ∀ k, k < 17 → NoC (Kw.name k) := by unfold NoC; decide +kernel
theorem comma_keys {c : Nat} (h1 : 1 ≤ c) (h : c ≤ 131071) : NoC (Kw.textN c) := by
  rw [Kw.textN_pos h1 h]
  unfold Kw.outTo
  refine NoC.join (by decide) fun p hp => ?_
  obtain ⟨i, hi, _, rfl⟩ := Kw.mem_parts hp
  exact comma_key i hi
theorem comma_itoa (n : Int) : NoC (Lib.itoa n) := by
  intro b hb
  have key : ∀ u : Nat, ∀ x ∈ Lib.decDigits u, x ≠ 44 := fun u x hx => by
    have := Num.decDigits_digit u x hx
    rintro rfl
    simp at this
  rcases Int.lt_or_le n 0 with h | h
  · rw [Num.itoa_neg h] at hb
    rcases List.mem_append.1 hb with h1 | h1
    · rw [List.mem_singleton] at h1; subst h1; decide
    · exact key _ b h1
  · rw [Num.itoa_nonneg h] at hb
    exact key _ b hb
theorem comma_pair (n m : Int) : NoC (pairS n m) := by
  unfold pairS
  refine NoC.app (comma_itoa n) fun b hb => ?_
  rcases List.mem_cons.1 hb with rfl | hb
  · decide
  · exact comma_itoa m b hb
theorem comma_flt {f : Fil.Flt} (h : Fil.validB f = true) : NoC (Fil.textF f) := by
  rw [Fil.textF_valid h]
  unfold Fil.textP
  split
  · unfold NoC; decide
  · exact NoC.join (by decide) fun p hp => NoC.of (Fil.rest_plainC (Fil.valid_of h) 13 0 p hp)
theorem raw_comma {x : Md} (h : okB x = true) : NoC (raw x) := by
  rcases ok_cases h with ⟨hk, e⟩ | ⟨t, hk, h1, h2, _, e⟩ | ⟨hk, hs, e⟩ | ⟨c, hk, h2, e⟩ | ⟨c, hk, h1, h2, e⟩ | ⟨hk, hv, e⟩ | ⟨hk, h1, h2, h3, h4, e⟩ | ⟨hk, h1, h2, h3, h4, e⟩
  · rcases hk with hk | hk | hk
    · rw [show raw x = sControl by simp [raw, hk]]; unfold NoC; decide
    · rw [show raw x = sBlank by simp [raw, hk]]; unfold NoC; decide
    · rw [show raw x = sSwitch by simp [raw, hk]]; unfold NoC; decide
  · have h3 := comma_ty t (by omega)
    have hn : x.n = t := by rw [e]
    rcases hk with hk | hk
    · simp only [raw, hk, hn]; exact NoC.app (by unfold NoC; decide) h3
    · simp only [raw, hk, hn]; exact NoC.app (by unfold NoC; decide) h3
  · have h3 : NoC x.sub := NoC.of (Ln.name_plain (c := 44) (by decide) (Ln.isSub_name hs).1)
    rcases hk with hk | hk
    · simp only [raw, hk]; exact NoC.app (by unfold NoC; decide) h3
    · simp only [raw, hk]; exact NoC.app (by unfold NoC; decide) h3
  · have h3 := comma_col c (by omega)
    have hn : x.n = c := by rw [e]
    rcases hk with hk | ⟨hk, _⟩
    · simp only [raw, hk, hn]; exact NoC.app (by unfold NoC; decide) h3
    · simp only [raw, hk, hn]; exact NoC.app (by unfold NoC; decide) h3
  · have h3 := comma_keys h1 h2
    have hn : x.n = c := by rw [e]
    rcases hk with hk | hk
    · simp only [raw, hk, hn]; exact NoC.app (by unfold NoC; decide) h3
    · simp only [raw, hk, hn]; exact NoC.app (by unfold NoC; decide) h3
  · simp only [raw, hk]; exact NoC.app (NoC.app (by unfold NoC; decide) (comma_flt hv)) (by unfold NoC; decide)
  · simp only [raw, hk]; exact NoC.app (by unfold NoC; decide) (comma_pair _ _)
  · simp only [raw, hk]; exact NoC.app (by unfold NoC; decide) (comma_pair _ _)
/-! cutting at a comma and a blank -/
def sep : Bs := [44, 32]
def addH (a : UInt8) : List Bs → List Bs
  | [] => [[a]]
  | p :: ps => (a :: p) :: ps
def pieces : Bs → List Bs
  | [] => [[]]
  | [a] => [[a]]
  | a :: b :: r => if a = 44 ∧ b = 32 then [] :: pieces r else addH a (pieces (b :: r))
theorem addH_ne (a : UInt8) (l : List Bs) : addH a l ≠ [] := by cases l <;> simp [addH]
theorem pieces_ne : ∀ s, pieces s ≠ []
  | [] => by simp [pieces]
  | [a] => by simp [pieces]
  | a :: b :: r => by
    unfold pieces
    split
    · simp
    · exact addH_ne _ _
theorem join_cons2 (p q : Bs) (r : List Bs) : Lib.join (p :: q :: r) sep = p ++ (sep ++ Lib.join (q :: r) sep) := by
  rw [Lib.join_cons, Lib.join_cons]
  simp [Lib.joinTail]
theorem join_addH (a : UInt8) : ∀ {l : List Bs}, l ≠ [] → Lib.join (addH a l) sep = a :: Lib.join l sep
  | [], h => absurd rfl h
  | [p], _ => by simp only [addH]; rw [Lib.join_one, Lib.join_one]
  | p :: q :: r, _ => by simp only [addH]; rw [join_cons2, join_cons2]; rfl
theorem join_pieces : ∀ s, Lib.join (pieces s) sep = s
  | [] => by simp only [pieces]; rw [Lib.join_one]
  | [a] => by simp only [pieces]; rw [Lib.join_one]
  | a :: b :: r => by
    unfold pieces
    split
    · rename_i h
      obtain ⟨rfl, rfl⟩ := h
      have h1 := join_pieces r
      cases hp : pieces r with
      | nil => exact absurd hp (pieces_ne r)
      | cons q qs =>
        rw [hp] at h1
        rw [join_cons2, h1]
        rfl
    · rw [join_addH a (pieces_ne _), join_pieces (b :: r)]
theorem pieces_app : ∀ {p : Bs}, NoC p → ∀ r, pieces (p ++ sep ++ r) = p :: pieces r
  | [], _, r => by show pieces (44 :: 32 :: r) = _; rw [pieces, if_pos ⟨rfl, rfl⟩]
  | [a], h, r => by
    show pieces (a :: 44 :: 32 :: r) = _
    have ha : a ≠ 44 := h a (by simp)
    rw [show pieces (a :: 44 :: 32 :: r) = if a = 44 ∧ (44 : UInt8) = 32 then [] :: pieces (32 :: r) else addH a (pieces (44 :: 32 :: r)) from by rw [pieces]]
    rw [if_neg (by simp)]
    have := pieces_app (p := []) (fun _ hb => by cases hb) r
    rw [show pieces (44 :: 32 :: r) = [] :: pieces r from this]
    rfl
  | a :: b :: p, h, r => by
    have ha : a ≠ 44 := h a (by simp)
    rw [show a :: b :: p ++ sep ++ r = a :: b :: (p ++ sep ++ r) from rfl]
    rw [show pieces (a :: b :: (p ++ sep ++ r)) = if a = 44 ∧ b = 32 then [] :: pieces (p ++ sep ++ r) else addH a (pieces (b :: (p ++ sep ++ r))) from by rw [pieces]]
    rw [if_neg (fun e => ha e.1)]
    have := pieces_app (p := b :: p) (fun x hx => h x (List.mem_cons_of_mem _ hx)) r
    rw [show pieces (b :: (p ++ sep ++ r)) = (b :: p) :: pieces r from this]
    rfl
theorem pieces_one : ∀ {p : Bs}, NoC p → pieces p = [p]
  | [], _ => rfl
  | [a], _ => rfl
  | a :: b :: p, h => by
    have ha : a ≠ 44 := h a (by simp)
    rw [pieces, if_neg (fun e => ha e.1), pieces_one (p := b :: p) (fun x hx => h x (List.mem_cons_of_mem _ hx))]
    rfl
theorem pieces_join : ∀ {ps : List Bs}, ps ≠ [] → (∀ p ∈ ps, NoC p) → pieces (Lib.join ps sep) = ps
  | [], h, _ => absurd rfl h
  | [p], _, h => by rw [Lib.join_one, pieces_one (h p (by simp))]
  | p :: q :: r, _, h => by
    rw [join_cons2, ← List.append_assoc, pieces_app (h p (by simp)), pieces_join (by simp) fun x hx => h x (List.mem_cons_of_mem _ hx)]
/-! lists -/
noncomputable def listB (l : List Md) : Bool := (decide (1 ≤ l.length) && decide (l.length ≤ 6)) && l.all okB
noncomputable def listT (l : List Md) : Bs := if listB l then Lib.join (l.map raw) sep else []
/-- what ParseList answers -/
noncomputable def lB (s : Bs) : Bool := decide ((pieces s).length ≤ 6) && (pieces s).all pB
noncomputable def lV (s : Bs) : List Md := if lB s then (pieces s).map pV else []
noncomputable def lE (s : Bs) : Int := if lB s then 0 else 3
theorem lB_text {l : List Md} (h : listB l = true) : lB (listT l) = true ∧ lV (listT l) = l := by
  have hT : listT l = Lib.join (l.map raw) sep := by unfold listT; rw [if_pos h]
  simp only [listB, Bool.and_eq_true, decide_eq_true_eq, List.all_eq_true] at h
  obtain ⟨⟨h1, h2⟩, h3⟩ := h
  have hp : pieces (listT l) = l.map raw := by
    rw [hT]
    refine pieces_join (by intro e; rw [List.map_eq_nil_iff] at e; rw [e] at h1; simp at h1) fun p hp => ?_
    obtain ⟨x, hx, rfl⟩ := List.mem_map.1 hp
    exact raw_comma (h3 x hx)
  have hb : lB (listT l) = true := by
    unfold lB
    rw [hp]
    simp only [Bool.and_eq_true, decide_eq_true_eq, List.all_eq_true, List.length_map]
    refine ⟨h2, fun p hp => ?_⟩
    obtain ⟨x, hx, rfl⟩ := List.mem_map.1 hp
    have := p_text (h3 x hx)
    cases hq : pB (raw x) with
    | true => rfl
    | false =>
      have h5 := (p_no hq).2
      rw [textM_ok (h3 x hx), h5] at this
      exact absurd this.2 (by decide)
  refine ⟨hb, ?_⟩
  unfold lV
  rw [if_pos hb, hp, List.map_map]
  conv => rhs; rw [← List.map_id l]
  refine List.map_congr_left fun x hx => ?_
  have := (p_text (h3 x hx)).1
  rw [textM_ok (h3 x hx)] at this
  exact this
theorem lB_back {s : Bs} (h : lB s = true) : listB (lV s) = true ∧ listT (lV s) = s := by
  have hb := h
  simp only [lB, Bool.and_eq_true, decide_eq_true_eq, List.all_eq_true] at h
  obtain ⟨h1, h2⟩ := h
  have hv : lV s = (pieces s).map pV := by unfold lV; rw [if_pos hb]
  have h3 : listB (lV s) = true := by
    rw [hv]
    simp only [listB, Bool.and_eq_true, decide_eq_true_eq, List.all_eq_true, List.length_map]
    refine ⟨⟨List.length_pos_iff.2 (pieces_ne s), h1⟩, fun x hx => ?_⟩
    obtain ⟨p, hp, rfl⟩ := List.mem_map.1 hx
    exact (p_yes (h2 p hp)).1
  refine ⟨h3, ?_⟩
  unfold listT
  rw [if_pos h3, hv, List.map_map]
  conv => rhs; rw [← join_pieces s]
  congr 1
  conv => rhs; rw [← List.map_id (pieces s)]
  refine List.map_congr_left fun p hp => ?_
  obtain ⟨h4, h5, _⟩ := p_yes (h2 p hp)
  show raw (pV p) = p
  rw [← textM_ok h4, h5]
end Go.Proofs.YthkkabdhmflhiaaGreatDoor.Mo
namespace Go.Proofs.YthkkabdhmflhiaaGreatDoor.Mo

def NoB (l : Bs) : Prop := ∀ b ∈ l, Wd.brk b = false
theorem NoB.app {a b : Bs} (ha : NoB a) (hb : NoB b) : NoB (a ++ b) := fun x hx => by
  rcases List.mem_append.1 hx with h | h
  · exact ha x h
  · exact hb x h
theorem NoB.join {ps : List Bs} {c : UInt8} (hc : Wd.brk c = false) (h : ∀ p ∈ ps, NoB p) : NoB (Lib.join ps [c]) := fun b hb => by
  rcases Ct.mem_join hb with rfl | ⟨p, hp, hbp⟩
  · exact hc
  · exact h p hp b hbp
theorem brk_ty : ∀ t, t < 64 → NoB (tyN t) := by unfold NoB; decide +kernel
theorem brk_col : ∀ c, c < 32 → NoB (Col.textN c) := by unfold NoB; decide +kernel
theorem brk_key : ∀ k, k < 17 → NoB (Kw.name k) := by unfold NoB; decide +kernel
theorem brk_keys {c : Nat} (h1 : 1 ≤ c) (h : c ≤ 131071) : NoB (Kw.textN c) := by
  rw [Kw.textN_pos h1 h]
  unfold Kw.outTo
  refine NoB.join (by decide) fun p hp => ?_
  obtain ⟨i, hi, _, rfl⟩ := Kw.mem_parts hp
  exact brk_key i hi
theorem brk_itoa (n : Int) : NoB (Lib.itoa n) := by
  intro b hb
  have key : ∀ u : Nat, ∀ x ∈ Lib.decDigits u, Wd.brk x = false := fun u x hx => by
    have := Num.decDigits_digit u x hx
    unfold Wd.brk
    have k : ∀ k : UInt8, k.toNat < 48 ∨ 57 < k.toNat → (x == k) = false := by
      intro k hk
      cases hbk : x == k with
      | false => rfl
      | true => rw [beq_iff_eq] at hbk; subst hbk; omega
    rw [k 40 (by decide), k 41 (by decide), k 91 (by decide), k 93 (by decide)]
    rfl
  rcases Int.lt_or_le n 0 with h | h
  · rw [Num.itoa_neg h] at hb
    rcases List.mem_append.1 hb with h1 | h1
    · rw [List.mem_singleton] at h1; subst h1; decide
    · exact key _ b h1
  · rw [Num.itoa_nonneg h] at hb
    exact key _ b hb
theorem brk_flt {f : Fil.Flt} (h : Fil.validB f = true) : NoB (Fil.textF f) := by
  rw [Fil.textF_valid h]
  unfold Fil.textP
  split
  · unfold NoB; decide
  · exact NoB.join (by decide) fun p hp b hb => (Fil.rest_plainC (Fil.valid_of h) 13 0 p hp b hb).2
/-! the depth behind a text -/
def dep (d : Nat) (l : Bs) : Nat := l.foldl Wd.stepD d
theorem dep_app (d : Nat) (a b : Bs) : dep d (a ++ b) = dep (dep d a) b := by unfold dep; rw [List.foldl_append]
theorem dep_plain : ∀ {l : Bs} (d : Nat), NoB l → dep d l = d
  | [], _, _ => rfl
  | b :: l, d, h => by
    show dep (Wd.stepD d b) l = d
    rw [Wd.stepD_plain (h b (by simp)), dep_plain d fun x hx => h x (List.mem_cons_of_mem _ hx)]
theorem depAt_dep (l : Bs) : ∀ i, i ≤ l.length → Wd.depAt l i = dep 0 (l.take i)
  | 0, _ => rfl
  | i + 1, h => by
    have hi : i < l.length := h
    rw [Wd.depAt, depAt_dep l i (by omega), List.take_succ_eq_append_getElem hi, dep_app, List.getD, List.getElem?_eq_getElem hi]
    rfl
theorem raw_dep {x : Md} (h : okB x = true) : dep 0 (raw x) = 0 := by
  have P : ∀ {l : Bs}, NoB l → dep 0 l = 0 := fun h => dep_plain 0 h
  rcases ok_cases h with ⟨hk, e⟩ | ⟨t, hk, h1, h2, _, e⟩ | ⟨hk, hs, e⟩ | ⟨c, hk, h2, e⟩ | ⟨c, hk, h1, h2, e⟩ | ⟨hk, hv, e⟩ | ⟨hk, h1, h2, h3, h4, e⟩ | ⟨hk, h1, h2, h3, h4, e⟩
  · rcases hk with hk | hk | hk
    · rw [show raw x = sControl by simp [raw, hk]]; decide
    · rw [show raw x = sBlank by simp [raw, hk]]; decide
    · rw [show raw x = sSwitch by simp [raw, hk]]; decide
  · have h3 := brk_ty t (by omega)
    have hn : x.n = t := by rw [e]
    rcases hk with hk | hk
    · simp only [raw, hk, hn]; exact P (NoB.app (by unfold NoB; decide) h3)
    · simp only [raw, hk, hn]; exact P (NoB.app (by unfold NoB; decide) h3)
  · have h3 : NoB x.sub := fun b hb => (Ln.name_plain (c := 44) (by decide) (Ln.isSub_name hs).1 b hb).2
    rcases hk with hk | hk
    · simp only [raw, hk]; exact P (NoB.app (by unfold NoB; decide) h3)
    · simp only [raw, hk]; exact P (NoB.app (by unfold NoB; decide) h3)
  · have h3 := brk_col c (by omega)
    have hn : x.n = c := by rw [e]
    rcases hk with hk | ⟨hk, _⟩
    · simp only [raw, hk, hn]; exact P (NoB.app (by unfold NoB; decide) h3)
    · simp only [raw, hk, hn]; exact P (NoB.app (by unfold NoB; decide) h3)
  · have h3 := brk_keys h1 h2
    have hn : x.n = c := by rw [e]
    rcases hk with hk | hk
    · simp only [raw, hk, hn]; exact P (NoB.app (by unfold NoB; decide) h3)
    · simp only [raw, hk, hn]; exact P (NoB.app (by unfold NoB; decide) h3)
  · simp only [raw, hk]
    show dep 0 (sPtC ++ Fil.textF x.f ++ [41]) = 0
    rw [dep_app, dep_app, show dep 0 sPtC = 1 by decide, dep_plain 1 (brk_flt hv)]
    decide
  · have h3 : NoB (pairS x.n x.m) := by
      unfold pairS
      refine NoB.app (brk_itoa _) fun b hb => ?_
      rcases List.mem_cons.1 hb with rfl | hb
      · decide
      · exact brk_itoa _ b hb
    simp only [raw, hk]; exact P (NoB.app (by unfold NoB; decide) h3)
  · have h3 : NoB (pairS x.n x.m) := by
      unfold pairS
      refine NoB.app (brk_itoa _) fun b hb => ?_
      rcases List.mem_cons.1 hb with rfl | hb
      · decide
      · exact brk_itoa _ b hb
    simp only [raw, hk]; exact P (NoB.app (by unfold NoB; decide) h3)
theorem valid_raw {p : Bs} (h : pB p = true) : NoC p ∧ dep 0 p = 0 := by
  obtain ⟨h1, h2, _⟩ := p_yes h
  rw [← h2, textM_ok h1]
  exact ⟨raw_comma h1, raw_dep h1⟩
/-- behind a valid text the cut lies where the separator lies -/
theorem cut_valid {p r : Bs} (h : pB p = true) : Wd.cut (p ++ sep ++ r) sep = (p, r, true) := by
  obtain ⟨h1, h2⟩ := valid_raw h
  have e : p ++ sep ++ r = p ++ (sep ++ r) := by simp
  have hs : sep.length = 2 := rfl
  rw [Wd.cut_some (l := p ++ sep ++ r) (sep := sep) (k := p.length) (by decide) (by simp [hs]; omega) ?_ ?_]
  · rw [e, List.take_left, show p ++ (sep ++ r) = (p ++ sep) ++ r by simp, show p.length + sep.length = (p ++ sep).length by simp, List.drop_left]
  · unfold Wd.cutP
    rw [depAt_dep _ _ (by simp), e, List.take_left, h2, List.drop_left]
    simp [sep, List.isPrefixOf]
  · intro j hj
    unfold Wd.cutP
    have : sep.isPrefixOf ((p ++ sep ++ r).drop j) = false := by
      rw [e, List.drop_append_of_le_length (by omega), List.drop_eq_getElem_cons hj, List.cons_append]
      have hb : ((44 : UInt8) == p[j]) = false := by
        have := h1 _ (List.getElem_mem hj)
        simpa using Ne.symm this
      simp [sep, List.isPrefixOf, hb]
    rw [this, Bool.and_false]
theorem cut_last {p : Bs} (h : pB p = true) : Wd.cut p sep = (p, [], false) := by
  obtain ⟨h1, _⟩ := valid_raw h
  refine Wd.cut_none (by decide) fun j hj => ?_
  unfold Wd.cutP
  have : sep.isPrefixOf (p.drop j) = false := by
    rw [List.drop_eq_getElem_cons hj]
    have hb : ((44 : UInt8) == p[j]) = false := by
      have := h1 _ (List.getElem_mem hj)
      simpa using Ne.symm this
    show ((44 : UInt8) == p[j] && ([32] : Bs).isPrefixOf (List.drop (j + 1) p)) = false
    rw [hb, Bool.false_and]
  rw [this, Bool.and_false]
/-- what a cut leaves, joined again -/
theorem cut_back {s p r : Bs} {m : Bool} (h : Wd.cut s sep = (p, r, m)) : (m = true → s = p ++ sep ++ r ∧ r.length + 2 ≤ s.length) ∧ (m = false → s = p) ∧ p.length ≤ s.length ∧ r.length ≤ s.length := by
  unfold Wd.cut at h
  rw [if_neg (by decide)] at h
  split at h
  · rename_i i hi
    simp only [Prod.mk.injEq] at h
    obtain ⟨rfl, rfl, rfl⟩ := h
    have hc : Wd.cutP s sep i = true := by
      unfold Wd.cutAt at hi
      exact List.find?_some hi
    have hl := Wd.cutP_len hc
    have hs : sep.length = 2 := rfl
    have hp : sep.isPrefixOf (s.drop i) = true := by
      unfold Wd.cutP at hc
      simp only [Bool.and_eq_true] at hc
      exact hc.2
    obtain ⟨t, ht⟩ := List.isPrefixOf_iff_prefix.1 hp
    refine ⟨fun _ => ⟨?_, (by simp [hs]; omega)⟩, fun h => (by cases h), (by simp; omega), (by simp)⟩
    have e2 : s.drop (i + sep.length) = t := by
      rw [← List.drop_drop, ← ht, List.drop_left]
    rw [e2, List.append_assoc, ht, List.take_append_drop]
  · simp only [Prod.mk.injEq] at h
    obtain ⟨rfl, rfl, rfl⟩ := h
    exact ⟨fun h => (by cases h), fun _ => rfl, Nat.le_refl _, Nat.zero_le _⟩
/-- the loop over the pieces: ps were read, r is left -/
structure Inv (s : Bs) (ps : List Bs) (r : Bs) (more : Bool) : Prop where
  ok : ∀ p ∈ ps, pB p = true
  len : ps.length ≤ 6
  go : more = true → pieces s = ps ++ pieces r
  done : more = false → pieces s = ps
theorem Inv.start (s : Bs) : Inv s [] s true := ⟨by simp, by decide, fun _ => rfl, fun h => (by cases h)⟩
theorem Inv.next {s : Bs} {ps : List Bs} {r p q : Bs} {m : Bool} (h : Inv s ps r true) (hc : Wd.cut r sep = (p, q, m)) (hp : pB p = true) (hl : ps.length ≠ 6) : Inv s (ps ++ [p]) q m := by
  have h6 := h.len
  have hb := cut_back hc
  obtain ⟨hn, _⟩ := valid_raw hp
  refine ⟨fun x hx => ?_, by simp; omega, fun e => ?_, fun e => ?_⟩
  · rcases List.mem_append.1 hx with hx | hx
    · exact h.ok x hx
    · rw [List.mem_singleton] at hx; subst hx; exact hp
  · rw [h.go rfl, (hb.1 e).1, pieces_app hn]
    simp
  · rw [h.go rfl, hb.2.1 e, pieces_one hn]
theorem Inv.good {s : Bs} {ps : List Bs} {r : Bs} (h : Inv s ps r false) : lB s = true ∧ lV s = ps.map pV ∧ lE s = 0 := by
  have hb : lB s = true := by
    unfold lB
    rw [h.done rfl]
    simp only [Bool.and_eq_true, decide_eq_true_eq, List.all_eq_true]
    exact ⟨h.len, h.ok⟩
  refine ⟨hb, ?_, ?_⟩
  · unfold lV; rw [if_pos hb, h.done rfl]
  · unfold lE; rw [if_pos hb]
theorem Inv.bad {s : Bs} {ps : List Bs} {r p q : Bs} {m : Bool} (h : Inv s ps r true) (hc : Wd.cut r sep = (p, q, m)) (hbad : pB p = false ∨ ps.length = 6) : lB s = false ∧ lV s = [] ∧ lE s = 3 := by
  have hb : lB s = false := by
    cases hb : lB s with
    | false => rfl
    | true =>
      exfalso
      unfold lB at hb
      rw [h.go rfl] at hb
      simp only [Bool.and_eq_true, decide_eq_true_eq, List.all_eq_true, List.length_append] at hb
      obtain ⟨h1, h2⟩ := hb
      have hne := List.length_pos_iff.2 (pieces_ne r)
      rcases hbad with hbad | hbad
      · have hj := join_pieces r
        cases hq : pieces r with
        | nil => exact pieces_ne r hq
        | cons a tl =>
          rw [hq] at h2 hj
          have ha : pB a = true := h2 a (by simp)
          cases tl with
          | nil =>
            rw [Lib.join_one] at hj
            rw [← hj, cut_last ha] at hc
            simp only [Prod.mk.injEq] at hc
            rw [← hc.1, ha] at hbad
            cases hbad
          | cons b tl =>
            rw [join_cons2, ← List.append_assoc] at hj
            rw [← hj, cut_valid ha] at hc
            simp only [Prod.mk.injEq] at hc
            rw [← hc.1, ha] at hbad
            cases hbad
      · omega
  refine ⟨hb, ?_, ?_⟩
  · unfold lV; rw [if_neg (by rw [hb]; decide)]
  · unfold lE; rw [if_neg (by rw [hb]; decide)]
end Go.Proofs.YthkkabdhmflhiaaGreatDoor.Mo
namespace Go.Proofs.YthkkabdhmflhiaaGreatDoor
open Go.RowKit
open Wd (Bs)

theorem cut_at {r : ByteArray} {p q : Bs} {m : Bool} (h : Wd.cut r.data.toList Mo.sep = (p, q, m)) (hs : r.size ≤ 1000000) (W : World) :
    Calls Tryz.prog 46 #[.string r, .string ⟨#[44, 32]⟩] W fun e w' => e = .returned (.tuple #[.string ⟨p.toArray⟩, .string ⟨q.toArray⟩, .bool m]) ∧ Below W.heap.size W w' := by
  refine (wordCutFar r ⟨#[44, 32]⟩ W (by omega) (by decide)).mono ?_
  rintro e w1 ⟨h1, h2⟩
  have h1' : e = .returned (cutV (Wd.cut r.data.toList Mo.sep)) := h1
  rw [h] at h1'
  exact ⟨h1', h2⟩
theorem cut_short {r : ByteArray} {p : Bs} (h : p.length ≤ r.data.toList.length) (hs : r.size ≤ 1000000) : (ByteArray.mk p.toArray).size ≤ 1000000 := by
  have hsl : r.data.toList.length = r.size := Array.length_toList
  rw [size_of]
  omega
def strLen : Value → Nat
  | .string s => s.size
  | _ => 0
def isOn : Value → Bool
  | .bool b => b
  | _ => false
theorem cut_less {r : ByteArray} {p q : Bs} {m : Bool} (h : m = true → r.data.toList = p ++ Mo.sep ++ q ∧ q.length + 2 ≤ r.data.toList.length) : (if isOn (.bool m) then strLen (.string ⟨q.toArray⟩) + 1 else 0) < (if isOn (.bool true) then strLen (.string r) + 1 else 0) := by
  have hsl : r.data.toList.length = r.size := Array.length_toList
  cases m with
  | false => simp [isOn]
  | true =>
    have := (h rfl).2
    simp only [isOn, strLen, if_true, size_of]
    omega
def ListRes (s : Bs) (w : World) (e : Ending) (w' : World) : Prop := ∃ v, e = .returned (.tuple #[v, .int .i64 (Mo.lE s)]) ∧ OwnRowS 27 20 w.heap.size w' v ((Mo.lV s).map cellsX) ∧ Below w.heap.size w w'

set_option maxHeartbeats 8000000 in
set_option maxRecDepth 100000 in
theorem modParseListOf (s : ByteArray) (hs : s.size ≤ 1000000) (w : World)
    (HPA : Hid (∀ (ps : List Bs) (p r q : Bs) (m : Bool), Mo.Inv s.data.toList ps r true → Wd.cut r Mo.sep = (p, q, m) → p.length ≤ 1000000 → ∀ W, Below w.heap.size w W → Calls Tryz.prog 18 #[.string ⟨p.toArray⟩] W fun e w' => e = .returned (.tuple #[.agg (cellsX (Mo.pV p)), .int .i64 (Mo.pE p)]) ∧ Below W.heap.size W w')) :
    Calls Tryz.prog 20 #[.string s] w (ListRes s.data.toList w) := by

  have B0 := Lib.hid (Below.refl w.heap.size w)
  go_enter Tryz.func20, Tryz.ntmps20
  go_upto_region 0 with fail
  refine wp_region_lit ?_
  iterate 2 ((with_reducible refine rN (v := ?_) ?_ ?_ ?_); rotate_left; (· rfl); (· go_simp; (try with_reducible rfl)); simp only [pu, sB, s0, sS])
  go_upto_region 1 with fail
  refine wp_region_lit ?_
  (with_reducible refine rN (v := ?_) ?_ ?_ ?_); rotate_left; (· rfl); (· go_simp; (try with_reducible rfl)); simp only [pu, sB, s0, sS]
  go_upto_region 2 with fail
  refine wp_region_lit ?_
  (with_reducible refine rN (v := ?_) ?_ ?_ ?_); rotate_left; (· rfl); (· go_simp; (try with_reducible rfl)); simp only [pu, sB, s0, sS]
  go_upto_region 3 with fail
  refine wp_region_lit ?_
  (with_reducible refine rN (v := .bool true) ?_ ?_ ?_); (· rfl); (· go_simp; (try with_reducible rfl)); simp only [pu, sB, s0, sS]
  go_wp2_with fail
  go_loopw [0, 4, 5, 6, 7, 8] (fun sv lv v5 mv v7 v8 wr => ∃ (ps : List Bs) (r : ByteArray) (more : Bool), sv = .string r ∧ mv = .bool more ∧ Hid (Mo.Inv s.data.toList ps r.data.toList more) ∧ Hid (r.size ≤ 1000000) ∧ Hid (OwnRowS 27 20 w.heap.size wr lv (ps.map fun p => cellsX (Mo.pV p))) ∧ Hid (Below w.heap.size w wr)) (fun sv lv v5 mv v7 v8 _ => if isOn mv then strLen sv + 1 else 0)
  case atStart => exact ⟨[], s, true, rfl, rfl, Lib.hid (Mo.Inv.start _), Lib.hid hs, Lib.hid (OwnRowS.nil _ _ _ _), B0⟩
  case round =>
    obtain ⟨ps, r, more, rfl, rfl, HI, HS, HO, HB⟩ := hrel
    clear B0
    have B0 := Lib.hid (Below.refl wr.heap.size wr)
    cases more with
    | false =>
      go_upto_region 4 with fail
      refine wp_region_lit ?_
      (with_reducible refine rN (v := .bool false) ?_ ?_ ?_); (· rfl); (· go_simp; (try with_reducible rfl)); simp only [pu, sB, s0, sS]
      go_upto_region 10 with fail
      refine wp_region_lit ?_
      iterate 3 ((with_reducible refine rN (v := ?_) ?_ ?_ ?_); rotate_left; (· rfl); (· go_simp; (try with_reducible rfl)); simp only [pu, sB, s0, sS])
      go_wp2_with fail
      go_ret2
      exact ⟨_, by rw [HI.out.good.2.2]; rfl, by rw [HI.out.good.2.1, List.map_map]; exact HO.out, HB.out⟩
    | true =>
      obtain ⟨⟨p, q, m2⟩, hcut⟩ : ∃ x, Wd.cut r.data.toList Mo.sep = x := ⟨_, rfl⟩
      have HCB := Lib.hid (Mo.cut_back hcut)
      have HCU := Lib.hid hcut
      have HC : Hid (∀ W, Calls Tryz.prog 46 #[.string r, .string ⟨#[44, 32]⟩] W fun e w' => e = .returned (.tuple #[.string ⟨p.toArray⟩, .string ⟨q.toArray⟩, .bool m2]) ∧ Below W.heap.size W w') := Lib.hid fun W => cut_at hcut HS.out W
      clear hcut
      have HP : Hid (∀ W, Below w.heap.size w W → Calls Tryz.prog 18 #[.string ⟨p.toArray⟩] W fun e w' => e = .returned (.tuple #[.agg (cellsX (Mo.pV p)), .int .i64 (Mo.pE p)]) ∧ Below W.heap.size W w') := Lib.hid fun W hb => HPA.out ps p r.data.toList q m2 HI.out HCU.out (by have h := cut_short HCB.out.2.2.1 HS.out; rw [size_of] at h; exact h) W hb
      go_upto_region 4 with fail
      refine wp_region_lit ?_
      (with_reducible refine rN (v := .bool true) ?_ ?_ ?_); (· rfl); (· go_simp; (try with_reducible rfl)); simp only [pu, sB, s0, sS]
      go_upto_region 5 with fail
      refine wp_region_lit ?_
      (with_reducible refine rN (v := ?_) ?_ ?_ ?_); rotate_left; (· rfl); (· go_simp; (try with_reducible rfl)); simp only [pu, sB, s0, sS]
      go_wp2_with fail
      refine (HC.out _).mono ?_
      rintro e w1 ⟨rfl, hb⟩
      have B1 := Lib.hid (B0.out.trans (hb.mono B0.out.size))
      clear hb
      clear B0
      go_simp
      rename_i hKK
      refine hKK _ _ ?_
      clear hKK
      try simp only [pu, sB, s0, sS]
      iterate 5 ((with_reducible refine rN (v := ?_) ?_ ?_ ?_); rotate_left; (· rfl); (· go_simp; (try with_reducible rfl)); simp only [pu, sB, s0, sS])
      (with_reducible refine rN (v := ?_) ?_ ?_ ?_); rotate_left; (· rfl); (· go_simp; (try with_reducible rfl)); simp only [pu, sB, s0]
      (with_reducible refine rN (v := ?_) ?_ ?_ ?_); rotate_left; (· rfl); (· go_simp; (try with_reducible rfl)); simp only [pu, sB, s0, sS]
      obtain ⟨er, her⟩ : ∃ x, Mo.pE p = x := ⟨_, rfl⟩
      have HER := Lib.hid her
      rw [her] at HP
      clear her
      go_upto_region 6 with fail
      refine wp_region_lit ?_
      (with_reducible refine rN (v := ?_) ?_ ?_ ?_); rotate_left; (· rfl); (· go_simp; (try with_reducible rfl)); simp only [pu, sB, s0, sS]
      go_wp2_with fail
      refine (HP.out _ (HB.out.trans (B1.out.mono HB.out.size))).mono ?_
      rintro e w2 ⟨rfl, hb⟩
      have B2 := Lib.hid (B1.out.trans (hb.mono B1.out.size))
      clear hb
      clear B1
      go_simp
      rename_i hKK
      refine hKK _ _ ?_
      clear hKK
      try simp only [pu, sB, s0, sS]
      (with_reducible refine rN (v := ?_) ?_ ?_ ?_); rotate_left; (· rfl); (· go_simp; (try with_reducible rfl)); simp only [pu, sB, s0, sS]
      (with_reducible refine rN (v := .agg (cellsX (Mo.pV p))) ?_ ?_ ?_); (· rfl); (· go_simp; (try with_reducible rfl)); simp only [pu, sB, s0, sS]
      (with_reducible refine rN (v := ?_) ?_ ?_ ?_); rotate_left; (· rfl); (· go_simp; (try with_reducible rfl)); simp only [pu, sB, s0, sS]
      obtain ⟨w3, hw⟩ : ∃ v, v = w2.alloc (.cells (mO 0 0 0 ⟨#[]⟩ cellsZ) 27) := ⟨_, rfl⟩
      obtain ⟨pM, hp⟩ : ∃ v, v = w2.heap.size := ⟨_, rfl⟩
      have B3 : Hid (Below wr.heap.size wr w3) := Lib.hid (by rw [hw]; exact B2.out.alloc B2.out.size _)
      have LEM : Hid (wr.heap.size ≤ pM) := Lib.hid (by rw [hp]; exact B2.out.size)
      have KM3 : Hid (Blk w3 pM (mO 0 0 0 ⟨#[]⟩ cellsZ) 27) := Lib.hid (by rw [hw, hp]; exact Blk.new _ _ _)
      with_reducible refine wpList_runWV (some 7) (v := .pointer (some ⟨pM, 0, none⟩)) (w' := w3) ?_ ?_ ?_ ?_
      · rfl
      · rfl
      · rw [hw, hp]; (go_simp; (try rfl))
      simp only [pu, sB, s0, sS]
      clear hw hp
      clear B2
      have KM4 := Lib.hid (KM3.out.stored (o := 0) (vs := (cellsX (Mo.pV p)).toList) (cs' := (cellsX (Mo.pV p))) (laid_all (cellsX_sz (Mo.pV p)) (mO_sz cellsZ_size)))
      have B4 := Lib.hid (below_whole ((cellsX (Mo.pV p)).toList) (o := 0) B3.out LEM.out)
      with_reducible refine wpList_storeM (.tmp 7) (.tmp 19) (o := 0) (vs := (cellsX (Mo.pV p))) ?_ ?_ KM3.out ?_ (infoTMo20 (cellsX_sz (Mo.pV p))) (cellsX_one (Mo.pV p)) ?_
      · rfl
      · rfl
      · exact (fit_2 (mO_sz cellsZ_size) (cellsX_sz (Mo.pV p)) (by decide))
      (try simp only [Act.put])
      generalize World.setCells _ _ _ _ = w4 at KM4 B4 ⊢
      clear B3 KM3
      (with_reducible refine rN (v := ?_) ?_ ?_ ?_); rotate_left; (· rfl); (· go_simp; (try with_reducible rfl)); simp only [pu, sB, s0, sS]
      obtain ⟨ok, hok⟩ : ∃ x, Mo.pB p = x := ⟨_, rfl⟩
      have HOK := Lib.hid hok
      clear hok
      cases ok with
      | false =>
        obtain rfl : er = 3 := by rw [← HER.out]; exact (Mo.p_no HOK.out).2
        go_upto_region 7 with fail
        refine wp_region_lit ?_
        (with_reducible refine rN (v := ?_) ?_ ?_ ?_); rotate_left; (· rfl); (· go_simp; (try with_reducible rfl)); simp only [pu, sB, s0, sS]
        iterate 2 ((with_reducible refine rN (v := .bool true) ?_ ?_ ?_); (· rfl); (· go_simp; (try with_reducible rfl)); simp only [pu, sB, s0, sS])
        iterate 3 ((with_reducible refine kN ?_ ?_); (· rfl); simp only [pu, sB, s0, sS])
        (with_reducible refine rN (v := .bool true) ?_ ?_ ?_); (· rfl); (· go_simp; (try with_reducible rfl)); simp only [pu, sB, s0, sS]
        go_upto_region 8 with fail
        refine wp_region_lit ?_
        iterate 2 ((with_reducible refine rN (v := ?_) ?_ ?_ ?_); rotate_left; (· rfl); (· go_simp; (try with_reducible rfl)); simp only [pu, sB, s0, sS])
        go_wp2_with fail
        go_ret2
        exact ⟨_, by rw [(HI.out.bad HCU.out (.inl HOK.out)).2.2]; rfl, by rw [(HI.out.bad HCU.out (.inl HOK.out)).2.1]; exact OwnRowS.nil _ _ _ _, (HB.out.trans (B4.out.mono HB.out.size))⟩
      | true =>
        obtain rfl : er = 0 := by rw [← HER.out]; exact (Mo.p_yes HOK.out).2.2
        obtain ⟨ad, cap, elv⟩ := HO.out.row.slice
        rw [List.length_map] at elv
        subst elv
        have hle : ps.length ≤ 6 := HI.out.len
        by_cases h6 : ps.length = 6
        · have h6b : ((ps.length : Int) == 6) = true := by simp [h6]
          go_upto_region 7 with fail
          refine wp_region_lit ?_
          (with_reducible refine rN (v := ?_) ?_ ?_ ?_); rotate_left; (· rfl); (· go_simp; (try with_reducible rfl)); simp only [pu, sB, s0, sS]
          iterate 2 ((with_reducible refine rN (v := .bool false) ?_ ?_ ?_); (· rfl); (· go_simp; (try with_reducible rfl)); simp only [pu, sB, s0, sS])
          iterate 2 ((with_reducible refine rN (v := ?_) ?_ ?_ ?_); rotate_left; (· rfl); (· go_simp; (try with_reducible rfl)); simp only [pu, sB, s0, sS])
          iterate 2 ((with_reducible refine rN (v := .bool true) ?_ ?_ ?_); (· rfl); (· go_simp; (try with_reducible rfl)); simp only [pu, sB, s0, sS])
          go_upto_region 8 with fail
          refine wp_region_lit ?_
          iterate 2 ((with_reducible refine rN (v := ?_) ?_ ?_ ?_); rotate_left; (· rfl); (· go_simp; (try with_reducible rfl)); simp only [pu, sB, s0, sS])
          go_wp2_with fail
          go_ret2
          exact ⟨_, by rw [(HI.out.bad HCU.out (.inr h6)).2.2]; rfl, by rw [(HI.out.bad HCU.out (.inr h6)).2.1]; exact OwnRowS.nil _ _ _ _, (HB.out.trans (B4.out.mono HB.out.size))⟩
        have h6b : ((ps.length : Int) == 6) = false := by simp; omega
        go_upto_region 7 with fail
        refine wp_region_lit ?_
        (with_reducible refine rN (v := ?_) ?_ ?_ ?_); rotate_left; (· rfl); (· go_simp; (try with_reducible rfl)); simp only [pu, sB, s0, sS]
        iterate 2 ((with_reducible refine rN (v := .bool false) ?_ ?_ ?_); (· rfl); (· go_simp; (try with_reducible rfl)); simp only [pu, sB, s0, sS])
        iterate 2 ((with_reducible refine rN (v := ?_) ?_ ?_ ?_); rotate_left; (· rfl); (· go_simp; (try with_reducible rfl)); simp only [pu, sB, s0, sS])
        iterate 2 ((with_reducible refine rN (v := .bool false) ?_ ?_ ?_); (· rfl); (· go_simp; (try with_reducible rfl)); simp only [pu, sB, s0, sS])
        go_upto_region 9 with fail
        refine wp_region_lit ?_
        (with_reducible refine rN (v := ?_) ?_ ?_ ?_); rotate_left; (· rfl); (· go_simp; (try with_reducible rfl)); simp only [pu, sB, s0, sS]
        with_reducible refine wpList_loadS (.tmp 7) ?_ ?_ KM4.out Tryz.underlying27 ?_ (infoTMo20 (cellsX_sz (Mo.pV p))) ?_
        · rfl
        · rfl
        · rfl
        simp only [pu, sB, s0, sS]
        obtain ⟨w5, hw⟩ : ∃ v, v = w4.alloc (.cells (cellsX (Mo.pV p)) 27) := ⟨_, rfl⟩
        obtain ⟨pN, hp⟩ : ∃ v, v = w4.heap.size := ⟨_, rfl⟩
        have B5 : Hid (Below wr.heap.size wr w5) := Lib.hid (by rw [hw]; exact B4.out.alloc B4.out.size _)
        have LEN : Hid (wr.heap.size ≤ pN) := Lib.hid (by rw [hp]; exact B4.out.size)
        have KM5 := Lib.hid (show Blk w5 pM (cellsX (Mo.pV p)) 27 by rw [hw]; exact KM4.out.alloc _)
        have NEMN : Hid (pM ≠ pN) := Lib.hid (by rw [hp]; exact Nat.ne_of_lt KM4.out.lt)
        have NENM : Hid (pN ≠ pM) := Lib.hid (Ne.symm NEMN.out)
        have KN5 : Hid (Blk w5 pN (cellsX (Mo.pV p)) 27) := Lib.hid (by rw [hw, hp]; exact Blk.new _ _ _)
        with_reducible refine wpList_runWV (some 30) (v := .slice (some ⟨pN, 0, none⟩) 1 1) (w' := w5) ?_ ?_ ?_ ?_
        · rfl
        · rfl
        · rw [hw, hp]; exact run_slice_one (.tmp 29) rfl rfl Tryz.underlying37 infoMo zeroMo sizeMo (by decide) (by decide) (cellsX_sz _)
        simp only [pu, sB, s0, sS]
        clear hw hp
        clear B4 KM4
        have HON := Lib.hid (HO.out.below B5.out (Nat.le_refl _))
        have HBN := Lib.hid (HB.out.trans (B5.out.mono HB.out.size))
        refine wpList_push_mod rfl (.tmp 28) (.tmp 30) rfl rfl HON.out (b := pN) (c := 1) rfl KN5.out (cellsX_sz _) (cellsX_one _) (by simp; omega) HBN.out.size HBN.out ?_
        intro v2 wz ho2 hb2
        go_wp2_with fail
        go_roundw
        case rel => exact ⟨ps ++ [p], _, m2, rfl, rfl, Lib.hid (HI.out.next HCU.out HOK.out h6), Lib.hid (cut_short HCB.out.2.2.2 HS.out), Lib.hid (by rw [List.map_append]; exact ho2), Lib.hid hb2⟩
        case measure => exact cut_less HCB.out.1
end Go.Proofs.YthkkabdhmflhiaaGreatDoor
namespace Go.Proofs.YthkkabdhmflhiaaGreatDoor
open Go.RowKit
open Wd (Bs)

def coZ : Array Value := #[.int .i64 0, .int .i64 0, .int .i64 0, .int .i64 0, .int .i64 0, .int .i64 0, .int .i64 0]
theorem coZ_part : Part 44 7 coZ := ⟨rfl, by simp [coZ, Value.oneCell'], fun W => by kernel_rfl⟩
theorem built_T1 : Tryz.prog.built 50 [(4, .int .i64 1), (5, .int .i64 1)] = some (trC ⟨#[]⟩ coZ 0 0 0 (.slice none 0 0) 1 1 0 (.slice none 0 0) 0) := by kernel_rfl
theorem built_T2 : Tryz.prog.built 50 [(6, .int .i64 1)] = some (trC ⟨#[]⟩ coZ 0 0 0 (.slice none 0 0) 0 0 1 (.slice none 0 0) 0) := by kernel_rfl
theorem built_X13 : Tryz.prog.built 27 [(0, .int .i64 13), (1, .int .i64 2), (2, .int .i64 (-1))] = some (mO 13 2 (-1) ⟨#[]⟩ cellsZ) := by kernel_rfl
theorem built_X8 : Tryz.prog.built 27 [(0, .int .i64 8), (1, .int .i64 4)] = some (mO 8 4 0 ⟨#[]⟩ cellsZ) := by kernel_rfl
/-- one cell loaded, told by the cell -/
theorem wpList_loadC {P : Program} {ops : Array Oper} {rest : List Oper} {a : Act} {w : World} {Q : Exit → Act → World → Prop} {d : Option Tmp} {ty T : TypeId} {ps : String} {af : Array Edge} {gd : Option (Nat × Bool)} (x : Operand)
    (hw : Region.wanted { dst := d, op := .load T x, type := ty, pos := ps, after := af, guard := gd } (yielded ops a.tmps) = true)
    {b j : Nat} {v : Value} {D : TypeDesc} (hx : a.eval x = .pointer (some ⟨b, j, none⟩)) (hc : w.cell? ⟨b, j, none⟩ = some v) (hu : P.underlying T = some D) (hd : D.isRow = false)
    (h : wpList P ops Q rest (a.put d v) w) : wpList P ops Q ({ dst := d, op := .load T x, type := ty, pos := ps, after := af, guard := gd } :: rest) a w := by
  have hagg : (isAgg T).run P w = .ok false w := by
    unfold isAgg
    rw [Sem.run_bind, run_underlying hu w]
    cases D <;> simp_all
  have hr : (loadVar T ⟨b, j, none⟩).run P w = .ok v w := by simp [loadVar, Sem.run_bind, hagg, hc]
  unfold wpList
  rw [if_pos hw]
  refine .inl ?_
  unfold Oper.wp execOp
  simp only [hx, Instr.loadAt, Instr.sureAddr, Sem.run_bind, Sem.run_pure, Result.andThen_ok, hr]
  exact h

set_option maxHeartbeats 8000000 in
set_option maxRecDepth 100000 in
theorem aliveWalk (w : World)
    (H1 : Hid (∀ W, Below w.heap.size w W → Calls Tryz.prog 18 #[.string ⟨#[112, 116, 43, 61, 50, 47, 45, 49]⟩] W fun e w' => e = .returned (.tuple #[.agg (mO 13 2 (-1) ⟨#[]⟩ cellsZ), .int .i64 0]) ∧ Below W.heap.size W w')) (H2 : Hid (∀ W, Below w.heap.size w W → Calls Tryz.prog 26 #[.agg (trC ⟨#[]⟩ coZ 0 0 0 (.slice none 0 0) 1 1 0 (.slice none 0 0) 0), .agg (mO 13 2 (-1) ⟨#[]⟩ cellsZ), .int .i64 0, .int .i64 0] W fun e w' => (∃ a1 n1 c1 a2 n2 c2, e = .returned (.agg (trC ⟨#[]⟩ coZ 0 0 0 (.slice a1 n1 c1) 3 0 0 (.slice a2 n2 c2) 0))) ∧ Below W.heap.size W w')) (H3 : Hid (∀ W, Below w.heap.size w W → Calls Tryz.prog 26 #[.agg (trC ⟨#[]⟩ coZ 0 0 0 (.slice none 0 0) 0 0 1 (.slice none 0 0) 0), .agg (mO 8 4 0 ⟨#[]⟩ cellsZ), .int .i64 0, .int .i64 0] W fun e w' => (∃ a1 n1 c1 a2 n2 c2, e = .returned (.agg (trC ⟨#[]⟩ coZ 0 0 0 (.slice a1 n1 c1) 0 0 5 (.slice a2 n2 c2) 0))) ∧ Below W.heap.size W w')) (H4 : Hid (∀ W, Below w.heap.size w W → Calls Tryz.prog 20 #[.string ⟨#[99, 111, 110, 116, 114, 111, 108, 44, 32, 98, 108, 97, 110, 107]⟩] W fun e w' => (∃ ad cap, e = .returned (.tuple #[.slice ad 2 cap, .int .i64 0]) ∧ RowS 20 w' (.slice ad 2 cap) [mO 1 0 0 ⟨#[]⟩ cellsZ, mO 10 0 0 ⟨#[]⟩ cellsZ]) ∧ Below W.heap.size W w')) (HT : Hid (∀ W, Below w.heap.size w W → Calls Tryz.prog 14 #[.agg (mO 6 0 0 ⟨#[]⟩ cellsZ)] W fun e w' => e = .returned (.string ⟨#[99, 111, 108, 111, 114, 115, 61, 110, 111, 110, 101]⟩) ∧ Below W.heap.size W w')) (HS : Hid (∀ W, Below w.heap.size w W → Calls Tryz.prog 16 #[.int .i64 14] W fun e w' => e = .returned (.int .i64 8) ∧ Below W.heap.size W w')) (hq : ∀ W : World, (Op.equalIn 10000 27 (.agg (mO 13 2 (-1) ⟨#[]⟩ cellsZ)) (.agg (mO 13 2 (-1) ⟨#[]⟩ cellsZ))).run Tryz.prog W = .ok true W) :
    Calls Tryz.prog 11 #[] w fun e w' => e = .returned (.bool true) ∧ Below w.heap.size w w' := by

  have B0 := Lib.hid (Below.refl w.heap.size w)
  go_enter Tryz.func11, Tryz.ntmps11
  go_upto_region 0 with fail
  refine wp_region_lit ?_
  (with_reducible refine rN (v := .bool false) ?_ ?_ ?_); (· rfl); (· go_simp; (try with_reducible rfl)); simp only [pu, sB, s0]
  go_upto_region 1 with fail
  refine wp_region_lit ?_
  go_wp2_with fail
  refine (H1.out _ B0.out).mono ?_
  rintro e w1 ⟨rfl, hb⟩
  have B1 := Lib.hid (B0.out.trans (hb.mono B0.out.size))
  clear hb
  clear B0
  go_simp
  rename_i hKK
  refine hKK _ _ ?_
  clear hKK
  try simp only [pu, sB, s0, sS]
  (with_reducible refine rN (v := ?_) ?_ ?_ ?_); rotate_left; (· rfl); (· go_simp; (try with_reducible rfl)); simp only [pu, sB, s0, sS]
  (with_reducible refine rN (v := .agg (mO 13 2 (-1) ⟨#[]⟩ cellsZ)) ?_ ?_ ?_); (· rfl); (· go_simp; (try with_reducible rfl)); simp only [pu, sB, s0, sS]
  (with_reducible refine rN (v := ?_) ?_ ?_ ?_); rotate_left; (· rfl); (· go_simp; (try with_reducible rfl)); simp only [pu, sB, s0, sS]
  obtain ⟨w2, hw⟩ : ∃ v, v = w1.alloc (.cells (mO 0 0 0 ⟨#[]⟩ cellsZ) 27) := ⟨_, rfl⟩
  obtain ⟨pP, hp⟩ : ∃ v, v = w1.heap.size := ⟨_, rfl⟩
  have B2 : Hid (Below w.heap.size w w2) := Lib.hid (by rw [hw]; exact B1.out.alloc B1.out.size _)
  have LEP : Hid (w.heap.size ≤ pP) := Lib.hid (by rw [hp]; exact B1.out.size)
  have KP2 : Hid (Blk w2 pP (mO 0 0 0 ⟨#[]⟩ cellsZ) 27) := Lib.hid (by rw [hw, hp]; exact Blk.new _ _ _)
  with_reducible refine wpList_runWV (some 1) (v := .pointer (some ⟨pP, 0, none⟩)) (w' := w2) ?_ ?_ ?_ ?_
  · rfl
  · rfl
  · rw [hw, hp]; (go_simp; (try rfl))
  simp only [pu, sB, s0, sS]
  clear hw hp
  clear B1
  have KP3 := Lib.hid (KP2.out.stored (o := 0) (vs := (mO 13 2 (-1) ⟨#[]⟩ cellsZ).toList) (cs' := (mO 13 2 (-1) ⟨#[]⟩ cellsZ)) (laid_all (mO_sz cellsZ_size) (mO_sz cellsZ_size)))
  have B3 := Lib.hid (below_whole ((mO 13 2 (-1) ⟨#[]⟩ cellsZ).toList) (o := 0) B2.out LEP.out)
  with_reducible refine wpList_storeM (.tmp 1) (.tmp 9) (o := 0) (vs := (mO 13 2 (-1) ⟨#[]⟩ cellsZ)) ?_ ?_ KP2.out ?_ (infoTMo20 (mO_sz cellsZ_size)) (mO_one cellsZ_one) ?_
  · rfl
  · rfl
  · exact (fit_2 (mO_sz cellsZ_size) (mO_sz cellsZ_size) (by decide))
  (try simp only [Act.put])
  generalize World.setCells _ _ _ _ = w3 at KP3 B3 ⊢
  clear B2 KP2
  (with_reducible refine rN (v := ?_) ?_ ?_ ?_); rotate_left; (· rfl); (· go_simp; (try with_reducible rfl)); simp only [pu, sB, s0, sS]
  go_upto_region 2 with fail
  refine wp_region_lit ?_
  (with_reducible refine rN (v := .agg (trC ⟨#[]⟩ coZ 0 0 0 (.slice none 0 0) 1 1 0 (.slice none 0 0) 0)) ?_ ?_ ?_); (· rfl); (· refine run_buildOp _ [(4, .int .i64 1), (5, .int .i64 1)] rfl ?_ built_T1; rfl); simp only [pu, sB, s0, sS]
  with_reducible refine wpList_loadS (.tmp 1) ?_ ?_ KP3.out Tryz.underlying27 ?_ (infoTMo20 (mO_sz cellsZ_size)) ?_
  · rfl
  · rfl
  · rfl
  simp only [pu, sB, s0, sS]
  go_wp2_with fail
  refine (H2.out _ B3.out).mono ?_
  rintro e w4 ⟨⟨a1x, n1x, c1x, a2x, n2x, c2x, rfl⟩, hb⟩
  have B4 := Lib.hid (B3.out.trans (hb.mono B3.out.size))
  have KP4 := Lib.hid (KP3.out.below hb KP3.out.lt)
  clear hb
  clear B3 KP3
  go_simp
  rename_i hKK
  refine hKK _ _ ?_
  clear hKK
  try simp only [pu, sB, s0, sS]
  obtain ⟨w5, hw⟩ : ∃ v, v = w4.alloc (.cells zTr.cells 50) := ⟨_, rfl⟩
  obtain ⟨pQ, hp⟩ : ∃ v, v = w4.heap.size := ⟨_, rfl⟩
  have B5 : Hid (Below w.heap.size w w5) := Lib.hid (by rw [hw]; exact B4.out.alloc B4.out.size _)
  have LEQ : Hid (w.heap.size ≤ pQ) := Lib.hid (by rw [hp]; exact B4.out.size)
  have KP5 := Lib.hid (show Blk w5 pP (mO 13 2 (-1) ⟨#[]⟩ cellsZ) 27 by rw [hw]; exact KP4.out.alloc _)
  have NEPQ : Hid (pP ≠ pQ) := Lib.hid (by rw [hp]; exact Nat.ne_of_lt KP4.out.lt)
  have NEQP : Hid (pQ ≠ pP) := Lib.hid (Ne.symm NEPQ.out)
  have KQ5 : Hid (Blk w5 pQ zTr.cells 50) := Lib.hid (by rw [hw, hp]; exact Blk.new _ _ _)
  with_reducible refine wpList_runWV (some 3) (v := .pointer (some ⟨pQ, 0, none⟩)) (w' := w5) ?_ ?_ ?_ ?_
  · rfl
  · rfl
  · rw [hw, hp]; exact run_allocOp rfl infoTr zeroTr
  simp only [pu, sB, s0, sS]
  clear hw hp
  clear B4 KP4
  have KQ6 := Lib.hid (KQ5.out.stored (o := 0) (vs := (trC ⟨#[]⟩ coZ 0 0 0 (.slice a1x n1x c1x) 3 0 0 (.slice a2x n2x c2x) 0).toList) (cs' := (trC ⟨#[]⟩ coZ 0 0 0 (.slice a1x n1x c1x) 3 0 0 (.slice a2x n2x c2x) 0)) (laid_all (trC_sz coZ_part) zTr_cells))
  have KP6 := Lib.hid (KP5.out.wholeElse ((trC ⟨#[]⟩ coZ 0 0 0 (.slice a1x n1x c1x) 3 0 0 (.slice a2x n2x c2x) 0).toList) (o := 0) NEPQ.out)
  have B6 := Lib.hid (below_whole ((trC ⟨#[]⟩ coZ 0 0 0 (.slice a1x n1x c1x) 3 0 0 (.slice a2x n2x c2x) 0).toList) (o := 0) B5.out LEQ.out)
  with_reducible refine wpList_storeM (.tmp 3) (.tmp 13) (o := 0) (vs := (trC ⟨#[]⟩ coZ 0 0 0 (.slice a1x n1x c1x) 3 0 0 (.slice a2x n2x c2x) 0)) ?_ ?_ KQ5.out ?_ (szTr (trC_sz coZ_part)) (trC_one coZ_part rfl rfl) ?_
  · rfl
  · rfl
  · exact (fit_2 zTr_cells (trC_sz coZ_part) (by decide))
  (try simp only [Act.put])
  generalize World.setCells _ _ _ _ = w6 at KP6 KQ6 B6 ⊢
  clear B5 KP5 KQ5
  go_upto_region 3 with fail
  refine wp_region_lit ?_
  (with_reducible refine rN (v := .agg (trC ⟨#[]⟩ coZ 0 0 0 (.slice none 0 0) 0 0 1 (.slice none 0 0) 0)) ?_ ?_ ?_); (· rfl); (· refine run_buildOp _ [(6, .int .i64 1)] rfl ?_ built_T2; rfl); simp only [pu, sB, s0, sS]
  (with_reducible refine rN (v := .agg (mO 8 4 0 ⟨#[]⟩ cellsZ)) ?_ ?_ ?_); (· rfl); (· refine run_buildOp _ [(0, .int .i64 8), (1, .int .i64 4)] rfl ?_ built_X8; rfl); simp only [pu, sB, s0, sS]
  go_wp2_with fail
  refine (H3.out _ B6.out).mono ?_
  rintro e w7 ⟨⟨a1y, n1y, c1y, a2y, n2y, c2y, rfl⟩, hb⟩
  have B7 := Lib.hid (B6.out.trans (hb.mono B6.out.size))
  have KP7 := Lib.hid (KP6.out.below hb KP6.out.lt)
  have KQ7 := Lib.hid (KQ6.out.below hb KQ6.out.lt)
  clear hb
  clear B6 KP6 KQ6
  go_simp
  rename_i hKK
  refine hKK _ _ ?_
  clear hKK
  try simp only [pu, sB, s0, sS]
  obtain ⟨w8, hw⟩ : ∃ v, v = w7.alloc (.cells zTr.cells 50) := ⟨_, rfl⟩
  obtain ⟨pR, hp⟩ : ∃ v, v = w7.heap.size := ⟨_, rfl⟩
  have B8 : Hid (Below w.heap.size w w8) := Lib.hid (by rw [hw]; exact B7.out.alloc B7.out.size _)
  have LER : Hid (w.heap.size ≤ pR) := Lib.hid (by rw [hp]; exact B7.out.size)
  have KP8 := Lib.hid (show Blk w8 pP (mO 13 2 (-1) ⟨#[]⟩ cellsZ) 27 by rw [hw]; exact KP7.out.alloc _)
  have NEPR : Hid (pP ≠ pR) := Lib.hid (by rw [hp]; exact Nat.ne_of_lt KP7.out.lt)
  have NERP : Hid (pR ≠ pP) := Lib.hid (Ne.symm NEPR.out)
  have KQ8 := Lib.hid (show Blk w8 pQ (trC ⟨#[]⟩ coZ 0 0 0 (.slice a1x n1x c1x) 3 0 0 (.slice a2x n2x c2x) 0) 50 by rw [hw]; exact KQ7.out.alloc _)
  have NEQR : Hid (pQ ≠ pR) := Lib.hid (by rw [hp]; exact Nat.ne_of_lt KQ7.out.lt)
  have NERQ : Hid (pR ≠ pQ) := Lib.hid (Ne.symm NEQR.out)
  have KR8 : Hid (Blk w8 pR zTr.cells 50) := Lib.hid (by rw [hw, hp]; exact Blk.new _ _ _)
  with_reducible refine wpList_runWV (some 4) (v := .pointer (some ⟨pR, 0, none⟩)) (w' := w8) ?_ ?_ ?_ ?_
  · rfl
  · rfl
  · rw [hw, hp]; exact run_allocOp rfl infoTr zeroTr
  simp only [pu, sB, s0, sS]
  clear hw hp
  clear B7 KP7 KQ7
  have KR9 := Lib.hid (KR8.out.stored (o := 0) (vs := (trC ⟨#[]⟩ coZ 0 0 0 (.slice a1y n1y c1y) 0 0 5 (.slice a2y n2y c2y) 0).toList) (cs' := (trC ⟨#[]⟩ coZ 0 0 0 (.slice a1y n1y c1y) 0 0 5 (.slice a2y n2y c2y) 0)) (laid_all (trC_sz coZ_part) zTr_cells))
  have KP9 := Lib.hid (KP8.out.wholeElse ((trC ⟨#[]⟩ coZ 0 0 0 (.slice a1y n1y c1y) 0 0 5 (.slice a2y n2y c2y) 0).toList) (o := 0) NEPR.out)
  have KQ9 := Lib.hid (KQ8.out.wholeElse ((trC ⟨#[]⟩ coZ 0 0 0 (.slice a1y n1y c1y) 0 0 5 (.slice a2y n2y c2y) 0).toList) (o := 0) NEQR.out)
  have B9 := Lib.hid (below_whole ((trC ⟨#[]⟩ coZ 0 0 0 (.slice a1y n1y c1y) 0 0 5 (.slice a2y n2y c2y) 0).toList) (o := 0) B8.out LER.out)
  with_reducible refine wpList_storeM (.tmp 4) (.tmp 16) (o := 0) (vs := (trC ⟨#[]⟩ coZ 0 0 0 (.slice a1y n1y c1y) 0 0 5 (.slice a2y n2y c2y) 0)) ?_ ?_ KR8.out ?_ (szTr (trC_sz coZ_part)) (trC_one coZ_part rfl rfl) ?_
  · rfl
  · rfl
  · exact (fit_2 zTr_cells (trC_sz coZ_part) (by decide))
  (try simp only [Act.put])
  generalize World.setCells _ _ _ _ = w9 at KP9 KQ9 KR9 B9 ⊢
  clear B8 KP8 KQ8 KR8
  go_upto_region 4 with fail
  refine wp_region_lit ?_
  go_wp2_with fail
  refine (H4.out _ B9.out).mono ?_
  rintro e w10 ⟨⟨ad, cap, rfl, hO⟩, hb⟩
  have B10 := Lib.hid (B9.out.trans (hb.mono B9.out.size))
  have KP10 := Lib.hid (KP9.out.below hb KP9.out.lt)
  have KQ10 := Lib.hid (KQ9.out.below hb KQ9.out.lt)
  have KR10 := Lib.hid (KR9.out.below hb KR9.out.lt)
  have HL10 : Hid (RowS 20 w10 (.slice ad 2 cap) [mO 1 0 0 ⟨#[]⟩ cellsZ, mO 10 0 0 ⟨#[]⟩ cellsZ]) := Lib.hid (hO)
  clear hb
  clear B9 KP9 KQ9 KR9
  go_simp
  rename_i hKK
  refine hKK _ _ ?_
  clear hKK
  try simp only [pu, sB, s0, sS]
  iterate 5 ((with_reducible refine rN (v := ?_) ?_ ?_ ?_); rotate_left; (· rfl); (· go_simp; (try with_reducible rfl)); simp only [pu, sB, s0, sS])
  go_upto_region 5 with fail
  refine wp_region_lit ?_
  (with_reducible refine rN (v := ?_) ?_ ?_ ?_); rotate_left; (· rfl); (· go_simp; (try with_reducible rfl)); simp only [pu, sB, s0, sS]
  iterate 2 ((with_reducible refine rN (v := .bool true) ?_ ?_ ?_); (· rfl); (· go_simp; (try with_reducible rfl)); simp only [pu, sB, s0, sS])
  with_reducible refine wpList_loadS (.tmp 1) ?_ ?_ KP10.out Tryz.underlying27 ?_ (infoTMo20 (mO_sz cellsZ_size)) ?_
  · rfl
  · rfl
  · rfl
  simp only [pu, sB, s0, sS]
  (with_reducible refine rN (v := .agg (mO 13 2 (-1) ⟨#[]⟩ cellsZ)) ?_ ?_ ?_); (· rfl); (· refine run_buildOp _ [(0, .int .i64 13), (1, .int .i64 2), (2, .int .i64 (-1))] rfl ?_ built_X13; rfl); simp only [pu, sB, s0, sS]
  iterate 3 ((with_reducible refine rN (v := .bool true) ?_ ?_ ?_); (· rfl); (· go_simp; (try with_reducible rfl)); simp only [pu, sB, s0, sS])
  (with_reducible refine rN (v := .pointer (some ⟨pQ, 12, none⟩)) ?_ ?_ ?_); (· rfl); (· go_simp; (try rfl)); simp only [pu, sB, s0, sS]
  with_reducible refine wpList_loadV (.tmp 29) (j := 12) (v := .int .i64 3) ?_ ?_ KQ10.out ?_ Tryz.underlying3 ?_ ?_
  · rfl
  · rfl
  · exact trC_12 coZ_part
  · rfl
  simp only [pu, sB, s0, sS]
  iterate 3 ((with_reducible refine rN (v := .bool true) ?_ ?_ ?_); (· rfl); (· go_simp; (try with_reducible rfl)); simp only [pu, sB, s0, sS])
  (with_reducible refine rN (v := .pointer (some ⟨pQ, 13, none⟩)) ?_ ?_ ?_); (· rfl); (· go_simp; (try rfl)); simp only [pu, sB, s0, sS]
  with_reducible refine wpList_loadV (.tmp 34) (j := 13) (v := .int .i64 0) ?_ ?_ KQ10.out ?_ Tryz.underlying3 ?_ ?_
  · rfl
  · rfl
  · exact trC_13 coZ_part
  · rfl
  simp only [pu, sB, s0, sS]
  iterate 3 ((with_reducible refine rN (v := .bool true) ?_ ?_ ?_); (· rfl); (· go_simp; (try with_reducible rfl)); simp only [pu, sB, s0, sS])
  (with_reducible refine rN (v := .pointer (some ⟨pR, 14, none⟩)) ?_ ?_ ?_); (· rfl); (· go_simp; (try rfl)); simp only [pu, sB, s0, sS]
  with_reducible refine wpList_loadV (.tmp 39) (j := 14) (v := .int .i64 5) ?_ ?_ KR10.out ?_ Tryz.underlying3 ?_ ?_
  · rfl
  · rfl
  · exact trC_14 coZ_part
  · rfl
  simp only [pu, sB, s0, sS]
  iterate 3 ((with_reducible refine rN (v := .bool true) ?_ ?_ ?_); (· rfl); (· go_simp; (try with_reducible rfl)); simp only [pu, sB, s0, sS])
  (with_reducible refine rN (v := ?_) ?_ ?_ ?_); rotate_left; (· rfl); (· go_simp; (try with_reducible rfl)); simp only [pu, sB, s0, sS]
  iterate 3 ((with_reducible refine rN (v := .bool true) ?_ ?_ ?_); (· rfl); (· go_simp; (try with_reducible rfl)); simp only [pu, sB, s0, sS])
  iterate 2 ((with_reducible refine rN (v := ?_) ?_ ?_ ?_); rotate_left; (· rfl); (· go_simp; (try with_reducible rfl)); simp only [pu, sB, s0, sS])
  iterate 3 ((with_reducible refine rN (v := .bool true) ?_ ?_ ?_); (· rfl); (· go_simp; (try with_reducible rfl)); simp only [pu, sB, s0, sS])
  (with_reducible refine rN (v := ?_) ?_ ?_ ?_); rotate_left; (· rfl); (· go_simp; (try with_reducible rfl)); simp only [pu, sB, s0, sS]
  obtain ⟨lb, lo, rfl, hr⟩ := HL10.out.get (i := 1) (x := mO 10 0 0 ⟨#[]⟩ cellsZ) rfl
  have hc := hr 0 (.int .i64 10) (by rw [Array.getElem?_toList]; exact mO_0)
  clear hr
  (with_reducible refine rN (v := .pointer (some ⟨lb, lo + 1 * 20, none⟩)) ?_ ?_ ?_); (· rfl); (· go_simp; (try rfl)); simp only [pu, sB, s0, sS]
  (with_reducible refine rN (v := .pointer (some ⟨lb, lo + 1 * 20 + 0, none⟩)) ?_ ?_ ?_); (· rfl); (· go_simp; (try rfl)); simp only [pu, sB, s0, sS]
  with_reducible refine wpList_loadC (.tmp 55) (b := lb) (j := lo + 1 * 20 + 0) (v := .int .i64 10) ?_ ?_ hc Tryz.underlying3 ?_ ?_
  · rfl
  · rfl
  · rfl
  simp only [pu, sB, s0, sS]
  clear hc
  iterate 3 ((with_reducible refine rN (v := .bool true) ?_ ?_ ?_); (· rfl); (· go_simp; (try with_reducible rfl)); simp only [pu, sB, s0, sS])
  (with_reducible refine rN (v := .agg (mO 6 0 0 ⟨#[]⟩ cellsZ)) ?_ ?_ ?_); (· rfl); (· refine run_buildOp _ [(0, .int .i64 6)] rfl ?_ (built_kind 6); rfl); simp only [pu, sB, s0, sS]
  go_wp2_with fail
  refine (HT.out _ B10.out).mono ?_
  rintro e w11 ⟨rfl, hb⟩
  have B11 := Lib.hid (B10.out.trans (hb.mono B10.out.size))
  have KP11 := Lib.hid (KP10.out.below hb KP10.out.lt)
  have KQ11 := Lib.hid (KQ10.out.below hb KQ10.out.lt)
  have KR11 := Lib.hid (KR10.out.below hb KR10.out.lt)
  have HL11 := Lib.hid (HL10.out.below hb (Nat.le_refl _))
  clear hb
  clear B10 KP10 KQ10 KR10 HL10
  go_simp
  rename_i hKK
  refine hKK _ _ ?_
  clear hKK
  try simp only [pu, sB, s0, sS]
  iterate 3 ((with_reducible refine rN (v := .bool true) ?_ ?_ ?_); (· rfl); (· go_simp; (try with_reducible rfl)); simp only [pu, sB, s0, sS])
  go_wp2_with fail
  refine (HS.out _ B11.out).mono ?_
  rintro e w12 ⟨rfl, hb⟩
  have B12 := Lib.hid (B11.out.trans (hb.mono B11.out.size))
  have KP12 := Lib.hid (KP11.out.below hb KP11.out.lt)
  have KQ12 := Lib.hid (KQ11.out.below hb KQ11.out.lt)
  have KR12 := Lib.hid (KR11.out.below hb KR11.out.lt)
  have HL12 := Lib.hid (HL11.out.below hb (Nat.le_refl _))
  clear hb
  clear B11 KP11 KQ11 KR11 HL11
  go_simp
  rename_i hKK
  refine hKK _ _ ?_
  clear hKK
  try simp only [pu, sB, s0, sS]
  iterate 2 ((with_reducible refine rN (v := .bool true) ?_ ?_ ?_); (· rfl); (· go_simp; (try with_reducible rfl)); simp only [pu, sB, s0, sS])
  (with_reducible refine rN (v := .bool true) ?_ ?_ ?_); (· rfl); (· go_simp; (try with_reducible rfl)); simp only [pu, sB, s0]
  go_wp2_with fail
  go_ret
  exact ⟨rfl, B12.out⟩

set_option maxHeartbeats 8000000 in
set_option maxRecDepth 100000 in
theorem shortW (k n m : Int) (s : ByteArray) (f : Fil.Flt) (fs : ByteArray) (b1 b2 : Bool) (w : World)
    (h1 : decide ((s.size : Int) ≤ 100) = b1) (h2 : decide ((fs.size : Int) ≤ 100) = b2) :
    Calls Tryz.prog 10 #[.agg (mO k n m s (cellsF f fs))] w fun e w' => e = .returned (.bool (b1 && b2)) ∧ Below w.heap.size w w' := by

  have B0 := Lib.hid (Below.refl w.heap.size w)
  go_enter Tryz.func10, Tryz.ntmps10
  go_upto_region 0 with fail
  refine wp_region_lit ?_
  obtain ⟨w1, hw⟩ : ∃ v, v = w.alloc (.cells (mO k n m s (cellsF f fs)) 27) := ⟨_, rfl⟩
  obtain ⟨pA, hp⟩ : ∃ v, v = w.heap.size := ⟨_, rfl⟩
  have B1 : Hid (Below w.heap.size w w1) := Lib.hid (by rw [hw]; exact B0.out.alloc B0.out.size _)
  have LEA : Hid (w.heap.size ≤ pA) := Lib.hid (by rw [hp]; exact B0.out.size)
  have KA1 : Hid (Blk w1 pA (mO k n m s (cellsF f fs)) 27) := Lib.hid (by rw [hw, hp]; exact Blk.new _ _ _)
  with_reducible refine wpList_runWV (some 1) (v := .pointer (some ⟨pA, 0, none⟩)) (w' := w1) ?_ ?_ ?_ ?_
  · rfl
  · rfl
  · rw [hw, hp]; (go_simp; (try rfl))
  simp only [pu, sB, s0, sS]
  clear hw hp
  clear B0
  (with_reducible refine rN (v := .bool false) ?_ ?_ ?_); (· rfl); (· go_simp; (try with_reducible rfl)); simp only [pu, sB, s0, sS]
  cases b1 with
  | false =>
    go_upto_region 1 with fail
    refine wp_region_lit ?_
    (with_reducible refine rN (v := .pointer (some ⟨pA, 3, none⟩)) ?_ ?_ ?_); (· rfl); (· go_simp; (try rfl)); simp only [pu, sB, s0, sS]
    with_reducible refine wpList_loadV (.tmp 3) (j := 3) (v := .string s) ?_ ?_ KA1.out ?_ Tryz.underlying9 ?_ ?_
    · rfl
    · rfl
    · exact mO_3
    · rfl
    simp only [pu, sB, s0, sS]
    (with_reducible refine rN (v := ?_) ?_ ?_ ?_); rotate_left; (· rfl); (· go_simp; (try with_reducible rfl)); simp only [pu, sB, s0, sS]
    iterate 2 ((with_reducible refine rN (v := .bool false) ?_ ?_ ?_); (· rfl); (· go_simp; (try with_reducible rfl)); simp only [pu, sB, s0, sS])
    iterate 5 ((with_reducible refine kN ?_ ?_); (· rfl); simp only [pu, sB, s0, sS])
    iterate 2 ((with_reducible refine rN (v := .bool false) ?_ ?_ ?_); (· rfl); (· go_simp; (try with_reducible rfl)); simp only [pu, sB, s0, sS])
    go_wp2_with fail
    go_ret
    exact ⟨rfl, B1.out⟩
  | true =>
    cases b2 with
    | false =>
      go_upto_region 1 with fail
      refine wp_region_lit ?_
      (with_reducible refine rN (v := .pointer (some ⟨pA, 3, none⟩)) ?_ ?_ ?_); (· rfl); (· go_simp; (try rfl)); simp only [pu, sB, s0, sS]
      with_reducible refine wpList_loadV (.tmp 3) (j := 3) (v := .string s) ?_ ?_ KA1.out ?_ Tryz.underlying9 ?_ ?_
      · rfl
      · rfl
      · exact mO_3
      · rfl
      simp only [pu, sB, s0, sS]
      (with_reducible refine rN (v := ?_) ?_ ?_ ?_); rotate_left; (· rfl); (· go_simp; (try with_reducible rfl)); simp only [pu, sB, s0, sS]
      iterate 2 ((with_reducible refine rN (v := .bool true) ?_ ?_ ?_); (· rfl); (· go_simp; (try with_reducible rfl)); simp only [pu, sB, s0, sS])
      (with_reducible refine rN (v := .pointer (some ⟨pA, 4, none⟩)) ?_ ?_ ?_); (· rfl); (· go_simp; (try rfl)); simp only [pu, sB, s0, sS]
      (with_reducible refine rN (v := .pointer (some ⟨pA, 11, none⟩)) ?_ ?_ ?_); (· rfl); (· go_simp; (try rfl)); simp only [pu, sB, s0, sS]
      with_reducible refine wpList_loadV (.tmp 9) (j := 11) (v := .string fs) ?_ ?_ KA1.out ?_ Tryz.underlying9 ?_ ?_
      · rfl
      · rfl
      · exact (mO_f 7 _ rfl)
      · rfl
      simp only [pu, sB, s0, sS]
      (with_reducible refine rN (v := ?_) ?_ ?_ ?_); rotate_left; (· rfl); (· go_simp; (try with_reducible rfl)); simp only [pu, sB, s0, sS]
      iterate 3 ((with_reducible refine rN (v := .bool false) ?_ ?_ ?_); (· rfl); (· go_simp; (try with_reducible rfl)); simp only [pu, sB, s0, sS])
      go_wp2_with fail
      go_ret
      exact ⟨rfl, B1.out⟩
    | true =>
      go_upto_region 1 with fail
      refine wp_region_lit ?_
      (with_reducible refine rN (v := .pointer (some ⟨pA, 3, none⟩)) ?_ ?_ ?_); (· rfl); (· go_simp; (try rfl)); simp only [pu, sB, s0, sS]
      with_reducible refine wpList_loadV (.tmp 3) (j := 3) (v := .string s) ?_ ?_ KA1.out ?_ Tryz.underlying9 ?_ ?_
      · rfl
      · rfl
      · exact mO_3
      · rfl
      simp only [pu, sB, s0, sS]
      (with_reducible refine rN (v := ?_) ?_ ?_ ?_); rotate_left; (· rfl); (· go_simp; (try with_reducible rfl)); simp only [pu, sB, s0, sS]
      iterate 2 ((with_reducible refine rN (v := .bool true) ?_ ?_ ?_); (· rfl); (· go_simp; (try with_reducible rfl)); simp only [pu, sB, s0, sS])
      (with_reducible refine rN (v := .pointer (some ⟨pA, 4, none⟩)) ?_ ?_ ?_); (· rfl); (· go_simp; (try rfl)); simp only [pu, sB, s0, sS]
      (with_reducible refine rN (v := .pointer (some ⟨pA, 11, none⟩)) ?_ ?_ ?_); (· rfl); (· go_simp; (try rfl)); simp only [pu, sB, s0, sS]
      with_reducible refine wpList_loadV (.tmp 9) (j := 11) (v := .string fs) ?_ ?_ KA1.out ?_ Tryz.underlying9 ?_ ?_
      · rfl
      · rfl
      · exact (mO_f 7 _ rfl)
      · rfl
      simp only [pu, sB, s0, sS]
      (with_reducible refine rN (v := ?_) ?_ ?_ ?_); rotate_left; (· rfl); (· go_simp; (try with_reducible rfl)); simp only [pu, sB, s0, sS]
      iterate 3 ((with_reducible refine rN (v := .bool true) ?_ ?_ ?_); (· rfl); (· go_simp; (try with_reducible rfl)); simp only [pu, sB, s0, sS])
      go_wp2_with fail
      go_ret
      exact ⟨rfl, B1.out⟩
end Go.Proofs.YthkkabdhmflhiaaGreatDoor
