/-
  MERGED: ModProg, FNumA, Trait, ClTr. By an AI agent.
-/
import Derived.Test.YthkkabdhmflhiaaGreatDoorModIsW
import Derived.Test.YthkkabdhmflhiaaGreatDoorModGE
import Derived.Test.YthkkabdhmflhiaaGreatDoorModGD
import Derived.Test.YthkkabdhmflhiaaGreatDoorFNum
import Derived.Test.YthkkabdhmflhiaaGreatDoorModGC
import Derived.Deep.Cut
namespace Go.Proofs.YthkkabdhmflhiaaGreatDoor
open Go.RowKit
open Wd (Bs)

theorem same_below {f : FuncId} {args : Array Value} {v : Value} {w : World} (h : Calls Tryz.prog f args w fun e w' => e = .returned v ∧ w = w') : Calls Tryz.prog f args w fun e w' => e = .returned v ∧ Below w.heap.size w w' :=
  h.mono fun _ _ ⟨he, hw⟩ => ⟨he, hw ▸ Below.refl _ _⟩
theorem same_below' {f : FuncId} {args : Array Value} {v : Value} {w : World} (h : Calls Tryz.prog f args w fun e w' => e = .returned v ∧ w' = w) : Calls Tryz.prog f args w fun e w' => e = .returned v ∧ Below w.heap.size w w' :=
  h.mono fun _ _ ⟨he, hw⟩ => ⟨he, hw ▸ Below.refl _ _⟩
theorem and_types : ∀ t : Nat, t < 64 → (bits .and .i64 (t : Int) 6 == 0) = (t &&& 6 == 0) := by decide +kernel
theorem types_via (n : Int) : Mo.typesB n = (Mo.inB 1 63 n && (bits .and .i64 n 6 == 0)) := by
  unfold Mo.typesB Mo.inB
  by_cases h : 1 ≤ n ∧ n ≤ 63
  · obtain ⟨t, rfl⟩ : ∃ t : Nat, n = (t : Int) := ⟨n.toNat, by omega⟩
    rw [and_types t (by omega)]
    simp [Bool.and_assoc]
  · have : (decide (1 ≤ n) && decide (n ≤ 63)) = false := by
      cases hd : (decide (1 ≤ n) && decide (n ≤ 63)) with
      | false => rfl
      | true => simp only [Bool.and_eq_true, decide_eq_true_eq] at hd; omega
    rw [← Bool.and_assoc, this]
    rfl
theorem in_pos (hi n : Int) : Mo.inB 1 hi n = (Mo.inB 0 hi n && decide (0 < n)) := by
  unfold Mo.inB
  rw [Bool.eq_iff_iff]
  simp only [Bool.and_eq_true, decide_eq_true_eq]
  omega
set_option maxHeartbeats 1000000 in
theorem modIs (k n m : Int) (s : ByteArray) (f : Fil.Flt) (fs : ByteArray) (hf : f.sub = fs.data.toList) (hss : s.size ≤ maxLen) (hs : fs.size ≤ maxLen) (w : World) (hE : Env w) :
    Calls Tryz.prog 12 #[.agg (mO k n m s (cellsF f fs))] w fun e w' => e = .returned (.bool (Mo.okB ⟨k, n, m, s.data.toList, f⟩)) ∧ Below w.heap.size w w' := by
  cases hk : Mo.isKind k with
  | false =>
    rw [Mo.ok_not (x := ⟨k, n, m, s.data.toList, f⟩) hk]
    simp only [Mo.isKind, Bool.or_eq_false_iff] at hk
    obtain ⟨⟨⟨⟨⟨⟨⟨⟨⟨⟨⟨⟨⟨h1, h10⟩, h14⟩, h2⟩, h3⟩, h4⟩, h5⟩, h6⟩, h7⟩, h8⟩, h9⟩, h11⟩, h12⟩, h13⟩ := hk
    exact mIsOther k n m s f fs w h1 h10 h14 h2 h3 h4 h5 h6 h7 h8 h9 h11 h12 h13
  | true =>
    refine modIsIn k n m s f fs (bits .and .i64 n 6) (Mo.inB 1 63 n) (bits .and .i64 n 6 == 0) (Ln.isSub s.data.toList) (Col.validB n) (decide (0 < n)) (Kw.validB n) (Fil.validB f) (Mo.inB 0 99 n) (Mo.inB 0 99 m) (Mo.inB (-99) 99 n) (Mo.inB (-99) 99 m) w hf (Lib.hid fun W _ => same_below (modWithin n 1 63 W)) rfl rfl (types_via n) (Lib.hid fun W hb => same_below (lineIsSub s W (hE.below hb).line hss)) rfl (Lib.hid fun W _ => same_below (colorIs n W)) rfl rfl (in_pos 31 n) (Lib.hid fun W _ => same_below (keyIs n W)) (in_pos 131071 n)
      (Lib.hid fun W hb => filIs f fs hf hs W (hE.below hb)) rfl (Lib.hid fun W _ => same_below (modWithin n 0 99 W)) rfl (Lib.hid fun W _ => same_below (modWithin m 0 99 W)) rfl (Lib.hid fun W _ => same_below (modWithin n (-99) 99 W)) rfl (Lib.hid fun W _ => same_below (modWithin m (-99) 99 W)) rfl hk
/-- what validity says of the fields -/
theorem ok_rng {k n m : Int} {s : Bs} {f : Fil.Flt} (h : Mo.okB ⟨k, n, m, s, f⟩ = true) : (-99 ≤ n ∧ n ≤ 131071 ∧ -99 ≤ m ∧ m ≤ 99) ∧ (k = 2 ∨ k = 3 → 1 ≤ n ∧ n ≤ 63) ∧ (k = 4 ∨ k = 5 → Ln.isSub s = true) ∧ (k = 6 ∨ k = 7 → 0 ≤ n ∧ n ≤ 31) ∧ (k = 8 ∨ k = 9 → 1 ≤ n ∧ n ≤ 131071) ∧ (k = 11 → Fil.validB f = true) ∧ (k = 12 ∨ k = 13 → n ≤ 99) := by
  rcases Mo.ok_cases h with ⟨hk, e⟩ | ⟨t, hk, h1, h2, _, e⟩ | ⟨hk, hs, e⟩ | ⟨c, hk, h2, e⟩ | ⟨c, hk, h1, h2, e⟩ | ⟨hk, hv, e⟩ | ⟨hk, h1, h2, h3, h4, e⟩ | ⟨hk, h1, h2, h3, h4, e⟩
  all_goals
    simp only [Mo.Md.mk.injEq] at e hk
    try simp only at h1 h2 h3 h4
    try simp only at hs
    try simp only at hv
    refine ⟨by omega, by omega, ?_, by omega, by omega, ?_, by omega⟩
    · first | exact fun _ => hs | exact fun h => by omega
    · first | exact fun _ => hv | exact fun h => by omega
theorem itoa_99 : ∀ k : Nat, k < 199 → (Lib.itoa ((k : Int) - 99)).length ≤ 3 := by decide +kernel
theorem itoa_short {n : Int} (h0 : -99 ≤ n) (h1 : n ≤ 99) : (Lib.itoa n).length ≤ 3 := by
  have := itoa_99 (n + 99).toNat (by omega)
  rwa [show (((n + 99).toNat : Nat) : Int) - 99 = n by omega] at this
theorem name_short {s : Bs} (h : Ln.isSub s = true) : s.length ≤ 32 := sub_len (by unfold Fil.subB; rw [h]; simp)
theorem rawT_len {k n m : Int} {s : Bs} {f : Fil.Flt} (h : Mo.okB ⟨k, n, m, s, f⟩ = true) : (Mo.rawT ⟨k, n, m, s, f⟩).length ≤ 5000 := by
  obtain ⟨h0, h2, h4, h6, h8, h11, h12⟩ := ok_rng h
  unfold Mo.rawT
  simp only
  split
  · exact Nat.le_trans (typesN_len _) (by decide)
  · split
    · rename_i hk; exact Nat.le_trans (name_short (h4 hk)) (by decide)
    · split
      · rename_i hk; exact Nat.le_trans (Col.textN_len (by have := h6 hk; omega)) (by decide)
      · split
        · rename_i hk; exact Nat.le_trans (Kw.textN_len (by have := h8 hk; omega)) (by decide)
        · split
          · rename_i hk
            have := textF_len (h11 hk)
            rw [List.length_append]
            simp
            omega
          · split
            · rename_i hk
              have hn := h12 hk
              have e1 := itoa_short (n := n) (by omega) (by omega)
              have e2 := itoa_short (n := m) (by omega) (by omega)
              unfold Mo.pairS
              rw [List.length_append, List.length_cons]
              omega
            · simp
set_option maxHeartbeats 1000000 in
theorem modTail (k n m : Int) (s : ByteArray) (f : Fil.Flt) (fs : ByteArray) (hf : f.sub = fs.data.toList) (hs : fs.size ≤ maxLen) (hok : Mo.okB ⟨k, n, m, s.data.toList, f⟩ = true) (w : World) (hE : Env w) :
    Calls Tryz.prog 38 #[.agg (mO k n m s (cellsF f fs))] w fun e w' => e = .returned (str (Mo.rawT ⟨k, n, m, s.data.toList, f⟩)) ∧ Below w.heap.size w w' := by
  obtain ⟨h0, h2, h4, h6, h8, h11, h12⟩ := ok_rng hok
  have hfl : (Fil.textF f).length ≤ 4000 := by
    cases hv : Fil.validB f with
    | true => exact textF_len hv
    | false => unfold Fil.textF; rw [hv]; simp
  have hil : ∀ z : Int, -99 ≤ z → z ≤ 131071 → (Lib.itoa z).length ≤ 1000 := fun z h1 h2 => by
    rcases Int.lt_or_le z 0 with h | h
    · exact Nat.le_trans (itoa_short (by omega) (by omega)) (by decide)
    · rw [Num.itoa_nonneg h]; exact Nat.le_trans (Num.decDigits_len 6 _ (by simp; omega)) (by decide)
  have hn := hil n h0.1 h0.2.1
  have hm := hil m h0.2.2.1 (by omega)
  refine tailIn k n m s f fs ⟨(Mo.rawT ⟨k, n, m, s.data.toList, f⟩).toArray⟩ ⟨(typesI n).toArray⟩ ⟨(Col.textI n).toArray⟩ ⟨(Kw.textI n).toArray⟩ ⟨(Fil.textF f).toArray⟩ ⟨(Lib.itoa n).toArray⟩ ⟨(Lib.itoa m).toArray⟩ w
    (Lib.hid fun W hb => lineTypesText n W (hE.below hb).line) (Lib.hid fun hk => ?_) (Lib.hid fun hk => ?_) (Lib.hid fun W hb => colorText n W (hE.below hb).col) (Lib.hid fun hk => ?_) (Lib.hid fun W _ => keyText n W) (Lib.hid fun hk => ?_)
    (Lib.hid fun W hb => filText f fs hf hs W (hE.below hb)) (by rw [size_of]; omega) (Lib.hid fun hk => ?_) (Lib.hid fun W hb => numText n (by omega) (by omega) W (hE.below hb).num) (Lib.hid fun W hb => numText m (by omega) (by omega) W (hE.below hb).num) (by rw [size_of]; omega) (by rw [size_of]; omega) (Lib.hid fun hk => ?_) (Lib.hid fun a2 a4 a6 a8 a11 a12 => ?_)
  · have := h2 hk
    obtain ⟨t, rfl⟩ : ∃ t : Nat, n = (t : Int) := ⟨n.toNat, by omega⟩
    unfold Mo.rawT
    rw [if_pos hk, typesI_nat (by omega) (by omega)]
    rfl
  · unfold Mo.rawT
    rw [if_neg (by simp only; omega), if_pos hk]
  · have := h6 hk
    obtain ⟨t, rfl⟩ : ∃ t : Nat, n = (t : Int) := ⟨n.toNat, by omega⟩
    unfold Mo.rawT
    rw [if_neg (by simp only; omega), if_neg (by simp only; omega), if_pos hk, Col.textI_nat (by omega)]
    rfl
  · have := h8 hk
    obtain ⟨t, rfl⟩ : ∃ t : Nat, n = (t : Int) := ⟨n.toNat, by omega⟩
    unfold Mo.rawT
    rw [if_neg (by simp only; omega), if_neg (by simp only; omega), if_neg (by simp only; omega), if_pos hk, Kw.textI_nat (by omega)]
    rfl
  · unfold Mo.rawT
    rw [if_neg (by simp only; omega), if_neg (by simp only; omega), if_neg (by simp only; omega), if_neg (by simp only; omega), if_pos hk]
    exact bytes_one (by simp)
  · unfold Mo.rawT
    rw [if_neg (by simp only; omega), if_neg (by simp only; omega), if_neg (by simp only; omega), if_neg (by simp only; omega), if_neg (by simp only; omega), if_pos hk]
    exact bytes_one (by simp [Mo.pairS])
  · unfold Mo.rawT
    rw [if_neg a2, if_neg a4, if_neg a6, if_neg a8, if_neg a11, if_neg a12]
theorem heads_len : ∀ j, j < 15 → (Mo.headL j).length ≤ 9 := by decide
theorem modText (k n m : Int) (s : ByteArray) (f : Fil.Flt) (fs : ByteArray) (hf : f.sub = fs.data.toList) (hss : s.size ≤ maxLen) (hs : fs.size ≤ maxLen) (w : World) (hE : Env w) :
    Calls Tryz.prog 14 #[.agg (mO k n m s (cellsF f fs))] w fun e w' => e = .returned (str (Mo.textM ⟨k, n, m, s.data.toList, f⟩)) ∧ Below w.heap.size w w' := by
  have HI : Hid (∀ W, Below w.heap.size w W → _) := Lib.hid fun W hb => modIs k n m s f fs hf hss hs W (hE.below hb)
  cases hv : Mo.okB ⟨k, n, m, s.data.toList, f⟩ with
  | false =>
    rw [hv] at HI
    refine (mTextBad k n m s f fs w HI).mono ?_
    rintro e w1 ⟨rfl, hb⟩
    exact ⟨by rw [Mo.textM_bad hv]; rfl, hb⟩
  | true =>
    rw [hv] at HI
    have hr := Mo.ok_range hv
    simp only at hr
    obtain ⟨j, rfl⟩ : ∃ j : Nat, k = (j : Int) := ⟨k.toNat, by omega⟩
    have hj : j < 15 := by omega
    refine (mTextOk j n m s f fs ⟨(Mo.headL j).toArray⟩ ⟨(Mo.rawT ⟨j, n, m, s.data.toList, f⟩).toArray⟩ w HI hj (headsC_at hj) (Lib.hid fun W hb => modTail j n m s f fs hf hs hv W (hE.below hb)) (by rw [size_of]; have := heads_len j hj; omega) (by rw [size_of]; have := rawT_len hv; omega)).mono ?_
    rintro e w1 ⟨rfl, hb⟩
    refine ⟨?_, hb⟩
    rw [Mo.textM_ok hv, Mo.raw_head hv, str_of (l := Mo.headL (Mo.Md.k ⟨j, n, m, s.data.toList, f⟩).toNat ++ Mo.rawT ⟨j, n, m, s.data.toList, f⟩) (by simp)]
theorem ptI_eq (s : Bs) : ptI s = Mo.ptI s := rfl
theorem modReadTail (j : Nat) (r : ByteArray) (hs : r.size ≤ 1000000) (w : World) (hE : Env w) :
    Calls Tryz.prog 88 #[.int .i64 (j : Int), .string r] w fun e w' => e = .returned (.agg (cellsX (Mo.tailM j r.data.toList))) ∧ Below w.heap.size w w' := by
  have hsl : r.data.toList.length = r.size := Array.length_toList
  obtain ⟨⟨p, u, b⟩, hx⟩ : ∃ x, Wd.cut r.data.toList [47] = x := ⟨_, rfl⟩
  have hl := cut_le r.data.toList [47]
  rw [hx] at hl
  simp only at hl
  have htl : (Lib.trimSuffix r.data.toList [41]).length ≤ 1000000 := by
    unfold Lib.trimSuffix
    split
    · rw [List.length_take]; omega
    · omega
  refine rdTIn j r ⟨(Lib.trimSuffix r.data.toList [41]).toArray⟩ ⟨p.toArray⟩ ⟨u.toArray⟩ _ _ _ _ _ _ _ _ _ b _ _ _ w (Lib.hid fun W hb => lineParseTypes r W (hE.below hb).line (by omega)) (ptI_eq _).symm (Lib.hid fun W hb => colorParse r W (hE.below hb).col) rfl (Lib.hid fun W _ => keyParse r W (by omega)) rfl
    (Lib.hid fun W _ => same_below' (Tryz.strings_TrimSuffix r ⟨#[41]⟩ W (by omega))) (Lib.hid fun W hb => filParseM ⟨(Lib.trimSuffix r.data.toList [41]).toArray⟩ (by rw [size_of]; exact htl) W (hE.below hb)) rfl
    (Lib.hid fun W _ => ?_) (Lib.hid fun W hb => numNumber ⟨p.toArray⟩ (by rw [size_of]; omega) W (hE.below hb).num) (Lib.hid fun W hb => numNumber ⟨u.toArray⟩ (by rw [size_of]; omega) W (hE.below hb).num) (by rw [hx]; rfl) (by rw [hx]; rfl)
  refine (wordCutFar r ⟨#[47]⟩ W (by omega) (by decide)).mono ?_
  rintro e w1 ⟨h1, h2⟩
  have h1' : e = .returned (cutV (Wd.cut r.data.toList [47])) := h1
  rw [hx] at h1'
  exact ⟨h1', h2⟩
theorem modRead (t : ByteArray) (hs : t.size ≤ 1000000) (w : World) (hE : Env w) :
    Calls Tryz.prog 44 #[.string t] w fun e w' => e = .returned (.agg (cellsX (Mo.readM t.data.toList))) ∧ Below w.heap.size w w' :=
  readW t w hs (Lib.hid fun j W _ => cutPre t ⟨(Mo.headL j).toArray⟩ W) (Lib.hid fun j r W _ hr hb => modReadTail j r hr W (hE.below hb))
theorem parseV_sub (s : Bs) : (Fil.parseV s).sub.length ≤ 32 := by
  rcases Fil.parse_cases s with ⟨h, _⟩ | ⟨g, h1, _, h3, _⟩
  · rw [h]; decide
  · rw [h3]; exact sub_len (Fil.valid_of h1).sub
theorem tailM_short (j : Nat) (r : Bs) : (Mo.tailM j r).sub.length ≤ r.length ∧ (Mo.tailM j r).f.sub.length ≤ 32 := by
  have hz : Fil.zero.sub.length ≤ 32 := by decide
  unfold Mo.tailM
  split
  · exact ⟨Nat.zero_le _, hz⟩
  · split
    · exact ⟨Nat.le_refl _, hz⟩
    · split
      · exact ⟨Nat.zero_le _, hz⟩
      · split
        · exact ⟨Nat.zero_le _, hz⟩
        · split
          · exact ⟨Nat.zero_le _, parseV_sub _⟩
          · split
            · exact ⟨Nat.zero_le _, hz⟩
            · exact ⟨Nat.zero_le _, hz⟩
theorem readM_short (s : Bs) : (Mo.readM s).sub.length ≤ s.length ∧ (Mo.readM s).f.sub.length ≤ 32 := by
  unfold Mo.readM
  split
  · rename_i k _
    have := tailM_short k (s.drop (Mo.headL k).length)
    rw [List.length_drop] at this
    exact ⟨by omega, this.2⟩
  · exact ⟨Nat.zero_le _, by decide⟩
theorem pV_yes {s : Bs} (h : Mo.pB s = true) : Mo.pV s = Mo.readM s ∧ Mo.pE s = 0 := by
  refine ⟨?_, (Mo.p_yes h).2.2⟩
  rw [(Mo.parse_read s).2 h]
  unfold Mo.pV
  rw [if_pos h]
theorem modParse (t : ByteArray) (hs : t.size ≤ 1000000) (w : World) (hE : Env w) :
    Calls Tryz.prog 18 #[.string t] w fun e w' => e = .returned (.tuple #[.agg (cellsX (Mo.pV t.data.toList)), .int .i64 (Mo.pE t.data.toList)]) ∧ Below w.heap.size w w' := by
  have hsl : t.data.toList.length = t.size := Array.length_toList
  obtain ⟨x, hx⟩ : ∃ x, Mo.readM t.data.toList = x := ⟨_, rfl⟩
  have hl := readM_short t.data.toList
  rw [hx] at hl
  have h1 : (ByteArray.mk x.sub.toArray).size ≤ maxLen := by rw [size_of]; unfold maxLen; omega
  have h2 : (fsOf x.f).size ≤ maxLen := by unfold fsOf; rw [size_of]; unfold maxLen; omega
  obtain ⟨u, hu, eu⟩ := exists_bytes (Mo.textM x)
  have HR : Hid (∀ W, Below w.heap.size w W → _) := Lib.hid fun W hb => modRead t hs W (hE.below hb)
  rw [hx] at HR
  have HT : Hid (∀ W, Below w.heap.size w W → _) := Lib.hid fun W hb => modText x.k x.n x.m ⟨x.sub.toArray⟩ x.f (fsOf x.f) (fsOf_sub x.f) h1 h2 W (hE.below hb)
  have ex : Mo.Md.mk x.k x.n x.m (ByteArray.mk x.sub.toArray).data.toList x.f = x := rfl
  rw [ex, eu] at HT
  have HI : Hid (∀ W, Below w.heap.size w W → _) := Lib.hid fun W hb => modIs x.k x.n x.m ⟨x.sub.toArray⟩ x.f (fsOf x.f) (fsOf_sub x.f) h1 h2 W (hE.below hb)
  rw [ex] at HI
  refine (mParseW t u x.k x.n x.m ⟨x.sub.toArray⟩ x.f (fsOf x.f) (Mo.okB x) (Mo.textM x == t.data.toList) w HR HI HT (by rw [Lib.toList_data, Lib.toList_data, hu])).mono ?_
  rintro e w1 ⟨rfl, hb⟩
  refine ⟨?_, hb⟩
  have hp := (Mo.parse_read t.data.toList).1
  rw [hx] at hp
  rw [hp]
  cases hB : Mo.pB t.data.toList with
  | true =>
    rw [if_pos rfl, (pV_yes hB).1, (pV_yes hB).2, hx]
    rfl
  | false =>
    rw [if_neg (by decide), (Mo.p_no hB).1, (Mo.p_no hB).2]
    rfl
end Go.Proofs.YthkkabdhmflhiaaGreatDoor
namespace Go.Proofs.YthkkabdhmflhiaaGreatDoor
open Go.RowKit
open Wd (Bs)

set_option maxRecDepth 100000 in
theorem numAdd (a b : Int) (w : World) :
    Calls Tryz.prog 53 #[.int .i64 a, .int .i64 b] w fun e w' => e = .returned (.int .i64 (Num.clampI (Num.clampI a + Num.clampI b))) ∧ w = w' := by
  obtain ⟨a0, a1⟩ := Num.clampI_bd a
  obtain ⟨b0, b1⟩ := Num.clampI_bd b
  go_enter Tryz.func53, Tryz.ntmps53
  go_wp2_with (go_at_call 52; refine (numClamp _ _).mono ?_; rintro e w' ⟨rfl, rfl⟩)
  go_ret
  exact ⟨rfl, rfl⟩
end Go.Proofs.YthkkabdhmflhiaaGreatDoor
namespace Go.Proofs.YthkkabdhmflhiaaGreatDoor
open Go.RowKit
open Wd (Bs)

structure TrD where
  nm : ByteArray
  co : Array Value
  c : Int
  a : Int
  b : Int
  subs : List Bs
  p : Int
  t : Int
  k : Int
  abs : List AbD
  u : Int
def trV (x : TrD) (sv av : Value) : Array Value := trC x.nm x.co x.c x.a x.b sv x.p x.t x.k av x.u
/-- characteristics fit for a walk -/
structure TrOk (x : TrD) : Prop where
  co : Part 44 7 x.co
  subs : x.subs.length ≤ 1000
  abs : ∀ d ∈ x.abs, AbOk d
  few : x.abs.length ≤ 1000
theorem liC_sz {a b : Int} {v : Value} : (liC a b v).size = 3 := rfl
theorem liC_one {a b : Int} {v : Value} (h : v.oneCell' = true) : (liC a b v).all (·.oneCell') = true := by simp [liC, h]; simp [Value.oneCell']
theorem trV_sz {x : TrD} {sv av : Value} (h : Part 44 7 x.co) : (trV x sv av).size = 17 := trC_sz h
theorem trV_one {x : TrD} {sv av : Value} (h : Part 44 7 x.co) (h1 : sv.oneCell' = true) (h2 : av.oneCell' = true) : (trV x sv av).all (·.oneCell') = true := trC_one h h1 h2
noncomputable def modT (x : TrD) (m : Mo.Md) (you n : Int) : TrD :=
  if m.k = 1 then { x with u := you }
  else if m.k = 2 then { x with b := m.n }
  else if m.k = 3 then { x with b := bits .or .i64 x.b m.n }
  else if m.k = 4 then { x with subs := [m.sub] }
  else if m.k = 5 then { x with subs := (addL ⟨x.a, x.b, x.subs⟩ m.sub).subs }
  else if m.k = 6 then { x with c := m.n }
  else if m.k = 7 then { x with c := bits .or .i64 x.c m.n }
  else if m.k = 8 then { x with k := bits .or .i64 x.k m.n }
  else if m.k = 9 then { x with k := bits .andNot .i64 x.k m.n }
  else if m.k = 10 then { x with k := 0, abs := [] }
  else if m.k = 11 then { x with p := Num.clampI n, t := Num.clampI n }
  else if m.k = 12 then { x with p := m.n, t := m.m }
  else if m.k = 13 then { x with p := Num.clampI (Num.clampI x.p + Num.clampI m.n), t := Num.clampI (Num.clampI x.t + Num.clampI m.m) }
  else { x with p := x.t, t := x.p }
noncomputable def applyT (x : TrD) (m : Mo.Md) (you n : Int) : TrD := if Mo.okB m then modT x m you n else x
section
variable {x : TrD} {m : Mo.Md} {you n : Int}
theorem modT_1 (h : m.k = 1) : modT x m you n = { x with u := you } := by unfold modT; simp [h]
theorem modT_2 (h : m.k = 2) : modT x m you n = { x with b := m.n } := by unfold modT; simp [h]
theorem modT_3 (h : m.k = 3) : modT x m you n = { x with b := bits .or .i64 x.b m.n } := by unfold modT; simp [h]
theorem modT_4 (h : m.k = 4) : modT x m you n = { x with subs := [m.sub] } := by unfold modT; simp [h]
theorem modT_5 (h : m.k = 5) : modT x m you n = { x with subs := (addL ⟨x.a, x.b, x.subs⟩ m.sub).subs } := by unfold modT; simp [h]
theorem modT_6 (h : m.k = 6) : modT x m you n = { x with c := m.n } := by unfold modT; simp [h]
theorem modT_7 (h : m.k = 7) : modT x m you n = { x with c := bits .or .i64 x.c m.n } := by unfold modT; simp [h]
theorem modT_8 (h : m.k = 8) : modT x m you n = { x with k := bits .or .i64 x.k m.n } := by unfold modT; simp [h]
theorem modT_9 (h : m.k = 9) : modT x m you n = { x with k := bits .andNot .i64 x.k m.n } := by unfold modT; simp [h]
theorem modT_10 (h : m.k = 10) : modT x m you n = { x with k := 0, abs := [] } := by unfold modT; simp [h]
theorem modT_11 (h : m.k = 11) : modT x m you n = { x with p := Num.clampI n, t := Num.clampI n } := by unfold modT; simp [h]
theorem modT_12 (h : m.k = 12) : modT x m you n = { x with p := m.n, t := m.m } := by unfold modT; simp [h]
theorem modT_13 (h : m.k = 13) : modT x m you n = { x with p := Num.clampI (Num.clampI x.p + Num.clampI m.n), t := Num.clampI (Num.clampI x.t + Num.clampI m.m) } := by unfold modT; simp [h]
theorem modT_14 (h : m.k = 14) : modT x m you n = { x with p := x.t, t := x.p } := by unfold modT; simp [h]
end
theorem AbRow.mono {B B' : Nat} {w : World} {v : Value} {l : List AbD} (h : AbRow (some B) w v l) (hB : B' ≤ B) : AbRow (some B') w v l := by
  obtain ⟨ps, a, b, c⟩ := h
  exact ⟨ps, a, b.mono hB, fun p hp => (c p hp).mono hB⟩
theorem OwnStrs.keep {B : Nat} {t : TypeId} {w w' : World} {v : Value} {l : List Bs} (h : OwnStrs B w v l) (hk : KeepT t w w') (hne : 9 ≠ t) : OwnStrs B w' v l := by
  refine ⟨h.1, ?_⟩
  rcases h.2 with hn | ⟨g, cap, cur, hv, hB, hg, rest⟩
  · exact .inl hn
  · exact .inr ⟨g, cap, cur, hv, hB, hk g cur _ hg hne, rest⟩
theorem Strs.slice {w : World} {v : Value} {l : List Bs} (h : Strs w v l) : ∃ ad cap, v = .slice ad l.length cap := by
  obtain ⟨a, c, e, _⟩ := h
  exact ⟨a, c, e⟩
theorem own_one {w : World} {B b : Nat} {s : ByteArray} (h : Blk w b #[.string s] 9) (hB : B ≤ b) : OwnStrs B w (.slice (some ⟨b, 0, none⟩) 1 1) [s.data.toList] :=
  own_of_blk (l := [s.data.toList]) h hB (by simp) (by decide) rfl (fun j hj => by
    have : j = 0 := by simpa using hj
    subst this
    rfl)
end Go.Proofs.YthkkabdhmflhiaaGreatDoor
namespace Go.Proofs.YthkkabdhmflhiaaGreatDoor
open Go.RowKit
open Wd (Bs)

set_option maxHeartbeats 4000000 in
set_option maxRecDepth 100000 in
theorem cloneTraits (x : TrD) (sv av : Value) (ok : TrOk x) (w : World) (hs : Strs w sv x.subs) (ha : AbRow none w av x.abs) :
    Calls Tryz.prog 50 #[.agg (trV x sv av)] w fun e w' => (∃ s2 a2, e = .returned (.agg (trV x s2 a2)) ∧ OwnStrs w.heap.size w' s2 x.subs ∧ AbRow (some w.heap.size) w' a2 x.abs) ∧ Below w.heap.size w w' := by
  obtain ⟨ad, cap, ev⟩ := hs.slice
  subst ev
  obtain ⟨bd, bcap, ev⟩ := ha.slice
  subst ev
  have HS := Lib.hid hs
  have HA := Lib.hid ha
  clear hs ha
  unfold trV

  have B0 := Lib.hid (Below.refl w.heap.size w)
  go_enter Tryz.func50, Tryz.ntmps50
  go_upto_region 0 with fail
  refine wp_region_lit ?_
  obtain ⟨w1, hw⟩ : ∃ v, v = w.alloc (.cells (trC x.nm x.co x.c x.a x.b (.slice ad x.subs.length cap) x.p x.t x.k (.slice bd x.abs.length bcap) x.u) 50) := ⟨_, rfl⟩
  obtain ⟨pT, hp⟩ : ∃ v, v = w.heap.size := ⟨_, rfl⟩
  have B1 : Hid (Below w.heap.size w w1) := Lib.hid (by rw [hw]; exact B0.out.alloc B0.out.size _)
  have LET : Hid (w.heap.size ≤ pT) := Lib.hid (by rw [hp]; exact B0.out.size)
  have KT1 : Hid (Blk w1 pT (trC x.nm x.co x.c x.a x.b (.slice ad x.subs.length cap) x.p x.t x.k (.slice bd x.abs.length bcap) x.u) 50) := Lib.hid (by rw [hw, hp]; exact Blk.new _ _ _)
  with_reducible refine wpList_runWV (some 1) (v := .pointer (some ⟨pT, 0, none⟩)) (w' := w1) ?_ ?_ ?_ ?_
  · rfl
  · rfl
  · rw [hw, hp]; (go_simp; (try rfl))
  simp only [pu, sB, s0, sS]
  clear hw hp
  clear B0
  obtain ⟨w2, hw⟩ : ∃ v, v = w1.alloc (.cells zTr.cells 50) := ⟨_, rfl⟩
  obtain ⟨pR, hp⟩ : ∃ v, v = w1.heap.size := ⟨_, rfl⟩
  have B2 : Hid (Below w.heap.size w w2) := Lib.hid (by rw [hw]; exact B1.out.alloc B1.out.size _)
  have LER : Hid (w.heap.size ≤ pR) := Lib.hid (by rw [hp]; exact B1.out.size)
  have KT2 := Lib.hid (show Blk w2 pT (trC x.nm x.co x.c x.a x.b (.slice ad x.subs.length cap) x.p x.t x.k (.slice bd x.abs.length bcap) x.u) 50 by rw [hw]; exact KT1.out.alloc _)
  have NETR : Hid (pT ≠ pR) := Lib.hid (by rw [hp]; exact Nat.ne_of_lt KT1.out.lt)
  have NERT : Hid (pR ≠ pT) := Lib.hid (Ne.symm NETR.out)
  have KR2 : Hid (Blk w2 pR zTr.cells 50) := Lib.hid (by rw [hw, hp]; exact Blk.new _ _ _)
  with_reducible refine wpList_runWV (some 2) (v := .pointer (some ⟨pR, 0, none⟩)) (w' := w2) ?_ ?_ ?_ ?_
  · rfl
  · rfl
  · rw [hw, hp]; exact run_allocOp rfl infoTr zeroTr
  simp only [pu, sB, s0, sS]
  clear hw hp
  clear B1 KT1
  go_upto_region 1 with fail
  refine wp_region_lit ?_
  (with_reducible refine rN (v := .pointer (some ⟨pT, 9, none⟩)) ?_ ?_ ?_); (· rfl); (· go_simp; (try rfl)); simp only [pu, sB, s0, sS]
  (with_reducible refine rN (v := .pointer (some ⟨pT, 11, none⟩)) ?_ ?_ ?_); (· rfl); (· go_simp; (try rfl)); simp only [pu, sB, s0, sS]
  with_reducible refine wpList_loadV (.tmp 4) (j := 11) (v := .slice ad x.subs.length cap) ?_ ?_ KT2.out ?_ Tryz.underlying45 ?_ ?_
  · rfl
  · rfl
  · exact trC_11 ok.co
  · rfl
  simp only [pu, sB, s0, sS]
  go_wp2_with fail
  refine (sClone _ x.subs _ (HS.out.below B2.out (Nat.le_refl _)) (by have := ok.subs; omega)).mono ?_
  rintro e w3 ⟨v2, rfl, hO, hb⟩
  obtain ⟨ad2, cap2, ev2⟩ := hO.strs.slice
  subst ev2
  have B3 := Lib.hid (B2.out.trans (hb.mono B2.out.size))
  have KT3 := Lib.hid (KT2.out.below hb KT2.out.lt)
  have KR3 := Lib.hid (KR2.out.below hb KR2.out.lt)
  have HN3 : Hid (OwnStrs w.heap.size w3 (.slice ad2 x.subs.length cap2) x.subs) := Lib.hid (hO.mono B2.out.size)
  clear hb
  clear B2 KT2 KR2
  go_simp
  rename_i hKK
  refine hKK _ _ ?_
  clear hKK
  try simp only [pu, sB, s0, sS]
  (with_reducible refine rN (v := .pointer (some ⟨pT, 9, none⟩)) ?_ ?_ ?_); (· rfl); (· go_simp; (try rfl)); simp only [pu, sB, s0, sS]
  (with_reducible refine rN (v := .pointer (some ⟨pT, 11, none⟩)) ?_ ?_ ?_); (· rfl); (· go_simp; (try rfl)); simp only [pu, sB, s0, sS]
  have KT4 := Lib.hid (KT3.out.stored (o := 11) (vs := [.slice ad2 x.subs.length cap2]) (cs' := (trC x.nm x.co x.c x.a x.b (.slice ad2 x.subs.length cap2) x.p x.t x.k (.slice bd x.abs.length bcap) x.u)) (trC_p11 ok.co))
  have KR4 := Lib.hid (KR3.out.wholeElse ([.slice ad2 x.subs.length cap2]) (o := 11) NERT.out)
  have B4 := Lib.hid (below_whole ([.slice ad2 x.subs.length cap2]) (o := 11) B3.out LET.out)
  have HN4 := Lib.hid (HN3.out.keep (KeepT.stored KT3.out 11 ([.slice ad2 x.subs.length cap2])) (by decide))
  with_reducible refine wpList_storeV (.tmp 8) (.tmp 6) (j := 11) (v := .slice ad2 x.subs.length cap2) ?_ ?_ KT3.out ?_ (by kernel_rfl) (by simp [Value.oneCell']) ?_
  · rfl
  · rfl
  · exact (fit_1 (trC_sz ok.co) (by decide))
  (try simp only [Act.put])
  generalize World.setCells _ _ _ _ = w4 at KT4 KR4 B4 HN4 ⊢
  clear B3 KT3 KR3 HN3
  go_upto_region 2 with fail
  refine wp_region_lit ?_
  (with_reducible refine rN (v := .pointer (some ⟨pT, 15, none⟩)) ?_ ?_ ?_); (· rfl); (· go_simp; (try rfl)); simp only [pu, sB, s0, sS]
  with_reducible refine wpList_loadV (.tmp 9) (j := 15) (v := .slice bd x.abs.length bcap) ?_ ?_ KT4.out ?_ Tryz.underlying48 ?_ ?_
  · rfl
  · rfl
  · exact trC_15 ok.co
  · rfl
  simp only [pu, sB, s0, sS]
  go_wp2_with fail
  refine (eachAb _ x.abs _ (HA.out.below B4.out (Nat.le_refl _)) ok.abs ok.few).mono ?_
  rintro e w5 ⟨⟨v2, rfl, hO⟩, hb⟩
  obtain ⟨bd2, bcap2, ev2⟩ := hO.slice
  subst ev2
  have B5 := Lib.hid (B4.out.trans (hb.mono B4.out.size))
  have KT5 := Lib.hid (KT4.out.below hb KT4.out.lt)
  have KR5 := Lib.hid (KR4.out.below hb KR4.out.lt)
  have HN5 := Lib.hid (HN4.out.below hb (Nat.le_refl _))
  have HA5 : Hid (AbRow (some w.heap.size) w5 (.slice bd2 x.abs.length bcap2) x.abs) := Lib.hid (hO.mono B4.out.size)
  clear hb
  clear B4 KT4 KR4 HN4
  go_simp
  rename_i hKK
  refine hKK _ _ ?_
  clear hKK
  try simp only [pu, sB, s0, sS]
  (with_reducible refine rN (v := .pointer (some ⟨pT, 15, none⟩)) ?_ ?_ ?_); (· rfl); (· go_simp; (try rfl)); simp only [pu, sB, s0, sS]
  have KT6 := Lib.hid (KT5.out.stored (o := 15) (vs := [.slice bd2 x.abs.length bcap2]) (cs' := (trC x.nm x.co x.c x.a x.b (.slice ad2 x.subs.length cap2) x.p x.t x.k (.slice bd2 x.abs.length bcap2) x.u)) (trC_p15 ok.co))
  have KR6 := Lib.hid (KR5.out.wholeElse ([.slice bd2 x.abs.length bcap2]) (o := 15) NERT.out)
  have B6 := Lib.hid (below_whole ([.slice bd2 x.abs.length bcap2]) (o := 15) B5.out LET.out)
  have HN6 := Lib.hid (HN5.out.keep (KeepT.stored KT5.out 15 ([.slice bd2 x.abs.length bcap2])) (by decide))
  have HA6 := Lib.hid (HA5.out.keep (KeepT.stored KT5.out 15 ([.slice bd2 x.abs.length bcap2])) (by decide))
  with_reducible refine wpList_storeV (.tmp 12) (.tmp 11) (j := 15) (v := .slice bd2 x.abs.length bcap2) ?_ ?_ KT5.out ?_ (by kernel_rfl) (by simp [Value.oneCell']) ?_
  · rfl
  · rfl
  · exact (fit_1 (trC_sz ok.co) (by decide))
  (try simp only [Act.put])
  generalize World.setCells _ _ _ _ = w6 at KT6 KR6 B6 HN6 HA6 ⊢
  clear B5 KT5 KR5 HN5 HA5
  go_upto_region 3 with fail
  refine wp_region_lit ?_
  with_reducible refine wpList_loadS (.tmp 1) ?_ ?_ KT6.out Tryz.underlying50 ?_ (szTr (trC_sz ok.co)) ?_
  · rfl
  · rfl
  · rfl
  simp only [pu, sB, s0, sS]
  have KR7 := Lib.hid (KR6.out.stored (o := 0) (vs := (trC x.nm x.co x.c x.a x.b (.slice ad2 x.subs.length cap2) x.p x.t x.k (.slice bd2 x.abs.length bcap2) x.u).toList) (cs' := (trC x.nm x.co x.c x.a x.b (.slice ad2 x.subs.length cap2) x.p x.t x.k (.slice bd2 x.abs.length bcap2) x.u)) (laid_all (trC_sz ok.co) zTr_cells))
  have KT7 := Lib.hid (KT6.out.wholeElse ((trC x.nm x.co x.c x.a x.b (.slice ad2 x.subs.length cap2) x.p x.t x.k (.slice bd2 x.abs.length bcap2) x.u).toList) (o := 0) NETR.out)
  have B7 := Lib.hid (below_whole ((trC x.nm x.co x.c x.a x.b (.slice ad2 x.subs.length cap2) x.p x.t x.k (.slice bd2 x.abs.length bcap2) x.u).toList) (o := 0) B6.out LER.out)
  have HN7 := Lib.hid (HN6.out.keep (KeepT.stored KR6.out 0 ((trC x.nm x.co x.c x.a x.b (.slice ad2 x.subs.length cap2) x.p x.t x.k (.slice bd2 x.abs.length bcap2) x.u).toList)) (by decide))
  have HA7 := Lib.hid (HA6.out.keep (KeepT.stored KR6.out 0 ((trC x.nm x.co x.c x.a x.b (.slice ad2 x.subs.length cap2) x.p x.t x.k (.slice bd2 x.abs.length bcap2) x.u).toList)) (by decide))
  with_reducible refine wpList_storeM (.tmp 2) (.tmp 13) (o := 0) (vs := (trC x.nm x.co x.c x.a x.b (.slice ad2 x.subs.length cap2) x.p x.t x.k (.slice bd2 x.abs.length bcap2) x.u)) ?_ ?_ KR6.out ?_ (szTr (trC_sz ok.co)) (trC_one ok.co rfl rfl) ?_
  · rfl
  · rfl
  · exact (fit_2 zTr_cells (trC_sz ok.co) (by decide))
  (try simp only [Act.put])
  generalize World.setCells _ _ _ _ = w7 at KT7 KR7 B7 HN7 HA7 ⊢
  clear B6 KT6 KR6 HN6 HA6
  have hL := KR7.out.readS Tryz.underlying50 rfl (szTr (trC_sz ok.co))
  go_wp2_with fail
  exact bodyPost_ret (v := .agg (trC x.nm x.co x.c x.a x.b (.slice ad2 x.subs.length cap2) x.p x.t x.k (.slice bd2 x.abs.length bcap2) x.u)) (results_cell Tryz.results50 (by rfl) hL) rfl ⟨⟨_, _, rfl, HN7.out, HA7.out⟩, B7.out⟩
end Go.Proofs.YthkkabdhmflhiaaGreatDoor
