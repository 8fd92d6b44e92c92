/-
  CONTRACTS OF LAYER 13 (filter): readOne, readMask, readBound. By an AI agent.
-/
import Derived.Test.YtkohfomiigcifaaGreatDoorFilTake
import Derived.Test.YtkohfomiigcifaaGreatDoorFilTabB
namespace Go.Proofs.YtkohfomiigcifaaGreatDoor
open Go.RowKit
open Wd (Bs)

def NoHit (l : List Bs) (x : Bs) (k : Nat) : Prop := ∀ j y, j < k → l[j]? = some y → y = [] ∨ y ≠ x
theorem NoHit.next {l : List Bs} {x y : Bs} {k : Nat} (h : NoHit l x k) (hk : l[k]? = some y) (hy : y = [] ∨ y ≠ x) : NoHit l x (k + 1) := by
  intro j z hj hz
  by_cases e : j = k
  · subst e; rw [hk] at hz; injection hz with hz; subst hz; exact hy
  · exact h j z (by omega) hz
theorem find_hit {p : Bs → Bool} : ∀ {l : List Bs} {k : Nat} {y : Bs}, l[k]? = some y → p y = true → (∀ j z, j < k → l[j]? = some z → p z = false) → l.findIdx p = k
  | [], k, y, h, _, _ => by simp at h
  | a :: r, 0, y, h, hp, _ => by
    obtain rfl : a = y := by simpa using h
    rw [List.findIdx_cons, hp]; rfl
  | a :: r, k + 1, y, h, hp, hn => by
    have h0 := hn 0 a (by omega) rfl
    rw [List.findIdx_cons, h0]
    have := find_hit (l := r) (k := k) (y := y) (by simpa using h) hp (fun j z hj hz => hn (j + 1) z (by omega) (by simpa using hz))
    simp [this]
theorem rOne_hit {l : List Bs} {st : Fil.St} {k : Nat} {y : Bs} (hk : l[k]? = some y) (h0 : l[0]? = some []) (hy : y ≠ []) (he : st.1 = y) (hn : NoHit l st.1 k) : Fil.rOne l st = (k, Fil.adv st) := by
  have hf : l.findIdx (fun s => !s.isEmpty && s == st.1) = k := find_hit hk (by rw [he]; cases y with
    | nil => exact absurd rfl hy
    | cons a r => simp) (fun j z hj hz => by
      rcases hn j z hj hz with h | h
      · rw [h]; rfl
      · simp [h])
  have hpos : 0 < k := by
    rcases Nat.eq_zero_or_pos k with h | h
    · rw [h, h0] at hk; injection hk with hk; exact absurd hk.symm hy
    · exact h
  have hlt := (List.getElem?_eq_some_iff.1 hk).1
  unfold Fil.rOne Fil.hitAt
  rw [hf, if_pos hlt, if_pos hpos]
theorem rOne_miss {l : List Bs} {st : Fil.St} (hn : NoHit l st.1 l.length) : Fil.rOne l st = (0, st) := by
  have hf : ¬ l.findIdx (fun s => !s.isEmpty && s == st.1) < l.length := by
    intro h
    have h2 := List.findIdx_getElem (w := h)
    simp only [Bool.and_eq_true, beq_iff_eq] at h2
    rcases hn _ _ h (List.getElem?_eq_getElem h) with h3 | h3
    · rw [h3] at h2; simp at h2
    · exact h3 h2.2
  unfold Fil.rOne Fil.hitAt
  rw [if_neg hf]
  rfl
set_option maxHeartbeats 1000000 in
set_option maxRecDepth 100000 in
theorem filReadOne (b g n : Nat) (st : Fil.St) (l : List Bs) (w : World) (h : WAt w b st) (hs : Short st) (hn : l.length = n) (h100 : n ≤ 100) (h0 : l[0]? = some [])
    (hc : ∀ k x, l[k]? = some x → w.cell? ⟨g, k, none⟩ = some (str x)) :
    Calls Tryz.prog 149 #[.slice (some ⟨g, 0, none⟩) n n, .func (.func 147) #[.pointer (some ⟨b, 0, none⟩)] #[]] w
      fun e w' => e = .returned (.int .i64 ((Fil.rOne l st).1 : Nat)) ∧ WAt w' b (Fil.rOne l st).2 ∧ w.grownBy w' (some b) := by
  have HW := Lib.hid h
  have HS := Lib.hid hs
  have HC := Lib.hid hc
  have H0 := Lib.hid h0
  have HN := Lib.hid hn
  clear h hs hc h0 hn
  go_enter Tryz.func149, Tryz.ntmps149
  go_wp2_with fail
  go_loop [9] (fun i => ∃ k : Nat, k ≤ n ∧ i = .int .i64 (k : Int) ∧ NoHit l st.1 k) (fun i => n - (intOf i).toNat)
  case atStart => exact ⟨0, by omega, rfl, fun j y hj _ => by omega⟩
  case round =>
    obtain ⟨k, hk, rfl, hno⟩ := hrel
    have HNO := Lib.hid hno
    clear hno
    by_cases hlt : k < n
    · obtain ⟨y, hy⟩ : ∃ y, l[k]? = some y := ⟨_, List.getElem?_eq_getElem (show k < l.length by rw [HN.out]; exact hlt)⟩
      obtain ⟨sx, hsx, ex⟩ := exists_bytes y
      have hcell : w.cell? ⟨g, k, none⟩ = some (.string sx) := by rw [← ex]; exact HC.out k y hy
      have HY := Lib.hid hy
      clear hy
      rcases sub_cases sx with ⟨t1, e1⟩ | ⟨t1, e1⟩
      · have HNX := Lib.hid (HNO.out.next HY.out (.inl (by rw [← hsx]; exact e1)))
        clear e1 hsx ex
        go_wp2_with fail
        go_roundw
        case rel => exact ⟨k + 1, by omega, by go_num, HNX.out⟩
        case measure => simp [intOf]; omega
      · by_cases he : st.1 = sx.data.toList
        · have HT := Lib.hid (takeHit b st sx w HW.out he HS.out)
          have HR := Lib.hid (rOne_hit HY.out H0.out (by rw [← hsx]; exact e1) (he.trans hsx) HNO.out)
          clear e1 hsx ex he
          go_wp2_with fail
          refine HT.out.mono ?_
          rintro e w1 ⟨rfl, hw, hg⟩
          have HW1 := Lib.hid hw
          have HG1 := Lib.hid hg
          clear hw hg
          go_wp2_with fail
          go_ret
          exact ⟨by rw [HR.out]; rfl, by rw [HR.out]; exact HW1.out, HG1.out⟩
        · have HT := Lib.hid (takeMiss b st sx w HW.out he)
          have HNX := Lib.hid (HNO.out.next HY.out (.inr (by rw [← hsx]; exact fun e => he e.symm)))
          clear e1 hsx ex he
          go_wp2_with fail
          refine HT.out.mono ?_
          rintro e w1 ⟨rfl, rfl⟩
          go_wp2_with fail
          go_roundw
          case rel => exact ⟨k + 1, by omega, by go_num, HNX.out⟩
          case measure => simp [intOf]; omega
    · obtain rfl : k = n := by omega
      have HR := Lib.hid (rOne_miss (st := st) (l := l) (by rw [HN.out]; exact HNO.out))
      go_wp2_with fail
      go_ret
      exact ⟨by rw [HR.out]; rfl, by rw [HR.out]; exact HW.out, World.grownBy.refl _ _⟩
theorem Short.mask (nm : Nat → Bs) (pre : Bs) {st : Fil.St} (h : Short st) : ∀ k, Short (Fil.rMask nm pre st k).2
  | 0 => h
  | k + 1 => by
    show Short (Fil.rStep nm pre k (Fil.rMask nm pre st k)).2
    unfold Fil.rStep
    split
    · exact (Short.mask nm pre h k).adv
    · exact Short.mask nm pre h k
theorem rMask_hit {nm : Nat → Bs} {pre : Bs} {st : Fil.St} {k : Nat} (h : (Fil.rMask nm pre st k).2.1 = pre ++ nm k) : Fil.rMask nm pre st (k + 1) = ((Fil.rMask nm pre st k).1 + 2 ^ k, Fil.adv (Fil.rMask nm pre st k).2) := by
  show Fil.rStep nm pre k _ = _
  unfold Fil.rStep
  rw [if_pos h]
theorem rMask_miss {nm : Nat → Bs} {pre : Bs} {st : Fil.St} {k : Nat} (h : (Fil.rMask nm pre st k).2.1 ≠ pre ++ nm k) : Fil.rMask nm pre st (k + 1) = Fil.rMask nm pre st k := by
  show Fil.rStep nm pre k _ = _
  unfold Fil.rStep
  rw [if_neg h]
theorem type_nil : Fil.typeW 6 = [] := by decide
theorem type_some : ∀ k, k < 6 → Fil.typeW k ≠ [] := by decide +kernel
theorem col_nil : Col.name 5 = [] := rfl
theorem col_some : ∀ k, k < 5 → Col.name k ≠ [] := fun _ h => Col.name_ne h
theorem key_nil : Kw.name 17 = [] := by decide +kernel
theorem key_some : ∀ k, k < 17 → Kw.name k ≠ [] := Kw.name_ne
theorem nm_lenT (k : Nat) : (Fil.typeW k).length ≤ 1000 := by
  unfold Fil.typeW
  split
  · have := word_len (2 + k); omega
  · decide
theorem nm_lenC (k : Nat) : (Col.name k).length ≤ 1000 := by
  by_cases h : k < 5
  · have : ∀ k, k < 5 → (Col.name k).length ≤ 1000 := by decide +kernel
    exact this k h
  · rw [Col.name_big k (by omega)]; decide
theorem nm_lenK (k : Nat) : (Kw.name k).length ≤ 1000 := by
  by_cases h : k < 17
  · have := (Kw.name_len k h).2; omega
  · rw [Kw.name_big k (by omega)]; decide
set_option maxHeartbeats 1000000 in
set_option maxRecDepth 100000 in
theorem filReadMaskT (b : Nat) (pre : ByteArray) (st : Fil.St) (w : World) (h : WAt w b st) (hs : Short st) (hp : pre.size ≤ 1000) {C : Nat} {w0 : World} (hb0 : Below C w0 w) (hCb : C ≤ b) (hE : ∀ W, Below C w0 W → Env W) :
    Calls Tryz.prog 150 #[.string pre, .func (.func 85) #[] #[], .func (.func 147) #[.pointer (some ⟨b, 0, none⟩)] #[]] w
      fun e w' => e = .returned (.int .i64 ((Fil.rMask Fil.typeW pre.data.toList st 6).1 : Nat)) ∧ WAt w' b (Fil.rMask Fil.typeW pre.data.toList st 6).2 ∧ w.grownBy w' (some b) := by
  have HW := Lib.hid h
  have HSH := Lib.hid (fun k => Short.mask Fil.typeW pre.data.toList hs k)
  have HB0 := Lib.hid hb0
  have HE := Lib.hid hE
  have HLT := Lib.hid (fun k => Fil.rMask_lt Fil.typeW pre.data.toList st k)
  have HCS : Hid (C ≤ w.heap.size) := Lib.hid (Nat.le_of_lt (Nat.lt_of_le_of_lt hCb h.lt))
  have HCB := Lib.hid hCb
  clear h hs hb0 hCb hE
  go_enter Tryz.func150, Tryz.ntmps150
  go_wp2_with fail
  go_loopw [7, 8] (fun mv iv wr => ∃ (k m : Nat) (sk : Fil.St), k ≤ 6 ∧ iv = .int .i64 (k : Int) ∧ mv = .int .i64 (m : Int) ∧ Hid (Fil.rMask Fil.typeW pre.data.toList st k = (m, sk)) ∧ WAt wr b sk ∧ w.grownBy wr (some b)) (fun _ iv _ => 6 - (intOf iv).toNat)
  case atStart => exact ⟨0, 0, st, by omega, rfl, rfl, Lib.hid rfl, HW.out, World.grownBy.refl _ _⟩
  case round =>
    obtain ⟨k, m, sk, hk, rfl, rfl, HK, hw, hg⟩ := hrel
    have hbr : Below C w0 wr := HB0.out.grown hg HCS.out (fun j e => by injection e with e; rw [← e]; exact HCB.out)
    obtain ⟨sx, hsx, ex⟩ := exists_bytes (Fil.typeW k)
    have hC : Calls Tryz.prog 85 #[.int .i64 k] wr fun e w' => e = .returned (.string sx) ∧ Below wr.heap.size wr w' := by rw [← ex]; exact filTypeWord k (by omega) wr (HE.out wr hbr)
    have HC := Lib.hid hC
    have HWR := Lib.hid hw
    have HGR := Lib.hid hg
    have hsz1 : sx.size ≤ 1000 := by
      have h1 := nm_lenT k
      rw [← hsx] at h1
      simpa using h1
    have hcat : ∀ W : World, (Op.stringOp .add pre sx).run Tryz.prog W = .ok (.string (pre ++ sx)) W := fun W => run_string_add_sum W _ _ (by omega)
    have HSX := Lib.hid hsx
    have HLK : Hid (m < 2 ^ k) := Lib.hid (by have := HLT.out k; rw [HK.out] at this; exact this)
    have HSK : Hid (Short sk) := Lib.hid (by have := HSH.out k; rw [HK.out] at this; exact this)
    clear hC hw hg hsx ex hbr
    by_cases hlt : k < 6
    · have t1 : sx.toList.isEmpty = false := by
        rcases sub_cases sx with ⟨_, e1⟩ | ⟨t1, _⟩
        · rw [HSX.out] at e1; exact absurd e1 (type_some k hlt)
        · exact t1
      by_cases he : sk.1 = (pre ++ sx).data.toList
      · have HE2 := Lib.hid he
        obtain ⟨m', hm'⟩ : ∃ m', m' = m + 2 ^ k := ⟨_, rfl⟩
        have HP : Hid (Fil.rMask Fil.typeW pre.data.toList st (k + 1) = (m', Fil.adv sk)) := Lib.hid (by
          have h1 := rMask_hit (nm := Fil.typeW) (pre := pre.data.toList) (st := st) (k := k) (by rw [HK.out, ← HSX.out, ← cat_bytes]; exact he)
          rw [HK.out] at h1
          rw [h1, hm'])
        have HO : Hid (bits .or .i64 (m : Int) (wrap64 ((2 : Int) ^ k)) = (m' : Int)) := Lib.hid (by
          have h2 : 2 ^ k ≤ 2 ^ 17 := Nat.pow_le_pow_right (by omega) (by omega)
          have h3 := HLK.out
          rw [Bt.or_pow _ k (by omega) (by omega), Kw.or_pow h3, hm'])
        have k63 : (k : Int) < 63 := by omega
        clear he hm'
        go_wp2_with fail
        refine HC.out.mono ?_
        rintro e w2 ⟨rfl, hb2⟩
        have HT := Lib.hid (takeHit b sk (pre ++ sx) w2 (HWR.out.below hb2 HWR.out.lt) HE2.out HSK.out)
        have HG2 := Lib.hid (gTrans HGR.out (gBelow (some b) hb2))
        clear hb2
        go_wp2_with fail
        refine HT.out.mono ?_
        rintro e w3 ⟨rfl, hw, hg⟩
        have HW3 := Lib.hid hw
        have HG3 := Lib.hid (gTrans HG2.out hg)
        clear hw hg
        go_wp2_with fail
        go_roundw
        case rel => exact ⟨k + 1, m', _, by omega, by go_num, by rw [← HO.out], HP, HW3.out, HG3.out⟩
        case measure => simp [intOf]; omega
      · have HP : Hid (Fil.rMask Fil.typeW pre.data.toList st (k + 1) = (m, sk)) := Lib.hid (by
          rw [rMask_miss (nm := Fil.typeW) (pre := pre.data.toList) (st := st) (k := k) (by rw [HK.out, ← HSX.out, ← cat_bytes]; exact he), HK.out])
        have HE2 := Lib.hid he
        clear he
        go_wp2_with fail
        refine HC.out.mono ?_
        rintro e w2 ⟨rfl, hb2⟩
        have HW2 := Lib.hid (HWR.out.below hb2 HWR.out.lt)
        have HT := Lib.hid (takeMiss b sk (pre ++ sx) w2 (HWR.out.below hb2 HWR.out.lt) HE2.out)
        have HG2 := Lib.hid (gTrans HGR.out (gBelow (some b) hb2))
        clear hb2
        go_wp2_with fail
        refine HT.out.mono ?_
        rintro e w3 ⟨rfl, rfl⟩
        go_wp2_with fail
        go_roundw
        case rel => exact ⟨k + 1, m, sk, by omega, by go_num, rfl, HP, HW2.out, HG2.out⟩
        case measure => simp [intOf]; omega
    · obtain rfl : k = 6 := by omega
      have t1 : sx.toList.isEmpty = true := by
        rcases sub_cases sx with ⟨t1, _⟩ | ⟨_, e1⟩
        · exact t1
        · rw [HSX.out] at e1; exact absurd type_nil e1
      go_wp2_with fail
      refine HC.out.mono ?_
      rintro e w2 ⟨rfl, hb2⟩
      have HW2 := Lib.hid (HWR.out.below hb2 HWR.out.lt)
      have HG2 := Lib.hid (gTrans HGR.out (gBelow (some b) hb2))
      clear hb2
      go_wp2_with fail
      go_ret
      exact ⟨by rw [HK.out]; rfl, by rw [HK.out]; exact HW2.out, HG2.out⟩
set_option maxHeartbeats 1000000 in
set_option maxRecDepth 100000 in
theorem filReadMaskC (b : Nat) (pre : ByteArray) (st : Fil.St) (w : World) (h : WAt w b st) (hs : Short st) (hp : pre.size ≤ 1000) {C : Nat} {w0 : World} (hb0 : Below C w0 w) (hCb : C ≤ b) (hE : ∀ W, Below C w0 W → Env W) :
    Calls Tryz.prog 150 #[.string pre, .func (.func 86) #[] #[], .func (.func 147) #[.pointer (some ⟨b, 0, none⟩)] #[]] w
      fun e w' => e = .returned (.int .i64 ((Fil.rMask Col.name pre.data.toList st 5).1 : Nat)) ∧ WAt w' b (Fil.rMask Col.name pre.data.toList st 5).2 ∧ w.grownBy w' (some b) := by
  have HW := Lib.hid h
  have HSH := Lib.hid (fun k => Short.mask Col.name pre.data.toList hs k)
  have HB0 := Lib.hid hb0
  have HE := Lib.hid hE
  have HLT := Lib.hid (fun k => Fil.rMask_lt Col.name pre.data.toList st k)
  have HCS : Hid (C ≤ w.heap.size) := Lib.hid (Nat.le_of_lt (Nat.lt_of_le_of_lt hCb h.lt))
  have HCB := Lib.hid hCb
  clear h hs hb0 hCb hE
  go_enter Tryz.func150, Tryz.ntmps150
  go_wp2_with fail
  go_loopw [7, 8] (fun mv iv wr => ∃ (k m : Nat) (sk : Fil.St), k ≤ 5 ∧ iv = .int .i64 (k : Int) ∧ mv = .int .i64 (m : Int) ∧ Hid (Fil.rMask Col.name pre.data.toList st k = (m, sk)) ∧ WAt wr b sk ∧ w.grownBy wr (some b)) (fun _ iv _ => 5 - (intOf iv).toNat)
  case atStart => exact ⟨0, 0, st, by omega, rfl, rfl, Lib.hid rfl, HW.out, World.grownBy.refl _ _⟩
  case round =>
    obtain ⟨k, m, sk, hk, rfl, rfl, HK, hw, hg⟩ := hrel
    have hbr : Below C w0 wr := HB0.out.grown hg HCS.out (fun j e => by injection e with e; rw [← e]; exact HCB.out)
    obtain ⟨sx, hsx, ex⟩ := exists_bytes (Col.name k)
    have hC : Calls Tryz.prog 86 #[.int .i64 k] wr fun e w' => e = .returned (.string sx) ∧ Below wr.heap.size wr w' := by rw [← ex]; exact filNameC k wr (HE.out wr hbr)
    have HC := Lib.hid hC
    have HWR := Lib.hid hw
    have HGR := Lib.hid hg
    have hsz1 : sx.size ≤ 1000 := by
      have h1 := nm_lenC k
      rw [← hsx] at h1
      simpa using h1
    have hcat : ∀ W : World, (Op.stringOp .add pre sx).run Tryz.prog W = .ok (.string (pre ++ sx)) W := fun W => run_string_add_sum W _ _ (by omega)
    have HSX := Lib.hid hsx
    have HLK : Hid (m < 2 ^ k) := Lib.hid (by have := HLT.out k; rw [HK.out] at this; exact this)
    have HSK : Hid (Short sk) := Lib.hid (by have := HSH.out k; rw [HK.out] at this; exact this)
    clear hC hw hg hsx ex hbr
    by_cases hlt : k < 5
    · have t1 : sx.toList.isEmpty = false := by
        rcases sub_cases sx with ⟨_, e1⟩ | ⟨t1, _⟩
        · rw [HSX.out] at e1; exact absurd e1 (col_some k hlt)
        · exact t1
      by_cases he : sk.1 = (pre ++ sx).data.toList
      · have HE2 := Lib.hid he
        obtain ⟨m', hm'⟩ : ∃ m', m' = m + 2 ^ k := ⟨_, rfl⟩
        have HP : Hid (Fil.rMask Col.name pre.data.toList st (k + 1) = (m', Fil.adv sk)) := Lib.hid (by
          have h1 := rMask_hit (nm := Col.name) (pre := pre.data.toList) (st := st) (k := k) (by rw [HK.out, ← HSX.out, ← cat_bytes]; exact he)
          rw [HK.out] at h1
          rw [h1, hm'])
        have HO : Hid (bits .or .i64 (m : Int) (wrap64 ((2 : Int) ^ k)) = (m' : Int)) := Lib.hid (by
          have h2 : 2 ^ k ≤ 2 ^ 17 := Nat.pow_le_pow_right (by omega) (by omega)
          have h3 := HLK.out
          rw [Bt.or_pow _ k (by omega) (by omega), Kw.or_pow h3, hm'])
        have k63 : (k : Int) < 63 := by omega
        clear he hm'
        go_wp2_with fail
        refine HC.out.mono ?_
        rintro e w2 ⟨rfl, hb2⟩
        have HT := Lib.hid (takeHit b sk (pre ++ sx) w2 (HWR.out.below hb2 HWR.out.lt) HE2.out HSK.out)
        have HG2 := Lib.hid (gTrans HGR.out (gBelow (some b) hb2))
        clear hb2
        go_wp2_with fail
        refine HT.out.mono ?_
        rintro e w3 ⟨rfl, hw, hg⟩
        have HW3 := Lib.hid hw
        have HG3 := Lib.hid (gTrans HG2.out hg)
        clear hw hg
        go_wp2_with fail
        go_roundw
        case rel => exact ⟨k + 1, m', _, by omega, by go_num, by rw [← HO.out], HP, HW3.out, HG3.out⟩
        case measure => simp [intOf]; omega
      · have HP : Hid (Fil.rMask Col.name pre.data.toList st (k + 1) = (m, sk)) := Lib.hid (by
          rw [rMask_miss (nm := Col.name) (pre := pre.data.toList) (st := st) (k := k) (by rw [HK.out, ← HSX.out, ← cat_bytes]; exact he), HK.out])
        have HE2 := Lib.hid he
        clear he
        go_wp2_with fail
        refine HC.out.mono ?_
        rintro e w2 ⟨rfl, hb2⟩
        have HW2 := Lib.hid (HWR.out.below hb2 HWR.out.lt)
        have HT := Lib.hid (takeMiss b sk (pre ++ sx) w2 (HWR.out.below hb2 HWR.out.lt) HE2.out)
        have HG2 := Lib.hid (gTrans HGR.out (gBelow (some b) hb2))
        clear hb2
        go_wp2_with fail
        refine HT.out.mono ?_
        rintro e w3 ⟨rfl, rfl⟩
        go_wp2_with fail
        go_roundw
        case rel => exact ⟨k + 1, m, sk, by omega, by go_num, rfl, HP, HW2.out, HG2.out⟩
        case measure => simp [intOf]; omega
    · obtain rfl : k = 5 := by omega
      have t1 : sx.toList.isEmpty = true := by
        rcases sub_cases sx with ⟨t1, _⟩ | ⟨_, e1⟩
        · exact t1
        · rw [HSX.out] at e1; exact absurd col_nil e1
      go_wp2_with fail
      refine HC.out.mono ?_
      rintro e w2 ⟨rfl, hb2⟩
      have HW2 := Lib.hid (HWR.out.below hb2 HWR.out.lt)
      have HG2 := Lib.hid (gTrans HGR.out (gBelow (some b) hb2))
      clear hb2
      go_wp2_with fail
      go_ret
      exact ⟨by rw [HK.out]; rfl, by rw [HK.out]; exact HW2.out, HG2.out⟩
set_option maxHeartbeats 1000000 in
set_option maxRecDepth 100000 in
theorem filReadMaskK (b : Nat) (pre : ByteArray) (st : Fil.St) (w : World) (h : WAt w b st) (hs : Short st) (hp : pre.size ≤ 1000) {C : Nat} {w0 : World} (hb0 : Below C w0 w) (hCb : C ≤ b) :
    Calls Tryz.prog 150 #[.string pre, .func (.func 87) #[] #[], .func (.func 147) #[.pointer (some ⟨b, 0, none⟩)] #[]] w
      fun e w' => e = .returned (.int .i64 ((Fil.rMask Kw.name pre.data.toList st 17).1 : Nat)) ∧ WAt w' b (Fil.rMask Kw.name pre.data.toList st 17).2 ∧ w.grownBy w' (some b) := by
  have HW := Lib.hid h
  have HSH := Lib.hid (fun k => Short.mask Kw.name pre.data.toList hs k)
  have HB0 := Lib.hid hb0
  have HLT := Lib.hid (fun k => Fil.rMask_lt Kw.name pre.data.toList st k)
  have HCS : Hid (C ≤ w.heap.size) := Lib.hid (Nat.le_of_lt (Nat.lt_of_le_of_lt hCb h.lt))
  have HCB := Lib.hid hCb
  clear h hs hb0 hCb
  go_enter Tryz.func150, Tryz.ntmps150
  go_wp2_with fail
  go_loopw [7, 8] (fun mv iv wr => ∃ (k m : Nat) (sk : Fil.St), k ≤ 17 ∧ iv = .int .i64 (k : Int) ∧ mv = .int .i64 (m : Int) ∧ Hid (Fil.rMask Kw.name pre.data.toList st k = (m, sk)) ∧ WAt wr b sk ∧ w.grownBy wr (some b)) (fun _ iv _ => 17 - (intOf iv).toNat)
  case atStart => exact ⟨0, 0, st, by omega, rfl, rfl, Lib.hid rfl, HW.out, World.grownBy.refl _ _⟩
  case round =>
    obtain ⟨k, m, sk, hk, rfl, rfl, HK, hw, hg⟩ := hrel
    have hbr : Below C w0 wr := HB0.out.grown hg HCS.out (fun j e => by injection e with e; rw [← e]; exact HCB.out)
    obtain ⟨sx, hsx, ex⟩ := exists_bytes (Kw.name k)
    have hC : Calls Tryz.prog 87 #[.int .i64 k] wr fun e w' => e = .returned (.string sx) ∧ Below wr.heap.size wr w' := by rw [← ex]; exact filNameK k wr
    have HC := Lib.hid hC
    have HWR := Lib.hid hw
    have HGR := Lib.hid hg
    have hsz1 : sx.size ≤ 1000 := by
      have h1 := nm_lenK k
      rw [← hsx] at h1
      simpa using h1
    have hcat : ∀ W : World, (Op.stringOp .add pre sx).run Tryz.prog W = .ok (.string (pre ++ sx)) W := fun W => run_string_add_sum W _ _ (by omega)
    have HSX := Lib.hid hsx
    have HLK : Hid (m < 2 ^ k) := Lib.hid (by have := HLT.out k; rw [HK.out] at this; exact this)
    have HSK : Hid (Short sk) := Lib.hid (by have := HSH.out k; rw [HK.out] at this; exact this)
    clear hC hw hg hsx ex hbr
    by_cases hlt : k < 17
    · have t1 : sx.toList.isEmpty = false := by
        rcases sub_cases sx with ⟨_, e1⟩ | ⟨t1, _⟩
        · rw [HSX.out] at e1; exact absurd e1 (key_some k hlt)
        · exact t1
      by_cases he : sk.1 = (pre ++ sx).data.toList
      · have HE2 := Lib.hid he
        obtain ⟨m', hm'⟩ : ∃ m', m' = m + 2 ^ k := ⟨_, rfl⟩
        have HP : Hid (Fil.rMask Kw.name pre.data.toList st (k + 1) = (m', Fil.adv sk)) := Lib.hid (by
          have h1 := rMask_hit (nm := Kw.name) (pre := pre.data.toList) (st := st) (k := k) (by rw [HK.out, ← HSX.out, ← cat_bytes]; exact he)
          rw [HK.out] at h1
          rw [h1, hm'])
        have HO : Hid (bits .or .i64 (m : Int) (wrap64 ((2 : Int) ^ k)) = (m' : Int)) := Lib.hid (by
          have h2 : 2 ^ k ≤ 2 ^ 17 := Nat.pow_le_pow_right (by omega) (by omega)
          have h3 := HLK.out
          rw [Bt.or_pow _ k (by omega) (by omega), Kw.or_pow h3, hm'])
        have k63 : (k : Int) < 63 := by omega
        clear he hm'
        go_wp2_with fail
        refine HC.out.mono ?_
        rintro e w2 ⟨rfl, hb2⟩
        have HT := Lib.hid (takeHit b sk (pre ++ sx) w2 (HWR.out.below hb2 HWR.out.lt) HE2.out HSK.out)
        have HG2 := Lib.hid (gTrans HGR.out (gBelow (some b) hb2))
        clear hb2
        go_wp2_with fail
        refine HT.out.mono ?_
        rintro e w3 ⟨rfl, hw, hg⟩
        have HW3 := Lib.hid hw
        have HG3 := Lib.hid (gTrans HG2.out hg)
        clear hw hg
        go_wp2_with fail
        go_roundw
        case rel => exact ⟨k + 1, m', _, by omega, by go_num, by rw [← HO.out], HP, HW3.out, HG3.out⟩
        case measure => simp [intOf]; omega
      · have HP : Hid (Fil.rMask Kw.name pre.data.toList st (k + 1) = (m, sk)) := Lib.hid (by
          rw [rMask_miss (nm := Kw.name) (pre := pre.data.toList) (st := st) (k := k) (by rw [HK.out, ← HSX.out, ← cat_bytes]; exact he), HK.out])
        have HE2 := Lib.hid he
        clear he
        go_wp2_with fail
        refine HC.out.mono ?_
        rintro e w2 ⟨rfl, hb2⟩
        have HW2 := Lib.hid (HWR.out.below hb2 HWR.out.lt)
        have HT := Lib.hid (takeMiss b sk (pre ++ sx) w2 (HWR.out.below hb2 HWR.out.lt) HE2.out)
        have HG2 := Lib.hid (gTrans HGR.out (gBelow (some b) hb2))
        clear hb2
        go_wp2_with fail
        refine HT.out.mono ?_
        rintro e w3 ⟨rfl, rfl⟩
        go_wp2_with fail
        go_roundw
        case rel => exact ⟨k + 1, m, sk, by omega, by go_num, rfl, HP, HW2.out, HG2.out⟩
        case measure => simp [intOf]; omega
    · obtain rfl : k = 17 := by omega
      have t1 : sx.toList.isEmpty = true := by
        rcases sub_cases sx with ⟨t1, _⟩ | ⟨_, e1⟩
        · exact t1
        · rw [HSX.out] at e1; exact absurd key_nil e1
      go_wp2_with fail
      refine HC.out.mono ?_
      rintro e w2 ⟨rfl, hb2⟩
      have HW2 := Lib.hid (HWR.out.below hb2 HWR.out.lt)
      have HG2 := Lib.hid (gTrans HGR.out (gBelow (some b) hb2))
      clear hb2
      go_wp2_with fail
      go_ret
      exact ⟨by rw [HK.out]; rfl, by rw [HK.out]; exact HW2.out, HG2.out⟩
end Go.Proofs.YtkohfomiigcifaaGreatDoor
