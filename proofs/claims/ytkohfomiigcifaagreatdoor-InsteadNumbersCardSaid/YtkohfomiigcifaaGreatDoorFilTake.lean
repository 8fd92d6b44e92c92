/-
  CONTRACTS OF LAYER 13 (filter): the words that have not been consumed: take, takeAfter; strings.CutPrefix. By an AI agent.
-/
import Derived.Test.YtkohfomiigcifaaGreatDoorFilTab
namespace Go.Proofs.YtkohfomiigcifaaGreatDoor
open Go.RowKit
open Wd (Bs)

theorem gTrans {a w w' : World} {r : Option Nat} (h : a.grownBy w r) (k : w.grownBy w' r) : a.grownBy w' r :=
  ⟨k.os.trans h.os, k.tape.trans h.tape, k.output.trans h.output, Nat.le_trans h.size k.size, fun j hj hne => (k.block j (Nat.lt_of_lt_of_le hj h.size) hne).trans (h.block j hj hne)⟩
theorem gBelow {w w' : World} (r : Option Nat) (h : Below w.heap.size w w') : w.grownBy w' r := ⟨h.os, h.tape, h.output, h.size, fun j hj _ => h.block j hj⟩
theorem gBelow2 {C : Nat} {w w' : World} (r : Option Nat) (hC : w.heap.size ≤ C) (h : Below C w w') : w.grownBy w' r := gBelow r (h.mono hC)
theorem gSet {w w' : World} {b : Nat} (h : w.grownBy w' (some b)) (i : Nat) (v : Value) : w.grownBy (w'.setCell ⟨b, i, none⟩ v) (some b) :=
  ⟨h.os, h.tape, h.output, Nat.le_trans h.size (by simp), fun j hj hne => (Below.heap_setCell w' ⟨b, i, none⟩ v j (fun e => hne (by rw [e]))).trans (h.block j hj hne)⟩
theorem gSetNew {w w' : World} {r : Option Nat} (h : w.grownBy w' r) {g : Nat} (hg : w.heap.size ≤ g) (i : Nat) (v : Value) : w.grownBy (w'.setCell ⟨g, i, none⟩ v) r :=
  ⟨h.os, h.tape, h.output, Nat.le_trans h.size (by simp), fun j hj hne => (Below.heap_setCell w' ⟨g, i, none⟩ v j (fun e => by subst e; exact absurd hj (by omega))).trans (h.block j hj hne)⟩
theorem gCell {w w' : World} {b g : Nat} (h : w.grownBy w' (some b)) (hne : g ≠ b) (hg : g < w.heap.size) (o : Nat) : w'.cell? ⟨g, o, none⟩ = w.cell? ⟨g, o, none⟩ :=
  World.cell?_of_block (h.block g hg (fun e => hne (by injection e)))
theorem Blk.grown {w w' : World} {b g : Nat} {cs : Array Value} {t : TypeId} (k : Blk w g cs t) (h : w.grownBy w' (some b)) (hne : g ≠ b) : Blk w' g cs t :=
  (h.block g k.lt (fun e => hne (by injection e))).trans k
/-- block b holds the words st -/
def WAt (w : World) (b : Nat) (st : Fil.St) : Prop := Blk w b #[str st.1, str st.2] 110
def Short (st : Fil.St) : Prop := st.1.length ≤ 1000000 ∧ st.2.length ≤ 1000000
theorem cut_both (l : Bs) : (Wd.cut l [32]).1.length ≤ l.length ∧ (Wd.cut l [32]).2.1.length ≤ l.length := by
  unfold Wd.cut
  rw [if_neg (by simp)]
  cases Wd.cutAt l [32] with
  | none => exact ⟨Nat.le_refl _, Nat.zero_le _⟩
  | some k => exact ⟨by show (l.take k).length ≤ _; simp; omega, by show (l.drop _).length ≤ _; simp⟩
theorem Short.adv {st : Fil.St} (h : Short st) : Short (Fil.adv st) := by
  have := cut_both st.2
  exact ⟨Nat.le_trans this.1 h.2, Nat.le_trans this.2 h.2⟩
set_option maxRecDepth 100000 in
theorem takeMiss (b : Nat) (st : Fil.St) (s : ByteArray) (w : World) (h : WAt w b st) (hne : st.1 ≠ s.data.toList) :
    Calls Tryz.prog 147 #[.pointer (some ⟨b, 0, none⟩), .string s] w fun e w' => e = .returned (.bool false) ∧ w = w' := by
  obtain ⟨f, hf, ef⟩ := exists_bytes st.1
  have c0 : w.cell? ⟨b, 0, none⟩ = some (.string f) := by rw [← ef]; exact h.cell 0
  have ht : (f.toList == s.toList) = false := bytes_ne (by rw [hf]; exact hne)
  clear h hne hf ef
  go_enter Tryz.func147, Tryz.ntmps147
  go_wp2_with fail
  go_ret
  exact ⟨rfl, rfl⟩
set_option maxRecDepth 100000 in
theorem takeHit (b : Nat) (st : Fil.St) (s : ByteArray) (w : World) (h : WAt w b st) (he : st.1 = s.data.toList) (hs : Short st) :
    Calls Tryz.prog 147 #[.pointer (some ⟨b, 0, none⟩), .string s] w fun e w' => e = .returned (.bool true) ∧ WAt w' b (Fil.adv st) ∧ w.grownBy w' (some b) := by
  obtain ⟨f, hf, ef⟩ := exists_bytes st.1
  obtain ⟨r, hr, er⟩ := exists_bytes st.2
  have c0 : w.cell? ⟨b, 0, none⟩ = some (.string f) := by rw [← ef]; exact h.cell 0
  have c1 : w.cell? ⟨b, 1, none⟩ = some (.string r) := by rw [← er]; exact h.cell 1
  have ht : (f.toList == s.toList) = true := bytes_eq (by rw [hf]; exact he)
  have hrl : r.size ≤ 140737488355328 := by have := hs.2; rw [← hr] at this; simp at this; omega
  have HCUT := Lib.hid (wordCutFar r ⟨#[32]⟩ w hrl (by decide))
  unfold CutRes cutV at HCUT
  have HA : Hid (Fil.adv st = ((Wd.cut r.data.toList [32]).1, (Wd.cut r.data.toList [32]).2.1)) := Lib.hid (by rw [hr]; rfl)
  have HW := Lib.hid h
  obtain ⟨p, hp, ep⟩ := exists_bytes (Wd.cut r.data.toList [32]).1
  obtain ⟨q, hq, eq⟩ := exists_bytes (Wd.cut r.data.toList [32]).2.1
  obtain ⟨m, hm⟩ : ∃ m, m = (Wd.cut r.data.toList [32]).2.2 := ⟨_, rfl⟩
  have HCUT2 : Hid (Calls Tryz.prog 69 #[.string r, .string ⟨#[32]⟩] w fun e w' => e = .returned (.tuple #[.string p, .string q, .bool m]) ∧ Below w.heap.size w w') := Lib.hid (by
    rw [← ep, ← eq, hm]; exact HCUT.out)
  have HPQ : Hid (Fil.adv st = (p.data.toList, q.data.toList)) := Lib.hid (by rw [HA.out, hp, hq])
  clear HCUT HA hp ep hq eq hm h he hs hf ef hr er
  go_enter Tryz.func147, Tryz.ntmps147
  go_wp2_with fail
  refine HCUT2.out.mono ?_
  rintro e w2 ⟨rfl, hb2⟩
  have k2 : Blk w2 b #[str st.1, str st.2] 110 := HW.out.below hb2 HW.out.lt
  have K2 := Lib.hid k2
  have z0 := k2.free 0
  have z1 := k2.free 1
  have y0 : w2.cell? ⟨b, 0, none⟩ = some (str st.1) := k2.cell 0
  have y1 : w2.cell? ⟨b, 1, none⟩ = some (str st.2) := k2.cell 1
  have HB2 := Lib.hid hb2
  clear k2 hb2 c0 c1
  go_wp2_with fail
  go_ret
  refine ⟨rfl, ?_, gSet (gSet (gBelow _ HB2.out) 0 _) 1 _⟩
  unfold WAt
  rw [HPQ.out]
  exact (K2.out.set 0 _).set 1 _
/-! strings.CutPrefix -/
theorem liteCutPrefix (s p : ByteArray) (w : World) :
    Calls Tryz.prog 131 #[.string s, .string p] w fun e w' => e = .returned (.tuple #[if p.data.toList.isPrefixOf s.data.toList then str (s.data.toList.drop p.data.toList.length) else .string s, .bool (p.data.toList.isPrefixOf s.data.toList)]) ∧ w = w' := by
  have HP := Lib.hid (Tryz.stringslite_HasPrefix s p w)
  cases h : p.data.toList.isPrefixOf s.data.toList with
  | false =>
    have HQ : Hid (Lib.hasPrefix s.data.toList p.data.toList = false) := Lib.hid h
    clear h
    go_enter Tryz.func131, Tryz.ntmps131
    go_wp2_with fail
    refine HP.out.mono ?_
    rw [HQ.out]
    rintro e w1 ⟨rfl, rfl⟩
    go_wp2_with fail
    go_ret2
    exact ⟨rfl, rfl⟩
  | true =>
    have HQ : Hid (Lib.hasPrefix s.data.toList p.data.toList = true) := Lib.hid h
    have hl : p.size ≤ s.size := by have := Wd.isPrefixOf_len h; simpa using this
    have hl1 : (p.size : Int) ≤ (s.size : Int) := by omega
    obtain ⟨x, hx⟩ : ∃ x, x = str (s.data.toList.drop p.data.toList.length) := ⟨_, rfl⟩
    rw [if_pos rfl, ← hx]
    have HD : Hid (Value.string (s.extract p.size s.size) = x) := Lib.hid (by
      rw [hx, show p.data.toList.length = p.size by simp, ← extract_drop]; rfl)
    clear h hx
    go_enter Tryz.func131, Tryz.ntmps131
    go_wp2_with fail
    refine HP.out.mono ?_
    rw [HQ.out]
    rintro e w1 ⟨rfl, rfl⟩
    go_wp2_with fail
    go_ret2
    exact ⟨by rw [← HD.out]; rfl, rfl⟩
theorem strCutPrefix (s p : ByteArray) (w : World) :
    Calls Tryz.prog 104 #[.string s, .string p] w fun e w' => e = .returned (.tuple #[if p.data.toList.isPrefixOf s.data.toList then str (s.data.toList.drop p.data.toList.length) else .string s, .bool (p.data.toList.isPrefixOf s.data.toList)]) ∧ w = w' := by
  have HP := Lib.hid (liteCutPrefix s p w)
  generalize (if p.data.toList.isPrefixOf s.data.toList then str (s.data.toList.drop p.data.toList.length) else .string s) = x at *
  generalize p.data.toList.isPrefixOf s.data.toList = y at *
  go_enter Tryz.func104, Tryz.ntmps104
  go_wp2_with fail
  refine HP.out.mono ?_
  rintro e w1 ⟨rfl, rfl⟩
  go_wp2_with fail
  go_ret2
  exact ⟨rfl, rfl⟩
/-! takeAfter -/
set_option maxRecDepth 100000 in
theorem afterMiss (b : Nat) (st : Fil.St) (s : ByteArray) (w : World) (h : WAt w b st) (hne : s.data.toList.isPrefixOf st.1 = false) :
    Calls Tryz.prog 148 #[.pointer (some ⟨b, 0, none⟩), .string s] w fun e w' => e = .returned (.tuple #[.string ⟨#[]⟩, .bool false]) ∧ w = w' := by
  obtain ⟨f, hf, ef⟩ := exists_bytes st.1
  have c0 : w.cell? ⟨b, 0, none⟩ = some (.string f) := by rw [← ef]; exact h.cell 0
  have HP := Lib.hid (strCutPrefix f s w)
  rw [hf, hne, if_neg (by simp)] at HP
  clear h hne hf ef
  go_enter Tryz.func148, Tryz.ntmps148
  go_wp2_with fail
  refine HP.out.mono ?_
  rintro e w1 ⟨rfl, rfl⟩
  go_wp2_with fail
  go_ret2
  exact ⟨rfl, rfl⟩
set_option maxRecDepth 100000 in
theorem afterHit (b : Nat) (st : Fil.St) (s : ByteArray) (w : World) (h : WAt w b st) (he : s.data.toList.isPrefixOf st.1 = true) (hs : Short st) :
    Calls Tryz.prog 148 #[.pointer (some ⟨b, 0, none⟩), .string s] w fun e w' => e = .returned (.tuple #[str (st.1.drop s.data.toList.length), .bool true]) ∧ WAt w' b (Fil.adv st) ∧ w.grownBy w' (some b) := by
  obtain ⟨f, hf, ef⟩ := exists_bytes st.1
  have c0 : w.cell? ⟨b, 0, none⟩ = some (.string f) := by rw [← ef]; exact h.cell 0
  have HP := Lib.hid (strCutPrefix f s w)
  rw [hf, he, if_pos rfl] at HP
  have HT := Lib.hid (takeHit b st f w h hf.symm hs)
  generalize str (st.1.drop s.data.toList.length) = x at *
  clear h he hf ef hs
  go_enter Tryz.func148, Tryz.ntmps148
  go_wp2_with fail
  refine HP.out.mono ?_
  rintro e w1 ⟨rfl, rfl⟩
  go_wp2_with fail
  refine HT.out.mono ?_
  rintro e w1 ⟨rfl, hw, hg⟩
  have HW := Lib.hid hw
  have HG := Lib.hid hg
  clear hw hg
  go_wp2_with fail
  go_ret2
  exact ⟨rfl, HW.out, HG.out⟩
end Go.Proofs.YtkohfomiigcifaaGreatDoor
