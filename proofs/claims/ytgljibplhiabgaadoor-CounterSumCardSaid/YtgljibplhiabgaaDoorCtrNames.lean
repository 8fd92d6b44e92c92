/-
  CONTRACTS OF LAYER 12 (counter): Name, Kind, of the program and of the reference; what the listed variable gives. By an AI agent.
-/
import Derived.Test.YtgljibplhiabgaaDoorCtrWalksC
import Derived.Lib.SlicesS
namespace Go.Proofs.YtgljibplhiabgaaDoor
open Go.RowKit Go.Lib

/-- a string's value out of its bytes -/
def str (l : List UInt8) : Value := .string ⟨l.toArray⟩
theorem gNames : Tryd.prog.globalNamed "cardgame/counter.names" = some 0 := by kernel_rfl
/-- the variable of the names holds the three names -/
structure Env (w : World) : Prop where
  names : w.var? Tryd.prog "cardgame/counter.names" = some #[.string ⟨#[112, 108, 117, 115]⟩, .string ⟨#[109, 105, 110, 117, 115]⟩, .string ⟨#[99, 104, 97, 114, 103, 101]⟩]
theorem var_below {w w' : World} (hb : Below w.heap.size w w') {n : String} {cs : Array Value} (h : w.var? Tryd.prog n = some cs) : w'.var? Tryd.prog n = some cs := by
  unfold World.var? at *
  cases hg : Tryd.prog.globalNamed n with
  | none => simp [hg] at h
  | some g =>
    simp only [hg, Option.bind_some] at h ⊢
    have hlt : g < w.heap.size := by
      rcases Nat.lt_or_ge g w.heap.size with h' | h'
      · exact h'
      · rw [Array.getElem?_eq_none h'] at h; simp at h
    rw [hb.block g hlt]
    exact h
theorem Env.below {w w' : World} (h : Env w) (hb : Below w.heap.size w w') : Env w' := ⟨var_below hb h.names⟩
theorem Env.cell {w : World} (h : Env w) (k : Nat) (hk : k < 3) : w.cell? ⟨0, k, none⟩ = some (.string ⟨(Ctr.name k).toArray⟩) := by
  rw [World.var?_cell gNames h.names k]
  match k, hk with
  | 0, _ => rfl
  | 1, _ => rfl
  | 2, _ => rfl
theorem ret_str {a b : List UInt8} (h : a = b) : Ending.returned (str a) = .returned (str b) := by rw [h]
set_option maxRecDepth 100000 in
theorem counterName (i : Int) (w : World) (hE : Env w) :
    Calls Tryd.prog 14 #[.int .i64 i] w fun e w' => e = .returned (str (Ctr.nameI i)) ∧ w = w' := by
  by_cases ho : i < 0 ∨ 3 ≤ i
  · have HN := Lib.hid (Ctr.nameI_out ho)
    have HB : Hid ((decide (0 ≤ i) && decide (i < 3)) = false) := Lib.hid (by simp; omega)
    clear ho
    go_enter Tryd.func14, Tryd.ntmps14
    go_wp2_with fail
    refine (counterIsKind _ _).mono ?_
    rw [HB.out]
    rintro e w1 ⟨rfl, rfl⟩
    go_wp2
    go_ret
    exact ⟨by rw [HN.out]; rfl, rfl⟩
  · obtain ⟨k, rfl⟩ : ∃ k : Nat, i = (k : Int) := ⟨i.toNat, by omega⟩
    have hk : k < 3 := by omega
    have hc := hE.cell k hk
    have HN := Lib.hid (Ctr.nameI_nat k)
    have HB : Hid ((decide (0 ≤ (k : Int)) && decide ((k : Int) < 3)) = true) := Lib.hid (by simp; omega)
    clear ho hE
    go_enter Tryd.func14, Tryd.ntmps14
    go_wp2_with fail
    refine (counterIsKind _ _).mono ?_
    rw [HB.out]
    rintro e w1 ⟨rfl, rfl⟩
    go_wp2
    go_ret
    exact ⟨by rw [HN.out]; rfl, rfl⟩
set_option maxRecDepth 100000 in
theorem refName12 (i : Int) (w : World) :
    Calls Tryd.prog 15 #[.int .i64 i] w fun e w' => e = .returned (str (Ctr.nameI i)) ∧ w = w' := by
  by_cases e0 : i = 0
  · subst e0
    go_enter Tryd.func15, Tryd.ntmps15
    go_wp2
    go_ret
    exact ⟨rfl, rfl⟩
  by_cases e1 : i = 1
  · subst e1
    go_enter Tryd.func15, Tryd.ntmps15
    go_wp2
    go_ret
    exact ⟨rfl, rfl⟩
  by_cases e2 : i = 2
  · subst e2
    go_enter Tryd.func15, Tryd.ntmps15
    go_wp2
    go_ret
    exact ⟨rfl, rfl⟩
  have HN := Lib.hid (Ctr.nameI_out (k := i) (by omega))
  have t0 : (i == 0) = false := by simpa using e0
  have t1 : (i == 1) = false := by simpa using e1
  have t2 : (i == 2) = false := by simpa using e2
  go_enter Tryd.func15, Tryd.ntmps15
  go_wp2
  go_ret
  exact ⟨by rw [HN.out]; rfl, rfl⟩
/-- no name below k is s -/
def NoName (s : List UInt8) (k : Nat) : Prop := ∀ j, j < k → ¬ Ctr.name j = s
theorem NoName.next {s : List UInt8} {k : Nat} (h : NoName s k) (hn : ¬ Ctr.name k = s) : NoName s (k + 1) := fun j hj => by
  by_cases e : j = k
  · rw [e]; exact hn
  · exact h j (by omega)
theorem kind_hit {s : List UInt8} {k : Nat} (hk : k < 3) (h : Ctr.name k = s) : Ctr.kindI s = (k : Int) ∧ Ctr.kindB s = true := by
  rw [← h]; exact Ctr.kind_name k hk
theorem kind_none {s : List UInt8} (h : NoName s 3) : Ctr.kindI s = 0 ∧ Ctr.kindB s = false := by
  have h0 := h 0 (by omega)
  have h1 := h 1 (by omega)
  have h2 := h 2 (by omega)
  unfold Ctr.kindI Ctr.kindB
  rw [if_neg h0, if_neg h1, if_neg h2]
  simp [h0, h1, h2]
theorem ret_kind {a c : Int} {b d : Bool} (h : a = c) (h' : b = d) : Ending.returned (.tuple #[.int .i64 a, .bool b]) = .returned (.tuple #[.int .i64 c, .bool d]) := by rw [h, h']
theorem exists_bytes (l : List UInt8) : ∃ s : ByteArray, s.data.toList = l ∧ str l = .string s := ⟨⟨l.toArray⟩, rfl, rfl⟩
theorem bytes_same {s x : ByteArray} (h : s.data.toList = x.data.toList) : s = x := ByteArray.ext (Array.toList_inj.1 h)
theorem indexStr_0 (w : World) : (Instr.index 37 (.agg #[.string ⟨#[112, 108, 117, 115]⟩, .string ⟨#[109, 105, 110, 117, 115]⟩, .string ⟨#[99, 104, 97, 114, 103, 101]⟩]) (.int .i64 0)).run Tryd.prog w = .ok (str (Ctr.name 0)) w := by kernel_rfl
theorem indexStr_1 (w : World) : (Instr.index 37 (.agg #[.string ⟨#[112, 108, 117, 115]⟩, .string ⟨#[109, 105, 110, 117, 115]⟩, .string ⟨#[99, 104, 97, 114, 103, 101]⟩]) (.int .i64 1)).run Tryd.prog w = .ok (str (Ctr.name 1)) w := by kernel_rfl
theorem indexStr_2 (w : World) : (Instr.index 37 (.agg #[.string ⟨#[112, 108, 117, 115]⟩, .string ⟨#[109, 105, 110, 117, 115]⟩, .string ⟨#[99, 104, 97, 114, 103, 101]⟩]) (.int .i64 2)).run Tryd.prog w = .ok (str (Ctr.name 2)) w := by kernel_rfl
theorem indexStr (k : Nat) (hk : k < 3) (w : World) : (Instr.index 37 (.agg #[.string ⟨#[112, 108, 117, 115]⟩, .string ⟨#[109, 105, 110, 117, 115]⟩, .string ⟨#[99, 104, 97, 114, 103, 101]⟩]) (.int .i64 (k : Int))).run Tryd.prog w = .ok (str (Ctr.name k)) w := by
  match k, hk with
  | 0, _ => exact indexStr_0 w
  | 1, _ => exact indexStr_1 w
  | 2, _ => exact indexStr_2 w
set_option maxRecDepth 100000 in
theorem counterKind (s : ByteArray) (w : World) (hE : Env w) :
    Calls Tryd.prog 10 #[.string s] w fun e w' => e = .returned (.tuple #[.int .i64 (Ctr.kindI s.data.toList), .bool (Ctr.kindB s.data.toList)]) ∧ w = w' := by
  have e0 := hE.cell 0 (by decide)
  have e1 := hE.cell 1 (by decide)
  have e2 := hE.cell 2 (by decide)
  simp only [Ctr.name] at e0 e1 e2
  go_enter Tryd.func10, Tryd.ntmps10
  go_wp2
  go_loop [7] (fun i => ∃ k : Nat, k ≤ 3 ∧ i = .int .i64 (k : Int) ∧ NoName s.data.toList k) (fun i => 3 - (intOf i).toNat)
  case atStart => exact ⟨0, by omega, rfl, fun j hj => absurd hj (by omega)⟩
  case round =>
    obtain ⟨k, hk, rfl, hno⟩ := hrel
    have HNO := Lib.hid hno
    clear hno
    by_cases hlt : k < 3
    · have hi := indexStr k hlt
      obtain ⟨sx, hsx, ex⟩ := exists_bytes (Ctr.name k)
      rw [ex] at hi
      cases ht : (sx.toList == s.toList) with
      | true =>
        have HP := Lib.hid (kind_hit (s := s.data.toList) hlt (by rw [← hsx, (Lib.bytes_beq_iff _ _).1 ht]))
        clear hsx ex
        go_wp2
        go_ret2
        exact ⟨ret_kind HP.out.1.symm HP.out.2.symm, rfl⟩
      | false =>
        have HN := Lib.hid (HNO.out.next (k := k) (by rw [← hsx]; intro e; exact (Lib.bytes_beq_false_iff _ _).1 ht (bytes_same e)))
        clear hsx ex
        go_wp2
        go_round
        case rel => exact ⟨k + 1, by omega, by go_num, HN.out⟩
        case measure => simp [intOf]; omega
    · obtain rfl : k = 3 := by omega
      have HP := Lib.hid (kind_none HNO.out)
      go_wp2
      go_ret2
      exact ⟨ret_kind HP.out.1.symm HP.out.2.symm, rfl⟩
set_option maxRecDepth 100000 in
theorem refKind12 (s : ByteArray) (w : World) :
    Calls Tryd.prog 11 #[.string s] w fun e w' => e = .returned (.tuple #[.int .i64 (Ctr.kindI s.data.toList), .bool (Ctr.kindB s.data.toList)]) ∧ w = w' := by
  go_enter Tryd.func11, Tryd.ntmps11
  go_wp2
  go_loop [4] (fun i => ∃ k : Nat, k ≤ 3 ∧ i = .int .i64 (k : Int) ∧ NoName s.data.toList k) (fun i => 3 - (intOf i).toNat)
  case atStart => exact ⟨0, by omega, rfl, fun j hj => absurd hj (by omega)⟩
  case round =>
    obtain ⟨k, hk, rfl, hno⟩ := hrel
    have HNO := Lib.hid hno
    clear hno
    by_cases hlt : k < 3
    · obtain ⟨sx, hsx, ex⟩ := exists_bytes (Ctr.name k)
      have HC : Hid (∀ w, Calls Tryd.prog 15 #[.int .i64 (k : Int)] w fun e w' => e = .returned (.string sx) ∧ w = w') := Lib.hid (fun w => by rw [← ex, ← Ctr.nameI_nat]; exact refName12 _ _)
      cases ht : (sx.toList == s.toList) with
      | true =>
        have HP := Lib.hid (kind_hit (s := s.data.toList) hlt (by rw [← hsx, (Lib.bytes_beq_iff _ _).1 ht]))
        clear hsx ex
        go_wp2_with fail
        refine (HC.out _).mono ?_
        rintro e w1 ⟨rfl, rfl⟩
        go_wp2
        go_ret2
        exact ⟨ret_kind HP.out.1.symm HP.out.2.symm, rfl⟩
      | false =>
        have HN := Lib.hid (HNO.out.next (k := k) (by rw [← hsx]; intro e; exact (Lib.bytes_beq_false_iff _ _).1 ht (bytes_same e)))
        clear hsx ex
        go_wp2_with fail
        refine (HC.out _).mono ?_
        rintro e w1 ⟨rfl, rfl⟩
        go_wp2
        go_round
        case rel => exact ⟨k + 1, by omega, by go_num, HN.out⟩
        case measure => simp [intOf]; omega
    · obtain rfl : k = 3 := by omega
      have HP := Lib.hid (kind_none HNO.out)
      go_wp2
      go_ret2
      exact ⟨ret_kind HP.out.1.symm HP.out.2.symm, rfl⟩
end Go.Proofs.YtgljibplhiabgaaDoor
