/-
  CONTRACTS OF LAYER 5 AND OF ITS REFERENCE: rows of bytes compared, copied; the four bytes of a checksum. By an AI agent.
-/
import Derived.Test.YtahaggliplcijaaSumWalks
import Derived.Lib.ConvBytes
import Derived.Lib.SlicesS
namespace Go.Proofs.Ytahaggliplcijaa
open Go.RowKit

theorem ret_bool {b c : Bool} (h : b = c) : Ending.returned (.bool b) = .returned (.bool c) := by rw [h]
/-- the call returns a row of bytes in new memory -/
def BytesRes (l : List UInt8) (w : World) : Ending → World → Prop := fun e w' => ∃ v, e = .returned v ∧ OwnB w.heap.size w' v l ∧ Below w.heap.size w w'
theorem below_alloc1 (w : World) (o : Obj) : Below w.heap.size w (w.alloc o) := (Below.refl _ _).alloc (Nat.le_refl _) _
theorem eq_of_get {l m : List UInt8} (hl : l.length = m.length) (h : ∀ j, j < l.length → l.getD j 0 = m.getD j 0) : l = m := by
  refine List.ext_getElem hl fun j h1 h2 => ?_
  have := h j h1
  simpa [List.getD, h1, h2] using this
/-- are two lists of bytes one? -/
def sameB (l m : List UInt8) : Bool := l == m
theorem sameB_self (l : List UInt8) : sameB l l = true := by simp [sameB]
theorem sameB_eq {l m : List UInt8} : sameB l m = true ↔ l = m := by simp [sameB]
theorem sameB_ne {l m : List UInt8} (h : l ≠ m) : sameB l m = false := by simp [sameB, h]
set_option maxHeartbeats 1000000 in
set_option maxRecDepth 100000 in
theorem refSame (va vb : Value) (l m : List UInt8) (w : World) (ha : Bytes w va l) (hb : Bytes w vb m) :
    Calls Try.prog 11 #[va, vb] w fun e w' => e = .returned (.bool (sameB l m)) ∧ Below w.heap.size w w' := by
  obtain ⟨a, c, rfl, hc1, hc2, -, hd⟩ := ha
  obtain ⟨a', c', rfl, hc1', hc2', -, hd'⟩ := hb
  unfold maxLen at hc2 hc2'
  have D := Lib.hid hd
  have D' := Lib.hid hd'
  clear hd hd'
  by_cases hlen : l.length = m.length
  · have hlen' : (l.length : Int) = (m.length : Int) := by omega
    have HL := Lib.hid hlen
    rw [← hlen] at hc1' ⊢
    clear hlen hlen'
    go_enter Try.func11, Try.ntmps11
    go_wp2
    go_loopw [5] (fun i wr => ∃ k : Nat, k ≤ l.length ∧ i = .int .i64 (k : Int) ∧ Hid (∀ j, j < k → l.getD j 0 = m.getD j 0) ∧ Below w.heap.size w wr) (fun i _ => l.length - (intOf i).toNat)
    case atStart => exact ⟨0, by omega, rfl, Lib.hid (fun j hj => by omega), Below.refl _ _⟩
    case round =>
      obtain ⟨k, hk, rfl, HE, hb⟩ := hrel
      have i0 : (0 : Int) ≤ (k : Int) := by omega
      by_cases hlt : k < l.length
      · have i1 : (k : Int) < (l.length : Int) := by omega
        obtain ⟨b1, o1, rfl, -, -, hq, hcell⟩ := D.out k _ (getD_get (d := 0) hlt)
        obtain ⟨b2, o2, rfl, -, -, hq', hcell'⟩ := D'.out k _ (getD_get (d := 0) (by rw [← HL.out]; exact hlt))
        have c1 : wr.cell? ⟨b1, o1 + k, none⟩ = some (.int .u8 ((l.getD k 0).toNat : Int)) := (hb.cell hq).trans hcell
        have c2 : wr.cell? ⟨b2, o2 + k, none⟩ = some (.int .u8 ((m.getD k 0).toNat : Int)) := (hb.cell hq').trans hcell'
        clear hcell hcell'
        by_cases hxy : l.getD k 0 = m.getD k 0
        · have HE' : Hid (∀ j, j < k + 1 → l.getD j 0 = m.getD j 0) := Lib.hid fun j hj => by
            by_cases e : j = k
            · subst e; exact hxy
            · exact HE.out j (by omega)
          rw [← hxy] at c2
          generalize (l.getD k 0).toNat = x at c1 c2
          clear hxy HE
          go_wp2
          go_quiet (fail)
          go_wp2
          go_roundw
          case rel => exact ⟨k + 1, by omega, by go_num, HE', below_drewN hb _⟩
          case measure => simp [intOf]; omega
        · have hne : sameB l m = false := sameB_ne (by
            intro e
            exact hxy (by rw [e]))
          have HN := Lib.hid hne
          replace hxy : (l.getD k 0).toNat ≠ (m.getD k 0).toNat := fun e => hxy (UInt8.toNat_inj.1 e)
          generalize (l.getD k 0).toNat = x at c1 hxy
          generalize (m.getD k 0).toNat = y at c2 hxy
          have t1 : ((x : Int) == (y : Int)) = false := by simp only [beq_eq_false_iff_ne]; omega
          clear hxy HE hne
          go_wp2
          go_quiet (fail)
          go_wp2
          go_ret
          exact ⟨ret_bool HN.out.symm, below_drewN hb _⟩
      · obtain rfl : k = l.length := by omega
        have HN := Lib.hid (show sameB l m = true by rw [eq_of_get HL.out HE.out]; exact sameB_self _)
        go_wp2
        go_ret
        exact ⟨ret_bool HN.out.symm, hb⟩
  · have HN := Lib.hid (show sameB l m = false from sameB_ne (by
      intro e
      exact hlen (by rw [e])))
    have t1 : ((l.length : Int) == (m.length : Int)) = false := by simp only [beq_eq_false_iff_ne]; omega
    clear hlen
    go_enter Try.func11, Try.ntmps11
    go_wp2
    go_ret
    exact ⟨ret_bool HN.out.symm, Below.refl _ _⟩
theorem beq_arr (l m : List UInt8) : ((⟨l.toArray⟩ : ByteArray).toList == (⟨m.toArray⟩ : ByteArray).toList) = sameB l m := by
  by_cases h : l = m
  · subst h
    rw [sameB_self]
    simp
  · rw [sameB_ne h]
    refine (Lib.bytes_beq_false_iff _ _).2 fun e => h ?_
    have e2 := congrArg (fun b : ByteArray => b.data.toList) e
    simpa using e2
set_option maxHeartbeats 1000000 in
set_option maxRecDepth 100000 in
theorem bytesEqual {lo hi lo' hi' : Nat} (va vb : Value) (l m : List UInt8) (w : World) (ha : RowIn encB lo hi w va l) (hb : RowIn encB lo' hi' w vb m) :
    Calls Try.prog 18 #[va, vb] w fun e w' => e = .returned (.bool (sameB l m)) ∧ w = w' := by
  have h1 := run_text ha
  have h2 := run_text hb
  have h3 := beq_arr l m
  generalize (⟨l.toArray⟩ : ByteArray) = x at h1 h3
  generalize (⟨m.toArray⟩ : ByteArray) = y at h2 h3
  generalize sameB l m = r at h3 ⊢
  go_enter Try.func18, Try.ntmps18
  go_wp2
  go_ret
  exact ⟨rfl, rfl⟩
set_option maxRecDepth 100000 in
theorem clone (v : Value) (l : List UInt8) (w : World) (hv : Bytes w v l) (hl : l.length ≤ 140737488355328) :
    Calls Try.prog 19 #[v] w (BytesRes l w) := by
  have hv' := hv
  obtain ⟨a, cap, rfl, h1, h2, h3, -⟩ := hv
  cases a with
  | none =>
    obtain rfl := h3 rfl
    have hl0 : l = [] := List.eq_nil_of_length_eq_zero (by omega)
    subst hl0
    clear hv'
    have hnil := fun W : World => Lib.run_eql_slice_nil (P := Try.prog) W 22 5 none 0 0 0 0 Try.underlying22
    show Calls _ _ #[.slice none 0 0] _ _
    go_enter Try.func19, Try.ntmps19
    go_wp2
    go_ret
    exact ⟨_, rfl, OwnRow.nil _ _ _ _, Below.refl _ _⟩
  | some ad =>
    have hlit := OwnRow.lit encB 5 w [] (by simp)
    have hnil := fun W : World => Lib.run_eql_slice_nil (P := Try.prog) W 22 5 (some ad) l.length cap 0 0 Try.underlying22
    have hb := (Below.refl w.heap.size w).alloc (Nat.le_refl _) (.cells #[] 5)
    go_enter Try.func19, Try.ntmps19
    go_wp2_with (at_builtin; refine wpList_append_bytes (w0 := w) rfl (.tmp 5) (.tmp 6) rfl rfl hlit rfl (hv'.under hb (Nat.le_refl _)) (by simpa using hl) (by simp) hb ?_)
    intro v' w1 ho hb'
    go_wp2
    go_ret
    exact ⟨_, rfl, by simpa using ho, hb'⟩
/-! ### the four bytes of a checksum -/
theorem cell0 (n : Nat) : Value.int .u8 ((n : Int) % 256) = encB n.toUInt8 := by
  unfold encB
  congr 1
theorem cell1 (n : Nat) : Value.int .u8 ((n : Int) / 256 % 256) = encB (n / 256).toUInt8 := by rw [← cell0, Int.natCast_ediv]; rfl
theorem cell2 (n : Nat) : Value.int .u8 ((n : Int) / 65536 % 256) = encB (n / 65536).toUInt8 := by rw [← cell0, Int.natCast_ediv]; rfl
theorem cell3 (n : Nat) (h : n < 4294967296) : Value.int .u8 ((n : Int) / 16777216) = encB (n / 16777216).toUInt8 := by
  rw [← cell0, Int.natCast_ediv]
  congr 1
  omega
set_option maxHeartbeats 1000000 in
set_option maxRecDepth 100000 in
theorem sumEnding (v : Value) (l : List UInt8) (w : World) (hv : Bytes w v l) (hl : l.length ≤ 140737488355328) :
    Calls Try.prog 17 #[v] w (BytesRes (Crc.endS l) w) := by
  have hn := Crc.ofS_lt l
  have hc := sumOf v l w hv hl
  have HE := Lib.hid (show Crc.endS l = Crc.le (Crc.ofS l) from rfl)
  generalize Crc.endS l = m at HE ⊢
  generalize Crc.ofS l = n at hn hc HE
  have x0 : (0 : Int) ≤ (n : Int) := by omega
  have x1 : (n : Int) ≤ 4294967295 := by omega
  go_enter Try.func17, Try.ntmps17
  go_wp2_with fail
  refine hc.mono ?_
  rintro e w1 ⟨rfl, rfl⟩
  go_wp2
  go_ret
  refine ⟨_, rfl, ?_, below_alloc1 _ _⟩
  rw [HE.out, show #[Value.int .u8 ((n : Int) % 256), .int .u8 ((n : Int) / 256 % 256), .int .u8 ((n : Int) / 65536 % 256), .int .u8 ((n : Int) / 16777216)] = ((Crc.le n).map encB).toArray by
    rw [cell0, cell1, cell2, cell3 n hn]; rfl]
  exact OwnRow.lit encB 5 w (Crc.le n) (by rw [Crc.le_length]; decide)
end Go.Proofs.Ytahaggliplcijaa
