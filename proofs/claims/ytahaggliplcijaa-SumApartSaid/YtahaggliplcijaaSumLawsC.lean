/-
  LAYER 5's LAWS: SumApart. By an AI agent.
-/
import Derived.Test.YtahaggliplcijaaSumLaws
namespace Go.Proofs.Ytahaggliplcijaa
open Go.RowKit

/-- one place of a row of the call's own: what it holds; what a store there leaves -/
theorem OwnRow.place {α : Type} {enc : α → Value} {e : TypeId} {B n cap k : Nat} {w : World} {a : Option Addr} {l : List α} (d : α) (h : OwnRow enc e B w (.slice a n cap) l) (hk : k < n) :
    ∃ g, a = some ⟨g, 0, none⟩ ∧ B ≤ g ∧ g < w.heap.size ∧ w.cell? ⟨g, k, none⟩ = some (enc (l.getD k d)) ∧ w.frozen? ⟨g, k, none⟩ = false ∧
      ∀ u : α, OwnRow enc e B (w.setCell ⟨g, k, none⟩ (enc u)) (.slice (some ⟨g, 0, none⟩) n cap) (l.set k u) ∧ w.grownBy (w.setCell ⟨g, k, none⟩ (enc u)) (some g) := by
  rcases h.shape with ⟨e1, _⟩ | ⟨g, cap', e1, hB, hg, _, _, hcell⟩
  · obtain ⟨_, e2, _⟩ := sl_eq e1; omega
  obtain ⟨rfl, rfl, rfl⟩ := sl_eq e1
  refine ⟨g, rfl, hB, hg, hcell k _ (getD_get hk), World.ownsRow.frozenAt h k, fun u => ?_⟩
  obtain ⟨h1, h2⟩ := World.ownsRow.stored h k (enc u)
  refine ⟨?_, h2⟩
  unfold OwnRow
  rw [List.length_set, List.map_set]
  exact h1
theorem OwnRow.len {α : Type} {enc : α → Value} {e : TypeId} {B n cap : Nat} {w : World} {a : Option Addr} {l : List α} (h : OwnRow enc e B w (.slice a n cap) l) : n = l.length := by
  obtain ⟨_, _, e1, _⟩ := h.row
  exact (sl_eq e1).2.1
theorem xor_cell (c : UInt8) (d : Nat) (hd : d < 256) : Value.int .u8 (bits .xor .u8 (c.toNat : Int) (d : Int)) = encB (c ^^^ d.toUInt8) := by
  unfold encB
  rw [u8_xor_nat c.toNat d (UInt8.toNat_lt c) hd, UInt8.toNat_xor]
  congr 3
  simp only [Nat.toUInt8_eq, UInt8.toNat_ofNat']
  omega
theorem not_cell (c : UInt8) : Value.int .u8 (bits .xor .u8 (c.toNat : Int) 255) = encB (c ^^^ 255) := xor_cell c 255 (by decide)
set_option maxHeartbeats 2000000 in
set_option maxRecDepth 100000 in
theorem lawApart (v : Value) (l : List UInt8) (w : World) (hv : Bytes w v l) (hl : l.length ≤ 140737488355328) :
    Calls Try.prog 7 #[v] w fun e w' => e = .returned (.bool true) ∧ Below w.heap.size w w' := by
  have HV := hv
  obtain ⟨a, c, rfl, -⟩ := hv
  by_cases hm : 4000 < l.length
  · have hm' : (4000 : Int) < (l.length : Int) := by omega
    go_enter Try.func7, Try.ntmps7
    go_wp2_with fail
    refine (alive _).mono ?_
    rintro e w1 ⟨rfl, hb⟩
    go_wp2_with fail
    go_ret
    exact ⟨rfl, hb⟩
  · have hm' : ¬ (4000 : Int) < (l.length : Int) := by omega
    have hl' : l.length ≤ 4000 := by omega
    clear hm
    have hlit := OwnRow.lit encB 5 w [] (by simp)
    have hbl := below_alloc1 w (.cells #[] 5)
    go_enter Try.func7, Try.ntmps7
    go_wp2_with (at_builtin; refine wpList_append_bytes (w0 := w) rfl (.tmp 15) (.tmp 16) rfl rfl hlit rfl (HV.under hbl (Nat.le_refl _)) (by simp; omega) (by simp) hbl ?_)
    intro vw w1 how hb1
    replace how : OwnB w.heap.size w1 vw l := by simpa using how
    clear hlit hbl
    go_wp2_with fail
    refine (sumSeal _ l _ (HV.under hb1 (Nat.le_refl _)) (by omega)).mono ?_
    rintro e w2 ⟨v2, rfl, ho2, hb2⟩
    obtain ⟨a2, c2, rfl, hc2, hm2, -⟩ := ho2.row
    have hlen := Crc.sealS_length l
    unfold maxLen at hm2
    generalize (Crc.sealS l).length = n at hlen hc2 ho2 ⊢
    go_wp2_with fail
    go_loopw [22] (fun i wr => ∃ k : Nat, k ≤ n ∧ i = .int .i64 (k : Int) ∧ (∃ xs, OwnB w1.heap.size wr (.slice a2 n c2) xs) ∧ Below w1.heap.size w1 wr) (fun i _ => n - (intOf i).toNat)
    case atStart => exact ⟨0, Nat.zero_le _, rfl, ⟨_, ho2⟩, hb2⟩
    case round =>
      clear ho2 hb2
      obtain ⟨k, hk, rfl, ⟨xs, ho⟩, hb⟩ := hrel
      have i0 : (0 : Int) ≤ (k : Int) := by omega
      by_cases hlt : k < n
      · have i1 : (k : Int) < (n : Int) := by omega
        obtain ⟨g, rfl, hB, hg, hcell, hfr, hst⟩ := ho.place 0 hlt
        generalize xs.getD k 0 = x at hcell
        obtain ⟨ho3, hg3⟩ := hst (x ^^^ 255)
        have HC := Lib.hid (not_cell x)
        unfold encB at hcell
        clear hst
        go_wp2_with fail
        go_roundw
        case rel => exact ⟨k + 1, by omega, by go_num, ⟨_, by rw [HC.out]; exact ho3⟩, by rw [HC.out]; exact hb.grown hg3 hb.size (by rintro j ⟨⟩; exact hB)⟩
        case measure => simp [intOf]; omega
      · have i1 : ¬ (k : Int) < (n : Int) := by omega
        clear ho
        have hb0 := hb1.trans (hb.mono hb1.size)
        go_wp2_with fail
        refine (sumSeal _ l _ (HV.under hb0 (Nat.le_refl _)) (by omega)).mono ?_
        rintro e w3 ⟨v3, rfl, ho3, hb3⟩
        have hb03 := hb0.trans (hb3.mono hb0.size)
        have how3 := (how.below hb (Nat.le_refl _)).below hb3 (by have := hb.size; omega)
        have ho3' := ho3.row
        obtain ⟨a3, c3, rfl, -⟩ := ho3'
        go_wp2_with fail
        refine (sumOpen _ (Crc.sealS l) _ ho3.row.all (by rw [Crc.sealS_length]; omega)).mono ?_
        unfold OpenRes
        rw [Crc.openV_seal]
        rintro e w4 ⟨v4, rfl, ho4, hb4⟩
        obtain ⟨a4, c4, rfl, hc4, hm4, -⟩ := ho4.row
        unfold maxLen at hm4
        go_wp2_with fail
        generalize (Crc.sealS l).length = n3 at ho3 ⊢
        go_loopw [41] (fun i wq => ∃ k : Nat, k ≤ l.length ∧ i = .int .i64 (k : Int) ∧ (∃ xs, OwnB w3.heap.size wq (.slice a4 l.length c4) xs) ∧ Below w3.heap.size w3 wq) (fun i _ => l.length - (intOf i).toNat)
        case atStart => exact ⟨0, Nat.zero_le _, rfl, ⟨_, ho4⟩, hb4⟩
        case round =>
          clear ho4 hb4
          obtain ⟨j, hj, rfl, ⟨ys, hoy⟩, hby⟩ := hrel
          have j0 : (0 : Int) ≤ (j : Int) := by omega
          by_cases hjt : j < l.length
          · have j1 : (j : Int) < (l.length : Int) := by omega
            obtain ⟨g, rfl, hB, hg, hcell, hfr, hst⟩ := hoy.place 0 hjt
            generalize ys.getD j 0 = x at hcell
            obtain ⟨hoz, hg3⟩ := hst (x ^^^ 255)
            have HC := Lib.hid (not_cell x)
            unfold encB at hcell
            clear hst
            go_wp2_with fail
            go_roundw
            case rel => exact ⟨j + 1, by omega, by go_num, ⟨_, by rw [HC.out]; exact hoz⟩, by rw [HC.out]; exact hby.grown hg3 hby.size (by rintro j ⟨⟩; exact hB)⟩
            case measure => simp [intOf]; omega
          · have j1 : ¬ (j : Int) < (l.length : Int) := by omega
            clear hoy
            have hb05 := hb03.trans (hby.mono hb03.size)
            have hos := ho3.below hby (Nat.le_refl _)
            have how5 := how3.below hby (Nat.le_refl _)
            go_wp2_with fail
            refine (sumOpen _ (Crc.sealS l) _ hos.row.all (by rw [Crc.sealS_length]; omega)).mono ?_
            unfold OpenRes
            rw [Crc.openV_seal]
            rintro e w6 ⟨v6, rfl, ho6, hb6⟩
            have hb06 := hb05.trans (hb6.mono hb05.size)
            have how6 := how5.below hb6 (Nat.le_refl _)
            go_wp2_with fail
            refine (refSame _ _ l l _ (HV.under hb06 (Nat.le_refl _)) how6.row.all).mono ?_
            rw [sameB_self]
            rintro e w7 ⟨rfl, hb7⟩
            have hb07 := hb06.trans (hb7.mono hb06.size)
            go_wp2_with fail
            refine (refSame _ _ l l _ (ho6.below hb7 (Nat.le_refl _)).row.all (how6.below hb7 (Nat.le_refl _)).row.all).mono ?_
            rw [sameB_self]
            rintro e w8 ⟨rfl, hb8⟩
            have hb08 := hb07.trans (hb8.mono hb07.size)
            go_wp2_with fail
            refine (alive _).mono ?_
            rintro e w9 ⟨rfl, hb9⟩
            go_wp2_with fail
            go_ret
            exact ⟨rfl, hb08.trans (hb9.mono hb08.size)⟩
end Go.Proofs.Ytahaggliplcijaa
