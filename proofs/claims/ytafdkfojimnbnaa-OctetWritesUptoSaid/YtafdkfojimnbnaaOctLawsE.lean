/-
  LAYER 4's LAWS: OctetWrites. By an AI agent.
-/
import Derived.Test.YtafdkfojimnbnaaOctLawsD
import Derived.Deep.DeepCutAuto
namespace Go.Proofs.Ytafdkfojimnbnaa
open Go.RowKit
open Go.Lib (uvarint uvarint_small uvarint_big zigzag unzigzag)

theorem undrew {B : Nat} {w w' : World} (hb : Below B w.drew w') : Below B w w' := ⟨hb.os, hb.tape, hb.output, hb.size, hb.block⟩
theorem str_cat (a b : List UInt8) : (ByteArray.mk a.toArray) ++ (ByteArray.mk b.toArray) = ByteArray.mk (a ++ b).toArray := by
  apply ByteArray.ext
  show (ByteArray.append _ _).data = _
  simp
theorem Val.Ok.heap {w w' : World} {x : Val} (h : x.Ok w) (e : w'.heap = w.heap) : x.Ok w' := ⟨h.u, h.n0, h.n1, h.row.heap e, h.fits⟩
abbrev sevens : List UInt8 := [7, 7, 7, 7, 7, 7, 7, 7]
set_option maxHeartbeats 8000000 in
set_option maxRecDepth 100000 in
theorem lawWrites (va vl vu : Value) (l : List UInt8) (xs : List Val) (us : List Nat) (w : World) (ha : Bytes w va l) (hv : Vals w.heap.size w vl xs) (hu : U64s w vu us) (hf : Fits64 us)
    (hl : l.length ≤ 100000000) (hul : us.length ≤ 100000000) (hrooms : rooms xs ≤ 100000000) :
    Calls Try.prog 3 #[va, vl, vu] w fun e w' => e = .returned (.bool true) ∧ Below w.heap.size w w' := by
  have hoks := Vals.ok hv
  have hmk : ∀ u : World, (Instr.makeSlice 22 (.int .i64 0) (.int .i64 ((l.length : Int) + 64))).run Try.prog u =
      .ok (.slice (some ⟨u.heap.size, 0, none⟩) 0 (l.length + 64)) (u.alloc (.cells (madeCells #[.int .u8 0] (l.length + 64)) 5)) := fun u => by
    obtain ⟨i0, hi, hz0, hz1, hz2⟩ := info_parts infoB
    have h := run_make (P := Try.prog) u 22 5 i0 (.int .u8 0) Try.underlying22 hi hz0 .i64 .i64 0 ((l.length : Int) + 64) (Int.le_refl _) (by omega) (by rw [hz2]; omega) (by omega)
    have e : ((l.length : Int) + 64).toNat = l.length + 64 := by omega
    rw [e] at h
    simpa [hz1, Value.cells] using h
  have hown : OwnB w.heap.size (w.alloc (.cells (madeCells #[.int .u8 0] (l.length + 64)) 5)) (.slice (some ⟨w.heap.size, 0, none⟩) 0 (l.length + 64)) [] :=
    World.ownsRow_made w _ _ (Nat.le_refl _) (by unfold maxLen; omega) (by simp [size_madeCells])
  have hbl := below_alloc1 w (.cells (madeCells #[.int .u8 0] (l.length + 64)) 5)
  obtain ⟨a, c, rfl, hc1, hc2, hd⟩ := hv
  unfold maxLen at hc2
  have D := Lib.hid hd
  clear hd
  have ha' := ha
  obtain ⟨a1, q1, rfl, -⟩ := ha'
  have hu' := hu
  obtain ⟨a3, q3, rfl, -⟩ := hu'
  go_enter Try.func3, Try.ntmps3
  go_wp2_with (at_builtin; refine wpList_append_bytes (w0 := w) rfl (.tmp 14) (.tmp 15) rfl rfl hown rfl (ha.under hbl (Nat.le_refl _)) (by simp; omega) (by simp) hbl ?_)
  intro v1 w1 ho1 hb1
  replace ho1 : OwnB w.heap.size w1 v1 l := by simpa using ho1
  have hlit := (OwnRow.lit encB 5 w1 sevens (by simp)).row
  have hb1' := hb1.trans ((below_alloc1 w1 (.cells (sevens.map encB).toArray 5)).mono hb1.size)
  have ho1' := ho1.below (below_alloc1 w1 (.cells (sevens.map encB).toArray 5)) (Nat.le_refl _)
  clear hown hbl hmk
  go_wp2_with (at_builtin; refine wpList_append_bytes (w0 := w) rfl (.tmp 16) (.tmp 17) rfl rfl ho1' rfl hlit (by simp; omega) hb1'.size hb1' ?_)
  intro v2 w2 ho2 hb2
  rcases ho2.shape with ⟨-, e⟩ | ⟨gs, cs, rfl, -, -, hcs1, hcs2, -⟩
  · exact absurd e (by simp)
  have hhead := ho2.row.takeAny l.length (by simp)
  rw [List.take_left] at hhead
  have hs0 : (l.length : Int) ≤ (cs : Int) := by simp at hcs1; omega
  have hs1 : (0 : Int) ≤ (l.length : Int) := by omega
  have hspare := ho2.row
  generalize (l ++ sevens).length = L8 at hspare hcs1 ⊢
  clear hlit ho1 hb1 ho1' hb1' ho2
  go_wp2_with fail
  have hUs : Fits64 us ∧ l.length + 10 * us.length ≤ 140737488355328 := ⟨hf, by omega⟩
  go_cut [31] (fun s wx => s = .bool false ∧ Below w2.heap.size w2 wx)
  case first =>
   go_region_with
    (first
      | (go_at_call 8; refine (octPut _ _ l us _ (hhead.heap (by rfl)) ((hu.below hb2 (Nat.le_refl _)).heap (by rfl)) hUs.1 hUs.2).mono ?_; rintro e w3 ⟨v3, rfl, ho3, hb3⟩; have hc3 := run_text ho3.row; have hB3 : Below w2.heap.size w2 w3 := undrew hb3; have hB03 := hb2.trans (hB3.mono hb2.size))
      | (go_at_call 9; refine (refPut _ _ l us _ ((ha.below hB03 (Nat.le_refl _)).heap (by rfl)) ((hu.below hB03 (Nat.le_refl _)).heap (by rfl)) hUs.1 hUs.2).mono ?_; rintro e w4 ⟨v4, rfl, ho4, hb4⟩; have hc4 := run_text ho4.row; have hc3' := run_text (ho3.row.below hb4 (Nat.le_refl _)); have hB4 := hB3.trans (hb4.mono hB3.size)))
   all_goals (go_wp2_with fail; (try simp only [Act.put, List.getElem_toArray, List.getElem_cons_succ, List.getElem_cons_zero, List.setIfInBounds_toArray, List.set_cons_zero, List.set_cons_succ]); go_meet; exact ⟨by first | trivial | rfl | simp [Act.put], hB4⟩)
  case rest =>
  obtain ⟨rfl, hBc⟩ := hcut
  go_wp2_with fail
  go_loopw [34] (fun i wr => ∃ k : Nat, k ≤ xs.length ∧ i = .int .i64 (k : Int) ∧ Below w2.heap.size w2 wr) (fun i _ => xs.length - (intOf i).toNat)
  case atStart => exact ⟨0, by omega, rfl, hBc⟩
  case round =>
    clear hBc
    obtain ⟨k, hk, rfl, hb⟩ := hrel
    have i0 : (0 : Int) ≤ (k : Int) := by omega
    have hbW := hb2.trans (hb.mono hb2.size)
    by_cases hlt : k < xs.length
    · have i1 : (k : Int) < (xs.length : Int) := by omega
      obtain ⟨b, o, rfl, hbC, hvu, hvn, hrow, hfit, hcell⟩ := D.out k _ (getD_get (d := default) hlt)
      have hroom := room_le _ (List.mem_of_getElem? (getD_get (d := default) hlt))
      generalize xs.getD k default = x at hvu hvn hrow hfit hcell hroom
      obtain ⟨kind, u, n, s0, lv, ll⟩ := x
      replace hrow : RowIn (Value.int .i64) 0 w.heap.size w lv ll := hrow
      have hrow' := hrow
      obtain ⟨a2, q2, rfl, -⟩ := hrow'
      have c0 := (hbW.cell (p := ⟨b, o + k * 5 + 0, none⟩) hbC).trans (hcell 0 (.int .i64 kind) rfl)
      have c1 := (hbW.cell (p := ⟨b, o + k * 5 + 1, none⟩) hbC).trans (hcell 1 (.int .u64 (u : Int)) rfl)
      have c2 := (hbW.cell (p := ⟨b, o + k * 5 + 2, none⟩) hbC).trans (hcell 2 (.int .i64 n) rfl)
      have c3 := (hbW.cell (p := ⟨b, o + k * 5 + 3, none⟩) hbC).trans (hcell 3 (.string s0) rfl)
      have c4 := (hbW.cell (p := ⟨b, o + k * 5 + 4, none⟩) hbC).trans (hcell 4 (.slice a2 ll.length q2) rfl)
      rw [Nat.add_zero] at c0
      have hb0 := below_alloc1 wr (.cells #[.int .i64 kind, .int .u64 (u : Int), .int .i64 n, .string s0, .slice a2 ll.length q2] 29)
      have hwl : wr.heap.size < (wr.alloc (.cells #[.int .i64 kind, .int .u64 (u : Int), .int .i64 n, .string s0, .slice a2 ll.length q2] 29)).heap.size := by simp
      have d0 : (wr.alloc (.cells #[.int .i64 kind, .int .u64 (u : Int), .int .i64 n, .string s0, .slice a2 ll.length q2] 29)).cell? ⟨wr.heap.size, 0, none⟩ = some (.int .i64 kind) := by rw [World.cell?_alloc_mark]; rfl
      have d1 : (wr.alloc (.cells #[.int .i64 kind, .int .u64 (u : Int), .int .i64 n, .string s0, .slice a2 ll.length q2] 29)).cell? ⟨wr.heap.size, 1, none⟩ = some (.int .u64 (u : Int)) := by rw [World.cell?_alloc_mark]; rfl
      have d2 : (wr.alloc (.cells #[.int .i64 kind, .int .u64 (u : Int), .int .i64 n, .string s0, .slice a2 ll.length q2] 29)).cell? ⟨wr.heap.size, 2, none⟩ = some (.int .i64 n) := by rw [World.cell?_alloc_mark]; rfl
      have d3 : (wr.alloc (.cells #[.int .i64 kind, .int .u64 (u : Int), .int .i64 n, .string s0, .slice a2 ll.length q2] 29)).cell? ⟨wr.heap.size, 3, none⟩ = some (.string s0) := by rw [World.cell?_alloc_mark]; rfl
      have d4 : (wr.alloc (.cells #[.int .i64 kind, .int .u64 (u : Int), .int .i64 n, .string s0, .slice a2 ll.length q2] 29)).cell? ⟨wr.heap.size, 4, none⟩ = some (.slice a2 ll.length q2) := by rw [World.cell?_alloc_mark]; rfl
      have hok : Val.Ok (wr.alloc (.cells #[.int .i64 kind, .int .u64 (u : Int), .int .i64 n, .string s0, .slice a2 ll.length q2] 29)) ⟨kind, u, n, s0, .slice a2 ll.length q2, ll⟩ :=
        ⟨hvu, hvn.1, hvn.2, (hrow.below (hbW.trans (hb0.mono hbW.size)) (Nat.le_refl _)).all, hfit⟩
      have hsz2 : l.length + Val.room ⟨kind, u, n, s0, .slice a2 ll.length q2, ll⟩ ≤ 1000000000000 := by omega
      have hB0 := hb.trans (hb0.mono hb.size)
      clear hcell hrow hfit hvu hvn hroom hb0
      go_wp2_with fail
      generalize hw0 : wr.alloc (.cells #[.int .i64 kind, .int .u64 (u : Int), .int .i64 n, .string s0, .slice a2 ll.length q2] 29) = w0 at *
      clear c0 c1 c2 c3 c4
      go_cut [46] (fun s wx => s = .bool false ∧ Below w2.heap.size w2 wx)
      case first =>
       go_region_with
        (first
          | (go_at_call 10; refine (lawPut _ l ⟨kind, u, n, s0, .slice a2 ll.length q2, ll⟩ _ ((hhead.below hB0 (Nat.le_refl _)).heap (by rfl)) (hok.heap (by rfl)) hsz2).mono ?_; rintro e w3 ⟨v3, rfl, ho3, hb3⟩; have hc3 := run_text ho3.row; have hB3 : Below w0.heap.size w0 w3 := undrew hb3; have hB03 := hB0.trans (hB3.mono hB0.size); have f0 := (hB3.cell (p := ⟨wr.heap.size, 0, none⟩) hwl).trans d0; have f1 := (hB3.cell (p := ⟨wr.heap.size, 1, none⟩) hwl).trans d1; have f2 := (hB3.cell (p := ⟨wr.heap.size, 2, none⟩) hwl).trans d2; have f3 := (hB3.cell (p := ⟨wr.heap.size, 3, none⟩) hwl).trans d3; have f4 := (hB3.cell (p := ⟨wr.heap.size, 4, none⟩) hwl).trans d4)
          | (go_at_call 11; refine (lawRefPut _ l ⟨kind, u, n, s0, .slice a2 ll.length q2, ll⟩ _ ((ha.below (hb2.trans (hB03.mono hb2.size)) (Nat.le_refl _)).heap (by rfl)) ((hok.under hB3 (Nat.le_refl _)).heap (by rfl)) hsz2).mono ?_; rintro e w4 ⟨v4, rfl, ho4, hb4⟩; have hc4 := run_text ho4.row; have hc3' := run_text (ho3.row.below hb4 (Nat.le_refl _)); have hB4 := hB03.trans (hb4.mono hB03.size)))
       all_goals (go_wp2_with fail; (try simp only [Act.put, List.getElem_toArray, List.getElem_cons_succ, List.getElem_cons_zero, List.setIfInBounds_toArray, List.set_cons_zero, List.set_cons_succ]); go_meet; exact ⟨by first | trivial | rfl | simp [Act.put], hB4⟩)
      case rest =>
      obtain ⟨rfl, hBc⟩ := hcut
      go_wp2_with fail
      go_roundw
      case rel => exact ⟨k + 1, by omega, by go_num, hBc⟩
      case measure => simp [intOf]; omega
    · obtain rfl : k = xs.length := by omega
      have hcat := str_cat l sevens
      go_wp2_with fail
      refine (alive wr).mono ?_
      rintro e w3 ⟨rfl, hb3⟩
      have hB3 := hb.trans (hb3.mono hb.size)
      have hc1 := run_text (hspare.below hB3 (Nat.le_refl _))
      have hc2 := run_text (ha.below (hb2.trans (hB3.mono hb2.size)) (Nat.le_refl _))
      go_wp2_with fail
      go_ret
      exact ⟨by simp, hb2.trans (hB3.mono hb2.size)⟩
end Go.Proofs.Ytafdkfojimnbnaa
