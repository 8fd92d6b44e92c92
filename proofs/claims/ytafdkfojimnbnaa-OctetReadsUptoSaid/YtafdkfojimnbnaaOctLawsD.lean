/-
  LAYER 4's LAWS: OctetBack. By an AI agent.
-/
import Derived.Test.YtafdkfojimnbnaaOctLaws
namespace Go.Proofs.Ytafdkfojimnbnaa
open Go.RowKit
open Go.Lib (uvarint uvarint_small uvarint_big zigzag unzigzag)

/-- the bytes of some values, and how many they may be -/
def allB (xs : List Val) : List UInt8 := xs.flatMap Val.bytes
def rooms (xs : List Val) : Nat := (xs.map Val.room).sum
theorem allB_take {xs : List Val} {k : Nat} (h : k < xs.length) : allB (xs.take (k + 1)) = allB (xs.take k) ++ (xs.getD k default).bytes := by
  unfold allB
  rw [List.take_succ_eq_append_getElem h, List.flatMap_append]
  simp [List.getD, h]
theorem allB_drop {xs : List Val} {k : Nat} (h : k < xs.length) (r : List UInt8) : allB (xs.drop k) ++ r = (xs.getD k default).bytes ++ (allB (xs.drop (k + 1)) ++ r) := by
  unfold allB
  rw [List.drop_eq_getElem_cons h, List.flatMap_cons, List.append_assoc]
  simp [List.getD, h]
theorem rooms_take (xs : List Val) (k : Nat) : rooms (xs.take k) + rooms (xs.drop k) = rooms xs := by
  unfold rooms
  rw [← List.sum_append, ← List.map_append, List.take_append_drop]
theorem rooms_drop {xs : List Val} {k : Nat} (h : k < xs.length) : rooms (xs.drop k) = (xs.getD k default).room + rooms (xs.drop (k + 1)) := by
  unfold rooms
  rw [List.drop_eq_getElem_cons h, List.map_cons, List.sum_cons]
  simp [List.getD, h]
theorem allB_len : ∀ (xs : List Val), (∀ x ∈ xs, x.bytes.length ≤ x.room) → (allB xs).length ≤ rooms xs
  | [], _ => by simp [allB, rooms]
  | x :: r, h => by
    have h1 := h x (by simp)
    have h2 := allB_len r fun y hy => h y (by simp [hy])
    unfold allB rooms at *
    simp only [List.flatMap_cons, List.length_append, List.map_cons, List.sum_cons]
    omega
/-- what the row of values gives of its number i -/
theorem Vals.ok {C : Nat} {w : World} {v : Value} {xs : List Val} (h : Vals C w v xs) : ∀ x ∈ xs, x.Ok w := by
  intro x hx
  obtain ⟨a, cap, -, -, -, hd⟩ := h
  obtain ⟨i, hi, rfl⟩ := List.mem_iff_getElem.1 hx
  obtain ⟨b, o, -, -, hu, hn, hrow, hfit, -⟩ := hd i _ (List.getElem?_eq_getElem hi)
  exact ⟨hu, hn.1, hn.2, hrow.all, hfit⟩
theorem room_le {xs : List Val} : ∀ x ∈ xs, x.room ≤ rooms xs := by
  induction xs with
  | nil => intro x hx; cases hx
  | cons y r ih =>
    intro x hx
    have e : rooms (y :: r) = y.room + rooms r := by simp [rooms]
    rcases List.mem_cons.1 hx with rfl | h
    · omega
    · have := ih x h; omega
set_option maxHeartbeats 2000000 in
set_option maxRecDepth 100000 in
theorem lawBackAll (vl vr : Value) (xs : List Val) (rest : List UInt8) (w : World) (hv : Vals w.heap.size w vl xs) (hr : Bytes w vr rest) (hrooms : rooms xs ≤ 100000000) (hrest : rest.length ≤ 100000000) :
    Calls Try.prog 5 #[vl, vr] w fun e w' => e = .returned (.bool true) ∧ Below w.heap.size w w' := by
  have hoks := Vals.ok hv
  have HS := Lib.hid (show ∀ x ∈ xs, x.bytes.length ≤ x.room from fun x hx => Val.bytes_len (hoks x hx) (by have := room_le x hx; omega))
  obtain ⟨a, c, rfl, hc1, hc2, hd⟩ := hv
  unfold maxLen at hc2
  have D := Lib.hid hd
  clear hd hoks
  have hr' := hr
  obtain ⟨ar, cr, rfl, -⟩ := hr'
  go_enter Try.func5, Try.ntmps5
  go_wp2_with fail
  go_loopw [5, 13] (fun vb i wr => ∃ k : Nat, k ≤ xs.length ∧ i = .int .i64 (k : Int) ∧ OwnB w.heap.size wr vb (allB (xs.take k)) ∧ Below w.heap.size w wr) (fun _ i _ => xs.length - (intOf i).toNat)
  case atStart => exact ⟨0, by omega, rfl, OwnRow.nil _ _ _ _, Below.refl _ _⟩
  case round =>
    obtain ⟨k, hk, rfl, hown, hb⟩ := hrel
    have i0 : (0 : Int) ≤ (k : Int) := by omega
    by_cases hlt : k < xs.length
    · have i1 : (k : Int) < (xs.length : Int) := by omega
      obtain ⟨b, o, rfl, hbC, hu, hn, hrow, hfit, hcell⟩ := D.out k _ (getD_get (d := default) hlt)
      have hmem : xs.getD k default ∈ xs := List.mem_of_getElem? (getD_get hlt)
      have hroom := room_le _ hmem
      have hsm := HS.out _ hmem
      have HT := Lib.hid (allB_take hlt)
      have hacc : (allB (xs.take k)).length + (xs.getD k default).room ≤ rooms xs := by
        have h1 := allB_len (xs.take k) fun x hx => HS.out x (List.mem_of_mem_take hx)
        have h2 := rooms_take xs k
        have h3 := rooms_drop hlt
        omega
      generalize xs.getD k default = x at hu hn hrow hfit hcell hroom hsm HT hacc hmem
      obtain ⟨kind, u, n, s0, lv, ll⟩ := x
      replace hrow : RowIn (Value.int .i64) 0 w.heap.size w lv ll := hrow
      have hrow' := hrow
      obtain ⟨a2, q2, rfl, -⟩ := hrow'
      have c0 := (hb.cell (p := ⟨b, o + k * 5 + 0, none⟩) hbC).trans (hcell 0 (.int .i64 kind) rfl)
      have c1 := (hb.cell (p := ⟨b, o + k * 5 + 1, none⟩) hbC).trans (hcell 1 (.int .u64 (u : Int)) rfl)
      have c2 := (hb.cell (p := ⟨b, o + k * 5 + 2, none⟩) hbC).trans (hcell 2 (.int .i64 n) rfl)
      have c3 := (hb.cell (p := ⟨b, o + k * 5 + 3, none⟩) hbC).trans (hcell 3 (.string s0) rfl)
      have c4 := (hb.cell (p := ⟨b, o + k * 5 + 4, none⟩) hbC).trans (hcell 4 (.slice a2 ll.length q2) rfl)
      rw [Nat.add_zero] at c0
      have hb0 := below_alloc1 wr (.cells #[.int .i64 kind, .int .u64 (u : Int), .int .i64 n, .string s0, .slice a2 ll.length q2] 29)
      have hbw := hb.trans (hb0.mono hb.size)
      have hok : Val.Ok (wr.alloc (.cells #[.int .i64 kind, .int .u64 (u : Int), .int .i64 n, .string s0, .slice a2 ll.length q2] 29)) ⟨kind, u, n, s0, .slice a2 ll.length q2, ll⟩ :=
        ⟨hu, hn.1, hn.2, (hrow.below hbw (Nat.le_refl _)).all, hfit⟩
      clear hmem hcell hsm
      go_wp2_with fail
      refine (lawPut _ _ ⟨kind, u, n, s0, .slice a2 ll.length q2, ll⟩ _ (hown.row.all.under hb0 (Nat.le_refl _)) hok (by omega)).mono ?_
      intro e w3 h
      obtain ⟨v3, rfl, ho3, hb3⟩ := BytesRes.trans hbw h
      go_wp2_with fail
      go_roundw
      case rel => exact ⟨k + 1, by omega, by go_num, by rw [HT.out]; exact ho3, hb3⟩
      case measure => simp [intOf]; omega
    · obtain rfl : k = xs.length := by omega
      rw [List.take_length] at hown
      have hall := allB_len xs HS.out
      have hlit := OwnRow.lit encB 5 wr [] (by simp)
      have hbl := below_alloc1 wr (.cells #[] 5)
      go_wp2_with (at_builtin; refine wpList_append_bytes (w0 := wr) rfl (.tmp 21) (.tmp 22) rfl rfl hlit rfl (hown.row.all.under hbl (Nat.le_refl _)) (by simp; omega) (by simp) hbl ?_)
      intro v1 w1 ho1 hb1
      replace ho1 : OwnB wr.heap.size w1 v1 (allB xs) := by simpa using ho1
      go_wp2_with (at_builtin; refine wpList_append_bytes (w0 := wr) rfl (.tmp 23) (.tmp 24) rfl rfl ho1 rfl (hr.under (hb.trans (hb1.mono hb.size)) (Nat.le_refl _)) (by omega) hb1.size hb1 ?_)
      intro v2 w2 ho2 hb2
      go_wp2_with fail
      refine (octNew v2 _ w2 ho2.row.all (by rw [List.length_append]; omega)).mono ?_
      rintro e w3 ⟨g, rfl, hg, hrd, hb3⟩
      have hb03 : Below w.heap.size w w3 := hb.trans ((hb2.mono hb.size).trans (hb3.mono (Nat.le_trans hb.size hb2.size)))
      have hCg : w.heap.size ≤ g := Nat.le_trans (Nat.le_trans hb.size hb2.size) hg
      have h2s := hb2.size
      clear hown hb hlit hbl ho1 hb1 ho2 hb2 hb3 hg
      generalize w2.heap.size = lo at hrd
      clear h2s
      go_wp2_with fail
      clear i0 hk
      go_loopw [29] (fun i wr => ∃ k : Nat, k ≤ xs.length ∧ i = .int .i64 (k : Int) ∧ RdO lo g wr (allB (xs.drop k) ++ rest, 0) ∧ Below w.heap.size w wr) (fun i _ => xs.length - (intOf i).toNat)
      case atStart => exact ⟨0, by omega, rfl, by simpa using hrd, hb03⟩
      case round =>
        clear hrd hb03
        obtain ⟨k, hk, rfl, hrd, hb⟩ := hrel
        have i0 : (0 : Int) ≤ (k : Int) := by omega
        by_cases hlt : k < xs.length
        · have i1 : (k : Int) < (xs.length : Int) := by omega
          obtain ⟨b, o, rfl, hbC, hu, hn, hrow, hfit, hcell⟩ := D.out k _ (getD_get (d := default) hlt)
          have hmem : xs.getD k default ∈ xs := List.mem_of_getElem? (getD_get hlt)
          have hroom := room_le _ hmem
          have hsm := HS.out _ hmem
          rw [allB_drop hlt rest] at hrd
          have hl2 : ((xs.getD k default).bytes ++ (allB (xs.drop (k + 1)) ++ rest)).length ≤ 999999999999 := by
            have h1 := allB_len (xs.drop (k + 1)) fun x hx => HS.out x (List.mem_of_mem_drop hx)
            have h2 := rooms_take xs (k + 1)
            simp only [List.length_append]
            omega
          generalize hR : allB (xs.drop (k + 1)) ++ rest = r at hrd hl2
          have HR := Lib.hid hR
          clear hR
          generalize xs.getD k default = x at hu hn hrow hfit hcell hroom hsm hrd hl2 hmem
          obtain ⟨kind, u, n, s0, lv, ll⟩ := x
          replace hrow : RowIn (Value.int .i64) 0 w.heap.size w lv ll := hrow
          have hrow' := hrow
          obtain ⟨a2, q2, rfl, -⟩ := hrow'
          have c0 := (hb.cell (p := ⟨b, o + k * 5 + 0, none⟩) hbC).trans (hcell 0 (.int .i64 kind) rfl)
          have c1 := (hb.cell (p := ⟨b, o + k * 5 + 1, none⟩) hbC).trans (hcell 1 (.int .u64 (u : Int)) rfl)
          have c2 := (hb.cell (p := ⟨b, o + k * 5 + 2, none⟩) hbC).trans (hcell 2 (.int .i64 n) rfl)
          have c3 := (hb.cell (p := ⟨b, o + k * 5 + 3, none⟩) hbC).trans (hcell 3 (.string s0) rfl)
          have c4 := (hb.cell (p := ⟨b, o + k * 5 + 4, none⟩) hbC).trans (hcell 4 (.slice a2 ll.length q2) rfl)
          rw [Nat.add_zero] at c0
          have hb0 := below_alloc1 wr (.cells #[.int .i64 kind, .int .u64 (u : Int), .int .i64 n, .string s0, .slice a2 ll.length q2] 29)
          have hbw := hb.trans (hb0.mono hb.size)
          have hok : Val.Ok (wr.alloc (.cells #[.int .i64 kind, .int .u64 (u : Int), .int .i64 n, .string s0, .slice a2 ll.length q2] 29)) ⟨kind, u, n, s0, .slice a2 ll.length q2, ll⟩ :=
            ⟨hu, hn.1, hn.2, (hrow.below hbw (Nat.le_refl _)).all, hfit⟩
          clear hmem hcell hsm
          go_wp2_with fail
          refine (lawBack ⟨kind, u, n, s0, .slice a2 ll.length q2, ll⟩ r _ hok (hrow.below hbw (Nat.le_refl _)) hCg (by omega) hl2 (hrd.past (r := none) (grownBy_below hb0) (fun k e => by cases e))).mono ?_
          rintro e w3 ⟨rfl, hr3, hg3⟩
          have hb3 := hbw.grown hg3 hbw.size (by rintro j ⟨⟩; exact hCg)
          go_wp2_with fail
          refine (octErr w3 hr3).mono ?_
          rintro e w4 ⟨rfl, rfl⟩
          go_wp2_with fail
          go_roundw
          case rel => exact ⟨k + 1, by omega, by go_num, by rw [HR.out]; exact hr3, hb3⟩
          case measure => simp [intOf]; omega
        · obtain rfl : k = xs.length := by omega
          rw [List.drop_length] at hrd
          replace hrd : RdO lo g wr (rest, 0) := hrd
          go_wp2_with fail
          refine (alive wr).mono ?_
          rintro e w3 ⟨rfl, hb3⟩
          go_wp2_with fail
          refine (octLeft w3 (hrd.past (r := none) (grownBy_below hb3) (fun k e => by cases e))).mono ?_
          rintro e w4 ⟨rfl, rfl⟩
          go_wp2_with fail
          go_ret
          exact ⟨by simp, hb.trans (hb3.mono hb.size)⟩
end Go.Proofs.Ytafdkfojimnbnaa
