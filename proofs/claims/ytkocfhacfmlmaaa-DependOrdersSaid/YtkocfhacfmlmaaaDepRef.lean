/-
  THE REFERENCE: the contracts of has, elements, need, reached. By an AI agent.
-/
import Derived.Test.YtkocfhacfmlmaaaDepProg
import Derived.BigQuiet
namespace Go.Proofs.Ytkocfhacfmlmaaa
open Go.RowKit

theorem mem_take_none {l : List Int} {x : Int} (h : ∀ j, j < l.length → l.getD j 0 ≠ x) : x ∉ l := fun hx => by
  obtain ⟨j, hj, rfl⟩ := List.getElem_of_mem hx
  have := h j hj
  simp [List.getD, hj] at this
set_option maxHeartbeats 1000000 in
set_option maxRecDepth 100000 in
theorem refHas (w : World) (v : Value) (l : List Int) (x : Int) (hv : Ints w v l) :
    Calls Try.prog 23 #[v, .int .i64 x] w fun e w' => e = .returned (.bool (decide (x ∈ l))) ∧ w' = w := by
  obtain ⟨a, c, rfl, hc1, hc2, -, hd⟩ := hv
  unfold maxLen at hc2
  have D := Lib.hid hd
  clear hd
  go_enter Try.func23, Try.ntmps23
  go_wp2
  go_loop [5] (fun i => ∃ k : Nat, k ≤ l.length ∧ i = .int .i64 (k : Int) ∧ Hid (∀ j, j < k → l.getD j 0 ≠ x)) (fun i => l.length - (intOf i).toNat)
  case atStart => exact ⟨0, by omega, rfl, Lib.hid (fun j hj => by omega)⟩
  case round =>
    obtain ⟨k, hk, rfl, HE⟩ := hrel
    by_cases hlt : k < l.length
    · have i1 : (k : Int) < (l.length : Int) := by omega
      have hki : (0 : Int) ≤ (k : Int) ∧ (k : Int) < (l.length : Int) := by omega
      obtain ⟨b1, o1, rfl, -, -, -, hcell⟩ := D.out k _ (getD_get (d := 0) hlt)
      have c1 : w.cell? ⟨b1, o1 + k, none⟩ = some (.int .i64 (l.getD k 0)) := hcell
      have hm : l.getD k 0 ∈ l := getD_mem hlt
      have HM := Lib.hid hm
      clear hcell hm
      by_cases hx : l.getD k 0 = x
      · have HD : Hid (decide (x ∈ l) = true) := Lib.hid (by rw [← hx]; exact decide_eq_true HM.out)
        have t1 : (l.getD k 0 == x) = true := by rw [hx]; simp
        clear hx
        generalize l.getD k 0 = y at *
        go_wp2
        go_ret
        exact ⟨ret_bool HD.out.symm, rfl⟩
      · have HE' : Hid (∀ j, j < k + 1 → l.getD j 0 ≠ x) := Lib.hid fun j hj => by
          by_cases e : j = k
          · rw [e]; exact hx
          · exact HE.out j (by omega)
        have t1 : (l.getD k 0 == x) = false := by simp only [beq_eq_false_iff_ne]; exact hx
        clear hx
        generalize l.getD k 0 = y at *
        go_wp2
        go_round
        case rel => exact ⟨k + 1, by omega, by go_num, HE'⟩
        case measure => simp [intOf]; omega
    · obtain rfl : k = l.length := by omega
      have HD : Hid (decide (x ∈ l) = false) := Lib.hid (decide_eq_false (mem_take_none HE.out))
      go_wp2
      go_ret
      exact ⟨ret_bool HD.out.symm, rfl⟩
/-- elements under way -/
def ElemAt (w : World) (left : List Int) (vs i : Value) (wr : World) : Prop :=
  ∃ (k : Nat) (out : List Int), k ≤ left.length ∧ i = .int .i64 (k : Int) ∧ OwnI w.heap.size wr vs out ∧ out.length ≤ k ∧ Dep.elemS out (left.drop k) = Dep.elemS [] left ∧ Below w.heap.size w wr
set_option maxHeartbeats 2000000 in
set_option maxRecDepth 100000 in
theorem refElements (w : World) (v : Value) (left : List Int) (hv : Ints w v left) (hsm : left.length ≤ 1000000) :
    Calls Try.prog 21 #[v] w (IntsRes (Dep.elemS [] left) w) := by
  obtain ⟨a, c, rfl, hc1, hc2, -, hd⟩ := hv
  unfold maxLen at hc2
  have D := Lib.hid hd
  clear hd
  go_enter Try.func21, Try.ntmps21
  go_wp2_with fail
  go_loopw [3, 4] (fun vs i wr => ElemAt w left vs i wr) (fun _ i _ => left.length - (intOf i).toNat)
  case atStart => exact ⟨0, [], Nat.zero_le _, rfl, OwnRow.nil _ _ _ _, Nat.le_refl _, rfl, Below.refl _ _⟩
  case round =>
    obtain ⟨k, out, hk, rfl, ho, hl, he, hb⟩ := hrel
    by_cases hlt : k < left.length
    · have i1 : (k : Int) < (left.length : Int) := by omega
      have hki : (0 : Int) ≤ (k : Int) ∧ (k : Int) < (left.length : Int) := by omega
      obtain ⟨b1, o1, rfl, -, -, hq, hcell⟩ := D.out k _ (getD_get (d := 0) hlt)
      have c1 : wr.cell? ⟨b1, o1 + k, none⟩ = some (.int .i64 (left.getD k 0)) := (hb.cell hq).trans hcell
      have HST := Lib.hid (elemS_step (out := out) hlt)
      have HE := Lib.hid he
      have HH := Lib.hid (refHas wr _ out (left.getD k 0) ho.row.all)
      have HO := Lib.hid ho
      have HB := Lib.hid hb
      obtain ⟨a3, cap3, rfl, -, -, -, -⟩ := ho.row
      generalize left.getD k 0 = x at *
      have hsz := hb.size
      clear hcell he
      by_cases hx0 : 0 ≤ x
      · by_cases hxm : x ∈ out
        · have HREL : Hid (Dep.elemS out (left.drop (k + 1)) = Dep.elemS [] left) := Lib.hid (by rw [← HE.out, HST.out, if_neg (fun h => h.2 hxm)])
          rw [decide_eq_true hxm] at HH
          clear hxm ho hb
          go_wp2_with fail
          refine HH.out.mono ?_
          rintro e w2 ⟨rfl, rfl⟩
          go_wp2_with fail
          go_roundw
          case rel => exact ⟨k + 1, out, hlt, by go_num, HO.out, by omega, HREL.out, HB.out⟩
          case measure => simp [intOf]; omega
        · have HREL : Hid (Dep.elemS (out ++ [x]) (left.drop (k + 1)) = Dep.elemS [] left) := Lib.hid (by rw [← HE.out, HST.out, if_pos ⟨hx0, hxm⟩])
          rw [decide_eq_false hxm] at HH
          clear hxm ho
          go_wp2_with fail
          refine HH.out.mono ?_
          rintro e w2 ⟨rfl, rfl⟩
          go_wp2_with (refine wpList_push_int rfl (.tmp 25) (.tmp 30) rfl rfl HO.out x rfl rfl (by omega) hsz hb ?_)
          intro v6 w6 ho6 hb6
          have HO6 := Lib.hid ho6
          have HB6 := Lib.hid hb6
          clear ho6 hb6 hb
          go_wp2_with fail
          go_roundw
          case rel => exact ⟨k + 1, out ++ [x], hlt, by go_num, HO6.out, by simp; omega, HREL.out, HB6.out⟩
          case measure => simp [intOf]; omega
      · have HREL : Hid (Dep.elemS out (left.drop (k + 1)) = Dep.elemS [] left) := Lib.hid (by rw [← HE.out, HST.out, if_neg (fun h => hx0 h.1)])
        clear ho hb HH
        go_wp2_with fail
        go_roundw
        case rel => exact ⟨k + 1, out, hlt, by go_num, HO.out, by omega, HREL.out, HB.out⟩
        case measure => simp [intOf]; omega
    · obtain rfl : k = left.length := by omega
      have HE : Hid (out = Dep.elemS [] left) := Lib.hid (by rw [← he, List.drop_length]; rfl)
      go_wp2_with fail
      go_ret
      exact ⟨_, rfl, by rw [← HE.out]; exact ho, hb⟩
theorem needS_row {M : List (List Bool)} {i j : Nat} : Dep.needS M (i : Int) (j : Int) = (M.getD i []).getD j false := by
  have e1 : ((i : Nat) : Int).toNat = i := by omega
  have e2 : ((j : Nat) : Int).toNat = j := by omega
  unfold Dep.needS
  rw [e1, e2]
  simp
set_option maxHeartbeats 1000000 in
set_option maxRecDepth 100000 in
theorem refNeed (w : World) (nv : Value) (M : List (List Bool)) (x y : Int) (hx : 0 ≤ x) (hy : 0 ≤ y) (hM : Grid encB 0 w.heap.size w nv M) :
    Calls Try.prog 22 #[nv, .int .i64 x, .int .i64 y] w fun e w' => e = .returned (.bool (Dep.needS M x y)) ∧ w' = w := by
  obtain ⟨i, rfl⟩ : ∃ n : Nat, x = (n : Int) := ⟨x.toNat, by omega⟩
  obtain ⟨j, rfl⟩ : ∃ n : Nat, y = (n : Int) := ⟨y.toNat, by omega⟩
  rw [needS_row]
  have HM := Lib.hid hM
  obtain ⟨a, cap, rfl, hc, -⟩ := hM.len
  unfold maxLen at hc
  clear hM
  by_cases hi : i < M.length
  · have i1 : (i : Int) < (M.length : Int) := by omega
    have hii : (0 : Int) ≤ (i : Int) ∧ (i : Int) < (M.length : Int) := by omega
    obtain ⟨b, o, hd, rfl, -, -, hb, cr, hr⟩ := HM.out.row hi
    obtain ⟨ar, cr2, ehd, h1, h2, -, hcell⟩ := hr
    unfold maxLen at h2
    rw [ehd] at cr
    by_cases hj : j < (M.getD i []).length
    · have i2 : (j : Int) < ((M.getD i []).length : Int) := by omega
      have hjj : (0 : Int) ≤ (j : Int) ∧ (j : Int) < ((M.getD i []).length : Int) := by omega
      obtain ⟨b1, o1, rfl, -, -, -, c1⟩ := hcell j _ (getD_get (d := false) hj)
      replace c1 : w.cell? ⟨b1, o1 + j, none⟩ = some (.bool ((M.getD i []).getD j false)) := c1
      generalize (M.getD i []).getD j false = z at c1 ⊢
      generalize (M.getD i []).length = n at *
      clear hcell ehd
      go_enter Try.func22, Try.ntmps22
      go_wp2
      go_ret
      exact ⟨rfl, rfl⟩
    · have i2 : ¬ (j : Int) < ((M.getD i []).length : Int) := by omega
      have HZ : Hid ((M.getD i []).getD j false = false) := Lib.hid (by rw [List.getD_eq_getElem?_getD, List.getElem?_eq_none (by omega)]; rfl)
      generalize (M.getD i []).getD j false = z at HZ ⊢
      generalize (M.getD i []).length = n at *
      clear hcell ehd
      go_enter Try.func22, Try.ntmps22
      go_wp2
      go_ret
      exact ⟨ret_bool HZ.out.symm, rfl⟩
  · have i1 : ¬ (i : Int) < (M.length : Int) := by omega
    have HZ : Hid ((M.getD i []).getD j false = false) := Lib.hid (by
      have e : M.getD i [] = [] := by rw [List.getD_eq_getElem?_getD, List.getElem?_eq_none (by omega)]; rfl
      rw [e]
      rfl)
    generalize (M.getD i []).getD j false = z at HZ ⊢
    go_enter Try.func22, Try.ntmps22
    go_wp2
    go_ret
    exact ⟨ret_bool HZ.out.symm, rfl⟩
end Go.Proofs.Ytkocfhacfmlmaaa
