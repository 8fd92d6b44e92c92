/-
  THE REFERENCE: the contract of Order. By an AI agent.
-/
import Derived.Test.YtkocfhacfmlmaaaDepRefB
namespace Go.Proofs.Ytkocfhacfmlmaaa
open Go.RowKit

/-- 's = append(s, x)', and where the new row lies -/
theorem wpList_push_int_at {B : Nat} {w : World} {v : Value} {ops : Array Oper} {rest : List Oper} {o : Oper} {a : Act} {Q : Exit → Act → World → Prop} {l : List Int} (hgd : o.guard = none) (s x : Operand) (ho : o.op = .call { callee := .builtin .append, args := #[s, x], argTypes := #[22, 22] })
    (hs : a.eval s = v) (hown : OwnI B w v l) (k : Int) {ek : Value} (hk : ek = encI k) (hx : a.eval x = .slice (some ⟨w.heap.size, 0, none⟩) 1 1) (hlen : l.length + 1 ≤ 1000000000000) (hB : B ≤ w.heap.size)
    (h : ∀ v' w', OwnI B w' v' (l ++ [k]) → w.grownBy w' v.ownBlock → (∀ g, v'.ownBlock = some g → v.ownBlock = some g ∨ w.heap.size ≤ g) → wpList Try.prog ops Q rest (a.put o.dst v') w') : wpList Try.prog ops Q (o :: rest) a (w.alloc (.cells #[ek] 3)) := by
  subst hk
  obtain ⟨i0, hi, hz0, hz1, hz2⟩ := info_parts infoI
  refine wpList_append_own_at _ hgd s x 22 ho B 3 i0 (.int .i64 0) 1 8 Try.underlying22 hi hz0 hz1 hz2 rfl (by decide) v l.length (l.map encI) hs (World.ownsRow.alloc hown _) ⟨w.heap.size, 0, none⟩ 1 1 [encI k] hx rfl (cell_one_new _ _ _) (ints_oneCell .i64 [k]) (by unfold maxLen; omega) (by omega) (by simp; omega) ?_
  intro v' w' h1 h2 _ h4
  refine h v' w' ?_ (grownBy_behind h2) fun g hg => ?_
  · unfold OwnI OwnRow
    simpa using h1
  · rcases h4 with h4 | h4
    · exact .inl (h4 ▸ hg)
    · rw [h4] at hg
      have := Option.some.inj hg
      simp at this
      exact .inr (by omega)
/-- the reference's order under way -/
def RordAt (n : Nat) (st : List Int) (M : List (List Bool)) (w : World) (vl vo i : Value) (wr : World) : Prop :=
  ∃ (k : Nat) (lf pre : List Int), k ≤ n ∧ i = .int .i64 (k : Int) ∧ OwnI w.heap.size wr vl lf ∧ OwnI w.heap.size wr vo pre ∧ (∀ g, vl.ownBlock = some g → vo.ownBlock ≠ some g) ∧ Dep.Good lf ∧ lf.length = n - k ∧ pre.length = k ∧
    pre ++ Dep.orderF st M (n - k) lf = Dep.orderS st M ∧ Below w.heap.size w wr
/-- the rest under way -/
def RestAt (w6 : World) (lf : List Int) (x : Int) (vs i : Value) (wr : World) : Prop :=
  ∃ j : Nat, j ≤ lf.length ∧ i = .int .i64 (j : Int) ∧ OwnI w6.heap.size wr vs ((lf.take j).filter fun y => y != x) ∧ Below w6.heap.size w6 wr
theorem RordAt.next {n k : Nat} {st : List Int} {M : List (List Bool)} {w w6 wr : World} {vr vo : Value} {lf pre : List Int} (hk : k < n) (hg : Dep.Good lf) (hl : lf.length = n - k) (hp : pre.length = k)
    (he : pre ++ Dep.orderF st M (n - k) lf = Dep.orderS st M) (hb : Below w.heap.size w w6) (ho : OwnI w.heap.size w6 vo (pre ++ [Dep.nextS lf st M])) (hr : OwnI w6.heap.size wr vr (lf.filter fun y => y != Dep.nextS lf st M)) (hb6 : Below w6.heap.size w6 wr) :
    RordAt n st M w vr vo (.int .i64 ((k : Int) + 1)) wr := by
  have hne : lf ≠ [] := fun e => by rw [e] at hl; simp at hl; omega
  have hm := Dep.nextS_mem (st := st) (M := M) hg hne
  have hrl := Dep.rest_length hg.1 hm
  refine ⟨k + 1, _, _, hk, rfl, hr.mono hb.size, ho.below hb6 (Nat.le_refl _), fun g h1 h2 => ?_, Dep.rest_good _ hg, by omega, by simp [hp], ?_, hb.trans (hb6.mono hb.size)⟩
  · have e1 := (hr.blk g h1).1
    have e2 := (ho.blk g h2).2
    omega
  · rw [← he, List.append_assoc]
    have e : n - k = (n - (k + 1)) + 1 := by omega
    rw [e, Dep.orderF]
    rfl
set_option maxHeartbeats 1500000 in
set_option maxRecDepth 100000 in
theorem refOrder (w : World) (sv nv : Value) (st : List Int) (M : List (List Bool)) (hs : Ints w sv st) (hM : Grid encB 0 w.heap.size w nv M) (hsm : st.length ≤ 1000000) :
    Calls Try.prog 17 #[sv, nv] w (IntsRes (Dep.orderS st M) w) := by
  have HS := Lib.hid hs
  have HM := Lib.hid hM
  obtain ⟨a, cap, rfl, hc1, hc2, -⟩ := hs
  obtain ⟨a2, cap2, rfl, -⟩ := hM.len
  unfold maxLen at hc2
  clear hM
  go_enter Try.func17, Try.ntmps17
  go_wp2_with fail
  go_loopw [5, 7] (fun vs i wr => ∃ k : Nat, k ≤ st.length ∧ i = .int .i64 (k : Int) ∧ OwnI w.heap.size wr vs (Dep.idx k) ∧ Below w.heap.size w wr) (fun _ i _ => st.length - (intOf i).toNat)
  case atStart => exact ⟨0, Nat.zero_le _, rfl, OwnRow.nil _ _ _ _, Below.refl _ _⟩
  case round =>
    obtain ⟨k, hk, rfl, ho, hb⟩ := hrel
    by_cases hlt : k < st.length
    · have i1 : (k : Int) < (st.length : Int) := by omega
      have hil := Dep.idx_length k
      have hsz := hb.size
      go_wp2_with (refine wpList_push_int rfl (.tmp 18) (.tmp 20) rfl rfl ho (k : Int) rfl rfl (by omega) hsz hb ?_)
      intro v1 w1 ho1 hb1
      have HO := Lib.hid ho1
      have HB := Lib.hid hb1
      clear ho hb ho1 hb1
      go_wp2_with fail
      go_roundw
      case rel => exact ⟨k + 1, hlt, by go_num, by rw [Dep.idx_succ]; exact HO.out, HB.out⟩
      case measure => simp [intOf]; omega
    · obtain rfl : k = st.length := by omega
      have HO := Lib.hid ho
      have HB := Lib.hid hb
      clear ho hb
      go_wp2_with fail
      go_loopw [5, 6, 8] (fun vl vo i wx => RordAt st.length st M w vl vo i wx) (fun _ _ i _ => st.length - (intOf i).toNat)
      case atStart => exact ⟨0, Dep.idx st.length, [], Nat.zero_le _, rfl, HO.out, OwnRow.nil _ _ _ _, fun g _ h => (by cases h), Dep.idx_good _, by rw [Dep.idx_length, Nat.sub_zero], rfl, by rw [List.nil_append, Nat.sub_zero]; rfl, HB.out⟩
      case round =>
        clear HO HB hlt hk
        obtain ⟨m, lf, pre, hm, rfl, hvl, hvo, hsep, hg, hll, hpl, he, hb⟩ := hrel
        have HVO := Lib.hid hvo
        have HB := Lib.hid hb
        by_cases hlt : m < st.length
        · have i1 : (m : Int) < (st.length : Int) := by omega
          have HNX := Lib.hid (fun (w6 wr : World) (vr vo : Value) hb6 ho6 hr6 hb7 => RordAt.next (w := w) (w6 := w6) (wr := wr) (vr := vr) (vo := vo) hlt hg hll hpl he hb6 ho6 hr6 hb7)
          have HC := Lib.hid (refNext wr _ _ (.slice a2 M.length cap2) lf st M hvl.row.all (HS.out.under hb (Nat.le_refl _)) (HM.out.under hb (Nat.le_refl _)) (by omega))
          have HVL := Lib.hid hvl
          have HSEP := Lib.hid hsep
          obtain ⟨al, cl, rfl, hl1, hl2, -, -⟩ := hvl.row
          unfold maxLen at hl2
          generalize Dep.nextS lf st M = x at *
          have hlf : lf.length ≤ st.length := by omega
          have hpf : pre.length ≤ st.length := by omega
          clear hvl hvo hsep hg he hb hll hpl
          go_wp2_with fail
          refine HC.out.mono ?_
          rintro e w2 ⟨rfl, hb2⟩
          have ho2 := HVO.out.below hb2 (Nat.le_refl _)
          have HB2 := Lib.hid (HB.out.trans (hb2.mono HB.out.size))
          have HB12 := Lib.hid hb2
          have hsz2 := HB2.out.size
          clear HC hb2
          go_wp2_with (refine wpList_push_int_at rfl (.tmp 32) (.tmp 34) rfl rfl ho2 x rfl rfl (by omega) hsz2 ?_)
          intro v6 w6 ho6 hg6 hloc
          have HO6 := Lib.hid ho6
          have HB6 := Lib.hid (HB2.out.grown hg6 hsz2 (fun j hj => (ho2.blk j hj).1))
          have HL6 : Hid (OwnI w.heap.size w6 (.slice al lf.length cl) lf) := Lib.hid ((HVL.out.below HB12.out (Nat.le_refl _)).stay fun j hj => hg6.block j (by have := (HVL.out.blk j hj).2; have := HB12.out.size; omega) (fun e => HSEP.out j hj e.symm))
          clear ho6 hg6 hloc ho2
          go_wp2_with fail
          go_loopw [10, 11] (fun vs i wx => RestAt w6 lf x vs i wx) (fun _ i _ => lf.length - (intOf i).toNat)
          case atStart => exact ⟨0, Nat.zero_le _, rfl, OwnRow.nil _ _ _ _, Below.refl _ _⟩
          case round =>
            obtain ⟨j, hj, rfl, ho, hb⟩ := hrel
            have HO := Lib.hid ho
            have HBJ := Lib.hid hb
            by_cases hlt2 : j < lf.length
            · have i2 : (j : Int) < (lf.length : Int) := by omega
              have hji : (0 : Int) ≤ (j : Int) ∧ (j : Int) < (lf.length : Int) := by omega
              obtain ⟨gl, rfl, -, hgl, hcy, -, -⟩ := HL6.out.place 0 hlt2
              have cy : wr.cell? ⟨gl, j, none⟩ = some (.int .i64 (lf.getD j 0)) := (hb.cell (p := ⟨gl, j, none⟩) hgl).trans hcy
              have HST := Lib.hid (filter_take (fun y => y != x) hlt2)
              have hfl : ((lf.take j).filter fun y => y != x).length ≤ lf.length := Nat.le_trans (List.length_filter_le _ _) (by simp; omega)
              have hsz := hb.size
              generalize lf.getD j 0 = y at *
              clear hcy ho
              cases hyx : (y != x) with
              | true =>
                have HS2 : Hid ((lf.take (j + 1)).filter (fun y => y != x) = (lf.take j).filter (fun y => y != x) ++ [y]) := Lib.hid (by rw [HST.out, if_pos hyx])
                clear HST
                go_wp2_with (refine wpList_push_int rfl (.tmp 48) (.tmp 53) rfl rfl HO.out y rfl rfl (by omega) hsz hb ?_)
                intro v9 w9 ho9 hb9
                have HO9 := Lib.hid ho9
                have HB9 := Lib.hid hb9
                clear ho9 hb9 hb
                go_wp2_with fail
                go_roundw
                case rel => exact ⟨j + 1, hlt2, by go_num, by rw [HS2.out]; exact HO9.out, HB9.out⟩
                case measure => simp [intOf]; omega
              | false =>
                have HS2 : Hid ((lf.take (j + 1)).filter (fun y => y != x) = (lf.take j).filter (fun y => y != x)) := Lib.hid (by rw [HST.out, if_neg (by rw [hyx]; simp)])
                clear HST hb
                go_wp2_with fail
                go_roundw
                case rel => exact ⟨j + 1, hlt2, by go_num, by rw [HS2.out]; exact HO.out, HBJ.out⟩
                case measure => simp [intOf]; omega
            · obtain rfl : j = lf.length := by omega
              rw [List.take_length] at HO
              have HREL := Lib.hid (HNX.out w6 wr _ v6 HB6.out HO6.out HO.out HBJ.out)
              clear ho hb HNX
              go_wp2_with fail
              go_roundw
              case rel => exact HREL.out
              case measure => simp [intOf]; omega
        · obtain rfl : m = st.length := by omega
          have HP : Hid (pre = Dep.orderS st M) := Lib.hid (by rw [← he, Nat.sub_self, Dep.orderF, List.append_nil])
          clear hvl hvo hsep hg he hb hll hpl
          go_wp2_with fail
          go_ret
          exact ⟨_, rfl, by rw [← HP.out]; exact HVO.out, HB.out⟩
end Go.Proofs.Ytkocfhacfmlmaaa
