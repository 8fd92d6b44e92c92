/-
  CONTRACTS OF LAYER 8 (mana): the reference's count. By an AI agent.
-/
import Derived.Test.YtcllaenanihedaaDoorManaText
import Derived.Test.YtcllaenanihedaaDoorManaWalksC
namespace Go.Proofs.YtcllaenanihedaaDoor
open Go.RowKit

theorem letterIx0 (w : World) : (Instr.index 9 (.string ⟨#[65, 67, 74, 82, 69]⟩) (.int .i64 0)).run Tryd.prog w = .ok (.int .u8 65) w := by kernel_rfl
theorem letterIx1 (w : World) : (Instr.index 9 (.string ⟨#[65, 67, 74, 82, 69]⟩) (.int .i64 1)).run Tryd.prog w = .ok (.int .u8 67) w := by kernel_rfl
theorem letterIx2 (w : World) : (Instr.index 9 (.string ⟨#[65, 67, 74, 82, 69]⟩) (.int .i64 2)).run Tryd.prog w = .ok (.int .u8 74) w := by kernel_rfl
theorem letterIx3 (w : World) : (Instr.index 9 (.string ⟨#[65, 67, 74, 82, 69]⟩) (.int .i64 3)).run Tryd.prog w = .ok (.int .u8 82) w := by kernel_rfl
theorem letterIx4 (w : World) : (Instr.index 9 (.string ⟨#[65, 67, 74, 82, 69]⟩) (.int .i64 4)).run Tryd.prog w = .ok (.int .u8 69) w := by kernel_rfl
theorem letterIx (k : Nat) (hk : k < 5) (w : World) : (Instr.index 9 (.string ⟨#[65, 67, 74, 82, 69]⟩) (.int .i64 (k : Int))).run Tryd.prog w = .ok (.int .u8 ((Mana.letter k).toNat : Int)) w := by
  match k, hk with
  | 0, _ => exact letterIx0 w
  | 1, _ => exact letterIx1 w
  | 2, _ => exact letterIx2 w
  | 3, _ => exact letterIx3 w
  | 4, _ => exact letterIx4 w
theorem byteInt {a b : UInt8} : (((a.toNat : Int) == (b.toNat : Int)) = true) ↔ a = b := by
  rw [beq_iff_eq]
  constructor
  · intro h; exact UInt8.toNat_inj.1 (by omega)
  · intro h; rw [h]
/-- what count gives -/
def symRes (c : Mana.Cst) (b : UInt8) : Value := match Mana.addSym c b with
  | some d => .tuple #[.agg #[.int .i64 d.g, .int .i64 d.x, .int .i64 d.c0, .int .i64 d.c1, .int .i64 d.c2, .int .i64 d.c3, .int .i64 d.c4], .bool true]
  | none => .tuple #[.agg #[.int .i64 c.g, .int .i64 c.x, .int .i64 c.c0, .int .i64 c.c1, .int .i64 c.c2, .int .i64 c.c3, .int .i64 c.c4], .bool false]
theorem symRes_some {c d : Mana.Cst} {b : UInt8} (h : Mana.addSym c b = some d) : symRes c b = .tuple #[.agg #[.int .i64 d.g, .int .i64 d.x, .int .i64 d.c0, .int .i64 d.c1, .int .i64 d.c2, .int .i64 d.c3, .int .i64 d.c4], .bool true] := by unfold symRes; rw [h]
theorem symRes_none {c : Mana.Cst} {b : UInt8} (h : Mana.addSym c b = none) : symRes c b = .tuple #[.agg #[.int .i64 c.g, .int .i64 c.x, .int .i64 c.c0, .int .i64 c.c1, .int .i64 c.c2, .int .i64 c.c3, .int .i64 c.c4], .bool false] := by unfold symRes; rw [h]
set_option maxHeartbeats 1000000 in
set_option maxRecDepth 100000 in
theorem refCount (c : Mana.Cst) (b : UInt8) (n : Nat) (hc : Mana.Small c n) (hn : n ≤ 1000) (w : World) :
    Calls Tryd.prog 42 #[.agg #[.int .i64 c.g, .int .i64 c.x, .int .i64 c.c0, .int .i64 c.c1, .int .i64 c.c2, .int .i64 c.c3, .int .i64 c.c4], .int .u8 (b.toNat : Int)] w fun e w' => e = .returned (symRes c b) ∧ Below w.heap.size w w' := by
  have hb := b.toNat_lt
  obtain ⟨g0, g1⟩ := hc.g
  obtain ⟨x0, x1⟩ := hc.x
  have HC := Lib.hid hc.col
  clear hc
  by_cases h88 : b = 88
  · have HS := Lib.hid (symRes_some (c := c) (b := b) (d := { c with x := c.x + 1 }) (by unfold Mana.addSym; rw [if_pos h88]))
    have t1 : ((b.toNat : Int) == 88) = true := by rw [h88]; rfl
    rw [HS.out]
    clear h88
    go_enter Tryd.func42, Tryd.ntmps42
    go_wp2
    exact bodyPost_ret (v := .tuple #[.agg #[.int .i64 { c with x := c.x + 1 }.g, .int .i64 { c with x := c.x + 1 }.x, .int .i64 { c with x := c.x + 1 }.c0, .int .i64 { c with x := c.x + 1 }.c1, .int .i64 { c with x := c.x + 1 }.c2, .int .i64 { c with x := c.x + 1 }.c3, .int .i64 { c with x := c.x + 1 }.c4], .bool true]) (by simp [results, Tryd.results42, go_sem]) rfl ⟨rfl, by go_grown⟩
  · have t1 : ((b.toNat : Int) == 88) = false := by
      rw [Bool.eq_false_iff]; intro e
      exact h88 (byteInt.1 e)
    by_cases hd : 48 ≤ b.toNat ∧ b.toNat ≤ 57
    · have HS := Lib.hid (symRes_some (c := c) (b := b) (d := { c with g := 10 * c.g + ((b.toNat : Int) - 48) }) (by unfold Mana.addSym; rw [if_neg h88, if_pos hd]))
      obtain ⟨d0, d1⟩ := hd
      have e0 : (48 : Int) ≤ (b.toNat : Int) := by omega
      have e1 : (b.toNat : Int) ≤ 57 := by omega
      rw [HS.out]
      clear h88
      go_enter Tryd.func42, Tryd.ntmps42
      go_wp2
      exact bodyPost_ret (v := .tuple #[.agg #[.int .i64 { c with g := 10 * c.g + ((b.toNat : Int) - 48) }.g, .int .i64 { c with g := 10 * c.g + ((b.toNat : Int) - 48) }.x, .int .i64 { c with g := 10 * c.g + ((b.toNat : Int) - 48) }.c0, .int .i64 { c with g := 10 * c.g + ((b.toNat : Int) - 48) }.c1, .int .i64 { c with g := 10 * c.g + ((b.toNat : Int) - 48) }.c2, .int .i64 { c with g := 10 * c.g + ((b.toNat : Int) - 48) }.c3, .int .i64 { c with g := 10 * c.g + ((b.toNat : Int) - 48) }.c4], .bool true]) (by simp [results, Tryd.results42, go_sem]) rfl ⟨rfl, by go_grown⟩
    · have HA : Hid (Mana.addSym c b = (Mana.findL b 0 5).map fun k => c.setCol k (c.col k + 1)) := Lib.hid (by unfold Mana.addSym; rw [if_neg h88, if_neg hd])
      have hd' : (b.toNat : Int) < 48 ∨ 57 < (b.toNat : Int) := by omega
      clear hd h88
      rcases hd' with hd' | hd'
      all_goals
        go_enter Tryd.func42, Tryd.ntmps42
        go_wp2
        go_loop [6] (fun i => ∃ k : Nat, k ≤ 5 ∧ i = .int .i64 (k : Int) ∧ Hid (Mana.findL b 0 5 = Mana.findL b k (5 - k))) (fun i => 5 - (intOf i).toNat)
        case atStart => exact ⟨0, by omega, rfl, Lib.hid rfl⟩
        case round =>
          obtain ⟨k, hk, rfl, HF⟩ := hrel
          by_cases hlt : k < 5
          · have hi := letterIx k hlt
            have HF5 : Hid (Mana.findL b 0 5 = if Mana.letter k = b then some k else Mana.findL b (k + 1) (5 - (k + 1))) := Lib.hid (by rw [HF.out, show 5 - k = (5 - (k + 1)) + 1 by omega]; rfl)
            obtain ⟨n0, n1⟩ := HC.out k
            by_cases hl : Mana.letter k = b
            · have HS := Lib.hid (symRes_some (c := c) (b := b) (d := c.setCol k (c.col k + 1)) (by rw [HA.out, HF5.out, if_pos hl]; rfl))
              have t2 : (((Mana.letter k).toNat : Int) == (b.toNat : Int)) = true := byteInt.2 hl
              clear hl
              have hcc : ((w.alloc (.cells #[.int .i64 c.g, .int .i64 c.x, .int .i64 c.c0, .int .i64 c.c1, .int .i64 c.c2, .int .i64 c.c3, .int .i64 c.c4] 24)).alloc (.cells #[.int .i64 0, .int .i64 0, .int .i64 0, .int .i64 0, .int .i64 0, .int .i64 0, .int .i64 0] 24)).cell? ⟨w.heap.size, 2 + k, none⟩ = some (.int .i64 (c.col k)) := by
                rw [cell_old _ (by simp), costCell c k hlt]
              have hst := fun v => setCost c k hlt v
              go_wp2
              rw [HS.out]
              exact bodyPost_ret (v := .tuple #[.agg #[.int .i64 (c.setCol k (c.col k + 1)).g, .int .i64 (c.setCol k (c.col k + 1)).x, .int .i64 (c.setCol k (c.col k + 1)).c0, .int .i64 (c.setCol k (c.col k + 1)).c1, .int .i64 (c.setCol k (c.col k + 1)).c2, .int .i64 (c.setCol k (c.col k + 1)).c3, .int .i64 (c.setCol k (c.col k + 1)).c4], .bool true]) (by simp [results, Tryd.results42, go_sem]) rfl ⟨rfl, by go_grown⟩
            · have t2 : (((Mana.letter k).toNat : Int) == (b.toNat : Int)) = false := by
                rw [Bool.eq_false_iff]; intro e; exact hl (byteInt.1 e)
              have HG := Lib.hid (show Mana.findL b 0 5 = Mana.findL b (k + 1) (5 - (k + 1)) by rw [HF5.out, if_neg hl])
              clear hl
              go_wp2
              go_round
              case rel => exact ⟨k + 1, by omega, by go_num, HG⟩
              case measure => simp [intOf]; omega
          · obtain rfl : k = 5 := by omega
            have HS := Lib.hid (symRes_none (c := c) (b := b) (by rw [HA.out, HF.out]; rfl))
            go_wp2
            rw [HS.out]
            exact bodyPost_ret (v := .tuple #[.agg #[.int .i64 c.g, .int .i64 c.x, .int .i64 c.c0, .int .i64 c.c1, .int .i64 c.c2, .int .i64 c.c3, .int .i64 c.c4], .bool false]) (by simp [results, Tryd.results42, go_sem]) rfl ⟨rfl, by go_grown⟩
end Go.Proofs.YtcllaenanihedaaDoor
