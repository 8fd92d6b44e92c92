/-
  THE LAWS OF LAYER 13: Back, for every filter and every string. By an AI agent.
-/
import Derived.Test.YtboealolklojiaaDoorFilBack
import Derived.Test.YtboealolklojiaaDoorFilParseC
namespace Go.Proofs.YtboealolklojiaaDoor
open Go.RowKit
open Wd (Bs)

theorem empty_text {tx : ByteArray} {t : Bs} (h : tx.data.toList = t) : tx.toList.isEmpty = t.isEmpty := by
  rw [← h, Lib.toList_data]
theorem parse_empty : Fil.parseE [] = 3 := by
  rcases Fil.parse_cases [] with ⟨_, h⟩ | ⟨g, h0, h1, _, _⟩
  · exact h
  · exact absurd h1 (Fil.textF_ne h0)
set_option maxRecDepth 100000 in
theorem lawFilterBack (f : Fil.Flt) (fs s : ByteArray) (hf : f.sub = fs.data.toList) (hfs : fs.size ≤ maxLen) (w : World) (hE : Env w) :
    Calls Tryd.prog 3 #[.agg #[.int .i64 f.zone, .int .i64 f.who, .int .i64 f.self, .int .i64 f.types, .int .i64 f.ntypes, .int .i64 f.colors, .int .i64 f.ncolors, .string fs, .int .i64 f.keys, .int .i64 f.tap, .int .i64 f.pow.kind, .int .i64 f.pow.n, .int .i64 f.tough.kind, .int .i64 f.tough.n, .int .i64 f.val.kind, .int .i64 f.val.n], .string s] w fun e w' => e = .returned (.bool true) ∧ Below w.heap.size w w' := by
  by_cases hl : s.size ≤ 600
  · obtain ⟨tx, htx, etx⟩ := exists_bytes (Fil.textF f)
    have GT : Hid (∀ W, Env W → Calls Tryd.prog 7 #[.agg #[.int .i64 f.zone, .int .i64 f.who, .int .i64 f.self, .int .i64 f.types, .int .i64 f.ntypes, .int .i64 f.colors, .int .i64 f.ncolors, .string fs, .int .i64 f.keys, .int .i64 f.tap, .int .i64 f.pow.kind, .int .i64 f.pow.n, .int .i64 f.tough.kind, .int .i64 f.tough.n, .int .i64 f.val.kind, .int .i64 f.val.n]] W fun e w' => e = .returned (.string tx) ∧ Below W.heap.size W w') := Lib.hid fun W hW => by rw [← etx]; exact filText f fs hf hfs W hW
    have PS := fun W hW => filParse s W (by omega) hW
    have hcs : Fil.parseE s.data.toList = 3 ∨ ∃ (b : Fil.Acc) (gs : ByteArray), Fil.validB b.flt = true ∧ Fil.textF b.flt = s.data.toList ∧ b.sub = gs.data.toList ∧ Fil.parseV s.data.toList = b.flt ∧ Fil.parseE s.data.toList = 0 ∧ gs.size ≤ maxLen := by
      rcases Fil.parse_cases s.data.toList with ⟨_, h⟩ | ⟨g, h0, h1, h2, h3⟩
      · exact .inl h
      · obtain ⟨b, rfl⟩ := acc_of h0
        obtain ⟨gs, hgs, _⟩ := exists_bytes b.sub
        refine .inr ⟨b, gs, h0, h1, hgs.symm, h2, h3, ?_⟩
        have h5 := sub_len (Fil.valid_of h0).sub
        have h6 : gs.size = gs.data.toList.length := by simp
        rw [h6, hgs]
        unfold maxLen
        have h8 : (b.flt).sub = b.sub := rfl
        rw [h8] at h5
        omega
    cases hv : Fil.validB f with
    | true =>
      obtain ⟨a, rfl⟩ := acc_of hv
      have hne : tx.toList.isEmpty = !true := by
        rw [empty_text htx]
        cases h : Fil.textF a.flt with
        | nil => exact absurd h (Fil.textF_ne hv)
        | cons => rfl
      have hlen : tx.size ≤ 1000000 := by
        have h1 := textF_len hv
        have h6 : tx.size = tx.data.toList.length := by simp
        rw [h6, htx]; omega
      have GI : Hid (∀ W, Env W → Calls Tryd.prog 9 #[.agg (cellsA a fs)] W fun e w' => e = .returned (.bool true) ∧ Below W.heap.size W w') := Lib.hid fun W hW => by
        have h := filIs a.flt fs hf hfs W hW
        rw [hv] at h; exact h
      have hpt := Fil.parse_text hv
      have GP : Hid (∀ W, Env W → Calls Tryd.prog 8 #[.string tx] W fun e w' => e = .returned (.tuple #[.agg (cellsA a fs), .int .i64 0]) ∧ Below W.heap.size W w') := Lib.hid fun W hW =>
        (filParse tx W hlen hW).mono fun e w' h => parseRes_yes hf (by rw [htx]; exact hpt.1) (by rw [htx]; exact hpt.2) h
      rcases hcs with h3 | ⟨b, gs, h0, h1, hgs, h2, h3, hgm⟩
      · exact backTF (cellsA a fs) (cellsA_one _ _) rfl tx s hl w hE GI GT GP (Lib.hid fun W hW => (PS W hW).mono fun e w' => parseRes_no h3) (fun W => run_eq_self a fs hf W) (fun W => run_eq_zero W) hne
      · exact backTT (cellsA a fs) (cellsA_one _ _) rfl tx (cellsA b gs) (cellsA_one _ _) rfl s hl w hE GI GT GP (Lib.hid fun W hW => (PS W hW).mono fun e w' => parseRes_yes hgs h2 h3)
          (Lib.hid fun W hW => by have h := filIs b.flt gs hgs hgm W hW; rw [h0] at h; exact h) (Lib.hid fun W hW => by have h := filText b.flt gs hgs hgm W hW; rw [h1] at h; exact h) (fun W => run_eq_self a fs hf W) hne
    | false =>
      have hne : tx.toList.isEmpty = !false := by rw [empty_text htx, Fil.textF_bad hv]; rfl
      have hlen : tx.size ≤ 1000000 := by
        have h6 : tx.size = tx.data.toList.length := by simp
        rw [h6, htx, Fil.textF_bad hv]; decide
      have GI : Hid (∀ W, Env W → Calls Tryd.prog 9 #[.agg #[.int .i64 f.zone, .int .i64 f.who, .int .i64 f.self, .int .i64 f.types, .int .i64 f.ntypes, .int .i64 f.colors, .int .i64 f.ncolors, .string fs, .int .i64 f.keys, .int .i64 f.tap, .int .i64 f.pow.kind, .int .i64 f.pow.n, .int .i64 f.tough.kind, .int .i64 f.tough.n, .int .i64 f.val.kind, .int .i64 f.val.n]] W fun e w' => e = .returned (.bool false) ∧ Below W.heap.size W w') := Lib.hid fun W hW => by
        have h := filIs f fs hf hfs W hW
        rw [hv] at h; exact h
      have GP : Hid (∀ W, Env W → Calls Tryd.prog 8 #[.string tx] W fun e w' => e = .returned (.tuple #[.agg cellsZ, .int .i64 3]) ∧ Below W.heap.size W w') := Lib.hid fun W hW =>
        (filParse tx W hlen hW).mono fun e w' h => parseRes_no (by rw [htx, Fil.textF_bad hv]; exact parse_empty) h
      have hone : (#[.int .i64 f.zone, .int .i64 f.who, .int .i64 f.self, .int .i64 f.types, .int .i64 f.ntypes, .int .i64 f.colors, .int .i64 f.ncolors, .string fs, .int .i64 f.keys, .int .i64 f.tap, .int .i64 f.pow.kind, .int .i64 f.pow.n, .int .i64 f.tough.kind, .int .i64 f.tough.n, .int .i64 f.val.kind, .int .i64 f.val.n] : Array Value).all (·.oneCell') = true := by simp [Value.oneCell']
      rcases hcs with h3 | ⟨b, gs, h0, h1, hgs, h2, h3, hgm⟩
      · exact backFF #[.int .i64 f.zone, .int .i64 f.who, .int .i64 f.self, .int .i64 f.types, .int .i64 f.ntypes, .int .i64 f.colors, .int .i64 f.ncolors, .string fs, .int .i64 f.keys, .int .i64 f.tap, .int .i64 f.pow.kind, .int .i64 f.pow.n, .int .i64 f.tough.kind, .int .i64 f.tough.n, .int .i64 f.val.kind, .int .i64 f.val.n] hone rfl tx s hl w hE GI GT GP (Lib.hid fun W hW => (PS W hW).mono fun e w' => parseRes_no h3) (fun W => run_eq_zero W) hne
      · exact backFT #[.int .i64 f.zone, .int .i64 f.who, .int .i64 f.self, .int .i64 f.types, .int .i64 f.ntypes, .int .i64 f.colors, .int .i64 f.ncolors, .string fs, .int .i64 f.keys, .int .i64 f.tap, .int .i64 f.pow.kind, .int .i64 f.pow.n, .int .i64 f.tough.kind, .int .i64 f.tough.n, .int .i64 f.val.kind, .int .i64 f.val.n] hone rfl tx (cellsA b gs) (cellsA_one _ _) rfl s hl w hE GI GT GP (Lib.hid fun W hW => (PS W hW).mono fun e w' => parseRes_yes hgs h2 h3)
          (Lib.hid fun W hW => by have h := filIs b.flt gs hgs hgm W hW; rw [h0] at h; exact h) (Lib.hid fun W hW => by have h := filText b.flt gs hgs hgm W hW; rw [h1] at h; exact h) hne
  · have hls : (600 : Int) < (s.size : Int) := by omega
    have HE := Lib.hid (hE.below (show Below w.heap.size w (w.alloc (.cells #[.int .i64 f.zone, .int .i64 f.who, .int .i64 f.self, .int .i64 f.types, .int .i64 f.ntypes, .int .i64 f.colors, .int .i64 f.ncolors, .string fs, .int .i64 f.keys, .int .i64 f.tap, .int .i64 f.pow.kind, .int .i64 f.pow.n, .int .i64 f.tough.kind, .int .i64 f.tough.n, .int .i64 f.val.kind, .int .i64 f.val.n] 25)) from (Below.refl _ _).alloc (Nat.le_refl _) _))
    have HB : Hid (Below w.heap.size w (w.alloc (.cells #[.int .i64 f.zone, .int .i64 f.who, .int .i64 f.self, .int .i64 f.types, .int .i64 f.ntypes, .int .i64 f.colors, .int .i64 f.ncolors, .string fs, .int .i64 f.keys, .int .i64 f.tap, .int .i64 f.pow.kind, .int .i64 f.pow.n, .int .i64 f.tough.kind, .int .i64 f.tough.n, .int .i64 f.val.kind, .int .i64 f.val.n] 25))) := Lib.hid ((Below.refl _ _).alloc (Nat.le_refl _) _)
    clear hE hl hf hfs
    go_enter Tryd.func3, Tryd.ntmps3
    go_wp2_with fail
    refine (filAlive _ HE.out).mono ?_
    rintro e w1 ⟨rfl, hb⟩
    go_wp2_with fail
    go_ret
    exact ⟨rfl, HB.out.trans (hb.mono HB.out.size)⟩
end Go.Proofs.YtboealolklojiaaDoor
