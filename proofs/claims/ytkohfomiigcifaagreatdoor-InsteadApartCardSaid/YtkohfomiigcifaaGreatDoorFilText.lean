/-
  CONTRACT OF LAYER 13 (filter): Text. By an AI agent.
-/
import Derived.Test.YtkohfomiigcifaaGreatDoorFilDel
import Derived.Deep.AppendLies
import Derived.Deep.RegionLaw
namespace Go.Proofs.YtkohfomiigcifaaGreatDoor
open Go.RowKit
open Wd (Bs)

theorem filter_one (x : Bs) : [x].filter (fun x => !(x == [])) = Fil.one x := by
  unfold Fil.one
  cases x <;> rfl
theorem filter_all {l : List Bs} (h : ∀ x ∈ l, x ≠ []) : l.filter (fun x => !(x == [])) = l := List.filter_eq_self.2 fun x hx => by
  have := h x hx
  cases x with
  | nil => exact absurd rfl this
  | cons a r => rfl
/-- all words, the empty ones too, are a filter's parts -/
theorem raw_parts {a : Fil.Acc} (h : Fil.Valid a.flt) : ((((((([Fil.tbl Fil.zonesL a.zone, Fil.tbl Fil.whoL a.who, Fil.tbl Fil.selfL a.self] ++ Fil.maskW Fil.typeW [] a.types 31) ++ Fil.maskW Fil.typeW Fil.sNon a.ntypes 31) ++ Fil.maskW Col.name [] a.colors 31) ++
    Fil.maskW Col.name Fil.sNon a.ncolors 31) ++ Fil.one (Fil.subW a.sub)) ++ Fil.maskW Kw.name Fil.sWith a.keys 31) ++ [Fil.tbl Fil.tapL a.tap, Fil.bdW Fil.sPow a.pow, Fil.bdW Fil.sTough a.tough, Fil.bdW Fil.sVal a.val]).filter (fun x => !(x == [])) = Fil.parts a.flt := by
  have b3 : a.types < 2 ^ 6 := by have := h.types.2; change (a.types : Int) ≤ 63 at this; omega
  have b4 : a.ntypes < 2 ^ 6 := by have := h.ntypes.2; change (a.ntypes : Int) ≤ 63 at this; omega
  have b5 : a.colors < 2 ^ 5 := by have := h.colors.2; change (a.colors : Int) ≤ 31 at this; omega
  have b6 : a.ncolors < 2 ^ 5 := by have := h.ncolors.2; change (a.ncolors : Int) ≤ 31 at this; omega
  have b8 : a.keys < 2 ^ 17 := by have := h.keys.2; change (a.keys : Int) ≤ 131071 at this; omega
  rw [maskW_full b3 (by omega), maskW_full b4 (by omega), maskW_full b5 (by omega), maskW_full b6 (by omega), maskW_full b8 (by omega)]
  have k : ∀ i, (Fil.seg a.flt i).filter (fun x => !(x == [])) = Fil.seg a.flt i := fun i => filter_all fun x hx => (Fil.seg_plain h i hx).2
  have k3 := k 3; have k4 := k 4; have k5 := k 5; have k6 := k 6; have k7 := k 7; have k8 := k 8
  change (Fil.maskW Fil.typeW [] a.types 6).filter _ = Fil.maskW Fil.typeW [] a.types 6 at k3
  change (Fil.maskW Fil.typeW Fil.sNon a.ntypes 6).filter _ = Fil.maskW Fil.typeW Fil.sNon a.ntypes 6 at k4
  change (Fil.maskW Col.name [] a.colors 5).filter _ = Fil.maskW Col.name [] a.colors 5 at k5
  change (Fil.maskW Col.name Fil.sNon a.ncolors 5).filter _ = Fil.maskW Col.name Fil.sNon a.ncolors 5 at k6
  change (Fil.one (Fil.subW a.sub)).filter _ = Fil.one (Fil.subW a.sub) at k7
  change (Fil.maskW Kw.name Fil.sWith a.keys 17).filter _ = Fil.maskW Kw.name Fil.sWith a.keys 17 at k8
  have e3 : ∀ x y z : Bs, [x, y, z] = [x] ++ ([y] ++ [z]) := fun _ _ _ => rfl
  have e4 : ∀ x y z u : Bs, [x, y, z, u] = [x] ++ ([y] ++ ([z] ++ [u])) := fun _ _ _ _ => rfl
  rw [e3, e4]
  simp only [List.filter_append, filter_one, k3, k4, k5, k6, k7, k8, List.append_assoc]
  show _ = Fil.one (Fil.tbl Fil.zonesL a.zone) ++ (Fil.one (Fil.tbl Fil.whoL a.who) ++ (Fil.one (Fil.tbl Fil.selfL a.self) ++ (Fil.maskW Fil.typeW [] a.types 6 ++ (Fil.maskW Fil.typeW Fil.sNon a.ntypes 6 ++ (Fil.maskW Col.name [] a.colors 5 ++ (Fil.maskW Col.name Fil.sNon a.ncolors 5 ++
    (Fil.one (Fil.subW a.sub) ++ (Fil.maskW Kw.name Fil.sWith a.keys 17 ++ (Fil.one (Fil.tbl Fil.tapL a.tap) ++ (Fil.one (Fil.bdW Fil.sPow a.pow) ++ (Fil.one (Fil.bdW Fil.sTough a.tough) ++ (Fil.one (Fil.bdW Fil.sVal a.val) ++ []))))))))))))
  rw [List.append_nil]
theorem maskW_len (nm : Nat → Bs) (pre : Bs) (m n : Nat) : (Fil.maskW nm pre m n).length ≤ n := by
  unfold Fil.maskW
  rw [List.length_map]
  exact Nat.le_trans (List.length_filter_le _ _) (by simp)
/-! how long a text is -/
theorem one_len (x : Bs) : (Fil.one x).length ≤ 1 := by unfold Fil.one; split <;> simp
theorem parts_len (f : Fil.Flt) : (Fil.parts f).length ≤ 60 := by
  show (Fil.seg f 0 ++ (Fil.seg f 1 ++ (Fil.seg f 2 ++ (Fil.seg f 3 ++ (Fil.seg f 4 ++ (Fil.seg f 5 ++ (Fil.seg f 6 ++ (Fil.seg f 7 ++ (Fil.seg f 8 ++ (Fil.seg f 9 ++ (Fil.seg f 10 ++ (Fil.seg f 11 ++ (Fil.seg f 12 ++ []))))))))))))).length ≤ 60
  simp only [List.length_append, List.length_nil]
  have h0 : (Fil.seg f 0).length ≤ 1 := one_len _
  have h1 : (Fil.seg f 1).length ≤ 1 := one_len _
  have h2 : (Fil.seg f 2).length ≤ 1 := one_len _
  have h3 : (Fil.seg f 3).length ≤ 6 := maskW_len _ _ _ _
  have h4 : (Fil.seg f 4).length ≤ 6 := maskW_len _ _ _ _
  have h5 : (Fil.seg f 5).length ≤ 5 := maskW_len _ _ _ _
  have h6 : (Fil.seg f 6).length ≤ 5 := maskW_len _ _ _ _
  have h7 : (Fil.seg f 7).length ≤ 1 := one_len _
  have h8 : (Fil.seg f 8).length ≤ 17 := maskW_len _ _ _ _
  have h9 : (Fil.seg f 9).length ≤ 1 := one_len _
  have h10 : (Fil.seg f 10).length ≤ 1 := one_len _
  have h11 : (Fil.seg f 11).length ≤ 1 := one_len _
  have h12 : (Fil.seg f 12).length ≤ 1 := one_len _
  omega
theorem tbl_len {l : List Bs} (h : (l.all fun p => decide (p.length ≤ 50)) = true) (x : Int) : (Fil.tbl l x).length ≤ 50 := by
  unfold Fil.tbl
  rw [List.getD]
  cases hx : l[x.toNat]? with
  | none => exact Nat.zero_le _
  | some p => simpa using List.all_eq_true.1 h p (List.mem_of_getElem? hx)
theorem bdW_len {nm : Bs} (hn : nm.length ≤ 5) {b : Fil.Bd} (hv : Fil.bdB b = true) : (Fil.bdW nm b).length ≤ 50 := by
  obtain ⟨h0, h1, h2, h3, -⟩ := Fil.bd_valid hv
  unfold Fil.bdW
  split
  · exact Nat.zero_le _
  · have e1 := sign_len b.kind.toNat
    have e2 := Num.itoa_len (n := b.n) (by omega) (by omega)
    rw [List.length_append, List.length_append]
    omega
theorem sub_len {s : Bs} (h : Fil.subB s = true) : s.length ≤ 32 := by
  by_cases h0 : s = []
  · rw [h0]; decide
  · exact (Ln.name_p (Fil.sub_name h h0)).2.1
theorem seg_len {f : Fil.Flt} (h : Fil.Valid f) (i : Nat) {w : Bs} (hw : w ∈ Fil.seg f i) : w.length ≤ 50 := by
  have o : ∀ {x : Bs}, x.length ≤ 50 → w ∈ Fil.one x → w.length ≤ 50 := by
    intro x hx hw
    obtain ⟨rfl, -⟩ := Fil.mem_one hw
    exact hx
  have mk : ∀ {nm : Nat → Bs} {pre : Bs} {m n : Nat}, (∀ k, k < n → (pre ++ nm k).length ≤ 50) → w ∈ Fil.maskW nm pre m n → w.length ≤ 50 := by
    intro nm pre m n h1 hw
    obtain ⟨k, hk, _, rfl⟩ := Fil.mem_maskW hw
    exact h1 k hk
  match i, hw with
  | 0, hw => exact o (tbl_len (by decide) _) hw
  | 1, hw => exact o (tbl_len (by decide) _) hw
  | 2, hw => exact o (tbl_len (by decide) _) hw
  | 3, hw => exact mk (by decide +kernel) hw
  | 4, hw => exact mk (by decide +kernel) hw
  | 5, hw => exact mk (by decide +kernel) hw
  | 6, hw => exact mk (by decide +kernel) hw
  | 7, hw =>
    refine o ?_ hw
    have := sub_len h.sub
    unfold Fil.subW
    split
    · exact Nat.zero_le _
    · rw [List.length_append]; have : Fil.sSub.length = 4 := rfl; omega
  | 8, hw => exact mk (by decide +kernel) hw
  | 9, hw => exact o (tbl_len (by decide) _) hw
  | 10, hw => exact o (bdW_len (by decide) h.pow) hw
  | 11, hw => exact o (bdW_len (by decide) h.tough) hw
  | 12, hw => exact o (bdW_len (by decide) h.val) hw
  | n + 13, hw => cases hw
theorem from_len {f : Fil.Flt} (h : Fil.Valid f) : ∀ (n i : Nat) {w : Bs}, w ∈ Fil.from_ f i n → w.length ≤ 50
  | 0, _, _, hw => by cases hw
  | n + 1, i, w, hw => by
    rcases List.mem_append.1 hw with h1 | h1
    · exact seg_len h i h1
    · exact from_len h n (i + 1) h1
theorem text_len {f : Fil.Flt} (h : Fil.Valid f) : (Lib.join (Fil.parts f) [32]).length ≤ 4000 := by
  have h1 := join_len_le (c := 32) (m := 50) (ps := Fil.parts f) fun p hp => from_len h 13 0 hp
  have h2 := parts_len f
  omega
theorem zone_at {k : Nat} (h : k ≤ 5) : Fil.zonesL[k]? = some (Fil.tbl Fil.zonesL k) := by
  have : ∀ k, k < 6 → Fil.zonesL[k]? = some (Fil.tbl Fil.zonesL (k : Nat)) := by decide
  exact this k (by omega)
theorem who_at {k : Nat} (h : k ≤ 2) : Fil.whoL[k]? = some (Fil.tbl Fil.whoL k) := by
  have : ∀ k, k < 3 → Fil.whoL[k]? = some (Fil.tbl Fil.whoL (k : Nat)) := by decide
  exact this k (by omega)
theorem self_at {k : Nat} (h : k ≤ 2) : Fil.selfL[k]? = some (Fil.tbl Fil.selfL k) := by
  have : ∀ k, k < 3 → Fil.selfL[k]? = some (Fil.tbl Fil.selfL (k : Nat)) := by decide
  exact this k (by omega)
theorem tap_at {k : Nat} (h : k ≤ 2) : Fil.tapL[k]? = some (Fil.tbl Fil.tapL k) := by
  have : ∀ k, k < 3 → Fil.tapL[k]? = some (Fil.tbl Fil.tapL (k : Nat)) := by decide
  exact this k (by omega)
theorem name_col (k : Nat) : (Col.name k).length ≤ 1000 := by
  by_cases h : k < 5
  · have : ∀ k, k < 5 → (Col.name k).length ≤ 1000 := by decide +kernel
    exact this k h
  · rw [Col.name_big k (by omega)]; decide
theorem name_key (k : Nat) : (Kw.name k).length ≤ 1000 := by
  by_cases h : k < 17
  · have := (Kw.name_len k h).2; omega
  · rw [Kw.name_big k (by omega)]; decide
theorem name_type (k : Nat) : (Fil.typeW k).length ≤ 1000 := by
  unfold Fil.typeW
  split
  · have := word_len (2 + k); omega
  · decide
/-- the sixteen cells of a filter -/
structure Box (w : World) (b : Nat) (a : Fil.Acc) (fs : ByteArray) : Prop where
  c0 : w.cell? ⟨b, 0, none⟩ = some (.int .i64 (a.zone : Int))
  c1 : w.cell? ⟨b, 1, none⟩ = some (.int .i64 (a.who : Int))
  c2 : w.cell? ⟨b, 2, none⟩ = some (.int .i64 (a.self : Int))
  c3 : w.cell? ⟨b, 3, none⟩ = some (.int .i64 (a.types : Int))
  c4 : w.cell? ⟨b, 4, none⟩ = some (.int .i64 (a.ntypes : Int))
  c5 : w.cell? ⟨b, 5, none⟩ = some (.int .i64 (a.colors : Int))
  c6 : w.cell? ⟨b, 6, none⟩ = some (.int .i64 (a.ncolors : Int))
  c7 : w.cell? ⟨b, 7, none⟩ = some (.string fs)
  c8 : w.cell? ⟨b, 8, none⟩ = some (.int .i64 (a.keys : Int))
  c9 : w.cell? ⟨b, 9, none⟩ = some (.int .i64 (a.tap : Int))
  c10 : w.cell? ⟨b, 10, none⟩ = some (.int .i64 a.pow.kind)
  c11 : w.cell? ⟨b, 11, none⟩ = some (.int .i64 a.pow.n)
  c12 : w.cell? ⟨b, 12, none⟩ = some (.int .i64 a.tough.kind)
  c13 : w.cell? ⟨b, 13, none⟩ = some (.int .i64 a.tough.n)
  c14 : w.cell? ⟨b, 14, none⟩ = some (.int .i64 a.val.kind)
  c15 : w.cell? ⟨b, 15, none⟩ = some (.int .i64 a.val.n)
theorem Box.below {w w1 : World} {b C : Nat} {a : Fil.Acc} {fs : ByteArray} (h : Box w b a fs) (hb : Below C w w1) (hC : b < C) : Box w1 b a fs :=
  ⟨(hb.cell (p := ⟨b, 0, none⟩) hC).trans h.c0, (hb.cell (p := ⟨b, 1, none⟩) hC).trans h.c1, (hb.cell (p := ⟨b, 2, none⟩) hC).trans h.c2, (hb.cell (p := ⟨b, 3, none⟩) hC).trans h.c3, (hb.cell (p := ⟨b, 4, none⟩) hC).trans h.c4, (hb.cell (p := ⟨b, 5, none⟩) hC).trans h.c5, (hb.cell (p := ⟨b, 6, none⟩) hC).trans h.c6, (hb.cell (p := ⟨b, 7, none⟩) hC).trans h.c7, (hb.cell (p := ⟨b, 8, none⟩) hC).trans h.c8, (hb.cell (p := ⟨b, 9, none⟩) hC).trans h.c9, (hb.cell (p := ⟨b, 10, none⟩) hC).trans h.c10, (hb.cell (p := ⟨b, 11, none⟩) hC).trans h.c11, (hb.cell (p := ⟨b, 12, none⟩) hC).trans h.c12, (hb.cell (p := ⟨b, 13, none⟩) hC).trans h.c13, (hb.cell (p := ⟨b, 14, none⟩) hC).trans h.c14, (hb.cell (p := ⟨b, 15, none⟩) hC).trans h.c15⟩
theorem Box.new (w : World) (a : Fil.Acc) (fs : ByteArray) : Box (w.alloc (.cells #[.int .i64 (a.zone : Int), .int .i64 (a.who : Int), .int .i64 (a.self : Int), .int .i64 (a.types : Int), .int .i64 (a.ntypes : Int), .int .i64 (a.colors : Int), .int .i64 (a.ncolors : Int), .string fs, .int .i64 (a.keys : Int), .int .i64 (a.tap : Int), .int .i64 a.pow.kind, .int .i64 a.pow.n, .int .i64 a.tough.kind, .int .i64 a.tough.n, .int .i64 a.val.kind, .int .i64 a.val.n] 25)) w.heap.size a fs := by
  constructor <;> simp
set_option maxRecDepth 100000 in
/-- 's = append(s, x...)' inside a region that draws; the cells of other blocks are as they were -/
theorem step_append_far {ops : Array Oper} {o : Oper} {a : Act} {K : Act → World → Prop} {Q : Exit → Act → World → Prop} {E : Prop} (hgd : o.guard = none) (s x : Operand)
    (ho : o.op = .call { callee := .builtin .append, args := #[s, x], argTypes := #[50, 50] })
    {B : Nat} {w0 w : World} {v u : Value} {l xs : List Bs} (hs : a.eval s = v) (hown : OwnStrs B w v l) (hx : a.eval x = u) (hxs : Strs w u xs)
    (hlen : l.length + xs.length ≤ 1000000000) (hB : B ≤ w.heap.size) (hb : Below B w0 w)
    (h : ∀ v' w', OwnStrs B w' v' (l ++ xs) → Below B w0 w' → (∀ b o, b < w.heap.size → some b ≠ v.ownBlock → w'.cell? ⟨b, o, none⟩ = w.cell? ⟨b, o, none⟩) → K (a.put o.dst v') w') :
    if Region.wanted o (yielded ops a.tmps) = true then Oper.wp Tryz.prog o a w K Q else E := by
  obtain ⟨i0, hi, hz0, hz1, hz2⟩ := info_parts infoStr
  have hrow : w.ownsRow B 9 1 v l.length (l.map str) := hown
  have hw : Region.wanted o (yielded ops a.tmps) = true := by simp [Region.wanted, hgd]
  rw [if_pos hw]
  obtain ⟨ad, c, rfl, h1, h2, h3⟩ := hxs
  cases ad with
  | none =>
    obtain rfl : xs = [] := by
      cases xs with
      | nil => rfl
      | cons y r => obtain ⟨b, o, e, _⟩ := h3 0 y rfl; cases e
    have hrun := run_append_nil (P := Tryz.prog) (w := w) B 50 o.type 9 i0 1 c Tryz.underlying50 hi v l.length (l.map str) hrow
    unfold Oper.wp
    simp [execOp, ho, resolve, invoke, builtin, hs, hx, hrun, Result.andThen]
    exact h v w (by rw [List.append_nil]; exact hown) hb (fun _ _ _ _ => rfl)
  | some p =>
    obtain ⟨v', w', hr, hown', hgrow, -, -⟩ := run_append_own_at (P := Tryz.prog) w B 50 o.type 9 i0 (.string ⟨#[]⟩) 1 16 Tryz.underlying50 hi hz0 hz1 hz2 rfl (by decide) v l.length (l.map str) hrow p xs.length c (xs.map str) (by simp)
      (by
        intro j y hj
        rw [List.getElem?_map, Option.map_eq_some_iff] at hj
        obtain ⟨z, hz, rfl⟩ := hj
        obtain ⟨b, o, e, _, h5⟩ := h3 j z hz
        injection e with e
        subst e
        have hadd : (⟨b, o, none⟩ : Addr).add j = ⟨b, o + j, none⟩ := by unfold Addr.add; split <;> simp_all
        rw [hadd]
        exact h5)
      (by
        intro y hy
        obtain ⟨z, _, rfl⟩ := List.mem_map.1 hy
        rfl) (by unfold maxLen; omega) (by omega) hB
    unfold Oper.wp execOp
    simp only [ho, resolve, invoke, builtin, Sem.run_bind, Sem.run_pure, Result.andThen_ok, List.map_toArray, List.map_cons, List.map_nil, hs, hx, hr]
    have h6 : OwnStrs B w' v' (l ++ xs) := by
      unfold OwnStrs
      simpa using hown'
    exact h v' w' h6 (hb.grown hgrow hB fun k hk => (World.ownsRow.lt hrow k hk).1) (fun b o hb hne => hgrow.cell_far ⟨b, o, none⟩ hb hne)
set_option maxHeartbeats 8000000 in
set_option maxRecDepth 100000 in
theorem filTextA (a : Fil.Acc) (fs : ByteArray) (hf : a.sub = fs.data.toList) (hs : fs.size ≤ maxLen) (w : World) (hE : Env w) :
    Calls Tryz.prog 51 #[.agg #[.int .i64 (a.zone : Int), .int .i64 (a.who : Int), .int .i64 (a.self : Int), .int .i64 (a.types : Int), .int .i64 (a.ntypes : Int), .int .i64 (a.colors : Int), .int .i64 (a.ncolors : Int), .string fs, .int .i64 (a.keys : Int), .int .i64 (a.tap : Int), .int .i64 a.pow.kind, .int .i64 a.pow.n, .int .i64 a.tough.kind, .int .i64 a.tough.n, .int .i64 a.val.kind, .int .i64 a.val.n]] w fun e w' => e = .returned (str (Fil.textF a.flt)) ∧ Below w.heap.size w w' := by
  obtain ⟨w0, hw0⟩ : ∃ w0, w0 = w.alloc (.cells #[.int .i64 (a.zone : Int), .int .i64 (a.who : Int), .int .i64 (a.self : Int), .int .i64 (a.types : Int), .int .i64 (a.ntypes : Int), .int .i64 (a.colors : Int), .int .i64 (a.ncolors : Int), .string fs, .int .i64 (a.keys : Int), .int .i64 (a.tap : Int), .int .i64 a.pow.kind, .int .i64 a.pow.n, .int .i64 a.tough.kind, .int .i64 a.tough.n, .int .i64 a.val.kind, .int .i64 a.val.n] 25) := ⟨_, rfl⟩
  have hb0 : Below w.heap.size w w0 := by rw [hw0]; exact (Below.refl _ _).alloc (Nat.le_refl _) _
  have hloc : w.heap.size < w0.heap.size := by rw [hw0]; simp
  have BX : Hid (Box w0 w.heap.size a fs) := Lib.hid (by rw [hw0]; exact Box.new w a fs)
  have HE := Lib.hid (fun (W : World) (hb : Below w0.heap.size w0 W) => (hE.below hb0).below hb)
  have HC := Lib.hid (filIs a.flt fs hf hs w0 (hE.below hb0))
  have HB := Lib.hid hb0
  have HL := Lib.hid hloc
  have c := BX.out
  obtain ⟨c0, c1, c2, c3, c4, c5, c6, c7, c8, c9, c10, c11, c12, c13, c14, c15⟩ := c
  clear hE hb0
  cases hvb : Fil.validB a.flt with
  | false =>
    have HT := Lib.hid (Fil.textF_bad hvb)
    have HVB := Lib.hid hvb
    clear hvb
    go_enter Tryz.func51, Tryz.ntmps51
    go_wp2_with fail
    rw [← hw0]
    clear hw0
    refine HC.out.mono ?_
    rw [HVB.out]
    rintro e w1 ⟨rfl, hb1⟩
    go_wp2_with fail
    go_ret
    exact ⟨by rw [HT.out]; rfl, HB.out.trans (hb1.mono HB.out.size)⟩
  | true =>
    have hV := Fil.valid_of hvb
    have HVB := Lib.hid hvb
    have b0 : (a.zone : Int) < 6 := by have := hV.zone.2; change (a.zone : Int) ≤ 5 at this; omega
    have b1 : (a.who : Int) < 3 := by have := hV.who.2; change (a.who : Int) ≤ 2 at this; omega
    have b2 : (a.self : Int) < 3 := by have := hV.self.2; change (a.self : Int) ≤ 2 at this; omega
    have b9 : (a.tap : Int) < 3 := by have := hV.tap.2; change (a.tap : Int) ≤ 2 at this; omega
    have b3 : (a.types : Int) ≤ 9223372036854775807 := by have := hV.types.2; change (a.types : Int) ≤ 63 at this; omega
    have b4 : (a.ntypes : Int) ≤ 9223372036854775807 := by have := hV.ntypes.2; change (a.ntypes : Int) ≤ 63 at this; omega
    have b5 : (a.colors : Int) ≤ 9223372036854775807 := by have := hV.colors.2; change (a.colors : Int) ≤ 31 at this; omega
    have b6 : (a.ncolors : Int) ≤ 9223372036854775807 := by have := hV.ncolors.2; change (a.ncolors : Int) ≤ 31 at this; omega
    have b8 : (a.keys : Int) ≤ 9223372036854775807 := by have := hV.keys.2; change (a.keys : Int) ≤ 131071 at this; omega
    have z0 : (0 : Int) ≤ (a.zone : Int) := by omega
    have z1 : (0 : Int) ≤ (a.who : Int) := by omega
    have z2 : (0 : Int) ≤ (a.self : Int) := by omega
    have z9 : (0 : Int) ≤ (a.tap : Int) := by omega
    have n0 : a.zone < 6 := by omega
    have n1 : a.who < 3 := by omega
    have n2 : a.self < 3 := by omega
    have n9 : a.tap < 3 := by omega
    obtain ⟨s0, hs0, -⟩ := exists_bytes (Fil.tbl Fil.zonesL a.zone)
    obtain ⟨s1, hs1, -⟩ := exists_bytes (Fil.tbl Fil.whoL a.who)
    obtain ⟨s2, hs2, -⟩ := exists_bytes (Fil.tbl Fil.selfL a.self)
    obtain ⟨s9, hs9, -⟩ := exists_bytes (Fil.tbl Fil.tapL a.tap)
    obtain ⟨sp, hsp, ep⟩ := exists_bytes (Fil.bdW Fil.sPow a.pow)
    obtain ⟨st, hst, et⟩ := exists_bytes (Fil.bdW Fil.sTough a.tough)
    obtain ⟨sv, hsv, ev⟩ := exists_bytes (Fil.bdW Fil.sVal a.val)
    have X0 := Lib.hid (show Fil.zonesL[a.zone]? = some s0.data.toList by rw [hs0]; exact zone_at (by omega))
    have X1 := Lib.hid (show Fil.whoL[a.who]? = some s1.data.toList by rw [hs1]; exact who_at (by omega))
    have X2 := Lib.hid (show Fil.selfL[a.self]? = some s2.data.toList by rw [hs2]; exact self_at (by omega))
    have X9 := Lib.hid (show Fil.tapL[a.tap]? = some s9.data.toList by rw [hs9]; exact tap_at (by omega))
    have P0 : Hid (∀ W, Env W → Calls Tryz.prog 89 #[.string ⟨#[112, 111, 119, 101, 114]⟩, .agg #[.int .i64 a.pow.kind, .int .i64 a.pow.n]] W fun e w' => e = .returned (.string sp) ∧ Below W.heap.size W w') := Lib.hid fun W hW => by rw [← ep]; exact filBoundText _ a.pow W hW (by decide) hV.pow
    have P1 : Hid (∀ W, Env W → Calls Tryz.prog 89 #[.string ⟨#[116, 111, 117, 103, 104]⟩, .agg #[.int .i64 a.tough.kind, .int .i64 a.tough.n]] W fun e w' => e = .returned (.string st) ∧ Below W.heap.size W w') := Lib.hid fun W hW => by rw [← et]; exact filBoundText _ a.tough W hW (by decide) hV.tough
    have P2 : Hid (∀ W, Env W → Calls Tryz.prog 89 #[.string ⟨#[118, 97, 108, 117, 101]⟩, .agg #[.int .i64 a.val.kind, .int .i64 a.val.n]] W fun e w' => e = .returned (.string sv) ∧ Below W.heap.size W w') := Lib.hid fun W hW => by rw [← ev]; exact filBoundText _ a.val W hW (by decide) hV.val
    have HFL : Hid (fs.size ≤ 32) := Lib.hid (by have := sub_len hV.sub; change a.sub.length ≤ 32 at this; rw [hf] at this; simpa using this)
    obtain ⟨m1, hm1⟩ : ∃ l, l = Fil.maskW Fil.typeW [] a.types 31 := ⟨_, rfl⟩
    obtain ⟨m2, hm2⟩ : ∃ l, l = Fil.maskW Fil.typeW Fil.sNon a.ntypes 31 := ⟨_, rfl⟩
    obtain ⟨m3, hm3⟩ : ∃ l, l = Fil.maskW Col.name [] a.colors 31 := ⟨_, rfl⟩
    obtain ⟨m4, hm4⟩ : ∃ l, l = Fil.maskW Col.name Fil.sNon a.ncolors 31 := ⟨_, rfl⟩
    obtain ⟨m5, hm5⟩ : ∃ l, l = Fil.maskW Kw.name Fil.sWith a.keys 31 := ⟨_, rfl⟩
    have M1 : Hid (∀ W, Env W → Calls Tryz.prog 84 #[.int .i64 (a.types : Int), .string ⟨#[]⟩, .func (.func 85) #[] #[]] W (StrsRes m1 W)) := Lib.hid fun W hW => by rw [hm1]; exact filWordsT a.types ⟨#[]⟩ W hW b3 (by decide) name_type
    have M2 : Hid (∀ W, Env W → Calls Tryz.prog 84 #[.int .i64 (a.ntypes : Int), .string ⟨#[110, 111, 110, 45]⟩, .func (.func 85) #[] #[]] W (StrsRes m2 W)) := Lib.hid fun W hW => by rw [hm2]; exact filWordsT a.ntypes ⟨#[110, 111, 110, 45]⟩ W hW b4 (by decide) name_type
    have M3 : Hid (∀ W, Env W → Calls Tryz.prog 84 #[.int .i64 (a.colors : Int), .string ⟨#[]⟩, .func (.func 86) #[] #[]] W (StrsRes m3 W)) := Lib.hid fun W hW => by rw [hm3]; exact filWordsC a.colors ⟨#[]⟩ W hW b5 (by decide) name_col
    have M4 : Hid (∀ W, Env W → Calls Tryz.prog 84 #[.int .i64 (a.ncolors : Int), .string ⟨#[110, 111, 110, 45]⟩, .func (.func 86) #[] #[]] W (StrsRes m4 W)) := Lib.hid fun W hW => by rw [hm4]; exact filWordsC a.ncolors ⟨#[110, 111, 110, 45]⟩ W hW b6 (by decide) name_col
    have M5 : Hid (∀ W, Env W → Calls Tryz.prog 84 #[.int .i64 (a.keys : Int), .string ⟨#[119, 105, 116, 104, 58]⟩, .func (.func 87) #[] #[]] W (StrsRes m5 W)) := Lib.hid fun W hW => by rw [hm5]; exact filWordsK a.keys ⟨#[119, 105, 116, 104, 58]⟩ W b8 (by decide) name_key
    have L1 : Hid (m1.length ≤ 31) := Lib.hid (by rw [hm1]; exact maskW_len _ _ _ _)
    have L2 : Hid (m2.length ≤ 31) := Lib.hid (by rw [hm2]; exact maskW_len _ _ _ _)
    have L3 : Hid (m3.length ≤ 31) := Lib.hid (by rw [hm3]; exact maskW_len _ _ _ _)
    have L4 : Hid (m4.length ≤ 31) := Lib.hid (by rw [hm4]; exact maskW_len _ _ _ _)
    have L5 : Hid (m5.length ≤ 31) := Lib.hid (by rw [hm5]; exact maskW_len _ _ _ _)
    obtain ⟨ps, hps⟩ : ∃ ps, ps = Fil.parts a.flt := ⟨_, rfl⟩
    have HPE : Hid (((((((([s0.data.toList, s1.data.toList, s2.data.toList] ++ m1) ++ m2) ++ m3) ++ m4) ++ Fil.one (Fil.subW fs.data.toList)) ++ m5) ++ [s9.data.toList, sp.data.toList, st.data.toList, sv.data.toList]).filter (fun x => !(x == [])) = ps) := Lib.hid (by
      rw [hps, hs0, hs1, hs2, hs9, hsp, hst, hsv, hm1, hm2, hm3, hm4, hm5, ← hf]; exact raw_parts hV)
    have HT : Hid (Fil.textF a.flt = Fil.textP ps) := Lib.hid (by rw [hps]; exact Fil.textF_valid hvb)
    have HZ : Hid ((Lib.join ps [32]).length ≤ 4000) := Lib.hid (by rw [hps]; exact text_len hV)
    have HPL : Hid (ps.length ≤ 60) := Lib.hid (by rw [hps]; exact parts_len a.flt)
    clear hps hvb hV hs0 hs1 hs2 hs9 hsp hst hsv ep et ev hm1 hm2 hm3 hm4 hm5 b3 b4 b5 b6 b8
    rcases sub_cases fs with ⟨t1, hsub⟩ | ⟨t1, hsub⟩
    · have HQ : Hid (Fil.one (Fil.subW fs.data.toList) = []) := Lib.hid (by rw [hsub]; rfl)
      have HSZ := Lib.hid hs
      clear hsub hs hf
      go_enter Tryz.func51, Tryz.ntmps51
      go_wp2_with fail
      rw [← hw0]
      clear hw0
      refine HC.out.mono ?_
      rw [HVB.out]
      rintro e w1 ⟨rfl, hb1⟩
      have B1 := Lib.hid hb1
      obtain ⟨hcl, hfr⟩ := below_cells hb1
      have d1 := BX.out.below hb1 hloc
      clear hb1
      go_wp2_with fail
      refine wp_region_held_drew (S := (fun W : World => W.cell? ⟨w.heap.size, 0, none⟩ = some (.int .i64 (a.zone : Int)) ∧ W.cell? ⟨w.heap.size, 1, none⟩ = some (.int .i64 (a.who : Int)) ∧ W.cell? ⟨w.heap.size, 2, none⟩ = some (.int .i64 (a.self : Int)))) (by kernel_rfl) ?_ (fun hHeld => ?_)
      · exact ⟨d1.c0, d1.c1, d1.c2⟩
      refine take_run 1 (some 8) (v := ?_) rfl rfl (by kernel_rfl) (by kernel_rfl) (by kernel_rfl) (fun _ _ _ h => h) (by rfl) ?_ (by assumption) ?_
      rotate_left
      · (intro W hSw; (try dsimp only at hSw); go_simp; (try with_reducible rfl))
      simp only [Act.put, List.setIfInBounds_toArray, List.set_cons_zero, List.set_cons_succ]
      refine take_run 2 (some 9) (v := ?_) rfl rfl (by kernel_rfl) (by kernel_rfl) (by kernel_rfl) (fun _ _ _ h => h) (by rfl) ?_ (by assumption) ?_
      rotate_left
      · (intro W hSw; (try dsimp only at hSw); go_simp; (try with_reducible rfl))
      simp only [Act.put, List.setIfInBounds_toArray, List.set_cons_zero, List.set_cons_succ]
      refine take_run 6 (some 13) (v := ?_) rfl rfl (by kernel_rfl) (by kernel_rfl) (by kernel_rfl) (fun _ _ _ h => h) (by rfl) ?_ (by assumption) ?_
      rotate_left
      · (intro W hSw; (try dsimp only at hSw); go_simp; (try with_reducible rfl))
      simp only [Act.put, List.setIfInBounds_toArray, List.set_cons_zero, List.set_cons_succ]
      refine take_run 7 (some 14) (v := ?_) rfl rfl (by kernel_rfl) (by kernel_rfl) (by kernel_rfl) (fun _ _ _ h => h) (by rfl) ?_ (by assumption) ?_
      rotate_left
      · (intro W hSw; (try dsimp only at hSw); go_simp; (try with_reducible rfl))
      simp only [Act.put, List.setIfInBounds_toArray, List.set_cons_zero, List.set_cons_succ]
      refine take_run 11 (some 18) (v := ?_) rfl rfl (by kernel_rfl) (by kernel_rfl) (by kernel_rfl) (fun _ _ _ h => h) (by rfl) ?_ (by assumption) ?_
      rotate_left
      · (intro W hSw; (try dsimp only at hSw); go_simp; (try with_reducible rfl))
      simp only [Act.put, List.setIfInBounds_toArray, List.set_cons_zero, List.set_cons_succ]
      refine take_run 12 (some 19) (v := ?_) rfl rfl (by kernel_rfl) (by kernel_rfl) (by kernel_rfl) (fun _ _ _ h => h) (by rfl) ?_ (by assumption) ?_
      rotate_left
      · (intro W hSw; (try dsimp only at hSw); go_simp; (try with_reducible rfl))
      simp only [Act.put, List.setIfInBounds_toArray, List.set_cons_zero, List.set_cons_succ]
      refine wpAnyH_ready (rs := [0]) (by kernel_rfl) (by simp) ?_
      refine AllReadyH.cons rfl (fun K1 hK1 => ?_) AllReadyH.nil
      go_simp
      go_at_call 81
      refine (tabAt tab_zonesL (C := w1.heap.size) (w0 := w1) (by go_grown) (Nat.le_refl _) X0.out).mono ?_
      rintro e w2 ⟨rfl, hcw2, hgw2, hbw2⟩
      change w2.cell? ⟨w1.heap.size, a.zone, none⟩ = some (.string s0) at hcw2
      change w1.heap.size < w2.heap.size at hgw2
      go_simp
      have d2 := d1.below hbw2 (Nat.lt_of_lt_of_le hloc B1.out.size)
      refine hK1.out _ _ ?_ (fun hHeld1 => ?_)
      · exact ⟨d2.c0, d2.c1, d2.c2⟩
      clear hK1 K1 hHeld
      have hHeld1x : (fun W : World => W.cell? ⟨w.heap.size, 0, none⟩ = some (.int .i64 (a.zone : Int)) ∧ W.cell? ⟨w.heap.size, 1, none⟩ = some (.int .i64 (a.who : Int)) ∧ W.cell? ⟨w.heap.size, 2, none⟩ = some (.int .i64 (a.self : Int)) ∧ W.cell? ⟨w1.heap.size, a.zone, none⟩ = some (.string s0)) _ := ⟨d2.c0, d2.c1, d2.c2, hcw2⟩
      refine wpAnyH_more (S' := (fun W : World => W.cell? ⟨w.heap.size, 0, none⟩ = some (.int .i64 (a.zone : Int)) ∧ W.cell? ⟨w.heap.size, 1, none⟩ = some (.int .i64 (a.who : Int)) ∧ W.cell? ⟨w.heap.size, 2, none⟩ = some (.int .i64 (a.self : Int)) ∧ W.cell? ⟨w1.heap.size, a.zone, none⟩ = some (.string s0))) (fun W h => ⟨h.1, h.2.1, h.2.2.1⟩) _ _ _ _ ?_
      clear hHeld1
      try simp only [Act.put, List.setIfInBounds_toArray, List.set_cons_zero, List.set_cons_succ]
      refine take_run 3 (some 10) (v := ?_) rfl rfl (by kernel_rfl) (by kernel_rfl) (by kernel_rfl) (fun _ _ _ h => h) (by rfl) ?_ (by assumption) ?_
      rotate_left
      · (intro W hSw; (try dsimp only at hSw); go_simp; (try with_reducible rfl))
      simp only [Act.put, List.setIfInBounds_toArray, List.set_cons_zero, List.set_cons_succ]
      refine take_run 4 (some 11) (v := ?_) rfl rfl (by kernel_rfl) (by kernel_rfl) (by kernel_rfl) (fun _ _ _ h => h) (by rfl) ?_ (by assumption) ?_
      rotate_left
      · (intro W hSw; (try dsimp only at hSw); go_simp; (try with_reducible rfl))
      simp only [Act.put, List.setIfInBounds_toArray, List.set_cons_zero, List.set_cons_succ]
      refine wpAnyH_ready (rs := [5]) (by kernel_rfl) (by simp) ?_
      refine AllReadyH.cons rfl (fun K2 hK2 => ?_) AllReadyH.nil
      go_simp
      go_at_call 82
      refine (tabAt tab_whoL (C := w2.heap.size) (w0 := w2) (by go_grown) (Nat.le_refl _) X1.out).mono ?_
      rintro e w3 ⟨rfl, hcw3, hgw3, hbw3⟩
      change w3.cell? ⟨w2.heap.size, a.who, none⟩ = some (.string s1) at hcw3
      change w2.heap.size < w3.heap.size at hgw3
      go_simp
      have d3 := d2.below hbw3 (Nat.lt_of_lt_of_le (Nat.lt_of_lt_of_le hloc B1.out.size) hbw2.size)
      have f3 := (hbw3.cell (p := ⟨w1.heap.size, a.zone, none⟩) hgw2).trans hcw2
      refine hK2.out _ _ ?_ (fun hHeld2 => ?_)
      · exact ⟨d3.c0, d3.c1, d3.c2, f3⟩
      clear hK2 K2 hHeld1x
      have hHeld2x : (fun W : World => W.cell? ⟨w.heap.size, 0, none⟩ = some (.int .i64 (a.zone : Int)) ∧ W.cell? ⟨w.heap.size, 1, none⟩ = some (.int .i64 (a.who : Int)) ∧ W.cell? ⟨w.heap.size, 2, none⟩ = some (.int .i64 (a.self : Int)) ∧ W.cell? ⟨w1.heap.size, a.zone, none⟩ = some (.string s0) ∧ W.cell? ⟨w2.heap.size, a.who, none⟩ = some (.string s1)) _ := ⟨d3.c0, d3.c1, d3.c2, f3, hcw3⟩
      refine wpAnyH_more (S' := (fun W : World => W.cell? ⟨w.heap.size, 0, none⟩ = some (.int .i64 (a.zone : Int)) ∧ W.cell? ⟨w.heap.size, 1, none⟩ = some (.int .i64 (a.who : Int)) ∧ W.cell? ⟨w.heap.size, 2, none⟩ = some (.int .i64 (a.self : Int)) ∧ W.cell? ⟨w1.heap.size, a.zone, none⟩ = some (.string s0) ∧ W.cell? ⟨w2.heap.size, a.who, none⟩ = some (.string s1))) (fun W h => ⟨h.1, h.2.1, h.2.2.1, h.2.2.2.1⟩) _ _ _ _ ?_
      clear hHeld2
      try simp only [Act.put, List.setIfInBounds_toArray, List.set_cons_zero, List.set_cons_succ]
      refine take_run 8 (some 15) (v := ?_) rfl rfl (by kernel_rfl) (by kernel_rfl) (by kernel_rfl) (fun _ _ _ h => h) (by rfl) ?_ (by assumption) ?_
      rotate_left
      · (intro W hSw; (try dsimp only at hSw); go_simp; (try with_reducible rfl))
      simp only [Act.put, List.setIfInBounds_toArray, List.set_cons_zero, List.set_cons_succ]
      refine take_run 9 (some 16) (v := ?_) rfl rfl (by kernel_rfl) (by kernel_rfl) (by kernel_rfl) (fun _ _ _ h => h) (by rfl) ?_ (by assumption) ?_
      rotate_left
      · (intro W hSw; (try dsimp only at hSw); go_simp; (try with_reducible rfl))
      simp only [Act.put, List.setIfInBounds_toArray, List.set_cons_zero, List.set_cons_succ]
      refine wpAnyH_ready (rs := [10]) (by kernel_rfl) (by simp) ?_
      refine AllReadyH.cons rfl (fun K3 hK3 => ?_) AllReadyH.nil
      go_simp
      go_at_call 83
      refine (tabAt tab_selfL (C := w3.heap.size) (w0 := w3) (by go_grown) (Nat.le_refl _) X2.out).mono ?_
      rintro e w4 ⟨rfl, hcw4, hgw4, hbw4⟩
      change w4.cell? ⟨w3.heap.size, a.self, none⟩ = some (.string s2) at hcw4
      change w3.heap.size < w4.heap.size at hgw4
      go_simp
      have d4 := d3.below hbw4 (Nat.lt_of_lt_of_le (Nat.lt_of_lt_of_le (Nat.lt_of_lt_of_le hloc B1.out.size) hbw2.size) hbw3.size)
      have f4 := (hbw4.cell (p := ⟨w1.heap.size, a.zone, none⟩) (Nat.lt_of_lt_of_le hgw2 hbw3.size)).trans f3
      have g4 := (hbw4.cell (p := ⟨w2.heap.size, a.who, none⟩) hgw3).trans hcw3
      refine hK3.out _ _ ?_ (fun hHeld3 => ?_)
      · exact ⟨d4.c0, d4.c1, d4.c2, f4, g4⟩
      clear hK3 K3 hHeld2x
      have hHeld3x : (fun W : World => W.cell? ⟨w.heap.size, 0, none⟩ = some (.int .i64 (a.zone : Int)) ∧ W.cell? ⟨w.heap.size, 1, none⟩ = some (.int .i64 (a.who : Int)) ∧ W.cell? ⟨w.heap.size, 2, none⟩ = some (.int .i64 (a.self : Int)) ∧ W.cell? ⟨w1.heap.size, a.zone, none⟩ = some (.string s0) ∧ W.cell? ⟨w2.heap.size, a.who, none⟩ = some (.string s1) ∧ W.cell? ⟨w3.heap.size, a.self, none⟩ = some (.string s2)) _ := ⟨d4.c0, d4.c1, d4.c2, f4, g4, hcw4⟩
      refine wpAnyH_more (S' := (fun W : World => W.cell? ⟨w.heap.size, 0, none⟩ = some (.int .i64 (a.zone : Int)) ∧ W.cell? ⟨w.heap.size, 1, none⟩ = some (.int .i64 (a.who : Int)) ∧ W.cell? ⟨w.heap.size, 2, none⟩ = some (.int .i64 (a.self : Int)) ∧ W.cell? ⟨w1.heap.size, a.zone, none⟩ = some (.string s0) ∧ W.cell? ⟨w2.heap.size, a.who, none⟩ = some (.string s1) ∧ W.cell? ⟨w3.heap.size, a.self, none⟩ = some (.string s2))) (fun W h => ⟨h.1, h.2.1, h.2.2.1, h.2.2.2.1, h.2.2.2.2.1⟩) _ _ _ _ ?_
      clear hHeld3
      try simp only [Act.put, List.setIfInBounds_toArray, List.set_cons_zero, List.set_cons_succ]
      refine take_run 13 (some 20) (v := ?_) rfl rfl (by kernel_rfl) (by kernel_rfl) (by kernel_rfl) (fun _ _ _ h => h) (by rfl) ?_ (by assumption) ?_
      rotate_left
      · (intro W hSw; (try dsimp only at hSw); go_simp; (try with_reducible rfl))
      simp only [Act.put, List.setIfInBounds_toArray, List.set_cons_zero, List.set_cons_succ]
      refine take_run 14 (some 21) (v := ?_) rfl rfl (by kernel_rfl) (by kernel_rfl) (by kernel_rfl) (fun _ _ _ h => h) (by rfl) ?_ (by assumption) ?_
      rotate_left
      · (intro W hSw; (try dsimp only at hSw); go_simp; (try with_reducible rfl))
      simp only [Act.put, List.setIfInBounds_toArray, List.set_cons_zero, List.set_cons_succ]
      refine wpAnyH_ready (rs := [15]) (by kernel_rfl) (by simp) ?_
      refine AllReadyH.cons rfl (fun K4 hK4 => ?_) AllReadyH.nil
      go_simp
      have hal : Below w4.heap.size w4 (w4.alloc (.cells #[.string s0, .string s1, .string s2] 9)) := (Below.refl _ _).alloc (Nat.le_refl _) _
      have hl4 : w.heap.size < w4.heap.size := Nat.lt_of_lt_of_le (Nat.lt_of_lt_of_le (Nat.lt_of_lt_of_le (Nat.lt_of_lt_of_le hloc B1.out.size) hbw2.size) hbw3.size) hbw4.size
      refine hK4.out _ _ ?_ (fun hHeld4 => ?_)
      · exact ⟨(hal.cell (p := ⟨w.heap.size, 0, none⟩) hl4).trans d4.c0, (hal.cell (p := ⟨w.heap.size, 1, none⟩) hl4).trans d4.c1, (hal.cell (p := ⟨w.heap.size, 2, none⟩) hl4).trans d4.c2, (hal.cell (p := ⟨w1.heap.size, a.zone, none⟩) (Nat.lt_of_lt_of_le (Nat.lt_of_lt_of_le hgw2 hbw3.size) hbw4.size)).trans f4, (hal.cell (p := ⟨w2.heap.size, a.who, none⟩) (Nat.lt_of_lt_of_le hgw3 hbw4.size)).trans g4, (hal.cell (p := ⟨w3.heap.size, a.self, none⟩) hgw4).trans hcw4⟩
      clear hK4 K4 hHeld3x
      try simp only [Act.put, List.setIfInBounds_toArray, List.set_cons_zero, List.set_cons_succ]
      refine take_run 16 (some 3) (v := ?_) rfl rfl (by kernel_rfl) (by kernel_rfl) (by kernel_rfl) (fun _ _ _ h => h) (by rfl) ?_ (by assumption) ?_
      rotate_left
      · (intro W hSw; (try dsimp only at hSw); go_simp; (try with_reducible rfl))
      simp only [Act.put, List.setIfInBounds_toArray, List.set_cons_zero, List.set_cons_succ]
      refine wpAnyH_done (by kernel_rfl) ?_ _
      have h14 : Below w0.heap.size w0 w4 := ((B1.out.trans (hbw2.mono B1.out.size)).trans (hbw3.mono (Nat.le_trans B1.out.size hbw2.size))).trans (hbw4.mono (Nat.le_trans (Nat.le_trans B1.out.size hbw2.size) hbw3.size))
      have hlit : OwnStrs w0.heap.size (w4.alloc (.cells #[.string s0, .string s1, .string s2] 9)) (.slice (some ⟨w4.heap.size, 0, none⟩) 3 3) [s0.data.toList, s1.data.toList, s2.data.toList] := (OwnStrs.lit w4 [s0.data.toList, s1.data.toList, s2.data.toList] (by simp)).mono h14.size
      have hB5 : Below w0.heap.size w0 (w4.alloc (.cells #[.string s0, .string s1, .string s2] 9)) := h14.trans (hal.mono h14.size)
      clear d2 d3 d4 hbw2 hbw3 hbw4 hcw2 hcw3 hcw4 hgw2 hgw3 hgw4 f3 f4 g4 hal hl4 h14 hHeld4 hcl hfr d1 B1
      generalize hw5 : w4.alloc (.cells #[.string s0, .string s1, .string s2] 9) = w5 at *
      clear hw5
      obtain ⟨v5, hv5⟩ : ∃ v5, v5 = (Value.slice (some ⟨w4.heap.size, 0, none⟩) 3 3) := ⟨_, rfl⟩
      rw [← hv5] at hlit
      rw [← hv5]
      clear hv5
      obtain ⟨l5, hl5⟩ : ∃ l, l = [s0.data.toList, s1.data.toList, s2.data.toList] := ⟨_, rfl⟩
      rw [← hl5] at hlit
      have E5 := Lib.hid hl5
      have N5 : Hid (l5.length ≤ 3) := Lib.hid (by rw [hl5]; simp)
      clear hl5
      have HO5 := Lib.hid hlit
      have B5 := Lib.hid hB5
      clear hlit hB5
      obtain ⟨hcl5, hfr5⟩ := below_cells B5.out
      go_wp2_with fail
      refine (M1.out _ (HE.out _ B5.out)).mono ?_
      rintro e w6 ⟨v6, rfl, ho, hb⟩
      have B6 := Lib.hid (B5.out.trans (hb.mono B5.out.size))
      have HX6 := Lib.hid ho.strs
      have HY6 := Lib.hid (HO5.out.below hb (Nat.le_refl _))
      have HL6 : Hid (l5.length + m1.length ≤ 1000000000) := Lib.hid (by have := L1.out; have := N5.out; omega)
      have hsz6 := B6.out.size
      clear ho hb hcl5 hfr5 HO5
      go_wp2_with (at_builtin; refine wpList_append_strs rfl (.tmp 23) (.tmp 26) rfl rfl HY6.out rfl HX6.out HL6.out hsz6 B6.out ?_)
      intro v7 w7 ho hb
      obtain ⟨l7, hl⟩ : ∃ l, l = l5 ++ m1 := ⟨_, rfl⟩
      rw [← hl] at ho
      have E7 := Lib.hid hl
      have N7 : Hid (l7.length ≤ 34) := Lib.hid (by rw [hl, List.length_append]; have := N5.out; have := L1.out; omega)
      clear hl
      have HO7 := Lib.hid ho
      have B7 := Lib.hid hb
      clear ho hb hsz6 HX6 HY6 HL6
      obtain ⟨hcl7, hfr7⟩ := below_cells B7.out
      go_wp2_with fail
      refine (M2.out _ (HE.out _ B7.out)).mono ?_
      rintro e w8 ⟨v8, rfl, ho, hb⟩
      have B8 := Lib.hid (B7.out.trans (hb.mono B7.out.size))
      have HX8 := Lib.hid ho.strs
      have HY8 := Lib.hid (HO7.out.below hb (Nat.le_refl _))
      have HL8 : Hid (l7.length + m2.length ≤ 1000000000) := Lib.hid (by have := L2.out; have := N7.out; omega)
      have hsz8 := B8.out.size
      clear ho hb hcl7 hfr7 HO7
      go_wp2_with (at_builtin; refine wpList_append_strs rfl (.tmp 28) (.tmp 31) rfl rfl HY8.out rfl HX8.out HL8.out hsz8 B8.out ?_)
      intro v9 w9 ho hb
      obtain ⟨l9, hl⟩ : ∃ l, l = l7 ++ m2 := ⟨_, rfl⟩
      rw [← hl] at ho
      have E9 := Lib.hid hl
      have N9 : Hid (l9.length ≤ 65) := Lib.hid (by rw [hl, List.length_append]; have := N7.out; have := L2.out; omega)
      clear hl
      have HO9 := Lib.hid ho
      have B9 := Lib.hid hb
      clear ho hb hsz8 HX8 HY8 HL8
      obtain ⟨hcl9, hfr9⟩ := below_cells B9.out
      go_wp2_with fail
      refine (M3.out _ (HE.out _ B9.out)).mono ?_
      rintro e w10 ⟨v10, rfl, ho, hb⟩
      have B10 := Lib.hid (B9.out.trans (hb.mono B9.out.size))
      have HX10 := Lib.hid ho.strs
      have HY10 := Lib.hid (HO9.out.below hb (Nat.le_refl _))
      have HL10 : Hid (l9.length + m3.length ≤ 1000000000) := Lib.hid (by have := L3.out; have := N9.out; omega)
      have hsz10 := B10.out.size
      clear ho hb hcl9 hfr9 HO9
      go_wp2_with (at_builtin; refine wpList_append_strs rfl (.tmp 33) (.tmp 36) rfl rfl HY10.out rfl HX10.out HL10.out hsz10 B10.out ?_)
      intro v11 w11 ho hb
      obtain ⟨l11, hl⟩ : ∃ l, l = l9 ++ m3 := ⟨_, rfl⟩
      rw [← hl] at ho
      have E11 := Lib.hid hl
      have N11 : Hid (l11.length ≤ 96) := Lib.hid (by rw [hl, List.length_append]; have := N9.out; have := L3.out; omega)
      clear hl
      have HO11 := Lib.hid ho
      have B11 := Lib.hid hb
      clear ho hb hsz10 HX10 HY10 HL10
      obtain ⟨hcl11, hfr11⟩ := below_cells B11.out
      go_wp2_with fail
      refine (M4.out _ (HE.out _ B11.out)).mono ?_
      rintro e w12 ⟨v12, rfl, ho, hb⟩
      have B12 := Lib.hid (B11.out.trans (hb.mono B11.out.size))
      have HX12 := Lib.hid ho.strs
      have HY12 := Lib.hid (HO11.out.below hb (Nat.le_refl _))
      have HL12 : Hid (l11.length + m4.length ≤ 1000000000) := Lib.hid (by have := L4.out; have := N11.out; omega)
      have hsz12 := B12.out.size
      clear ho hb hcl11 hfr11 HO11
      go_wp2_with (at_builtin; refine wpList_append_strs rfl (.tmp 38) (.tmp 41) rfl rfl HY12.out rfl HX12.out HL12.out hsz12 B12.out ?_)
      intro v13 w13 ho hb
      obtain ⟨l13, hl⟩ : ∃ l, l = l11 ++ m4 := ⟨_, rfl⟩
      rw [← hl] at ho
      have E13 := Lib.hid hl
      have N13 : Hid (l13.length ≤ 127) := Lib.hid (by rw [hl, List.length_append]; have := N11.out; have := L4.out; omega)
      clear hl
      have HO13 := Lib.hid ho
      have B13 := Lib.hid hb
      clear ho hb hsz12 HX12 HY12 HL12
      obtain ⟨hcl13, hfr13⟩ := below_cells B13.out
      go_wp2_with fail
      refine (M5.out _ (HE.out _ B13.out)).mono ?_
      rintro e w14 ⟨v14, rfl, ho, hb⟩
      have B14 := Lib.hid (B13.out.trans (hb.mono B13.out.size))
      have HX14 := Lib.hid ho.strs
      have HY14 := Lib.hid (HO13.out.below hb (Nat.le_refl _))
      have HL14 : Hid (l13.length + m5.length ≤ 1000000000) := Lib.hid (by have := L5.out; have := N13.out; omega)
      have hsz14 := B14.out.size
      clear ho hb hcl13 hfr13 HO13
      go_wp2_with (at_builtin; refine wpList_append_strs rfl (.tmp 52) (.tmp 55) rfl rfl HY14.out rfl HX14.out HL14.out hsz14 B14.out ?_)
      intro v15 w15 ho hb
      obtain ⟨l15, hl⟩ : ∃ l, l = l13 ++ m5 := ⟨_, rfl⟩
      rw [← hl] at ho
      have E15 := Lib.hid hl
      have N15 : Hid (l15.length ≤ 158) := Lib.hid (by rw [hl, List.length_append]; have := N13.out; have := L5.out; omega)
      clear hl
      have HO15 := Lib.hid ho
      have B15 := Lib.hid hb
      clear ho hb hsz14 HX14 HY14 HL14
      have d15 := BX.out.below B15.out HL.out
      obtain ⟨hcl15, hfr15⟩ := below_cells B15.out
      go_wp2_with fail
      refine wp_region_held_drew (S := (fun W : World => W.cell? ⟨w.heap.size, 9, none⟩ = some (.int .i64 (a.tap : Int)) ∧ W.cell? ⟨w.heap.size, 10, none⟩ = some (.int .i64 a.pow.kind) ∧ W.cell? ⟨w.heap.size, 11, none⟩ = some (.int .i64 a.pow.n) ∧ W.cell? ⟨w.heap.size, 12, none⟩ = some (.int .i64 a.tough.kind) ∧ W.cell? ⟨w.heap.size, 13, none⟩ = some (.int .i64 a.tough.n) ∧ W.cell? ⟨w.heap.size, 14, none⟩ = some (.int .i64 a.val.kind) ∧ W.cell? ⟨w.heap.size, 15, none⟩ = some (.int .i64 a.val.n))) (by kernel_rfl) ?_ (fun hHeld => ?_)
      · exact ⟨d15.c9, d15.c10, d15.c11, d15.c12, d15.c13, d15.c14, d15.c15⟩
      refine take_run 0 (some 57) (v := ?_) rfl rfl (by kernel_rfl) (by kernel_rfl) (by kernel_rfl) (fun _ _ _ h => h) (by rfl) ?_ (by assumption) ?_
      rotate_left
      · (intro W hSw; (try dsimp only at hSw); go_simp; (try with_reducible rfl))
      simp only [Act.put, List.setIfInBounds_toArray, List.set_cons_zero, List.set_cons_succ]
      refine take_run 2 (some 59) (v := ?_) rfl rfl (by kernel_rfl) (by kernel_rfl) (by kernel_rfl) (fun _ _ _ h => h) (by rfl) ?_ (by assumption) ?_
      rotate_left
      · (intro W hSw; (try dsimp only at hSw); go_simp; (try with_reducible rfl))
      simp only [Act.put, List.setIfInBounds_toArray, List.set_cons_zero, List.set_cons_succ]
      refine take_run 3 (some 60) (v := ?_) rfl rfl (by kernel_rfl) (by kernel_rfl) (by kernel_rfl) (fun _ _ _ h => h) (by rfl) ?_ (by assumption) ?_
      rotate_left
      · (intro W hSw; (try dsimp only at hSw); go_simp; (try with_reducible rfl))
      simp only [Act.put, List.setIfInBounds_toArray, List.set_cons_zero, List.set_cons_succ]
      refine take_run 6 (some 63) (v := ?_) rfl rfl (by kernel_rfl) (by kernel_rfl) (by kernel_rfl) (fun _ _ _ h => h) (by rfl) ?_ (by assumption) ?_
      rotate_left
      · (intro W hSw; (try dsimp only at hSw); go_simp; (try with_reducible rfl))
      simp only [Act.put, List.setIfInBounds_toArray, List.set_cons_zero, List.set_cons_succ]
      refine take_run 7 (some 64) (v := ?_) rfl rfl (by kernel_rfl) (by kernel_rfl) (by kernel_rfl) (fun _ _ _ h => h) (by rfl) ?_ (by assumption) ?_
      rotate_left
      · (intro W hSw; (try dsimp only at hSw); go_simp; (try with_reducible rfl))
      simp only [Act.put, List.setIfInBounds_toArray, List.set_cons_zero, List.set_cons_succ]
      refine take_run 9 (some 66) (v := ?_) rfl rfl (by kernel_rfl) (by kernel_rfl) (by kernel_rfl) (fun _ _ _ h => h) (by rfl) ?_ (by assumption) ?_
      rotate_left
      · (intro W hSw; (try dsimp only at hSw); go_simp; (try with_reducible rfl))
      simp only [Act.put, List.setIfInBounds_toArray, List.set_cons_zero, List.set_cons_succ]
      refine take_run 10 (some 67) (v := ?_) rfl rfl (by kernel_rfl) (by kernel_rfl) (by kernel_rfl) (fun _ _ _ h => h) (by rfl) ?_ (by assumption) ?_
      rotate_left
      · (intro W hSw; (try dsimp only at hSw); go_simp; (try with_reducible rfl))
      simp only [Act.put, List.setIfInBounds_toArray, List.set_cons_zero, List.set_cons_succ]
      refine take_run 12 (some 69) (v := ?_) rfl rfl (by kernel_rfl) (by kernel_rfl) (by kernel_rfl) (fun _ _ _ h => h) (by rfl) ?_ (by assumption) ?_
      rotate_left
      · (intro W hSw; (try dsimp only at hSw); go_simp; (try with_reducible rfl))
      simp only [Act.put, List.setIfInBounds_toArray, List.set_cons_zero, List.set_cons_succ]
      refine take_run 13 (some 70) (v := ?_) rfl rfl (by kernel_rfl) (by kernel_rfl) (by kernel_rfl) (fun _ _ _ h => h) (by rfl) ?_ (by assumption) ?_
      rotate_left
      · (intro W hSw; (try dsimp only at hSw); go_simp; (try with_reducible rfl))
      simp only [Act.put, List.setIfInBounds_toArray, List.set_cons_zero, List.set_cons_succ]
      refine wpAnyH_ready (rs := [1]) (by kernel_rfl) (by simp) ?_
      refine AllReadyH.cons rfl (fun K1 hK1 => ?_) AllReadyH.nil
      go_simp
      go_at_call 88
      refine (tabAt tab_tapL (C := w15.heap.size) (w0 := w15) (by go_grown) (Nat.le_refl _) X9.out).mono ?_
      rintro e w16 ⟨rfl, hcw16, hgw16, hbw16⟩
      change w16.cell? ⟨w15.heap.size, a.tap, none⟩ = some (.string s9) at hcw16
      change w15.heap.size < w16.heap.size at hgw16
      go_simp
      have d16 := d15.below hbw16 (Nat.lt_of_lt_of_le HL.out B15.out.size)
      refine hK1.out _ _ ?_ (fun hHeld1 => ?_)
      · exact ⟨d16.c9, d16.c10, d16.c11, d16.c12, d16.c13, d16.c14, d16.c15⟩
      clear hK1 K1 hHeld
      have hHeld1x : (fun W : World => W.cell? ⟨w.heap.size, 9, none⟩ = some (.int .i64 (a.tap : Int)) ∧ W.cell? ⟨w.heap.size, 10, none⟩ = some (.int .i64 a.pow.kind) ∧ W.cell? ⟨w.heap.size, 11, none⟩ = some (.int .i64 a.pow.n) ∧ W.cell? ⟨w.heap.size, 12, none⟩ = some (.int .i64 a.tough.kind) ∧ W.cell? ⟨w.heap.size, 13, none⟩ = some (.int .i64 a.tough.n) ∧ W.cell? ⟨w.heap.size, 14, none⟩ = some (.int .i64 a.val.kind) ∧ W.cell? ⟨w.heap.size, 15, none⟩ = some (.int .i64 a.val.n) ∧ W.cell? ⟨w15.heap.size, a.tap, none⟩ = some (.string s9)) _ := ⟨d16.c9, d16.c10, d16.c11, d16.c12, d16.c13, d16.c14, d16.c15, hcw16⟩
      refine wpAnyH_more (S' := (fun W : World => W.cell? ⟨w.heap.size, 9, none⟩ = some (.int .i64 (a.tap : Int)) ∧ W.cell? ⟨w.heap.size, 10, none⟩ = some (.int .i64 a.pow.kind) ∧ W.cell? ⟨w.heap.size, 11, none⟩ = some (.int .i64 a.pow.n) ∧ W.cell? ⟨w.heap.size, 12, none⟩ = some (.int .i64 a.tough.kind) ∧ W.cell? ⟨w.heap.size, 13, none⟩ = some (.int .i64 a.tough.n) ∧ W.cell? ⟨w.heap.size, 14, none⟩ = some (.int .i64 a.val.kind) ∧ W.cell? ⟨w.heap.size, 15, none⟩ = some (.int .i64 a.val.n) ∧ W.cell? ⟨w15.heap.size, a.tap, none⟩ = some (.string s9))) (fun W h => ⟨h.1, h.2.1, h.2.2.1, h.2.2.2.1, h.2.2.2.2.1, h.2.2.2.2.2.1, h.2.2.2.2.2.2.1⟩) _ _ _ _ ?_
      clear hHeld1
      try simp only [Act.put, List.setIfInBounds_toArray, List.set_cons_zero, List.set_cons_succ]
      refine take_run 4 (some 61) (v := ?_) rfl rfl (by kernel_rfl) (by kernel_rfl) (by kernel_rfl) (fun _ _ _ h => h) (by rfl) ?_ (by assumption) ?_
      rotate_left
      · (intro W hSw; (try dsimp only at hSw); go_simp; (try with_reducible rfl))
      simp only [Act.put, List.setIfInBounds_toArray, List.set_cons_zero, List.set_cons_succ]
      refine take_run 5 (some 62) (v := ?_) rfl rfl (by kernel_rfl) (by kernel_rfl) (by kernel_rfl) (fun _ _ _ h => h) (by rfl) ?_ (by assumption) ?_
      rotate_left
      · (intro W hSw; (try dsimp only at hSw); go_simp; (try with_reducible rfl))
      simp only [Act.put, List.setIfInBounds_toArray, List.set_cons_zero, List.set_cons_succ]
      refine wpAnyH_ready (rs := [8]) (by kernel_rfl) (by simp) ?_
      refine AllReadyH.cons rfl (fun K2 hK2 => ?_) AllReadyH.nil
      go_simp
      have hB16 : Below w0.heap.size w0 w16 := B15.out.trans (hbw16.mono B15.out.size)
      go_at_call 89
      refine (P0.out _ (HE.out _ hB16)).mono ?_
      rintro e w17 ⟨rfl, hbw17⟩
      have d17 := d16.below hbw17 (Nat.lt_of_lt_of_le (Nat.lt_of_lt_of_le HL.out B15.out.size) hbw16.size)
      have tf17 := (hbw17.cell (p := ⟨w15.heap.size, a.tap, none⟩) (hgw16)).trans hcw16
      go_simp
      refine hK2.out _ _ ?_ (fun hHeld2 => ?_)
      · exact ⟨d17.c9, d17.c10, d17.c11, d17.c12, d17.c13, d17.c14, d17.c15, tf17⟩
      clear hK2 K2 hHeld1x
      try simp only [Act.put, List.setIfInBounds_toArray, List.set_cons_zero, List.set_cons_succ]
      refine wpAnyH_ready (rs := [11]) (by kernel_rfl) (by simp) ?_
      refine AllReadyH.cons rfl (fun K3 hK3 => ?_) AllReadyH.nil
      go_simp
      have hB17 : Below w0.heap.size w0 w17 := hB16.trans (hbw17.mono hB16.size)
      go_at_call 89
      refine (P1.out _ (HE.out _ hB17)).mono ?_
      rintro e w18 ⟨rfl, hbw18⟩
      have d18 := d17.below hbw18 (Nat.lt_of_lt_of_le (Nat.lt_of_lt_of_le (Nat.lt_of_lt_of_le HL.out B15.out.size) hbw16.size) hbw17.size)
      have tf18 := (hbw18.cell (p := ⟨w15.heap.size, a.tap, none⟩) (Nat.lt_of_lt_of_le (hgw16) hbw17.size)).trans tf17
      go_simp
      refine hK3.out _ _ ?_ (fun hHeld3 => ?_)
      · exact ⟨d18.c9, d18.c10, d18.c11, d18.c12, d18.c13, d18.c14, d18.c15, tf18⟩
      clear hK3 K3 hHeld2
      try simp only [Act.put, List.setIfInBounds_toArray, List.set_cons_zero, List.set_cons_succ]
      refine wpAnyH_ready (rs := [14]) (by kernel_rfl) (by simp) ?_
      refine AllReadyH.cons rfl (fun K4 hK4 => ?_) AllReadyH.nil
      go_simp
      have hB18 : Below w0.heap.size w0 w18 := hB17.trans (hbw18.mono hB17.size)
      go_at_call 89
      refine (P2.out _ (HE.out _ hB18)).mono ?_
      rintro e w19 ⟨rfl, hbw19⟩
      have d19 := d18.below hbw19 (Nat.lt_of_lt_of_le (Nat.lt_of_lt_of_le (Nat.lt_of_lt_of_le (Nat.lt_of_lt_of_le HL.out B15.out.size) hbw16.size) hbw17.size) hbw18.size)
      have tf19 := (hbw19.cell (p := ⟨w15.heap.size, a.tap, none⟩) (Nat.lt_of_lt_of_le (Nat.lt_of_lt_of_le (hgw16) hbw17.size) hbw18.size)).trans tf18
      go_simp
      refine hK4.out _ _ ?_ (fun hHeld4 => ?_)
      · exact ⟨d19.c9, d19.c10, d19.c11, d19.c12, d19.c13, d19.c14, d19.c15, tf19⟩
      clear hK4 K4 hHeld3
      try simp only [Act.put, List.setIfInBounds_toArray, List.set_cons_zero, List.set_cons_succ]
      refine wpAnyH_ready (rs := [15]) (by kernel_rfl) (by simp) ?_
      refine AllReadyH.cons rfl (fun K5 hK5 => ?_) AllReadyH.nil
      go_simp
      have hB19 : Below w0.heap.size w0 w19 := hB18.trans (hbw19.mono hB18.size)
      have hal : Below w19.heap.size w19 (w19.alloc (.cells #[.string s9, .string sp, .string st, .string sv] 9)) := (Below.refl _ _).alloc (Nat.le_refl _) _
      have d20 := d19.below hal (Nat.lt_of_lt_of_le (Nat.lt_of_lt_of_le (Nat.lt_of_lt_of_le (Nat.lt_of_lt_of_le (Nat.lt_of_lt_of_le HL.out B15.out.size) hbw16.size) hbw17.size) hbw18.size) hbw19.size)
      refine hK5.out _ _ ?_ (fun hHeld5 => ?_)
      · exact ⟨d20.c9, d20.c10, d20.c11, d20.c12, d20.c13, d20.c14, d20.c15, (hal.cell (p := ⟨w15.heap.size, a.tap, none⟩) (Nat.lt_of_lt_of_le (Nat.lt_of_lt_of_le (Nat.lt_of_lt_of_le (hgw16) hbw17.size) hbw18.size) hbw19.size)).trans tf19⟩
      clear hK5 K5 hHeld4
      try simp only [Act.put, List.setIfInBounds_toArray, List.set_cons_zero, List.set_cons_succ]
      refine wpAnyH_ready (rs := [16]) (by kernel_rfl) (by simp) ?_
      refine AllReadyH.cons rfl (fun K6 hK6 => ?_) AllReadyH.nil
      have hBa : Below w0.heap.size w0 (w19.alloc (.cells #[.string s9, .string sp, .string st, .string sv] 9)) := hB19.trans (hal.mono hB19.size)
      have hch : Below w15.heap.size w15 (w19.alloc (.cells #[.string s9, .string sp, .string st, .string sv] 9)) := (((hbw16.trans (hbw17.mono hbw16.size)).trans (hbw18.mono (Nat.le_trans hbw16.size hbw17.size))).trans (hbw19.mono (Nat.le_trans (Nat.le_trans hbw16.size hbw17.size) hbw18.size))).trans (hal.mono (Nat.le_trans (Nat.le_trans (Nat.le_trans hbw16.size hbw17.size) hbw18.size) hbw19.size))
      have HY := Lib.hid (HO15.out.below hch (Nat.le_refl _))
      have HX : Hid (Strs (w19.alloc (.cells #[.string s9, .string sp, .string st, .string sv] 9)) (.slice (some ⟨w19.heap.size, 0, none⟩) 4 4) [s9.data.toList, sp.data.toList, st.data.toList, sv.data.toList]) := Lib.hid (OwnStrs.lit w19 [s9.data.toList, sp.data.toList, st.data.toList, sv.data.toList] (by simp)).strs
      have HLL : Hid (l15.length + [s9.data.toList, sp.data.toList, st.data.toList, sv.data.toList].length ≤ 1000000000) := Lib.hid (by have := N15.out; simp only [List.length_cons, List.length_nil]; omega)
      refine step_append_far rfl (.tmp 57) (.tmp 72) rfl rfl HY.out rfl HX.out HLL.out hBa.size hBa (fun vF wF hoF hbF hfar => ?_)
      have dF := BX.out.below hbF HL.out
      refine hK6.out _ _ ?_ (fun hHeld6 => ?_)
      · exact ⟨dF.c9, dF.c10, dF.c11, dF.c12, dF.c13, dF.c14, dF.c15, (hfar w15.heap.size a.tap (Nat.lt_of_lt_of_le (Nat.lt_of_lt_of_le (Nat.lt_of_lt_of_le (Nat.lt_of_lt_of_le (hgw16) hbw17.size) hbw18.size) hbw19.size) hal.size) (fun e => by have := (World.ownsRow.lt HO15.out _ e.symm).2; omega)).trans ((hal.cell (p := ⟨w15.heap.size, a.tap, none⟩) (Nat.lt_of_lt_of_le (Nat.lt_of_lt_of_le (Nat.lt_of_lt_of_le (hgw16) hbw17.size) hbw18.size) hbw19.size)).trans tf19)⟩
      clear hK6 K6 hHeld5
      try simp only [Act.put, List.setIfInBounds_toArray]
      refine take_run 17 (some 3) (v := ?_) rfl rfl (by kernel_rfl) (by kernel_rfl) (by kernel_rfl) (fun _ _ _ h => h) (by rfl) ?_ (by assumption) ?_
      rotate_left
      · (intro W hSw; (try dsimp only at hSw); go_simp; (try with_reducible rfl))
      simp only [Act.put]
      refine wpAnyH_done (by kernel_rfl) ?_ _
      have HD := Lib.hid (delEmpty (B := w0.heap.size) (w0 := w0) hoF hbF (by rw [List.length_append]; simp only [List.length_cons]; omega))
      clear hoF hbF hfar dF hBa hch hal hB16 hB17 hB18 hB19 hcl15 hfr15
      go_wp2_with fail
      refine HD.out.mono ?_
      rintro e wG ⟨vG, rfl, hoG, hbG⟩
      have hpe := HPE.out
      rw [HQ.out] at hpe
      rw [List.append_nil] at hpe
      rw [← E5.out, ← E7.out, ← E9.out, ← E11.out, ← E13.out, ← E15.out] at hpe
      rw [hpe] at hoG
      have BG := Lib.hid hbG
      clear HD HPE hpe HQ hbG
      rcases hoG.shape with ⟨rfl, hnil⟩ | ⟨g, cap, rfl, -, -, -, -, -⟩
      · have HN := Lib.hid hnil
        clear hoG hnil
        go_wp2_with fail
        go_ret
        exact ⟨by rw [HT.out, HN.out]; rfl, HB.out.trans (BG.out.mono HB.out.size)⟩
      · by_cases h0 : ps = []
        · have e0 : ps.length = 0 := by rw [h0]; rfl
          have HN := Lib.hid h0
          clear hoG h0
          go_wp2_with fail
          go_ret
          exact ⟨by rw [HT.out, HN.out]; rfl, HB.out.trans (BG.out.mono HB.out.size)⟩
        · have e0 : ¬ ps.length = 0 := fun h => h0 (List.eq_nil_of_length_eq_zero h)
          have HJ := Lib.hid (wordJoin (.slice (some ⟨g, 0, none⟩) ps.length cap) ps ⟨#[32]⟩ wG hoG.strs (by have := HPL.out; omega) (by have := HZ.out; show (Lib.join ps [32]).length ≤ _; omega))
          have HN : Hid (Fil.textP ps = Lib.join ps [32]) := Lib.hid (by unfold Fil.textP; rw [if_neg h0])
          clear hoG h0
          go_wp2_with fail
          refine HJ.out.mono ?_
          rintro e wH ⟨rfl, hbH⟩
          go_wp2_with fail
          go_ret
          exact ⟨by rw [HT.out, HN.out]; rfl, HB.out.trans ((BG.out.trans (hbH.mono BG.out.size)).mono HB.out.size)⟩
    · have HQ : Hid (Fil.one (Fil.subW fs.data.toList) = [(⟨#[115, 117, 98, 58]⟩ ++ fs : ByteArray).data.toList]) := Lib.hid (by
        rw [cat_bytes]; unfold Fil.subW; rw [if_neg hsub]; unfold Fil.one; rw [if_neg (by intro h; have := congrArg List.length h; simp [Fil.sSub] at this)]; rfl)
      have hcat : ∀ W : World, (Op.stringOp .add ⟨#[115, 117, 98, 58]⟩ fs).run Tryz.prog W = .ok (.string (⟨#[115, 117, 98, 58]⟩ ++ fs)) W := fun W => run_string_add_sum W _ _ (by have : (⟨#[115, 117, 98, 58]⟩ : ByteArray).size = 4 := rfl; have := HFL.out; omega)
      have HSZ := Lib.hid hs
      clear hsub hs hf
      go_enter Tryz.func51, Tryz.ntmps51
      go_wp2_with fail
      rw [← hw0]
      clear hw0
      refine HC.out.mono ?_
      rw [HVB.out]
      rintro e w1 ⟨rfl, hb1⟩
      have B1 := Lib.hid hb1
      obtain ⟨hcl, hfr⟩ := below_cells hb1
      have d1 := BX.out.below hb1 hloc
      clear hb1
      go_wp2_with fail
      refine wp_region_held_drew (S := (fun W : World => W.cell? ⟨w.heap.size, 0, none⟩ = some (.int .i64 (a.zone : Int)) ∧ W.cell? ⟨w.heap.size, 1, none⟩ = some (.int .i64 (a.who : Int)) ∧ W.cell? ⟨w.heap.size, 2, none⟩ = some (.int .i64 (a.self : Int)))) (by kernel_rfl) ?_ (fun hHeld => ?_)
      · exact ⟨d1.c0, d1.c1, d1.c2⟩
      refine take_run 1 (some 8) (v := ?_) rfl rfl (by kernel_rfl) (by kernel_rfl) (by kernel_rfl) (fun _ _ _ h => h) (by rfl) ?_ (by assumption) ?_
      rotate_left
      · (intro W hSw; (try dsimp only at hSw); go_simp; (try with_reducible rfl))
      simp only [Act.put, List.setIfInBounds_toArray, List.set_cons_zero, List.set_cons_succ]
      refine take_run 2 (some 9) (v := ?_) rfl rfl (by kernel_rfl) (by kernel_rfl) (by kernel_rfl) (fun _ _ _ h => h) (by rfl) ?_ (by assumption) ?_
      rotate_left
      · (intro W hSw; (try dsimp only at hSw); go_simp; (try with_reducible rfl))
      simp only [Act.put, List.setIfInBounds_toArray, List.set_cons_zero, List.set_cons_succ]
      refine take_run 6 (some 13) (v := ?_) rfl rfl (by kernel_rfl) (by kernel_rfl) (by kernel_rfl) (fun _ _ _ h => h) (by rfl) ?_ (by assumption) ?_
      rotate_left
      · (intro W hSw; (try dsimp only at hSw); go_simp; (try with_reducible rfl))
      simp only [Act.put, List.setIfInBounds_toArray, List.set_cons_zero, List.set_cons_succ]
      refine take_run 7 (some 14) (v := ?_) rfl rfl (by kernel_rfl) (by kernel_rfl) (by kernel_rfl) (fun _ _ _ h => h) (by rfl) ?_ (by assumption) ?_
      rotate_left
      · (intro W hSw; (try dsimp only at hSw); go_simp; (try with_reducible rfl))
      simp only [Act.put, List.setIfInBounds_toArray, List.set_cons_zero, List.set_cons_succ]
      refine take_run 11 (some 18) (v := ?_) rfl rfl (by kernel_rfl) (by kernel_rfl) (by kernel_rfl) (fun _ _ _ h => h) (by rfl) ?_ (by assumption) ?_
      rotate_left
      · (intro W hSw; (try dsimp only at hSw); go_simp; (try with_reducible rfl))
      simp only [Act.put, List.setIfInBounds_toArray, List.set_cons_zero, List.set_cons_succ]
      refine take_run 12 (some 19) (v := ?_) rfl rfl (by kernel_rfl) (by kernel_rfl) (by kernel_rfl) (fun _ _ _ h => h) (by rfl) ?_ (by assumption) ?_
      rotate_left
      · (intro W hSw; (try dsimp only at hSw); go_simp; (try with_reducible rfl))
      simp only [Act.put, List.setIfInBounds_toArray, List.set_cons_zero, List.set_cons_succ]
      refine wpAnyH_ready (rs := [0]) (by kernel_rfl) (by simp) ?_
      refine AllReadyH.cons rfl (fun K1 hK1 => ?_) AllReadyH.nil
      go_simp
      go_at_call 81
      refine (tabAt tab_zonesL (C := w1.heap.size) (w0 := w1) (by go_grown) (Nat.le_refl _) X0.out).mono ?_
      rintro e w2 ⟨rfl, hcw2, hgw2, hbw2⟩
      change w2.cell? ⟨w1.heap.size, a.zone, none⟩ = some (.string s0) at hcw2
      change w1.heap.size < w2.heap.size at hgw2
      go_simp
      have d2 := d1.below hbw2 (Nat.lt_of_lt_of_le hloc B1.out.size)
      refine hK1.out _ _ ?_ (fun hHeld1 => ?_)
      · exact ⟨d2.c0, d2.c1, d2.c2⟩
      clear hK1 K1 hHeld
      have hHeld1x : (fun W : World => W.cell? ⟨w.heap.size, 0, none⟩ = some (.int .i64 (a.zone : Int)) ∧ W.cell? ⟨w.heap.size, 1, none⟩ = some (.int .i64 (a.who : Int)) ∧ W.cell? ⟨w.heap.size, 2, none⟩ = some (.int .i64 (a.self : Int)) ∧ W.cell? ⟨w1.heap.size, a.zone, none⟩ = some (.string s0)) _ := ⟨d2.c0, d2.c1, d2.c2, hcw2⟩
      refine wpAnyH_more (S' := (fun W : World => W.cell? ⟨w.heap.size, 0, none⟩ = some (.int .i64 (a.zone : Int)) ∧ W.cell? ⟨w.heap.size, 1, none⟩ = some (.int .i64 (a.who : Int)) ∧ W.cell? ⟨w.heap.size, 2, none⟩ = some (.int .i64 (a.self : Int)) ∧ W.cell? ⟨w1.heap.size, a.zone, none⟩ = some (.string s0))) (fun W h => ⟨h.1, h.2.1, h.2.2.1⟩) _ _ _ _ ?_
      clear hHeld1
      try simp only [Act.put, List.setIfInBounds_toArray, List.set_cons_zero, List.set_cons_succ]
      refine take_run 3 (some 10) (v := ?_) rfl rfl (by kernel_rfl) (by kernel_rfl) (by kernel_rfl) (fun _ _ _ h => h) (by rfl) ?_ (by assumption) ?_
      rotate_left
      · (intro W hSw; (try dsimp only at hSw); go_simp; (try with_reducible rfl))
      simp only [Act.put, List.setIfInBounds_toArray, List.set_cons_zero, List.set_cons_succ]
      refine take_run 4 (some 11) (v := ?_) rfl rfl (by kernel_rfl) (by kernel_rfl) (by kernel_rfl) (fun _ _ _ h => h) (by rfl) ?_ (by assumption) ?_
      rotate_left
      · (intro W hSw; (try dsimp only at hSw); go_simp; (try with_reducible rfl))
      simp only [Act.put, List.setIfInBounds_toArray, List.set_cons_zero, List.set_cons_succ]
      refine wpAnyH_ready (rs := [5]) (by kernel_rfl) (by simp) ?_
      refine AllReadyH.cons rfl (fun K2 hK2 => ?_) AllReadyH.nil
      go_simp
      go_at_call 82
      refine (tabAt tab_whoL (C := w2.heap.size) (w0 := w2) (by go_grown) (Nat.le_refl _) X1.out).mono ?_
      rintro e w3 ⟨rfl, hcw3, hgw3, hbw3⟩
      change w3.cell? ⟨w2.heap.size, a.who, none⟩ = some (.string s1) at hcw3
      change w2.heap.size < w3.heap.size at hgw3
      go_simp
      have d3 := d2.below hbw3 (Nat.lt_of_lt_of_le (Nat.lt_of_lt_of_le hloc B1.out.size) hbw2.size)
      have f3 := (hbw3.cell (p := ⟨w1.heap.size, a.zone, none⟩) hgw2).trans hcw2
      refine hK2.out _ _ ?_ (fun hHeld2 => ?_)
      · exact ⟨d3.c0, d3.c1, d3.c2, f3⟩
      clear hK2 K2 hHeld1x
      have hHeld2x : (fun W : World => W.cell? ⟨w.heap.size, 0, none⟩ = some (.int .i64 (a.zone : Int)) ∧ W.cell? ⟨w.heap.size, 1, none⟩ = some (.int .i64 (a.who : Int)) ∧ W.cell? ⟨w.heap.size, 2, none⟩ = some (.int .i64 (a.self : Int)) ∧ W.cell? ⟨w1.heap.size, a.zone, none⟩ = some (.string s0) ∧ W.cell? ⟨w2.heap.size, a.who, none⟩ = some (.string s1)) _ := ⟨d3.c0, d3.c1, d3.c2, f3, hcw3⟩
      refine wpAnyH_more (S' := (fun W : World => W.cell? ⟨w.heap.size, 0, none⟩ = some (.int .i64 (a.zone : Int)) ∧ W.cell? ⟨w.heap.size, 1, none⟩ = some (.int .i64 (a.who : Int)) ∧ W.cell? ⟨w.heap.size, 2, none⟩ = some (.int .i64 (a.self : Int)) ∧ W.cell? ⟨w1.heap.size, a.zone, none⟩ = some (.string s0) ∧ W.cell? ⟨w2.heap.size, a.who, none⟩ = some (.string s1))) (fun W h => ⟨h.1, h.2.1, h.2.2.1, h.2.2.2.1⟩) _ _ _ _ ?_
      clear hHeld2
      try simp only [Act.put, List.setIfInBounds_toArray, List.set_cons_zero, List.set_cons_succ]
      refine take_run 8 (some 15) (v := ?_) rfl rfl (by kernel_rfl) (by kernel_rfl) (by kernel_rfl) (fun _ _ _ h => h) (by rfl) ?_ (by assumption) ?_
      rotate_left
      · (intro W hSw; (try dsimp only at hSw); go_simp; (try with_reducible rfl))
      simp only [Act.put, List.setIfInBounds_toArray, List.set_cons_zero, List.set_cons_succ]
      refine take_run 9 (some 16) (v := ?_) rfl rfl (by kernel_rfl) (by kernel_rfl) (by kernel_rfl) (fun _ _ _ h => h) (by rfl) ?_ (by assumption) ?_
      rotate_left
      · (intro W hSw; (try dsimp only at hSw); go_simp; (try with_reducible rfl))
      simp only [Act.put, List.setIfInBounds_toArray, List.set_cons_zero, List.set_cons_succ]
      refine wpAnyH_ready (rs := [10]) (by kernel_rfl) (by simp) ?_
      refine AllReadyH.cons rfl (fun K3 hK3 => ?_) AllReadyH.nil
      go_simp
      go_at_call 83
      refine (tabAt tab_selfL (C := w3.heap.size) (w0 := w3) (by go_grown) (Nat.le_refl _) X2.out).mono ?_
      rintro e w4 ⟨rfl, hcw4, hgw4, hbw4⟩
      change w4.cell? ⟨w3.heap.size, a.self, none⟩ = some (.string s2) at hcw4
      change w3.heap.size < w4.heap.size at hgw4
      go_simp
      have d4 := d3.below hbw4 (Nat.lt_of_lt_of_le (Nat.lt_of_lt_of_le (Nat.lt_of_lt_of_le hloc B1.out.size) hbw2.size) hbw3.size)
      have f4 := (hbw4.cell (p := ⟨w1.heap.size, a.zone, none⟩) (Nat.lt_of_lt_of_le hgw2 hbw3.size)).trans f3
      have g4 := (hbw4.cell (p := ⟨w2.heap.size, a.who, none⟩) hgw3).trans hcw3
      refine hK3.out _ _ ?_ (fun hHeld3 => ?_)
      · exact ⟨d4.c0, d4.c1, d4.c2, f4, g4⟩
      clear hK3 K3 hHeld2x
      have hHeld3x : (fun W : World => W.cell? ⟨w.heap.size, 0, none⟩ = some (.int .i64 (a.zone : Int)) ∧ W.cell? ⟨w.heap.size, 1, none⟩ = some (.int .i64 (a.who : Int)) ∧ W.cell? ⟨w.heap.size, 2, none⟩ = some (.int .i64 (a.self : Int)) ∧ W.cell? ⟨w1.heap.size, a.zone, none⟩ = some (.string s0) ∧ W.cell? ⟨w2.heap.size, a.who, none⟩ = some (.string s1) ∧ W.cell? ⟨w3.heap.size, a.self, none⟩ = some (.string s2)) _ := ⟨d4.c0, d4.c1, d4.c2, f4, g4, hcw4⟩
      refine wpAnyH_more (S' := (fun W : World => W.cell? ⟨w.heap.size, 0, none⟩ = some (.int .i64 (a.zone : Int)) ∧ W.cell? ⟨w.heap.size, 1, none⟩ = some (.int .i64 (a.who : Int)) ∧ W.cell? ⟨w.heap.size, 2, none⟩ = some (.int .i64 (a.self : Int)) ∧ W.cell? ⟨w1.heap.size, a.zone, none⟩ = some (.string s0) ∧ W.cell? ⟨w2.heap.size, a.who, none⟩ = some (.string s1) ∧ W.cell? ⟨w3.heap.size, a.self, none⟩ = some (.string s2))) (fun W h => ⟨h.1, h.2.1, h.2.2.1, h.2.2.2.1, h.2.2.2.2.1⟩) _ _ _ _ ?_
      clear hHeld3
      try simp only [Act.put, List.setIfInBounds_toArray, List.set_cons_zero, List.set_cons_succ]
      refine take_run 13 (some 20) (v := ?_) rfl rfl (by kernel_rfl) (by kernel_rfl) (by kernel_rfl) (fun _ _ _ h => h) (by rfl) ?_ (by assumption) ?_
      rotate_left
      · (intro W hSw; (try dsimp only at hSw); go_simp; (try with_reducible rfl))
      simp only [Act.put, List.setIfInBounds_toArray, List.set_cons_zero, List.set_cons_succ]
      refine take_run 14 (some 21) (v := ?_) rfl rfl (by kernel_rfl) (by kernel_rfl) (by kernel_rfl) (fun _ _ _ h => h) (by rfl) ?_ (by assumption) ?_
      rotate_left
      · (intro W hSw; (try dsimp only at hSw); go_simp; (try with_reducible rfl))
      simp only [Act.put, List.setIfInBounds_toArray, List.set_cons_zero, List.set_cons_succ]
      refine wpAnyH_ready (rs := [15]) (by kernel_rfl) (by simp) ?_
      refine AllReadyH.cons rfl (fun K4 hK4 => ?_) AllReadyH.nil
      go_simp
      have hal : Below w4.heap.size w4 (w4.alloc (.cells #[.string s0, .string s1, .string s2] 9)) := (Below.refl _ _).alloc (Nat.le_refl _) _
      have hl4 : w.heap.size < w4.heap.size := Nat.lt_of_lt_of_le (Nat.lt_of_lt_of_le (Nat.lt_of_lt_of_le (Nat.lt_of_lt_of_le hloc B1.out.size) hbw2.size) hbw3.size) hbw4.size
      refine hK4.out _ _ ?_ (fun hHeld4 => ?_)
      · exact ⟨(hal.cell (p := ⟨w.heap.size, 0, none⟩) hl4).trans d4.c0, (hal.cell (p := ⟨w.heap.size, 1, none⟩) hl4).trans d4.c1, (hal.cell (p := ⟨w.heap.size, 2, none⟩) hl4).trans d4.c2, (hal.cell (p := ⟨w1.heap.size, a.zone, none⟩) (Nat.lt_of_lt_of_le (Nat.lt_of_lt_of_le hgw2 hbw3.size) hbw4.size)).trans f4, (hal.cell (p := ⟨w2.heap.size, a.who, none⟩) (Nat.lt_of_lt_of_le hgw3 hbw4.size)).trans g4, (hal.cell (p := ⟨w3.heap.size, a.self, none⟩) hgw4).trans hcw4⟩
      clear hK4 K4 hHeld3x
      try simp only [Act.put, List.setIfInBounds_toArray, List.set_cons_zero, List.set_cons_succ]
      refine take_run 16 (some 3) (v := ?_) rfl rfl (by kernel_rfl) (by kernel_rfl) (by kernel_rfl) (fun _ _ _ h => h) (by rfl) ?_ (by assumption) ?_
      rotate_left
      · (intro W hSw; (try dsimp only at hSw); go_simp; (try with_reducible rfl))
      simp only [Act.put, List.setIfInBounds_toArray, List.set_cons_zero, List.set_cons_succ]
      refine wpAnyH_done (by kernel_rfl) ?_ _
      have h14 : Below w0.heap.size w0 w4 := ((B1.out.trans (hbw2.mono B1.out.size)).trans (hbw3.mono (Nat.le_trans B1.out.size hbw2.size))).trans (hbw4.mono (Nat.le_trans (Nat.le_trans B1.out.size hbw2.size) hbw3.size))
      have hlit : OwnStrs w0.heap.size (w4.alloc (.cells #[.string s0, .string s1, .string s2] 9)) (.slice (some ⟨w4.heap.size, 0, none⟩) 3 3) [s0.data.toList, s1.data.toList, s2.data.toList] := (OwnStrs.lit w4 [s0.data.toList, s1.data.toList, s2.data.toList] (by simp)).mono h14.size
      have hB5 : Below w0.heap.size w0 (w4.alloc (.cells #[.string s0, .string s1, .string s2] 9)) := h14.trans (hal.mono h14.size)
      clear d2 d3 d4 hbw2 hbw3 hbw4 hcw2 hcw3 hcw4 hgw2 hgw3 hgw4 f3 f4 g4 hal hl4 h14 hHeld4 hcl hfr d1 B1
      generalize hw5 : w4.alloc (.cells #[.string s0, .string s1, .string s2] 9) = w5 at *
      clear hw5
      obtain ⟨v5, hv5⟩ : ∃ v5, v5 = (Value.slice (some ⟨w4.heap.size, 0, none⟩) 3 3) := ⟨_, rfl⟩
      rw [← hv5] at hlit
      rw [← hv5]
      clear hv5
      obtain ⟨l5, hl5⟩ : ∃ l, l = [s0.data.toList, s1.data.toList, s2.data.toList] := ⟨_, rfl⟩
      rw [← hl5] at hlit
      have E5 := Lib.hid hl5
      have N5 : Hid (l5.length ≤ 3) := Lib.hid (by rw [hl5]; simp)
      clear hl5
      have HO5 := Lib.hid hlit
      have B5 := Lib.hid hB5
      clear hlit hB5
      obtain ⟨hcl5, hfr5⟩ := below_cells B5.out
      go_wp2_with fail
      refine (M1.out _ (HE.out _ B5.out)).mono ?_
      rintro e w6 ⟨v6, rfl, ho, hb⟩
      have B6 := Lib.hid (B5.out.trans (hb.mono B5.out.size))
      have HX6 := Lib.hid ho.strs
      have HY6 := Lib.hid (HO5.out.below hb (Nat.le_refl _))
      have HL6 : Hid (l5.length + m1.length ≤ 1000000000) := Lib.hid (by have := L1.out; have := N5.out; omega)
      have hsz6 := B6.out.size
      clear ho hb hcl5 hfr5 HO5
      go_wp2_with (at_builtin; refine wpList_append_strs rfl (.tmp 23) (.tmp 26) rfl rfl HY6.out rfl HX6.out HL6.out hsz6 B6.out ?_)
      intro v7 w7 ho hb
      obtain ⟨l7, hl⟩ : ∃ l, l = l5 ++ m1 := ⟨_, rfl⟩
      rw [← hl] at ho
      have E7 := Lib.hid hl
      have N7 : Hid (l7.length ≤ 34) := Lib.hid (by rw [hl, List.length_append]; have := N5.out; have := L1.out; omega)
      clear hl
      have HO7 := Lib.hid ho
      have B7 := Lib.hid hb
      clear ho hb hsz6 HX6 HY6 HL6
      obtain ⟨hcl7, hfr7⟩ := below_cells B7.out
      go_wp2_with fail
      refine (M2.out _ (HE.out _ B7.out)).mono ?_
      rintro e w8 ⟨v8, rfl, ho, hb⟩
      have B8 := Lib.hid (B7.out.trans (hb.mono B7.out.size))
      have HX8 := Lib.hid ho.strs
      have HY8 := Lib.hid (HO7.out.below hb (Nat.le_refl _))
      have HL8 : Hid (l7.length + m2.length ≤ 1000000000) := Lib.hid (by have := L2.out; have := N7.out; omega)
      have hsz8 := B8.out.size
      clear ho hb hcl7 hfr7 HO7
      go_wp2_with (at_builtin; refine wpList_append_strs rfl (.tmp 28) (.tmp 31) rfl rfl HY8.out rfl HX8.out HL8.out hsz8 B8.out ?_)
      intro v9 w9 ho hb
      obtain ⟨l9, hl⟩ : ∃ l, l = l7 ++ m2 := ⟨_, rfl⟩
      rw [← hl] at ho
      have E9 := Lib.hid hl
      have N9 : Hid (l9.length ≤ 65) := Lib.hid (by rw [hl, List.length_append]; have := N7.out; have := L2.out; omega)
      clear hl
      have HO9 := Lib.hid ho
      have B9 := Lib.hid hb
      clear ho hb hsz8 HX8 HY8 HL8
      obtain ⟨hcl9, hfr9⟩ := below_cells B9.out
      go_wp2_with fail
      refine (M3.out _ (HE.out _ B9.out)).mono ?_
      rintro e w10 ⟨v10, rfl, ho, hb⟩
      have B10 := Lib.hid (B9.out.trans (hb.mono B9.out.size))
      have HX10 := Lib.hid ho.strs
      have HY10 := Lib.hid (HO9.out.below hb (Nat.le_refl _))
      have HL10 : Hid (l9.length + m3.length ≤ 1000000000) := Lib.hid (by have := L3.out; have := N9.out; omega)
      have hsz10 := B10.out.size
      clear ho hb hcl9 hfr9 HO9
      go_wp2_with (at_builtin; refine wpList_append_strs rfl (.tmp 33) (.tmp 36) rfl rfl HY10.out rfl HX10.out HL10.out hsz10 B10.out ?_)
      intro v11 w11 ho hb
      obtain ⟨l11, hl⟩ : ∃ l, l = l9 ++ m3 := ⟨_, rfl⟩
      rw [← hl] at ho
      have E11 := Lib.hid hl
      have N11 : Hid (l11.length ≤ 96) := Lib.hid (by rw [hl, List.length_append]; have := N9.out; have := L3.out; omega)
      clear hl
      have HO11 := Lib.hid ho
      have B11 := Lib.hid hb
      clear ho hb hsz10 HX10 HY10 HL10
      obtain ⟨hcl11, hfr11⟩ := below_cells B11.out
      go_wp2_with fail
      refine (M4.out _ (HE.out _ B11.out)).mono ?_
      rintro e w12 ⟨v12, rfl, ho, hb⟩
      have B12 := Lib.hid (B11.out.trans (hb.mono B11.out.size))
      have HX12 := Lib.hid ho.strs
      have HY12 := Lib.hid (HO11.out.below hb (Nat.le_refl _))
      have HL12 : Hid (l11.length + m4.length ≤ 1000000000) := Lib.hid (by have := L4.out; have := N11.out; omega)
      have hsz12 := B12.out.size
      clear ho hb hcl11 hfr11 HO11
      go_wp2_with (at_builtin; refine wpList_append_strs rfl (.tmp 38) (.tmp 41) rfl rfl HY12.out rfl HX12.out HL12.out hsz12 B12.out ?_)
      intro v13 w13 ho hb
      obtain ⟨l13, hl⟩ : ∃ l, l = l11 ++ m4 := ⟨_, rfl⟩
      rw [← hl] at ho
      have E13 := Lib.hid hl
      have N13 : Hid (l13.length ≤ 127) := Lib.hid (by rw [hl, List.length_append]; have := N11.out; have := L4.out; omega)
      clear hl
      have HO13 := Lib.hid ho
      have B13 := Lib.hid hb
      clear ho hb hsz12 HX12 HY12 HL12
      obtain ⟨hcl13, hfr13⟩ := below_cells B13.out
      have HL13 : Hid (l13.length ≤ 1000000000000) := Lib.hid (by have := N13.out; omega)
      have hsz13 := B13.out.size
      go_wp2_with (at_builtin; refine wpList_push_str rfl _ _ rfl rfl HO13.out _ rfl HL13.out hsz13 B13.out ?_)
      intro v14 w14 ho hb
      have ho : OwnStrs w0.heap.size w14 v14 (l13 ++ [(⟨#[115, 117, 98, 58]⟩ ++ fs : ByteArray).data.toList]) := by rw [cat_bytes]; exact ho
      obtain ⟨l14, hl⟩ : ∃ l, l = l13 ++ [(⟨#[115, 117, 98, 58]⟩ ++ fs : ByteArray).data.toList] := ⟨_, rfl⟩
      rw [← hl] at ho
      have E14 := Lib.hid hl
      have N14 : Hid (l14.length ≤ 128) := Lib.hid (by rw [hl, List.length_append]; have := N13.out; simp only [List.length_cons, List.length_nil]; omega)
      clear hl
      have HO14 := Lib.hid ho
      have B14 := Lib.hid hb
      clear ho hb hsz13 HL13 HO13 hcl13 hfr13
      obtain ⟨hcl14, hfr14⟩ := below_cells B14.out
      go_wp2_with fail
      refine (M5.out _ (HE.out _ B14.out)).mono ?_
      rintro e w15 ⟨v15, rfl, ho, hb⟩
      have B15 := Lib.hid (B14.out.trans (hb.mono B14.out.size))
      have HX15 := Lib.hid ho.strs
      have HY15 := Lib.hid (HO14.out.below hb (Nat.le_refl _))
      have HL15 : Hid (l14.length + m5.length ≤ 1000000000) := Lib.hid (by have := L5.out; have := N14.out; omega)
      have hsz15 := B15.out.size
      clear ho hb hcl14 hfr14 HO14
      go_wp2_with (at_builtin; refine wpList_append_strs rfl (.tmp 52) (.tmp 55) rfl rfl HY15.out rfl HX15.out HL15.out hsz15 B15.out ?_)
      intro v16 w16 ho hb
      obtain ⟨l16, hl⟩ : ∃ l, l = l14 ++ m5 := ⟨_, rfl⟩
      rw [← hl] at ho
      have E16 := Lib.hid hl
      have N16 : Hid (l16.length ≤ 159) := Lib.hid (by rw [hl, List.length_append]; have := N14.out; have := L5.out; omega)
      clear hl
      have HO16 := Lib.hid ho
      have B16 := Lib.hid hb
      clear ho hb hsz15 HX15 HY15 HL15
      have d16 := BX.out.below B16.out HL.out
      obtain ⟨hcl16, hfr16⟩ := below_cells B16.out
      go_wp2_with fail
      refine wp_region_held_drew (S := (fun W : World => W.cell? ⟨w.heap.size, 9, none⟩ = some (.int .i64 (a.tap : Int)) ∧ W.cell? ⟨w.heap.size, 10, none⟩ = some (.int .i64 a.pow.kind) ∧ W.cell? ⟨w.heap.size, 11, none⟩ = some (.int .i64 a.pow.n) ∧ W.cell? ⟨w.heap.size, 12, none⟩ = some (.int .i64 a.tough.kind) ∧ W.cell? ⟨w.heap.size, 13, none⟩ = some (.int .i64 a.tough.n) ∧ W.cell? ⟨w.heap.size, 14, none⟩ = some (.int .i64 a.val.kind) ∧ W.cell? ⟨w.heap.size, 15, none⟩ = some (.int .i64 a.val.n))) (by kernel_rfl) ?_ (fun hHeld => ?_)
      · exact ⟨d16.c9, d16.c10, d16.c11, d16.c12, d16.c13, d16.c14, d16.c15⟩
      refine take_run 0 (some 57) (v := ?_) rfl rfl (by kernel_rfl) (by kernel_rfl) (by kernel_rfl) (fun _ _ _ h => h) (by rfl) ?_ (by assumption) ?_
      rotate_left
      · (intro W hSw; (try dsimp only at hSw); go_simp; (try with_reducible rfl))
      simp only [Act.put, List.setIfInBounds_toArray, List.set_cons_zero, List.set_cons_succ]
      refine take_run 2 (some 59) (v := ?_) rfl rfl (by kernel_rfl) (by kernel_rfl) (by kernel_rfl) (fun _ _ _ h => h) (by rfl) ?_ (by assumption) ?_
      rotate_left
      · (intro W hSw; (try dsimp only at hSw); go_simp; (try with_reducible rfl))
      simp only [Act.put, List.setIfInBounds_toArray, List.set_cons_zero, List.set_cons_succ]
      refine take_run 3 (some 60) (v := ?_) rfl rfl (by kernel_rfl) (by kernel_rfl) (by kernel_rfl) (fun _ _ _ h => h) (by rfl) ?_ (by assumption) ?_
      rotate_left
      · (intro W hSw; (try dsimp only at hSw); go_simp; (try with_reducible rfl))
      simp only [Act.put, List.setIfInBounds_toArray, List.set_cons_zero, List.set_cons_succ]
      refine take_run 6 (some 63) (v := ?_) rfl rfl (by kernel_rfl) (by kernel_rfl) (by kernel_rfl) (fun _ _ _ h => h) (by rfl) ?_ (by assumption) ?_
      rotate_left
      · (intro W hSw; (try dsimp only at hSw); go_simp; (try with_reducible rfl))
      simp only [Act.put, List.setIfInBounds_toArray, List.set_cons_zero, List.set_cons_succ]
      refine take_run 7 (some 64) (v := ?_) rfl rfl (by kernel_rfl) (by kernel_rfl) (by kernel_rfl) (fun _ _ _ h => h) (by rfl) ?_ (by assumption) ?_
      rotate_left
      · (intro W hSw; (try dsimp only at hSw); go_simp; (try with_reducible rfl))
      simp only [Act.put, List.setIfInBounds_toArray, List.set_cons_zero, List.set_cons_succ]
      refine take_run 9 (some 66) (v := ?_) rfl rfl (by kernel_rfl) (by kernel_rfl) (by kernel_rfl) (fun _ _ _ h => h) (by rfl) ?_ (by assumption) ?_
      rotate_left
      · (intro W hSw; (try dsimp only at hSw); go_simp; (try with_reducible rfl))
      simp only [Act.put, List.setIfInBounds_toArray, List.set_cons_zero, List.set_cons_succ]
      refine take_run 10 (some 67) (v := ?_) rfl rfl (by kernel_rfl) (by kernel_rfl) (by kernel_rfl) (fun _ _ _ h => h) (by rfl) ?_ (by assumption) ?_
      rotate_left
      · (intro W hSw; (try dsimp only at hSw); go_simp; (try with_reducible rfl))
      simp only [Act.put, List.setIfInBounds_toArray, List.set_cons_zero, List.set_cons_succ]
      refine take_run 12 (some 69) (v := ?_) rfl rfl (by kernel_rfl) (by kernel_rfl) (by kernel_rfl) (fun _ _ _ h => h) (by rfl) ?_ (by assumption) ?_
      rotate_left
      · (intro W hSw; (try dsimp only at hSw); go_simp; (try with_reducible rfl))
      simp only [Act.put, List.setIfInBounds_toArray, List.set_cons_zero, List.set_cons_succ]
      refine take_run 13 (some 70) (v := ?_) rfl rfl (by kernel_rfl) (by kernel_rfl) (by kernel_rfl) (fun _ _ _ h => h) (by rfl) ?_ (by assumption) ?_
      rotate_left
      · (intro W hSw; (try dsimp only at hSw); go_simp; (try with_reducible rfl))
      simp only [Act.put, List.setIfInBounds_toArray, List.set_cons_zero, List.set_cons_succ]
      refine wpAnyH_ready (rs := [1]) (by kernel_rfl) (by simp) ?_
      refine AllReadyH.cons rfl (fun K1 hK1 => ?_) AllReadyH.nil
      go_simp
      go_at_call 88
      refine (tabAt tab_tapL (C := w16.heap.size) (w0 := w16) (by go_grown) (Nat.le_refl _) X9.out).mono ?_
      rintro e w17 ⟨rfl, hcw17, hgw17, hbw17⟩
      change w17.cell? ⟨w16.heap.size, a.tap, none⟩ = some (.string s9) at hcw17
      change w16.heap.size < w17.heap.size at hgw17
      go_simp
      have d17 := d16.below hbw17 (Nat.lt_of_lt_of_le HL.out B16.out.size)
      refine hK1.out _ _ ?_ (fun hHeld1 => ?_)
      · exact ⟨d17.c9, d17.c10, d17.c11, d17.c12, d17.c13, d17.c14, d17.c15⟩
      clear hK1 K1 hHeld
      have hHeld1x : (fun W : World => W.cell? ⟨w.heap.size, 9, none⟩ = some (.int .i64 (a.tap : Int)) ∧ W.cell? ⟨w.heap.size, 10, none⟩ = some (.int .i64 a.pow.kind) ∧ W.cell? ⟨w.heap.size, 11, none⟩ = some (.int .i64 a.pow.n) ∧ W.cell? ⟨w.heap.size, 12, none⟩ = some (.int .i64 a.tough.kind) ∧ W.cell? ⟨w.heap.size, 13, none⟩ = some (.int .i64 a.tough.n) ∧ W.cell? ⟨w.heap.size, 14, none⟩ = some (.int .i64 a.val.kind) ∧ W.cell? ⟨w.heap.size, 15, none⟩ = some (.int .i64 a.val.n) ∧ W.cell? ⟨w16.heap.size, a.tap, none⟩ = some (.string s9)) _ := ⟨d17.c9, d17.c10, d17.c11, d17.c12, d17.c13, d17.c14, d17.c15, hcw17⟩
      refine wpAnyH_more (S' := (fun W : World => W.cell? ⟨w.heap.size, 9, none⟩ = some (.int .i64 (a.tap : Int)) ∧ W.cell? ⟨w.heap.size, 10, none⟩ = some (.int .i64 a.pow.kind) ∧ W.cell? ⟨w.heap.size, 11, none⟩ = some (.int .i64 a.pow.n) ∧ W.cell? ⟨w.heap.size, 12, none⟩ = some (.int .i64 a.tough.kind) ∧ W.cell? ⟨w.heap.size, 13, none⟩ = some (.int .i64 a.tough.n) ∧ W.cell? ⟨w.heap.size, 14, none⟩ = some (.int .i64 a.val.kind) ∧ W.cell? ⟨w.heap.size, 15, none⟩ = some (.int .i64 a.val.n) ∧ W.cell? ⟨w16.heap.size, a.tap, none⟩ = some (.string s9))) (fun W h => ⟨h.1, h.2.1, h.2.2.1, h.2.2.2.1, h.2.2.2.2.1, h.2.2.2.2.2.1, h.2.2.2.2.2.2.1⟩) _ _ _ _ ?_
      clear hHeld1
      try simp only [Act.put, List.setIfInBounds_toArray, List.set_cons_zero, List.set_cons_succ]
      refine take_run 4 (some 61) (v := ?_) rfl rfl (by kernel_rfl) (by kernel_rfl) (by kernel_rfl) (fun _ _ _ h => h) (by rfl) ?_ (by assumption) ?_
      rotate_left
      · (intro W hSw; (try dsimp only at hSw); go_simp; (try with_reducible rfl))
      simp only [Act.put, List.setIfInBounds_toArray, List.set_cons_zero, List.set_cons_succ]
      refine take_run 5 (some 62) (v := ?_) rfl rfl (by kernel_rfl) (by kernel_rfl) (by kernel_rfl) (fun _ _ _ h => h) (by rfl) ?_ (by assumption) ?_
      rotate_left
      · (intro W hSw; (try dsimp only at hSw); go_simp; (try with_reducible rfl))
      simp only [Act.put, List.setIfInBounds_toArray, List.set_cons_zero, List.set_cons_succ]
      refine wpAnyH_ready (rs := [8]) (by kernel_rfl) (by simp) ?_
      refine AllReadyH.cons rfl (fun K2 hK2 => ?_) AllReadyH.nil
      go_simp
      have hB17 : Below w0.heap.size w0 w17 := B16.out.trans (hbw17.mono B16.out.size)
      go_at_call 89
      refine (P0.out _ (HE.out _ hB17)).mono ?_
      rintro e w18 ⟨rfl, hbw18⟩
      have d18 := d17.below hbw18 (Nat.lt_of_lt_of_le (Nat.lt_of_lt_of_le HL.out B16.out.size) hbw17.size)
      have tf18 := (hbw18.cell (p := ⟨w16.heap.size, a.tap, none⟩) (hgw17)).trans hcw17
      go_simp
      refine hK2.out _ _ ?_ (fun hHeld2 => ?_)
      · exact ⟨d18.c9, d18.c10, d18.c11, d18.c12, d18.c13, d18.c14, d18.c15, tf18⟩
      clear hK2 K2 hHeld1x
      try simp only [Act.put, List.setIfInBounds_toArray, List.set_cons_zero, List.set_cons_succ]
      refine wpAnyH_ready (rs := [11]) (by kernel_rfl) (by simp) ?_
      refine AllReadyH.cons rfl (fun K3 hK3 => ?_) AllReadyH.nil
      go_simp
      have hB18 : Below w0.heap.size w0 w18 := hB17.trans (hbw18.mono hB17.size)
      go_at_call 89
      refine (P1.out _ (HE.out _ hB18)).mono ?_
      rintro e w19 ⟨rfl, hbw19⟩
      have d19 := d18.below hbw19 (Nat.lt_of_lt_of_le (Nat.lt_of_lt_of_le (Nat.lt_of_lt_of_le HL.out B16.out.size) hbw17.size) hbw18.size)
      have tf19 := (hbw19.cell (p := ⟨w16.heap.size, a.tap, none⟩) (Nat.lt_of_lt_of_le (hgw17) hbw18.size)).trans tf18
      go_simp
      refine hK3.out _ _ ?_ (fun hHeld3 => ?_)
      · exact ⟨d19.c9, d19.c10, d19.c11, d19.c12, d19.c13, d19.c14, d19.c15, tf19⟩
      clear hK3 K3 hHeld2
      try simp only [Act.put, List.setIfInBounds_toArray, List.set_cons_zero, List.set_cons_succ]
      refine wpAnyH_ready (rs := [14]) (by kernel_rfl) (by simp) ?_
      refine AllReadyH.cons rfl (fun K4 hK4 => ?_) AllReadyH.nil
      go_simp
      have hB19 : Below w0.heap.size w0 w19 := hB18.trans (hbw19.mono hB18.size)
      go_at_call 89
      refine (P2.out _ (HE.out _ hB19)).mono ?_
      rintro e w20 ⟨rfl, hbw20⟩
      have d20 := d19.below hbw20 (Nat.lt_of_lt_of_le (Nat.lt_of_lt_of_le (Nat.lt_of_lt_of_le (Nat.lt_of_lt_of_le HL.out B16.out.size) hbw17.size) hbw18.size) hbw19.size)
      have tf20 := (hbw20.cell (p := ⟨w16.heap.size, a.tap, none⟩) (Nat.lt_of_lt_of_le (Nat.lt_of_lt_of_le (hgw17) hbw18.size) hbw19.size)).trans tf19
      go_simp
      refine hK4.out _ _ ?_ (fun hHeld4 => ?_)
      · exact ⟨d20.c9, d20.c10, d20.c11, d20.c12, d20.c13, d20.c14, d20.c15, tf20⟩
      clear hK4 K4 hHeld3
      try simp only [Act.put, List.setIfInBounds_toArray, List.set_cons_zero, List.set_cons_succ]
      refine wpAnyH_ready (rs := [15]) (by kernel_rfl) (by simp) ?_
      refine AllReadyH.cons rfl (fun K5 hK5 => ?_) AllReadyH.nil
      go_simp
      have hB20 : Below w0.heap.size w0 w20 := hB19.trans (hbw20.mono hB19.size)
      have hal : Below w20.heap.size w20 (w20.alloc (.cells #[.string s9, .string sp, .string st, .string sv] 9)) := (Below.refl _ _).alloc (Nat.le_refl _) _
      have d21 := d20.below hal (Nat.lt_of_lt_of_le (Nat.lt_of_lt_of_le (Nat.lt_of_lt_of_le (Nat.lt_of_lt_of_le (Nat.lt_of_lt_of_le HL.out B16.out.size) hbw17.size) hbw18.size) hbw19.size) hbw20.size)
      refine hK5.out _ _ ?_ (fun hHeld5 => ?_)
      · exact ⟨d21.c9, d21.c10, d21.c11, d21.c12, d21.c13, d21.c14, d21.c15, (hal.cell (p := ⟨w16.heap.size, a.tap, none⟩) (Nat.lt_of_lt_of_le (Nat.lt_of_lt_of_le (Nat.lt_of_lt_of_le (hgw17) hbw18.size) hbw19.size) hbw20.size)).trans tf20⟩
      clear hK5 K5 hHeld4
      try simp only [Act.put, List.setIfInBounds_toArray, List.set_cons_zero, List.set_cons_succ]
      refine wpAnyH_ready (rs := [16]) (by kernel_rfl) (by simp) ?_
      refine AllReadyH.cons rfl (fun K6 hK6 => ?_) AllReadyH.nil
      have hBa : Below w0.heap.size w0 (w20.alloc (.cells #[.string s9, .string sp, .string st, .string sv] 9)) := hB20.trans (hal.mono hB20.size)
      have hch : Below w16.heap.size w16 (w20.alloc (.cells #[.string s9, .string sp, .string st, .string sv] 9)) := (((hbw17.trans (hbw18.mono hbw17.size)).trans (hbw19.mono (Nat.le_trans hbw17.size hbw18.size))).trans (hbw20.mono (Nat.le_trans (Nat.le_trans hbw17.size hbw18.size) hbw19.size))).trans (hal.mono (Nat.le_trans (Nat.le_trans (Nat.le_trans hbw17.size hbw18.size) hbw19.size) hbw20.size))
      have HY := Lib.hid (HO16.out.below hch (Nat.le_refl _))
      have HX : Hid (Strs (w20.alloc (.cells #[.string s9, .string sp, .string st, .string sv] 9)) (.slice (some ⟨w20.heap.size, 0, none⟩) 4 4) [s9.data.toList, sp.data.toList, st.data.toList, sv.data.toList]) := Lib.hid (OwnStrs.lit w20 [s9.data.toList, sp.data.toList, st.data.toList, sv.data.toList] (by simp)).strs
      have HLL : Hid (l16.length + [s9.data.toList, sp.data.toList, st.data.toList, sv.data.toList].length ≤ 1000000000) := Lib.hid (by have := N16.out; simp only [List.length_cons, List.length_nil]; omega)
      refine step_append_far rfl (.tmp 57) (.tmp 72) rfl rfl HY.out rfl HX.out HLL.out hBa.size hBa (fun vF wF hoF hbF hfar => ?_)
      have dF := BX.out.below hbF HL.out
      refine hK6.out _ _ ?_ (fun hHeld6 => ?_)
      · exact ⟨dF.c9, dF.c10, dF.c11, dF.c12, dF.c13, dF.c14, dF.c15, (hfar w16.heap.size a.tap (Nat.lt_of_lt_of_le (Nat.lt_of_lt_of_le (Nat.lt_of_lt_of_le (Nat.lt_of_lt_of_le (hgw17) hbw18.size) hbw19.size) hbw20.size) hal.size) (fun e => by have := (World.ownsRow.lt HO16.out _ e.symm).2; omega)).trans ((hal.cell (p := ⟨w16.heap.size, a.tap, none⟩) (Nat.lt_of_lt_of_le (Nat.lt_of_lt_of_le (Nat.lt_of_lt_of_le (hgw17) hbw18.size) hbw19.size) hbw20.size)).trans tf20)⟩
      clear hK6 K6 hHeld5
      try simp only [Act.put, List.setIfInBounds_toArray]
      refine take_run 17 (some 3) (v := ?_) rfl rfl (by kernel_rfl) (by kernel_rfl) (by kernel_rfl) (fun _ _ _ h => h) (by rfl) ?_ (by assumption) ?_
      rotate_left
      · (intro W hSw; (try dsimp only at hSw); go_simp; (try with_reducible rfl))
      simp only [Act.put]
      refine wpAnyH_done (by kernel_rfl) ?_ _
      have HD := Lib.hid (delEmpty (B := w0.heap.size) (w0 := w0) hoF hbF (by rw [List.length_append]; simp only [List.length_cons]; omega))
      clear hoF hbF hfar dF hBa hch hal hB17 hB18 hB19 hB20 hcl16 hfr16
      go_wp2_with fail
      refine HD.out.mono ?_
      rintro e wG ⟨vG, rfl, hoG, hbG⟩
      have hpe := HPE.out
      rw [HQ.out] at hpe
      rw [← E5.out, ← E7.out, ← E9.out, ← E11.out, ← E13.out, ← E14.out, ← E16.out] at hpe
      rw [hpe] at hoG
      have BG := Lib.hid hbG
      clear HD HPE hpe HQ hbG
      rcases hoG.shape with ⟨rfl, hnil⟩ | ⟨g, cap, rfl, -, -, -, -, -⟩
      · have HN := Lib.hid hnil
        clear hoG hnil
        go_wp2_with fail
        go_ret
        exact ⟨by rw [HT.out, HN.out]; rfl, HB.out.trans (BG.out.mono HB.out.size)⟩
      · by_cases h0 : ps = []
        · have e0 : ps.length = 0 := by rw [h0]; rfl
          have HN := Lib.hid h0
          clear hoG h0
          go_wp2_with fail
          go_ret
          exact ⟨by rw [HT.out, HN.out]; rfl, HB.out.trans (BG.out.mono HB.out.size)⟩
        · have e0 : ¬ ps.length = 0 := fun h => h0 (List.eq_nil_of_length_eq_zero h)
          have HJ := Lib.hid (wordJoin (.slice (some ⟨g, 0, none⟩) ps.length cap) ps ⟨#[32]⟩ wG hoG.strs (by have := HPL.out; omega) (by have := HZ.out; show (Lib.join ps [32]).length ≤ _; omega))
          have HN : Hid (Fil.textP ps = Lib.join ps [32]) := Lib.hid (by unfold Fil.textP; rw [if_neg h0])
          clear hoG h0
          go_wp2_with fail
          refine HJ.out.mono ?_
          rintro e wH ⟨rfl, hbH⟩
          go_wp2_with fail
          go_ret
          exact ⟨by rw [HT.out, HN.out]; rfl, HB.out.trans ((BG.out.trans (hbH.mono BG.out.size)).mono HB.out.size)⟩
end Go.Proofs.YtkohfomiigcifaaGreatDoor
