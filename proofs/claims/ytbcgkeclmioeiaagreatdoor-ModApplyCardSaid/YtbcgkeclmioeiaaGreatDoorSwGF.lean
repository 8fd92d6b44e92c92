/-
  MERGED: Trait, FewW, TrEnv, TrLaw, ClTr. By an AI agent.
-/
import Derived.Test.YtbcgkeclmioeiaaGreatDoorSwGC
import Derived.Test.YtbcgkeclmioeiaaGreatDoorSwGD
import Derived.Test.YtbcgkeclmioeiaaGreatDoorSwGE
import Derived.Deep.Cut
import Derived.Test.YtbcgkeclmioeiaaGreatDoorSwGB
import Derived.SliceStrings
import Derived.Test.YtbcgkeclmioeiaaGreatDoorBits64
namespace Go.Proofs.YtbcgkeclmioeiaaGreatDoor
open Go.RowKit
open Wd (Bs)

structure TrD where
  nm : ByteArray
  co : Array Value
  c : Int
  a : Int
  b : Int
  subs : List Bs
  p : Int
  t : Int
  k : Int
  abs : List AbD
  u : Int
def trV (x : TrD) (sv av : Value) : Array Value := trC x.nm x.co x.c x.a x.b sv x.p x.t x.k av x.u
/-- characteristics fit for a walk -/
structure TrOk (x : TrD) : Prop where
  co : Part 50 7 x.co
  subs : x.subs.length ≤ 1000
  abs : ∀ d ∈ x.abs, AbOk d
  few : x.abs.length ≤ 1000
theorem liC_sz {a b : Int} {v : Value} : (liC a b v).size = 3 := rfl
theorem liC_one {a b : Int} {v : Value} (h : v.oneCell' = true) : (liC a b v).all (·.oneCell') = true := by simp [liC, h]; simp [Value.oneCell']
theorem trV_sz {x : TrD} {sv av : Value} (h : Part 50 7 x.co) : (trV x sv av).size = 17 := trC_sz h
theorem trV_one {x : TrD} {sv av : Value} (h : Part 50 7 x.co) (h1 : sv.oneCell' = true) (h2 : av.oneCell' = true) : (trV x sv av).all (·.oneCell') = true := trC_one h h1 h2
noncomputable def modT (x : TrD) (m : Mo.Md) (you n : Int) : TrD :=
  if m.k = 1 then { x with u := you }
  else if m.k = 2 then { x with b := m.n }
  else if m.k = 3 then { x with b := bits .or .i64 x.b m.n }
  else if m.k = 4 then { x with subs := [m.sub] }
  else if m.k = 5 then { x with subs := (addL ⟨x.a, x.b, x.subs⟩ m.sub).subs }
  else if m.k = 6 then { x with c := m.n }
  else if m.k = 7 then { x with c := bits .or .i64 x.c m.n }
  else if m.k = 8 then { x with k := bits .or .i64 x.k m.n }
  else if m.k = 9 then { x with k := bits .andNot .i64 x.k m.n }
  else if m.k = 10 then { x with k := 0, abs := [] }
  else if m.k = 11 then { x with p := Num.clampI n, t := Num.clampI n }
  else if m.k = 12 then { x with p := m.n, t := m.m }
  else if m.k = 13 then { x with p := Num.clampI (Num.clampI x.p + Num.clampI m.n), t := Num.clampI (Num.clampI x.t + Num.clampI m.m) }
  else { x with p := x.t, t := x.p }
noncomputable def applyT (x : TrD) (m : Mo.Md) (you n : Int) : TrD := if Mo.okB m then modT x m you n else x
section
variable {x : TrD} {m : Mo.Md} {you n : Int}
theorem modT_1 (h : m.k = 1) : modT x m you n = { x with u := you } := by unfold modT; simp [h]
theorem modT_2 (h : m.k = 2) : modT x m you n = { x with b := m.n } := by unfold modT; simp [h]
theorem modT_3 (h : m.k = 3) : modT x m you n = { x with b := bits .or .i64 x.b m.n } := by unfold modT; simp [h]
theorem modT_4 (h : m.k = 4) : modT x m you n = { x with subs := [m.sub] } := by unfold modT; simp [h]
theorem modT_5 (h : m.k = 5) : modT x m you n = { x with subs := (addL ⟨x.a, x.b, x.subs⟩ m.sub).subs } := by unfold modT; simp [h]
theorem modT_6 (h : m.k = 6) : modT x m you n = { x with c := m.n } := by unfold modT; simp [h]
theorem modT_7 (h : m.k = 7) : modT x m you n = { x with c := bits .or .i64 x.c m.n } := by unfold modT; simp [h]
theorem modT_8 (h : m.k = 8) : modT x m you n = { x with k := bits .or .i64 x.k m.n } := by unfold modT; simp [h]
theorem modT_9 (h : m.k = 9) : modT x m you n = { x with k := bits .andNot .i64 x.k m.n } := by unfold modT; simp [h]
theorem modT_10 (h : m.k = 10) : modT x m you n = { x with k := 0, abs := [] } := by unfold modT; simp [h]
theorem modT_11 (h : m.k = 11) : modT x m you n = { x with p := Num.clampI n, t := Num.clampI n } := by unfold modT; simp [h]
theorem modT_12 (h : m.k = 12) : modT x m you n = { x with p := m.n, t := m.m } := by unfold modT; simp [h]
theorem modT_13 (h : m.k = 13) : modT x m you n = { x with p := Num.clampI (Num.clampI x.p + Num.clampI m.n), t := Num.clampI (Num.clampI x.t + Num.clampI m.m) } := by unfold modT; simp [h]
theorem modT_14 (h : m.k = 14) : modT x m you n = { x with p := x.t, t := x.p } := by unfold modT; simp [h]
end
theorem AbRow.mono {B B' : Nat} {w : World} {v : Value} {l : List AbD} (h : AbRow (some B) w v l) (hB : B' ≤ B) : AbRow (some B') w v l := by
  obtain ⟨ps, a, b, c⟩ := h
  exact ⟨ps, a, b.mono hB, fun p hp => (c p hp).mono hB⟩
theorem OwnStrs.keep {B : Nat} {t : TypeId} {w w' : World} {v : Value} {l : List Bs} (h : OwnStrs B w v l) (hk : KeepT t w w') (hne : 9 ≠ t) : OwnStrs B w' v l := by
  refine ⟨h.1, ?_⟩
  rcases h.2 with hn | ⟨g, cap, cur, hv, hB, hg, rest⟩
  · exact .inl hn
  · exact .inr ⟨g, cap, cur, hv, hB, hk g cur _ hg hne, rest⟩
theorem Strs.slice {w : World} {v : Value} {l : List Bs} (h : Strs w v l) : ∃ ad cap, v = .slice ad l.length cap := by
  obtain ⟨a, c, e, _⟩ := h
  exact ⟨a, c, e⟩
theorem own_one {w : World} {B b : Nat} {s : ByteArray} (h : Blk w b #[.string s] 9) (hB : B ≤ b) : OwnStrs B w (.slice (some ⟨b, 0, none⟩) 1 1) [s.data.toList] :=
  own_of_blk (l := [s.data.toList]) h hB (by simp) (by decide) rfl (fun j hj => by
    have : j = 0 := by simpa using hj
    subst this
    rfl)
end Go.Proofs.YtbcgkeclmioeiaaGreatDoor
namespace Go.Proofs.YtbcgkeclmioeiaaGreatDoor
open Go.RowKit
open Wd (Bs)

/-- parts that are laid, how long the lists are aside -/
structure EfOk0 (d : EfD) : Prop where
  ref : Part 27 18 d.ref
  am : Part 73 19 d.am
  fl : Part 25 16 d.fl
  pool : Part 75 6 d.pool
  mods : ∀ x ∈ d.mods, Part 39 20 x
structure AbOk0 (d : AbD) : Prop where
  fl : Part 25 16 d.fl
  price : Part 63 10 d.price
  trig : Part 65 18 d.trig
  repl : Part 69 22 d.repl
  mods : ∀ x ∈ d.mods, Part 39 20 x
  specs : ∀ x ∈ d.specs, Part 119 18 x
  effs : ∀ x ∈ d.effs, EfOk0 x
def bareAb (d : AbD) : AbD := { d with mods := [], specs := [], effs := [] }
def bareEf (d : EfD) : EfD := { d with mods := [] }
theorem bareAb_ok {d : AbD} (h : AbOk0 d) : AbOk (bareAb d) := ⟨h.fl, h.price, h.trig, h.repl, by simp [bareAb], by simp [bareAb], by simp [bareAb], by simp [bareAb]⟩
theorem bareEf_ok {d : EfD} (h : EfOk0 d) : EfOk (bareEf d) := ⟨h.ref, h.am, h.fl, h.pool, by simp [bareEf], by simp [bareEf]⟩
def FewA (d : AbD) : Prop := d.mods.length ≤ 12 ∧ d.specs.length ≤ 12 ∧ d.effs.length ≤ 12 ∧ ∀ e ∈ d.effs, e.mods.length ≤ 12
def FewP (x : TrD) : Prop := x.abs.length ≤ 12 ∧ x.subs.length ≤ 20 ∧ ∀ d ∈ x.abs, FewA d
theorem few_ok {d : AbD} (h : AbOk0 d) (f : FewA d) : AbOk d := ⟨h.fl, h.price, h.trig, h.repl, h.mods, h.specs, fun x hx => ⟨(h.effs x hx).ref, (h.effs x hx).am, (h.effs x hx).fl, (h.effs x hx).pool, (h.effs x hx).mods, by have := f.2.2.2 x hx; omega⟩, by obtain ⟨h1, h2, h3, _⟩ := f; omega⟩
theorem few_tr {x : TrD} (co : Part 50 7 x.co) (h : ∀ d ∈ x.abs, AbOk0 d) (f : FewP x) : TrOk x := ⟨co, by have := f.2.1; omega, fun d hd => few_ok (h d hd) (f.2.2 d hd), by have := f.1; omega⟩
def FewRes (x : TrD) (w : World) (e : Ending) (w' : World) : Prop := ∃ b, e = .returned (.bool b) ∧ (b = true ↔ FewP x) ∧ Below w.heap.size w w'
theorem fewNext {es : List EfP} {k : Nat} (h : ∀ j, j < k → ∀ p, es[j]? = some p → p.1.mods.length ≤ 12) {e : EfD} {v : Value} (hk : es[k]? = some (e, v)) (hz : e.mods.length ≤ 12) : ∀ j, j < k + 1 → ∀ p, es[j]? = some p → p.1.mods.length ≤ 12 := fun j hj p hp => by
  by_cases e1 : j = k
  · subst e1; rw [hk] at hp; cases hp; exact hz
  · exact h j (by omega) p hp
theorem fewA_of {d : AbD} {es : List EfP} {k : Nat} (h1 : d.mods.length ≤ 12) (h2 : d.specs.length ≤ 12) (h3 : es.length ≤ 12) (he : es.map (·.1) = d.effs) (h : ∀ j, j < k → ∀ p, es[j]? = some p → p.1.mods.length ≤ 12) (hk : es.length ≤ k) : FewA d := by
  refine ⟨h1, h2, by rw [← he, List.length_map]; exact h3, fun e hm => ?_⟩
  rw [← he] at hm
  obtain ⟨p, hp, rfl⟩ := List.mem_map.1 hm
  obtain ⟨j, hj⟩ := List.getElem?_of_mem hp
  have hlt := (List.getElem?_eq_some_iff.1 hj).1
  exact h j (by omega) p hj
theorem fewNextA {ps : List AbP} {k : Nat} (h : ∀ j, j < k → ∀ p, ps[j]? = some p → FewA p.1) {d : AbD} {v : Value × Value × Value} (hk : ps[k]? = some (d, v)) (hz : FewA d) : ∀ j, j < k + 1 → ∀ p, ps[j]? = some p → FewA p.1 := fun j hj p hp => by
  by_cases e1 : j = k
  · subst e1; rw [hk] at hp; cases hp; exact hz
  · exact h j (by omega) p hp
theorem fewAll {ps : List AbP} {l : List AbD} {k : Nat} (he : ps.map (·.1) = l) (h : ∀ j, j < k → ∀ p, ps[j]? = some p → FewA p.1) (hk : ps.length ≤ k) : ∀ d ∈ l, FewA d := fun d hm => by
  rw [← he] at hm
  obtain ⟨p, hp, rfl⟩ := List.mem_map.1 hm
  obtain ⟨j, hj⟩ := List.getElem?_of_mem hp
  have hlt := (List.getElem?_eq_some_iff.1 hj).1
  exact h j (by omega) p hj
set_option maxHeartbeats 16000000 in
set_option maxRecDepth 100000 in
theorem lawFew (x : TrD) (sv av : Value) (w : World) (ok : Part 50 7 x.co) (oka : ∀ d ∈ x.abs, AbOk0 d) (hs1 : Strs w sv x.subs) (ha : AbRow none w av x.abs) :
    Calls Tryz.prog 28 #[.agg (trC x.nm x.co x.c x.a x.b sv x.p x.t x.k av x.u)] w (FewRes x w) := by
  obtain ⟨ps, hps, hp1, hp2⟩ := ha
  have hp1' : RowS 72 w av (ps.map abP) := hp1
  obtain ⟨a1, c1, rfl⟩ := hp1'.slice
  obtain ⟨a0, c0, rfl⟩ := hs1.slice
  have hlen := hp1'.len
  unfold maxLen at hlen
  have HE1 := Lib.hid hp1'
  have HP2 := Lib.hid hp2
  have HPS := Lib.hid hps
  have HOK := Lib.hid oka
  have hpl : x.abs.length = ps.length := by rw [← hps, List.length_map]
  have HPL := Lib.hid hpl
  rw [List.length_map] at *
  clear hs1 hp1 hp1' hp2 hps oka hpl

  have M := Mm.nil w
  go_enter Tryz.func28, Tryz.ntmps28
  go_upto_region 0 with fail
  refine wp_region_lit ?_
  with_reducible refine wA (trC x.nm x.co x.c x.a x.b (.slice a0 x.subs.length c0) x.p x.t x.k (.slice a1 ps.length c1) x.u) M ?_; clear M; intro pA u M; refine ⟨_, by (simp only [pu, sB, s0, sS]; rfl), ?_⟩
  with_reducible refine rA ?_
  by_cases hj : 12 < ps.length
  · have hji : (12 : Int) < ((ps.length : Nat) : Int) := by omega
    go_upto_region 1 with fail
    refine wp_region_lit ?_
    with_reducible refine rA ?_
    with_reducible refine wLv 0 M (show ((trC x.nm x.co x.c x.a x.b (.slice a0 x.subs.length c0) x.p x.t x.k (.slice a1 ps.length c1) x.u))[15]? = some (.slice a1 ps.length c1) from trC_15 ok) Tryz.underlying54 ?_
    iterate 3 (with_reducible refine rA ?_)
    iterate 5 (with_reducible refine kA ?_)
    with_reducible refine rA ?_
    go_upto_region 2 with fail
    refine wp_region_lit ?_
    with_reducible refine rA ?_
    go_wp2_with fail
    go_ret
    exact ⟨_, rfl, ⟨(fun h => by cases h), (fun h => absurd h.1 (by have := HPL.out; omega))⟩, M.b⟩
  · have hji : ¬ (12 : Int) < ((ps.length : Nat) : Int) := by omega
    by_cases hk : 20 < x.subs.length
    · have hki : (20 : Int) < ((x.subs.length : Nat) : Int) := by omega
      go_upto_region 1 with fail
      refine wp_region_lit ?_
      with_reducible refine rA ?_
      with_reducible refine wLv 0 M (show ((trC x.nm x.co x.c x.a x.b (.slice a0 x.subs.length c0) x.p x.t x.k (.slice a1 ps.length c1) x.u))[15]? = some (.slice a1 ps.length c1) from trC_15 ok) Tryz.underlying54 ?_
      iterate 5 (with_reducible refine rA ?_)
      with_reducible refine wLv 0 M (show ((trC x.nm x.co x.c x.a x.b (.slice a0 x.subs.length c0) x.p x.t x.k (.slice a1 ps.length c1) x.u))[11]? = some (.slice a0 x.subs.length c0) from trC_11 ok) Tryz.underlying51 ?_
      iterate 3 (with_reducible refine rA ?_)
      go_upto_region 2 with fail
      refine wp_region_lit ?_
      with_reducible refine rA ?_
      go_wp2_with fail
      go_ret
      exact ⟨_, rfl, ⟨(fun h => by cases h), (fun h => absurd h.2.1 (by omega))⟩, M.b⟩
    · have hki : ¬ (20 : Int) < ((x.subs.length : Nat) : Int) := by omega
      go_upto_region 1 with fail
      refine wp_region_lit ?_
      with_reducible refine rA ?_
      with_reducible refine wLv 0 M (show ((trC x.nm x.co x.c x.a x.b (.slice a0 x.subs.length c0) x.p x.t x.k (.slice a1 ps.length c1) x.u))[15]? = some (.slice a1 ps.length c1) from trC_15 ok) Tryz.underlying54 ?_
      iterate 5 (with_reducible refine rA ?_)
      with_reducible refine wLv 0 M (show ((trC x.nm x.co x.c x.a x.b (.slice a0 x.subs.length c0) x.p x.t x.k (.slice a1 ps.length c1) x.u))[11]? = some (.slice a0 x.subs.length c0) from trC_11 ok) Tryz.underlying51 ?_
      iterate 3 (with_reducible refine rA ?_)
      go_upto_region 3 with fail
      refine wp_region_lit ?_
      with_reducible refine rA ?_
      go_wp2_with fail
      go_loopw [3, 4, 5] (fun iv v4 v5 wr => ∃ i : Nat, i ≤ ps.length ∧ iv = .int .i64 (i : Int) ∧ Hid (∀ j, j < i → ∀ p, ps[j]? = some p → FewA p.1) ∧ Mm w wr [(pA, (trC x.nm x.co x.c x.a x.b (.slice a0 x.subs.length c0) x.p x.t x.k (.slice a1 ps.length c1) x.u), 56)]) (fun iv _ _ _ => ps.length - (intOf iv).toNat)
      case atStart => exact ⟨0, Nat.zero_le _, rfl, Lib.hid (fun j hj => absurd hj (Nat.not_lt_zero _)), M⟩
      case round =>
        clear M
        revert wr
        intro u0 hrel
        obtain ⟨i, hi, rfl, HF, M⟩ := hrel
        by_cases hlt : i < ps.length
        · have h2 : (i : Int) < (ps.length : Int) := by omega
          have h0 : (0 : Int) ≤ (i : Int) := by omega
          obtain ⟨⟨d, v1, v2, v3⟩, hx⟩ : ∃ x, ps[i]? = some x := ⟨_, List.getElem?_eq_getElem hlt⟩
          have HO0 := Lib.hid (HOK.out d (by rw [← HPS.out]; exact List.mem_map.2 ⟨_, List.mem_of_getElem? hx, rfl⟩))
          have HDM : Hid (d ∈ x.abs) := Lib.hid (by rw [← HPS.out]; exact List.mem_map.2 ⟨_, List.mem_of_getElem? hx, rfl⟩)
          have okd := bareAb_ok HO0.out
          have X1 := Lib.hid (HP2.out _ (List.mem_of_getElem? hx))
          have hm1 : RowS 20 w v1 d.mods := X1.out.mods
          have hm2 : RowS 18 w v2 d.specs := X1.out.specs
          obtain ⟨es, hes, he1, he2⟩ := X1.out.effs
          have he1' : RowS 64 w v3 (es.map efP) := he1
          simp only at hes
          obtain ⟨m1, n1, rfl⟩ := hm1.slice
          obtain ⟨m2, n2, rfl⟩ := hm2.slice
          obtain ⟨m3, n3, rfl⟩ := he1'.slice
          have hesl : d.effs.length = es.length := by rw [← hes, List.length_map]
          have hlen3 := he1'.len
          unfold maxLen at hlen3
          rw [List.length_map] at *
          have HX := Lib.hid (show (ps.map abP)[i]? = some (abC (bareAb d) (.slice m1 d.mods.length n1) (.slice m2 d.specs.length n2) (.slice m3 es.length n3)) by rw [List.getElem?_map, hx]; rfl)
          have HR3 := Lib.hid he1'
          have HR4 := Lib.hid he2
          have HES := Lib.hid hes
          have HESL := Lib.hid hesl
          have HXX := Lib.hid hx
          obtain ⟨g1, o1, rfl, _⟩ := HE1.out.get HX.out
          clear hx hm1 hm2 he1 he1' he2 hes hesl X1
          go_upto_region 4 with fail
          refine wp_region_lit ?_
          iterate 2 (with_reducible refine rA ?_)
          with_reducible refine wLv 0 M (show ((trC x.nm x.co x.c x.a x.b (.slice a0 x.subs.length c0) x.p x.t x.k (.slice (some ⟨g1, o1, none⟩) ps.length c1) x.u))[15]? = some (.slice (some ⟨g1, o1, none⟩) ps.length c1) from trC_15 ok) Tryz.underlying54 ?_
          iterate 2 (with_reducible refine rA ?_)
          go_upto_region 6 with fail
          refine wp_region_lit ?_
          with_reducible refine rA ?_
          with_reducible refine wLv 0 M (show ((trC x.nm x.co x.c x.a x.b (.slice a0 x.subs.length c0) x.p x.t x.k (.slice (some ⟨g1, o1, none⟩) ps.length c1) x.u))[15]? = some (.slice (some ⟨g1, o1, none⟩) ps.length c1) from trC_15 ok) Tryz.underlying54 ?_
          with_reducible refine rA ?_
          (with_reducible refine rB (.pointer (some ⟨g1, o1 + i * 72, none⟩)) ?_ ?_); (· go_simp; (try rfl) )
          with_reducible refine wR (rowAt (HE1.out.below M.b (Nat.le_refl _)) HX.out) Tryz.underlying71 (szAb (abC_sz okd)) ?_
          (with_reducible refine wA zAb.cells (T := 71) M ?_ (hr := ?_)); rotate_left; (· exact run_allocOp rfl infoAb zeroAb); clear M; intro pX u M; refine ⟨_, by (simp only [pu, sB, s0, sS]; rfl), ?_⟩
          with_reducible refine wS 1 M (laid_all (abC_sz okd) zAb_cells) (szAb (abC_sz okd)) (abC_one okd rfl rfl rfl) (fit_2 zAb_cells (abC_sz okd) (by decide)) ?_; clear M; intro u M
          by_cases hd : 12 < d.mods.length
          · have hdi : (12 : Int) < ((d.mods.length : Nat) : Int) := by omega
            go_upto_region 7 with fail
            refine wp_region_lit ?_
            with_reducible refine rA ?_
            with_reducible refine wLv 1 M (show ((abC (bareAb d) (.slice m1 d.mods.length n1) (.slice m2 d.specs.length n2) (.slice m3 es.length n3)))[17]? = some (.slice m1 d.mods.length n1) from abC_17 okd) Tryz.underlying42 ?_
            iterate 3 (with_reducible refine rA ?_)
            iterate 4 (with_reducible refine kA ?_)
            iterate 2 (with_reducible refine rA ?_)
            iterate 4 (with_reducible refine kA ?_)
            with_reducible refine rA ?_
            go_upto_region 8 with fail
            refine wp_region_lit ?_
            with_reducible refine rA ?_
            go_wp2_with fail
            go_ret
            exact ⟨_, rfl, ⟨(fun h => by cases h), (fun h => absurd (h.2.2 d HDM.out).1 (by omega))⟩, M.b⟩
          · have hdi : ¬ (12 : Int) < ((d.mods.length : Nat) : Int) := by omega
            by_cases hs : 12 < d.specs.length
            · have hsi : (12 : Int) < ((d.specs.length : Nat) : Int) := by omega
              go_upto_region 7 with fail
              refine wp_region_lit ?_
              with_reducible refine rA ?_
              with_reducible refine wLv 1 M (show ((abC (bareAb d) (.slice m1 d.mods.length n1) (.slice m2 d.specs.length n2) (.slice m3 es.length n3)))[17]? = some (.slice m1 d.mods.length n1) from abC_17 okd) Tryz.underlying42 ?_
              iterate 4 (with_reducible refine rA ?_)
              with_reducible refine wLv 1 M (show ((abC (bareAb d) (.slice m1 d.mods.length n1) (.slice m2 d.specs.length n2) (.slice m3 es.length n3)))[48]? = some (.slice m2 d.specs.length n2) from abC_48 okd) Tryz.underlying66 ?_
              iterate 4 (with_reducible refine rA ?_)
              iterate 4 (with_reducible refine kA ?_)
              with_reducible refine rA ?_
              go_upto_region 8 with fail
              refine wp_region_lit ?_
              with_reducible refine rA ?_
              go_wp2_with fail
              go_ret
              exact ⟨_, rfl, ⟨(fun h => by cases h), (fun h => absurd (h.2.2 d HDM.out).2.1 (by omega))⟩, M.b⟩
            · have hsi : ¬ (12 : Int) < ((d.specs.length : Nat) : Int) := by omega
              by_cases hq : 12 < es.length
              · have hqi : (12 : Int) < ((es.length : Nat) : Int) := by omega
                go_upto_region 7 with fail
                refine wp_region_lit ?_
                with_reducible refine rA ?_
                with_reducible refine wLv 1 M (show ((abC (bareAb d) (.slice m1 d.mods.length n1) (.slice m2 d.specs.length n2) (.slice m3 es.length n3)))[17]? = some (.slice m1 d.mods.length n1) from abC_17 okd) Tryz.underlying42 ?_
                iterate 4 (with_reducible refine rA ?_)
                with_reducible refine wLv 1 M (show ((abC (bareAb d) (.slice m1 d.mods.length n1) (.slice m2 d.specs.length n2) (.slice m3 es.length n3)))[48]? = some (.slice m2 d.specs.length n2) from abC_48 okd) Tryz.underlying66 ?_
                iterate 5 (with_reducible refine rA ?_)
                with_reducible refine wLv 1 M (show ((abC (bareAb d) (.slice m1 d.mods.length n1) (.slice m2 d.specs.length n2) (.slice m3 es.length n3)))[49]? = some (.slice m3 es.length n3) from abC_49 okd) Tryz.underlying67 ?_
                iterate 3 (with_reducible refine rA ?_)
                go_upto_region 8 with fail
                refine wp_region_lit ?_
                with_reducible refine rA ?_
                go_wp2_with fail
                go_ret
                exact ⟨_, rfl, ⟨(fun h => by cases h), (fun h => absurd (h.2.2 d HDM.out).2.2.1 (by have := HESL.out; omega))⟩, M.b⟩
              · have hqi : ¬ (12 : Int) < ((es.length : Nat) : Int) := by omega
                go_upto_region 7 with fail
                refine wp_region_lit ?_
                with_reducible refine rA ?_
                with_reducible refine wLv 1 M (show ((abC (bareAb d) (.slice m1 d.mods.length n1) (.slice m2 d.specs.length n2) (.slice m3 es.length n3)))[17]? = some (.slice m1 d.mods.length n1) from abC_17 okd) Tryz.underlying42 ?_
                iterate 4 (with_reducible refine rA ?_)
                with_reducible refine wLv 1 M (show ((abC (bareAb d) (.slice m1 d.mods.length n1) (.slice m2 d.specs.length n2) (.slice m3 es.length n3)))[48]? = some (.slice m2 d.specs.length n2) from abC_48 okd) Tryz.underlying66 ?_
                iterate 5 (with_reducible refine rA ?_)
                with_reducible refine wLv 1 M (show ((abC (bareAb d) (.slice m1 d.mods.length n1) (.slice m2 d.specs.length n2) (.slice m3 es.length n3)))[49]? = some (.slice m3 es.length n3) from abC_49 okd) Tryz.underlying67 ?_
                iterate 3 (with_reducible refine rA ?_)
                go_upto_region 9 with fail
                refine wp_region_lit ?_
                with_reducible refine rA ?_
                go_wp2_with fail
                go_loopw [5] (fun kv wr => ∃ k : Nat, k ≤ es.length ∧ kv = .int .i64 (k : Int) ∧ Hid (∀ j, j < k → ∀ p, es[j]? = some p → p.1.mods.length ≤ 12) ∧ Mm w wr [(pA, (trC x.nm x.co x.c x.a x.b (.slice a0 x.subs.length c0) x.p x.t x.k (.slice (some ⟨g1, o1, none⟩) ps.length c1) x.u), 56), (pX, (abC (bareAb d) (.slice m1 d.mods.length n1) (.slice m2 d.specs.length n2) (.slice m3 es.length n3)), 71)]) (fun kv _ => es.length - (intOf kv).toNat)
                case atStart => exact ⟨0, Nat.zero_le _, rfl, Lib.hid (fun j hj => absurd hj (Nat.not_lt_zero _)), M⟩
                case round =>
                  clear M
                  obtain ⟨k, hk2, rfl, HK, M⟩ := hrel
                  by_cases hlk : k < es.length
                  · have h3 : (k : Int) < (es.length : Int) := by omega
                    have h4 : (0 : Int) ≤ (k : Int) := by omega
                    obtain ⟨⟨e, y1⟩, hy⟩ : ∃ x, es[k]? = some x := ⟨_, List.getElem?_eq_getElem hlk⟩
                    have hem : e ∈ d.effs := by rw [← HES.out]; exact List.mem_map.2 ⟨_, List.mem_of_getElem? hy, rfl⟩
                    have HEM := Lib.hid hem
                    have oke := bareEf_ok (HO0.out.effs e hem)
                    have hym : RowS 20 w y1 e.mods := HR4.out _ (List.mem_of_getElem? hy)
                    obtain ⟨m4, n4, rfl⟩ := hym.slice
                    have hl4 := hym.len
                    unfold maxLen at hl4
                    have HY := Lib.hid (show (es.map efP)[k]? = some (efC (bareEf e) (.slice m4 e.mods.length n4)) by rw [List.getElem?_map, hy]; rfl)
                    obtain ⟨g2, o2, rfl, _⟩ := HR3.out.get HY.out
                    have HYY := Lib.hid hy
                    clear hy hym hem
                    go_upto_region 10 with fail
                    refine wp_region_lit ?_
                    iterate 2 (with_reducible refine rA ?_)
                    with_reducible refine wLv 1 M (show ((abC (bareAb d) (.slice m1 d.mods.length n1) (.slice m2 d.specs.length n2) (.slice (some ⟨g2, o2, none⟩) es.length n3)))[49]? = some (.slice (some ⟨g2, o2, none⟩) es.length n3) from abC_49 okd) Tryz.underlying67 ?_
                    iterate 2 (with_reducible refine rA ?_)
                    by_cases hz : 12 < e.mods.length
                    · have hzi : (12 : Int) < ((e.mods.length : Nat) : Int) := by omega
                      go_upto_region 12 with fail
                      refine wp_region_lit ?_
                      with_reducible refine rA ?_
                      with_reducible refine wLv 1 M (show ((abC (bareAb d) (.slice m1 d.mods.length n1) (.slice m2 d.specs.length n2) (.slice (some ⟨g2, o2, none⟩) es.length n3)))[49]? = some (.slice (some ⟨g2, o2, none⟩) es.length n3) from abC_49 okd) Tryz.underlying67 ?_
                      with_reducible refine rA ?_
                      (with_reducible refine rB (.pointer (some ⟨g2, o2 + k * 64, none⟩)) ?_ ?_); (· go_simp; (try rfl) )
                      (with_reducible refine rB (.pointer (some ⟨g2, o2 + k * 64 + 63, none⟩)) ?_ ?_); (· go_simp; (try rfl) )
                      with_reducible refine wRv (rowAt (HR3.out.below M.b (Nat.le_refl _)) HY.out) (efC_63 oke) Tryz.underlying42 ?_
                      iterate 2 (with_reducible refine rA ?_)
                      go_upto_region 13 with fail
                      refine wp_region_lit ?_
                      with_reducible refine rA ?_
                      go_wp2_with fail
                      go_ret
                      exact ⟨_, rfl, ⟨(fun h => by cases h), (fun h => absurd ((h.2.2 d HDM.out).2.2.2 e HEM.out) (by omega))⟩, M.b⟩
                    · have hzi : ¬ (12 : Int) < ((e.mods.length : Nat) : Int) := by omega
                      go_upto_region 12 with fail
                      refine wp_region_lit ?_
                      with_reducible refine rA ?_
                      with_reducible refine wLv 1 M (show ((abC (bareAb d) (.slice m1 d.mods.length n1) (.slice m2 d.specs.length n2) (.slice (some ⟨g2, o2, none⟩) es.length n3)))[49]? = some (.slice (some ⟨g2, o2, none⟩) es.length n3) from abC_49 okd) Tryz.underlying67 ?_
                      with_reducible refine rA ?_
                      (with_reducible refine rB (.pointer (some ⟨g2, o2 + k * 64, none⟩)) ?_ ?_); (· go_simp; (try rfl) )
                      (with_reducible refine rB (.pointer (some ⟨g2, o2 + k * 64 + 63, none⟩)) ?_ ?_); (· go_simp; (try rfl) )
                      with_reducible refine wRv (rowAt (HR3.out.below M.b (Nat.le_refl _)) HY.out) (efC_63 oke) Tryz.underlying42 ?_
                      iterate 2 (with_reducible refine rA ?_)
                      go_upto_region 11 with fail
                      refine wp_region_lit ?_
                      with_reducible refine rA ?_
                      (with_reducible refine rB (.int .i64 ((k + 1 : Nat) : Int)) ?_ ?_); (· go_simp; (try exact IntWalk.i64_in _ (by omega)))
                      with_reducible refine rA ?_
                      go_wp2_with fail
                      go_roundw
                      case rel => exact ⟨k + 1, by omega, rfl, Lib.hid (fewNext HK.out HYY.out (by omega)), M⟩
                      case measure => simp [intOf]; omega
                  · have h3 : ¬ (k : Int) < (es.length : Int) := by omega
                    have HFA : Hid (FewA d) := Lib.hid (fewA_of (by omega) (by omega) (by omega) HES.out HK.out (by omega))
                    go_upto_region 10 with fail
                    refine wp_region_lit ?_
                    iterate 2 (with_reducible refine rA ?_)
                    with_reducible refine wLv 1 M (show ((abC (bareAb d) (.slice m1 d.mods.length n1) (.slice m2 d.specs.length n2) (.slice m3 es.length n3)))[49]? = some (.slice m3 es.length n3) from abC_49 okd) Tryz.underlying67 ?_
                    iterate 2 (with_reducible refine rA ?_)
                    go_upto_region 5 with fail
                    refine wp_region_lit ?_
                    with_reducible refine rA ?_
                    (with_reducible refine rB (.int .i64 ((i + 1 : Nat) : Int)) ?_ ?_); (· go_simp; (try exact IntWalk.i64_in _ (by omega)))
                    with_reducible refine rA ?_
                    go_wp2_with fail
                    go_roundw
                    case rel => exact ⟨i + 1, by omega, rfl, Lib.hid (fewNextA HF.out HXX.out HFA.out), M.take 1⟩
                    case measure => simp [intOf]; omega
        · have h2 : ¬ (i : Int) < (ps.length : Int) := by omega
          go_upto_region 4 with fail
          refine wp_region_lit ?_
          iterate 2 (with_reducible refine rA ?_)
          with_reducible refine wLv 0 M (show ((trC x.nm x.co x.c x.a x.b (.slice a0 x.subs.length c0) x.p x.t x.k (.slice a1 ps.length c1) x.u))[15]? = some (.slice a1 ps.length c1) from trC_15 ok) Tryz.underlying54 ?_
          iterate 2 (with_reducible refine rA ?_)
          go_upto_region 14 with fail
          refine wp_region_lit ?_
          with_reducible refine rA ?_
          go_wp2_with fail
          go_ret
          exact ⟨_, rfl, ⟨(fun _ => ⟨by have := HPL.out; omega, by omega, fewAll HPS.out HF.out (by omega)⟩), (fun _ => rfl)⟩, M.b⟩
noncomputable def fewB (x : TrD) : Bool := @decide (FewP x) (Classical.propDecidable _)
theorem fewB_iff {x : TrD} : fewB x = true ↔ FewP x := by unfold fewB; simp
theorem lawFewB (x : TrD) (sv av : Value) (w : World) (ok : Part 50 7 x.co) (oka : ∀ d ∈ x.abs, AbOk0 d) (hs1 : Strs w sv x.subs) (ha : AbRow none w av x.abs) :
    Calls Tryz.prog 28 #[.agg (trV x sv av)] w fun e w' => e = .returned (.bool (fewB x)) ∧ Below w.heap.size w w' :=
  (lawFew x sv av w ok oka hs1 ha).mono fun e w' ⟨b, he, hb, hB⟩ => ⟨by
    have h : b = fewB x := by rw [Bool.eq_iff_iff, hb, fewB_iff]
    rw [he, h], hB⟩
end Go.Proofs.YtbcgkeclmioeiaaGreatDoor
namespace Go.Proofs.YtbcgkeclmioeiaaGreatDoor
open Go.RowKit Go.ChangeShapes Go.WideShapes
open Wd (Bs)

instance : Inhabited EfP := ⟨(⟨0, #[], #[], 0, 0, ⟨#[]⟩, #[], #[], []⟩, .bool false)⟩
instance : Inhabited AbP := ⟨(⟨0, #[], [], #[], false, #[], false, [], [], #[]⟩, .bool false, .bool false, .bool false)⟩
theorem efP_sz0 {p : EfP} (h : EfOk0 p.1) : (efP p).size = 64 := by
  unfold efP efC
  rw [cat_size]
  simp [sizes, h.ref.size, h.am.size, h.fl.size, h.pool.size]
theorem abP_sz0 {p : AbP} (h : AbOk0 p.1) : (abP p).size = 72 := by
  unfold abP abC
  rw [cat_size]
  simp [sizes, h.fl.size, h.price.size, h.trig.size, h.repl.size]
section
variable {H : Type} {enc : TypeId × Value → H} {W : World}
theorem bool_cell {fuel : Nat} {held : Bool} {sp : Nat → Bool} {v : Value} {x : DataW H × List MemPlace} (h : DataW.trod enc Tryz.prog W 0 sp held fuel 4 [v] = some x) : ∃ z : Bool, v = .bool z := by
  obtain ⟨z, e, _⟩ := DataW.trod_bool Tryz.underlying4 h
  exact ⟨z, by simpa using e⟩
theorem strs_cellT {fuel : Nat} {held : Bool} {v : Value} {x : DataW H × List MemPlace} (hf : DataW.trod enc Tryz.prog W 0 (fun _ => true) held fuel 51 [v] = some x) : ∃ l : List Bs, Strs W v l := by
  rcases open_strings Tryz.underlying51 Tryz.underlying9 cellsStr hf with ⟨hcs, _⟩ | ⟨a, len', cap', ss, hcs, _, hl, hm, hz, _, hcell, _⟩
  · have e : v = .slice none 0 0 := by simpa using hcs
    rw [e]
    exact ⟨[], Strs.nil W⟩
  · have e : v = .slice (some a) len' cap' := by simpa using hcs
    rw [e]
    have hz' : ss.length = cap' := by simpa using hz
    have hlen : ((ss.take len').map (·.data.toList)).length = len' := by simp; omega
    refine ⟨(ss.take len').map (·.data.toList), ⟨some a, cap', by rw [hlen], by rw [hlen]; exact hl, hm, fun i x hx' => ?_⟩⟩
    have hi : i < len' := by have := (List.getElem?_eq_some_iff.1 hx').1; rw [hlen] at this; exact this
    have h0 := hcell 0 (by omega)
    have hspot : a.spot = none := by
      have := World.cell?_spot h0
      simpa [Addr.add] using this
    obtain ⟨b, o, sp⟩ := a
    simp only at hspot
    subst hspot
    have hlt : b < W.heap.size := by
      have := World.block_lt_of_cell? W _ h0
      simpa [Addr.add] using this
    refine ⟨b, o, rfl, hlt, ?_⟩
    have hci := hcell i (by omega)
    have hadd : (⟨b, o, none⟩ : Addr).add i = ⟨b, o + i, none⟩ := by unfold Addr.add; split <;> simp_all
    rw [hadd] at hci
    rw [hci]
    simp only [List.getElem?_map, List.getElem?_take, if_pos hi] at hx'
    rw [List.getElem?_eq_getElem (by omega)] at hx'
    simp only [Option.map_some, Option.some.injEq] at hx'
    subst hx'
    simp only [List.getD, List.getElem?_eq_getElem (show i < ss.length by omega), Option.getD_some, str_data]
theorem mv_row {fuel : Nat} {v : Value} {x : DataW H × List MemPlace} (h : DataW.trod enc Tryz.prog W 0 (fun _ => true) true fuel 42 [v] = some x) : ∃ ys : List (Array Value), RowS 20 W v (ys.map id) ∧ ∀ y ∈ ys, Part 39 20 y :=
  open_rowG id (fun y => Part 39 20 y) Tryz.underlying42 (by kernel_rfl) (by decide) (fun y hy => hy.size) (fun fuel cs x h hl => by obtain ⟨r, h1, h2⟩ := partOf (n := 20) (by kernel_rfl) h hl; exact ⟨r, h1, h2⟩) h
theorem pv_row {fuel : Nat} {v : Value} {x : DataW H × List MemPlace} (h : DataW.trod enc Tryz.prog W 0 (fun _ => true) true fuel 66 [v] = some x) : ∃ ys : List (Array Value), RowS 18 W v (ys.map id) ∧ ∀ y ∈ ys, Part 119 18 y :=
  open_rowG id (fun y => Part 119 18 y) Tryz.underlying66 (by kernel_rfl) (by decide) (fun y hy => hy.size) (fun fuel cs x h hl => by obtain ⟨r, h1, h2⟩ := partOf (n := 18) (by kernel_rfl) h hl; exact ⟨r, h1, h2⟩) h
set_option maxHeartbeats 4000000 in
set_option maxRecDepth 100000 in
theorem ef_cells {fuel : Nat} {cs : List Value} {x : DataW H × List MemPlace} (hf : DataW.trod enc Tryz.prog W 0 (fun _ => true) true fuel 77 cs = some x) (hsz : cs.length = 64) :
    ∃ p : EfP, cs = (efP p).toList ∧ EfOk0 p.1 ∧ SRow none 39 20 W p.2 p.1.mods := by
  obtain ⟨xs, fu, _, _, _, hl, hg⟩ := DataW.trod_struct Tryz.underlying77 hf
  have hlk : xs.length = 9 := hl
  have kk : ∀ i (hi : i < 9), ∃ y, xs[i]? = some y := fun i hi => ⟨_, List.getElem?_eq_getElem (by omega)⟩
  obtain ⟨y0, e0⟩ := kk 0 (by omega)
  have g0 : DataW.trod enc Tryz.prog W 0 (fun _ => true) true fu 3 ((cs.drop 0).take (Tryz.prog.cellsOf 3)) = xs[0]? := hg 0 _ rfl
  rw [show Tryz.prog.cellsOf 3 = 1 by kernel_rfl, e0] at g0
  obtain ⟨v0, q0⟩ := one_of ((cs.drop 0).take 1) (by simp; omega)
  rw [q0] at g0
  obtain ⟨op, rfl⟩ := int_cell g0
  obtain ⟨y1, e1⟩ := kk 1 (by omega)
  have g1 : DataW.trod enc Tryz.prog W 0 (fun _ => true) true fu 27 ((cs.drop 1).take (Tryz.prog.cellsOf 27)) = xs[1]? := hg 1 _ rfl
  rw [show Tryz.prog.cellsOf 27 = 18 by kernel_rfl, e1] at g1
  obtain ⟨rf, q1, p1⟩ := partOf (n := 18) (by kernel_rfl) g1 (by simp; omega)
  obtain ⟨y2, e2⟩ := kk 2 (by omega)
  have g2 : DataW.trod enc Tryz.prog W 0 (fun _ => true) true fu 73 ((cs.drop 19).take (Tryz.prog.cellsOf 73)) = xs[2]? := hg 2 _ rfl
  rw [show Tryz.prog.cellsOf 73 = 19 by kernel_rfl, e2] at g2
  obtain ⟨am, q2, p2⟩ := partOf (n := 19) (by kernel_rfl) g2 (by simp; omega)
  obtain ⟨y3, e3⟩ := kk 3 (by omega)
  have g3 : DataW.trod enc Tryz.prog W 0 (fun _ => true) true fu 3 ((cs.drop 38).take (Tryz.prog.cellsOf 3)) = xs[3]? := hg 3 _ rfl
  rw [show Tryz.prog.cellsOf 3 = 1 by kernel_rfl, e3] at g3
  obtain ⟨v3, q3⟩ := one_of ((cs.drop 38).take 1) (by simp; omega)
  rw [q3] at g3
  obtain ⟨ct, rfl⟩ := int_cell g3
  obtain ⟨y4, e4⟩ := kk 4 (by omega)
  have g4 : DataW.trod enc Tryz.prog W 0 (fun _ => true) true fu 3 ((cs.drop 39).take (Tryz.prog.cellsOf 3)) = xs[4]? := hg 4 _ rfl
  rw [show Tryz.prog.cellsOf 3 = 1 by kernel_rfl, e4] at g4
  obtain ⟨v4, q4⟩ := one_of ((cs.drop 39).take 1) (by simp; omega)
  rw [q4] at g4
  obtain ⟨zo, rfl⟩ := int_cell g4
  obtain ⟨y5, e5⟩ := kk 5 (by omega)
  have g5 : DataW.trod enc Tryz.prog W 0 (fun _ => true) true fu 9 ((cs.drop 40).take (Tryz.prog.cellsOf 9)) = xs[5]? := hg 5 _ rfl
  rw [show Tryz.prog.cellsOf 9 = 1 by kernel_rfl, e5] at g5
  obtain ⟨v5, q5⟩ := one_of ((cs.drop 40).take 1) (by simp; omega)
  rw [q5] at g5
  obtain ⟨ca, rfl, _⟩ := str_cell g5
  obtain ⟨y6, e6⟩ := kk 6 (by omega)
  have g6 : DataW.trod enc Tryz.prog W 0 (fun _ => true) true fu 25 ((cs.drop 41).take (Tryz.prog.cellsOf 25)) = xs[6]? := hg 6 _ rfl
  rw [show Tryz.prog.cellsOf 25 = 16 by kernel_rfl, e6] at g6
  obtain ⟨fl, q6, p6⟩ := partOf (n := 16) (by kernel_rfl) g6 (by simp; omega)
  obtain ⟨y7, e7⟩ := kk 7 (by omega)
  have g7 : DataW.trod enc Tryz.prog W 0 (fun _ => true) true fu 75 ((cs.drop 57).take (Tryz.prog.cellsOf 75)) = xs[7]? := hg 7 _ rfl
  rw [show Tryz.prog.cellsOf 75 = 6 by kernel_rfl, e7] at g7
  obtain ⟨po, q7, p7⟩ := partOf (n := 6) (by kernel_rfl) g7 (by simp; omega)
  obtain ⟨y8, e8⟩ := kk 8 (by omega)
  have g8 : DataW.trod enc Tryz.prog W 0 (fun _ => true) true fu 42 ((cs.drop 63).take (Tryz.prog.cellsOf 42)) = xs[8]? := hg 8 _ rfl
  rw [show Tryz.prog.cellsOf 42 = 1 by kernel_rfl, e8] at g8
  obtain ⟨mv, q8⟩ := one_of ((cs.drop 63).take 1) (by simp; omega)
  rw [q8] at g8
  obtain ⟨mvl, p8, f8⟩ := mv_row g8
  have e : cs.drop 0 = _ := (part_step cs 0 1 q0 (part_step cs 1 18 q1 (part_step cs 19 19 q2 (part_step cs 38 1 q3 (part_step cs 39 1 q4 (part_step cs 40 1 q5 (part_step cs 41 16 q6 (part_step cs 57 6 q7 (part_step cs 63 1 q8 (part_end cs hsz))))))))))
  rw [List.drop_zero] at e
  refine ⟨(⟨op, rf, am, ct, zo, ca, fl, po, mvl⟩, mv), ?_, ⟨p1, p2, p6, p7, f8⟩, by rw [List.map_id] at p8; exact p8⟩
  rw [e]
  unfold efP efC
  rw [cat_list]
  simp
theorem ev_row {fuel : Nat} {v : Value} {x : DataW H × List MemPlace} (h : DataW.trod enc Tryz.prog W 0 (fun _ => true) true fuel 67 [v] = some x) : ∃ ys : List EfP, RowS 64 W v (ys.map efP) ∧ ∀ y ∈ ys, EfOk0 y.1 ∧ SRow none 39 20 W y.2 y.1.mods :=
  open_rowG efP (fun y => EfOk0 y.1 ∧ SRow none 39 20 W y.2 y.1.mods) Tryz.underlying67 (by kernel_rfl) (by decide) (fun y hy => efP_sz0 hy.1) (fun fuel cs x h hl => ef_cells h hl) h
set_option maxHeartbeats 4000000 in
set_option maxRecDepth 100000 in
theorem ab_cells {fuel : Nat} {cs : List Value} {x : DataW H × List MemPlace} (hf : DataW.trod enc Tryz.prog W 0 (fun _ => true) true fuel 71 cs = some x) (hsz : cs.length = 72) :
    ∃ p : AbP, cs = (abP p).toList ∧ AbOk0 p.1 ∧ AbIn none W p := by
  obtain ⟨xs, fu, _, _, _, hl, hg⟩ := DataW.trod_struct Tryz.underlying71 hf
  have hlk : xs.length = 10 := hl
  have kk : ∀ i (hi : i < 10), ∃ y, xs[i]? = some y := fun i hi => ⟨_, List.getElem?_eq_getElem (by omega)⟩
  obtain ⟨y0, e0⟩ := kk 0 (by omega)
  have g0 : DataW.trod enc Tryz.prog W 0 (fun _ => true) true fu 3 ((cs.drop 0).take (Tryz.prog.cellsOf 3)) = xs[0]? := hg 0 _ rfl
  rw [show Tryz.prog.cellsOf 3 = 1 by kernel_rfl, e0] at g0
  obtain ⟨v0, q0⟩ := one_of ((cs.drop 0).take 1) (by simp; omega)
  rw [q0] at g0
  obtain ⟨ki, rfl⟩ := int_cell g0
  obtain ⟨y1, e1⟩ := kk 1 (by omega)
  have g1 : DataW.trod enc Tryz.prog W 0 (fun _ => true) true fu 25 ((cs.drop 1).take (Tryz.prog.cellsOf 25)) = xs[1]? := hg 1 _ rfl
  rw [show Tryz.prog.cellsOf 25 = 16 by kernel_rfl, e1] at g1
  obtain ⟨fl, q1, p1⟩ := partOf (n := 16) (by kernel_rfl) g1 (by simp; omega)
  obtain ⟨y2, e2⟩ := kk 2 (by omega)
  have g2 : DataW.trod enc Tryz.prog W 0 (fun _ => true) true fu 42 ((cs.drop 17).take (Tryz.prog.cellsOf 42)) = xs[2]? := hg 2 _ rfl
  rw [show Tryz.prog.cellsOf 42 = 1 by kernel_rfl, e2] at g2
  obtain ⟨mv, q2⟩ := one_of ((cs.drop 17).take 1) (by simp; omega)
  rw [q2] at g2
  obtain ⟨mvl, p2, f2⟩ := mv_row g2
  obtain ⟨y3, e3⟩ := kk 3 (by omega)
  have g3 : DataW.trod enc Tryz.prog W 0 (fun _ => true) true fu 63 ((cs.drop 18).take (Tryz.prog.cellsOf 63)) = xs[3]? := hg 3 _ rfl
  rw [show Tryz.prog.cellsOf 63 = 10 by kernel_rfl, e3] at g3
  obtain ⟨pr, q3, p3⟩ := partOf (n := 10) (by kernel_rfl) g3 (by simp; omega)
  obtain ⟨y4, e4⟩ := kk 4 (by omega)
  have g4 : DataW.trod enc Tryz.prog W 0 (fun _ => true) true fu 4 ((cs.drop 28).take (Tryz.prog.cellsOf 4)) = xs[4]? := hg 4 _ rfl
  rw [show Tryz.prog.cellsOf 4 = 1 by kernel_rfl, e4] at g4
  obtain ⟨v4, q4⟩ := one_of ((cs.drop 28).take 1) (by simp; omega)
  rw [q4] at g4
  obtain ⟨sl, rfl⟩ := bool_cell g4
  obtain ⟨y5, e5⟩ := kk 5 (by omega)
  have g5 : DataW.trod enc Tryz.prog W 0 (fun _ => true) true fu 65 ((cs.drop 29).take (Tryz.prog.cellsOf 65)) = xs[5]? := hg 5 _ rfl
  rw [show Tryz.prog.cellsOf 65 = 18 by kernel_rfl, e5] at g5
  obtain ⟨tr, q5, p5⟩ := partOf (n := 18) (by kernel_rfl) g5 (by simp; omega)
  obtain ⟨y6, e6⟩ := kk 6 (by omega)
  have g6 : DataW.trod enc Tryz.prog W 0 (fun _ => true) true fu 4 ((cs.drop 47).take (Tryz.prog.cellsOf 4)) = xs[6]? := hg 6 _ rfl
  rw [show Tryz.prog.cellsOf 4 = 1 by kernel_rfl, e6] at g6
  obtain ⟨v6, q6⟩ := one_of ((cs.drop 47).take 1) (by simp; omega)
  rw [q6] at g6
  obtain ⟨ma, rfl⟩ := bool_cell g6
  obtain ⟨y7, e7⟩ := kk 7 (by omega)
  have g7 : DataW.trod enc Tryz.prog W 0 (fun _ => true) true fu 66 ((cs.drop 48).take (Tryz.prog.cellsOf 66)) = xs[7]? := hg 7 _ rfl
  rw [show Tryz.prog.cellsOf 66 = 1 by kernel_rfl, e7] at g7
  obtain ⟨pv, q7⟩ := one_of ((cs.drop 48).take 1) (by simp; omega)
  rw [q7] at g7
  obtain ⟨pvl, p7, f7⟩ := pv_row g7
  obtain ⟨y8, e8⟩ := kk 8 (by omega)
  have g8 : DataW.trod enc Tryz.prog W 0 (fun _ => true) true fu 67 ((cs.drop 49).take (Tryz.prog.cellsOf 67)) = xs[8]? := hg 8 _ rfl
  rw [show Tryz.prog.cellsOf 67 = 1 by kernel_rfl, e8] at g8
  obtain ⟨ev, q8⟩ := one_of ((cs.drop 49).take 1) (by simp; omega)
  rw [q8] at g8
  obtain ⟨evl, p8, f8⟩ := ev_row g8
  obtain ⟨y9, e9⟩ := kk 9 (by omega)
  have g9 : DataW.trod enc Tryz.prog W 0 (fun _ => true) true fu 69 ((cs.drop 50).take (Tryz.prog.cellsOf 69)) = xs[9]? := hg 9 _ rfl
  rw [show Tryz.prog.cellsOf 69 = 22 by kernel_rfl, e9] at g9
  obtain ⟨re, q9, p9⟩ := partOf (n := 22) (by kernel_rfl) g9 (by simp; omega)
  have e : cs.drop 0 = _ := (part_step cs 0 1 q0 (part_step cs 1 16 q1 (part_step cs 17 1 q2 (part_step cs 18 10 q3 (part_step cs 28 1 q4 (part_step cs 29 18 q5 (part_step cs 47 1 q6 (part_step cs 48 1 q7 (part_step cs 49 1 q8 (part_step cs 50 22 q9 (part_end cs hsz)))))))))))
  rw [List.drop_zero] at e
  refine ⟨(⟨ki, fl, mvl, pr, sl, tr, ma, pvl, evl.map (·.1), re⟩, mv, pv, ev), ?_, ⟨p1, p3, p5, p9, f2, f7, fun y hy => by
    obtain ⟨z, hz, rfl⟩ := List.mem_map.1 hy
    exact (f8 z hz).1⟩, by rw [List.map_id] at p2; exact p2, by rw [List.map_id] at p7; exact p7, evl, rfl, p8, fun z hz => (f8 z hz).2⟩
  rw [e]
  unfold abP abC
  rw [cat_list]
  simp
theorem av_row {fuel : Nat} {v : Value} {x : DataW H × List MemPlace} (h : DataW.trod enc Tryz.prog W 0 (fun _ => true) true fuel 54 [v] = some x) : ∃ ys : List AbP, RowS 72 W v (ys.map abP) ∧ ∀ y ∈ ys, AbOk0 y.1 ∧ AbIn none W y :=
  open_rowG abP (fun y => AbOk0 y.1 ∧ AbIn none W y) Tryz.underlying54 (by kernel_rfl) (by decide) (fun y hy => abP_sz0 hy.1) (fun fuel cs x h hl => ab_cells h hl) h
set_option maxHeartbeats 4000000 in
set_option maxRecDepth 100000 in
theorem line_cells {fuel : Nat} {cs : List Value} {x : DataW H × List MemPlace} (hf : DataW.trod enc Tryz.prog W 0 (fun _ => true) true fuel 53 cs = some x) (hsz : cs.length = 3) :
    ∃ (a b : Int) (sv : Value) (l : List Bs), cs = [.int .i64 a, .int .i64 b, sv] ∧ Strs W sv l := by
  obtain ⟨xs, fu, _, _, _, hl, hg⟩ := DataW.trod_struct Tryz.underlying53 hf
  have hlk : xs.length = 3 := hl
  have kk : ∀ i (hi : i < 3), ∃ y, xs[i]? = some y := fun i hi => ⟨_, List.getElem?_eq_getElem (by omega)⟩
  obtain ⟨y0, e0⟩ := kk 0 (by omega)
  have g0 : DataW.trod enc Tryz.prog W 0 (fun _ => true) true fu 3 ((cs.drop 0).take (Tryz.prog.cellsOf 3)) = xs[0]? := hg 0 _ rfl
  rw [show Tryz.prog.cellsOf 3 = 1 by kernel_rfl, e0] at g0
  obtain ⟨v0, q0⟩ := one_of ((cs.drop 0).take 1) (by simp; omega)
  rw [q0] at g0
  obtain ⟨a, rfl⟩ := int_cell g0
  obtain ⟨y1, e1⟩ := kk 1 (by omega)
  have g1 : DataW.trod enc Tryz.prog W 0 (fun _ => true) true fu 3 ((cs.drop 1).take (Tryz.prog.cellsOf 3)) = xs[1]? := hg 1 _ rfl
  rw [show Tryz.prog.cellsOf 3 = 1 by kernel_rfl, e1] at g1
  obtain ⟨v1, q1⟩ := one_of ((cs.drop 1).take 1) (by simp; omega)
  rw [q1] at g1
  obtain ⟨b, rfl⟩ := int_cell g1
  obtain ⟨y2, e2⟩ := kk 2 (by omega)
  have g2 : DataW.trod enc Tryz.prog W 0 (fun _ => true) true fu 51 ((cs.drop 2).take (Tryz.prog.cellsOf 51)) = xs[2]? := hg 2 _ rfl
  rw [show Tryz.prog.cellsOf 51 = 1 by kernel_rfl, e2] at g2
  obtain ⟨sv, q2⟩ := one_of ((cs.drop 2).take 1) (by simp; omega)
  rw [q2] at g2
  obtain ⟨svl, p2⟩ := strs_cellT g2
  have e : cs.drop 0 = _ := (part_step cs 0 1 q0 (part_step cs 1 1 q1 (part_step cs 2 1 q2 (part_end cs hsz))))
  rw [List.drop_zero] at e
  exact ⟨a, b, sv, svl, by rw [e]; rfl, p2⟩
set_option maxHeartbeats 4000000 in
set_option maxRecDepth 100000 in
theorem tr_cells {fuel : Nat} {cs : List Value} {x : DataW H × List MemPlace} (hf : DataW.trod enc Tryz.prog W 0 (fun _ => true) true fuel 56 cs = some x) (hsz : cs.length = 17) :
    ∃ (x : TrD) (sv av : Value), cs = (trV x sv av).toList ∧ Part 50 7 x.co ∧ (∀ d ∈ x.abs, AbOk0 d) ∧ Strs W sv x.subs ∧ AbRow none W av x.abs := by
  obtain ⟨xs, fu, _, _, _, hl, hg⟩ := DataW.trod_struct Tryz.underlying56 hf
  have hlk : xs.length = 9 := hl
  have kk : ∀ i (hi : i < 9), ∃ y, xs[i]? = some y := fun i hi => ⟨_, List.getElem?_eq_getElem (by omega)⟩
  obtain ⟨y0, e0⟩ := kk 0 (by omega)
  have g0 : DataW.trod enc Tryz.prog W 0 (fun _ => true) true fu 9 ((cs.drop 0).take (Tryz.prog.cellsOf 9)) = xs[0]? := hg 0 _ rfl
  rw [show Tryz.prog.cellsOf 9 = 1 by kernel_rfl, e0] at g0
  obtain ⟨v0, q0⟩ := one_of ((cs.drop 0).take 1) (by simp; omega)
  rw [q0] at g0
  obtain ⟨nm, rfl, _⟩ := str_cell g0
  obtain ⟨y1, e1⟩ := kk 1 (by omega)
  have g1 : DataW.trod enc Tryz.prog W 0 (fun _ => true) true fu 50 ((cs.drop 1).take (Tryz.prog.cellsOf 50)) = xs[1]? := hg 1 _ rfl
  rw [show Tryz.prog.cellsOf 50 = 7 by kernel_rfl, e1] at g1
  obtain ⟨co, q1, p1⟩ := partOf (n := 7) (by kernel_rfl) g1 (by simp; omega)
  obtain ⟨y2, e2⟩ := kk 2 (by omega)
  have g2 : DataW.trod enc Tryz.prog W 0 (fun _ => true) true fu 3 ((cs.drop 8).take (Tryz.prog.cellsOf 3)) = xs[2]? := hg 2 _ rfl
  rw [show Tryz.prog.cellsOf 3 = 1 by kernel_rfl, e2] at g2
  obtain ⟨v2, q2⟩ := one_of ((cs.drop 8).take 1) (by simp; omega)
  rw [q2] at g2
  obtain ⟨cl, rfl⟩ := int_cell g2
  obtain ⟨y3, e3⟩ := kk 3 (by omega)
  have g3 : DataW.trod enc Tryz.prog W 0 (fun _ => true) true fu 53 ((cs.drop 9).take (Tryz.prog.cellsOf 53)) = xs[3]? := hg 3 _ rfl
  rw [show Tryz.prog.cellsOf 53 = 3 by kernel_rfl, e3] at g3
  obtain ⟨a, b, sv, sl, q3, p3⟩ := line_cells g3 (by simp; omega)
  obtain ⟨y4, e4⟩ := kk 4 (by omega)
  have g4 : DataW.trod enc Tryz.prog W 0 (fun _ => true) true fu 3 ((cs.drop 12).take (Tryz.prog.cellsOf 3)) = xs[4]? := hg 4 _ rfl
  rw [show Tryz.prog.cellsOf 3 = 1 by kernel_rfl, e4] at g4
  obtain ⟨v4, q4⟩ := one_of ((cs.drop 12).take 1) (by simp; omega)
  rw [q4] at g4
  obtain ⟨pw, rfl⟩ := int_cell g4
  obtain ⟨y5, e5⟩ := kk 5 (by omega)
  have g5 : DataW.trod enc Tryz.prog W 0 (fun _ => true) true fu 3 ((cs.drop 13).take (Tryz.prog.cellsOf 3)) = xs[5]? := hg 5 _ rfl
  rw [show Tryz.prog.cellsOf 3 = 1 by kernel_rfl, e5] at g5
  obtain ⟨v5, q5⟩ := one_of ((cs.drop 13).take 1) (by simp; omega)
  rw [q5] at g5
  obtain ⟨tg, rfl⟩ := int_cell g5
  obtain ⟨y6, e6⟩ := kk 6 (by omega)
  have g6 : DataW.trod enc Tryz.prog W 0 (fun _ => true) true fu 3 ((cs.drop 14).take (Tryz.prog.cellsOf 3)) = xs[6]? := hg 6 _ rfl
  rw [show Tryz.prog.cellsOf 3 = 1 by kernel_rfl, e6] at g6
  obtain ⟨v6, q6⟩ := one_of ((cs.drop 14).take 1) (by simp; omega)
  rw [q6] at g6
  obtain ⟨ke, rfl⟩ := int_cell g6
  obtain ⟨y7, e7⟩ := kk 7 (by omega)
  have g7 : DataW.trod enc Tryz.prog W 0 (fun _ => true) true fu 54 ((cs.drop 15).take (Tryz.prog.cellsOf 54)) = xs[7]? := hg 7 _ rfl
  rw [show Tryz.prog.cellsOf 54 = 1 by kernel_rfl, e7] at g7
  obtain ⟨av, q7⟩ := one_of ((cs.drop 15).take 1) (by simp; omega)
  rw [q7] at g7
  obtain ⟨avl, p7, f7⟩ := av_row g7
  obtain ⟨y8, e8⟩ := kk 8 (by omega)
  have g8 : DataW.trod enc Tryz.prog W 0 (fun _ => true) true fu 3 ((cs.drop 16).take (Tryz.prog.cellsOf 3)) = xs[8]? := hg 8 _ rfl
  rw [show Tryz.prog.cellsOf 3 = 1 by kernel_rfl, e8] at g8
  obtain ⟨v8, q8⟩ := one_of ((cs.drop 16).take 1) (by simp; omega)
  rw [q8] at g8
  obtain ⟨cn, rfl⟩ := int_cell g8
  have e : cs.drop 0 = _ := (part_step cs 0 1 q0 (part_step cs 1 7 q1 (part_step cs 8 1 q2 (part_step cs 9 3 q3 (part_step cs 12 1 q4 (part_step cs 13 1 q5 (part_step cs 14 1 q6 (part_step cs 15 1 q7 (part_step cs 16 1 q8 (part_end cs hsz))))))))))
  rw [List.drop_zero] at e
  refine ⟨⟨nm, co, cl, a, b, sl, pw, tg, ke, avl.map (·.1), cn⟩, sv, av, ?_, p1, fun y hy => ?_, p3, avl, rfl, p7, fun z hz => (f7 z hz).2⟩
  · rw [e]
    unfold trV trC
    rw [cat_list]
    simp
  · obtain ⟨z, hz, rfl⟩ := List.mem_map.1 hy
    exact (f7 z hz).1
set_option maxRecDepth 100000 in
theorem open_tr {b0 : Nat} {v : Value} {d : DataW H} {ps : List MemPlace} (hok : Value.okWide Tryz.prog W .any b0 56 v) (hd : DataW.Trod enc Tryz.prog W 0 (fun _ => true) true 56 v d ps) :
    ∃ (x : TrD) (sv av : Value), v = .agg (trV x sv av) ∧ Part 50 7 x.co ∧ (∀ d ∈ x.abs, AbOk0 d) ∧ Strs W sv x.subs ∧ AbRow none W av x.abs := by
  obtain ⟨cs, rfl, hsz⟩ := okWide_struct Tryz.underlying56 hok
  rw [show Tryz.prog.cellsOf 56 = 17 by kernel_rfl] at hsz
  obtain ⟨l⟩ := cs
  obtain ⟨fuel, hf⟩ := hd
  obtain ⟨x, sv, av, h1, h2⟩ := tr_cells hf hsz
  exact ⟨x, sv, av, (congrArg (fun z => Value.agg ⟨z⟩) h1).trans (agg_list _), h2⟩
set_option maxRecDepth 100000 in
theorem open_two {b0 : Nat} {v : Value} {d : DataW H} {ps : List MemPlace} (hok : Value.okWide Tryz.prog W .any b0 57 v) (hd : DataW.Trod enc Tryz.prog W 0 (fun _ => true) true 57 v d ps) :
    ∃ a b : Int, v = .agg #[.int .i64 a, .int .i64 b] := by
  obtain ⟨cs, rfl, hsz, _⟩ : ∃ cs, v = .agg cs ∧ cs.size = Tryz.prog.cellsOf 57 ∧ Row.okWide Tryz.prog W .any b0 57 cs := by
    simpa [Value.okWide, Tryz.underlying57] using hok
  rw [show Tryz.prog.cellsOf 57 = 2 by kernel_rfl] at hsz
  obtain ⟨l⟩ := cs
  obtain ⟨a, b, rfl⟩ := list2 l hsz
  obtain ⟨fuel, hf⟩ := hd
  obtain ⟨xs, m, _, _, _, hl, hel⟩ := DataW.trod_array Tryz.underlying57 hf
  rw [cellsInt] at hel
  have k : ∀ i (hi : i < 2), ∃ y, xs[i]? = some y := fun i hi => ⟨_, List.getElem?_eq_getElem (by omega)⟩
  obtain ⟨y0, e0⟩ := k 0 (by omega)
  obtain ⟨y1, e1⟩ := k 1 (by omega)
  obtain ⟨z0, rfl⟩ := int_cell (v := a) ((hel 0 (by omega)).trans e0)
  obtain ⟨z1, rfl⟩ := int_cell (v := b) ((hel 1 (by omega)).trans e1)
  exact ⟨z0, z1, rfl⟩
end
end Go.Proofs.YtbcgkeclmioeiaaGreatDoor
namespace Go.Proofs.YtbcgkeclmioeiaaGreatDoor
open Go.RowKit
open Wd (Bs)

theorem or_twice (a n : Int) : bits .or .i64 (bits .or .i64 a n) n = bits .or .i64 a n := by
  have e : ∀ x y : Int, bits .or .i64 x y = (BitVec.ofInt 64 x ||| BitVec.ofInt 64 y).toInt := fun x y => Bt.toInt_wrap _
  rw [e (bits .or .i64 a n), e a n, BitVec.ofInt_toInt, BitVec.or_assoc, BitVec.or_self]
theorem not_twice (a n : Int) : bits .andNot .i64 (bits .andNot .i64 a n) n = bits .andNot .i64 a n := by
  have e : ∀ x y : Int, bits .andNot .i64 x y = (BitVec.ofInt 64 x &&& ~~~ BitVec.ofInt 64 y).toInt := fun x y => Bt.toInt_wrap _
  rw [e (bits .andNot .i64 a n), e a n, BitVec.ofInt_toInt, BitVec.and_assoc, BitVec.and_self]
theorem ins_memT (l : List Bs) (i : Nat) (x : Bs) : x ∈ insAt l i x := by unfold insAt; simp
theorem add_againT (l : Ln.Line) (x : Bs) : addL (addL l x) x = addL l x := by
  by_cases hc : (Ln.isSub x && !hasB l.subs x && decide (l.subs.length < 4)) = true
  · refine addL_no (.inr (.inl ?_))
    unfold addL
    rw [if_pos hc]
    unfold hasB
    simpa using ins_memT _ _ _
  · have e : addL l x = l := by unfold addL; rw [if_neg hc]
    rw [e, e]
theorem addL_keeps (l : Ln.Line) (x : Bs) : (addL l x).super = l.super ∧ (addL l x).types = l.types ∧ (addL l x).subs.length ≤ l.subs.length + 5 := by
  unfold addL
  split
  · refine ⟨rfl, rfl, ?_⟩
    rename_i h
    simp only [Bool.and_eq_true, decide_eq_true_eq] at h
    show (insAt _ _ _).length ≤ _
    unfold insAt
    simp
    omega
  · exact ⟨rfl, rfl, by omega⟩
theorem add_subs (a b : Int) (l : List Bs) (x : Bs) : (addL ⟨a, b, (addL ⟨a, b, l⟩ x).subs⟩ x).subs = (addL ⟨a, b, l⟩ x).subs := by
  have h := addL_keeps ⟨a, b, l⟩ x
  have e : addL ⟨a, b, l⟩ x = ⟨a, b, (addL ⟨a, b, l⟩ x).subs⟩ := by
    rcases hq : addL ⟨a, b, l⟩ x with ⟨a', b', l'⟩
    rw [hq] at h
    simp only at h
    rw [h.1, h.2.1]
  rw [← e, add_againT]
section
variable {x : TrD} {m : Mo.Md} {you n : Int}
theorem mod_twice (h : Mo.okB m = true) (h13 : ¬ m.k = 13) (h14 : ¬ m.k = 14) : modT (modT x m you n) m you n = modT x m you n := by
  have hr := Mo.ok_range h
  have hc : m.k = 1 ∨ m.k = 2 ∨ m.k = 3 ∨ m.k = 4 ∨ m.k = 5 ∨ m.k = 6 ∨ m.k = 7 ∨ m.k = 8 ∨ m.k = 9 ∨ m.k = 10 ∨ m.k = 11 ∨ m.k = 12 := by omega
  rcases hc with e | e | e | e | e | e | e | e | e | e | e | e
  · simp only [modT_1 e]
  · simp only [modT_2 e]
  · simp only [modT_3 e, or_twice]
  · simp only [modT_4 e]
  · simp only [modT_5 e, add_subs]
  · simp only [modT_6 e]
  · simp only [modT_7 e, or_twice]
  · simp only [modT_8 e, or_twice]
  · simp only [modT_9 e, not_twice]
  · simp only [modT_10 e]
  · simp only [modT_11 e]
  · simp only [modT_12 e]
theorem apply_no (h : Mo.okB m = false) : applyT x m you n = x := by unfold applyT; rw [if_neg (by rw [h]; decide)]
theorem apply_yes (h : Mo.okB m = true) : applyT x m you n = modT x m you n := by unfold applyT; rw [if_pos h]
theorem apply_twice (h : Mo.okB m = true) (h13 : ¬ m.k = 13) (h14 : ¬ m.k = 14) : applyT (applyT x m you n) m you n = applyT x m you n := by
  rw [apply_yes h, apply_yes h]
  exact mod_twice h h13 h14
theorem apply_switch (h : Mo.okB m = true) (h14 : m.k = 14) : applyT x m you n = { x with p := x.t, t := x.p } ∧ applyT (applyT x m you n) m you n = x := by
  rw [apply_yes h, apply_yes h, modT_14 h14, modT_14 h14]
  exact ⟨rfl, rfl⟩
theorem apply_keeps (m : Mo.Md) (you n : Int) (x : TrD) : (applyT x m you n).co = x.co ∧ (applyT x m you n).subs.length ≤ x.subs.length + 5 ∧ ((applyT x m you n).abs = x.abs ∨ (applyT x m you n).abs = []) := by
  unfold applyT
  split
  · have h5 := (addL_keeps ⟨x.a, x.b, x.subs⟩ m.sub).2.2
    by_cases e1 : m.k = 1
    · rw [modT_1 e1]; exact ⟨rfl, Nat.le_add_right _ _, .inl rfl⟩
    by_cases e2 : m.k = 2
    · rw [modT_2 e2]; exact ⟨rfl, Nat.le_add_right _ _, .inl rfl⟩
    by_cases e3 : m.k = 3
    · rw [modT_3 e3]; exact ⟨rfl, Nat.le_add_right _ _, .inl rfl⟩
    by_cases e4 : m.k = 4
    · rw [modT_4 e4]; exact ⟨rfl, (by show 1 ≤ x.subs.length + 5; omega), .inl rfl⟩
    by_cases e5 : m.k = 5
    · rw [modT_5 e5]; exact ⟨rfl, h5, .inl rfl⟩
    by_cases e6 : m.k = 6
    · rw [modT_6 e6]; exact ⟨rfl, Nat.le_add_right _ _, .inl rfl⟩
    by_cases e7 : m.k = 7
    · rw [modT_7 e7]; exact ⟨rfl, Nat.le_add_right _ _, .inl rfl⟩
    by_cases e8 : m.k = 8
    · rw [modT_8 e8]; exact ⟨rfl, Nat.le_add_right _ _, .inl rfl⟩
    by_cases e9 : m.k = 9
    · rw [modT_9 e9]; exact ⟨rfl, Nat.le_add_right _ _, .inl rfl⟩
    by_cases e10 : m.k = 10
    · rw [modT_10 e10]; exact ⟨rfl, Nat.le_add_right _ _, .inr rfl⟩
    by_cases e11 : m.k = 11
    · rw [modT_11 e11]; exact ⟨rfl, Nat.le_add_right _ _, .inl rfl⟩
    by_cases e12 : m.k = 12
    · rw [modT_12 e12]; exact ⟨rfl, Nat.le_add_right _ _, .inl rfl⟩
    by_cases e13 : m.k = 13
    · rw [modT_13 e13]; exact ⟨rfl, Nat.le_add_right _ _, .inl rfl⟩
    have e : modT x m you n = { x with p := x.t, t := x.p } := by unfold modT; simp [e1, e2, e3, e4, e5, e6, e7, e8, e9, e10, e11, e12, e13]
    rw [e]
    exact ⟨rfl, Nat.le_add_right _ _, .inl rfl⟩
  · exact ⟨rfl, by omega, .inl rfl⟩
theorem apply_ok (h : TrOk x) (hs : x.subs.length ≤ 900) : TrOk (applyT x m you n) := by
  obtain ⟨h1, h2, h3⟩ := apply_keeps m you n x
  refine ⟨by rw [h1]; exact h.co, by omega, fun d hd => ?_, ?_⟩
  · rcases h3 with e | e
    · rw [e] at hd; exact h.abs d hd
    · rw [e] at hd; cases hd
  · rcases h3 with e | e
    · rw [e]; exact h.few
    · rw [e]; simp
end
end Go.Proofs.YtbcgkeclmioeiaaGreatDoor
namespace Go.Proofs.YtbcgkeclmioeiaaGreatDoor
open Go.RowKit
open Wd (Bs)

set_option maxHeartbeats 4000000 in
set_option maxRecDepth 100000 in
theorem cloneTraits (x : TrD) (sv av : Value) (ok : TrOk x) (w : World) (hs : Strs w sv x.subs) (ha : AbRow none w av x.abs) :
    Calls Tryz.prog 53 #[.agg (trV x sv av)] w fun e w' => (∃ s2 a2, e = .returned (.agg (trV x s2 a2)) ∧ OwnStrs w.heap.size w' s2 x.subs ∧ AbRow (some w.heap.size) w' a2 x.abs) ∧ Below w.heap.size w w' := by
  obtain ⟨ad, cap, ev⟩ := hs.slice
  subst ev
  obtain ⟨bd, bcap, ev⟩ := ha.slice
  subst ev
  have HS := Lib.hid hs
  have HA := Lib.hid ha
  clear hs ha
  unfold trV

  have B0 := Lib.hid (Below.refl w.heap.size w)
  go_enter Tryz.func53, Tryz.ntmps53
  go_upto_region 0 with fail
  refine wp_region_lit ?_
  obtain ⟨w1, hw⟩ : ∃ v, v = w.alloc (.cells (trC x.nm x.co x.c x.a x.b (.slice ad x.subs.length cap) x.p x.t x.k (.slice bd x.abs.length bcap) x.u) 56) := ⟨_, rfl⟩
  obtain ⟨pT, hp⟩ : ∃ v, v = w.heap.size := ⟨_, rfl⟩
  have B1 : Hid (Below w.heap.size w w1) := Lib.hid (by rw [hw]; exact B0.out.alloc B0.out.size _)
  have LET : Hid (w.heap.size ≤ pT) := Lib.hid (by rw [hp]; exact B0.out.size)
  have KT1 : Hid (Blk w1 pT (trC x.nm x.co x.c x.a x.b (.slice ad x.subs.length cap) x.p x.t x.k (.slice bd x.abs.length bcap) x.u) 56) := Lib.hid (by rw [hw, hp]; exact Blk.new _ _ _)
  with_reducible refine wpList_runWV (some 1) (v := .pointer (some ⟨pT, 0, none⟩)) (w' := w1) ?_ ?_ ?_ ?_
  · rfl
  · rfl
  · rw [hw, hp]; (go_simp; (try rfl))
  simp only [pu, sB, s0, sS]
  clear hw hp
  clear B0
  obtain ⟨w2, hw⟩ : ∃ v, v = w1.alloc (.cells zTr.cells 56) := ⟨_, rfl⟩
  obtain ⟨pR, hp⟩ : ∃ v, v = w1.heap.size := ⟨_, rfl⟩
  have B2 : Hid (Below w.heap.size w w2) := Lib.hid (by rw [hw]; exact B1.out.alloc B1.out.size _)
  have LER : Hid (w.heap.size ≤ pR) := Lib.hid (by rw [hp]; exact B1.out.size)
  have KT2 := Lib.hid (show Blk w2 pT (trC x.nm x.co x.c x.a x.b (.slice ad x.subs.length cap) x.p x.t x.k (.slice bd x.abs.length bcap) x.u) 56 by rw [hw]; exact KT1.out.alloc _)
  have NETR : Hid (pT ≠ pR) := Lib.hid (by rw [hp]; exact Nat.ne_of_lt KT1.out.lt)
  have NERT : Hid (pR ≠ pT) := Lib.hid (Ne.symm NETR.out)
  have KR2 : Hid (Blk w2 pR zTr.cells 56) := Lib.hid (by rw [hw, hp]; exact Blk.new _ _ _)
  with_reducible refine wpList_runWV (some 2) (v := .pointer (some ⟨pR, 0, none⟩)) (w' := w2) ?_ ?_ ?_ ?_
  · rfl
  · rfl
  · rw [hw, hp]; exact run_allocOp rfl infoTr zeroTr
  simp only [pu, sB, s0, sS]
  clear hw hp
  clear B1 KT1
  go_upto_region 1 with fail
  refine wp_region_lit ?_
  (with_reducible refine rN (v := .pointer (some ⟨pT, 9, none⟩)) ?_ ?_ ?_); (· rfl); (· go_simp; (try rfl)); simp only [pu, sB, s0, sS]
  (with_reducible refine rN (v := .pointer (some ⟨pT, 11, none⟩)) ?_ ?_ ?_); (· rfl); (· go_simp; (try rfl)); simp only [pu, sB, s0, sS]
  with_reducible refine wpList_loadV (.tmp 4) (j := 11) (v := .slice ad x.subs.length cap) ?_ ?_ KT2.out ?_ Tryz.underlying51 ?_ ?_
  · rfl
  · rfl
  · exact trC_11 ok.co
  · rfl
  simp only [pu, sB, s0, sS]
  go_wp2_with fail
  refine (sClone _ x.subs _ (HS.out.below B2.out (Nat.le_refl _)) (by have := ok.subs; omega)).mono ?_
  rintro e w3 ⟨v2, rfl, hO, hb⟩
  obtain ⟨ad2, cap2, ev2⟩ := hO.strs.slice
  subst ev2
  have B3 := Lib.hid (B2.out.trans (hb.mono B2.out.size))
  have KT3 := Lib.hid (KT2.out.below hb KT2.out.lt)
  have KR3 := Lib.hid (KR2.out.below hb KR2.out.lt)
  have HN3 : Hid (OwnStrs w.heap.size w3 (.slice ad2 x.subs.length cap2) x.subs) := Lib.hid (hO.mono B2.out.size)
  clear hb
  clear B2 KT2 KR2
  go_simp
  rename_i hKK
  refine hKK _ _ ?_
  clear hKK
  try simp only [pu, sB, s0, sS]
  (with_reducible refine rN (v := .pointer (some ⟨pT, 9, none⟩)) ?_ ?_ ?_); (· rfl); (· go_simp; (try rfl)); simp only [pu, sB, s0, sS]
  (with_reducible refine rN (v := .pointer (some ⟨pT, 11, none⟩)) ?_ ?_ ?_); (· rfl); (· go_simp; (try rfl)); simp only [pu, sB, s0, sS]
  have KT4 := Lib.hid (KT3.out.stored (o := 11) (vs := [.slice ad2 x.subs.length cap2]) (cs' := (trC x.nm x.co x.c x.a x.b (.slice ad2 x.subs.length cap2) x.p x.t x.k (.slice bd x.abs.length bcap) x.u)) (trC_p11 ok.co))
  have KR4 := Lib.hid (KR3.out.wholeElse ([.slice ad2 x.subs.length cap2]) (o := 11) NERT.out)
  have B4 := Lib.hid (below_whole ([.slice ad2 x.subs.length cap2]) (o := 11) B3.out LET.out)
  have HN4 := Lib.hid (HN3.out.keep (KeepT.stored KT3.out 11 ([.slice ad2 x.subs.length cap2])) (by decide))
  with_reducible refine wpList_storeV (.tmp 8) (.tmp 6) (j := 11) (v := .slice ad2 x.subs.length cap2) ?_ ?_ KT3.out ?_ (by kernel_rfl) (by simp [Value.oneCell']) ?_
  · rfl
  · rfl
  · exact (fit_1 (trC_sz ok.co) (by decide))
  (try simp only [Act.put])
  generalize World.setCells _ _ _ _ = w4 at KT4 KR4 B4 HN4 ⊢
  clear B3 KT3 KR3 HN3
  go_upto_region 2 with fail
  refine wp_region_lit ?_
  (with_reducible refine rN (v := .pointer (some ⟨pT, 15, none⟩)) ?_ ?_ ?_); (· rfl); (· go_simp; (try rfl)); simp only [pu, sB, s0, sS]
  with_reducible refine wpList_loadV (.tmp 9) (j := 15) (v := .slice bd x.abs.length bcap) ?_ ?_ KT4.out ?_ Tryz.underlying54 ?_ ?_
  · rfl
  · rfl
  · exact trC_15 ok.co
  · rfl
  simp only [pu, sB, s0, sS]
  go_wp2_with fail
  refine (eachAb _ x.abs _ (HA.out.below B4.out (Nat.le_refl _)) ok.abs ok.few).mono ?_
  rintro e w5 ⟨⟨v2, rfl, hO⟩, hb⟩
  obtain ⟨bd2, bcap2, ev2⟩ := hO.slice
  subst ev2
  have B5 := Lib.hid (B4.out.trans (hb.mono B4.out.size))
  have KT5 := Lib.hid (KT4.out.below hb KT4.out.lt)
  have KR5 := Lib.hid (KR4.out.below hb KR4.out.lt)
  have HN5 := Lib.hid (HN4.out.below hb (Nat.le_refl _))
  have HA5 : Hid (AbRow (some w.heap.size) w5 (.slice bd2 x.abs.length bcap2) x.abs) := Lib.hid (hO.mono B4.out.size)
  clear hb
  clear B4 KT4 KR4 HN4
  go_simp
  rename_i hKK
  refine hKK _ _ ?_
  clear hKK
  try simp only [pu, sB, s0, sS]
  (with_reducible refine rN (v := .pointer (some ⟨pT, 15, none⟩)) ?_ ?_ ?_); (· rfl); (· go_simp; (try rfl)); simp only [pu, sB, s0, sS]
  have KT6 := Lib.hid (KT5.out.stored (o := 15) (vs := [.slice bd2 x.abs.length bcap2]) (cs' := (trC x.nm x.co x.c x.a x.b (.slice ad2 x.subs.length cap2) x.p x.t x.k (.slice bd2 x.abs.length bcap2) x.u)) (trC_p15 ok.co))
  have KR6 := Lib.hid (KR5.out.wholeElse ([.slice bd2 x.abs.length bcap2]) (o := 15) NERT.out)
  have B6 := Lib.hid (below_whole ([.slice bd2 x.abs.length bcap2]) (o := 15) B5.out LET.out)
  have HN6 := Lib.hid (HN5.out.keep (KeepT.stored KT5.out 15 ([.slice bd2 x.abs.length bcap2])) (by decide))
  have HA6 := Lib.hid (HA5.out.keep (KeepT.stored KT5.out 15 ([.slice bd2 x.abs.length bcap2])) (by decide))
  with_reducible refine wpList_storeV (.tmp 12) (.tmp 11) (j := 15) (v := .slice bd2 x.abs.length bcap2) ?_ ?_ KT5.out ?_ (by kernel_rfl) (by simp [Value.oneCell']) ?_
  · rfl
  · rfl
  · exact (fit_1 (trC_sz ok.co) (by decide))
  (try simp only [Act.put])
  generalize World.setCells _ _ _ _ = w6 at KT6 KR6 B6 HN6 HA6 ⊢
  clear B5 KT5 KR5 HN5 HA5
  go_upto_region 3 with fail
  refine wp_region_lit ?_
  with_reducible refine wpList_loadS (.tmp 1) ?_ ?_ KT6.out Tryz.underlying56 ?_ (szTr (trC_sz ok.co)) ?_
  · rfl
  · rfl
  · rfl
  simp only [pu, sB, s0, sS]
  have KR7 := Lib.hid (KR6.out.stored (o := 0) (vs := (trC x.nm x.co x.c x.a x.b (.slice ad2 x.subs.length cap2) x.p x.t x.k (.slice bd2 x.abs.length bcap2) x.u).toList) (cs' := (trC x.nm x.co x.c x.a x.b (.slice ad2 x.subs.length cap2) x.p x.t x.k (.slice bd2 x.abs.length bcap2) x.u)) (laid_all (trC_sz ok.co) zTr_cells))
  have KT7 := Lib.hid (KT6.out.wholeElse ((trC x.nm x.co x.c x.a x.b (.slice ad2 x.subs.length cap2) x.p x.t x.k (.slice bd2 x.abs.length bcap2) x.u).toList) (o := 0) NETR.out)
  have B7 := Lib.hid (below_whole ((trC x.nm x.co x.c x.a x.b (.slice ad2 x.subs.length cap2) x.p x.t x.k (.slice bd2 x.abs.length bcap2) x.u).toList) (o := 0) B6.out LER.out)
  have HN7 := Lib.hid (HN6.out.keep (KeepT.stored KR6.out 0 ((trC x.nm x.co x.c x.a x.b (.slice ad2 x.subs.length cap2) x.p x.t x.k (.slice bd2 x.abs.length bcap2) x.u).toList)) (by decide))
  have HA7 := Lib.hid (HA6.out.keep (KeepT.stored KR6.out 0 ((trC x.nm x.co x.c x.a x.b (.slice ad2 x.subs.length cap2) x.p x.t x.k (.slice bd2 x.abs.length bcap2) x.u).toList)) (by decide))
  with_reducible refine wpList_storeM (.tmp 2) (.tmp 13) (o := 0) (vs := (trC x.nm x.co x.c x.a x.b (.slice ad2 x.subs.length cap2) x.p x.t x.k (.slice bd2 x.abs.length bcap2) x.u)) ?_ ?_ KR6.out ?_ (szTr (trC_sz ok.co)) (trC_one ok.co rfl rfl) ?_
  · rfl
  · rfl
  · exact (fit_2 zTr_cells (trC_sz ok.co) (by decide))
  (try simp only [Act.put])
  generalize World.setCells _ _ _ _ = w7 at KT7 KR7 B7 HN7 HA7 ⊢
  clear B6 KT6 KR6 HN6 HA6
  have hL := KR7.out.readS Tryz.underlying56 rfl (szTr (trC_sz ok.co))
  go_wp2_with fail
  exact bodyPost_ret (v := .agg (trC x.nm x.co x.c x.a x.b (.slice ad2 x.subs.length cap2) x.p x.t x.k (.slice bd2 x.abs.length bcap2) x.u)) (results_cell Tryz.results53 (by rfl) hL) rfl ⟨⟨_, _, rfl, HN7.out, HA7.out⟩, B7.out⟩
end Go.Proofs.YtbcgkeclmioeiaaGreatDoor
