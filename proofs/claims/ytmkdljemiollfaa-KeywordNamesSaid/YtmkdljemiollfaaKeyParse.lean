/-
  CONTRACTS OF LAYER 11 (keyword): collect, Parse. By an AI agent.
-/
import Derived.Test.YtmkdljemiollfaaKeyRefText
import Derived.Test.YtmkdljemiollfaaBits64
namespace Go.Proofs.Ytmkdljemiollfaa
open Go.RowKit
open Wd (Bs)

theorem cut_vals (l c : Bs) : ∃ p r : ByteArray, p.data.toList = (Wd.cut l c).1 ∧ r.data.toList = (Wd.cut l c).2.1 ∧ cutV (Wd.cut l c) = .tuple #[.string p, .string r, .bool (Wd.cut l c).2.2] :=
  ⟨⟨(Wd.cut l c).1.toArray⟩, ⟨(Wd.cut l c).2.1.toArray⟩, rfl, rfl, rfl⟩
theorem cut_len (l c : Bs) : (Wd.cut l c).2.1.length ≤ l.length := by
  unfold Wd.cut
  split
  · simp
  · split <;> simp
theorem bytes_len (s : ByteArray) : s.data.toList.length = s.size := by simp
theorem key_idx (p : Bs) : (∃ k : Nat, k < 17 ∧ Kw.ix p = k ∧ idx Kw.names p = (k : Int)) ∨ (Kw.ix p = 17 ∧ idx Kw.names p = -1) := by
  by_cases h : Kw.ix p < 17
  · refine .inl ⟨Kw.ix p, h, rfl, idx_hit (k := Kw.ix p) ?_ ?_⟩
    · have h1 : Kw.names.findIdx (· == p) < Kw.names.length := h
      have h2 := List.findIdx_getElem (w := h1)
      have h3 : Kw.names[Kw.names.findIdx (· == p)] = p := by simpa using h2
      rw [show Kw.ix p = Kw.names.findIdx (· == p) from rfl, List.getElem?_eq_getElem h1, h3]
    · intro j y hj hy e
      obtain ⟨hj', rfl⟩ := List.getElem?_eq_some_iff.1 hy
      have := List.not_of_lt_findIdx (p := (· == p)) (xs := Kw.names) hj
      simp [e] at this
  · have h17 : Kw.ix p = 17 := by have := Kw.ix_le p; omega
    refine .inr ⟨h17, idx_miss fun j y hj hy e => ?_⟩
    obtain ⟨hj', rfl⟩ := List.getElem?_eq_some_iff.1 hy
    have h2 : Kw.names.findIdx (· == p) < Kw.names.length := List.findIdx_lt_length_of_exists ⟨_, List.getElem_mem hj', by simp [e]⟩
    exact h h2
theorem collect_step {g k R : Nat} {s : Bs} (h : Ct.meas s true ≤ g ∧ Kw.collectF g k s true = R ∧ k < 131072) :
    0 < g ∧ Ct.meas (Wd.cut s [43]).2.1 (Wd.cut s [43]).2.2 ≤ g - 1 ∧ Kw.collectF (g - 1) (Kw.addW k (Wd.cut s [43]).1) (Wd.cut s [43]).2.1 (Wd.cut s [43]).2.2 = R ∧ Kw.addW k (Wd.cut s [43]).1 < 131072 := by
  obtain ⟨h1, h2, h3⟩ := h
  have h4 := Ct.meas_cut (s := s) (c := [43]) (by simp)
  cases g with
  | zero => omega
  | succ g =>
    refine ⟨by omega, by simp; omega, ?_, Kw.addW_lt _ h3⟩
    rw [← h2, Kw.collectF_go]
    rfl
set_option maxHeartbeats 1000000 in
set_option maxRecDepth 100000 in
theorem keyCollect (s : ByteArray) (w : World) (hs : s.size ≤ 140737488355328) :
    Calls Try.prog 23 #[.string s] w fun e w' => e = .returned (.int .i64 (Kw.collectL s.data.toList : Nat)) ∧ Below w.heap.size w w' := by
  obtain ⟨R, hR⟩ : ∃ R, R = Kw.collectL s.data.toList := ⟨_, rfl⟩
  rw [← hR]
  have HR0 : Hid (Kw.collectF (s.size + 1) 0 s.data.toList true = R) := Lib.hid (by rw [hR, ← bytes_len s]; rfl)
  have HK := Lib.hid (keyFrom 0 w)
  rw [show Kw.fromI 0 = Kw.names from rfl] at HK
  clear hR
  go_enter Try.func23, Try.ntmps23
  go_wp2_with fail
  refine HK.out.mono ?_
  rintro e wn ⟨vn, rfl, hnames, hbn⟩
  have BN := Lib.hid hbn
  have SN := Lib.hid hnames.strs
  clear hnames hbn HK
  go_wp2_with fail
  go_loopg [0, 4, 6] (s.size + 1) (fun g sv kv mv wr => ∃ (k : Nat) (sx : ByteArray) (more : Bool), sv = .string sx ∧ kv = .int .i64 (k : Int) ∧ mv = .bool more ∧ sx.size ≤ 140737488355328 ∧ Hid (Ct.meas sx.data.toList more ≤ g ∧ Kw.collectF g k sx.data.toList more = R ∧ k < 131072) ∧ Below wn.heap.size wn wr)
  case atStart => exact ⟨0, s, true, rfl, rfl, rfl, hs, Lib.hid ⟨by unfold Ct.meas; rw [bytes_len]; simp, HR0.out, by decide⟩, Below.refl _ _⟩
  case round =>
    obtain ⟨k, sx, more, rfl, rfl, rfl, hsx, HKR, hb⟩ := hrel
    have HB := Lib.hid hb
    clear hb
    cases more with
    | true =>
      obtain ⟨hg0, hstep⟩ := collect_step HKR.out
      have HST := Lib.hid hstep
      obtain ⟨p, r, hp, hr, hv⟩ := cut_vals sx.data.toList [43]
      have hrl : r.size ≤ 140737488355328 := by
        have h1 := bytes_len r
        have h2 := cut_len sx.data.toList [43]
        have h3 := bytes_len sx
        rw [hr] at h1
        omega
      have HCUT := Lib.hid (wordCutFar sx ⟨#[43]⟩ wr hsx (by show 1 ≤ _; omega))
      unfold CutRes at HCUT
      rw [show (⟨#[43]⟩ : ByteArray).data.toList = [43] from rfl, hv] at HCUT
      rw [← hp, ← hr] at HST
      generalize (Wd.cut sx.data.toList [43]).2.2 = m at *
      clear hp hr hv hstep
      go_wp2_with fail
      refine HCUT.out.mono ?_
      rintro e w2 ⟨rfl, hb2⟩
      have HB2 := Lib.hid (HB.out.trans (hb2.mono HB.out.size))
      have HI := Lib.hid (wordIndex vn Kw.names p w2 (SN.out.below HB2.out (Nat.le_refl _)))
      clear hb2
      have hk64 : k < 2 ^ 63 := by have := HKR.out.2.2; omega
      rcases key_idx p.data.toList with ⟨j, hj, hix, hid⟩ | ⟨hix, hid⟩
      · have HA : Hid (Kw.addW k p.data.toList = k ||| 2 ^ j) := Lib.hid (Kw.addW_hit hj hix)
        have HOR : Hid (bits .or .i64 (k : Int) (wrap64 ((2 : Int) ^ j)) = ((k ||| 2 ^ j : Nat) : Int)) := Lib.hid (Bt.or_pow k j hk64 (by omega))
        rw [hid] at HI
        clear hix hid hk64 HCUT HB
        go_wp2_with fail
        refine HI.out.mono ?_
        rintro e w3 ⟨rfl, rfl⟩
        go_wp2_with fail
        obtain ⟨g1, hg1⟩ : ∃ g1, g1 = gk - 1 := ⟨_, rfl⟩
        rw [← hg1] at HST
        have hgl : g1 < gk := by omega
        go_roundg g1
        case rel => exact ⟨k ||| 2 ^ j, r, m, rfl, by rw [HOR.out], rfl, hrl, by rw [HA.out] at HST; exact HST, HB2.out⟩
        case measure => omega
      · have HA : Hid (Kw.addW k p.data.toList = k) := Lib.hid (Kw.addW_none hix)
        rw [hid] at HI
        clear hix hid hk64 HCUT HB
        go_wp2_with fail
        refine HI.out.mono ?_
        rintro e w3 ⟨rfl, rfl⟩
        go_wp2_with fail
        obtain ⟨g1, hg1⟩ : ∃ g1, g1 = gk - 1 := ⟨_, rfl⟩
        rw [← hg1] at HST
        have hgl : g1 < gk := by omega
        go_roundg g1
        case rel => exact ⟨k, r, m, rfl, rfl, rfl, hrl, by rw [HA.out] at HST; exact HST, HB2.out⟩
        case measure => omega
    | false =>
      have HE : Hid (k = R) := Lib.hid (by have h1 := HKR.out.2.1; rwa [Kw.collectF_stop] at h1)
      go_wp2_with fail
      go_ret
      exact ⟨by rw [← HE.out]; rfl, BN.out.trans (HB.out.mono BN.out.size)⟩
set_option maxHeartbeats 1000000 in
set_option maxRecDepth 100000 in
theorem keyParse (s : ByteArray) (w : World) (hs : s.size ≤ 140737488355328) :
    Calls Try.prog 15 #[.string s] w fun e w' => e = .returned (.tuple #[.int .i64 (Kw.parseI s.data.toList), .int .i64 (Kw.parseE s.data.toList)]) ∧ Below w.heap.size w w' := by
  have HC := Lib.hid (keyCollect s w hs)
  have hl := Kw.collectL_lt s.data.toList
  have HTN := Lib.hid (Kw.textI_nat (m := Kw.collectL s.data.toList) (by omega))
  have HY : Hid ((Kw.textN (Kw.collectL s.data.toList) = s.data.toList ∧ Kw.parseI s.data.toList = (Kw.collectL s.data.toList : Nat) ∧ Kw.parseE s.data.toList = 0) ∨ (Kw.textN (Kw.collectL s.data.toList) ≠ s.data.toList ∧ Kw.parseI s.data.toList = 0 ∧ Kw.parseE s.data.toList = 3)) := Lib.hid (by
    by_cases h : Kw.textN (Kw.collectL s.data.toList) = s.data.toList
    · exact .inl ⟨h, Kw.parse_yes h⟩
    · exact .inr ⟨h, Kw.parse_no h⟩)
  clear hl
  generalize Kw.collectL s.data.toList = k at *
  obtain ⟨tx, htx, ex⟩ := exists_bytes (Kw.textI (k : Int))
  have HT : Hid (∀ w, Calls Try.prog 12 #[.int .i64 (k : Int)] w fun e w' => e = .returned (.string tx) ∧ Below w.heap.size w w') := Lib.hid (fun w => by rw [← ex]; exact keyText _ _)
  rcases HY.out with ⟨ht, hi, he⟩ | ⟨ht, hi, he⟩
  · have h1 : (tx.toList == s.toList) = true := bytes_eq (by rw [htx, HTN.out, ht])
    have HI := Lib.hid hi
    have HE := Lib.hid he
    clear ht hi he htx ex HY
    go_enter Try.func15, Try.ntmps15
    go_wp2_with fail
    refine HC.out.mono ?_
    rintro e w1 ⟨rfl, hb⟩
    have B := Lib.hid hb
    clear hb
    go_wp2_with fail
    refine (HT.out _).mono ?_
    rintro e w2 ⟨rfl, hb2⟩
    have B2 := Lib.hid (B.out.trans (hb2.mono B.out.size))
    clear hb2
    go_wp2_with fail
    go_ret2
    exact ⟨by rw [HI.out, HE.out]; rfl, B2.out⟩
  · have h1 : (tx.toList == s.toList) = false := bytes_ne (by rw [htx, HTN.out]; exact ht)
    have HI := Lib.hid hi
    have HE := Lib.hid he
    clear ht hi he htx ex HY
    go_enter Try.func15, Try.ntmps15
    go_wp2_with fail
    refine HC.out.mono ?_
    rintro e w1 ⟨rfl, hb⟩
    have B := Lib.hid hb
    clear hb
    go_wp2_with fail
    refine (HT.out _).mono ?_
    rintro e w2 ⟨rfl, hb2⟩
    have B2 := Lib.hid (B.out.trans (hb2.mono B.out.size))
    clear hb2
    go_wp2_with fail
    go_ret2
    exact ⟨by rw [HI.out, HE.out]; rfl, B2.out⟩
end Go.Proofs.Ytmkdljemiollfaa
