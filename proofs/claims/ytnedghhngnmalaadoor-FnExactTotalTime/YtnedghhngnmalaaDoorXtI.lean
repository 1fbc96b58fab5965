/- Proved here: numbers by name, a value as a number, and the sum of a recipe's times, of the program. -/
import Derived.Test.YtnedghhngnmalaaDoorXtM
import Derived.Test.YtnedghhngnmalaaDoorXrI
import Derived.Test.YtnedghhngnmalaaDoorMapN
import Derived.Deep.DeepCutAuto
namespace Go.Proofs.YtnedghhngnmalaaDoor
open Go.ChangeShapes Go.WideShapes Go.ChangeAt Go.RowKit Go.Joins Go.WideMaps Go.Maps
set_option linter.unusedVariables false
set_option linter.unusedSimpArgs false


set_option maxRecDepth 10000 in
set_option maxHeartbeats 6400000 in
theorem impl_bas (ps : List Pm) {W : World} {a : Option Addr} {n c : Nat} (hn : n ≤ 20) (hok : ∀ j (h : j < ps.length), PmOk (ps.take j) ps[j]) (hp : RG 4 pmC W (.slice a n c) ps) :
    Calls Tryd.prog 56 #[.slice a n c] W fun e w' => ∃ b, e = .returned (.map (some b)) ∧ MN w' b n (basN ps n) ∧ W.heap.size ≤ b ∧ Below W.heap.size W w' := by
  have H : Hid (RG 4 pmC W (.slice a n c) ps ∧ n = ps.length ∧ ∀ j (h : j < ps.length), PmOk (ps.take j) ps[j]) := ⟨hp, hp.len, hok⟩
  have hmk := fun v w => nk_make v w
  clear hp hok
  have HM0 : Hid (MN (W.alloc (.map #[] 0)) W.heap.size 0 (fun _ => 0)) := MN.made W
  go_enter Tryd.func56, Tryd.ntmps56
  go_wp2
  go_loopw [11] (fun i wr => ∃ t : Nat, i = .int .i64 t ∧ t ≤ n ∧ Hid (Below W.heap.size W wr ∧ MN wr W.heap.size t (basN ps t))) (fun i _ => n - (intOf i).toNat)
  case atStart =>
    refine ⟨0, rfl, Nat.zero_le _, by (repeat' (first | (with_reducible exact Below.refl _ _) | (with_reducible assumption) | (with_reducible refine Below.setCell ?_ ?_ _) | (with_reducible refine Below.alloc ?_ ?_ _) | (with_reducible refine below_drewN ?_ _) | (with_reducible refine Below.drew ?_) | (with_reducible exact Nat.le_refl _) | omega | (simp; done) | (simp; omega))), ?_⟩
    have h0 := HM0.out
    exact h0
  case round =>
    clear HM0
    obtain ⟨t, rfl, ht, hR⟩ := hrel
    by_cases hlt : t < n
    · have htl : t < ps.length := by rw [← H.out.2.1]; exact hlt
      obtain ⟨g, o, c2, he, hg, hj⟩ := (H.out.1.below hR.out.1).pos (by omega)
      simp only [Value.slice.injEq] at he
      obtain ⟨hx0, hx1, hx2⟩ := he
      subst hx0
      clear hx1 hx2
      obtain ⟨c0, c1, c2, c3⟩ := pmC_at (hj t htl)
      obtain ⟨y, hy⟩ : ∃ y, y = ps[t] := ⟨_, rfl⟩
      rw [← hy] at c0 c1 c2 c3
      have hyo := H.out.2.2 t htl
      rw [← hy] at hyo
      have hnl : y.nm.size ≤ maxLen := by have := (nameK_len hyo.nm).2; unfold maxLen; omega
      have hwf : (Lit.int .i64 y.ba).wf = true := by
        have h1 := hyo.lo
        have h2 := hyo.hi
        have h3 := hyo.ba
        simp [Lit.wf, IntKind.min, IntKind.max, IntKind.signed, IntKind.bits]
        omega
      have hkey := keyOf_string_mk (P := Tryd.prog) Tryd.underlying9 hnl
      obtain ⟨V, hV⟩ : ∃ V, V = wr.alloc (.cells #[.string y.nm, .int .i64 y.lo, .int .i64 y.hi, .int .i64 y.ba] 75) := ⟨_, rfl⟩
      have hbV : Below wr.heap.size wr V := by rw [hV]; (repeat' (first | (with_reducible exact Below.refl _ _) | (with_reducible assumption) | (with_reducible refine Below.setCell ?_ ?_ _) | (with_reducible refine Below.alloc ?_ ?_ _) | (with_reducible refine below_drewN ?_ _) | (with_reducible refine Below.drew ?_) | (with_reducible exact Nat.le_refl _) | omega | (simp; done) | (simp; omega)))
      obtain ⟨D, hD, hat⟩ := (hR.out.2.below hbV).own
      have HM : Hid (V.ownsMap Tryd.prog 9 (plainElem Tryd.prog 2) W.heap.size t D ∧ (∀ s' : ByteArray, s'.size ≤ maxLen → D.atKey (.string s'.data.toList) (.lit (.int .i64 0)) = .lit (.int .i64 (basN ps t s'))) ∧ Below W.heap.size W V ∧ MN V W.heap.size t (basN ps t)) := ⟨hD, hat, hR.out.1.trans (hbV.mono hR.out.1.size), hR.out.2.below hbV⟩
      have HV : Hid (V = wr.alloc (.cells #[.string y.nm, .int .i64 y.lo, .int .i64 y.hi, .int .i64 y.ba] 75)) := hV
      have HY : Hid (y = ps[t] ∧ t < ps.length ∧ y.nm.size ≤ maxLen) := ⟨hy, htl, hnl⟩
      obtain ⟨v0, v1, v2, v3, vf, vl⟩ := quad_at (show V.heap[wr.heap.size]? = some (.cells #[.string y.nm, .int .i64 y.lo, .int .i64 y.hi, .int .i64 y.ba] 75) by rw [hV]; exact heap_alloc_new _ _)
      clear hj hy hyo hV hat hbV hR vf hnl
      have b0 : (0 : Int) ≤ (t : Int) := by omega
      have b1 : (t : Int) < (n : Int) := by omega
      go_upto_region 5 with (fail)
      rw [← HV.out]
      go_wp2_with (at_mapUpdate; refine wpList_mapUpdate_own _ rfl _ _ _ 88 rfl 9 2 nk_law Tryd.underlying88 _ W.heap.size t _ rfl hD (by unfold maxLen; omega) _ _ _ rfl rfl hkey _ [] (plainElem_int Tryd.underlying2 hwf) ?_; intro w3 hown3 hgrow3)
      have RR : Hid (Below W.heap.size W w3 ∧ MN w3 W.heap.size (t + 1) (basN ps (t + 1))) := by
        refine ⟨HM.out.2.2.1.grown hgrow3 HM.out.2.2.1.size (fun j hj => by cases hj; exact Nat.le_refl _), ?_⟩
        have h1 := MN.put HM.out.2.2.2 HY.out.2.2 HM.out.1 HM.out.2.1 hown3
        have e : basN ps (t + 1) = fun q => if y.nm = q then y.ba else basN ps t q := by
          funext q
          show (if (ps.getD t pmD).nm = q then (ps.getD t pmD).ba else basN ps t q) = _
          rw [getD_at HY.out.2.1, ← HY.out.1]
        rw [e]; exact h1
      clear hown3 hgrow3 hD hkey
      go_wp2
      go_roundw
      case rel => exact ⟨t + 1, by go_num, by omega, RR.out.1, RR.out.2⟩
      case measure => simp [intOf]; omega
    · have HD : Hid (MN wr W.heap.size n (basN ps n) ∧ Below W.heap.size W wr) := by
        have e : t = n := by omega
        have h1 := hR.out.2
        rw [e] at h1
        exact ⟨h1, hR.out.1⟩
      clear hR
      go_wp2
      go_returns
      exact ⟨_, rfl, HD.out.1, Nat.le_refl _, HD.out.2⟩

theorem vl_field (a b : Int) (s : ByteArray) (w : World) : (Instr.field 26 (.agg #[.int .i64 a, .int .i64 b, .string s]) 1).run Tryd.prog w = .ok (.int .i64 b) w := by kernel_rfl
/-- A value by a table of numbers. -/
def svV (cnt : ByteArray → Int) (v : Vl) : Vl := if v.k = 2 then ⟨1, cnt v.s, ⟨#[]⟩⟩ else v
set_option maxRecDepth 10000 in
set_option maxHeartbeats 3200000 in
theorem impl_set (v : Vl) (cnt : ByteArray → Int) {W : World} {b m : Nat} (hv : v.s.size ≤ maxLen) (hM : MN W b m cnt) :
    Calls Tryd.prog 57 #[.agg #[.int .i64 v.k, .int .i64 v.n, .string v.s], .map (some b)] W fun e w' => e = .returned (.agg #[.int .i64 (svV cnt v).k, .int .i64 (svV cnt v).n, .string (svV cnt v).s]) ∧ Below W.heap.size W w' := by
  obtain ⟨s, hs⟩ : ∃ s, s = svV cnt v := ⟨_, rfl⟩
  rw [← hs]
  have hlook := fun (ob ob2 : Obj) => (hM.below (show Below W.heap.size W ((W.alloc ob).alloc ob2) by (repeat' (first | (with_reducible exact Below.refl _ _) | (with_reducible assumption) | (with_reducible refine Below.setCell ?_ ?_ _) | (with_reducible refine Below.alloc ?_ ?_ _) | (with_reducible refine below_drewN ?_ _) | (with_reducible refine Below.drew ?_) | (with_reducible exact Nat.le_refl _) | omega | (simp; done) | (simp; omega))))).look hv
  obtain ⟨z, hz⟩ : ∃ z, z = cnt v.s := ⟨_, rfl⟩
  rw [← hz] at hlook
  clear hM
  by_cases h2 : v.k = 2
  · have e1 : s = ⟨1, z, ⟨#[]⟩⟩ := by rw [hs, hz]; unfold svV; rw [if_pos h2]
    subst e1
    clear hs hz hv
    go_enter Tryd.func57, Tryd.ntmps57
    go_wp2
    go_returns
    exact ⟨rfl, by (repeat' (first | (with_reducible exact Below.refl _ _) | (with_reducible assumption) | (with_reducible refine Below.setCell ?_ ?_ _) | (with_reducible refine Below.alloc ?_ ?_ _) | (with_reducible refine below_drewN ?_ _) | (with_reducible refine Below.drew ?_) | (with_reducible exact Nat.le_refl _) | omega | (simp; done) | (simp; omega)))⟩
  · have e1 : s = v := by rw [hs]; unfold svV; rw [if_neg h2]
    subst e1
    clear hs hz hv hlook
    have dk : (s.k == 2) = false := by simp [h2]
    go_enter Tryd.func57, Tryd.ntmps57
    go_wp2
    go_returns
    exact ⟨rfl, by (repeat' (first | (with_reducible exact Below.refl _ _) | (with_reducible assumption) | (with_reducible refine Below.setCell ?_ ?_ _) | (with_reducible refine Below.alloc ?_ ?_ _) | (with_reducible refine below_drewN ?_ _) | (with_reducible refine Below.drew ?_) | (with_reducible exact Nat.le_refl _) | omega | (simp; done) | (simp; omega)))⟩

set_option maxRecDepth 10000 in
set_option maxHeartbeats 6400000 in
theorem impl_tt (r : Rr) (c : Rp) (W : World) (ht : Hid (Tab W)) (hs : smRp 1048576 c) (h : Rr1 W r c) :
    Calls Tryd.prog 19 #[.agg #[.string r.nm, .slice r.pa r.pn r.pc, .slice r.sa r.sn r.sc]] W fun e w' => e = .returned (.agg #[.int .i64 (rfK c), .int .i64 (ttV c)]) ∧ Below W.heap.size W w' := by
  obtain ⟨rs, hrg, hrel⟩ := h.ss
  obtain ⟨K, hK⟩ : ∃ K, K = rfK c := ⟨_, rfl⟩
  obtain ⟨T, hT⟩ : ∃ T, T = ttV c := ⟨_, rfl⟩
  have hpl : r.pn = c.ps.length := h.ps.len
  have hsl : r.sn = c.ss.length := h.ss.len
  have hsr : r.sn = rs.length := hrg.len
  have HF : Hid (∀ X, Below W.heap.size W X → Calls Tryd.prog 16 #[.agg #[.string r.nm, .slice r.pa r.pn r.pc, .slice r.sa r.sn r.sc]] X fun e w' => e = .returned (.int .i64 K) ∧ Below X.heap.size X w') := fun X hb => by rw [hK]; exact impl_rf r c X (ht.out.step hb) hs (h.below hb)
  rw [← hK, ← hT]
  obtain ⟨V0, hV0⟩ : ∃ V, V = (W.alloc (.cells #[.string r.nm, .slice r.pa r.pn r.pc, .slice r.sa r.sn r.sc] 38)).alloc (.cells #[.int .i64 0, .int .i64 0] 43) := ⟨_, rfl⟩
  have HB0 : Hid (Below W.heap.size W V0 ∧ V0.heap[W.heap.size]? = some (.cells #[.string r.nm, .slice r.pa r.pn r.pc, .slice r.sa r.sn r.sc] 38) ∧ V0.heap[W.heap.size + 1]? = some (.cells #[.int .i64 0, .int .i64 0] 43)) := ⟨by rw [hV0]; (repeat' (first | (with_reducible exact Below.refl _ _) | (with_reducible assumption) | (with_reducible refine Below.setCell ?_ ?_ _) | (with_reducible refine Below.alloc ?_ ?_ _) | (with_reducible refine below_drewN ?_ _) | (with_reducible refine Below.drew ?_) | (with_reducible exact Nat.le_refl _) | omega | (simp; done) | (simp; omega))), by rw [hV0]; exact (Below.heap_alloc _ _ _ (by simp)).trans (heap_alloc_new _ _), by rw [hV0]; exact heap_alloc_at1 W _ _⟩
  have HV0 : Hid (V0 = (W.alloc (.cells #[.string r.nm, .slice r.pa r.pn r.pc, .slice r.sa r.sn r.sc] 38)).alloc (.cells #[.int .i64 0, .int .i64 0] 43)) := hV0
  clear hV0
  by_cases hk0 : K = 0
  case neg =>
    have hT0 : T = 0 := by rw [hT]; unfold ttV; rw [← hK, if_neg hk0]
    subst hT0
    clear hK hT hpl hsl hsr h hs hrg hrel ht
    go_enter Tryd.func19, Tryd.ntmps19
    go_wp2_with (fail)
    rw [← HV0.out]
    clear HV0
    refine (HF.out _ HB0.out.1).mono ?_
    rintro e w1 ⟨rfl, hb1⟩
    have HB1 : Hid (Below W.heap.size W w1) := HB0.out.1.trans (hb1.mono HB0.out.1.size)
    have hk1 := (hb1.block _ (ltQ HB0.out.2.2)).trans HB0.out.2.2
    have q0 : w1.cell? ⟨W.heap.size + 1, 0, none⟩ = some (.int .i64 0) := by simp [World.cell?, hk1]
    have q1 : w1.cell? ⟨W.heap.size + 1, 1, none⟩ = some (.int .i64 0) := by simp [World.cell?, hk1]
    have qf0 : w1.frozen? ⟨W.heap.size + 1, 0, none⟩ = false := by simp [World.frozen?, hk1]
    have qf1 : w1.frozen? ⟨W.heap.size + 1, 1, none⟩ = false := by simp [World.frozen?, hk1]
    have ql := ltQ hk1
    clear hb1 HB0 HF hk1
    go_wp2
    refine bodyPost_ret (by simp [results, Tryd.results19, go_sem, *]) rfl ⟨rfl, ?_⟩
    have hb := HB1.out
    (repeat' (first | (with_reducible exact Below.refl _ _) | (with_reducible assumption) | (with_reducible refine Below.setCell ?_ ?_ _) | (with_reducible refine Below.alloc ?_ ?_ _) | (with_reducible refine below_drewN ?_ _) | (with_reducible refine Below.drew ?_) | (with_reducible exact Nat.le_refl _) | omega | (simp; done) | (simp; omega)))
  have hok := rp_ok (hK.symm.trans hk0)
  have HT : Hid (T = sumN (fun i => fxN c.ps (c.ss.getD i spD).t) c.ss.length) := by unfold Hid; rw [hT]; unfold ttV; rw [← hK, if_pos hk0]
  have HBAS : Hid (∀ X, Below W.heap.size W X → Calls Tryd.prog 56 #[.slice r.pa r.pn r.pc] X fun e w' => ∃ b, e = .returned (.map (some b)) ∧ MN w' b r.pn (basN c.ps r.pn) ∧ X.heap.size ≤ b ∧ Below X.heap.size X w') := fun X hb => impl_bas c.ps (by have := hok.pn; omega) hok.ps (h.ps.below hb)
  have HSET : Hid (∀ (i : Nat) (hi : i < c.ss.length) (hi' : i < rs.length) (b : Nat) (X : World), MN X b r.pn (basN c.ps r.pn) → ∃ u : Vl, u.n = fxN c.ps (c.ss[i]).t ∧ Calls Tryd.prog 57 #[.agg #[.int .i64 (rs[i]).t.k, .int .i64 (rs[i]).t.n, .string (rs[i]).t.s], .map (some b)] X fun e w' => e = .returned (.agg #[.int .i64 u.k, .int .i64 u.n, .string u.s]) ∧ Below X.heap.size X w') := fun i hi hi' b X hM => by
    have hr1 := hrel.at_ i hi' hi
    have hsp := hok.ss i hi
    have hsz : (c.ss[i]).t.s.size ≤ maxLen := by have := (hs.ss i hi).t; unfold smV at this; unfold maxLen; omega
    rw [hr1.t]
    refine ⟨svV (basN c.ps r.pn) (c.ss[i]).t, ?_, impl_set _ _ hsz hM⟩
    unfold svV
    by_cases h2 : (c.ss[i]).t.k = 2
    · rw [if_pos h2, hpl]; exact basN_fx hok.ps hsp.use h2
    · rw [if_neg h2]; unfold fxN; rw [if_neg h2]
  have HFX : Hid (∀ (i : Nat) (hi : i < c.ss.length), -1000000 ≤ fxN c.ps (c.ss[i]).t ∧ fxN c.ps (c.ss[i]).t ≤ 1000000) := fun i hi => fx_bnd hok.ps (hok.ss i hi).use
  have HS : Hid (RG 5 rsC W (.slice r.sa r.sn r.sc) rs ∧ r.sn = c.ss.length ∧ r.sn = rs.length) := ⟨hrg, hsl, hsr⟩
  have hs40 : r.sn ≤ 40 := by have := hok.sn; omega
  subst hk0
  clear hK hT hpl hsl hsr h hs hrg hrel ht hok
  go_enter Tryd.func19, Tryd.ntmps19
  go_wp2_with (fail)
  rw [← HV0.out]
  clear HV0
  refine (HF.out _ HB0.out.1).mono ?_
  rintro e w1 ⟨rfl, hb1⟩
  have HB1 : Hid (Below W.heap.size W w1 ∧ w1.heap[W.heap.size]? = some (.cells #[.string r.nm, .slice r.pa r.pn r.pc, .slice r.sa r.sn r.sc] 38) ∧ w1.heap[W.heap.size + 1]? = some (.cells #[.int .i64 0, .int .i64 0] 43)) := ⟨HB0.out.1.trans (hb1.mono HB0.out.1.size), (hb1.block _ (ltQ HB0.out.2.1)).trans HB0.out.2.1, (hb1.block _ (ltQ HB0.out.2.2)).trans HB0.out.2.2⟩
  obtain ⟨p0, p1, p2, pf, pl⟩ := three_at HB1.out.2.1
  clear hb1 HB0 HF pf
  go_wp2_with (fail)
  clear p0 p1 p2 pl
  refine (HBAS.out _ HB1.out.1).mono ?_
  rintro e w2 ⟨b, rfl, hM, hbb, hb2⟩
  have HB2 : Hid (Below W.heap.size W w2 ∧ w2.heap[W.heap.size]? = some (.cells #[.string r.nm, .slice r.pa r.pn r.pc, .slice r.sa r.sn r.sc] 38) ∧ w2.heap[W.heap.size + 1]? = some (.cells #[.int .i64 0, .int .i64 0] 43) ∧ MN w2 b r.pn (basN c.ps r.pn)) := ⟨HB1.out.1.trans (hb2.mono HB1.out.1.size), (hb2.block _ (ltQ HB1.out.2.1)).trans HB1.out.2.1, (hb2.block _ (ltQ HB1.out.2.2)).trans HB1.out.2.2, hM⟩
  obtain ⟨p0, p1, p2, pf, pl⟩ := three_at HB2.out.2.1
  clear hb2 HB1 HBAS pf hM hbb
  go_wp2
  clear p0 p1 p2 pl
  go_loopw [5, 20] (fun q i wr => ∃ (t : Nat) (z : Int), i = .int .i64 t ∧ t ≤ r.sn ∧ q = .int .i64 z ∧ -(t * 1000000) ≤ z ∧ z ≤ t * 1000000 ∧ Hid (z = sumN (fun i => fxN c.ps (c.ss.getD i spD).t) t ∧ Below W.heap.size W wr ∧ wr.heap[W.heap.size + 1]? = some (.cells #[.int .i64 0, .int .i64 0] 43) ∧ MN wr b r.pn (basN c.ps r.pn))) (fun _ i _ => r.sn - (intOf i).toNat)
  case atStart => exact ⟨0, 0, rfl, Nat.zero_le _, rfl, by omega, by omega, rfl, HB2.out.1, HB2.out.2.2.1, HB2.out.2.2.2⟩
  case round =>
    clear HB2
    obtain ⟨t, z, rfl, htt, rfl, hz1, hz2, hR⟩ := hrel
    by_cases hlt : t < r.sn
    · have htl : t < c.ss.length := by rw [← HS.out.2.1]; exact hlt
      have htr : t < rs.length := by rw [← HS.out.2.2]; exact hlt
      obtain ⟨g, o, c2, he, hg, hj⟩ := (HS.out.1.below hR.out.2.1).pos (by omega)
      simp only [Value.slice.injEq] at he
      obtain ⟨hx0, hx1, hx2⟩ := he
      clear hx1 hx2
      obtain ⟨c0, c1, c2, c3, c4⟩ := rsC_at (hj t htr)
      obtain ⟨y, hy⟩ : ∃ y, y = rs[t] := ⟨_, rfl⟩
      rw [← hy] at c0 c1 c2 c3 c4
      obtain ⟨V, hV⟩ : ∃ V, V = wr.alloc (.cells #[.string y.nm, .int .i64 y.t.k, .int .i64 y.t.n, .string y.t.s, .slice y.sa y.sn y.sc] 82) := ⟨_, rfl⟩
      have hbV : Below wr.heap.size wr V := by rw [hV]; (repeat' (first | (with_reducible exact Below.refl _ _) | (with_reducible assumption) | (with_reducible refine Below.setCell ?_ ?_ _) | (with_reducible refine Below.alloc ?_ ?_ _) | (with_reducible refine below_drewN ?_ _) | (with_reducible refine Below.drew ?_) | (with_reducible exact Nat.le_refl _) | omega | (simp; done) | (simp; omega)))
      obtain ⟨u, hu, hcall⟩ := HSET.out t htl htr b V (hR.out.2.2.2.below hbV)
      rw [← hy] at hcall
      have hfx := HFX.out t htl
      rw [← hu] at hfx
      have HU : Hid (Calls Tryd.prog 57 #[.agg #[.int .i64 y.t.k, .int .i64 y.t.n, .string y.t.s], .map (some b)] V fun e w' => e = .returned (.agg #[.int .i64 u.k, .int .i64 u.n, .string u.s]) ∧ Below V.heap.size V w') := hcall
      have HZ : Hid (z + u.n = sumN (fun i => fxN c.ps (c.ss.getD i spD).t) (t + 1)) := by
        unfold Hid
        rw [hR.out.1, hu]
        show _ = sumN _ t + fxN c.ps (c.ss.getD t spD).t
        rw [getD_at htl]
      have HV : Hid (V = wr.alloc (.cells #[.string y.nm, .int .i64 y.t.k, .int .i64 y.t.n, .string y.t.s, .slice y.sa y.sn y.sc] 82)) := hV
      have HB : Hid (Below W.heap.size W V ∧ V.heap[W.heap.size + 1]? = some (.cells #[.int .i64 0, .int .i64 0] 43) ∧ MN V b r.pn (basN c.ps r.pn)) := ⟨hR.out.2.1.trans (hbV.mono hR.out.2.1.size), (hbV.block _ (ltQ hR.out.2.2.1)).trans hR.out.2.2.1, hR.out.2.2.2.below hbV⟩
      have hsa : r.sa = some ⟨g, o, none⟩ := hx0
      clear hj hy hcall hu hV hbV hR hx0
      obtain ⟨S, hS⟩ : ∃ S, S = z + u.n := ⟨_, rfl⟩
      have hS1 : -((t + 1) * 1000000) ≤ S ∧ S ≤ (t + 1) * 1000000 := by omega
      have hwS : IntKind.i64.wrap (z + u.n) = S := by rw [← hS, IntKind.wrap_i64]; omega
      have hwS2 : z + u.n = S := hS.symm
      rw [← hS] at HZ
      clear hS
      have b0 : (0 : Int) ≤ (t : Int) := by omega
      have b1 : (t : Int) < (r.sn : Int) := by omega
      go_wp2_with (fail)
      rw [← HV.out]
      clear HV
      refine HU.out.mono ?_
      rintro e w5 ⟨rfl, hb5⟩
      have HB5 : Hid (Below W.heap.size W w5 ∧ w5.heap[W.heap.size + 1]? = some (.cells #[.int .i64 0, .int .i64 0] 43) ∧ MN w5 b r.pn (basN c.ps r.pn)) := ⟨HB.out.1.trans (hb5.mono HB.out.1.size), (hb5.block _ (ltQ HB.out.2.1)).trans HB.out.2.1, HB.out.2.2.below hb5⟩
      have hfd := vl_field u.k u.n u.s
      clear hb5 HB HU c0 c1 c2 c3 c4 hg
      go_wp2
      rw [← hsa]
      go_roundw
      case rel => exact ⟨t + 1, S, by go_num, by omega, rfl, by have := hS1.1; push_cast; omega, by have := hS1.2; push_cast; omega, HZ.out, HB5.out.1, HB5.out.2.1, HB5.out.2.2⟩
      case measure => simp [intOf]; omega
    · have hTz : T = z := by rw [HT.out, hR.out.1]; congr 1; have := HS.out.2.1; omega
      have HB5 : Hid (Below W.heap.size W wr) := hR.out.2.1
      have hk1 := hR.out.2.2.1
      have q0 : wr.cell? ⟨W.heap.size + 1, 0, none⟩ = some (.int .i64 0) := by simp [World.cell?, hk1]
      have q1 : wr.cell? ⟨W.heap.size + 1, 1, none⟩ = some (.int .i64 0) := by simp [World.cell?, hk1]
      have qf0 : wr.frozen? ⟨W.heap.size + 1, 0, none⟩ = false := by simp [World.frozen?, hk1]
      have qf1 : wr.frozen? ⟨W.heap.size + 1, 1, none⟩ = false := by simp [World.frozen?, hk1]
      have ql := ltQ hk1
      clear hR HT hk1
      subst hTz
      go_wp2
      refine bodyPost_ret (by simp [results, Tryd.results19, go_sem, *]) rfl ⟨rfl, ?_⟩
      have hb := HB5.out
      (repeat' (first | (with_reducible exact Below.refl _ _) | (with_reducible assumption) | (with_reducible refine Below.setCell ?_ ?_ _) | (with_reducible refine Below.alloc ?_ ?_ _) | (with_reducible refine below_drewN ?_ _) | (with_reducible refine Below.drew ?_) | (with_reducible exact Nat.le_refl _) | omega | (simp; done) | (simp; omega)))

end Go.Proofs.YtnedghhngnmalaaDoor
