/- Proved here: the sum of a recipe's times, of the model. -/
import Derived.Test.YtnedghhngnmalaaDoorXfxS
import Derived.Test.YtnedghhngnmalaaDoorXrS
namespace Go.Proofs.YtnedghhngnmalaaDoor
open Go.ChangeShapes Go.WideShapes Go.ChangeAt Go.RowKit Go.Joins
set_option linter.unusedVariables false
set_option linter.unusedSimpArgs false


theorem vl_fieldS (a b : Int) (s : ByteArray) (w : World) : (Instr.field 26 (.agg #[.int .i64 a, .int .i64 b, .string s]) 1).run Tryd.prog w = .ok (.int .i64 b) w := by kernel_rfl
set_option maxRecDepth 10000 in
set_option maxHeartbeats 6400000 in
theorem spec_tt (r : Rr) (c : Rp) (W : World) (hs : smRp 1048576 c) (h : Rr1 W r c) :
    Calls Tryd.prog 18 #[.agg #[.string r.nm, .slice r.pa r.pn r.pc, .slice r.sa r.sn r.sc]] W fun e w' => e = .returned (.agg #[.int .i64 (rfK c), .int .i64 (ttV c)]) ∧ Below W.heap.size W w' := by
  obtain ⟨rs, hrg, hrel⟩ := h.ss
  obtain ⟨K, hK⟩ : ∃ K, K = rfK c := ⟨_, rfl⟩
  obtain ⟨T, hT⟩ : ∃ T, T = ttV c := ⟨_, rfl⟩
  have hpl : r.pn = c.ps.length := h.ps.len
  have hsl : r.sn = c.ss.length := h.ss.len
  have hsr : r.sn = rs.length := hrg.len
  have HF : Hid (∀ X, Below W.heap.size W X → Calls Tryd.prog 14 #[.agg #[.string r.nm, .slice r.pa r.pn r.pc, .slice r.sa r.sn r.sc]] X fun e w' => e = .returned (.int .i64 K) ∧ Below X.heap.size X w') := fun X hb => by rw [hK]; exact spec_rf r c X hs (h.below hb)
  rw [← hK, ← hT]
  obtain ⟨V0, hV0⟩ : ∃ V, V = (W.alloc (.cells #[.string r.nm, .slice r.pa r.pn r.pc, .slice r.sa r.sn r.sc] 38)).alloc (.cells #[.int .i64 0, .int .i64 0] 43) := ⟨_, rfl⟩
  have HB0 : Hid (Below W.heap.size W V0 ∧ V0.heap[W.heap.size]? = some (.cells #[.string r.nm, .slice r.pa r.pn r.pc, .slice r.sa r.sn r.sc] 38) ∧ V0.heap[W.heap.size + 1]? = some (.cells #[.int .i64 0, .int .i64 0] 43)) := ⟨by rw [hV0]; (repeat' (first | (with_reducible exact Below.refl _ _) | (with_reducible assumption) | (with_reducible refine Below.setCell ?_ ?_ _) | (with_reducible refine Below.alloc ?_ ?_ _) | (with_reducible refine below_drewN ?_ _) | (with_reducible refine Below.drew ?_) | (with_reducible exact Nat.le_refl _) | omega | (simp; done) | (simp; omega))), by rw [hV0]; exact (Below.heap_alloc _ _ _ (by simp)).trans (heap_alloc_new _ _), by rw [hV0]; exact heap_alloc_at1 W _ _⟩
  have HV0 : Hid (V0 = (W.alloc (.cells #[.string r.nm, .slice r.pa r.pn r.pc, .slice r.sa r.sn r.sc] 38)).alloc (.cells #[.int .i64 0, .int .i64 0] 43)) := hV0
  clear hV0
  by_cases hk0 : K = 0
  case neg =>
    have hT0 : T = 0 := by rw [hT]; unfold ttV; rw [← hK, if_neg hk0]
    subst hT0
    clear hK hT hpl hsl hsr h hs hrg hrel
    go_enter Tryd.func18, Tryd.ntmps18
    go_wp2_with (fail)
    rw [← HV0.out]
    clear HV0
    refine (HF.out _ HB0.out.1).mono ?_
    rintro e w1 ⟨rfl, hb1⟩
    have HB1 : Hid (Below W.heap.size W w1) := HB0.out.1.trans (hb1.mono HB0.out.1.size)
    have hk1 := (hb1.block _ (ltQ HB0.out.2.2)).trans HB0.out.2.2
    have q0 : w1.cell? ⟨W.heap.size + 1, 0, none⟩ = some (.int .i64 0) := by simp [World.cell?, hk1]
    have q1 : w1.cell? ⟨W.heap.size + 1, 1, none⟩ = some (.int .i64 0) := by simp [World.cell?, hk1]
    have qf0 : w1.frozen? ⟨W.heap.size + 1, 0, none⟩ = false := by simp [World.frozen?, hk1]
    have qf1 : w1.frozen? ⟨W.heap.size + 1, 1, none⟩ = false := by simp [World.frozen?, hk1]
    have ql := ltQ hk1
    clear hb1 HB0 HF hk1
    go_wp2
    refine bodyPost_ret (by simp [results, Tryd.results18, go_sem, *]) rfl ⟨rfl, ?_⟩
    have hb := HB1.out
    (repeat' (first | (with_reducible exact Below.refl _ _) | (with_reducible assumption) | (with_reducible refine Below.setCell ?_ ?_ _) | (with_reducible refine Below.alloc ?_ ?_ _) | (with_reducible refine below_drewN ?_ _) | (with_reducible refine Below.drew ?_) | (with_reducible exact Nat.le_refl _) | omega | (simp; done) | (simp; omega)))
  have hok := rp_ok (hK.symm.trans hk0)
  have HT : Hid (T = sumN (fun i => fxN c.ps (c.ss.getD i spD).t) c.ss.length) := by unfold Hid; rw [hT]; unfold ttV; rw [← hK, if_pos hk0]
  have HFX : Hid (∀ (i : Nat) (hi : i < c.ss.length) (hi' : i < rs.length), ∃ u : Vl, u.n = fxN c.ps (c.ss[i]).t ∧ -1000000 ≤ u.n ∧ u.n ≤ 1000000 ∧ ∀ X, Below W.heap.size W X → Calls Tryd.prog 55 #[.agg #[.string r.nm, .slice r.pa r.pn r.pc, .slice r.sa r.sn r.sc], .slice none 0 0, .agg #[.int .i64 (rs[i]).t.k, .int .i64 (rs[i]).t.n, .string (rs[i]).t.s]] X fun e w' => e = .returned (.agg #[.int .i64 u.k, .int .i64 u.n, .string u.s]) ∧ Below X.heap.size X w') := fun i hi hi' => by
    have hr1 := hrel.at_ i hi' hi
    have hsp := hok.ss i hi
    have hb := fx_bnd hok.ps hsp.use
    have hpn20 := hok.pn
    rw [hr1.t]
    refine ⟨fxV c.ps [] (c.ss[i]).t, fxV_nil _ _, by rw [fxV_nil]; exact hb.1, by rw [fxV_nil]; exact hb.2, fun X hX => spec_fx r.nm r.pa r.pn r.pc r.sa r.sn r.sc _ c.ps [] (by omega) (by omega) (useK_ok hsp.use).2 (h.ps.below hX) (RG.nil _ _ _ _ _)⟩
  have HS : Hid (RG 5 rsC W (.slice r.sa r.sn r.sc) rs ∧ r.sn = c.ss.length ∧ r.sn = rs.length) := ⟨hrg, hsl, hsr⟩
  have hs40 : r.sn ≤ 40 := by have := hok.sn; omega
  subst hk0
  clear hK hT hpl hsl hsr h hs hrg hrel hok
  go_enter Tryd.func18, Tryd.ntmps18
  go_wp2_with (fail)
  rw [← HV0.out]
  clear HV0
  refine (HF.out _ HB0.out.1).mono ?_
  rintro e w1 ⟨rfl, hb1⟩
  have HB1 : Hid (Below W.heap.size W w1 ∧ w1.heap[W.heap.size]? = some (.cells #[.string r.nm, .slice r.pa r.pn r.pc, .slice r.sa r.sn r.sc] 38) ∧ w1.heap[W.heap.size + 1]? = some (.cells #[.int .i64 0, .int .i64 0] 43)) := ⟨HB0.out.1.trans (hb1.mono HB0.out.1.size), (hb1.block _ (ltQ HB0.out.2.1)).trans HB0.out.2.1, (hb1.block _ (ltQ HB0.out.2.2)).trans HB0.out.2.2⟩
  clear hb1 HB0 HF
  go_wp2
  go_loopw [4, 5] (fun q i wr => ∃ (t : Nat) (z : Int), i = .int .i64 t ∧ t ≤ r.sn ∧ q = .int .i64 z ∧ -(t * 1000000) ≤ z ∧ z ≤ t * 1000000 ∧ Hid (z = sumN (fun i => fxN c.ps (c.ss.getD i spD).t) t ∧ Below W.heap.size W wr ∧ wr.heap[W.heap.size]? = some (.cells #[.string r.nm, .slice r.pa r.pn r.pc, .slice r.sa r.sn r.sc] 38) ∧ wr.heap[W.heap.size + 1]? = some (.cells #[.int .i64 0, .int .i64 0] 43))) (fun _ i _ => r.sn - (intOf i).toNat)
  case atStart => exact ⟨0, 0, rfl, Nat.zero_le _, rfl, by omega, by omega, rfl, HB1.out⟩
  case round =>
    clear HB1
    obtain ⟨t, z, rfl, htt, rfl, hz1, hz2, hR⟩ := hrel
    obtain ⟨p0, p1, p2, pf, pl⟩ := three_at hR.out.2.2.1
    clear pf
    by_cases hlt : t < r.sn
    · have htl : t < c.ss.length := by rw [← HS.out.2.1]; exact hlt
      have htr : t < rs.length := by rw [← HS.out.2.2]; exact hlt
      obtain ⟨g, o, c2, he, hg, hj⟩ := (HS.out.1.below hR.out.2.1).pos (by omega)
      simp only [Value.slice.injEq] at he
      obtain ⟨hx0, hx1, hx2⟩ := he
      clear hx1 hx2
      obtain ⟨c0, c1, c2, c3, c4⟩ := rsC_at (hj t htr)
      obtain ⟨y, hy⟩ : ∃ y, y = rs[t] := ⟨_, rfl⟩
      rw [← hy] at c0 c1 c2 c3 c4
      obtain ⟨u, hu, hu1, hu2, hcall⟩ := HFX.out t htl htr
      rw [← hy] at hcall
      have HC : Hid (∀ X : Und wr.heap.size wr, Calls Tryd.prog 55 #[.agg #[.string r.nm, .slice r.pa r.pn r.pc, .slice (some ⟨g, o, none⟩) r.sn r.sc], .slice none 0 0, .agg #[.int .i64 y.t.k, .int .i64 y.t.n, .string y.t.s]] X.W fun e w' => e = .returned (.agg #[.int .i64 u.k, .int .i64 u.n, .string u.s]) ∧ Below X.W.heap.size X.W w') := fun X => by
        have := hcall X.W (hR.out.2.1.trans (X.below.mono hR.out.2.1.size))
        rw [hx0] at this
        exact this
      have HZ : Hid (z + u.n = sumN (fun i => fxN c.ps (c.ss.getD i spD).t) (t + 1)) := by
        unfold Hid
        rw [hR.out.1, hu]
        show _ = sumN _ t + fxN c.ps (c.ss.getD t spD).t
        rw [getD_at htl]
      have HB : Hid (Below W.heap.size W wr ∧ wr.heap[W.heap.size]? = some (.cells #[.string r.nm, .slice r.pa r.pn r.pc, .slice r.sa r.sn r.sc] 38) ∧ wr.heap[W.heap.size + 1]? = some (.cells #[.int .i64 0, .int .i64 0] 43)) := hR.out.2
      have hsa : r.sa = some ⟨g, o, none⟩ := hx0
      rw [hx0] at p2
      clear hj hy hcall hu hR hx0
      obtain ⟨S, hS⟩ : ∃ S, S = z + u.n := ⟨_, rfl⟩
      have hS1 : -((t + 1) * 1000000) ≤ S ∧ S ≤ (t + 1) * 1000000 := by omega
      have hwS : IntKind.i64.wrap (z + u.n) = S := by rw [← hS, IntKind.wrap_i64]; omega
      have hwS2 : z + u.n = S := hS.symm
      rw [← hS] at HZ
      clear hS
      have hfd := vl_fieldS u.k u.n u.s
      have b0 : (0 : Int) ≤ (t : Int) := by omega
      have b1 : (t : Int) < (r.sn : Int) := by omega
      go_wp2_with (fail)
      (refine wp_region_und (by kernel_rfl) (by kernel_rfl) (fun hund => ?_); (repeat (go_big_quiet_step (first | (go_at_call 55; with_reducible refine und_call ?_ (HC.out _); exact Nat.le_refl _)))); with_reducible refine wpQuiet_nil ?_; clear hund; intro W1 hb1; obtain ⟨hc1, hf1⟩ := undcell hb1)
      have HB5 : Hid (Below W.heap.size W W1 ∧ W1.heap[W.heap.size]? = some (.cells #[.string r.nm, .slice r.pa r.pn r.pc, .slice r.sa r.sn r.sc] 38) ∧ W1.heap[W.heap.size + 1]? = some (.cells #[.int .i64 0, .int .i64 0] 43)) := ⟨HB.out.1.trans (hb1.mono HB.out.1.size), (hb1.block _ (ltQ HB.out.2.1)).trans HB.out.2.1, (hb1.block _ (ltQ HB.out.2.2)).trans HB.out.2.2⟩
      clear hb1 hc1 hf1 HB HC c0 c1 c2 c3 c4 hg p0 p1 p2 pl
      go_wp2
      try rw [← hsa]
      go_roundw
      case rel => exact ⟨t + 1, S, by go_num, by omega, rfl, by have := hS1.1; push_cast; omega, by have := hS1.2; push_cast; omega, HZ.out, HB5.out⟩
      case measure => simp [intOf]; omega
    · have hTz : T = z := by rw [HT.out, hR.out.1]; congr 1; have := HS.out.2.1; omega
      have HB5 : Hid (Below W.heap.size W wr) := hR.out.2.1
      have hk1 := hR.out.2.2.2
      have q0 : wr.cell? ⟨W.heap.size + 1, 0, none⟩ = some (.int .i64 0) := by simp [World.cell?, hk1]
      have q1 : wr.cell? ⟨W.heap.size + 1, 1, none⟩ = some (.int .i64 0) := by simp [World.cell?, hk1]
      have qf0 : wr.frozen? ⟨W.heap.size + 1, 0, none⟩ = false := by simp [World.frozen?, hk1]
      have qf1 : wr.frozen? ⟨W.heap.size + 1, 1, none⟩ = false := by simp [World.frozen?, hk1]
      have ql := ltQ hk1
      clear hR HT hk1
      subst hTz
      go_wp2
      refine bodyPost_ret (by simp [results, Tryd.results18, go_sem, *]) rfl ⟨rfl, ?_⟩
      have hb := HB5.out
      (repeat' (first | (with_reducible exact Below.refl _ _) | (with_reducible assumption) | (with_reducible refine Below.setCell ?_ ?_ _) | (with_reducible refine Below.alloc ?_ ?_ _) | (with_reducible refine below_drewN ?_ _) | (with_reducible refine Below.drew ?_) | (with_reducible exact Nat.le_refl _) | omega | (simp; done) | (simp; omega)))

end Go.Proofs.YtnedghhngnmalaaDoor
