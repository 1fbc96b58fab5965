/- Proved here: a value as a number, by given values or the parameters' bases, of the model. -/
import Derived.Test.YtnedghhngnmalaaDoorXtM
import Derived.Test.YtnedghhngnmalaaDoorXnS
import Derived.Test.YtnedghhngnmalaaDoorReg
namespace Go.Proofs.YtnedghhngnmalaaDoor
open Go.ChangeShapes Go.WideShapes Go.ChangeAt Go.RowKit Go.Joins
set_option linter.unusedVariables false
set_option linter.unusedSimpArgs false


/-- A value as a number: of the given ones, or the parameter's base. -/
def fxV (ps : List Pm) (vs : List Se) (v : Vl) : Vl := if v.k = 2 then ⟨1, if 0 ≤ atL (snm vs) v.s then (vs.getD (atL (snm vs) v.s).toNat seD).v.n else (ps.getD (atL (pnm ps) v.s).toNat pmD).ba, ⟨#[]⟩⟩ else v
theorem fxV_nil (ps : List Pm) (v : Vl) : (fxV ps [] v).n = fxN ps v := by
  unfold fxV fxN
  by_cases h : v.k = 2
  · rw [if_pos h, if_pos h, if_neg (by simp [snm, atL])]
  · rw [if_neg h, if_neg h]
theorem there_three {w : World} {k : Nat} {a b c : Value} {T : TypeId} (h : w.heap[k]? = some (.cells #[a, b, c] T)) : w.there k 0 3 := by
  intro j hj
  have hj2 : j < 3 := hj
  simp [World.cell?, World.frozen?, h, hj2]
set_option maxRecDepth 10000 in
set_option maxHeartbeats 12800000 in
theorem spec_fx (rnm : ByteArray) (pa : Option Addr) (pn pc : Nat) (sa : Option Addr) (sn sc : Nat) (v : Vl) (ps : List Pm) (vs : List Se) {W : World} {va : Option Addr} {vn vc : Nat} (hpn : pn ≤ 1048576) (hvn : vn ≤ 1048576) (hu : v.k = 2 → 0 ≤ atL (pnm ps) v.s) (hp : RG 4 pmC W (.slice pa pn pc) ps) (hv : RG 4 seC W (.slice va vn vc) vs) :
    Calls Tryd.prog 55 #[.agg #[.string rnm, .slice pa pn pc, .slice sa sn sc], .slice va vn vc, .agg #[.int .i64 v.k, .int .i64 v.n, .string v.s]] W fun e w' => e = .returned (.agg #[.int .i64 (fxV ps vs v).k, .int .i64 (fxV ps vs v).n, .string (fxV ps vs v).s]) ∧ Below W.heap.size W w' := by
  obtain ⟨s, hs⟩ : ∃ s, s = fxV ps vs v := ⟨_, rfl⟩
  rw [← hs]
  obtain ⟨V0, hV0⟩ : ∃ V, V = ((W.alloc (.cells #[.string rnm, .slice pa pn pc, .slice sa sn sc] 38)).alloc (.cells #[.int .i64 v.k, .int .i64 v.n, .string v.s] 26)).alloc (.cells #[.int .i64 0, .int .i64 0, .string ⟨#[]⟩] 26) := ⟨_, rfl⟩
  have HB0 : Hid (Below W.heap.size W V0 ∧ V0.heap[W.heap.size]? = some (.cells #[.string rnm, .slice pa pn pc, .slice sa sn sc] 38) ∧ V0.heap[W.heap.size + 1]? = some (.cells #[.int .i64 v.k, .int .i64 v.n, .string v.s] 26) ∧ V0.heap[W.heap.size + 2]? = some (.cells #[.int .i64 0, .int .i64 0, .string ⟨#[]⟩] 26)) := ⟨by rw [hV0]; (repeat' (first | (with_reducible exact Below.refl _ _) | (with_reducible assumption) | (with_reducible refine Below.setCell ?_ ?_ _) | (with_reducible refine Below.alloc ?_ ?_ _) | (with_reducible refine below_drewN ?_ _) | (with_reducible refine Below.drew ?_) | (with_reducible exact Nat.le_refl _) | omega | (simp; done) | (simp; omega))), by rw [hV0]; exact (Below.heap_alloc _ _ _ (by simp; omega)).trans ((Below.heap_alloc _ _ _ (by simp)).trans (heap_alloc_new _ _)), by rw [hV0]; exact (Below.heap_alloc _ _ _ (by simp)).trans (heap_alloc_at1 W _ _), by rw [hV0]; exact heap_alloc_at2 W _ _ _⟩
  by_cases h2 : v.k = 2
  case neg =>
    have e1 : s = v := by rw [hs]; unfold fxV; rw [if_neg h2]
    subst e1
    clear hs hp hv hu HB0 hV0
    have dk : (s.k == 2) = false := by simp [h2]
    go_enter Tryd.func55, Tryd.ntmps55
    go_wp2
    go_returns
    exact ⟨rfl, by (repeat' (first | (with_reducible exact Below.refl _ _) | (with_reducible assumption) | (with_reducible refine Below.setCell ?_ ?_ _) | (with_reducible refine Below.alloc ?_ ?_ _) | (with_reducible refine below_drewN ?_ _) | (with_reducible refine Below.drew ?_) | (with_reducible exact Nat.le_refl _) | omega | (simp; done) | (simp; omega)))⟩
  obtain ⟨A, hA⟩ : ∃ A, A = atL (snm vs) v.s := ⟨_, rfl⟩
  have HA : Hid (∀ X, Below W.heap.size W X → Calls Tryd.prog 59 #[.slice va vn vc, .int .i64 (vn : Int), .string v.s] X fun e w' => e = .returned (.int .i64 A) ∧ Below X.heap.size X w') := fun X hb => by
    have := spec_atSetting vs v.s (W := X) (n := vn) (by omega) (Nat.le_refl _) (hv.below hb)
    rw [List.take_of_length_le (by rw [hv.len]; exact Nat.le_refl _)] at this
    rw [hA]; exact this
  have HP : Hid (∀ X, Below W.heap.size W X → Calls Tryd.prog 46 #[.agg #[.string rnm, .slice pa pn pc, .slice sa sn sc], .int .i64 (pn : Int), .string v.s] X fun e w' => e = .returned (.int .i64 (atL (pnm ps) v.s)) ∧ Below X.heap.size X w') := fun X hb => by
    have := spec_atParam ⟨rnm, pa, pn, pc, sa, sn, sc⟩ ps v.s (W := X) (n := pn) (show pn ≤ 2000000 by omega) (Nat.le_refl _) (hp.below hb)
    rw [List.take_of_length_le (by rw [hp.len]; exact Nat.le_refl _)] at this
    exact this
  have H2 : Hid (v.k = 2) := h2
  have HV0 : Hid (V0 = ((W.alloc (.cells #[.string rnm, .slice pa pn pc, .slice sa sn sc] 38)).alloc (.cells #[.int .i64 v.k, .int .i64 v.n, .string v.s] 26)).alloc (.cells #[.int .i64 0, .int .i64 0, .string ⟨#[]⟩] 26)) := hV0
  by_cases ha : 0 ≤ A
  · obtain ⟨k, hk, hAk⟩ : ∃ k, ∃ h : k < vs.length, A = ((k : Nat) : Int) := by
      have h1 := (atL_bnd (snm vs) v.s).2
      have h1' : (atL (snm vs) v.s) < vs.length := by simpa [snm] using h1
      exact ⟨A.toNat, by omega, by omega⟩
    obtain ⟨z, hz⟩ : ∃ z, z = (vs[k]).v.n := ⟨_, rfl⟩
    have e1 : s = ⟨1, z, ⟨#[]⟩⟩ := by rw [hs, hz]; unfold fxV; rw [if_pos h2, ← hA, if_pos ha, hAk, Int.toNat_natCast, getD_at hk]
    obtain ⟨g, o, c2, he, hg, hj⟩ := hv.pos (by omega)
    simp only [Value.slice.injEq] at he
    obtain ⟨hx0, hx1, hx2⟩ := he
    subst hx0
    have HC : Hid (∀ X, Below W.heap.size W X → g < X.heap.size ∧ X.cell? ⟨g, o + k * 4 + 2, none⟩ = some (.int .i64 z)) := fun X hb => by
      obtain ⟨c0, c1, c3, c4⟩ := seC_at (hj k hk)
      have e : ∀ q, X.cell? ⟨g, q, none⟩ = W.cell? ⟨g, q, none⟩ := fun q => by simp [World.cell?, hb.block g hg]
      exact ⟨Nat.lt_of_lt_of_le hg hb.size, by rw [e, c3, hz]⟩
    have hkn : k < vn := by have := hv.len; omega
    rw [hAk] at HA
    subst e1
    clear hs hz hx1 hx2 hj hg hv hp hu hA hAk ha hV0 h2 HP
    have b0 : (0 : Int) ≤ (k : Int) := by omega
    have b1 : (k : Int) < (vn : Int) := by omega
    go_enter Tryd.func55, Tryd.ntmps55
    have h2 := H2.out
    go_wp2_with (fail)
    simp only [← h2]
    rw [← HV0.out]
    clear HV0 h2
    refine (HA.out _ HB0.out.1).mono ?_
    rintro e w2 ⟨rfl, hb2⟩
    have HB2 : Hid (Below W.heap.size W w2 ∧ w2.heap[W.heap.size]? = some (.cells #[.string rnm, .slice pa pn pc, .slice sa sn sc] 38) ∧ w2.heap[W.heap.size + 1]? = some (.cells #[.int .i64 v.k, .int .i64 v.n, .string v.s] 26) ∧ w2.heap[W.heap.size + 2]? = some (.cells #[.int .i64 0, .int .i64 0, .string ⟨#[]⟩] 26)) := ⟨HB0.out.1.trans (hb2.mono HB0.out.1.size), (hb2.block _ (ltQ HB0.out.2.1)).trans HB0.out.2.1, (hb2.block _ (ltQ HB0.out.2.2.1)).trans HB0.out.2.2.1, (hb2.block _ (ltQ HB0.out.2.2.2)).trans HB0.out.2.2.2⟩
    obtain ⟨g0, g1⟩ := HC.out _ HB2.out.1
    obtain ⟨q0, q1, q2, qf, ql⟩ := three_at HB2.out.2.2.2
    have qf0 := qf 0
    have qf1 := qf 1
    have qf2 := qf 2
    have HBb : Hid (Below W.heap.size W w2) := HB2.out.1
    clear hb2 HB0 HA HC qf HB2
    go_wp2
    refine bodyPost_ret (by simp [results, Tryd.results55, go_sem, *]) rfl ⟨rfl, ?_⟩
    have hb := HBb.out
    (repeat' (first | (with_reducible exact Below.refl _ _) | (with_reducible assumption) | (with_reducible refine Below.setCell ?_ ?_ _) | (with_reducible refine Below.alloc ?_ ?_ _) | (with_reducible refine below_drewN ?_ _) | (with_reducible refine Below.drew ?_) | (with_reducible exact Nat.le_refl _) | omega | (simp; done) | (simp; omega)))
  · obtain ⟨k, hk, e1, e2⟩ : ∃ k, ∃ h : k < ps.length, atL (pnm ps) v.s = ((k : Nat) : Int) ∧ s = ⟨1, (ps[k]).ba, ⟨#[]⟩⟩ := by
      have h0 := hu h2
      have h1 := (atL_bnd (pnm ps) v.s).2
      have h1' : (atL (pnm ps) v.s) < ps.length := by simpa [pnm] using h1
      refine ⟨(atL (pnm ps) v.s).toNat, by omega, by omega, ?_⟩
      rw [hs]; unfold fxV; rw [if_pos h2, ← hA, if_neg ha, getD_at (by omega)]
    obtain ⟨z, hz⟩ : ∃ z, z = (ps[k]).ba := ⟨_, rfl⟩
    rw [← hz] at e2
    rw [e1] at HP
    obtain ⟨g, o, c2, he, hg, hj⟩ := hp.pos (by omega)
    simp only [Value.slice.injEq] at he
    obtain ⟨hx0, hx1, hx2⟩ := he
    subst hx0
    have HC : Hid (∀ X, Below W.heap.size W X → g < X.heap.size ∧ X.cell? ⟨g, o + k * 4 + 3, none⟩ = some (.int .i64 z)) := fun X hb => by
      obtain ⟨c0, c1, c3, c4⟩ := pmC_at (hj k hk)
      have e : ∀ q, X.cell? ⟨g, q, none⟩ = W.cell? ⟨g, q, none⟩ := fun q => by simp [World.cell?, hb.block g hg]
      exact ⟨Nat.lt_of_lt_of_le hg hb.size, by rw [e, c4, hz]⟩
    have hkn : k < pn := by have := hp.len; omega
    subst e2
    clear hs hz hx1 hx2 hj hg hv hp hu hA e1 hV0 h2
    have b0 : (0 : Int) ≤ (k : Int) := by omega
    have b1 : (k : Int) < (pn : Int) := by omega
    go_enter Tryd.func55, Tryd.ntmps55
    have h2 := H2.out
    go_wp2_with (fail)
    simp only [← h2]
    rw [← HV0.out]
    clear HV0 h2
    refine (HA.out _ HB0.out.1).mono ?_
    rintro e w2 ⟨rfl, hb2⟩
    have HB2 : Hid (Below W.heap.size W w2 ∧ w2.heap[W.heap.size]? = some (.cells #[.string rnm, .slice (some ⟨g, o, none⟩) pn pc, .slice sa sn sc] 38) ∧ w2.heap[W.heap.size + 1]? = some (.cells #[.int .i64 v.k, .int .i64 v.n, .string v.s] 26) ∧ w2.heap[W.heap.size + 2]? = some (.cells #[.int .i64 0, .int .i64 0, .string ⟨#[]⟩] 26)) := ⟨HB0.out.1.trans (hb2.mono HB0.out.1.size), (hb2.block _ (ltQ HB0.out.2.1)).trans HB0.out.2.1, (hb2.block _ (ltQ HB0.out.2.2.1)).trans HB0.out.2.2.1, (hb2.block _ (ltQ HB0.out.2.2.2)).trans HB0.out.2.2.2⟩
    clear hb2 HB0 HA
    go_wp2_with (fail)
    have HD : Hid (Below w2.heap.size w2 w2.drew) := (Below.refl _ _).drew
    have HKD : Hid (KA (W.heap.size + 2) w2 w2.drew) := KA.of ((Below.refl _ _).drew)
    obtain ⟨p0, p1, p2, pf, pl⟩ := three_at HB2.out.2.1
    obtain ⟨q0, q1, q2, qf, ql⟩ := three_at HB2.out.2.2.1
    clear pf qf
    refine wp_region_holdsA (S := KA (W.heap.size + 2) w2) (by kernel_rfl) HKD.out (fun hS => ?_)
    refine fl_takeA (i := 0) (d := 27) (v := .pointer (some ⟨W.heap.size, 1, none⟩)) rfl rfl rfl (by kernel_rfl) (by kernel_rfl) (by kernel_rfl) hS ?_ ?_
    · intro w' hk; unfold KA at hk; go_simp
    simp only [Act.put, List.setIfInBounds_toArray, List.set_cons_zero, List.set_cons_succ]
    refine fl_takeA (i := 1) (d := 28) (v := .slice (some ⟨g, o, none⟩) pn pc) rfl rfl rfl (by kernel_rfl) (by kernel_rfl) (by kernel_rfl) hS ?_ ?_
    · intro w' hk; unfold KA at hk; go_simp
    simp only [Act.put, List.setIfInBounds_toArray, List.set_cons_zero, List.set_cons_succ]
    refine fl_takeA (i := 2) (d := 29) (v := .agg #[.string rnm, .slice (some ⟨g, o, none⟩) pn pc, .slice sa sn sc]) rfl rfl rfl (by kernel_rfl) (by kernel_rfl) (by kernel_rfl) hS ?_ ?_
    · intro w' hk; unfold KA at hk; go_simp
    simp only [Act.put, List.setIfInBounds_toArray, List.set_cons_zero, List.set_cons_succ]
    refine fl_takeA (i := 3) (d := 30) (v := .pointer (some ⟨W.heap.size, 1, none⟩)) rfl rfl rfl (by kernel_rfl) (by kernel_rfl) (by kernel_rfl) hS ?_ ?_
    · intro w' hk; unfold KA at hk; go_simp
    simp only [Act.put, List.setIfInBounds_toArray, List.set_cons_zero, List.set_cons_succ]
    refine fl_takeA (i := 4) (d := 31) (v := .slice (some ⟨g, o, none⟩) pn pc) rfl rfl rfl (by kernel_rfl) (by kernel_rfl) (by kernel_rfl) hS ?_ ?_
    · intro w' hk; unfold KA at hk; go_simp
    simp only [Act.put, List.setIfInBounds_toArray, List.set_cons_zero, List.set_cons_succ]
    refine fl_takeA (i := 5) (d := 32) (v := .int .i64 (pn : Int)) rfl rfl rfl (by kernel_rfl) (by kernel_rfl) (by kernel_rfl) hS ?_ ?_
    · intro w' hk; unfold KA at hk; go_simp
    simp only [Act.put, List.setIfInBounds_toArray, List.set_cons_zero, List.set_cons_succ]
    refine fl_takeA (i := 6) (d := 33) (v := .pointer (some ⟨W.heap.size + 1, 2, none⟩)) rfl rfl rfl (by kernel_rfl) (by kernel_rfl) (by kernel_rfl) hS ?_ ?_
    · intro w' hk; unfold KA at hk; go_simp
    simp only [Act.put, List.setIfInBounds_toArray, List.set_cons_zero, List.set_cons_succ]
    refine fl_takeA (i := 7) (d := 34) (v := .string v.s) rfl rfl rfl (by kernel_rfl) (by kernel_rfl) (by kernel_rfl) hS ?_ ?_
    · intro w' hk; unfold KA at hk; go_simp
    simp only [Act.put, List.setIfInBounds_toArray, List.set_cons_zero, List.set_cons_succ]
    refine wpAnyH_all (rs := [8]) (by kernel_rfl) (by simp) ?_
    intro i hi
    obtain rfl : i = 8 := by simpa using hi
    refine op_call (d := 35) rfl rfl rfl (by go_simp) ((HP.out w2.drew (HB2.out.1.trans (HD.out.mono HB2.out.1.size))).mono ?_)
    rintro e y1 ⟨rfl, hb3⟩
    have hbY : Below w2.heap.size w2 y1 := HD.out.trans (hb3.mono HD.out.size)
    have hKY : KA (W.heap.size + 2) w2 y1 := KA.of (hbY.mono (by have := ltQ HB2.out.2.2.2; omega))
    refine ⟨_, rfl, hKY, ?_⟩
    simp only [Act.put, List.setIfInBounds_toArray, List.set_cons_zero, List.set_cons_succ]
    have HY : Hid (Below W.heap.size W y1 ∧ y1.heap[W.heap.size + 2]? = some (.cells #[.int .i64 0, .int .i64 0, .string ⟨#[]⟩] 26)) := ⟨HB2.out.1.trans (hbY.mono HB2.out.1.size), (hbY.block _ (ltQ HB2.out.2.2.2)).trans HB2.out.2.2.2⟩
    obtain ⟨g0, g1⟩ := HC.out _ HY.out.1
    refine wpAnyH_all (rs := [9]) (by kernel_rfl) (by simp) ?_
    intro i hi
    obtain rfl : i = 9 := by simpa using hi
    refine op_val (d := 36) (v := .pointer (some ⟨g, o + k * 4, none⟩)) (w' := y1) rfl rfl rfl (by go_simp; try rfl) ?_
    simp only [Act.put, List.setIfInBounds_toArray, List.set_cons_zero, List.set_cons_succ]
    refine ⟨hKY, ?_⟩
    refine wpAnyH_all (rs := [10]) (by kernel_rfl) (by simp) ?_
    intro i hi
    obtain rfl : i = 10 := by simpa using hi
    refine op_val (d := 37) (v := .pointer (some ⟨g, o + k * 4 + 3, none⟩)) (w' := y1) rfl rfl rfl (by go_simp; try rfl) ?_
    simp only [Act.put, List.setIfInBounds_toArray, List.set_cons_zero, List.set_cons_succ]
    refine ⟨hKY, ?_⟩
    refine wpAnyH_all (rs := [11]) (by kernel_rfl) (by simp) ?_
    intro i hi
    obtain rfl : i = 11 := by simpa using hi
    refine op_val (d := 38) (v := .int .i64 z) (w' := y1) rfl rfl rfl (by go_simp; try rfl) ?_
    simp only [Act.put, List.setIfInBounds_toArray, List.set_cons_zero, List.set_cons_succ]
    refine ⟨hKY, ?_⟩
    refine wpAnyH_all (rs := [12]) (by kernel_rfl) (by simp) ?_
    intro i hi
    obtain rfl : i = 12 := by simpa using hi
    refine op_val (d := 39) (v := .agg #[.int .i64 1, .int .i64 z, .string ⟨#[]⟩]) (w' := y1) rfl rfl rfl (by go_simp; try rfl) ?_
    simp only [Act.put, List.setIfInBounds_toArray, List.set_cons_zero, List.set_cons_succ]
    refine ⟨hKY, ?_⟩
    refine wpAnyH_all (rs := [13]) (by kernel_rfl) (by simp) ?_
    intro i hi
    obtain rfl : i = 13 := by simpa using hi
    refine op_store rfl rfl rfl 26 (.tmp 6) (.tmp 39) rfl (W.heap.size + 2) #[.int .i64 1, .int .i64 z, .string ⟨#[]⟩] rfl rfl (there_three HY.out.2) (by kernel_rfl) (by simp [Value.oneCell']) ?_
    have hbS : Below (W.heap.size + 2) w2 (y1.setCells (W.heap.size + 2) 0 [.int .i64 1, .int .i64 z, .string ⟨#[]⟩]) := by
      have hb := hKY.2
      simp only [World.setCells]
      (repeat' (first | (with_reducible exact Below.refl _ _) | (with_reducible assumption) | (with_reducible refine Below.setCell ?_ ?_ _) | (with_reducible refine Below.alloc ?_ ?_ _) | (with_reducible refine below_drewN ?_ _) | (with_reducible refine Below.drew ?_) | (with_reducible exact Nat.le_refl _) | omega | (simp; done) | (simp; omega)))
    refine ⟨KA.of hbS, wpAnyH_done (by kernel_rfl) (NoPanic.normal ?_) _⟩
    have HE : Hid (Below W.heap.size W (y1.setCells (W.heap.size + 2) 0 [.int .i64 1, .int .i64 z, .string ⟨#[]⟩])) := HB2.out.1.trans (hbS.mono (by omega))
    obtain ⟨VE, hVE⟩ : ∃ V, V = y1.setCells (W.heap.size + 2) 0 [.int .i64 1, .int .i64 z, .string ⟨#[]⟩] := ⟨_, rfl⟩
    have hh : VE.heap[W.heap.size + 2]? = some (.cells #[.int .i64 1, .int .i64 z, .string ⟨#[]⟩] 26) := by
      have s0 := heap_setCell_same y1 (W.heap.size + 2) 0 _ _ (.int .i64 1) HY.out.2
      have s1 := heap_setCell_same _ (W.heap.size + 2) 1 _ _ (.int .i64 z) s0
      have s2 := heap_setCell_same _ (W.heap.size + 2) 2 _ _ (.string ⟨#[]⟩) s1
      rw [hVE]
      simpa [World.setCells] using s2
    rw [← hVE] at HE ⊢
    obtain ⟨t0, t1, t2, tf, tl⟩ := three_at hh
    clear hVE hh hbS HY g0 g1 hKY hbY hb3 hS p0 p1 p2 pl q0 q1 q2 ql HKD HD HB2 HP HC tf
    go_wp2
    refine bodyPost_ret (by simp [results, Tryd.results55, go_sem, t0, t1, t2]) rfl ⟨rfl, HE.out⟩

end Go.Proofs.YtnedghhngnmalaaDoor
