/- Proved here: PassMap of the program. -/
import Derived.Test.YthmddnachancfaaWnR
import Derived.Test.YthmddnachancfaaWnP
import Derived.Test.YthmddnachancfaaWnO
import Derived.Laws.StructEq
import Derived.Deep.DeepCutAuto
namespace Go.Proofs.Ythmddnachancfaa
open Go.RowKit
set_option linter.unusedVariables false
set_option linter.unusedSimpArgs false

theorem ri_under {B k : Nat} {v : Value} {L : List (List Int)} {vs : List Value} (hk : k < B) : ∀ (us : List Value) (o : Nat) {V : World}, RI V B v L vs → RI (V.setCells k o us) B v L vs
  | [], _, _, h => h
  | u :: r, o, V, h => ri_under hk r (o + 1) (by
    refine h.kept (fun g hg => ?_) fun i hi g hg => ?_
    · exact heap_setCell_other _ _ _ _ (by have := (rowBlk h.o hg).1; intro e; simp at e; omega)
    · exact heap_setCell_other _ _ _ _ (by have := (rowBlk (h.bx i hi) hg).1; intro e; simp at e; omega))

set_option maxRecDepth 10000 in
set_option maxHeartbeats 6400000 in
theorem impl_pp (lo hi : Int) {w : World} {v : Value} {ls : List (List Int)} (hn : SmR ls) (h : RdR w v ls) :
    Calls Try.prog 12 #[v, .int .i64 lo, .int .i64 hi] w fun e w' => ∃ v' vs, e = .returned (.agg #[.int .i64 (ppC ls lo hi), v', .int .i64 (psV (ppL ls lo hi))]) ∧ RI w' w.heap.size v' (ppL ls lo hi) vs ∧ Below w.heap.size w w' := by
  obtain ⟨a, c, rfl⟩ := h.form
  obtain ⟨n, hnn⟩ : ∃ n, n = ls.length := ⟨_, rfl⟩
  obtain ⟨C, hC⟩ : ∃ C, C = gfC ls 1000000 := ⟨_, rfl⟩
  obtain ⟨D, hD⟩ : ∃ C, C = ppC ls lo hi := ⟨_, rfl⟩
  obtain ⟨L, hL⟩ : ∃ C, C = ppL ls lo hi := ⟨_, rfl⟩
  rw [← hD, ← hL]
  have HDE : Hid (D = (if C = 0 then (if hi < lo then 3 else 0) else C) ∧ L = if D = 0 then mpL n (ls.getD 0 []).length (fun y x => decide (lo ≤ at2 ls y x ∧ at2 ls y x ≤ hi)) else []) := ⟨by rw [hD, hC]; rfl, by rw [hL, hD, hnn]; rfl⟩
  rw [← hnn] at h ⊢
  have HF : Hid (∀ W, Below w.heap.size w W → Calls Try.prog 38 #[.slice a n c] W fun e w' => e = .returned (.int .i64 C) ∧ w' = W) := fun W hW => by rw [hC]; exact impl_gf hn (h.below hW)
  have H : Hid (RdR w (.slice a n c) ls ∧ n = ls.length ∧ C = gfC ls 1000000) := ⟨h, hnn, hC⟩
  clear h hn hC hnn hD hL
  go_enter Try.func12, Try.ntmps12
  go_wp2_with (fail)
  refine (HF.out _ (by (repeat' (first | (with_reducible exact Below.refl _ _) | (with_reducible assumption) | (with_reducible refine Below.setCell ?_ ?_ _) | (with_reducible refine Below.alloc ?_ ?_ _) | (with_reducible refine below_drewN ?_ _) | (with_reducible refine Below.drew ?_) | (with_reducible exact Nat.le_refl _) | omega | (simp; done) | (simp; omega))))).mono ?_
  rintro e w1 ⟨rfl, hw⟩
  subst hw
  clear HF
  by_cases hA0 : C = 0
  case neg =>
    have HV : Hid (D = C ∧ L = []) := by
      have := HDE.out; rw [if_neg hA0] at this; refine ⟨this.1, ?_⟩; rw [this.2, if_neg (by rw [this.1]; exact hA0)]
    have hA1 : (C != 0) = true := by simpa using hA0
    go_wp2
    go_returns
    exact ⟨.slice none 0 0, [], by rw [HV.out.1, HV.out.2]; rfl, by rw [HV.out.2]; exact RI.nil _ _, by (repeat' (first | (with_reducible exact Below.refl _ _) | (with_reducible assumption) | (with_reducible refine Below.setCell ?_ ?_ _) | (with_reducible refine Below.alloc ?_ ?_ _) | (with_reducible refine below_drewN ?_ _) | (with_reducible refine Below.drew ?_) | (with_reducible exact Nat.le_refl _) | omega | (simp; done) | (simp; omega)))⟩
  by_cases hlh : hi < lo
  · have HV : Hid (D = 3 ∧ L = []) := by
      have := HDE.out; rw [if_pos hA0, if_pos hlh] at this; refine ⟨this.1, ?_⟩; rw [this.2, if_neg (by rw [this.1]; decide)]
    subst hA0
    go_wp2
    go_returns
    exact ⟨.slice none 0 0, [], by rw [HV.out.1, HV.out.2]; rfl, by rw [HV.out.2]; exact RI.nil _ _, by (repeat' (first | (with_reducible exact Below.refl _ _) | (with_reducible assumption) | (with_reducible refine Below.setCell ?_ ?_ _) | (with_reducible refine Below.alloc ?_ ?_ _) | (with_reducible refine below_drewN ?_ _) | (with_reducible refine Below.drew ?_) | (with_reducible exact Nat.le_refl _) | omega | (simp; done) | (simp; omega)))⟩
  have hG := gfC_good (H.out.2.2.symm.trans hA0)
  obtain ⟨wd, hwd⟩ : ∃ n, n = (ls.getD 0 []).length := ⟨_, rfl⟩
  have hn16 : n ≤ 16 := by rw [H.out.2.1]; exact hG.h1
  have hn0 : 0 < n := by rw [H.out.2.1]; exact hG.h0
  have hw16 : wd ≤ 16 := by rw [hwd]; exact hG.w1
  have hw0 : 0 < wd := by rw [hwd]; exact hG.w0
  have HV : Hid (D = 0 ∧ L = mpL n wd (fun y x => decide (lo ≤ at2 ls y x ∧ at2 ls y x ≤ hi))) := by
    have := HDE.out; rw [if_pos hA0, if_neg hlh] at this; refine ⟨this.1, ?_⟩; rw [this.2, if_pos this.1, hwd]
  obtain ⟨Q, hQ⟩ : ∃ Q, Q = totV L n := ⟨_, rfl⟩
  have HZ : Hid (D = 0 ∧ psV L = Q) := ⟨HV.out.1, by rw [hQ]; unfold psV; rw [show L.length = n by rw [HV.out.2]; exact (mpL_sh _ _ _).len]⟩
  have HEND : Hid (∀ V, Below w.heap.size w V → Calls Try.prog 40 #[.agg #[.slice a n c, .slice none 0 0, .int .i64 lo, .int .i64 hi]] V fun e w' => e = .returned (.agg #[.int .i64 wd, .int .i64 n]) ∧ Below V.heap.size V w') := fun V hV => by
    rw [hwd]; exact impl_end hn0 (by omega) (H.out.1.below hV)
  have HMAP : Hid (∀ V, Below w.heap.size w V → Calls Try.prog 39 #[.agg #[.int .i64 wd, .int .i64 n], .func (.func 41) #[.agg #[.slice a n c, .slice none 0 0, .int .i64 lo, .int .i64 hi]] #[]] V fun e w' => ∃ v' vs, e = .returned (.agg #[.int .i64 0, v', .int .i64 Q]) ∧ RI w' V.heap.size v' L vs ∧ Below V.heap.size V w') := fun V hV => by
    have := kd_lim (oa := none) (on := 0) (oc := 0) (lo := lo) (hi := hi) hG (H.out.1.below hV)
    rw [← hwd] at this
    rw [hQ, HV.out.2]
    exact impl_mapOf hn0 hn16 hw0 hw16 this
  clear hG hwd HDE HV hQ
  subst hA0
  go_wp2_with (fail)
  obtain ⟨V, hV⟩ : ∃ V, V = (w.alloc (.cells #[.int .i64 0, .slice none 0 0, .int .i64 0] 25)).alloc (.cells #[.slice a n c, .slice none 0 0, .int .i64 lo, .int .i64 hi] 58) := ⟨_, rfl⟩
  rw [← hV]
  obtain ⟨k0, k1, hb, hs⟩ := al2 hV
  clear hV
  obtain ⟨KR, hKR⟩ : ∃ K, K = w.heap.size + 1 := ⟨_, rfl⟩
  rw [← hKR] at k1 ⊢
  have HKR : Hid (w.heap.size < KR) := by unfold Hid; omega
  clear hs hKR
  refine wp_region_holdsA (S := fun w' => w'.heap[KR]? = some (.cells #[.slice a n c, .slice none 0 0, .int .i64 lo, .int .i64 hi] 58)) (by kernel_rfl) k1 (fun hS => ?_)
  refine fl_takeA (i := 0) (d := 23) (v := .agg #[.slice a n c, .slice none 0 0, .int .i64 lo, .int .i64 hi]) rfl rfl rfl (by kernel_rfl) (by kernel_rfl) (by kernel_rfl) hS ?_ ?_
  · intro w' hk; obtain ⟨hk0, hk1, hk2, hk3, hkl⟩ := four_of hk; go_simp
  simp only [Act.put, List.setIfInBounds_toArray, List.set_cons_zero, List.set_cons_succ]
  refine fl_takeA (i := 2) (d := 25) (v := .agg #[.slice a n c, .slice none 0 0, .int .i64 lo, .int .i64 hi]) rfl rfl rfl (by kernel_rfl) (by kernel_rfl) (by kernel_rfl) hS ?_ ?_
  · intro w' hk; obtain ⟨hk0, hk1, hk2, hk3, hkl⟩ := four_of hk; go_simp
  simp only [Act.put, List.setIfInBounds_toArray, List.set_cons_zero, List.set_cons_succ]
  refine fl_takeA (i := 3) (d := 26) (v := .func (.func 41) #[.agg #[.slice a n c, .slice none 0 0, .int .i64 lo, .int .i64 hi]] #[]) rfl rfl rfl (by kernel_rfl) (by kernel_rfl) (by kernel_rfl) hS ?_ ?_
  · intro w' hk; obtain ⟨hk0, hk1, hk2, hk3, hkl⟩ := four_of hk; go_simp
  simp only [Act.put, List.setIfInBounds_toArray, List.set_cons_zero, List.set_cons_succ]
  refine wpAnyH_all (rs := [1]) (by kernel_rfl) (by simp) ?_
  intro i hi; obtain rfl := List.mem_singleton.1 hi; clear hi
  refine op_call (d := 24) rfl rfl rfl (by go_simp) ((HEND.out _ hb.drew).mono ?_)
  rintro e y1 ⟨rfl, hy1⟩
  have hb1 : Below w.heap.size w y1 := hb.drew.trans (hy1.mono hb.size)
  have s1 := (hy1.block _ (show KR < V.heap.size from ltOf k1)).trans k1
  have r1 := (hy1.block _ (show w.heap.size < V.heap.size from ltOf k0)).trans k0
  refine ⟨_, rfl, s1, ?_⟩
  simp only [Act.put, List.setIfInBounds_toArray, List.set_cons_zero, List.set_cons_succ]
  refine wpAnyH_all (rs := [4]) (by kernel_rfl) (by simp) ?_
  intro i hi; obtain rfl := List.mem_singleton.1 hi; clear hi
  refine op_call (d := 27) rfl rfl rfl (by go_simp) ((HMAP.out _ hb1).mono ?_)
  rintro e y2 ⟨v2, vs, rfl, hri, hy2⟩
  obtain ⟨va, vc, rfl⟩ := hri.form
  obtain ⟨nn, hnn⟩ : ∃ x, x = L.length := ⟨_, rfl⟩
  rw [← hnn] at hri ⊢
  clear hnn
  have hb2 : Below w.heap.size w y2 := hb1.trans (hy2.mono hb1.size)
  have s2 := (hy2.block _ (ltOf s1)).trans s1
  have r2 := (hy2.block _ (ltOf r1)).trans r1
  refine ⟨_, rfl, s2, ?_⟩
  simp only [Act.put, List.setIfInBounds_toArray, List.set_cons_zero, List.set_cons_succ]
  refine wpAnyH_all (rs := [5]) (by kernel_rfl) (by simp) ?_
  intro i hi; obtain rfl := List.mem_singleton.1 hi; clear hi
  refine op_store rfl rfl rfl _ _ _ rfl w.heap.size #[.int .i64 0, .slice va nn vc, .int .i64 Q] rfl rfl (there_n r2 rfl) (by kernel_rfl) (by simp [Value.oneCell']) ?_
  obtain ⟨q0, q1, q2, qf0, qf1, qf2, ql⟩ := three_of (st_same3 (a' := .int .i64 0) (b' := .slice va nn vc) (c' := .int .i64 Q) r2)
  have HB : Hid (Below w.heap.size w (y2.setCells w.heap.size 0 [.int .i64 0, .slice va nn vc, .int .i64 Q]) ∧ RI (y2.setCells w.heap.size 0 [.int .i64 0, .slice va nn vc, .int .i64 Q]) w.heap.size (.slice va nn vc) L vs) := ⟨st_below (Nat.le_refl _) _ _ hb2, (ri_under (ltOf r1) _ _ hri).low (Nat.le_of_lt (ltOf r1))⟩
  refine ⟨(setCells_other _ _ _ _ _ (by have := HKR.out; omega)).trans s2, wpAnyH_done (by kernel_rfl) (NoPanic.normal ?_) _⟩
  generalize y2.setCells w.heap.size 0 [.int .i64 0, .slice va nn vc, .int .i64 Q] = V' at HB q0 q1 q2 qf0 qf1 qf2 ql ⊢
  clear k0 k1 hb hS hy1 hb1 s1 r1 hy2 hb2 s2 r2 HEND HMAP hri
  go_wp2
  try simp only [Exit.inBlock, Exit.then]
  refine bodyPost_ret (by simp [results, Try.results12, go_sem, q0, q1, q2, ql]; try rfl) rfl ⟨.slice va nn vc, vs, by rw [HZ.out.1, HZ.out.2], HB.out.2, HB.out.1⟩

end Go.Proofs.Ythmddnachancfaa
