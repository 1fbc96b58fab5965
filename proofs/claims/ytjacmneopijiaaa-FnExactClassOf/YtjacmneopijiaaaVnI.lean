/- Proved here: ClassOf of the program. -/
import Derived.Test.YtjacmneopijiaaaVnM
import Derived.Test.YtjacmneopijiaaaVtI
import Derived.Test.YtjacmneopijiaaaVcI
namespace Go.Proofs.Ytjacmneopijiaaa
open Go.RowKit
set_option linter.unusedVariables false
set_option linter.unusedSimpArgs false

set_option maxRecDepth 10000 in
set_option maxHeartbeats 6400000 in
theorem impl_vn {W : World} {v : Value} {cs : List Cls} (d : Dft) (hdk : -9223372036854775808 ≤ d.k ∧ d.k ≤ 9223372036854775807) (hn : cs.length ≤ 1048576) (h : RG 6 vcC W v cs) :
    Calls Try.prog 21 #[.agg #[.int .i64 d.x, .int .i64 d.y, .int .i64 d.z, .int .i64 d.k], v] W fun e w' => e = .returned (.agg #[.int .i64 (vcF cs), .int .i64 (vnV d cs)]) ∧ Below W.heap.size W w' := by
  have HDK : Hid (-9223372036854775808 ≤ d.k ∧ d.k ≤ 9223372036854775807) := hdk
  clear hdk
  obtain ⟨a, c, rfl⟩ := h.form
  obtain ⟨n, hnn⟩ : ∃ n, n = cs.length := ⟨_, rfl⟩
  obtain ⟨C, hC⟩ : ∃ C, C = vcF cs := ⟨_, rfl⟩
  obtain ⟨Y, hY⟩ : ∃ Y, Y = vnV d cs := ⟨_, rfl⟩
  have HF : Hid (∀ X, Below W.heap.size W X → Calls Try.prog 17 #[.slice a n c] X fun e w' => e = .returned (.int .i64 C) ∧ Below X.heap.size X w') := fun X hX => by
    rw [hC, hnn]; exact impl_vcF hn (h.below hX)
  rw [← hnn] at h hn ⊢
  rw [← hC, ← hY]
  have H : Hid (RG 6 vcC W (.slice a n c) cs ∧ n = cs.length ∧ C = vcF cs ∧ Y = vnV d cs) := ⟨h, hnn, hC, hY⟩
  clear h hnn hC hY
  obtain ⟨k0, hk0⟩ : ∃ k, k = W.heap.size := ⟨_, rfl⟩
  obtain ⟨V0, hV0⟩ : ∃ V, V = (W.alloc (.cells #[.int .i64 d.x, .int .i64 d.y, .int .i64 d.z, .int .i64 d.k] 41)).alloc (.cells #[.int .i64 0, .int .i64 0] 39) := ⟨_, rfl⟩
  have HB0 : Hid (Below k0 W V0 ∧ V0.heap.size = k0 + 2 ∧ k0 = W.heap.size) := ⟨by rw [hV0, hk0]; (repeat' (first | (with_reducible exact Below.refl _ _) | (with_reducible assumption) | (with_reducible refine Below.setCell ?_ ?_ _) | (with_reducible refine Below.alloc ?_ ?_ _) | (with_reducible refine below_drewN ?_ _) | (with_reducible refine Below.drew ?_) | (with_reducible exact Nat.le_refl _) | omega | (simp; done) | (simp; omega))), by rw [hV0, hk0]; simp, hk0⟩
  have HQ0 : Hid (V0.heap[k0]? = some (.cells #[.int .i64 d.x, .int .i64 d.y, .int .i64 d.z, .int .i64 d.k] 41)) := by rw [hV0, hk0]; exact (Below.heap_alloc _ _ _ (by simp)).trans (heap_alloc_new W _)
  have HQ1 : Hid (V0.heap[k0 + 1]? = some (.cells #[.int .i64 0, .int .i64 0] 39)) := by
    unfold Hid; rw [hV0, hk0]; have := heap_alloc_new (W.alloc (.cells #[.int .i64 d.x, .int .i64 d.y, .int .i64 d.z, .int .i64 d.k] 41)) (.cells #[.int .i64 0, .int .i64 0] 39); simpa using this
  have HV0 : Hid (V0 = (W.alloc (.cells #[.int .i64 d.x, .int .i64 d.y, .int .i64 d.z, .int .i64 d.k] 41)).alloc (.cells #[.int .i64 0, .int .i64 0] 39) ∧ k0 = W.heap.size) := ⟨hV0, hk0⟩
  clear hV0 hk0
  go_enter Try.func21, Try.ntmps21
  go_wp2_with (fail)
  rw [← HV0.out.1, ← HV0.out.2]
  clear HV0
  refine (HF.out _ (by rw [← HB0.out.2.2]; exact HB0.out.1)).mono ?_
  rintro e w1 ⟨rfl, hb1⟩
  have HB1 : Hid (Below k0 W w1) := HB0.out.1.trans (hb1.mono (by have := HB0.out.2; omega))
  have q0 := (hb1.block k0 (by have := HB0.out.2; omega)).trans HQ0.out
  have q1 := (hb1.block (k0 + 1) (by have := HB0.out.2; omega)).trans HQ1.out
  have HKW : Hid (k0 = W.heap.size ∧ k0 + 2 ≤ w1.heap.size) := ⟨HB0.out.2.2, by have := hb1.size; have := HB0.out.2; omega⟩
  clear hb1 HQ0 HQ1 HB0 HF
  by_cases hc : C = 0
  case neg =>
    have hc2 : (C != 0) = true := by simp [hc]
    have HE : Hid (Y = 0) := by unfold Hid; rw [H.out.2.2.2]; exact vnV_bad (by rw [← H.out.2.2.1]; exact hc)
    have z0 : w1.cell? ⟨k0 + 1, 0, none⟩ = some (.int .i64 0) := cellOf q1 0 rfl
    have z1 : w1.cell? ⟨k0 + 1, 1, none⟩ = some (.int .i64 0) := cellOf q1 1 rfl
    have zf0 := frozOf q1 0
    have zf1 := frozOf q1 1
    have zl := ltOf q1
    have e1 : (w1.setCell ⟨k0 + 1, 0, none⟩ (.int .i64 C)).cell? ⟨k0 + 1, 0, none⟩ = some (.int .i64 C) := cellOf (tset2 (b' := .int .i64 0) q1).1 0 rfl
    have e2 : ((w1.setCell ⟨k0 + 1, 0, none⟩ (.int .i64 C)).setCell ⟨k0 + 1, 1, none⟩ (.int .i64 0)).cell? ⟨k0 + 1, 1, none⟩ = some (.int .i64 0) := cellOf (tset2 q1).2 1 rfl
    have e3 : ((w1.setCell ⟨k0 + 1, 0, none⟩ (.int .i64 C)).setCell ⟨k0 + 1, 1, none⟩ (.int .i64 0)).cell? ⟨k0 + 1, 0, none⟩ = some (.int .i64 C) := cellOf (tset2 q1).2 0 rfl
    clear q0 q1 hc
    go_wp2
    refine bodyPost_ret (by simp [results, Try.results21, go_sem, e1, e2, e3, zl]; try rfl) rfl ?_
    refine ⟨by rw [HE.out], ?_⟩
    rw [← HKW.out.1]
    exact (HB1.out.setCell (by show k0 ≤ k0 + 1; omega) _).setCell (by show k0 ≤ k0 + 1; omega) _
  obtain ⟨hcl, hok⟩ := vcF_ok (s := cs) (by rw [← H.out.2.2.1]; exact hc)
  have HOK : Hid (∀ c ∈ cs, Cok c) := hok
  have HV : Hid (vcF cs = 0) := by unfold Hid; rw [← H.out.2.2.1]; exact hc
  clear hok
  subst hc
  obtain ⟨X, hX⟩ : ∃ X, X = w1.drew := ⟨_, rfl⟩
  have bX : Below w1.heap.size w1 X := by rw [hX]; exact (Below.refl _ _).drew
  have q0x := (bX.block k0 (ltOf q0)).trans q0
  have q1x := (bX.block (k0 + 1) (ltOf q1)).trans q1
  have HBX : Hid (Below k0 W X) := HB1.out.trans (bX.mono (by have := HKW.out; omega))
  have HXS : Hid (k0 + 2 ≤ X.heap.size) := by have := bX.size; have := HKW.out; unfold Hid; omega
  have HT : Hid (Calls Try.prog 44 #[.slice a n c] X fun e w' => e = .returned (.agg #[.slice a n c, .map (some (X.heap.size + 1))]) ∧ TBL w' X.heap.size cs cs.length ∧ Below X.heap.size X w') :=
    impl_table hcl HOK.out (H.out.1.below (by rw [← HKW.out.1]; exact HBX.out))
  have HQ1 : Hid (X.heap[k0 + 1]? = some (.cells #[.int .i64 0, .int .i64 0] 39)) := q1x
  have hXX : w1.drew = X := hX.symm
  clear hX bX q0 q1 q1x
  go_wp2_with (fail)
  refine wp_region_holdsA (S := fun w' => w'.heap[k0]? = some (.cells #[.int .i64 d.x, .int .i64 d.y, .int .i64 d.z, .int .i64 d.k] 41)) (by kernel_rfl) (by rw [hXX]; exact q0x) (fun hS => ?_)
  rw [hXX] at hS ⊢
  clear hXX q0x
  refine fl_takeA (i := 0) (d := 13) (v := .slice a n c) rfl rfl rfl (by kernel_rfl) (by kernel_rfl) (by kernel_rfl) hS ?_ ?_
  · intro w' hk; go_simp
  simp only [Act.put, List.setIfInBounds_toArray, List.set_cons_zero, List.set_cons_succ]
  refine fl_takeA (i := 2) (d := 15) (v := .agg #[.int .i64 d.x, .int .i64 d.y, .int .i64 d.z, .int .i64 d.k]) rfl rfl rfl (by kernel_rfl) (by kernel_rfl) (by kernel_rfl) hS ?_ ?_
  · intro w' hk; have x0 := cellOf hk 0 rfl; have x1 := cellOf hk 1 rfl; have x2 := cellOf hk 2 rfl; have x3 := cellOf hk 3 rfl; have x4 := ltOf hk; go_simp
  simp only [Act.put, List.setIfInBounds_toArray, List.set_cons_zero, List.set_cons_succ]
  refine wpAnyH_all (rs := [1]) (by kernel_rfl) (by simp) ?_
  intro iz hi
  obtain rfl : iz = 1 := by simpa using hi
  clear hi
  refine op_call (d := 14) rfl rfl rfl (by go_simp) (HT.out.mono ?_)
  rintro e w2 ⟨rfl, hT2, hb2⟩
  have hS2 := (hb2.block k0 (by have := HXS.out; omega)).trans hS
  have HB2 : Hid (Below k0 W w2) := HBX.out.trans (hb2.mono (by have := HXS.out; omega))
  have HQ2 : Hid (w2.heap[k0 + 1]? = some (.cells #[.int .i64 0, .int .i64 0] 39)) := (hb2.block _ (by have := HXS.out; omega)).trans HQ1.out
  obtain ⟨R, hRR⟩ : ∃ R, R = vff d cs := ⟨_, rfl⟩
  have HR : Hid (R = vff d cs) := hRR
  have HFF : Hid (Calls Try.prog 45 #[.agg #[.slice a n c, .map (some (X.heap.size + 1))], .agg #[.int .i64 d.x, .int .i64 d.y, .int .i64 d.z, .int .i64 d.k]] w2 fun e w' => e = .returned (.int .i64 (R : Int)) ∧ Below w2.heap.size w2 w') := by
    rw [hRR]; exact impl_ff d HDK.out (by rw [H.out.2.1]; exact hcl) (H.out.1.below (by rw [← HKW.out.1]; exact HB2.out)) hT2
  clear hT2 hb2 hRR HT HBX HQ1
  refine ⟨_, rfl, hS2, ?_⟩
  simp only [Act.put, List.setIfInBounds_toArray, List.set_cons_zero, List.set_cons_succ]
  refine wpAnyH_all (rs := [3]) (by kernel_rfl) (by simp) ?_
  intro iz hi
  obtain rfl : iz = 3 := by simpa using hi
  clear hi
  refine op_call (d := 16) rfl rfl rfl (by go_simp) (HFF.out.mono ?_)
  rintro e w3 ⟨rfl, hb3⟩
  have hS3 := (hb3.block k0 (ltOf hS2)).trans hS2
  have HB3 : Hid (Below k0 W w3) := HB2.out.trans (hb3.mono (by have := ltOf HQ2.out; omega))
  have q3 := (hb3.block _ (ltOf HQ2.out)).trans HQ2.out
  clear hb3 hS2 HB2 HQ2 HFF hS
  refine ⟨_, rfl, hS3, ?_⟩
  simp only [Act.put, List.setIfInBounds_toArray, List.set_cons_zero, List.set_cons_succ]
  refine wpAnyH_all (rs := [4]) (by kernel_rfl) (by simp) ?_
  intro iz hi
  obtain rfl : iz = 4 := by simpa using hi
  clear hi
  refine op_val (d := 6) (v := .int .i64 (R : Int)) (w' := w3) rfl rfl rfl (by go_simp; try rfl) ?_
  simp only [Act.put, List.setIfInBounds_toArray, List.set_cons_zero, List.set_cons_succ]
  refine ⟨hS3, ?_⟩
  refine wpAnyH_done (by kernel_rfl) (NoPanic.normal ?_) _
  clear hS3
  by_cases hr : R = n
  · subst hr
    have HE : Hid (Y = 0) := by unfold Hid; rw [H.out.2.2.2]; exact vnV_none HV.out (by rw [← HR.out, H.out.2.1])
    have z0 : w3.cell? ⟨k0 + 1, 0, none⟩ = some (.int .i64 0) := cellOf q3 0 rfl
    have z1 : w3.cell? ⟨k0 + 1, 1, none⟩ = some (.int .i64 0) := cellOf q3 1 rfl
    have zf0 := frozOf q3 0
    have zf1 := frozOf q3 1
    have zl := ltOf q3
    have e1 : (w3.setCell ⟨k0 + 1, 0, none⟩ (.int .i64 0)).cell? ⟨k0 + 1, 0, none⟩ = some (.int .i64 0) := cellOf (tset2 (b' := .int .i64 0) q3).1 0 rfl
    have e2 : ((w3.setCell ⟨k0 + 1, 0, none⟩ (.int .i64 0)).setCell ⟨k0 + 1, 1, none⟩ (.int .i64 0)).cell? ⟨k0 + 1, 1, none⟩ = some (.int .i64 0) := cellOf (tset2 q3).2 1 rfl
    have e3 : ((w3.setCell ⟨k0 + 1, 0, none⟩ (.int .i64 0)).setCell ⟨k0 + 1, 1, none⟩ (.int .i64 0)).cell? ⟨k0 + 1, 0, none⟩ = some (.int .i64 0) := cellOf (tset2 q3).2 0 rfl
    have b9 : True := trivial
    clear q3
    go_wp2
    refine bodyPost_ret (by simp [results, Try.results21, go_sem, e1, e2, e3, zl]; try rfl) rfl ?_
    refine ⟨by rw [HE.out], ?_⟩
    rw [← HKW.out.1]
    exact (HB3.out.setCell (by show k0 ≤ k0 + 1; omega) _).setCell (by show k0 ≤ k0 + 1; omega) _
  · have hRn : R < n := by have h9 := vff_le d cs; rw [← HR.out, ← H.out.2.1] at h9; omega
    have hRc : R < cs.length := by rw [← H.out.2.1]; exact hRn
    obtain ⟨g, o, c2, he, hg, hj⟩ := (H.out.1.below (by rw [← HKW.out.1]; exact HB3.out)).pos (by omega)
    simp only [Value.slice.injEq] at he
    obtain ⟨rfl, hx1, hx2⟩ := he
    obtain ⟨d0, d1, d2, d3, d4, d5⟩ := vcC_at (hj R hRc)
    obtain ⟨m, hm⟩ : ∃ m, m = cs[R].nm := ⟨_, rfl⟩
    rw [← hm] at d3
    have HE : Hid (Y = m) := by unfold Hid; rw [H.out.2.2.2, hm]; exact vnV_at HV.out HR.out.symm hRc
    have z0 : w3.cell? ⟨k0 + 1, 0, none⟩ = some (.int .i64 0) := cellOf q3 0 rfl
    have z1 : w3.cell? ⟨k0 + 1, 1, none⟩ = some (.int .i64 0) := cellOf q3 1 rfl
    have zf0 := frozOf q3 0
    have zf1 := frozOf q3 1
    have zl := ltOf q3
    have e1 : (w3.setCell ⟨k0 + 1, 0, none⟩ (.int .i64 0)).cell? ⟨k0 + 1, 0, none⟩ = some (.int .i64 0) := cellOf (tset2 (b' := .int .i64 0) q3).1 0 rfl
    have e2 : ((w3.setCell ⟨k0 + 1, 0, none⟩ (.int .i64 0)).setCell ⟨k0 + 1, 1, none⟩ (.int .i64 m)).cell? ⟨k0 + 1, 1, none⟩ = some (.int .i64 m) := cellOf (tset2 q3).2 1 rfl
    have e3 : ((w3.setCell ⟨k0 + 1, 0, none⟩ (.int .i64 0)).setCell ⟨k0 + 1, 1, none⟩ (.int .i64 m)).cell? ⟨k0 + 1, 0, none⟩ = some (.int .i64 0) := cellOf (tset2 q3).2 0 rfl
    have b0 : (0 : Int) ≤ (R : Int) := by omega
    have b1 : (R : Int) < (n : Int) := by omega
    have b8 : ((R : Int) == (n : Int)) = false := by simp; omega
    clear q3 hx1 hx2 hj hm d0 d1 d2 d4 d5 hr
    go_wp2
    refine bodyPost_ret (by simp [results, Try.results21, go_sem, e1, e2, e3, zl]; try rfl) rfl ?_
    refine ⟨by rw [HE.out], ?_⟩
    rw [← HKW.out.1]
    exact (HB3.out.setCell (by show k0 ≤ k0 + 1; omega) _).setCell (by show k0 ≤ k0 + 1; omega) _

end Go.Proofs.Ytjacmneopijiaaa
