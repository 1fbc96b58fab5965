/- Proved here: ClassOf of the model. -/
import Derived.Test.YtjacmneopijiaaaVnM
import Derived.Test.YtjacmneopijiaaaVtS
import Derived.Test.YtjacmneopijiaaaVcS
import Derived.Test.YtjacmneopijiaaaTmC
namespace Go.Proofs.Ytjacmneopijiaaa
open Go.RowKit
set_option linter.unusedVariables false
set_option linter.unusedSimpArgs false

set_option maxRecDepth 10000 in
set_option maxHeartbeats 6400000 in
theorem spec_vn {W : World} {v : Value} {cs : List Cls} (d : Dft) (hn : cs.length ≤ 1048576) (h : RG 6 vcC W v cs) :
    Calls Try.prog 19 #[.agg #[.int .i64 d.x, .int .i64 d.y, .int .i64 d.z, .int .i64 d.k], v] W fun e w' => e = .returned (.agg #[.int .i64 (vcF cs), .int .i64 (vnV d cs)]) ∧ Below W.heap.size W w' := by
  obtain ⟨a, c, rfl⟩ := h.form
  obtain ⟨n, hnn⟩ : ∃ n, n = cs.length := ⟨_, rfl⟩
  obtain ⟨C, hC⟩ : ∃ C, C = vcF cs := ⟨_, rfl⟩
  obtain ⟨Y, hY⟩ : ∃ Y, Y = vnV d cs := ⟨_, rfl⟩
  have HF : Hid (∀ X, Below W.heap.size W X → Calls Try.prog 15 #[.slice a n c] X fun e w' => e = .returned (.int .i64 C) ∧ Below X.heap.size X w') := fun X hX => by
    rw [hC, hnn]; exact spec_vcF hn (h.below hX)
  rw [← hnn] at h hn ⊢
  rw [← hC, ← hY]
  have H : Hid (RG 6 vcC W (.slice a n c) cs ∧ n = cs.length ∧ C = vcF cs ∧ Y = vnV d cs) := ⟨h, hnn, hC, hY⟩
  clear h hnn hC hY
  obtain ⟨k0, hk0⟩ : ∃ k, k = W.heap.size := ⟨_, rfl⟩
  obtain ⟨V0, hV0⟩ : ∃ V, V = (W.alloc (.cells #[.int .i64 d.x, .int .i64 d.y, .int .i64 d.z, .int .i64 d.k] 41)).alloc (.cells #[.int .i64 0, .int .i64 0] 39) := ⟨_, rfl⟩
  have HB0 : Hid (Below k0 W V0 ∧ V0.heap.size = k0 + 2 ∧ k0 = W.heap.size) := ⟨by rw [hV0, hk0]; (repeat' (first | (with_reducible exact Below.refl _ _) | (with_reducible assumption) | (with_reducible refine Below.setCell ?_ ?_ _) | (with_reducible refine Below.alloc ?_ ?_ _) | (with_reducible refine below_drewN ?_ _) | (with_reducible refine Below.drew ?_) | (with_reducible exact Nat.le_refl _) | omega | (simp; done) | (simp; omega))), by rw [hV0, hk0]; simp, hk0⟩
  have HQ0 : Hid (V0.heap[k0]? = some (.cells #[.int .i64 d.x, .int .i64 d.y, .int .i64 d.z, .int .i64 d.k] 41)) := by rw [hV0, hk0]; exact (Below.heap_alloc _ _ _ (by simp)).trans (heap_alloc_new W _)
  have HQ1 : Hid (V0.heap[k0 + 1]? = some (.cells #[.int .i64 0, .int .i64 0] 39)) := by
    unfold Hid; rw [hV0, hk0]; have := heap_alloc_new (W.alloc (.cells #[.int .i64 d.x, .int .i64 d.y, .int .i64 d.z, .int .i64 d.k] 41)) (.cells #[.int .i64 0, .int .i64 0] 39); simpa using this
  have HV0 : Hid (V0 = (W.alloc (.cells #[.int .i64 d.x, .int .i64 d.y, .int .i64 d.z, .int .i64 d.k] 41)).alloc (.cells #[.int .i64 0, .int .i64 0] 39) ∧ k0 = W.heap.size) := ⟨hV0, hk0⟩
  clear hV0 hk0
  go_enter Try.func19, Try.ntmps19
  go_wp2_with (fail)
  rw [← HV0.out.1, ← HV0.out.2]
  clear HV0
  refine (HF.out _ (by rw [← HB0.out.2.2]; exact HB0.out.1)).mono ?_
  rintro e w1 ⟨rfl, hb1⟩
  have HB1 : Hid (Below k0 W w1) := HB0.out.1.trans (hb1.mono (by have := HB0.out.2; omega))
  have q0 := (hb1.block k0 (by have := HB0.out.2; omega)).trans HQ0.out
  have q1 := (hb1.block (k0 + 1) (by have := HB0.out.2; omega)).trans HQ1.out
  have HKW : Hid (k0 = W.heap.size ∧ k0 + 2 ≤ w1.heap.size) := ⟨HB0.out.2.2, by have := hb1.size; have := HB0.out.2; omega⟩
  clear hb1 HQ0 HQ1 HB0 HF
  by_cases hc : C = 0
  case neg =>
    have hc2 : (C != 0) = true := by simp [hc]
    have HE : Hid (Y = 0) := by unfold Hid; rw [H.out.2.2.2]; exact vnV_bad (by rw [← H.out.2.2.1]; exact hc)
    have z0 : w1.cell? ⟨k0 + 1, 0, none⟩ = some (.int .i64 0) := cellOf q1 0 rfl
    have z1 : w1.cell? ⟨k0 + 1, 1, none⟩ = some (.int .i64 0) := cellOf q1 1 rfl
    have zf0 := frozOf q1 0
    have zf1 := frozOf q1 1
    have zl := ltOf q1
    have e1 : (w1.setCell ⟨k0 + 1, 0, none⟩ (.int .i64 C)).cell? ⟨k0 + 1, 0, none⟩ = some (.int .i64 C) := cellOf (tset2 (b' := .int .i64 0) q1).1 0 rfl
    have e2 : ((w1.setCell ⟨k0 + 1, 0, none⟩ (.int .i64 C)).setCell ⟨k0 + 1, 1, none⟩ (.int .i64 0)).cell? ⟨k0 + 1, 1, none⟩ = some (.int .i64 0) := cellOf (tset2 q1).2 1 rfl
    have e3 : ((w1.setCell ⟨k0 + 1, 0, none⟩ (.int .i64 C)).setCell ⟨k0 + 1, 1, none⟩ (.int .i64 0)).cell? ⟨k0 + 1, 0, none⟩ = some (.int .i64 C) := cellOf (tset2 q1).2 0 rfl
    clear q0 q1 hc
    go_wp2
    refine bodyPost_ret (by simp [results, Try.results19, go_sem, e1, e2, e3, zl]; try rfl) rfl ?_
    refine ⟨by rw [HE.out], ?_⟩
    rw [← HKW.out.1]
    exact (HB1.out.setCell (by show k0 ≤ k0 + 1; omega) _).setCell (by show k0 ≤ k0 + 1; omega) _
  obtain ⟨hcl, hok⟩ := vcF_ok (s := cs) (by rw [← H.out.2.2.1]; exact hc)
  have HOK : Hid (∀ c ∈ cs, Cok c) := hok
  have HV : Hid (vcF cs = 0) := by unfold Hid; rw [← H.out.2.2.1]; exact hc
  clear hok
  subst hc
  obtain ⟨R, hRR⟩ : ∃ R, R = vff d cs := ⟨_, rfl⟩
  have HR : Hid (R = vff d cs) := hRR
  obtain ⟨Q, hQ⟩ : ∃ Q, Q = vcl d cs := ⟨_, rfl⟩
  have HQQ : Hid (Q = if R < n then (R : Int) else -1) := by unfold Hid; rw [hQ, hRR, H.out.2.1]; rfl
  have HK : Hid (Calls Try.prog 43 #[.agg #[.int .i64 d.x, .int .i64 d.y, .int .i64 d.z, .int .i64 d.k], .slice a n c] w1 fun e w' => e = .returned (.int .i64 Q) ∧ Below w1.heap.size w1 w') := by
    rw [hQ]; exact spec_cl d hcl (H.out.1.below (by rw [← HKW.out.1]; exact HB1.out))
  have p0 : w1.cell? ⟨k0, 0, none⟩ = some (.int .i64 d.x) := cellOf q0 0 rfl
  have p1 : w1.cell? ⟨k0, 1, none⟩ = some (.int .i64 d.y) := cellOf q0 1 rfl
  have p2 : w1.cell? ⟨k0, 2, none⟩ = some (.int .i64 d.z) := cellOf q0 2 rfl
  have p3 : w1.cell? ⟨k0, 3, none⟩ = some (.int .i64 d.k) := cellOf q0 3 rfl
  have pl := ltOf q0
  have HQ1 : Hid (w1.heap[k0 + 1]? = some (.cells #[.int .i64 0, .int .i64 0] 39)) := q1
  clear hRR hQ q0 q1
  go_wp2_with (fail)
  refine HK.out.mono ?_
  rintro e w3 ⟨rfl, hb3⟩
  have HB3 : Hid (Below k0 W w3) := HB1.out.trans (hb3.mono (by have := HKW.out; omega))
  have q3 := (hb3.block _ (ltOf HQ1.out)).trans HQ1.out
  clear hb3 HK HQ1 p0 p1 p2 p3 pl HB1
  by_cases hr : R = n
  · subst hr
    have HE : Hid (Y = 0) := by unfold Hid; rw [H.out.2.2.2]; exact vnV_none HV.out (by rw [← HR.out, H.out.2.1])
    have z0 : w3.cell? ⟨k0 + 1, 0, none⟩ = some (.int .i64 0) := cellOf q3 0 rfl
    have z1 : w3.cell? ⟨k0 + 1, 1, none⟩ = some (.int .i64 0) := cellOf q3 1 rfl
    have zf0 := frozOf q3 0
    have zf1 := frozOf q3 1
    have zl := ltOf q3
    have e1 : (w3.setCell ⟨k0 + 1, 0, none⟩ (.int .i64 0)).cell? ⟨k0 + 1, 0, none⟩ = some (.int .i64 0) := cellOf (tset2 (b' := .int .i64 0) q3).1 0 rfl
    have e2 : ((w3.setCell ⟨k0 + 1, 0, none⟩ (.int .i64 0)).setCell ⟨k0 + 1, 1, none⟩ (.int .i64 0)).cell? ⟨k0 + 1, 1, none⟩ = some (.int .i64 0) := cellOf (tset2 q3).2 1 rfl
    have e3 : ((w3.setCell ⟨k0 + 1, 0, none⟩ (.int .i64 0)).setCell ⟨k0 + 1, 1, none⟩ (.int .i64 0)).cell? ⟨k0 + 1, 0, none⟩ = some (.int .i64 0) := cellOf (tset2 q3).2 0 rfl
    have b9 : Q = -1 := by rw [HQQ.out, if_neg (by omega)]
    subst b9
    clear q3
    go_wp2
    refine bodyPost_ret (by simp [results, Try.results19, go_sem, e1, e2, e3, zl]; try rfl) rfl ?_
    refine ⟨by rw [HE.out], ?_⟩
    rw [← HKW.out.1]
    exact (HB3.out.setCell (by show k0 ≤ k0 + 1; omega) _).setCell (by show k0 ≤ k0 + 1; omega) _
  · have hRn : R < n := by have h9 := vff_le d cs; rw [← HR.out, ← H.out.2.1] at h9; omega
    have hRc : R < cs.length := by rw [← H.out.2.1]; exact hRn
    obtain ⟨g, o, c2, he, hg, hj⟩ := (H.out.1.below (by rw [← HKW.out.1]; exact HB3.out)).pos (by omega)
    simp only [Value.slice.injEq] at he
    obtain ⟨rfl, hx1, hx2⟩ := he
    obtain ⟨d0, d1, d2, d3, d4, d5⟩ := vcC_at (hj R hRc)
    obtain ⟨m, hm⟩ : ∃ m, m = cs[R].nm := ⟨_, rfl⟩
    rw [← hm] at d3
    have HE : Hid (Y = m) := by unfold Hid; rw [H.out.2.2.2, hm]; exact vnV_at HV.out HR.out.symm hRc
    have z0 : w3.cell? ⟨k0 + 1, 0, none⟩ = some (.int .i64 0) := cellOf q3 0 rfl
    have z1 : w3.cell? ⟨k0 + 1, 1, none⟩ = some (.int .i64 0) := cellOf q3 1 rfl
    have zf0 := frozOf q3 0
    have zf1 := frozOf q3 1
    have zl := ltOf q3
    have e1 : (w3.setCell ⟨k0 + 1, 0, none⟩ (.int .i64 0)).cell? ⟨k0 + 1, 0, none⟩ = some (.int .i64 0) := cellOf (tset2 (b' := .int .i64 0) q3).1 0 rfl
    have e2 : ((w3.setCell ⟨k0 + 1, 0, none⟩ (.int .i64 0)).setCell ⟨k0 + 1, 1, none⟩ (.int .i64 m)).cell? ⟨k0 + 1, 1, none⟩ = some (.int .i64 m) := cellOf (tset2 q3).2 1 rfl
    have e3 : ((w3.setCell ⟨k0 + 1, 0, none⟩ (.int .i64 0)).setCell ⟨k0 + 1, 1, none⟩ (.int .i64 m)).cell? ⟨k0 + 1, 0, none⟩ = some (.int .i64 0) := cellOf (tset2 q3).2 0 rfl
    have b0 : (0 : Int) ≤ (R : Int) := by omega
    have b1 : (R : Int) < (n : Int) := by omega
    have b8 : Q = (R : Int) := by rw [HQQ.out, if_pos hRn]
    subst b8
    have b7 : ¬ (R : Int) < 0 := by omega
    clear q3 hx1 hx2 hj hm d0 d1 d2 d4 d5 hr
    go_wp2
    refine bodyPost_ret (by simp [results, Try.results19, go_sem, e1, e2, e3, zl]; try rfl) rfl ?_
    refine ⟨by rw [HE.out], ?_⟩
    rw [← HKW.out.1]
    exact (HB3.out.setCell (by show k0 ≤ k0 + 1; omega) _).setCell (by show k0 ≤ k0 + 1; omega) _

end Go.Proofs.Ytjacmneopijiaaa
