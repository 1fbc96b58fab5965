/- Proved here: l11Int of the model: a whole number as a fraction. (And ahead of it: Proved here: SurviveOf of the program.) -/
import Derived.Test.YtjacmneopijiaaaVsW
import Derived.Test.YtjacmneopijiaaaVxI
import Derived.Test.YtjacmneopijiaaaFqM
namespace Go.Proofs.Ytjacmneopijiaaa
open Go.RowKit
set_option linter.unusedVariables false
set_option linter.unusedSimpArgs false

set_option maxRecDepth 10000 in
set_option maxHeartbeats 6400000 in
theorem impl_vs {W : World} {v u : Value} {s : List Dft} {cs : List Cls} (hn : s.length ≤ 1048576) (hm : cs.length ≤ 1048576) (h : RG 4 vdC W v s) (k : RG 6 vcC W u cs) :
    Calls Try.prog 31 #[v, u] W fun e w' => e = .returned (.agg #[.int .i64 (vsQ s cs).c, .int .i64 (vsQ s cs).n, .int .i64 (vsQ s cs).d]) ∧ Below W.heap.size W w' := by
  obtain ⟨da, dc, rfl⟩ := h.form
  obtain ⟨ca, cc, rfl⟩ := k.form
  obtain ⟨Q, hQ⟩ : ∃ Q, Q = vsQ s cs := ⟨_, rfl⟩
  obtain ⟨F, hF⟩ : ∃ F, F = vxF s cs := ⟨_, rfl⟩
  obtain ⟨dn, hdn⟩ : ∃ n, n = s.length := ⟨_, rfl⟩
  obtain ⟨cn, hcn⟩ : ∃ n, n = cs.length := ⟨_, rfl⟩
  have HF : Hid (∀ X, Below W.heap.size W X → Calls Try.prog 47 #[.slice da dn dc, .slice ca cn cc] X fun e w' => e = .returned (.int .i64 F) ∧ Below X.heap.size X w') := fun X hX => by
    rw [hF, hdn, hcn]; exact impl_vx hn hm (h.below hX) (k.below hX)
  rw [← hdn] at h ⊢
  rw [← hcn] at k ⊢
  rw [← hQ]
  have H : Hid (RG 4 vdC W (.slice da dn dc) s ∧ RG 6 vcC W (.slice ca cn cc) cs ∧ F = vxF s cs ∧ dn = s.length ∧ cn = cs.length) := ⟨h, k, hF, hdn, hcn⟩
  have HQ : Hid (Q = vsQ s cs) := hQ
  clear h k hF hdn hcn hQ hn hm
  obtain ⟨k0, hk0⟩ : ∃ k, k = W.heap.size := ⟨_, rfl⟩
  obtain ⟨V0, hV0⟩ : ∃ V, V = W.alloc (.cells #[.int .i64 0, .int .i64 0, .int .i64 0] 57) := ⟨_, rfl⟩
  have HB0 : Hid (Below k0 W V0 ∧ V0.heap.size = k0 + 1 ∧ k0 = W.heap.size) := ⟨by rw [hV0, hk0]; (repeat' (first | (with_reducible exact Below.refl _ _) | (with_reducible assumption) | (with_reducible refine Below.setCell ?_ ?_ _) | (with_reducible refine Below.alloc ?_ ?_ _) | (with_reducible refine below_drewN ?_ _) | (with_reducible refine Below.drew ?_) | (with_reducible exact Nat.le_refl _) | omega | (simp; done) | (simp; omega))), by rw [hV0, hk0]; simp, hk0⟩
  have HQ1 : Hid (V0.heap[k0]? = some (.cells #[.int .i64 0, .int .i64 0, .int .i64 0] 57)) := by rw [hV0, hk0]; exact heap_alloc_new W _
  have HV0 : Hid (V0 = W.alloc (.cells #[.int .i64 0, .int .i64 0, .int .i64 0] 57) ∧ k0 = W.heap.size) := ⟨hV0, hk0⟩
  clear hV0 hk0
  go_enter Try.func31, Try.ntmps31
  go_wp2_with (fail)
  rw [← HV0.out.1, ← HV0.out.2]
  clear HV0
  refine (HF.out _ (by rw [← HB0.out.2.2]; exact HB0.out.1)).mono ?_
  rintro e w1 ⟨rfl, hb1⟩
  have HB1 : Hid (Below k0 W w1) := HB0.out.1.trans (hb1.mono (by have := HB0.out.2; omega))
  have q1 := (hb1.block k0 (by have := HB0.out.2; omega)).trans HQ1.out
  have HKW : Hid (k0 = W.heap.size ∧ k0 + 1 ≤ w1.heap.size) := ⟨HB0.out.2.2, by have := hb1.size; have := HB0.out.2; omega⟩
  clear hb1 HQ1 HB0 HF
  by_cases hc : F = 0
  case neg =>
    have hc2 : (F != 0) = true := by simp [hc]
    have HE : Hid (Q = ⟨F, 0, 0⟩) := by unfold Hid; rw [HQ.out]; unfold vsQ; rw [if_neg (by rw [← H.out.2.2.1]; exact hc), H.out.2.2.1]
    have z0 : w1.cell? ⟨k0, 0, none⟩ = some (.int .i64 0) := cellOf q1 0 rfl
    have z1 : w1.cell? ⟨k0, 1, none⟩ = some (.int .i64 0) := cellOf q1 1 rfl
    have z2 : w1.cell? ⟨k0, 2, none⟩ = some (.int .i64 0) := cellOf q1 2 rfl
    have zf0 := frozOf q1 0
    have zf1 := frozOf q1 1
    have zf2 := frozOf q1 2
    have zl := ltOf q1
    obtain ⟨e1, e2, e3, e4, e5, e6⟩ := set3e (a' := .int .i64 F) (b' := .int .i64 0) (c' := .int .i64 0) q1
    clear q1 hc
    go_wp2
    refine bodyPost_ret (by simp [results, Try.results31, go_sem, e1, e2, e3, e4, e5, e6, zl]; try rfl) rfl ?_
    refine ⟨by rw [HE.out], ?_⟩
    rw [← HKW.out.1]
    exact set3b HB1.out (Nat.le_refl _)
  obtain ⟨hf1, hf2⟩ := vxF_ok (s := s) (cs := cs) (by rw [← H.out.2.2.1]; exact hc)
  have hdok := vdF_ok hf1
  have hcok := vcF_ok hf2
  have HQ2 : Hid (Q = vsG cs s ⟨0, 1, 1⟩) := by unfold Hid; rw [HQ.out]; unfold vsQ; rw [if_pos (by rw [← H.out.2.2.1]; exact hc)]
  clear HQ hf1 hf2
  subst hc
  have HT : Hid (∀ X, Below k0 W X → Calls Try.prog 44 #[.slice ca cn cc] X fun e w' => e = .returned (.agg #[.slice ca cn cc, .map (some (X.heap.size + 1))]) ∧ TBL w' X.heap.size cs cs.length ∧ Below X.heap.size X w') := fun X hX =>
    impl_table hcok.1 hcok.2 (H.out.2.1.below (by rw [← HKW.out.1]; exact hX))
  go_wp2_with (fail)
  refine (HT.out _ HB1.out).mono ?_
  rintro e w2 ⟨rfl, hT2, hb2⟩
  have hBW : Below k0 W w2 := HB1.out.trans (hb2.mono (by have := ltOf q1; omega))
  have q2 := (hb2.block _ (ltOf q1)).trans q1
  have HWO : Hid (Calls Try.prog 52 #[.agg #[.slice da dn dc, .slice ca cn cc, .map (some (w1.heap.size + 1))]] w2 fun e w' => e = .returned (.agg #[.int .i64 Q.c, .int .i64 Q.n, .int .i64 Q.d]) ∧ Below w2.heap.size w2 w') := by
    rw [HQ2.out]; exact impl_worth hdok.1 hdok.2 (by rw [H.out.2.2.2.2]; exact hcok.1) hcok.2 (H.out.1.below (by rw [← HKW.out.1]; exact hBW)) (H.out.2.1.below (by rw [← HKW.out.1]; exact hBW)) hT2
  have HB2 : Hid (Below k0 W w2) := hBW
  clear hT2 hb2 q1 HB1 hBW HT hdok hcok
  go_wp2_with (fail)
  refine HWO.out.mono ?_
  rintro e w3 ⟨rfl, hb3⟩
  have HB3 : Hid (Below k0 W w3) := HB2.out.trans (hb3.mono (by have := ltOf q2; omega))
  have q3 := (hb3.block _ (ltOf q2)).trans q2
  obtain ⟨Qc, Qn, Qd⟩ := Q
  have z0 : w3.cell? ⟨k0, 0, none⟩ = some (.int .i64 0) := cellOf q3 0 rfl
  have z1 : w3.cell? ⟨k0, 1, none⟩ = some (.int .i64 0) := cellOf q3 1 rfl
  have z2 : w3.cell? ⟨k0, 2, none⟩ = some (.int .i64 0) := cellOf q3 2 rfl
  have zf0 := frozOf q3 0
  have zf1 := frozOf q3 1
  have zf2 := frozOf q3 2
  have zl := ltOf q3
  obtain ⟨e1, e2, e3, e4, e5, e6⟩ := set3e (a' := .int .i64 Qc) (b' := .int .i64 Qn) (c' := .int .i64 Qd) q3
  clear q3 q2 hb3 HB2 HWO
  go_wp2
  refine bodyPost_ret (by simp [results, Try.results31, go_sem, e1, e2, e3, e4, e5, e6, zl]; try rfl) rfl ?_
  refine ⟨rfl, ?_⟩
  rw [← HKW.out.1]
  exact set3b HB3.out (Nat.le_refl _)

end Go.Proofs.Ytjacmneopijiaaa

namespace Go.Proofs.Ytjacmneopijiaaa
open Go.RowKit
set_option linter.unusedVariables false
set_option linter.unusedSimpArgs false

set_option maxHeartbeats 800000 in
theorem spec_int15 (n : Int) (w : World) : Calls Try.prog 55 #[.int .i64 n] w fun e w' => e = .returned (.agg #[.int .i64 n, .int .i64 1]) ∧ Below w.heap.size w w' := by
  go_enter Try.func55, Try.ntmps55
  go_wp2
  go_returns
  exact ⟨rfl, by (repeat' (first | (with_reducible exact Below.refl _ _) | (with_reducible assumption) | (with_reducible refine Below.setCell ?_ ?_ _) | (with_reducible refine Below.alloc ?_ ?_ _) | (with_reducible refine below_drewN ?_ _) | (with_reducible refine Below.drew ?_) | (with_reducible exact Nat.le_refl _) | omega | (simp; done) | (simp; omega)))⟩

end Go.Proofs.Ytjacmneopijiaaa
