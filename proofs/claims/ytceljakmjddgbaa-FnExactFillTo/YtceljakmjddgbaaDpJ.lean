/- Proved here: FillTo of the program. -/
import Derived.Test.YtceljakmjddgbaaDpG
namespace Go.Proofs.Ytceljakmjddgbaa
open Go.RowKit
set_option linter.unusedVariables false
set_option linter.unusedSimpArgs false

set_option maxRecDepth 10000 in
set_option maxHeartbeats 12800000 in
theorem impl_fillTo {w : World} {v : Value} {s : List (List Flm)} (m t : Int) (hn : SmF s) (h : RsF w v s) :
    Calls Try.prog 42 #[.agg #[v], .int .i64 m, .int .i64 t] w fun e w' => ∃ u vs, e = .returned (.agg #[.int .i64 (onC s m t 0 (fiT t)), u]) ∧ RoF w' w.heap.size u (onL s m t 0 (fiT t)) vs ∧ Below w.heap.size w w' := by
  obtain ⟨a, c, rfl⟩ := h.form
  obtain ⟨n, hnn⟩ : ∃ n, n = s.length := ⟨_, rfl⟩
  obtain ⟨P, hP⟩ : ∃ P, P = pfC s m t 0 := ⟨_, rfl⟩
  obtain ⟨C, hC⟩ : ∃ C, C = onC s m t 0 (fiT t) := ⟨_, rfl⟩
  obtain ⟨L, hL⟩ : ∃ L, L = onL s m t 0 (fiT t) := ⟨_, rfl⟩
  rw [← hnn] at h ⊢
  rw [← hC, ← hL]
  have HP : Hid (∀ W, Below w.heap.size w W → Calls Try.prog 72 #[.agg #[.slice a n c], .int .i64 m, .int .i64 t, .int .i64 0] W fun e w' => e = .returned (.int .i64 P) ∧ Below W.heap.size W w') := fun W hW => by rw [hP]; exact impl_putF m t 0 hn (h.below hW)
  have H : Hid (RsF w (.slice a n c) s ∧ n = s.length ∧ P = pfC s m t 0 ∧ C = onC s m t 0 (fiT t) ∧ L = onL s m t 0 (fiT t)) := ⟨h, hnn, hP, hC, hL⟩
  clear h hnn hn hP hC hL
  go_enter Try.func42, Try.ntmps42
  go_wp2_with (fail)
  refine (HP.out _ (by (repeat' (first | (with_reducible exact Below.refl _ _) | (with_reducible assumption) | (with_reducible refine Below.setCell ?_ ?_ _) | (with_reducible refine Below.alloc ?_ ?_ _) | (with_reducible refine below_drewN ?_ _) | (with_reducible refine Below.drew ?_) | (with_reducible exact Nat.le_refl _) | omega | (simp; done) | (simp; omega))))).mono ?_
  rintro e w1 ⟨rfl, hb1⟩
  have k0 := (hb1.block w.heap.size (by simp <;> omega)).trans ((Below.heap_alloc _ _ _ (by simp <;> omega)).trans ((Below.heap_alloc _ _ _ (by simp <;> omega)).trans ((Below.heap_alloc _ _ _ (by simp)).trans (heap_alloc_new w _))))
  have k1 := (hb1.block (w.heap.size + 1) (by simp <;> omega)).trans ((Below.heap_alloc _ _ _ (by simp <;> omega)).trans ((Below.heap_alloc _ _ _ (by simp)).trans (kn_at1d w _ _)))
  have k2 := (hb1.block (w.heap.size + 2) (by simp)).trans ((Below.heap_alloc _ _ _ (by simp)).trans (kn_at2d w _ _ _))
  have k3 := (hb1.block (w.heap.size + 3) (by simp)).trans (kn_at3d w _ _ _ _)
  have hbw : Below w.heap.size w w1 := (show Below w.heap.size w _ from by (repeat' (first | (with_reducible exact Below.refl _ _) | (with_reducible assumption) | (with_reducible refine Below.setCell ?_ ?_ _) | (with_reducible refine Below.alloc ?_ ?_ _) | (with_reducible refine below_drewN ?_ _) | (with_reducible refine Below.drew ?_) | (with_reducible exact Nat.le_refl _) | omega | (simp; done) | (simp; omega)))).trans (hb1.mono (by simp; omega))
  have H1 : Hid (Below w.heap.size w w1 ∧ w1.heap[w.heap.size + 1]? = some (.cells #[.int .i64 m] 2) ∧ w1.heap[w.heap.size + 2]? = some (.cells #[.int .i64 t] 2) ∧ w1.heap[w.heap.size + 3]? = some (.cells #[.int .i64 0, .slice none 0 0] 64)) := ⟨hbw, k1, k2, k3⟩
  obtain ⟨a0, al⟩ := one_ofd k0
  obtain ⟨p0, p1, f0, f1, pl⟩ := two_ofd k3
  clear hb1 k0 k1 k2 k3 hbw HP
  by_cases hF : P = 0
  · obtain ⟨hg, hm, ht⟩ := pfC_ok (H.out.2.2.1 ▸ hF)
    have HE : Hid (aftS (fun i => whoL (s.getD i []) ++ [.who m ((fiT t) (s.getD i []))]) s.length = onS s m (fiT t) ∧ C = secF (onS s m (fiT t)) ∧ L = if C = 0 then onS s m (fiT t) else []) := by
      have hc2 : C = secF (onS s m (fiT t)) := by rw [H.out.2.2.2.1, onC, if_pos (H.out.2.2.1 ▸ hF)]
      exact ⟨onS_aft hg m (fiT t), hc2, by rw [H.out.2.2.2.2, onL, ← H.out.2.2.2.1]⟩
    have HST : Hid (StepOk 78 #[.pointer (some ⟨w.heap.size + 2, 0, none⟩), .pointer (some ⟨w.heap.size + 1, 0, none⟩)] w1 s (fun i => whoL (s.getD i []) ++ [.who m ((fiT t) (s.getD i []))])) := by
      refine ⟨fun args V => enter_fn Try.func78 (by kernel_rfl) rfl args V, fun V i ua un uc hV hi hr => ?_, fun i hi => okL_on (hg.col i hi) hm ?_⟩
      · obtain ⟨x1, xl1⟩ := one_ofd ((hV.block _ (ltOf H1.out.2.1)).trans H1.out.2.1)
        obtain ⟨x2, xl2⟩ := one_ofd ((hV.block _ (ltOf H1.out.2.2.1)).trans H1.out.2.2.1)
        exact impl_fill1 (hg.col i hi) xl2 xl1 x2 x1 ht hr
      · have h8 := (hg.col i hi).upto (Nat.le_refl _); unfold fiT topC; split <;> omega
    have HG : Hid (Calls Try.prog 73 #[.agg #[.slice a n c], .func (.func 78) #[] #[.pointer (some ⟨w.heap.size + 2, 0, none⟩), .pointer (some ⟨w.heap.size + 1, 0, none⟩)]] w1 fun e w' => ∃ u vs, e = .returned (.agg #[.int .i64 C, u]) ∧ RoF w' w1.heap.size u L vs ∧ Below w1.heap.size w1 w') := by
      have h9 := impl_grown hg.len HST.out (H.out.1.below H1.out.1)
      rw [HE.out.1, ← HE.out.2.1, ← HE.out.2.2] at h9
      exact h9
    clear hg hm ht HST
    subst hF
    go_wp2_with (fail)
    refine HG.out.mono ?_
    rintro e w2 ⟨u, vs, rfl, hro, hb2⟩
    obtain ⟨xa, xc, hue⟩ := hro.form
    obtain ⟨xn, hxn⟩ : ∃ x, x = L.length := ⟨_, rfl⟩
    rw [← hxn] at hue
    subst hue
    have k3 := (hb2.block _ (ltOf H1.out.2.2.2)).trans H1.out.2.2.2
    obtain ⟨p0', p1', f0', f1', pl'⟩ := two_ofd k3
    obtain ⟨W, hW⟩ : ∃ W, W = (w2.setCell ⟨w.heap.size + 3, 0, none⟩ (.int .i64 C)).setCell ⟨w.heap.size + 3, 1, none⟩ (.slice xa xn xc) := ⟨_, rfl⟩
    have HF : Hid (RoF W w.heap.size (.slice xa xn xc) L vs ∧ Below w.heap.size w W) := by
      have ho : ∀ q, w1.heap.size ≤ q → W.heap[q]? = w2.heap[q]? := fun q hq => by
        have := ltOf H1.out.2.2.2
        rw [hW, heap_setCell_other _ _ _ _ (by simp; omega), heap_setCell_other _ _ _ _ (by simp; omega)]
      refine ⟨(hro.kept (fun q hq => ho q ?_) (fun i hi q hq => ho q ?_)).low H1.out.1.size, ?_⟩
      · exact (rowBlk hro.o hq).1
      · exact (rowBlk (hro.bx i hi) hq).1
      · rw [hW]; have := H1.out.1.trans (hb2.mono H1.out.1.size); (repeat' (first | (with_reducible exact Below.refl _ _) | (with_reducible assumption) | (with_reducible refine Below.setCell ?_ ?_ _) | (with_reducible refine Below.alloc ?_ ?_ _) | (with_reducible refine below_drewN ?_ _) | (with_reducible refine Below.drew ?_) | (with_reducible exact Nat.le_refl _) | omega | (simp; done) | (simp; omega)))
    have HWW : Hid _ := hW
    clear hW hro hb2 k3 hxn p0 p1 f0 f1 pl a0 al HG
    go_wp2
    rw [← HWW.out]
    refine bodyPost_ret (by rw [HWW.out]; simp [results, Try.results42, go_sem, p0', p1', pl']; try rfl) rfl ?_
    first | exact ⟨_, vs, rfl, HF.out.1, HF.out.2⟩ | exact ⟨_, rfl, ⟨vs, HF.out.1⟩, HF.out.2⟩
  · have HE : Hid (C = P ∧ L = []) := by
      have hc2 : C = P := by rw [H.out.2.2.2.1, onC, if_neg (H.out.2.2.1 ▸ hF), H.out.2.2.1]
      exact ⟨hc2, by rw [H.out.2.2.2.2, onL, ← H.out.2.2.2.1, if_neg (by rw [hc2]; exact hF)]⟩
    have hF' : (P == 0) = false := by simpa using hF
    have HB : Hid (Below w.heap.size w ((w1.setCell ⟨w.heap.size + 3, 0, none⟩ (.int .i64 P)).setCell ⟨w.heap.size + 3, 1, none⟩ (.slice none 0 0))) := by
      have := H1.out.1; unfold Hid; (repeat' (first | (with_reducible exact Below.refl _ _) | (with_reducible assumption) | (with_reducible refine Below.setCell ?_ ?_ _) | (with_reducible refine Below.alloc ?_ ?_ _) | (with_reducible refine below_drewN ?_ _) | (with_reducible refine Below.drew ?_) | (with_reducible exact Nat.le_refl _) | omega | (simp; done) | (simp; omega)))
    have HR : Hid (∀ W : World, RoF W w.heap.size (.slice none 0 0) L []) := fun W => by rw [HE.out.2]; exact RoF.nil _ _
    go_wp2
    refine bodyPost_ret (by simp [results, Try.results42, go_sem, p0, p1, pl]; try rfl) rfl ?_
    first | exact ⟨_, [], by rw [HE.out.1] <;> rfl, HR.out _, HB.out⟩ | exact ⟨_, by rw [HE.out.1] <;> rfl, ⟨[], HR.out _⟩, HB.out⟩

end Go.Proofs.Ytceljakmjddgbaa
