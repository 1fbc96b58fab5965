/- Proved here: grownSection of the program. -/
import Derived.Test.YtceljakmjddgbabAfI
import Derived.Test.YtceljakmjddgbabScI
import Derived.Test.YtceljakmjddgbabDpM
import Derived.Test.YtceljakmjddgbabLwS
namespace Go.Proofs.Ytceljakmjddgbab
open Go.RowKit
set_option linter.unusedVariables false
set_option linter.unusedSimpArgs false

theorem StepOk.below {F : Nat} {caps : Array Value} {w W : World} {s : List (List Flm)} {lays : Nat → List Lay} (h : StepOk F caps w s lays) (hb : Below w.heap.size w W) : StepOk F caps W s lays :=
  ⟨h.enter, fun V i ua un uc hV hi hr => h.calls V i ua un uc (hb.trans (hV.mono hb.size)) hi hr, h.ok⟩
theorem kn_at1d (w : World) (a b : Obj) : ((w.alloc a).alloc b).heap[w.heap.size + 1]? = some b := by have := heap_alloc_new (w.alloc a) b; simpa using this
theorem kn_at2d (w : World) (a b c : Obj) : (((w.alloc a).alloc b).alloc c).heap[w.heap.size + 2]? = some c := by have := heap_alloc_new ((w.alloc a).alloc b) c; simpa using this
theorem kn_at3d (w : World) (a b c d : Obj) : ((((w.alloc a).alloc b).alloc c).alloc d).heap[w.heap.size + 3]? = some d := by have := heap_alloc_new (((w.alloc a).alloc b).alloc c) d; simpa using this
theorem two_ofd {w : World} {k : Nat} {a b : Value} {T : TypeId} (h : w.heap[k]? = some (.cells #[a, b] T)) :
    w.cell? ⟨k, 0, none⟩ = some a ∧ w.cell? ⟨k, 1, none⟩ = some b ∧ w.frozen? ⟨k, 0, none⟩ = false ∧ w.frozen? ⟨k, 1, none⟩ = false ∧ k < w.heap.size :=
  ⟨cellOf h 0 rfl, cellOf h 1 rfl, frozOf h 0, frozOf h 1, ltOf h⟩
theorem one_ofd {w : World} {k : Nat} {a : Value} {T : TypeId} (h : w.heap[k]? = some (.cells #[a] T)) : w.cell? ⟨k, 0, none⟩ = some a ∧ k < w.heap.size :=
  ⟨cellOf h 0 rfl, ltOf h⟩

set_option maxRecDepth 10000 in
set_option maxHeartbeats 12800000 in
theorem impl_grown {F : Nat} {caps : Array Value} {w : World} {v : Value} {s : List (List Flm)} {lays : Nat → List Lay} (hn : s.length ≤ 16) (hst : StepOk F caps w s lays) (h : RsF w v s) :
    Calls Try.prog 61 #[.agg #[v], .func (.func F) #[] caps] w fun e w' => ∃ u vs, e = .returned (.agg #[.int .i64 (secF (aftS lays s.length)), u]) ∧ RoF w' w.heap.size u (if secF (aftS lays s.length) = 0 then aftS lays s.length else []) vs ∧ Below w.heap.size w w' := by
  obtain ⟨a, c, rfl⟩ := h.form
  obtain ⟨n, hnn⟩ : ∃ n, n = s.length := ⟨_, rfl⟩
  obtain ⟨C, hC⟩ : ∃ C, C = secF (aftS lays n) := ⟨_, rfl⟩
  rw [← hnn] at h hn ⊢
  rw [← hC]
  have HA : Hid (∀ W, Below w.heap.size w W → Calls Try.prog 45 #[.agg #[.slice a n c], .func (.func F) #[] caps] W fun e w' => ∃ u vs gG, e = .returned (.agg #[.int .i64 0, u, .slice (some ⟨gG, 0, none⟩) 12 12]) ∧ RoF w' W.heap.size u (aftS lays n) vs ∧ IS w' W.heap.size (.slice (some ⟨gG, 0, none⟩) 12 12) (goA lays n) ∧ Below W.heap.size W w') := fun W hW => by
    rw [hnn]; exact impl_after (by rw [← hnn]; exact hn) (hst.below hW) (by rw [← hnn]; exact h.below hW)
  have HSM : Hid (SmF (aftS lays n) ∧ C = secF (aftS lays n)) := ⟨aft_sm hn fun i hi => (hst.ok i (by rw [← hnn]; exact hi)).1, hC⟩
  clear h hnn hC hst
  go_enter Try.func61, Try.ntmps61
  go_wp2_with (fail)
  refine (HA.out _ (by (repeat' (first | (with_reducible exact Below.refl _ _) | (with_reducible assumption) | (with_reducible refine Below.setCell ?_ ?_ _) | (with_reducible refine Below.alloc ?_ ?_ _) | (with_reducible refine below_drewN ?_ _) | (with_reducible refine Below.drew ?_) | (with_reducible exact Nat.le_refl _) | omega | (simp; done) | (simp; omega))))).mono ?_
  rintro e w1 ⟨u, vs, gG, rfl, hro, _, hb1⟩
  have k1 := (hb1.block (w.heap.size + 1) (by simp)).trans (kn_at1d w _ _)
  have hbw : Below w.heap.size w w1 := (show Below w.heap.size w _ from by (repeat' (first | (with_reducible exact Below.refl _ _) | (with_reducible assumption) | (with_reducible refine Below.setCell ?_ ?_ _) | (with_reducible refine Below.alloc ?_ ?_ _) | (with_reducible refine below_drewN ?_ _) | (with_reducible refine Below.drew ?_) | (with_reducible exact Nat.le_refl _) | omega | (simp; done) | (simp; omega)))).trans (hb1.mono (by simp; omega))
  obtain ⟨ua, uc, hue⟩ := hro.form
  rw [aftS_len] at hue
  subst hue
  have hrl := hro.low (A := w.heap.size + 2) (by simp)
  have hsz1 : w.heap.size + 2 ≤ w1.heap.size := by have := hb1.size; simp at this; omega
  have H1 : Hid (RoF w1 (w.heap.size + 2) (.slice ua n uc) (aftS lays n) vs ∧ Below w.heap.size w w1 ∧ w1.heap[w.heap.size + 1]? = some (.cells #[.int .i64 0, .slice none 0 0] 49) ∧ w.heap.size + 2 ≤ w1.heap.size) := ⟨hrl, hbw, k1, hsz1⟩
  clear hro hb1 HA k1 hbw hrl hsz1
  have fld : ∀ w : World, (Instr.field 32 (.agg #[.int .i64 0, .slice ua n uc, .slice (some ⟨gG, 0, none⟩) 12 12]) 1).run Try.prog w = .ok (.agg #[.slice ua n uc]) w := fun _ => by kernel_rfl
  go_wp2_with (fail)
  obtain ⟨w2, hw2⟩ : ∃ x, x = w1.alloc (.cells #[.slice ua n uc] 30) := ⟨_, rfl⟩
  rw [← hw2]
  have hb2 : Below w1.heap.size w1 w2 := by rw [hw2]; (repeat' (first | (with_reducible exact Below.refl _ _) | (with_reducible assumption) | (with_reducible refine Below.setCell ?_ ?_ _) | (with_reducible refine Below.alloc ?_ ?_ _) | (with_reducible refine below_drewN ?_ _) | (with_reducible refine Below.drew ?_) | (with_reducible exact Nat.le_refl _) | omega | (simp; done) | (simp; omega)))
  have kk : w2.heap[w1.heap.size]? = some (.cells #[.slice ua n uc] 30) := by rw [hw2]; exact heap_alloc_new _ _
  have H2 : Hid (RoF w2 (w.heap.size + 2) (.slice ua n uc) (aftS lays n) vs ∧ Below w.heap.size w w2 ∧ w2.heap[w.heap.size + 1]? = some (.cells #[.int .i64 0, .slice none 0 0] 49) ∧ w2.heap[w1.heap.size]? = some (.cells #[.slice ua n uc] 30)) := ⟨H1.out.1.below hb2, H1.out.2.1.trans (hb2.mono H1.out.2.1.size), (hb2.block _ (by have := H1.out.2.2.2; omega)).trans H1.out.2.2.1, kk⟩
  clear hb2 kk hw2
  refine (impl_secF HSM.out.1 H2.out.1.rd).mono ?_
  rintro e w3 ⟨rfl, hb3⟩
  rw [← HSM.out.2]
  have H3 : Hid (RoF w3 (w.heap.size + 2) (.slice ua n uc) (aftS lays n) vs ∧ Below w.heap.size w w3 ∧ w3.heap[w.heap.size + 1]? = some (.cells #[.int .i64 0, .slice none 0 0] 49) ∧ w3.heap[w1.heap.size]? = some (.cells #[.slice ua n uc] 30)) := ⟨H2.out.1.below hb3, H2.out.2.1.trans (hb3.mono H2.out.2.1.size), (hb3.block _ (ltOf H2.out.2.2.1)).trans H2.out.2.2.1, (hb3.block _ (ltOf H2.out.2.2.2)).trans H2.out.2.2.2⟩
  clear hb3 H2
  obtain ⟨p0, p1, f0, f1, pl⟩ := two_ofd H3.out.2.2.1
  obtain ⟨z0, zl⟩ := one_ofd H3.out.2.2.2
  by_cases hF : C = 0
  · obtain ⟨W, hW⟩ : ∃ W, W = (w3.setCell ⟨w.heap.size + 1, 0, none⟩ (.int .i64 0)).setCell ⟨w.heap.size + 1, 1, none⟩ (.slice ua n uc) := ⟨_, rfl⟩
    have HF : Hid (RoF W w.heap.size (.slice ua n uc) (aftS lays n) vs ∧ Below w.heap.size w W) := by
      have ho : ∀ q, w.heap.size + 2 ≤ q → W.heap[q]? = w3.heap[q]? := fun q hq => by
        rw [hW, heap_setCell_other _ _ _ _ (by simp; omega), heap_setCell_other _ _ _ _ (by simp; omega)]
      refine ⟨(H3.out.1.kept (fun q hq => ho q ?_) (fun i hi q hq => ho q ?_)).low (by omega), ?_⟩
      · exact (rowBlk H3.out.1.o hq).1
      · exact (rowBlk (H3.out.1.bx i hi) hq).1
      · rw [hW]; have := H3.out.2.1; (repeat' (first | (with_reducible exact Below.refl _ _) | (with_reducible assumption) | (with_reducible refine Below.setCell ?_ ?_ _) | (with_reducible refine Below.alloc ?_ ?_ _) | (with_reducible refine below_drewN ?_ _) | (with_reducible refine Below.drew ?_) | (with_reducible exact Nat.le_refl _) | omega | (simp; done) | (simp; omega)))
    have HWW : Hid _ := hW
    clear hW
    subst hF
    go_wp2
    rw [← HWW.out]
    refine bodyPost_ret (by rw [HWW.out]; simp [results, Try.results61, go_sem, p0, p1, pl]; try rfl) rfl ⟨_, rfl, ⟨vs, HF.out.1⟩, HF.out.2⟩
  · have hF' : (C == 0) = false := by simpa using hF
    have HB : Hid (Below w.heap.size w ((w3.setCell ⟨w.heap.size + 1, 0, none⟩ (.int .i64 C)).setCell ⟨w.heap.size + 1, 1, none⟩ (.slice none 0 0))) := by
      have := H3.out.2.1; unfold Hid; (repeat' (first | (with_reducible exact Below.refl _ _) | (with_reducible assumption) | (with_reducible refine Below.setCell ?_ ?_ _) | (with_reducible refine Below.alloc ?_ ?_ _) | (with_reducible refine below_drewN ?_ _) | (with_reducible refine Below.drew ?_) | (with_reducible exact Nat.le_refl _) | omega | (simp; done) | (simp; omega)))
    go_wp2
    refine bodyPost_ret (by simp [results, Try.results61, go_sem, p0, p1, pl]; try rfl) rfl ⟨_, rfl, ⟨[], by first | exact RoF.nil _ _ | (rw [if_neg hF]; exact RoF.nil _ _)⟩, HB.out⟩


end Go.Proofs.Ytceljakmjddgbab
