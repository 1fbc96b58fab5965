/- Proved here: MatterOf of the model. -/
import Derived.Test.YtceljakmjddgbaaScO
namespace Go.Proofs.Ytceljakmjddgbaa
open Go.RowKit
set_option linter.unusedVariables false
set_option linter.unusedSimpArgs false

set_option maxRecDepth 10000 in
set_option maxHeartbeats 6400000 in
theorem spec_matter {w : World} {v : Value} {s : List (List Flm)} (hn : SmF s) (h : RsF w v s) :
    Calls Try.prog 30 #[.agg #[v]] w fun e w' => ∃ u, e = .returned (.agg #[.int .i64 (secF s), u]) ∧ IS w' w.heap.size u (mtL s) ∧ Below w.heap.size w w' := by
  obtain ⟨a, c, rfl⟩ := h.form
  obtain ⟨n, hnn⟩ : ∃ n, n = s.length := ⟨_, rfl⟩
  obtain ⟨C, hC⟩ : ∃ C, C = secF s := ⟨_, rfl⟩
  rw [← hnn] at h ⊢
  rw [← hC]
  have HA : Hid (∀ W, Below w.heap.size w W → Calls Try.prog 23 #[.agg #[.slice a n c]] W fun e w' => e = .returned (.int .i64 C) ∧ Below W.heap.size W w') := fun W hW => by rw [hC]; exact spec_secF hn (h.below hW)
  have H : Hid (RsF w (.slice a n c) s ∧ C = secF s) := ⟨h, hC⟩
  clear h hnn hn hC
  go_enter Try.func30, Try.ntmps30
  go_wp2_with (fail)
  refine (HA.out _ (by (repeat' (first | (with_reducible exact Below.refl _ _) | (with_reducible assumption) | (with_reducible refine Below.setCell ?_ ?_ _) | (with_reducible refine Below.alloc ?_ ?_ _) | (with_reducible refine below_drewN ?_ _) | (with_reducible refine Below.drew ?_) | (with_reducible exact Nat.le_refl _) | omega | (simp; done) | (simp; omega))))).mono ?_
  rintro e w1 ⟨rfl, hb1⟩
  have k0 := (hb1.block w.heap.size (by simp; omega)).trans ((Below.heap_alloc _ _ _ (by simp)).trans (heap_alloc_new w _))
  have k1 := (hb1.block (w.heap.size + 1) (by simp)).trans (kn_at1' w _ _)
  have q0 : w1.cell? ⟨w.heap.size, 0, none⟩ = some (.slice a n c) := by simp [World.cell?, k0]
  have p0 : w1.cell? ⟨w.heap.size + 1, 0, none⟩ = some (.int .i64 0) := by simp [World.cell?, k1]
  have p1 : w1.cell? ⟨w.heap.size + 1, 1, none⟩ = some (.slice none 0 0) := by simp [World.cell?, k1]
  have f0 : w1.frozen? ⟨w.heap.size + 1, 0, none⟩ = false := by simp [World.frozen?, k1]
  have f1 : w1.frozen? ⟨w.heap.size + 1, 1, none⟩ = false := by simp [World.frozen?, k1]
  have q1 : w.heap.size + 1 < w1.heap.size := by have := hb1.size; simp at this; omega
  have HB : Hid (Below w.heap.size w w1) := (show Below w.heap.size w _ from by (repeat' (first | (with_reducible exact Below.refl _ _) | (with_reducible assumption) | (with_reducible refine Below.setCell ?_ ?_ _) | (with_reducible refine Below.alloc ?_ ?_ _) | (with_reducible refine below_drewN ?_ _) | (with_reducible refine Below.drew ?_) | (with_reducible exact Nat.le_refl _) | omega | (simp; done) | (simp; omega)))).trans (hb1.mono (by simp; omega))
  have q2 : w.heap.size < w1.heap.size := by omega
  clear hb1 k0 k1 HA
  by_cases hF : C = 0
  · have HC0 : Hid (secF s = 0) := H.out.2 ▸ hF
    have HM : Hid (Calls Try.prog 64 #[.agg #[.slice a n c]] w1 fun e w' => ∃ g, e = .returned (.slice (some ⟨g, 0, none⟩) 12 12) ∧ IS w' w1.heap.size (.slice (some ⟨g, 0, none⟩) 12 12) (mtL s) ∧ Below w1.heap.size w1 w') := by
      rw [mtL, if_pos HC0.out]; exact spec_mt (secF_zero.1 HC0.out).ws (H.out.1.below HB.out)
    subst hF
    go_wp2_with (fail)
    refine HM.out.mono ?_
    rintro e w2 ⟨g, rfl, hI, hb2⟩
    have r1 : w.heap.size + 1 < w2.heap.size := Nat.lt_of_lt_of_le q1 hb2.size
    have r2 : w2.cell? ⟨w.heap.size + 1, 0, none⟩ = some (.int .i64 0) := (hb2.cell (p := ⟨w.heap.size + 1, 0, none⟩) q1).trans p0
    have r3 : w2.cell? ⟨w.heap.size + 1, 1, none⟩ = some (.slice none 0 0) := (hb2.cell (p := ⟨w.heap.size + 1, 1, none⟩) q1).trans p1
    have r4 : w2.frozen? ⟨w.heap.size + 1, 0, none⟩ = false := (hb2.frozen (p := ⟨w.heap.size + 1, 0, none⟩) q1).trans f0
    have r5 : w2.frozen? ⟨w.heap.size + 1, 1, none⟩ = false := (hb2.frozen (p := ⟨w.heap.size + 1, 1, none⟩) q1).trans f1
    obtain ⟨W, hW⟩ : ∃ W, W = (w2.setCell ⟨w.heap.size + 1, 0, none⟩ (.int .i64 0)).setCell ⟨w.heap.size + 1, 1, none⟩ (.slice (some ⟨g, 0, none⟩) 12 12) := ⟨_, rfl⟩
    have HF : Hid (IS W w.heap.size (.slice (some ⟨g, 0, none⟩) 12 12) (mtL s) ∧ Below w.heap.size w W) := by
      refine ⟨rowLow (IS.kept (w' := W) hI (fun q hq => ?_)) (by omega), ?_⟩
      · have hq' := (World.ownsRow.lt hI q hq).1
        rw [hW, heap_setCell_other _ _ _ _ (by simp; omega), heap_setCell_other _ _ _ _ (by simp; omega)]
      · rw [hW]
        have := HB.out.trans (hb2.mono HB.out.size)
        (repeat' (first | (with_reducible exact Below.refl _ _) | (with_reducible assumption) | (with_reducible refine Below.setCell ?_ ?_ _) | (with_reducible refine Below.alloc ?_ ?_ _) | (with_reducible refine below_drewN ?_ _) | (with_reducible refine Below.drew ?_) | (with_reducible exact Nat.le_refl _) | omega | (simp; done) | (simp; omega)))
    have HWW : Hid _ := hW
    clear hI hb2 hW q0 q1 q2 p0 p1 f0 f1 HM
    go_wp2
    rw [← HWW.out]
    refine bodyPost_ret (by rw [HWW.out]; simp [results, Try.results30, go_sem, r1, r2, r3]; try rfl) rfl ⟨_, rfl, HF.out.1, HF.out.2⟩
  · have HL : Hid (mtL s = []) := by unfold Hid; rw [mtL, if_neg (H.out.2 ▸ hF)]
    have hF' : (C == 0) = false := by simpa using hF
    have HB2 : Hid (Below w.heap.size w ((w1.setCell ⟨w.heap.size + 1, 0, none⟩ (.int .i64 C)).setCell ⟨w.heap.size + 1, 1, none⟩ (.slice none 0 0))) := by
      have := HB.out; unfold Hid; (repeat' (first | (with_reducible exact Below.refl _ _) | (with_reducible assumption) | (with_reducible refine Below.setCell ?_ ?_ _) | (with_reducible refine Below.alloc ?_ ?_ _) | (with_reducible refine below_drewN ?_ _) | (with_reducible refine Below.drew ?_) | (with_reducible exact Nat.le_refl _) | omega | (simp; done) | (simp; omega)))
    go_wp2
    refine bodyPost_ret (by simp [results, Try.results30, go_sem, p0, p1, q1]; try rfl) rfl ⟨_, rfl, by rw [HL.out]; exact World.ownsRow_nil _ _ _ _, HB2.out⟩

end Go.Proofs.Ytceljakmjddgbaa
