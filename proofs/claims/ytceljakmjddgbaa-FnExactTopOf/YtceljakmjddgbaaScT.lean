/- Proved here: TopOf of the program. -/
import Derived.Test.YtceljakmjddgbaaScQ
namespace Go.Proofs.Ytceljakmjddgbaa
open Go.RowKit
set_option linter.unusedVariables false
set_option linter.unusedSimpArgs false

theorem kn_at1' (w : World) (a b : Obj) : ((w.alloc a).alloc b).heap[w.heap.size + 1]? = some b := by have := heap_alloc_new (w.alloc a) b; simpa using this

set_option maxRecDepth 10000 in
set_option maxHeartbeats 6400000 in
theorem impl_topOf {w : World} {v : Value} {s : List (List Flm)} (i : Int) (hn : SmF s) (h : RsF w v s) :
    Calls Try.prog 28 #[.agg #[v], .int .i64 i] w fun e w' => e = .returned (.agg #[.int .i64 (toC s i), .int .i64 (toV s i)]) ∧ Below w.heap.size w w' := by
  obtain ⟨a, c, rfl⟩ := h.form
  obtain ⟨n, hnn⟩ : ∃ n, n = s.length := ⟨_, rfl⟩
  obtain ⟨C, hC⟩ : ∃ C, C = toC s i := ⟨_, rfl⟩
  obtain ⟨V, hV⟩ : ∃ V, V = toV s i := ⟨_, rfl⟩
  rw [← hnn] at h ⊢
  rw [← hC, ← hV]
  have hn' : n ≤ 1048576 := by rw [hnn]; exact hn.len
  have HA : Hid (∀ W, Below w.heap.size w W → Calls Try.prog 62 #[.agg #[.slice a n c], .int .i64 i] W fun e w' => e = .returned (.int .i64 C) ∧ Below W.heap.size W w') := fun W hW => by rw [hC]; exact impl_ask i hn (h.below hW)
  have H : Hid (RsF w (.slice a n c) s ∧ n = s.length ∧ C = toC s i ∧ V = toV s i) := ⟨h, hnn, hC, hV⟩
  clear h hnn hn hC hV
  go_enter Try.func28, Try.ntmps28
  go_wp2_with (fail)
  refine (HA.out _ (by (repeat' (first | (with_reducible exact Below.refl _ _) | (with_reducible assumption) | (with_reducible refine Below.setCell ?_ ?_ _) | (with_reducible refine Below.alloc ?_ ?_ _) | (with_reducible refine below_drewN ?_ _) | (with_reducible refine Below.drew ?_) | (with_reducible exact Nat.le_refl _) | omega | (simp; done) | (simp; omega))))).mono ?_
  rintro e w1 ⟨rfl, hb1⟩
  have k0 := (hb1.block w.heap.size (by simp; omega)).trans ((Below.heap_alloc _ _ _ (by simp)).trans (heap_alloc_new w _))
  have k1 := (hb1.block (w.heap.size + 1) (by simp)).trans (kn_at1' w _ _)
  have q0 : w1.cell? ⟨w.heap.size, 0, none⟩ = some (.slice a n c) := by simp [World.cell?, k0]
  have p0 : w1.cell? ⟨w.heap.size + 1, 0, none⟩ = some (.int .i64 0) := by simp [World.cell?, k1]
  have p1 : w1.cell? ⟨w.heap.size + 1, 1, none⟩ = some (.int .i64 0) := by simp [World.cell?, k1]
  have f0 : w1.frozen? ⟨w.heap.size + 1, 0, none⟩ = false := by simp [World.frozen?, k1]
  have f1 : w1.frozen? ⟨w.heap.size + 1, 1, none⟩ = false := by simp [World.frozen?, k1]
  have q1 : w.heap.size + 1 < w1.heap.size := by have := hb1.size; simp at this; omega
  have HB : Hid (Below w.heap.size w w1) := (show Below w.heap.size w _ from by (repeat' (first | (with_reducible exact Below.refl _ _) | (with_reducible assumption) | (with_reducible refine Below.setCell ?_ ?_ _) | (with_reducible refine Below.alloc ?_ ?_ _) | (with_reducible refine below_drewN ?_ _) | (with_reducible refine Below.drew ?_) | (with_reducible exact Nat.le_refl _) | omega | (simp; done) | (simp; omega)))).trans (hb1.mono (by simp; omega))
  have q2 : w.heap.size < w1.heap.size := by omega
  clear hb1 k0 k1 HA
  by_cases hF : C = 0
  · obtain ⟨hg, hi0, hi1⟩ := toC_ok (H.out.2.2.1 ▸ hF)
    obtain ⟨k, rfl⟩ : ∃ k : Nat, i = (k : Int) := ⟨i.toNat, by omega⟩
    have hk : k < n := by have := H.out.2.1; omega
    obtain ⟨g, o, ua, un, uc, rfl, hgl, c0, hun, hrd⟩ := (H.out.1.below HB.out).at hk
    have hgc := hg.col k (by rw [← H.out.2.1]; exact hk)
    have HV : Hid (V = topC (s.getD k [])) := by unfold Hid; rw [H.out.2.2.2, toV, if_pos (H.out.2.2.1 ▸ hF)]; simp
    obtain ⟨T, hT⟩ : ∃ T, T = topC (s.getD k []) := ⟨_, rfl⟩
    rw [← hT] at HV
    have HT : Hid (Calls Try.prog 63 #[.slice ua un uc] w1 fun e w' => e = .returned (.int .i64 T) ∧ Below w1.heap.size w1 w') := by
      rw [hT]; exact impl_thick hgc.len (fun j hj => by have := hgc.t hj; omega) hrd
    clear hT hun hrd hgc hg hi1
    have b1 : (k : Int) < (n : Int) := by omega
    subst hF
    go_wp2_with (fail)
    refine HT.out.mono ?_
    rintro e w2 ⟨rfl, hb2⟩
    have p0' : w2.cell? ⟨w.heap.size + 1, 0, none⟩ = some (.int .i64 0) := (hb2.cell (p := ⟨w.heap.size + 1, 0, none⟩) q1).trans p0
    have p1' : w2.cell? ⟨w.heap.size + 1, 1, none⟩ = some (.int .i64 0) := (hb2.cell (p := ⟨w.heap.size + 1, 1, none⟩) q1).trans p1
    have f0' : w2.frozen? ⟨w.heap.size + 1, 0, none⟩ = false := (hb2.frozen (p := ⟨w.heap.size + 1, 0, none⟩) q1).trans f0
    have f1' : w2.frozen? ⟨w.heap.size + 1, 1, none⟩ = false := (hb2.frozen (p := ⟨w.heap.size + 1, 1, none⟩) q1).trans f1
    have q1' : w.heap.size + 1 < w2.heap.size := Nat.lt_of_lt_of_le q1 hb2.size
    have HB2 : Hid (Below w.heap.size w ((w2.setCell ⟨w.heap.size + 1, 0, none⟩ (.int .i64 0)).setCell ⟨w.heap.size + 1, 1, none⟩ (.int .i64 T))) := by
      have := HB.out.trans (hb2.mono HB.out.size); unfold Hid; (repeat' (first | (with_reducible exact Below.refl _ _) | (with_reducible assumption) | (with_reducible refine Below.setCell ?_ ?_ _) | (with_reducible refine Below.alloc ?_ ?_ _) | (with_reducible refine below_drewN ?_ _) | (with_reducible refine Below.drew ?_) | (with_reducible exact Nat.le_refl _) | omega | (simp; done) | (simp; omega)))
    clear hb2 p0 p1 f0 f1 q0 q1 q2 c0 HT
    go_wp2
    refine bodyPost_ret (by simp [results, Try.results28, go_sem, p0', p1', q1']; try rfl) rfl ⟨by rw [HV.out] <;> rfl, HB2.out⟩
  · have HV : Hid (V = 0) := by unfold Hid; rw [H.out.2.2.2, toV, if_neg (H.out.2.2.1 ▸ hF)]
    have hF' : (C == 0) = false := by simpa using hF
    have HB2 : Hid (Below w.heap.size w ((w1.setCell ⟨w.heap.size + 1, 0, none⟩ (.int .i64 C)).setCell ⟨w.heap.size + 1, 1, none⟩ (.int .i64 0))) := by
      have := HB.out; unfold Hid; (repeat' (first | (with_reducible exact Below.refl _ _) | (with_reducible assumption) | (with_reducible refine Below.setCell ?_ ?_ _) | (with_reducible refine Below.alloc ?_ ?_ _) | (with_reducible refine below_drewN ?_ _) | (with_reducible refine Below.drew ?_) | (with_reducible exact Nat.le_refl _) | omega | (simp; done) | (simp; omega)))
    go_wp2
    refine bodyPost_ret (by simp [results, Try.results28, go_sem, p0, p1, q1]; try rfl) rfl ⟨by rw [HV.out] <;> rfl, HB2.out⟩

end Go.Proofs.Ytceljakmjddgbaa
