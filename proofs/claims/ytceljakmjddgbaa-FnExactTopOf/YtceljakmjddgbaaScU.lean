/- Proved here: TopOf of the model. -/
import Derived.Test.YtceljakmjddgbaaScY
namespace Go.Proofs.Ytceljakmjddgbaa
open Go.RowKit
set_option linter.unusedVariables false
set_option linter.unusedSimpArgs false

theorem kn_at1' (w : World) (a b : Obj) : ((w.alloc a).alloc b).heap[w.heap.size + 1]? = some b := by have := heap_alloc_new (w.alloc a) b; simpa using this

set_option maxRecDepth 10000 in
set_option maxHeartbeats 6400000 in
theorem spec_topOf {w : World} {v : Value} {s : List (List Flm)} (i : Int) (hn : SmF s) (h : RsF w v s) :
    Calls Try.prog 27 #[.agg #[v], .int .i64 i] w fun e w' => e = .returned (.agg #[.int .i64 (toC s i), .int .i64 (toV s i)]) ∧ Below w.heap.size w w' := by
  obtain ⟨a, c, rfl⟩ := h.form
  obtain ⟨n, hnn⟩ : ∃ n, n = s.length := ⟨_, rfl⟩
  obtain ⟨C, hC⟩ : ∃ C, C = toC s i := ⟨_, rfl⟩
  obtain ⟨V, hV⟩ : ∃ V, V = toV s i := ⟨_, rfl⟩
  rw [← hnn] at h ⊢
  rw [← hC, ← hV]
  have hn' : n ≤ 1048576 := by rw [hnn]; exact hn.len
  obtain ⟨F, hF⟩ : ∃ F, F = secF s := ⟨_, rfl⟩
  have HA : Hid (∀ W, Below w.heap.size w W → Calls Try.prog 23 #[.agg #[.slice a n c]] W fun e w' => e = .returned (.int .i64 F) ∧ Below W.heap.size W w') := fun W hW => by rw [hF]; exact spec_secF hn (h.below hW)
  have H : Hid (RsF w (.slice a n c) s ∧ n = s.length ∧ C = toC s i ∧ V = toV s i ∧ C = if F = 0 then (if 0 ≤ i ∧ i < (n : Int) then 0 else 4) else F) := ⟨h, hnn, hC, hV, by rw [hC, toC, ← hF, ← hnn]⟩
  clear h hnn hn hC hV hF
  go_enter Try.func27, Try.ntmps27
  go_wp2_with (fail)
  refine (HA.out _ (by (repeat' (first | (with_reducible exact Below.refl _ _) | (with_reducible assumption) | (with_reducible refine Below.setCell ?_ ?_ _) | (with_reducible refine Below.alloc ?_ ?_ _) | (with_reducible refine below_drewN ?_ _) | (with_reducible refine Below.drew ?_) | (with_reducible exact Nat.le_refl _) | omega | (simp; done) | (simp; omega))))).mono ?_
  rintro e w1 ⟨rfl, hb1⟩
  have k0 := (hb1.block w.heap.size (by simp; omega)).trans ((Below.heap_alloc _ _ _ (by simp)).trans (heap_alloc_new w _))
  have k1 := (hb1.block (w.heap.size + 1) (by simp)).trans (kn_at1' w _ _)
  have q0 : w1.cell? ⟨w.heap.size, 0, none⟩ = some (.slice a n c) := by simp [World.cell?, k0]
  have p0 : w1.cell? ⟨w.heap.size + 1, 0, none⟩ = some (.int .i64 0) := by simp [World.cell?, k1]
  have p1 : w1.cell? ⟨w.heap.size + 1, 1, none⟩ = some (.int .i64 0) := by simp [World.cell?, k1]
  have f0 : w1.frozen? ⟨w.heap.size + 1, 0, none⟩ = false := by simp [World.frozen?, k1]
  have f1 : w1.frozen? ⟨w.heap.size + 1, 1, none⟩ = false := by simp [World.frozen?, k1]
  have q1 : w.heap.size + 1 < w1.heap.size := by have := hb1.size; simp at this; omega
  have HB : Hid (Below w.heap.size w w1) := (show Below w.heap.size w _ from by (repeat' (first | (with_reducible exact Below.refl _ _) | (with_reducible assumption) | (with_reducible refine Below.setCell ?_ ?_ _) | (with_reducible refine Below.alloc ?_ ?_ _) | (with_reducible refine below_drewN ?_ _) | (with_reducible refine Below.drew ?_) | (with_reducible exact Nat.le_refl _) | omega | (simp; done) | (simp; omega)))).trans (hb1.mono (by simp; omega))
  have q2 : w.heap.size < w1.heap.size := by omega
  clear hb1 k0 k1 HA
  have ans : ∀ D : Int, Below w.heap.size w ((w1.setCell ⟨w.heap.size + 1, 0, none⟩ (.int .i64 D)).setCell ⟨w.heap.size + 1, 1, none⟩ (.int .i64 0)) := fun D => by
    have := HB.out; (repeat' (first | (with_reducible exact Below.refl _ _) | (with_reducible assumption) | (with_reducible refine Below.setCell ?_ ?_ _) | (with_reducible refine Below.alloc ?_ ?_ _) | (with_reducible refine below_drewN ?_ _) | (with_reducible refine Below.drew ?_) | (with_reducible exact Nat.le_refl _) | omega | (simp; done) | (simp; omega)))
  have ANS : Hid (∀ D : Int, Below w.heap.size w ((w1.setCell ⟨w.heap.size + 1, 0, none⟩ (.int .i64 D)).setCell ⟨w.heap.size + 1, 1, none⟩ (.int .i64 0))) := ans
  clear ans
  by_cases hF : F = 0
  · have HC : Hid (C = if 0 ≤ i ∧ i < (n : Int) then 0 else 4) := by unfold Hid; rw [H.out.2.2.2.2, if_pos hF]
    subst hF
    go_wp2_with (fail)
    refine (spec_column i hn').mono ?_
    rintro e w3 ⟨rfl, hb3⟩
    have r0 : w3.cell? ⟨w.heap.size, 0, none⟩ = some (.slice a n c) := (hb3.cell (p := ⟨w.heap.size, 0, none⟩) q2).trans q0
    have p0' : w3.cell? ⟨w.heap.size + 1, 0, none⟩ = some (.int .i64 0) := (hb3.cell (p := ⟨w.heap.size + 1, 0, none⟩) q1).trans p0
    have p1' : w3.cell? ⟨w.heap.size + 1, 1, none⟩ = some (.int .i64 0) := (hb3.cell (p := ⟨w.heap.size + 1, 1, none⟩) q1).trans p1
    have f0' : w3.frozen? ⟨w.heap.size + 1, 0, none⟩ = false := (hb3.frozen (p := ⟨w.heap.size + 1, 0, none⟩) q1).trans f0
    have f1' : w3.frozen? ⟨w.heap.size + 1, 1, none⟩ = false := (hb3.frozen (p := ⟨w.heap.size + 1, 1, none⟩) q1).trans f1
    have q1' : w.heap.size + 1 < w3.heap.size := Nat.lt_of_lt_of_le q1 hb3.size
    have q2' : w.heap.size < w3.heap.size := by omega
    have HB3 : Hid (Below w.heap.size w w3) := HB.out.trans (hb3.mono HB.out.size)
    have hans : ∀ D E : Int, Below w.heap.size w ((w3.setCell ⟨w.heap.size + 1, 0, none⟩ (.int .i64 D)).setCell ⟨w.heap.size + 1, 1, none⟩ (.int .i64 E)) := fun D E => by
      have := HB3.out; (repeat' (first | (with_reducible exact Below.refl _ _) | (with_reducible assumption) | (with_reducible refine Below.setCell ?_ ?_ _) | (with_reducible refine Below.alloc ?_ ?_ _) | (with_reducible refine below_drewN ?_ _) | (with_reducible refine Below.drew ?_) | (with_reducible exact Nat.le_refl _) | omega | (simp; done) | (simp; omega)))
    have ANS3 : Hid (∀ D E : Int, Below w.heap.size w ((w3.setCell ⟨w.heap.size + 1, 0, none⟩ (.int .i64 D)).setCell ⟨w.heap.size + 1, 1, none⟩ (.int .i64 E))) := hans
    clear hans hb3 p0 p1 f0 f1 q0 q1 q2 ANS
    by_cases hin : 0 ≤ i ∧ i < (n : Int)
    · have hC0 : C = 0 := by rw [HC.out, if_pos hin]
      rw [decide_eq_true hin]
      obtain ⟨hg, hi0, hi1⟩ := toC_ok (H.out.2.2.1 ▸ hC0)
      obtain ⟨k, rfl⟩ : ∃ k : Nat, i = (k : Int) := ⟨i.toNat, by omega⟩
      have hk : k < n := by have := H.out.2.1; omega
      have hgc := hg.col k (by rw [← H.out.2.1]; exact hk)
      have HGC : Hid (GC (s.getD k [])) := hgc
      have HV : Hid (V = topC (s.getD k [])) := by unfold Hid; rw [H.out.2.2.2.1, toV, if_pos (H.out.2.2.1 ▸ hC0)]; simp
      have HC0 : Hid (C = 0) := hC0
      clear hC0 hg hi1 hin hgc hi0
      have b0 : (0 : Int) ≤ (k : Int) := by omega
      have b1 : (k : Int) < (n : Int) := by omega
      obtain ⟨g, o, ua, un, uc, rfl, hgl, c0, hun, hrd⟩ := (H.out.1.below HB3.out).at hk
      obtain ⟨T, hT⟩ : ∃ T, T = topC (s.getD k []) := ⟨_, rfl⟩
      rw [← hT] at HV
      have HT : Hid (Calls Try.prog 57 #[.slice ua un uc] w3 fun e w' => e = .returned (.int .i64 T) ∧ w' = w3) := by
        rw [hT]; exact spec_top HGC.out.len (fun j hj => by have := HGC.out.t hj; omega) hrd
      clear hT hun hrd
      go_wp2_with (fail)
      refine HT.out.mono ?_
      rintro e w4 ⟨rfl, rfl⟩
      clear HT c0 hgl
      go_wp2
      refine bodyPost_ret (by simp [results, Try.results27, go_sem, p0', p1', q1']; try rfl) rfl ⟨by rw [HC0.out, HV.out] <;> rfl, ANS3.out _ _⟩
    · have HC4 : Hid (C = 4 ∧ V = 0) := by
        have h4 : C = 4 := by rw [HC.out, if_neg hin]
        exact ⟨h4, by rw [H.out.2.2.2.1, toV, if_neg (by rw [← H.out.2.2.1, h4]; decide)]⟩
      rw [decide_eq_false hin]
      clear hin
      go_wp2
      refine bodyPost_ret (by simp [results, Try.results27, go_sem, p0', p1', q1']; try rfl) rfl ⟨by rw [HC4.out.1, HC4.out.2] <;> rfl, ANS3.out _ _⟩
  · have HCF : Hid (C = F ∧ V = 0) := by
      have h4 : C = F := by rw [H.out.2.2.2.2, if_neg hF]
      exact ⟨h4, by rw [H.out.2.2.2.1, toV, if_neg (by rw [← H.out.2.2.1, h4]; exact hF)]⟩
    have hF' : (F == 0) = false := by simpa using hF
    go_wp2
    refine bodyPost_ret (by simp [results, Try.results27, go_sem, p0, p1, q1]; try rfl) rfl ⟨by rw [HCF.out.1, HCF.out.2] <;> rfl, ANS.out _⟩

end Go.Proofs.Ytceljakmjddgbaa
