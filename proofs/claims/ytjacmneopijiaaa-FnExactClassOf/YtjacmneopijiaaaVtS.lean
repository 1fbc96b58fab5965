/- Proved here: l15Class of the model: the place of the first class that fits, or -1. -/
import Derived.Test.YtjacmneopijiaaaVtM
import Derived.Test.YtjacmneopijiaaaInS
import Derived.Test.YtjacmneopijiaaaLwS
import Derived.Deep.DeepCutAuto
namespace Go.Proofs.Ytjacmneopijiaaa
open Go.RowKit
set_option linter.unusedVariables false
set_option linter.unusedSimpArgs false

/-- None of the first j classes fits. -/
def Vnf (d : Dft) (cs : List Cls) (j : Nat) : Prop := ∀ q (hq : q < cs.length), q < j → vfit d cs[q] = false
theorem Vnf.here {d : Dft} {cs : List Cls} {j : Nat} (h : Vnf d cs j) (hj : j < cs.length) (hy : vfit d cs[j] = true) : vff d cs = j := by
  unfold vff
  rw [List.findIdx_eq hj]
  exact ⟨hy, fun q hq => h q (by omega) hq⟩
theorem Vnf.succ {d : Dft} {cs : List Cls} {j : Nat} (h : Vnf d cs j) (hj : j < cs.length) (hy : vfit d cs[j] = false) : Vnf d cs (j + 1) := by
  intro q hq h1
  rcases Nat.lt_or_ge q j with h2 | h2
  · exact h q hq h2
  · obtain rfl : q = j := by omega
    exact hy
theorem Vnf.none {d : Dft} {cs : List Cls} {j : Nat} (h : Vnf d cs j) (hj : cs.length ≤ j) : vff d cs = cs.length := by
  unfold vff
  rw [List.findIdx_eq_length]
  intro c hc
  obtain ⟨q, hq, rfl⟩ := List.getElem_of_mem hc
  exact h q hq (by omega)
def vcl (d : Dft) (cs : List Cls) : Int := if vff d cs < cs.length then (vff d cs : Int) else -1
theorem vfit_of {d : Dft} {c : Cls} (h : c.k = -1 ∨ c.k = d.k) : vfit d c = vsz d c := by
  unfold vfit
  rcases h with h | h <;> simp [h]
theorem vfit_no {d : Dft} {c : Cls} (h1 : ¬ c.k = -1) (h2 : ¬ c.k = d.k) : vfit d c = false := by
  unfold vfit
  simp [h1, h2]
set_option maxRecDepth 10000 in
set_option maxHeartbeats 6400000 in
theorem spec_cl {W : World} {v : Value} {cs : List Cls} (d : Dft) (hn : cs.length ≤ 20) (h : RG 6 vcC W v cs) :
    Calls Try.prog 43 #[.agg #[.int .i64 d.x, .int .i64 d.y, .int .i64 d.z, .int .i64 d.k], v] W fun e w' => e = .returned (.int .i64 (vcl d cs)) ∧ Below W.heap.size W w' := by
  obtain ⟨a, c, rfl⟩ := h.form
  obtain ⟨n, hnn⟩ : ∃ n, n = cs.length := ⟨_, rfl⟩
  obtain ⟨R, hR⟩ : ∃ R, R = vcl d cs := ⟨_, rfl⟩
  rw [← hnn] at h hn ⊢
  rw [← hR]
  have H : Hid (RG 6 vcC W (.slice a n c) cs ∧ n = cs.length ∧ R = vcl d cs) := ⟨h, hnn, hR⟩
  clear h hnn hR
  obtain ⟨V0, hV0⟩ : ∃ V, V = W.alloc (.cells #[.int .i64 d.x, .int .i64 d.y, .int .i64 d.z, .int .i64 d.k] 41) := ⟨_, rfl⟩
  obtain ⟨k0, hk0⟩ : ∃ k, k = W.heap.size := ⟨_, rfl⟩
  have HQ : Hid (V0.heap[k0]? = some (.cells #[.int .i64 d.x, .int .i64 d.y, .int .i64 d.z, .int .i64 d.k] 41) ∧ Below W.heap.size W V0 ∧ k0 < V0.heap.size) := by
    rw [hV0, hk0]; exact ⟨heap_alloc_new W _, by (repeat' (first | (with_reducible exact Below.refl _ _) | (with_reducible assumption) | (with_reducible refine Below.setCell ?_ ?_ _) | (with_reducible refine Below.alloc ?_ ?_ _) | (with_reducible refine below_drewN ?_ _) | (with_reducible refine Below.drew ?_) | (with_reducible exact Nat.le_refl _) | omega | (simp; done) | (simp; omega))), by simp⟩
  have HV0 : Hid (V0 = W.alloc (.cells #[.int .i64 d.x, .int .i64 d.y, .int .i64 d.z, .int .i64 d.k] 41)) := hV0
  have HK0 : Hid (k0 = W.heap.size) := hk0
  clear hV0 hk0
  go_enter Try.func43, Try.ntmps43
  go_wp2
  rw [← HV0.out, ← HK0.out]
  clear HV0 HK0
  go_loopw [5] (fun i wr => ∃ j : Nat, j ≤ n ∧ i = .int .i64 j ∧ Hid (Vnf d cs j ∧ Below V0.heap.size V0 wr)) (fun i _ => n - (intOf i).toNat)
  case atStart => exact ⟨0, Nat.zero_le _, rfl, fun q hq h9 => absurd h9 (by omega), Below.refl _ _⟩
  case round =>
    obtain ⟨j, hj, rfl, hR⟩ := hrel
    have HBW : Hid (Below W.heap.size W wr) := HQ.out.2.1.trans (hR.out.2.mono HQ.out.2.1.size)
    by_cases hlt : j < n
    · have hjl : j < cs.length := by rw [← H.out.2.1]; exact hlt
      have q1 := (hR.out.2.block k0 HQ.out.2.2).trans HQ.out.1
      obtain ⟨g, o, c2, he, hg, hjc⟩ := (H.out.1.below HBW.out).pos (by omega)
      simp only [Value.slice.injEq] at he
      obtain ⟨rfl, hx1, hx2⟩ := he
      clear hx1 hx2
      obtain ⟨c0, c1, c2', c3, c4, c5⟩ := vcC_at (hjc j hjl)
      obtain ⟨m, hm⟩ : ∃ m, m = cs[j] := ⟨_, rfl⟩
      rw [← hm] at c0 c1 c2' c3 c4 c5
      obtain ⟨r5, e5⟩ : ∃ r, r = vsz d m := ⟨_, rfl⟩
      have HN : Hid ((vfit d m = true → R = j) ∧ (vfit d m = false → Vnf d cs (j + 1)) ∧ (m.k = -1 ∨ m.k = d.k → vfit d m = r5) ∧ (¬ m.k = -1 → ¬ m.k = d.k → vfit d m = false)) := by
        refine ⟨fun h5 => ?_, fun h5 => ?_, fun h5 => by rw [e5]; exact vfit_of h5, vfit_no⟩
        · rw [hm] at h5
          have h9 := hR.out.1.here hjl h5
          rw [H.out.2.2]; unfold vcl; rw [h9, if_pos hjl]
        · rw [hm] at h5
          exact hR.out.1.succ hjl h5
      have HI : Hid (∀ X, Calls Try.prog 35 #[.int .i64 d.z, .int .i64 m.lo, .int .i64 m.hi] X fun e w' => e = .returned (.bool r5) ∧ w' = X) := fun X => by rw [e5]; exact spec_in10 _ _ _ X
      have HBX : Hid (Below V0.heap.size V0 wr) := hR.out.2
      clear hjc hm e5 hR
      obtain ⟨k, lo, hi, nm, qn, qd⟩ := m
      simp only at c0 c1 c2' c3 c4 c5
      have p2 : wr.cell? ⟨k0, 2, none⟩ = some (.int .i64 d.z) := cellOf q1 2 rfl
      have p3 : wr.cell? ⟨k0, 3, none⟩ = some (.int .i64 d.k) := cellOf q1 3 rfl
      have l1 : k0 < wr.heap.size := ltOf q1
      clear q1
      have b0 : (0 : Int) ≤ (j : Int) := by omega
      have b1 : (j : Int) < (n : Int) := by omega
      have HAL : Hid (Below wr.heap.size wr (wr.alloc (.cells #[.int .i64 k, .int .i64 lo, .int .i64 hi, .int .i64 nm, .int .i64 qn, .int .i64 qd] 66))) := by unfold Hid; (repeat' (first | (with_reducible exact Below.refl _ _) | (with_reducible assumption) | (with_reducible refine Below.setCell ?_ ?_ _) | (with_reducible refine Below.alloc ?_ ?_ _) | (with_reducible refine below_drewN ?_ _) | (with_reducible refine Below.drew ?_) | (with_reducible exact Nat.le_refl _) | omega | (simp; done) | (simp; omega)))
      have HF : Hid (Below W.heap.size W (wr.alloc (.cells #[.int .i64 k, .int .i64 lo, .int .i64 hi, .int .i64 nm, .int .i64 qn, .int .i64 qd] 66)) ∧ Below V0.heap.size V0 (wr.alloc (.cells #[.int .i64 k, .int .i64 lo, .int .i64 hi, .int .i64 nm, .int .i64 qn, .int .i64 qd] 66))) := ⟨HBW.out.trans (HAL.out.mono HBW.out.size), HBX.out.trans (HAL.out.mono HBX.out.size)⟩
      clear HAL HBW HBX
      have fin : True := trivial
      by_cases h1 : k = -1
      · have HS : Hid (vfit d ⟨k, lo, hi, nm, ⟨qn, qd⟩⟩ = r5) := HN.out.2.2.1 (Or.inl h1)
        have h2 : (k == -1) = true := by simp [h1]
        clear h1
        go_wp2_with (fail)
        refine (HI.out _).mono ?_
        rintro e w9 ⟨rfl, rfl⟩
        cases r5 with
        | true =>
          have HRJ : Hid (R = j) := HN.out.1 HS.out
          clear HN HS HI
          go_wp2
          go_returns
          exact ⟨by rw [HRJ.out]; rfl, HF.out.1⟩
        | false =>
          have HV : Hid (Vnf d cs (j + 1)) := HN.out.2.1 HS.out
          clear HN HS HI
          go_wp2
          go_roundw
          case rel => exact ⟨j + 1, by omega, by go_num, HV.out, HF.out.2⟩
          case measure => simp [intOf]; omega
      · have h2 : (k == -1) = false := by simp [h1]
        by_cases h3 : k = d.k
        · have HS : Hid (vfit d ⟨k, lo, hi, nm, ⟨qn, qd⟩⟩ = r5) := HN.out.2.2.1 (Or.inr h3)
          have h4 : (k == d.k) = true := by simp [h3]
          clear h1 h3
          go_wp2_with (fail)
          refine (HI.out _).mono ?_
          rintro e w9 ⟨rfl, rfl⟩
          cases r5 with
          | true =>
            have HRJ : Hid (R = j) := HN.out.1 HS.out
            clear HN HS HI
            go_wp2
            go_returns
            exact ⟨by rw [HRJ.out]; rfl, HF.out.1⟩
          | false =>
            have HV : Hid (Vnf d cs (j + 1)) := HN.out.2.1 HS.out
            clear HN HS HI
            go_wp2
            go_roundw
            case rel => exact ⟨j + 1, by omega, by go_num, HV.out, HF.out.2⟩
            case measure => simp [intOf]; omega
        · have HV : Hid (Vnf d cs (j + 1)) := HN.out.2.1 (HN.out.2.2.2 h1 h3)
          have h4 : (k == d.k) = false := by simp [h3]
          clear HN HI h1 h3
          go_wp2
          go_roundw
          case rel => exact ⟨j + 1, by omega, by go_num, HV.out, HF.out.2⟩
          case measure => simp [intOf]; omega
    · have HE : Hid (R = -1) := by unfold Hid; rw [H.out.2.2]; unfold vcl; rw [hR.out.1.none (by rw [← H.out.2.1]; omega), if_neg (by omega)]
      clear hR
      go_wp2
      go_returns
      exact ⟨by rw [HE.out]; rfl, HBW.out⟩

end Go.Proofs.Ytjacmneopijiaaa
