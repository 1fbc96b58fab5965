/- Proved here: SumOf of the program. -/
import Derived.Test.YteoddodeppgjaaaGfI
import Derived.Test.YteoddodeppgjaaaGtB
namespace Go.Proofs.Yteoddodeppgjaaa
open Go.RowKit
set_option linter.unusedVariables false
set_option linter.unusedSimpArgs false

set_option maxRecDepth 10000 in
set_option maxHeartbeats 6400000 in
theorem impl_su {w : World} {v : Value} {ls : List (List Int)} (hn : SmR ls) (h : RdR w v ls) :
    Calls Try.prog 15 #[v] w fun e w' => e = .returned (.agg #[.int .i64 (gfC ls 1000000), .int .i64 (suV ls)]) ∧ Below w.heap.size w w' := by
  obtain ⟨a, c, rfl⟩ := h.form
  obtain ⟨n, hnn⟩ : ∃ n, n = ls.length := ⟨_, rfl⟩
  obtain ⟨C, hC⟩ : ∃ C, C = gfC ls 1000000 := ⟨_, rfl⟩
  obtain ⟨V, hV⟩ : ∃ V, V = suV ls := ⟨_, rfl⟩
  rw [← hnn] at h ⊢
  rw [← hC, ← hV]
  have HF : Hid (∀ W, Below w.heap.size w W → Calls Try.prog 12 #[.slice a n c] W fun e w' => e = .returned (.int .i64 C) ∧ w' = W) := fun W hW => by rw [hC]; exact impl_gf hn (h.below hW)
  have H : Hid (RdR w (.slice a n c) ls ∧ n = ls.length ∧ C = gfC ls 1000000 ∧ V = (if C = 0 then totV ls ls.length else 0)) := ⟨h, hnn, hC, by rw [hV, hC]; rfl⟩
  clear h hn hC hV hnn
  have k2 := heap_alloc_new w (.cells #[.int .i64 0, .int .i64 0] 29)
  obtain ⟨q0, q1, qf0, qf1, ql⟩ := two_of k2
  have HB : Hid (Below w.heap.size w (w.alloc (.cells #[.int .i64 0, .int .i64 0] 29))) := by unfold Hid; (repeat' (first | (with_reducible exact Below.refl _ _) | (with_reducible assumption) | (with_reducible refine Below.setCell ?_ ?_ _) | (with_reducible refine Below.alloc ?_ ?_ _) | (with_reducible refine below_drewN ?_ _) | (with_reducible refine Below.drew ?_) | (with_reducible exact Nat.le_refl _) | omega | (simp; done) | (simp; omega)))
  clear k2
  go_enter Try.func15, Try.ntmps15
  go_wp2_with (fail)
  refine (HF.out _ HB.out).mono ?_
  rintro e w1 ⟨rfl, rfl⟩
  clear HF
  by_cases hA0 : C = 0
  case neg =>
    have HV : Hid (V = 0) := by unfold Hid; rw [H.out.2.2.2, if_neg hA0]
    have hA1 : (C != 0) = true := by simpa using hA0
    go_wp2
    try simp only [Exit.inBlock, Exit.then]
    refine bodyPost_ret (by simp [results, Try.results15, go_sem, q0, q1]; try rfl) rfl ⟨by rw [HV.out], ?_⟩
    have hB := HB.out
    (repeat' (first | (with_reducible exact Below.refl _ _) | (with_reducible assumption) | (with_reducible refine Below.setCell ?_ ?_ _) | (with_reducible refine Below.alloc ?_ ?_ _) | (with_reducible refine below_drewN ?_ _) | (with_reducible refine Below.drew ?_) | (with_reducible exact Nat.le_refl _) | omega | (simp; done) | (simp; omega)))
  have HG : Hid (GG 1000000 ls ∧ V = totV ls n) := ⟨gfC_good (H.out.2.2.1.symm.trans hA0), by rw [H.out.2.2.2, if_pos hA0, H.out.2.1]⟩
  have hn16 : n ≤ 16 := by rw [H.out.2.1]; exact HG.out.1.h1
  have H2 : Hid (RdR (w.alloc (.cells #[.int .i64 0, .int .i64 0] 29)) (.slice a n c) ls ∧ n = ls.length) := ⟨H.out.1.below HB.out, H.out.2.1⟩
  clear H
  subst hA0
  obtain ⟨W0, hW0⟩ : ∃ W, W = w.alloc (.cells #[.int .i64 0, .int .i64 0] 29) := ⟨_, rfl⟩
  rw [← hW0] at HB H2 q0 q1 qf0 qf1 ql ⊢
  clear hW0
  go_wp2
  go_loopw [4, 17] (fun q i wr => ∃ (k : Nat) (z : Int), k ≤ n ∧ i = .int .i64 k ∧ q = .int .i64 z ∧ wr = W0 ∧ Hid (z = totV ls k)) (fun _ i _ => n - (intOf i).toNat)
  case atStart => exact ⟨0, 0, Nat.zero_le _, rfl, rfl, rfl, rfl⟩
  case round =>
    obtain ⟨k, z, hk, rfl, rfl, rfl, hR⟩ := hrel
    by_cases hlt : k < n
    · obtain ⟨g, o, ua, un, uc, rfl, hg, c0, hun, hrd⟩ := H2.out.1.at hlt
      have hw := HG.out.1.rowp' (show k < ls.length by rw [← H2.out.2]; exact hlt)
      rw [← hun] at hw
      obtain ⟨row, hrow⟩ : ∃ row, row = ls.getD k [] := ⟨_, rfl⟩
      rw [← hrow] at hun hrd
      have HD : Hid (RdI wr (.slice ua un uc) row ∧ un = row.length ∧ row = ls.getD k []) := ⟨hrd, hun, hrow⟩
      have hbt := totV_bd HG.out.1 (show k ≤ ls.length by rw [← H2.out.2]; omega)
      rw [← hR.out] at hbt
      have HZ : Hid (z = totV ls k ∧ 0 ≤ z ∧ z ≤ 300000000) := ⟨hR.out, hbt.1, by omega⟩
      clear hun hrd hrow hR hbt
      have b0 : (0 : Int) ≤ (k : Int) := by omega
      have b1 : (k : Int) < (n : Int) := by omega
      go_wp2
      obtain ⟨wy, hwy⟩ : ∃ x, x = wr := ⟨_, rfl⟩
      subst hwy
      go_loopw [4, 23] (fun q i wr => ∃ (m : Nat) (y : Int), m ≤ un ∧ i = .int .i64 m ∧ q = .int .i64 y ∧ wr = wy ∧ Hid (y = z + sumI row m)) (fun _ i _ => un - (intOf i).toNat)
      case atStart => exact ⟨0, z, Nat.zero_le _, rfl, rfl, rfl, by unfold Hid; simp [sumI]⟩
      case round =>
        obtain ⟨m, y, hm, rfl, rfl, rfl, hR2⟩ := hrel
        by_cases hlt2 : m < un
        · obtain ⟨g2, o2, rfl, hg2, d0⟩ := rd_at HD.out.1 hlt2
          obtain ⟨x, hx⟩ : ∃ x, x = row.getD m 0 := ⟨_, rfl⟩
          rw [← hx] at d0
          have hxb := HG.out.1.at k m
          rw [← HD.out.2.2, ← hx] at hxb
          have hs := sumI_bd HG.out.1 (by omega) k m
          rw [← HD.out.2.2] at hs
          have hy := hR2.out
          have hz := HZ.out
          have hy2 : IntKind.i64.wrap (y + x) = y + x := by rw [IntKind.wrap_i64]; omega
          have HY : Hid (y + x = z + sumI row (m + 1)) := by unfold Hid; rw [sumI, ← hx]; omega
          clear hx hxb hs hy hz hR2
          have b2 : (0 : Int) ≤ (m : Int) := by omega
          have b3 : (m : Int) < (un : Int) := by omega
          go_wp2
          go_roundw
          case rel => exact ⟨m + 1, y + x, by omega, by go_num, by first | rfl | (rw [hy2]) | (simp [hy2]), by first | rfl | trivial, HY.out⟩
          case measure => simp [intOf]; omega
        · have HY : Hid (y = totV ls (k + 1)) := by
            unfold Hid
            rw [totV, ← HD.out.2.2, ← HD.out.2.1, hR2.out, HZ.out.1, show m = un by omega]
          clear hR2 HZ HD
          go_wp2
          go_roundw
          case rel => exact ⟨k + 1, y, by omega, by go_num, rfl, by first | rfl | trivial, HY.out⟩
          case measure => simp [intOf]; omega
    · have HE : Hid (V = z) := by unfold Hid; rw [HG.out.2, hR.out, show n = k by omega]
      clear hR
      go_wp2
      try simp only [Exit.inBlock, Exit.then]
      refine bodyPost_ret (by simp [results, Try.results15, go_sem, q0, q1]; try rfl) rfl ⟨by rw [HE.out], ?_⟩
      have hB := HB.out
      (repeat' (first | (with_reducible exact Below.refl _ _) | (with_reducible assumption) | (with_reducible refine Below.setCell ?_ ?_ _) | (with_reducible refine Below.alloc ?_ ?_ _) | (with_reducible refine below_drewN ?_ _) | (with_reducible refine Below.drew ?_) | (with_reducible exact Nat.le_refl _) | omega | (simp; done) | (simp; omega)))

end Go.Proofs.Yteoddodeppgjaaa
