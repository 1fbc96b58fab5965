/- Proved here: BinOf of the model. -/
import Derived.Test.YtkdpifplhhcpaaaPlM
import Derived.Test.YtkdpifplhhcpaaaIns
import Derived.Test.YtkdpifplhhcpaaaCeQ
import Derived.Test.YtkdpifplhhcpaaaUnd
import Derived.BigQuiet
import Derived.Deep.Cut
namespace Go.Proofs.Ytkdpifplhhcpaaa
open Go.RowKit
set_option linter.unusedVariables false
set_option linter.unusedSimpArgs false

set_option maxRecDepth 100000 in
set_option maxHeartbeats 6400000 in
theorem spec_bi {W : World} {vm : Value} {m : List Int} {a : Option Addr} {c : Nat} {s : List Li} (hm0 : m.length ≤ 1048576) (hmr : RdI W vm m) (hn : s.length ≤ 1048576) (hs : RG 3 liC W (.slice a s.length c) s) :
    Calls Try.prog 10 #[vm, .slice a s.length c] W fun e w' => e = .returned (.agg #[.int .i64 (biC m s), .int .i64 (biV m s)]) ∧ Below W.heap.size W w' := by
  obtain ⟨am, cm, rfl⟩ := hmr.form
  obtain ⟨k, hk⟩ : ∃ k, k = m.length := ⟨_, rfl⟩
  obtain ⟨n, hnn⟩ : ∃ n, n = s.length := ⟨_, rfl⟩
  rw [← hnn] at hs hn ⊢
  rw [← hk] at hmr hm0 ⊢
  obtain ⟨Z, hZ⟩ : ∃ Z, Z = W.alloc (.cells #[.int .i64 0, .int .i64 0] 26) := ⟨_, rfl⟩
  have HZ : Hid (Below W.heap.size W Z ∧ Z.heap[W.heap.size]? = some (.cells #[.int .i64 0, .int .i64 0] 26)) := by rw [hZ]; exact ⟨by (repeat' (first | (with_reducible exact Below.refl _ _) | (with_reducible assumption) | (with_reducible refine Below.setCell ?_ ?_ _) | (with_reducible refine Below.alloc ?_ ?_ _) | (with_reducible refine below_drewN ?_ _) | (with_reducible refine Below.drew ?_) | (with_reducible exact Nat.le_refl _) | omega | (simp; done) | (simp; omega))), heap_alloc_new _ _⟩
  have H : Hid (RG 3 liC W (.slice a n c) s ∧ n = s.length ∧ RdI W (.slice am k cm) m ∧ k = m.length) := ⟨hs, hnn, hmr, hk⟩
  clear hs hnn hk hmr
  by_cases h0 : (40 : Int) < (k : Int)
  · have HC : Hid (biC m s = 2 ∧ biV m s = 0) := biC_many (by rw [← H.out.2.2.2]; omega)
    go_enter Try.func10, Try.ntmps10
    go_wp2
    go_returns
    exact ⟨by rw [HC.out.1, HC.out.2], by (repeat' (first | (with_reducible exact Below.refl _ _) | (with_reducible assumption) | (with_reducible refine Below.setCell ?_ ?_ _) | (with_reducible refine Below.alloc ?_ ?_ _) | (with_reducible refine below_drewN ?_ _) | (with_reducible refine Below.drew ?_) | (with_reducible exact Nat.le_refl _) | omega | (simp; done) | (simp; omega)))⟩
  have hk40 : k ≤ 40 := by omega
  by_cases h1 : n = k
  case neg =>
    have HC : Hid (biC m s = 1 ∧ biV m s = 0) := biC_len (by rw [← H.out.2.2.2]; omega) (by rw [← H.out.2.2.2, ← H.out.2.1]; exact h1)
    have h1i : ¬ (n : Int) = (k : Int) := by omega
    have h1b : ((n : Int) != (k : Int)) = true := by simpa using h1i
    clear h1
    go_enter Try.func10, Try.ntmps10
    go_wp2
    go_returns
    exact ⟨by rw [HC.out.1, HC.out.2], by (repeat' (first | (with_reducible exact Below.refl _ _) | (with_reducible assumption) | (with_reducible refine Below.setCell ?_ ?_ _) | (with_reducible refine Below.alloc ?_ ?_ _) | (with_reducible refine below_drewN ?_ _) | (with_reducible refine Below.drew ?_) | (with_reducible exact Nat.le_refl _) | omega | (simp; done) | (simp; omega)))⟩
  subst h1
  clear hn hm0 h0
  go_enter Try.func10, Try.ntmps10
  go_wp2
  rw [← hZ]
  clear hZ
  go_loopw [5] (fun i wr => ∃ t : Nat, t ≤ n ∧ i = .int .i64 t ∧ Hid (Below W.heap.size W wr ∧ wr.heap[W.heap.size]? = some (.cells #[.int .i64 0, .int .i64 0] 26) ∧ (s.drop t).any liW = s.any liW)) (fun i _ => n - (intOf i).toNat)
  case atStart => exact ⟨0, Nat.zero_le _, rfl, HZ.out.1, HZ.out.2, rfl⟩
  case round =>
    clear HZ
    obtain ⟨t, ht, rfl, hR⟩ := hrel
    by_cases hlt : t < n
    · have htl : t < s.length := by rw [← H.out.2.1]; exact hlt
      obtain ⟨g, o, d2, he, hg, hj⟩ := (H.out.1.below hR.out.1).pos (by omega)
      simp only [Value.slice.injEq] at he
      obtain ⟨rfl, hx1, hx2⟩ := he
      clear hx1 hx2
      obtain ⟨c0, c1, c2⟩ := liC_at (hj t htl)
      obtain ⟨x, hx⟩ : ∃ x, x = s[t] := ⟨_, rfl⟩
      rw [← hx] at c0 c1 c2
      clear hj
      obtain ⟨q, hq⟩ : ∃ q, q = decide (2 ≤ x.bi ∧ x.bi ≤ 99) := ⟨_, rfl⟩
      have HI : Hid (∀ X, Calls Try.prog 41 #[.int .i64 x.bi, .int .i64 2, .int .i64 99] X fun e w' => e = .returned (.bool q) ∧ w' = X) := fun X => spec_ins x.bi 2 99 q hq X
      have HQ : Hid (s.any liW = ((decide (x.hi < x.lo) || !q) || (s.drop (t + 1)).any liW)) := by unfold Hid; rw [← hR.out.2.2, any_at htl, liW, oo, ← hx, hq]
      have HV : Hid (Below W.heap.size W wr ∧ wr.heap[W.heap.size]? = some (.cells #[.int .i64 0, .int .i64 0] 26)) := ⟨hR.out.1, hR.out.2.1⟩
      clear hx hR htl hq
      have b0 : (0 : Int) ≤ (t : Int) := by omega
      have b1 : (t : Int) < (n : Int) := by omega
      have HB : Hid (∀ j, Below W.heap.size W (wr.drewN j)) := fun j => below_drewN HV.out.1 j
      have z0 := cellOfQ HV.out.2 0 rfl
      have z1 := cellOfQ HV.out.2 1 rfl
      have zl := ltOfQ HV.out.2
      have f0 := frozOfQ HV.out.2 0
      have f1 := frozOfQ HV.out.2 1
      cases hd : decide (x.hi < x.lo)
      case true =>
        have HE : Hid (biC m s = 1 ∧ biV m s = 0) := biC_bad (by rw [← H.out.2.2.2]; omega) (by rw [← H.out.2.1, ← H.out.2.2.2]) (by rw [HQ.out, hd]; rfl)
        clear HQ
        go_wp2
        go_quiet (first | (go_at_call 41; with_reducible refine Calls.quiet_of_same (HI.out _)))
        go_wp2
        try simp only [Exit.inBlock, Exit.then]
        refine bodyPost_ret (by simp [results, Try.results10, go_sem, z0, z1, zl, f0, f1]; try rfl) rfl ⟨by rw [HE.out.1, HE.out.2], (HB.out _ |>.setCell (Nat.le_refl _) _).setCell (Nat.le_refl _) _⟩
      rw [hd] at HQ
      cases q
      case false =>
        have HE : Hid (biC m s = 1 ∧ biV m s = 0) := biC_bad (by rw [← H.out.2.2.2]; omega) (by rw [← H.out.2.1, ← H.out.2.2.2]) (by rw [HQ.out]; rfl)
        clear HQ
        go_wp2
        go_quiet (first | (go_at_call 41; with_reducible refine Calls.quiet_of_same (HI.out _)))
        go_wp2
        try simp only [Exit.inBlock, Exit.then]
        refine bodyPost_ret (by simp [results, Try.results10, go_sem, z0, z1, zl, f0, f1]; try rfl) rfl ⟨by rw [HE.out.1, HE.out.2], (HB.out _ |>.setCell (Nat.le_refl _) _).setCell (Nat.le_refl _) _⟩
      have HN : Hid ((s.drop (t + 1)).any liW = s.any liW) := by unfold Hid; rw [HQ.out]; rfl
      clear HQ z0 z1 zl f0 f1
      go_wp2
      go_quiet (first | (go_at_call 41; with_reducible refine Calls.quiet_of_same (HI.out _)))
      go_wp2
      go_roundw
      case rel => exact ⟨t + 1, by omega, by go_num, HB.out _, HV.out.2, HN.out⟩
      case measure => simp [intOf]; omega
    have HOK : Hid (biC m s = 0 ∧ biV m s = biF m s) := biC_ok (by rw [← H.out.2.2.2]; omega) (by rw [← H.out.2.1, ← H.out.2.2.2]) (by rw [← hR.out.2.2]; exact any_end (by rw [← H.out.2.1]; omega))
    have HW : Hid (Below W.heap.size W wr ∧ wr.heap[W.heap.size]? = some (.cells #[.int .i64 0, .int .i64 0] 26)) := ⟨hR.out.1, hR.out.2.1⟩
    clear hR
    go_wp2
    go_loopw [6] (fun i wr => ∃ t : Nat, t ≤ n ∧ i = .int .i64 t ∧ Hid (Below W.heap.size W wr ∧ wr.heap[W.heap.size]? = some (.cells #[.int .i64 0, .int .i64 0] 26) ∧ biF (m.drop t) (s.drop t) = biF m s)) (fun i _ => n - (intOf i).toNat)
    case atStart => exact ⟨0, Nat.zero_le _, rfl, HW.out.1, HW.out.2, rfl⟩
    case round =>
      clear HW
      obtain ⟨t, ht, rfl, hR⟩ := hrel
      by_cases hlt : t < n
      · have htl : t < s.length := by rw [← H.out.2.1]; exact hlt
        have htm : t < m.length := by rw [← H.out.2.2.2]; exact hlt
        have HS := biF_step htm htl
        obtain ⟨g, o, d2, he, hg, hj⟩ := (H.out.1.below hR.out.1).pos (by omega)
        simp only [Value.slice.injEq] at he
        obtain ⟨rfl, hx1, hx2⟩ := he
        clear hx1 hx2
        obtain ⟨c0, c1, c2⟩ := liC_at (hj t htl)
        obtain ⟨x, hx⟩ : ∃ x, x = s[t] := ⟨_, rfl⟩
        rw [← hx] at c0 c1 c2
        clear hj
        rw [← hx] at HS
        obtain ⟨gm, om, rfl, hgm, m0⟩ := rd_at (H.out.2.2.1.below hR.out.1) hlt
        obtain ⟨y, hy⟩ : ∃ y, y = m.getD t 0 := ⟨_, rfl⟩
        rw [← hy] at m0 HS
        obtain ⟨q, hq⟩ : ∃ q, q = decide (x.lo ≤ y ∧ y ≤ x.hi) := ⟨_, rfl⟩
        have HI : Hid (∀ X, Calls Try.prog 41 #[.int .i64 y, .int .i64 x.lo, .int .i64 x.hi] X fun e w' => e = .returned (.bool q) ∧ w' = X) := fun X => spec_ins y x.lo x.hi q hq X
        have HQ : Hid ((q = true → biF (m.drop (t + 1)) (s.drop (t + 1)) = biF m s) ∧ (q = false → biF m s = x.bi)) := by
          have h9 := hR.out.2.2
          rw [HS] at h9
          refine ⟨fun e => ?_, fun e => ?_⟩
          · rw [if_pos (of_decide_eq_true (hq.symm.trans e))] at h9; exact h9
          · rw [if_neg (of_decide_eq_false (hq.symm.trans e))] at h9; exact h9.symm
        have HV : Hid (Below W.heap.size W wr ∧ wr.heap[W.heap.size]? = some (.cells #[.int .i64 0, .int .i64 0] 26)) := ⟨hR.out.1, hR.out.2.1⟩
        clear HS hx hy hR htl htm hq
        have b0 : (0 : Int) ≤ (t : Int) := by omega
        have b1 : (t : Int) < (n : Int) := by omega
        have HB : Hid (∀ j, Below W.heap.size W (wr.drewN j)) := fun j => below_drewN HV.out.1 j
        go_wp2
        go_quiet (first | (go_at_call 41; with_reducible refine Calls.quiet_of_same (HI.out _)))
        cases q
        case true =>
          have HN : Hid (biF (m.drop (t + 1)) (s.drop (t + 1)) = biF m s) := HQ.out.1 rfl
          clear HQ
          go_wp2
          go_roundw
          case rel => exact ⟨t + 1, by omega, by go_num, HB.out _, HV.out.2, HN.out⟩
          case measure => simp [intOf]; omega
        case false =>
          have HN : Hid (biF m s = x.bi) := HQ.out.2 rfl
          have z0 := cellOfQ HV.out.2 0 rfl
          have z1 := cellOfQ HV.out.2 1 rfl
          have zl := ltOfQ HV.out.2
          have f0 := frozOfQ HV.out.2 0
          have f1 := frozOfQ HV.out.2 1
          go_wp2
          try simp only [Exit.inBlock, Exit.then]
          refine bodyPost_ret (by simp [results, Try.results10, go_sem, z0, z1, zl, f0, f1, c2]; try rfl) rfl ⟨by rw [HOK.out.1, HOK.out.2, HN.out], (HB.out _ |>.setCell (Nat.le_refl _) _).setCell (Nat.le_refl _) _⟩
      · have HE : Hid (biV m s = 1) := by
          unfold Hid; rw [HOK.out.2, ← hR.out.2.2]; exact biF_end (by rw [← H.out.2.2.2]; omega)
        have z0 := cellOfQ hR.out.2.1 0 rfl
        have z1 := cellOfQ hR.out.2.1 1 rfl
        have zl := ltOfQ hR.out.2.1
        have f0 := frozOfQ hR.out.2.1 0
        have f1 := frozOfQ hR.out.2.1 1
        have HB : Hid (Below W.heap.size W wr) := hR.out.1
        clear hR
        go_wp2
        try simp only [Exit.inBlock, Exit.then]
        refine bodyPost_ret (by simp [results, Try.results10, go_sem, z0, z1, zl, f0, f1]; try rfl) rfl ⟨by rw [HOK.out.1, HE.out], (HB.out.setCell (Nat.le_refl _) _).setCell (Nat.le_refl _) _⟩

end Go.Proofs.Ytkdpifplhhcpaaa
