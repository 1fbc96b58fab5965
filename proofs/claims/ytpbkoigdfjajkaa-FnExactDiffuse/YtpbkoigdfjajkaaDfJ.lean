/- Proved here: Diffuse of the program. -/
import Derived.Test.YtpbkoigdfjajkaaDfI
import Derived.Test.YtpbkoigdfjajkaaGfI
namespace Go.Proofs.Ytpbkoigdfjajkaa
open Go.RowKit
set_option linter.unusedVariables false
set_option linter.unusedSimpArgs false

set_option maxRecDepth 10000 in
set_option maxHeartbeats 12800000 in
theorem impl_di (sh st : Int) {w : World} {v : Value} {ls : List (List Int)} (hn : SmR ls) (h : RdR w v ls) :
    Calls Try.prog 15 #[v, .int .i64 sh, .int .i64 st] w fun e w' => ∃ v' vs, e = .returned (.agg #[.int .i64 (diC ls sh st), v']) ∧ RI w' w.heap.size v' (diL ls sh st) vs ∧ Below w.heap.size w w' := by
  obtain ⟨a, c, rfl⟩ := h.form
  obtain ⟨n, hnn⟩ : ∃ n, n = ls.length := ⟨_, rfl⟩
  obtain ⟨A, hA⟩ : ∃ C, C = gfC ls 1000000 := ⟨_, rfl⟩
  obtain ⟨C, hC⟩ : ∃ C, C = diC ls sh st := ⟨_, rfl⟩
  obtain ⟨r1, hr1⟩ : ∃ r, r = decide (0 ≤ sh ∧ sh ≤ 16) := ⟨_, rfl⟩
  obtain ⟨r2, hr2⟩ : ∃ r, r = decide (0 ≤ st ∧ st ≤ 20) := ⟨_, rfl⟩
  rw [← hnn] at h ⊢
  rw [← hC]
  have HF : Hid (∀ W, Below w.heap.size w W → Calls Try.prog 20 #[.slice a n c] W fun e w' => e = .returned (.int .i64 A) ∧ w' = W) := fun W hW => by rw [hA]; exact impl_gf hn (h.below hW)
  have HI1 : Hid (∀ W, Calls Try.prog 29 #[.int .i64 sh, .int .i64 0, .int .i64 16] W fun e w' => e = .returned (.bool r1) ∧ w' = W) := impl_insC sh 0 16 r1 hr1
  have HI2 : Hid (∀ W, Calls Try.prog 29 #[.int .i64 st, .int .i64 0, .int .i64 20] W fun e w' => e = .returned (.bool r2) ∧ w' = W) := impl_insC st 0 20 r2 hr2
  have H : Hid (RdR w (.slice a n c) ls ∧ n = ls.length ∧ A = gfC ls 1000000 ∧ C = diC ls sh st ∧ diL ls sh st = (if C = 0 then itD sh ls.length (ls.getD 0 []).length ls st.toNat else []) ∧ r1 = decide (0 ≤ sh ∧ sh ≤ 16) ∧ r2 = decide (0 ≤ st ∧ st ≤ 20)) := ⟨h, hnn, hA, hC, by rw [hC]; rfl, hr1, hr2⟩
  clear h hn hC hnn hA hr1 hr2
  have k2 := heap_alloc_new w (.cells #[.int .i64 0, .slice none 0 0] 25)
  obtain ⟨q0, q1, qf0, qf1, ql⟩ := two_of k2
  have HB : Hid (Below w.heap.size w (w.alloc (.cells #[.int .i64 0, .slice none 0 0] 25)) ∧ (w.alloc (.cells #[.int .i64 0, .slice none 0 0] 25)).heap[w.heap.size]? = some (.cells #[.int .i64 0, .slice none 0 0] 25) ∧ w.heap.size < (w.alloc (.cells #[.int .i64 0, .slice none 0 0] 25)).heap.size) := ⟨by (repeat' (first | (with_reducible exact Below.refl _ _) | (with_reducible assumption) | (with_reducible refine Below.setCell ?_ ?_ _) | (with_reducible refine Below.alloc ?_ ?_ _) | (with_reducible refine below_drewN ?_ _) | (with_reducible refine Below.drew ?_) | (with_reducible exact Nat.le_refl _) | omega | (simp; done) | (simp; omega))), k2, by simp⟩
  clear k2
  go_enter Try.func15, Try.ntmps15
  go_wp2_with (fail)
  refine (HF.out _ HB.out.1).mono ?_
  rintro e w1 ⟨rfl, rfl⟩
  clear HF
  obtain ⟨W0, hW0⟩ : ∃ W, W = w.alloc (.cells #[.int .i64 0, .slice none 0 0] 25) := ⟨_, rfl⟩
  rw [← hW0] at HB q0 q1 qf0 qf1 ql ⊢
  clear hW0
  by_cases hA0 : A = 0
  case neg =>
    have HV : Hid (C = A ∧ diL ls sh st = []) := by
      have e : C = A := by rw [H.out.2.2.2.1, diC, if_neg (by rw [← H.out.2.2.1]; exact hA0), H.out.2.2.1]
      exact ⟨e, by rw [H.out.2.2.2.2.1, if_neg (by rw [e]; exact hA0)]⟩
    have hA1 : (A != 0) = true := by simpa using hA0
    go_wp2
    try simp only [Exit.inBlock, Exit.then]
    refine bodyPost_ret (by simp [results, Try.results15, go_sem, q0, q1, ql]; try rfl) rfl ⟨.slice none 0 0, [], by rw [HV.out.1], ?_, ?_⟩
    · rw [HV.out.2]; exact RI.nil _ _
    · have hB := HB.out.1
      (repeat' (first | (with_reducible exact Below.refl _ _) | (with_reducible assumption) | (with_reducible refine Below.setCell ?_ ?_ _) | (with_reducible refine Below.alloc ?_ ?_ _) | (with_reducible refine below_drewN ?_ _) | (with_reducible refine Below.drew ?_) | (with_reducible exact Nat.le_refl _) | omega | (simp; done) | (simp; omega)))
  have HA0 : Hid (gfC ls 1000000 = 0) := H.out.2.2.1.symm.trans hA0
  have HC : Hid (C = if (0 ≤ sh ∧ sh ≤ 16) ∧ (0 ≤ st ∧ st ≤ 20) then gfC (itD sh ls.length (ls.getD 0 []).length ls st.toNat) 1000000 else 3) := by unfold Hid; rw [H.out.2.2.2.1, diC, if_pos HA0.out]
  subst hA0
  go_wp2_with (fail)
  refine (HI1.out _).mono ?_
  rintro e w1 ⟨rfl, rfl⟩
  cases r1 with
  | false =>
    have HV : Hid (C = 3 ∧ diL ls sh st = []) := by
      have e : C = 3 := by rw [HC.out, if_neg (fun q => (of_decide_eq_false H.out.2.2.2.2.2.1.symm) q.1)]
      exact ⟨e, by rw [H.out.2.2.2.2.1, if_neg (by rw [e]; decide)]⟩
    go_wp2
    try simp only [Exit.inBlock, Exit.then]
    refine bodyPost_ret (by simp [results, Try.results15, go_sem, q0, q1, ql]; try rfl) rfl ⟨.slice none 0 0, [], by rw [HV.out.1], ?_, ?_⟩
    · rw [HV.out.2]; exact RI.nil _ _
    · have hB := HB.out.1
      (repeat' (first | (with_reducible exact Below.refl _ _) | (with_reducible assumption) | (with_reducible refine Below.setCell ?_ ?_ _) | (with_reducible refine Below.alloc ?_ ?_ _) | (with_reducible refine below_drewN ?_ _) | (with_reducible refine Below.drew ?_) | (with_reducible exact Nat.le_refl _) | omega | (simp; done) | (simp; omega)))
  | true =>
  go_wp2_with (fail)
  refine (HI2.out _).mono ?_
  rintro e w1 ⟨rfl, rfl⟩
  cases r2 with
  | false =>
    have HV : Hid (C = 3 ∧ diL ls sh st = []) := by
      have e : C = 3 := by rw [HC.out, if_neg (fun q => (of_decide_eq_false H.out.2.2.2.2.2.2.symm) q.2)]
      exact ⟨e, by rw [H.out.2.2.2.2.1, if_neg (by rw [e]; decide)]⟩
    go_wp2
    try simp only [Exit.inBlock, Exit.then]
    refine bodyPost_ret (by simp [results, Try.results15, go_sem, q0, q1, ql]; try rfl) rfl ⟨.slice none 0 0, [], by rw [HV.out.1], ?_, ?_⟩
    · rw [HV.out.2]; exact RI.nil _ _
    · have hB := HB.out.1
      (repeat' (first | (with_reducible exact Below.refl _ _) | (with_reducible assumption) | (with_reducible refine Below.setCell ?_ ?_ _) | (with_reducible refine Below.alloc ?_ ?_ _) | (with_reducible refine below_drewN ?_ _) | (with_reducible refine Below.drew ?_) | (with_reducible exact Nat.le_refl _) | omega | (simp; done) | (simp; omega)))
  | true =>
  have hs := of_decide_eq_true H.out.2.2.2.2.2.1.symm
  have ht := of_decide_eq_true H.out.2.2.2.2.2.2.symm
  obtain ⟨s, hst⟩ : ∃ s : Nat, st = (s : Int) := ⟨st.toNat, by omega⟩
  have hG := gfC_good HA0.out
  obtain ⟨wd, hwd⟩ : ∃ n, n = (ls.getD 0 []).length := ⟨_, rfl⟩
  have HG : Hid (DO n wd ls ∧ C = gfC (itD sh n wd ls s) 1000000 ∧ diL ls sh st = (if C = 0 then itD sh n wd ls s else []) ∧ RdR w1 (.slice a n c) ls) := by
    refine ⟨by rw [H.out.2.1, hwd]; exact hG.do, ?_, ?_, H.out.1.below HB.out.1⟩
    · rw [HC.out, if_pos ⟨hs, ht⟩, H.out.2.1, hwd, hst]; rfl
    · rw [H.out.2.2.2.2.1, H.out.2.1, hwd, hst]; rfl
  have hn16 : n ≤ 16 := by rw [H.out.2.1]; exact hG.h1
  have hn0 : 0 < n := by rw [H.out.2.1]; exact hG.h0
  have hw16 : wd ≤ 16 := by rw [hwd]; exact hG.w1
  have hw0 : 0 < wd := by rw [hwd]; exact hG.w0
  have HCP : Hid (Calls Try.prog 30 #[.slice a n c] w1 fun e w' => ∃ g vs, e = .returned (.slice (some ⟨g, 0, none⟩) n n) ∧ RI w' w1.heap.size (.slice (some ⟨g, 0, none⟩) n n) ls vs ∧ Below w1.heap.size w1 w') := by
    have := impl_copied hG HG.out.2.2.2
    rw [← H.out.2.1] at this
    exact this
  have hs0 := hs.1
  have hs1 := hs.2
  have ht20 : s ≤ 20 := by omega
  rw [hst]
  clear H HC hG hwd hs ht HI1 HI2 hst
  go_wp2_with (fail)
  refine HCP.out.mono ?_
  rintro e w2 ⟨g, vs, rfl, hri, hb2⟩
  have HS : Hid (∃ vs, RI w2 w1.heap.size (.slice (some ⟨g, 0, none⟩) n n) (itD sh n wd ls 0) vs ∧ DO n wd (itD sh n wd ls 0) ∧ Below w1.heap.size w1 w2) := ⟨vs, hri, HG.out.1, hb2⟩
  clear HCP hri hb2 q0 q1 qf0 qf1 ql
  go_wp2
  go_loopw [8, 28] (fun q i wr => ∃ (k g : Nat), k ≤ s ∧ i = .int .i64 k ∧ q = .slice (some ⟨g, 0, none⟩) n n ∧ Hid (∃ vs, RI wr w1.heap.size (.slice (some ⟨g, 0, none⟩) n n) (itD sh n wd ls k) vs ∧ DO n wd (itD sh n wd ls k) ∧ Below w1.heap.size w1 wr)) (fun _ i _ => s - (intOf i).toNat)
  case atStart => exact ⟨0, g, Nat.zero_le _, rfl, rfl, HS.out⟩
  case round =>
    clear HS
    obtain ⟨k, g, hk, rfl, rfl, hR⟩ := hrel
    by_cases hlt : k < s
    · obtain ⟨vs, hri, hdo, hbl⟩ := hR.out
      have HC : Hid (Calls Try.prog 31 #[.slice (some ⟨g, 0, none⟩) n n, .int .i64 sh] wr fun e w' => ∃ g vs, e = .returned (.slice (some ⟨g, 0, none⟩) n n) ∧ GV w' wr.heap.size g n n wd (dfL sh n wd (itD sh n wd ls k)) vs ∧ DO n wd (dfL sh n wd (itD sh n wd ls k)) ∧ Below wr.heap.size wr w') := impl_diffused sh hn16 hw16 hn0 hw0 hs0 hs1 hdo hri.rd
      have HB1 : Hid (Below w1.heap.size w1 wr) := hbl
      clear hR hri hdo hbl
      have b0 : (0 : Int) ≤ (k : Int) := by omega
      have b1 : (k : Int) < (s : Int) := by omega
      go_wp2_with (fail)
      refine HC.out.mono ?_
      rintro e w3 ⟨g3, vs3, rfl, hgv, hdo, hb3⟩
      have HP : Hid (∃ vs, RI w3 w1.heap.size (.slice (some ⟨g3, 0, none⟩) n n) (itD sh n wd ls (k + 1)) vs ∧ DO n wd (itD sh n wd ls (k + 1)) ∧ Below w1.heap.size w1 w3) := ⟨vs3, hgv.ri.low HB1.out.size, hdo, HB1.out.trans (hb3.mono HB1.out.size)⟩
      clear HC hgv hdo hb3 HB1
      go_wp2
      go_roundw
      case rel => exact ⟨k + 1, g3, by omega, by go_num, rfl, HP.out⟩
      case measure => simp [intOf]; omega
    · have ek : k = s := by omega
      subst ek
      obtain ⟨vs, hri, hdo, hbl⟩ := hR.out
      obtain ⟨P, hP⟩ : ∃ P, P = C := ⟨_, rfl⟩
      have HF : Hid (Calls Try.prog 20 #[.slice (some ⟨g, 0, none⟩) n n] wr fun e w' => e = .returned (.int .i64 C) ∧ w' = wr) := by
        unfold Hid
        rw [HG.out.2.1]
        exact impl_gf (sh_sm hdo.sh hn16 hw16) hri.rd
      have HP : Hid (RI wr w1.heap.size (.slice (some ⟨g, 0, none⟩) n n) (itD sh n wd ls k) vs ∧ Below w.heap.size w wr ∧ wr.heap[w.heap.size]? = some (.cells #[.int .i64 0, .slice none 0 0] 25) ∧ w.heap.size < w1.heap.size) := ⟨hri, HB.out.1.trans (hbl.mono HB.out.1.size), (hbl.block _ HB.out.2.2).trans HB.out.2.1, HB.out.2.2⟩
      obtain ⟨q0, q1, qf0, qf1, ql⟩ := two_of HP.out.2.2.1
      clear hR hri hdo hbl hP
      go_wp2_with (fail)
      refine HF.out.mono ?_
      rintro e w4 ⟨rfl, rfl⟩
      clear HF
      by_cases hC0 : C = 0
      · have HV : Hid (diL ls sh st = itD sh n wd ls k) := by unfold Hid; rw [HG.out.2.2.1, if_pos hC0]
        subst hC0
        go_wp2
        try simp only [Exit.inBlock, Exit.then]
        refine bodyPost_ret (by simp [results, Try.results15, go_sem, q0, q1, ql]; try rfl) rfl ⟨.slice (some ⟨g, 0, none⟩) n n, vs, rfl, ?_, ?_⟩
        · rw [HV.out]
          have hs := HP.out.2.2.2
          refine RI.low (B := w1.heap.size) ?_ (by omega)
          repeat' (refine ri_result (w := w) ?_ (by omega) _ _)
          exact HP.out.1
        · have hB := HP.out.2.1
          (repeat' (first | (with_reducible exact Below.refl _ _) | (with_reducible assumption) | (with_reducible refine Below.setCell ?_ ?_ _) | (with_reducible refine Below.alloc ?_ ?_ _) | (with_reducible refine below_drewN ?_ _) | (with_reducible refine Below.drew ?_) | (with_reducible exact Nat.le_refl _) | omega | (simp; done) | (simp; omega)))
      · have HV : Hid (diL ls sh st = []) := by unfold Hid; rw [HG.out.2.2.1, if_neg hC0]
        have hA1 : (C != 0) = true := by simpa using hC0
        go_wp2
        try simp only [Exit.inBlock, Exit.then]
        refine bodyPost_ret (by simp [results, Try.results15, go_sem, q0, q1, ql]; try rfl) rfl ⟨.slice none 0 0, [], rfl, ?_, ?_⟩
        · rw [HV.out]; exact RI.nil _ _
        · have hB := HP.out.2.1
          (repeat' (first | (with_reducible exact Below.refl _ _) | (with_reducible assumption) | (with_reducible refine Below.setCell ?_ ?_ _) | (with_reducible refine Below.alloc ?_ ?_ _) | (with_reducible refine below_drewN ?_ _) | (with_reducible refine Below.drew ?_) | (with_reducible exact Nat.le_refl _) | omega | (simp; done) | (simp; omega)))

end Go.Proofs.Ytpbkoigdfjajkaa
