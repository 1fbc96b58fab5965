/- Proved here: RatesOf of the program. -/
import Derived.Test.YteoddodeppgjaaaEaI
import Derived.Test.YteoddodeppgjaaaGfI
import Derived.Test.YteoddodeppgjaaaRtM
namespace Go.Proofs.Yteoddodeppgjaaa
open Go.RowKit
set_option linter.unusedVariables false
set_option linter.unusedSimpArgs false

set_option maxRecDepth 10000 in
set_option maxHeartbeats 3200000 in
theorem impl_tb {w : World} {v : Value} {s : List Int} (hn : s.length ≤ 1048576) (h : RdI w v s) :
    Calls Try.prog 44 #[v] w fun e w' => e = .returned (.int .i64 (tbF s)) ∧ w' = w := by
  obtain ⟨a, c, rfl⟩ := h.form
  obtain ⟨n, hnn⟩ : ∃ n, n = s.length := ⟨_, rfl⟩
  obtain ⟨C, hC⟩ : ∃ C, C = tbF s := ⟨_, rfl⟩
  rw [← hnn] at h hn ⊢
  rw [← hC]
  have H : Hid (RdI w (.slice a n c) s ∧ n = s.length ∧ C = tbF s) := ⟨h, hnn, hC⟩
  clear h hnn hC
  rcases Nat.eq_zero_or_pos n with h0 | h0
  · have HC : Hid (C = 1) := by unfold Hid; rw [H.out.2.2, tbF, if_pos (by rw [← H.out.2.1]; exact h0)]
    clear H
    subst h0
    go_enter Try.func44, Try.ntmps44
    go_wp2
    go_returns
    exact ⟨by rw [HC.out]; rfl, rfl⟩
  have h01 : ¬ (n : Int) = 0 := by omega
  have h02 : ¬ n = 0 := by omega
  by_cases h8 : (64 : Int) < (n : Int)
  · have HC : Hid (C = 2) := by unfold Hid; rw [H.out.2.2, tbF, if_neg (by rw [← H.out.2.1]; omega), if_pos (by rw [← H.out.2.1]; omega)]
    go_enter Try.func44, Try.ntmps44
    go_wp2
    go_returns
    exact ⟨by rw [HC.out]; rfl, rfl⟩
  have HC : Hid (C = if inR 1000000 s = true then 0 else 3) := by unfold Hid; rw [H.out.2.2, tbF, if_neg (by rw [← H.out.2.1]; omega), if_neg (by rw [← H.out.2.1]; omega)]
  go_enter Try.func44, Try.ntmps44
  go_wp2
  go_loopw [13] (fun i wr => ∃ k : Nat, k ≤ n ∧ i = .int .i64 k ∧ wr = w ∧ Hid (inR 1000000 (s.drop k) = inR 1000000 s)) (fun i _ => n - (intOf i).toNat)
  case atStart => exact ⟨0, Nat.zero_le _, rfl, rfl, rfl⟩
  case round =>
    obtain ⟨k, hk, rfl, rfl, hR⟩ := hrel
    by_cases hlt : k < n
    · obtain ⟨g2, o2, rfl, hg2, d0⟩ := rd_at H.out.1 hlt
      obtain ⟨x, hx⟩ : ∃ x, x = s.getD k 0 := ⟨_, rfl⟩
      rw [← hx] at d0
      obtain ⟨q, hq⟩ : ∃ q, q = decide (0 ≤ x ∧ x ≤ 1000000) := ⟨_, rfl⟩
      have HI2 : Hid (∀ W, Calls Try.prog 53 #[.int .i64 x, .int .i64 0, .int .i64 1000000] W fun e w' => e = .returned (.bool q) ∧ w' = W) := impl_insC x 0 1000000 q hq
      have HQ : Hid (inR 1000000 s = (q && inR 1000000 (s.drop (k + 1)))) := by
        unfold Hid; rw [← hR.out, inR_step (by rw [← H.out.2.1]; exact hlt), ← hx, hq]
      clear hx hq hR
      have b0 : (0 : Int) ≤ (k : Int) := by omega
      have b1 : (k : Int) < (n : Int) := by omega
      go_wp2_with (fail)
      refine (HI2.out _).mono ?_
      rintro e w5 ⟨rfl, rfl⟩
      clear HI2
      cases q with
      | true =>
        have HM : Hid (inR 1000000 (s.drop (k + 1)) = inR 1000000 s) := by unfold Hid; rw [HQ.out]; rfl
        go_wp2
        go_roundw
        case rel => exact ⟨k + 1, by omega, by go_num, by first | rfl | trivial, HM.out⟩
        case measure => simp [intOf]; omega
      | false =>
        have HM : Hid (C = 3) := by unfold Hid; rw [HC.out, HQ.out]; rfl
        go_wp2
        go_returns
        exact ⟨by rw [HM.out]; rfl, rfl⟩
    · have HM : Hid (C = 0) := by
        have e : inR 1000000 s = true := by rw [← hR.out, List.drop_eq_nil_of_le (by rw [← H.out.2.1]; omega)]; rfl
        unfold Hid; rw [HC.out, if_pos e]
      clear hR
      go_wp2
      go_returns
      exact ⟨by rw [HM.out]; rfl, rfl⟩

set_option maxHeartbeats 1600000 in
theorem impl_rt_clo (x : Int) {w : World} {p r : Nat} {ta : Option Addr} {tn tc : Nat} {s : List Int} (hx : 0 ≤ x) (hx2 : x ≤ 1000000) (h0 : 0 < tn) (h1 : tn ≤ 64) (hp : w.heap[p]? = some (.cells #[.slice ta tn tc] 38)) (hr : w.heap[r]? = some (.cells #[.int .i64 ((tn : Int) - 1)] 2)) (h : RdI w (.slice ta tn tc) s) :
    Calls Try.prog 45 #[.int .i64 x, .pointer (some ⟨p, 0, none⟩), .pointer (some ⟨r, 0, none⟩)] w fun e w' => e = .returned (.int .i64 (rtT s x)) ∧ Below w.heap.size w w' := by
  obtain ⟨L, hL⟩ : ∃ L : Nat, tn = L + 1 := ⟨tn - 1, by omega⟩
  have hcast : (tn : Int) - 1 = (L : Int) := by omega
  rw [hcast] at hr
  obtain ⟨X, rfl⟩ : ∃ X : Nat, x = (X : Int) := ⟨x.toNat, by omega⟩
  have c0 := cellOf hp 0 rfl
  have l0 := ltOf hp
  have c1 := cellOf hr 0 rfl
  have l1 := ltOf hr
  have hl := h.len
  by_cases hc : (L : Int) < (X : Int)
  · obtain ⟨g, o, rfl, hg, d0⟩ := rd_at h (show L < tn by omega)
    obtain ⟨y, hy⟩ : ∃ y, y = s.getD L 0 := ⟨_, rfl⟩
    rw [← hy] at d0
    have HT : Hid (rtT s (X : Int) = y) := by unfold Hid rtT; rw [hy, ← hl, show min (X : Int).toNat (tn - 1) = L by omega]
    have b0 : (0 : Int) ≤ (L : Int) := by omega
    have b1 : (L : Int) < (tn : Int) := by omega
    clear hp hr h hy hl hL hcast
    go_enter Try.func45, Try.ntmps45
    go_wp2
    go_returns
    exact ⟨by rw [HT.out]; rfl, Below.refl _ _⟩
  · obtain ⟨g, o, rfl, hg, d0⟩ := rd_at h (show X < tn by omega)
    obtain ⟨y, hy⟩ : ∃ y, y = s.getD X 0 := ⟨_, rfl⟩
    rw [← hy] at d0
    have HT : Hid (rtT s (X : Int) = y) := by unfold Hid rtT; rw [hy, ← hl, show min (X : Int).toNat (tn - 1) = X by omega]
    have b0 : (0 : Int) ≤ (X : Int) := by omega
    have b1 : (X : Int) < (tn : Int) := by omega
    clear hp hr h hy hl hL hcast
    go_enter Try.func45, Try.ntmps45
    go_wp2
    go_returns
    exact ⟨by rw [HT.out]; rfl, Below.refl _ _⟩

set_option maxRecDepth 10000 in
set_option maxHeartbeats 6400000 in
theorem impl_rt {w : World} {v vt : Value} {ls : List (List Int)} {s : List Int} (hn : SmR ls) (hs : s.length ≤ 1048576) (h : RdR w v ls) (ht : RdI w vt s) :
    Calls Try.prog 25 #[v, vt] w fun e w' => ∃ v' vs, e = .returned (.agg #[.int .i64 (rtC ls s), v']) ∧ RI w' w.heap.size v' (rtL ls s) vs ∧ Below w.heap.size w w' := by
  obtain ⟨a, c, rfl⟩ := h.form
  obtain ⟨ta, tc, rfl⟩ := ht.form
  obtain ⟨n, hnn⟩ : ∃ n, n = ls.length := ⟨_, rfl⟩
  obtain ⟨tn, htn⟩ : ∃ n, n = s.length := ⟨_, rfl⟩
  obtain ⟨A, hA⟩ : ∃ C, C = gfC ls 1000000 := ⟨_, rfl⟩
  obtain ⟨P, hP⟩ : ∃ C, C = tbF s := ⟨_, rfl⟩
  obtain ⟨C, hC⟩ : ∃ C, C = rtC ls s := ⟨_, rfl⟩
  rw [← hnn] at h ⊢
  rw [← htn] at ht ⊢
  rw [← hC]
  have HF : Hid (∀ W, Below w.heap.size w W → Calls Try.prog 12 #[.slice a n c] W fun e w' => e = .returned (.int .i64 A) ∧ w' = W) := fun W hW => by rw [hA]; exact impl_gf hn (h.below hW)
  have HT : Hid (∀ W, Below w.heap.size w W → Calls Try.prog 44 #[.slice ta tn tc] W fun e w' => e = .returned (.int .i64 P) ∧ w' = W) := fun W hW => by rw [hP]; exact impl_tb hs (ht.below hW)
  have H : Hid (RdR w (.slice a n c) ls ∧ RdI w (.slice ta tn tc) s ∧ A = gfC ls 1000000 ∧ P = tbF s ∧ C = (if A = 0 then P else A) ∧ rtL ls s = (if C = 0 then tnL (rtT s) ls else []) ∧ tn = s.length) := ⟨h, ht, hA, hP, by rw [hC, hA, hP]; rfl, by rw [hC]; rfl, htn⟩
  clear h hn hC hnn ht hs hA hP htn
  obtain ⟨W2, hW2⟩ : ∃ W, W = (w.alloc (.cells #[.slice ta tn tc] 38)).alloc (.cells #[.int .i64 0, .slice none 0 0] 33) := ⟨_, rfl⟩
  have HW : Hid (Below w.heap.size w W2 ∧ W2.heap[w.heap.size]? = some (.cells #[.slice ta tn tc] 38) ∧ W2.heap[w.heap.size + 1]? = some (.cells #[.int .i64 0, .slice none 0 0] 33) ∧ W2.heap.size = w.heap.size + 1 + 1) := by
    rw [hW2]
    refine ⟨by (repeat' (first | (with_reducible exact Below.refl _ _) | (with_reducible assumption) | (with_reducible refine Below.setCell ?_ ?_ _) | (with_reducible refine Below.alloc ?_ ?_ _) | (with_reducible refine below_drewN ?_ _) | (with_reducible refine Below.drew ?_) | (with_reducible exact Nat.le_refl _) | omega | (simp; done) | (simp; omega))), (Below.heap_alloc _ _ _ (by simp)).trans (heap_alloc_new w _), ?_, by simp⟩
    have := heap_alloc_new (w.alloc (.cells #[.slice ta tn tc] 38)) (.cells #[.int .i64 0, .slice none 0 0] 33)
    simpa using this
  obtain ⟨q0, q1, qf0, qf1, ql⟩ := two_of HW.out.2.2.1
  have p0 := cellOf HW.out.2.1 0 rfl
  have pl := ltOf HW.out.2.1
  go_enter Try.func25, Try.ntmps25
  go_wp2_with (fail)
  rw [← hW2]
  refine (HF.out _ HW.out.1).mono ?_
  rintro e w1 ⟨rfl, hw1⟩
  subst hw1
  clear hW2 HF
  by_cases hA0 : A = 0
  case neg =>
    have HV : Hid (C = A ∧ rtL ls s = []) := by
      have e : C = A := by rw [H.out.2.2.2.2.1, if_neg hA0]
      exact ⟨e, by rw [H.out.2.2.2.2.2.1, if_neg (by rw [e]; exact hA0)]⟩
    have hA1 : (A != 0) = true := by simpa using hA0
    go_wp2
    try simp only [Exit.inBlock, Exit.then]
    refine bodyPost_ret (by simp [results, Try.results25, go_sem, q0, q1, ql]; try rfl) rfl ⟨.slice none 0 0, [], by rw [HV.out.1], ?_, ?_⟩
    · rw [HV.out.2]; exact RI.nil _ _
    · have hB := HW.out.1
      (repeat' (first | (with_reducible exact Below.refl _ _) | (with_reducible assumption) | (with_reducible refine Below.setCell ?_ ?_ _) | (with_reducible refine Below.alloc ?_ ?_ _) | (with_reducible refine below_drewN ?_ _) | (with_reducible refine Below.drew ?_) | (with_reducible exact Nat.le_refl _) | omega | (simp; done) | (simp; omega)))
  have HCP : Hid (C = P) := by unfold Hid; rw [H.out.2.2.2.2.1, if_pos hA0]
  have HA0 : Hid (gfC ls 1000000 = 0) := H.out.2.2.1.symm.trans hA0
  subst hA0
  go_wp2_with (fail)
  refine (HT.out _ HW.out.1).mono ?_
  rintro e w2 ⟨rfl, hw2⟩
  subst hw2
  clear HT
  by_cases hP0 : P = 0
  case neg =>
    have HV : Hid (C = P ∧ rtL ls s = []) := ⟨HCP.out, by rw [H.out.2.2.2.2.2.1, if_neg (by rw [HCP.out]; exact hP0)]⟩
    have hP1 : (P != 0) = true := by simpa using hP0
    go_wp2
    try simp only [Exit.inBlock, Exit.then]
    refine bodyPost_ret (by simp [results, Try.results25, go_sem, q0, q1, ql]; try rfl) rfl ⟨.slice none 0 0, [], by rw [HV.out.1], ?_, ?_⟩
    · rw [HV.out.2]; exact RI.nil _ _
    · have hB := HW.out.1
      (repeat' (first | (with_reducible exact Below.refl _ _) | (with_reducible assumption) | (with_reducible refine Below.setCell ?_ ?_ _) | (with_reducible refine Below.alloc ?_ ?_ _) | (with_reducible refine below_drewN ?_ _) | (with_reducible refine Below.drew ?_) | (with_reducible exact Nat.le_refl _) | omega | (simp; done) | (simp; omega)))
  have htg := tbF_good (H.out.2.2.2.1.symm.trans hP0)
  rw [← H.out.2.2.2.2.2.2] at htg
  have hwr : IntKind.i64.wrap ((tn : Int) - 1) = (tn : Int) - 1 := by rw [IntKind.wrap_i64]; omega
  have HV : Hid (C = 0 ∧ rtL ls s = tnL (rtT s) ls) := by
    have e : C = 0 := by rw [HCP.out]; exact hP0
    exact ⟨e, by rw [H.out.2.2.2.2.2.1, if_pos e]⟩
  obtain ⟨W3, hW3⟩ : ∃ W, W = w2.alloc (.cells #[.int .i64 ((tn : Int) - 1)] 2) := ⟨_, rfl⟩
  have HW3 : Hid (Below w.heap.size w W3 ∧ W3.heap[w.heap.size]? = some (.cells #[.slice ta tn tc] 38) ∧ W3.heap[w.heap.size + 1]? = some (.cells #[.int .i64 0, .slice none 0 0] 33) ∧ W3.heap[w2.heap.size]? = some (.cells #[.int .i64 ((tn : Int) - 1)] 2) ∧ W3.heap.size = w.heap.size + 1 + 1 + 1) := by
    have hs := HW.out.2.2.2
    have hb : Below w2.heap.size w2 W3 := by rw [hW3]; (repeat' (first | (with_reducible exact Below.refl _ _) | (with_reducible assumption) | (with_reducible refine Below.setCell ?_ ?_ _) | (with_reducible refine Below.alloc ?_ ?_ _) | (with_reducible refine below_drewN ?_ _) | (with_reducible refine Below.drew ?_) | (with_reducible exact Nat.le_refl _) | omega | (simp; done) | (simp; omega)))
    refine ⟨HW.out.1.trans (hb.mono HW.out.1.size), (hb.block _ (by omega)).trans HW.out.2.1, (hb.block _ (by omega)).trans HW.out.2.2.1, ?_, by rw [hW3]; simp; omega⟩
    rw [hW3]; exact heap_alloc_new w2 _
  have HE : Hid (Calls Try.prog 38 #[.slice a n c, .func (Fn.func 45) #[] #[.pointer (some ⟨w.heap.size, 0, none⟩), .pointer (some ⟨w2.heap.size, 0, none⟩)]] W3 fun e w' => ∃ v' vs, e = .returned v' ∧ RI w' W3.heap.size v' (tnL (rtT s) ls) vs ∧ Below W3.heap.size W3 w') :=
    impl_eachRate (.pointer (some ⟨w.heap.size, 0, none⟩)) (.pointer (some ⟨w2.heap.size, 0, none⟩)) (rtT s) (gfC_good HA0.out) (H.out.1.below HW3.out.1) (fun W x hW hx hx2 => impl_rt_clo x hx hx2 htg.1 htg.2 ((hW.block _ (ltOf HW3.out.2.1)).trans HW3.out.2.1) ((hW.block _ (ltOf HW3.out.2.2.2.1)).trans HW3.out.2.2.2.1) ((H.out.2.1.below HW3.out.1).below hW))
  clear H
  subst hP0
  go_wp2_with (fail)
  rw [← hW3]
  refine HE.out.mono ?_
  rintro e w5 ⟨v5, vs, rfl, hri, hb5⟩
  clear HE q0 q1 qf0 qf1 ql hW3 p0 pl
  obtain ⟨q0, q1, qf0, qf1, ql⟩ := two_of ((hb5.block _ (ltOf HW3.out.2.2.1)).trans HW3.out.2.2.1)
  obtain ⟨va, vc, rfl⟩ := hri.form
  obtain ⟨nn, hnn⟩ : ∃ x, x = (tnL (rtT s) ls).length := ⟨_, rfl⟩
  rw [← hnn] at hri ⊢
  have HR : Hid (RI w5 W3.heap.size (.slice va nn vc) (tnL (rtT s) ls) vs ∧ Below w.heap.size w w5) := ⟨hri, HW3.out.1.trans (hb5.mono HW3.out.1.size)⟩
  clear hri hb5 hnn
  go_wp2
  try simp only [Exit.inBlock, Exit.then]
  refine bodyPost_ret (by simp [results, Try.results25, go_sem, q0, q1, ql]; try rfl) rfl ⟨.slice va nn vc, vs, by rw [HV.out.1], ?_, ?_⟩
  · rw [HV.out.2]
    have hs := HW3.out.2.2.2.2
    refine RI.low (B := W3.heap.size) ?_ (by omega)
    repeat' (refine ri_result (w := w) ?_ (by omega) _ _)
    exact HR.out.1
  · have hB := HR.out.2
    (repeat' (first | (with_reducible exact Below.refl _ _) | (with_reducible assumption) | (with_reducible refine Below.setCell ?_ ?_ _) | (with_reducible refine Below.alloc ?_ ?_ _) | (with_reducible refine below_drewN ?_ _) | (with_reducible refine Below.drew ?_) | (with_reducible exact Nat.le_refl _) | omega | (simp; done) | (simp; omega)))

end Go.Proofs.Yteoddodeppgjaaa
