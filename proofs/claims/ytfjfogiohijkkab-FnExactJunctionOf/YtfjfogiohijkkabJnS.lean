/- Proved here: JunctionOf of the model. -/
import Derived.Test.YtfjfogiohijkkabPfX
import Derived.Test.YtfjfogiohijkkabPfS
import Derived.Test.YtfjfogiohijkkabJnM
namespace Go.Proofs.Ytfjfogiohijkkab
open Go.RowKit
set_option linter.unusedVariables false
set_option linter.unusedSimpArgs false

set_option maxRecDepth 100000 in
set_option maxHeartbeats 12800000 in
theorem spec_junc (o a : Int) {W : World} {v : Value} {s : List Int} (hn : s.length ≤ 1048576) (h : RdI W v s) :
    Calls Try.prog 6 #[.agg #[v, .int .i64 o], .int .i64 a] W fun e w' => e = .returned (.agg #[.int .i64 (jnC s o a), .int .i64 (jnV s o a)]) ∧ Below W.heap.size W w' := by
  obtain ⟨ua, uc, rfl⟩ := h.form
  obtain ⟨n, hnn⟩ : ∃ n, n = s.length := ⟨_, rfl⟩
  rw [← hnn] at h hn ⊢
  have HN : Hid (n = s.length) := hnn
  have H : Hid (RdI W (.slice ua n uc) s) := h
  obtain ⟨CC, hCC⟩ : ∃ x, x = jnC s o a := ⟨_, rfl⟩
  obtain ⟨QQ, hQQ⟩ : ∃ x, x = jnV s o a := ⟨_, rfl⟩
  rw [← hCC, ← hQQ]
  have HF : Hid (CC = jnC s o a ∧ QQ = jnV s o a) := ⟨hCC, hQQ⟩
  obtain ⟨C, hC⟩ : ∃ C, C = pfC s o := ⟨_, rfl⟩
  have HP : Hid (∀ V, Below W.heap.size W V → Calls Try.prog 18 #[.agg #[.slice ua n uc, .int .i64 o]] V fun e w' => e = .returned (.int .i64 C) ∧ Below V.heap.size V w') := fun V hV => by
    have := spec_pf o (by rw [← HN.out]; exact hn) (H.out.below hV)
    rwa [← hC] at this
  have HC : Hid (C = pfC s o) := hC
  clear hC hCC hQQ h hnn
  by_cases h0 : C ≠ 0
  · have hC2 : (C != 0) = true := by simpa using h0
    obtain ⟨e1, e2⟩ : CC = C ∧ QQ = 0 := by
      have := jn_bad (s := s) (o := o) (a := a) (by rw [← HC.out]; exact h0)
      rw [HF.out.1, HF.out.2, HC.out]; exact this
    clear HF
    subst e1 e2
    go_enter Try.func6, Try.ntmps6
    go_wp2_with (fail)
    refine (HP.out _ (by (repeat' (first | (with_reducible exact Below.refl _ _) | (with_reducible assumption) | (with_reducible refine Below.setCell ?_ ?_ _) | (with_reducible refine Below.alloc ?_ ?_ _) | (with_reducible refine below_drewN ?_ _) | (with_reducible refine Below.drew ?_) | (with_reducible exact Nat.le_refl _) | omega | (simp; done) | (simp; omega))))).mono ?_
    rintro e w1 ⟨rfl, hb1⟩
    have HB : Hid (BB W [(W.heap.size, .cells #[.slice ua n uc, .int .i64 o] 29), (W.heap.size + 1, .cells #[.int .i64 0, .int .i64 0] 27)] (W.heap.size + 1 + 1) w1) := (((BB.start W).push rfl _).push (k := W.heap.size + 1) (by simp) _).grow hb1 (by omega) (by have := hb1.size; simpa using this)
    clear hb1
    obtain ⟨k0, hk0⟩ : ∃ k, k = W.heap.size := ⟨_, rfl⟩
    rw [← hk0] at HB ⊢
    have HK : Hid (k0 = W.heap.size) := hk0
    clear hk0
    have a0_0 := cellOf (HB.out.at 0 rfl) 0 rfl
    have a0_1 := cellOf (HB.out.at 0 rfl) 1 rfl
    have a0_l := ltOf (HB.out.at 0 rfl)
    have t0 := cellOf (HB.out.at 1 rfl) 0 rfl
    have f0 := frozOf (HB.out.at 1 rfl) 0
    have t1 := cellOf (HB.out.at 1 rfl) 1 rfl
    have f1 := frozOf (HB.out.at 1 rfl) 1
    have tl := ltOf (HB.out.at 1 rfl)
    have q2 := ((HB.out.set 1 0 rfl (.int .i64 CC)).set 1 1 rfl (.int .i64 0))
    have q3 := q2
    have u0 := cellOf (q3.at 1 rfl) 0 rfl
    have u1 := cellOf (q3.at 1 rfl) 1 rfl
    have QB : Hid _ := q3.bl
    clear q2 q3
    go_wp2
    refine bodyPost_ret (by simp [results, Try.results6, go_sem, u0, u1]) rfl ⟨rfl, QB.out⟩
  have h0' : C = 0 := by simpa using h0
  have hC0 : pfC s o = 0 := by rw [← HC.out]; exact h0'
  have HG : Hid (PG s o ∧ pfC s o = 0) := ⟨pfC_ok hC0, hC0⟩
  subst h0'
  clear h0 hC0 HC
  obtain ⟨r, hr⟩ : ∃ r, r = decide (0 ≤ a ∧ a ≤ 1000000000) := ⟨_, rfl⟩
  have HR : Hid (r = decide (0 ≤ a ∧ a ≤ 1000000000)) := hr
  clear hr
  by_cases q0 : r = false
  · subst q0
    have hx3 : ¬ (0 ≤ a ∧ a ≤ 1000000000) := fun h => by have := HR.out; rw [decide_eq_true h] at this; cases this
    obtain ⟨e1, e2⟩ : CC = 3 ∧ QQ = 0 := by
      rw [HF.out.1, HF.out.2]; exact jn_out HG.out.2 hx3
    clear HF hx3
    subst e1 e2
    go_enter Try.func6, Try.ntmps6
    go_wp2_with (fail)
    refine (HP.out _ (by (repeat' (first | (with_reducible exact Below.refl _ _) | (with_reducible assumption) | (with_reducible refine Below.setCell ?_ ?_ _) | (with_reducible refine Below.alloc ?_ ?_ _) | (with_reducible refine below_drewN ?_ _) | (with_reducible refine Below.drew ?_) | (with_reducible exact Nat.le_refl _) | omega | (simp; done) | (simp; omega))))).mono ?_
    rintro e w1 ⟨rfl, hb1⟩
    have HB : Hid (BB W [(W.heap.size, .cells #[.slice ua n uc, .int .i64 o] 29), (W.heap.size + 1, .cells #[.int .i64 0, .int .i64 0] 27)] (W.heap.size + 1 + 1) w1) := (((BB.start W).push rfl _).push (k := W.heap.size + 1) (by simp) _).grow hb1 (by omega) (by have := hb1.size; simpa using this)
    clear hb1
    obtain ⟨k0, hk0⟩ : ∃ k, k = W.heap.size := ⟨_, rfl⟩
    rw [← hk0] at HB ⊢
    have HK : Hid (k0 = W.heap.size) := hk0
    clear hk0
    have a0_0 := cellOf (HB.out.at 0 rfl) 0 rfl
    have a0_1 := cellOf (HB.out.at 0 rfl) 1 rfl
    have a0_l := ltOf (HB.out.at 0 rfl)
    go_wp2_with (fail)
    refine (spec_ins a 0 1000000000 false HR.out _).mono ?_
    rintro e w3 ⟨rfl, hw⟩
    obtain rfl : w1 = w3 := hw.symm
    clear hw
    have t0 := cellOf (HB.out.at 1 rfl) 0 rfl
    have f0 := frozOf (HB.out.at 1 rfl) 0
    have t1 := cellOf (HB.out.at 1 rfl) 1 rfl
    have f1 := frozOf (HB.out.at 1 rfl) 1
    have tl := ltOf (HB.out.at 1 rfl)
    have q2 := ((HB.out.set 1 0 rfl (.int .i64 3)).set 1 1 rfl (.int .i64 0))
    have q3 := q2
    have u0 := cellOf (q3.at 1 rfl) 0 rfl
    have u1 := cellOf (q3.at 1 rfl) 1 rfl
    have QB : Hid _ := q3.bl
    clear q2 q3
    go_wp2
    refine bodyPost_ret (by simp [results, Try.results6, go_sem, u0, u1]) rfl ⟨rfl, QB.out⟩
  have q0' : r = true := by cases r <;> simp_all
  subst q0'
  clear q0
  have h2 : 0 ≤ a ∧ a ≤ 1000000000 := of_decide_eq_true HR.out.symm
  go_enter Try.func6, Try.ntmps6
  go_wp2_with (fail)
  refine (HP.out _ (by (repeat' (first | (with_reducible exact Below.refl _ _) | (with_reducible assumption) | (with_reducible refine Below.setCell ?_ ?_ _) | (with_reducible refine Below.alloc ?_ ?_ _) | (with_reducible refine below_drewN ?_ _) | (with_reducible refine Below.drew ?_) | (with_reducible exact Nat.le_refl _) | omega | (simp; done) | (simp; omega))))).mono ?_
  rintro e w1 ⟨rfl, hb1⟩
  have HB : Hid (BB W [(W.heap.size, .cells #[.slice ua n uc, .int .i64 o] 29), (W.heap.size + 1, .cells #[.int .i64 0, .int .i64 0] 27)] (W.heap.size + 1 + 1) w1) := (((BB.start W).push rfl _).push (k := W.heap.size + 1) (by simp) _).grow hb1 (by omega) (by have := hb1.size; simpa using this)
  clear hb1
  obtain ⟨k0, hk0⟩ : ∃ k, k = W.heap.size := ⟨_, rfl⟩
  rw [← hk0] at HB ⊢
  have HK : Hid (k0 = W.heap.size) := hk0
  clear hk0
  have a0_0 := cellOf (HB.out.at 0 rfl) 0 rfl
  have a0_1 := cellOf (HB.out.at 0 rfl) 1 rfl
  have a0_l := ltOf (HB.out.at 0 rfl)
  go_wp2_with (fail)
  refine (spec_ins a 0 1000000000 true HR.out _).mono ?_
  rintro e w3 ⟨rfl, hw⟩
  obtain rfl : w1 = w3 := hw.symm
  clear hw HR HP
  have hs40 : 0 < n ∧ n ≤ 40 := by rw [HN.out]; exact ⟨HG.out.1.pos, HG.out.1.len⟩
  go_wp2_with (fail)
  go_loop [6] (fun i => ∃ k : Nat, 1 ≤ k ∧ k ≤ n ∧ i = .int .i64 (k : Int) ∧ Hid ((jf a (dpL s k)).2 = none)) (fun i => n - (intOf i).toNat)
  case atStart => exact ⟨1, Nat.le_refl _, hs40.1, rfl, jf_one (by rw [← HN.out]; exact hs40.1)⟩
  case round =>
    obtain ⟨k, hk1, hk, rfl, hR⟩ := hrel
    by_cases hlt : k < n
    · have hks : k < s.length := by rw [← HN.out]; exact hlt
      have hnx := jf_next hk1 hks hR.out
      obtain ⟨g, oo, rfl, hg, d0⟩ := rd_at (H.out.below HB.out.bl) hlt
      obtain ⟨g', o', e9, _, d1⟩ := rd_at (H.out.below HB.out.bl) (show k - 1 < n by omega)
      injection e9 with e9
      injection e9 with e10 e11
      subst e10 e11
      obtain ⟨x, hx⟩ : ∃ x, x = s.getD k 0 := ⟨_, rfl⟩
      obtain ⟨y, hy⟩ : ∃ y, y = s.getD (k - 1) 0 := ⟨_, rfl⟩
      rw [← hx, ← hy] at hnx
      rw [← hx] at d0
      rw [← hy] at d1
      have HNX : Hid ((jf a (dpL s (k + 1))).2 = if x < a ∧ a ≤ y then some k else none) := hnx
      have k1 : IntKind.i64.wrap ((k : Int) - 1) = ((k - 1 : Nat) : Int) := by rw [IntKind.wrap_i64]; omega
      have k2 : (k : Int) - 1 = ((k - 1 : Nat) : Int) := by omega
      have k3 : IntKind.i64.wrap ((k - 1 : Nat) : Int) = ((k - 1 : Nat) : Int) := by rw [IntKind.wrap_i64]; omega
      have b1 : (0 : Int) ≤ ((k - 1 : Nat) : Int) := by omega
      have b2 : ((k - 1 : Nat) : Int) < (n : Int) := by omega
      have b3 : (0 : Int) ≤ (k : Int) := by omega
      have b4 : (k : Int) < (n : Int) := by omega
      have HKS : Hid (k < s.length) := hks
      clear hx hy hnx hks
      by_cases h1 : x < a
      · by_cases h3 : a ≤ y
        · have hj : jnO s a = some k := by
            unfold jnO; exact jf_end (k := k + 1) HKS.out (by rw [HNX.out, if_pos ⟨h1, h3⟩])
          obtain ⟨e1, e2⟩ : CC = 0 ∧ QQ = (k : Int) := by rw [HF.out.1, HF.out.2]; exact jn_some HG.out.2 h2 hj
          clear HF hj hR
          subst e1 e2
          have t0 := cellOf (HB.out.at 1 rfl) 0 rfl
          have f0 := frozOf (HB.out.at 1 rfl) 0
          have t1 := cellOf (HB.out.at 1 rfl) 1 rfl
          have f1 := frozOf (HB.out.at 1 rfl) 1
          have tl := ltOf (HB.out.at 1 rfl)
          have q2 := ((HB.out.set 1 0 rfl (.int .i64 0)).set 1 1 rfl (.int .i64 (k : Int)))
          have q3 := q2
          have u0 := cellOf (q3.at 1 rfl) 0 rfl
          have u1 := cellOf (q3.at 1 rfl) 1 rfl
          have QB : Hid _ := q3.bl
          clear q2 q3
          go_wp2
          refine bodyPost_ret (by simp [results, Try.results6, go_sem, u0, u1]) rfl ⟨rfl, QB.out⟩
        · have HN2 : Hid ((jf a (dpL s (k + 1))).2 = none) := by unfold Hid; rw [HNX.out, if_neg (fun h => h3 h.2)]
          clear hR
          go_wp2
          go_round
          case rel => exact ⟨k + 1, by omega, by omega, by go_num, HN2.out⟩
          case measure => simp [intOf] <;> omega
      · have HN2 : Hid ((jf a (dpL s (k + 1))).2 = none) := by unfold Hid; rw [HNX.out, if_neg (fun h => h1 h.1)]
        clear hR
        go_wp2
        go_round
        case rel => exact ⟨k + 1, by omega, by omega, by go_num, HN2.out⟩
        case measure => simp [intOf] <;> omega
    · have hj : jnO s a = none := by unfold jnO; rw [show s.length = k by rw [← HN.out]; omega]; exact hR.out
      obtain ⟨e1, e2⟩ : CC = 4 ∧ QQ = 0 := by rw [HF.out.1, HF.out.2]; exact jn_none HG.out.2 h2 hj
      clear HF hj hR
      subst e1 e2
      have t0 := cellOf (HB.out.at 1 rfl) 0 rfl
      have f0 := frozOf (HB.out.at 1 rfl) 0
      have t1 := cellOf (HB.out.at 1 rfl) 1 rfl
      have f1 := frozOf (HB.out.at 1 rfl) 1
      have tl := ltOf (HB.out.at 1 rfl)
      have q2 := ((HB.out.set 1 0 rfl (.int .i64 4)).set 1 1 rfl (.int .i64 0))
      have q3 := q2
      have u0 := cellOf (q3.at 1 rfl) 0 rfl
      have u1 := cellOf (q3.at 1 rfl) 1 rfl
      have QB : Hid _ := q3.bl
      clear q2 q3
      go_wp2
      refine bodyPost_ret (by simp [results, Try.results6, go_sem, u0, u1]) rfl ⟨rfl, QB.out⟩

end Go.Proofs.Ytfjfogiohijkkab
