/- Proved here: ActiveOf of the model. -/
import Derived.Test.YtfjfogiohijkkabPfX
import Derived.Test.YtfjfogiohijkkabPfS
import Derived.Test.YtfjfogiohijkkabPfT
import Derived.Test.YtfjfogiohijkkabJnM
import Derived.StillTail
namespace Go.Proofs.Ytfjfogiohijkkab
open Go.RowKit
set_option linter.unusedVariables false
set_option linter.unusedSimpArgs false

set_option maxHeartbeats 400000 in
theorem spec_minA (a b : Int) (r : Int) (hr : r = mnA a b) (w : World) : Calls Try.prog 26 #[.int .i64 a, .int .i64 b] w fun e w' => e = .returned (.int .i64 r) ∧ w' = w := by
  subst hr
  unfold mnA
  by_cases h : a < b
  · rw [if_pos h]
    go_enter Try.func26, Try.ntmps26
    go_wp2
    go_returns
    exact ⟨rfl, rfl⟩
  · rw [if_neg h]
    go_enter Try.func26, Try.ntmps26
    go_wp2
    go_returns
    exact ⟨rfl, rfl⟩

set_option maxRecDepth 100000 in
set_option maxHeartbeats 12800000 in
theorem spec_active (o t : Int) {W : World} {v : Value} {s : List Int} (hn : s.length ≤ 1048576) (h : RdI W v s) :
    Calls Try.prog 11 #[.agg #[v, .int .i64 o], .int .i64 t] W fun e w' => ∃ v' , e = .returned (.agg #[.int .i64 (acC s o t), v', .int .i64 (tdO (acC s o t) (acY s o t))]) ∧ IS w' W.heap.size v' (tdL (acC s o t) (acZ s t)) ∧ Below W.heap.size W w' := by
  obtain ⟨ua, uc, rfl⟩ := h.form
  obtain ⟨n, hnn⟩ : ∃ n, n = s.length := ⟨_, rfl⟩
  rw [← hnn] at h hn ⊢
  have HN : Hid (n = s.length) := hnn
  have H : Hid (RdI W (.slice ua n uc) s) := h
  obtain ⟨CC, hCC⟩ : ∃ x, x = acC s o t := ⟨_, rfl⟩
  rw [← hCC]
  obtain ⟨LL, hLL⟩ : ∃ x, x = tdL CC (acZ s t) := ⟨_, rfl⟩
  obtain ⟨QQ, hQQ⟩ : ∃ x, x = tdO CC (acY s o t) := ⟨_, rfl⟩
  rw [← hLL, ← hQQ]
  have HZ : Hid (CC ≠ 0 → LL = [] ∧ QQ = 0) := fun h9 => by rw [hLL, hQQ, tdL, tdO, if_neg h9, if_neg h9]; exact ⟨rfl, rfl⟩
  have HF : Hid (CC = acC s o t ∧ LL = tdL CC (acZ s t) ∧ QQ = tdO CC (acY s o t)) := ⟨hCC, hLL, hQQ⟩
  obtain ⟨C, hC⟩ : ∃ C, C = pfC s o := ⟨_, rfl⟩
  have HP : Hid (∀ V, Below W.heap.size W V → Calls Try.prog 18 #[.agg #[.slice ua n uc, .int .i64 o]] V fun e w' => e = .returned (.int .i64 C) ∧ Below V.heap.size V w') := fun V hV => by
    have := spec_pf o (by rw [← HN.out]; exact hn) (H.out.below hV)
    rwa [← hC] at this
  have HC : Hid (C = pfC s o) := hC
  clear hC hCC hLL hQQ h hnn
  by_cases h0 : C ≠ 0
  · have hC2 : (C != 0) = true := by simpa using h0
    have hcc : CC = C := by rw [HF.out.1, HC.out]; exact acC_bad (by rw [← HC.out]; exact h0)
    obtain ⟨e1, e2⟩ := HZ.out (by rw [hcc]; exact h0)
    subst e1 e2
    clear HF
    subst hcc
    go_enter Try.func11, Try.ntmps11
    go_wp2_with (fail)
    refine (HP.out _ (by (repeat' (first | (with_reducible exact Below.refl _ _) | (with_reducible assumption) | (with_reducible refine Below.setCell ?_ ?_ _) | (with_reducible refine Below.alloc ?_ ?_ _) | (with_reducible refine below_drewN ?_ _) | (with_reducible refine Below.drew ?_) | (with_reducible exact Nat.le_refl _) | omega | (simp; done) | (simp; omega))))).mono ?_
    rintro e w1 ⟨rfl, hb1⟩
    have HB : Hid (BB W [(W.heap.size, .cells #[.slice ua n uc, .int .i64 o] 29), (W.heap.size + 1, .cells #[.int .i64 0, .slice none 0 0, .int .i64 0] 35)] (W.heap.size + 1 + 1) w1) := (((BB.start W).push rfl _).push (k := W.heap.size + 1) (by simp) _).grow hb1 (by omega) (by have := hb1.size; simpa using this)
    clear hb1
    obtain ⟨k0, hk0⟩ : ∃ k, k = W.heap.size := ⟨_, rfl⟩
    rw [← hk0] at HB ⊢
    have HK : Hid (k0 = W.heap.size) := hk0
    clear hk0
    have a0_0 := cellOf (HB.out.at 0 rfl) 0 rfl
    have a0_1 := cellOf (HB.out.at 0 rfl) 1 rfl
    have a0_l := ltOf (HB.out.at 0 rfl)
    have t0 := cellOf (HB.out.at 1 rfl) 0 rfl
    have f0 := frozOf (HB.out.at 1 rfl) 0
    have t1 := cellOf (HB.out.at 1 rfl) 1 rfl
    have f1 := frozOf (HB.out.at 1 rfl) 1
    have t2 := cellOf (HB.out.at 1 rfl) 2 rfl
    have f2 := frozOf (HB.out.at 1 rfl) 2
    have tl := ltOf (HB.out.at 1 rfl)
    have q2 := (((HB.out.set 1 0 rfl (.int .i64 CC)).set 1 1 rfl (.slice none 0 0)).set 1 2 rfl (.int .i64 0))
    have u0 := cellOf (q2.at 1 rfl) 0 rfl
    have u1 := cellOf (q2.at 1 rfl) 1 rfl
    have u2 := cellOf (q2.at 1 rfl) 2 rfl
    have QB : Hid _ := q2.bl
    clear q2
    go_wp2
    refine bodyPost_ret (by simp [results, Try.results11, go_sem, u0, u1, u2]) rfl ⟨.slice none 0 0, rfl, World.ownsRow_nil _ _ _ _, QB.out⟩
  have h0' : C = 0 := by simpa using h0
  have hC0 : pfC s o = 0 := by rw [← HC.out]; exact h0'
  have HG : Hid (PG s o ∧ pfC s o = 0) := ⟨pfC_ok hC0, hC0⟩
  subst h0'
  clear h0 hC0 HC
  obtain ⟨r, hr⟩ : ∃ r, r = decide (0 ≤ t ∧ t ≤ 1000000000) := ⟨_, rfl⟩
  have HR : Hid (r = decide (0 ≤ t ∧ t ≤ 1000000000)) := hr
  clear hr
  by_cases q0 : r = false
  · subst q0
    have hx3 : ¬ (0 ≤ t ∧ t ≤ 1000000000) := fun h => by have := HR.out; rw [decide_eq_true h] at this; cases this
    have hcc : CC = 3 := by rw [HF.out.1]; exact acC_out HG.out.2 hx3
    obtain ⟨e1, e2⟩ := HZ.out (by rw [hcc]; decide)
    subst e1 e2
    clear HF hx3
    subst hcc
    go_enter Try.func11, Try.ntmps11
    go_wp2_with (fail)
    refine (HP.out _ (by (repeat' (first | (with_reducible exact Below.refl _ _) | (with_reducible assumption) | (with_reducible refine Below.setCell ?_ ?_ _) | (with_reducible refine Below.alloc ?_ ?_ _) | (with_reducible refine below_drewN ?_ _) | (with_reducible refine Below.drew ?_) | (with_reducible exact Nat.le_refl _) | omega | (simp; done) | (simp; omega))))).mono ?_
    rintro e w1 ⟨rfl, hb1⟩
    have HB : Hid (BB W [(W.heap.size, .cells #[.slice ua n uc, .int .i64 o] 29), (W.heap.size + 1, .cells #[.int .i64 0, .slice none 0 0, .int .i64 0] 35)] (W.heap.size + 1 + 1) w1) := (((BB.start W).push rfl _).push (k := W.heap.size + 1) (by simp) _).grow hb1 (by omega) (by have := hb1.size; simpa using this)
    clear hb1
    obtain ⟨k0, hk0⟩ : ∃ k, k = W.heap.size := ⟨_, rfl⟩
    rw [← hk0] at HB ⊢
    have HK : Hid (k0 = W.heap.size) := hk0
    clear hk0
    have a0_0 := cellOf (HB.out.at 0 rfl) 0 rfl
    have a0_1 := cellOf (HB.out.at 0 rfl) 1 rfl
    have a0_l := ltOf (HB.out.at 0 rfl)
    go_wp2_with (fail)
    refine (spec_ins t 0 1000000000 false HR.out _).mono ?_
    rintro e w3 ⟨rfl, hw⟩
    obtain rfl : w1 = w3 := hw.symm
    clear hw
    have t0 := cellOf (HB.out.at 1 rfl) 0 rfl
    have f0 := frozOf (HB.out.at 1 rfl) 0
    have t1 := cellOf (HB.out.at 1 rfl) 1 rfl
    have f1 := frozOf (HB.out.at 1 rfl) 1
    have t2 := cellOf (HB.out.at 1 rfl) 2 rfl
    have f2 := frozOf (HB.out.at 1 rfl) 2
    have tl := ltOf (HB.out.at 1 rfl)
    have q2 := (((HB.out.set 1 0 rfl (.int .i64 3)).set 1 1 rfl (.slice none 0 0)).set 1 2 rfl (.int .i64 0))
    have u0 := cellOf (q2.at 1 rfl) 0 rfl
    have u1 := cellOf (q2.at 1 rfl) 1 rfl
    have u2 := cellOf (q2.at 1 rfl) 2 rfl
    have QB : Hid _ := q2.bl
    clear q2
    go_wp2
    refine bodyPost_ret (by simp [results, Try.results11, go_sem, u0, u1, u2]) rfl ⟨.slice none 0 0, rfl, World.ownsRow_nil _ _ _ _, QB.out⟩
  have q0' : r = true := by cases r <;> simp_all
  subst q0'
  clear q0
  have h2 : 0 ≤ t ∧ t ≤ 1000000000 := of_decide_eq_true HR.out.symm
  have HCP : Hid (∀ V, Below W.heap.size W V → Calls Try.prog 25 #[.agg #[.slice ua n uc, .int .i64 o]] V fun e w' => ∃ g c, e = .returned (.agg #[.slice (some ⟨g, 0, none⟩) n c, .int .i64 o]) ∧ IS w' V.heap.size (.slice (some ⟨g, 0, none⟩) n c) s ∧ Below V.heap.size V w') := fun V hV => by
    have := spec_cpd o HG.out.1.pos (by rw [← HN.out]; exact hn) (H.out.below hV)
    rwa [← HN.out] at this
  go_enter Try.func11, Try.ntmps11
  go_wp2_with (fail)
  refine (HP.out _ (by (repeat' (first | (with_reducible exact Below.refl _ _) | (with_reducible assumption) | (with_reducible refine Below.setCell ?_ ?_ _) | (with_reducible refine Below.alloc ?_ ?_ _) | (with_reducible refine below_drewN ?_ _) | (with_reducible refine Below.drew ?_) | (with_reducible exact Nat.le_refl _) | omega | (simp; done) | (simp; omega))))).mono ?_
  rintro e w1 ⟨rfl, hb1⟩
  have HB : Hid (BB W [(W.heap.size, .cells #[.slice ua n uc, .int .i64 o] 29), (W.heap.size + 1, .cells #[.int .i64 0, .slice none 0 0, .int .i64 0] 35)] (W.heap.size + 1 + 1) w1) := (((BB.start W).push rfl _).push (k := W.heap.size + 1) (by simp) _).grow hb1 (by omega) (by have := hb1.size; simpa using this)
  clear hb1
  obtain ⟨k0, hk0⟩ : ∃ k, k = W.heap.size := ⟨_, rfl⟩
  rw [← hk0] at HB ⊢
  have HK : Hid (k0 = W.heap.size) := hk0
  clear hk0
  have a0_0 := cellOf (HB.out.at 0 rfl) 0 rfl
  have a0_1 := cellOf (HB.out.at 0 rfl) 1 rfl
  have a0_l := ltOf (HB.out.at 0 rfl)
  go_wp2_with (fail)
  refine (spec_ins t 0 1000000000 true HR.out _).mono ?_
  rintro e w3 ⟨rfl, hw⟩
  obtain rfl : w1 = w3 := hw.symm
  clear hw HR HP
  go_wp2_with (fail)
  refine (HCP.out _ HB.out.bl).mono ?_
  rintro e w2 ⟨g, cp, rfl, hi2, hb2⟩
  have HB2 : Hid (BB W [(k0, .cells #[.slice ua n uc, .int .i64 o] 29), (k0 + 1, .cells #[.int .i64 0, .slice none 0 0, .int .i64 0] 35)] (k0 + 1 + 1) w2) := HB.out.below hb2
  have hgl := (IS.lt hi2 g rfl)
  have hsz := HB.out.sz
  clear a0_0 a0_1 a0_l HCP
  go_wp2_with (fail)
  obtain ⟨K, hKK⟩ : ∃ K, K = w2.heap.size := ⟨_, rfl⟩
  obtain ⟨V, hV⟩ : ∃ w, w = w2.alloc (.cells #[.slice (some ⟨g, 0, none⟩) n cp, .int .i64 o] 29) := ⟨_, rfl⟩
  have hb4 : Below w2.heap.size w2 V := by rw [hV]; (repeat' (first | (with_reducible exact Below.refl _ _) | (with_reducible assumption) | (with_reducible refine Below.setCell ?_ ?_ _) | (with_reducible refine Below.alloc ?_ ?_ _) | (with_reducible refine below_drewN ?_ _) | (with_reducible refine Below.drew ?_) | (with_reducible exact Nat.le_refl _) | omega | (simp; done) | (simp; omega)))
  have HR0 : Hid (MP (k0 + 1 + 1) K g n cp (acL s t 0) (acO s o t 0) V ∧ BB W [(k0, .cells #[.slice ua n uc, .int .i64 o] 29), (k0 + 1, .cells #[.int .i64 0, .slice none 0 0, .int .i64 0] 35)] (k0 + 1 + 1) V) :=
    ⟨⟨by rw [hV, hKK]; exact heap_alloc_new _ _, (hi2.bel hb4).low (by omega), by omega, HN.out, ⟨by omega, by have := hb2.size; omega⟩⟩, HB2.out.below hb4⟩
  have HD : Hid (g < K ∧ k0 + 1 + 1 ≤ g ∧ k0 = W.heap.size) := ⟨by omega, by omega, HK.out⟩
  rw [← hKK, ← hV]
  clear hV hb4 hi2 hb2 hgl hsz HB2 HB hKK
  go_loopw [7, 8] (fun i _ wr => ∃ (k : Nat), k ≤ n ∧ i = .int .i64 (k : Int) ∧ Hid (MP (k0 + 1 + 1) K g n cp (acL s t k) (acO s o t k) wr ∧ BB W [(k0, .cells #[.slice ua n uc, .int .i64 o] 29), (k0 + 1, .cells #[.int .i64 0, .slice none 0 0, .int .i64 0] 35)] (k0 + 1 + 1) wr)) (fun i _ _ => n - (intOf i).toNat)
  case atStart => exact ⟨0, Nat.zero_le _, rfl, HR0.out⟩
  case round =>
    clear HR0
    obtain ⟨k, hk, rfl, hR⟩ := hrel
    have hmm := hR.out.1
    by_cases hlt : k < n
    · obtain ⟨x, hx⟩ : ∃ x, x = s.getD k 0 := ⟨_, rfl⟩
      obtain ⟨Z, hZ⟩ : ∃ Z, Z = mnA x t := ⟨_, rfl⟩
      obtain ⟨O, hO⟩ : ∃ O, O = acO s o t k := ⟨_, rfl⟩
      have hxb := HG.out.1.c k
      rw [← hx] at hxb
      have hzb := mnA_bd hxb.1 h2.1
      rw [← hZ] at hzb
      have hob := acO_bd HG.out.1 h2.1 k
      rw [← hO] at hob
      have hl40 := HG.out.1.len
      have hkn : k < 40 := by rw [← HN.out] at hl40; omega
      obtain ⟨c0, c1⟩ := hmm.cell hlt
      rw [acL_at s t k k (Nat.le_refl _), ← hx] at c0
      have m0 := cellOf hmm.bx 0 rfl
      have m1 : wr.cell? ⟨K, 1, none⟩ = some (.int .i64 O) := by rw [hO]; exact cellOf hmm.bx 1 rfl
      have m1f := frozOf hmm.bx 1
      have ml := ltOf hmm.bx
      have gl := hmm.lt.1
      have k1 : IntKind.i64.wrap (O + x) = O + x := by rw [IntKind.wrap_i64]; omega
      have k2 : IntKind.i64.wrap (O + x - Z) = O + x - Z := by rw [IntKind.wrap_i64]; omega
      obtain ⟨A1, hA1⟩ : ∃ A1, A1 = (wr.setCell ⟨K, 1, none⟩ (.int .i64 (O + x - Z))).drew := ⟨_, rfl⟩
      have hS1 : MP (k0 + 1 + 1) K g n cp (acL s t k) (O + x - Z) A1 ∧ BB W [(k0, .cells #[.slice ua n uc, .int .i64 o] 29), (k0 + 1, .cells #[.int .i64 0, .slice none 0 0, .int .i64 0] 35)] (k0 + 1 + 1) A1 := by
        have h9 := HD.out
        have hd : Below (wr.setCell ⟨K, 1, none⟩ (.int .i64 (O + x - Z))).heap.size (wr.setCell ⟨K, 1, none⟩ (.int .i64 (O + x - Z))) (wr.setCell ⟨K, 1, none⟩ (.int .i64 (O + x - Z))).drew := (Below.refl _ _).drew
        rw [hA1]
        refine ⟨(hmm.setO _).below hd, (hR.out.2.other (by omega) (fun p hp => ?_) _).below hd⟩
        have := (hR.out.2.lo p hp).2
        omega
      have n0 : (wr.setCell ⟨K, 1, none⟩ (.int .i64 (O + x - Z))).cell? ⟨K, 0, none⟩ = some (.slice (some ⟨g, 0, none⟩) n cp) := by have := cellOf hS1.1.bx 0 (v := .slice (some ⟨g, 0, none⟩) n cp) rfl; rw [hA1] at this; exact this
      have nl : K < (wr.setCell ⟨K, 1, none⟩ (.int .i64 (O + x - Z))).heap.size := by have := ltOf hS1.1.bx; rw [hA1] at this; exact this
      have d0 : (wr.setCell ⟨K, 1, none⟩ (.int .i64 (O + x - Z))).cell? ⟨g, k, none⟩ = some (.int .i64 x) := by
        have h7 := (hS1.1.cell hlt).1
        rw [acL_at s t k k (Nat.le_refl _), ← hx, hA1] at h7; exact h7
      have d1 : (wr.setCell ⟨K, 1, none⟩ (.int .i64 (O + x - Z))).frozen? ⟨g, k, none⟩ = false := by
        have h7 := (hS1.1.cell hlt).2
        rw [hA1] at h7; exact h7
      have dl : g < (wr.setCell ⟨K, 1, none⟩ (.int .i64 (O + x - Z))).heap.size := by have := hS1.1.lt.1; rw [hA1] at this; exact this
      have HF5 : Hid (MP (k0 + 1 + 1) K g n cp (acL s t (k + 1)) (acO s o t (k + 1)) (A1.setCell ⟨g, k, none⟩ (.int .i64 Z)) ∧ BB W [(k0, .cells #[.slice ua n uc, .int .i64 o] 29), (k0 + 1, .cells #[.int .i64 0, .slice none 0 0, .int .i64 0] 35)] (k0 + 1 + 1) (A1.setCell ⟨g, k, none⟩ (.int .i64 Z))) := by
        have h9 := HD.out
        refine ⟨?_, hS1.2.other (by omega) (fun p hp => ?_) _⟩
        · rw [acL, acO, ← hx, ← hZ, ← hO, show O + (x - Z) = O + x - Z by omega]
          exact hS1.1.setL k Z
        · have := (hS1.2.lo p hp).2; omega
      have HZ9 : Hid (Z = mnA x t) := hZ
      have HA1 : Hid (A1 = (wr.setCell ⟨K, 1, none⟩ (.int .i64 (O + x - Z))).drew) := hA1
      have b3 : (0 : Int) ≤ (k : Int) := by omega
      have b4 : (k : Int) < (n : Int) := by omega
      clear hx hZ hO hxb hzb hob hl40 hkn hR hmm hS1 hA1
      go_wp2_with (fail)
      refine (spec_minA x t Z HZ9.out _).mono ?_
      rintro e w3 ⟨rfl, hw⟩
      obtain rfl : wr = w3 := hw.symm
      clear hw
      go_wp2_with (fail)
      refine wp_region_still_tail 11 (by kernel_rfl) (by kernel_rfl) ?_
      have hdw : ({ wr with drawn := wr.drawn + 1 } : World) = wr.drew := rfl
      rw [hdw]
      clear hdw
      simp only [List.take_succ_cons, List.take_zero, List.drop_succ_cons, List.drop_zero]
      iterate 11 still_step
      refine wpStill_nil ?_
      go_wp2
      rw [HA1.out] at HF5
      go_roundw
      case rel => exact ⟨k + 1, hlt, by go_num, HF5.out⟩
      case measure => simp [intOf] <;> omega
    · obtain rfl : n = k := by omega
      obtain ⟨M, hM⟩ : ∃ M, M = acL s t n := ⟨_, rfl⟩
      obtain ⟨O, hO⟩ : ∃ O, O = acO s o t n := ⟨_, rfl⟩
      rw [← hM, ← hO] at hmm
      have h9 := HD.out
      have HM : Hid (MP W.heap.size K g n cp M O wr) := ⟨hmm.bx, hmm.is.low (by omega), hmm.ne, hmm.len, ⟨by omega, by omega⟩⟩
      have HX : Hid (BB W [(k0, .cells #[.slice ua n uc, .int .i64 o] 29), (k0 + 1, .cells #[.int .i64 0, .slice none 0 0, .int .i64 0] 35)] (k0 + 1 + 1) wr) := hR.out.2
      have hln : M.length ≤ 1048576 := by rw [← hmm.len]; exact hn
      have HNE : Hid (g ≠ k0 + 1 ∧ True) := ⟨by omega, trivial⟩
      have HCM : Hid (CC = pfC M O ∧ LL = tdL CC M ∧ QQ = tdO CC O) := by
        have h8 := HF.out
        rw [acC_in HG.out.2 h2] at h8
        rw [hM, hO, HN.out]
        exact h8
      clear hR hmm hM hO h9
      have ma0 := cellOf HM.out.bx 0 rfl
      have ma1 := cellOf HM.out.bx 1 rfl
      have mal := ltOf HM.out.bx
      by_cases hz : pfC (M) (O) = 0
      · obtain ⟨e1, e2, e3⟩ : CC = 0 ∧ LL = M ∧ QQ = O := ⟨by rw [HCM.out.1, hz], by rw [HCM.out.2.1, tdL, if_pos (by rw [HCM.out.1, hz])], by rw [HCM.out.2.2, tdO, if_pos (by rw [HCM.out.1, hz])]⟩
        have HA : Hid (∀ V, Below wr.heap.size wr V → Calls Try.prog 27 #[.agg #[.slice (some ⟨g, 0, none⟩) n cp, .int .i64 O]] V fun e w' => e = .returned (.agg #[.int .i64 0, .slice (some ⟨g, 0, none⟩) n cp, .int .i64 QQ]) ∧ Below V.heap.size V w') := fun V hV => by
          have := spec_ans_ok hz (HM.out.rd.below hV)
          rw [e3]; exact this
        clear hz
        subst e1
        clear e3
        have HLL : Hid (LL = M) := e2
        clear e2
        go_wp2_with (fail)
        refine (HA.out _ (Below.refl _ _)).mono ?_
        rintro e w5 ⟨rfl, hb5⟩
        have HX5 := HX.out.below hb5
        have HM5 := HM.out.below hb5
        clear hb5 ma0 ma1 mal
        have t0 := cellOf (HX5.at 1 rfl) 0 rfl
        have f0 := frozOf (HX5.at 1 rfl) 0
        have t1 := cellOf (HX5.at 1 rfl) 1 rfl
        have f1 := frozOf (HX5.at 1 rfl) 1
        have t2 := cellOf (HX5.at 1 rfl) 2 rfl
        have f2 := frozOf (HX5.at 1 rfl) 2
        have tl := ltOf (HX5.at 1 rfl)
        have q2 := (((HX5.set 1 0 rfl (.int .i64 0)).set 1 1 rfl (.slice (some ⟨g, 0, none⟩) n cp)).set 1 2 rfl (.int .i64 QQ))
        have q3 := q2
        have u0 := cellOf (q3.at 1 rfl) 0 rfl
        have u1 := cellOf (q3.at 1 rfl) 1 rfl
        have u2 := cellOf (q3.at 1 rfl) 2 rfl
        have QB : Hid _ := q3.bl
        have HI : Hid (IS (((w5.setCell ⟨k0 + 1, 0, none⟩ (.int .i64 0)).setCell ⟨k0 + 1, 1, none⟩ (.slice (some ⟨g, 0, none⟩) n cp)).setCell ⟨k0 + 1, 2, none⟩ (.int .i64 QQ)) W.heap.size (.slice (some ⟨g, 0, none⟩) n cp) LL) := by
          unfold Hid
          rw [HLL.out]
          refine HM5.is.keepE ?_
          rw [heap_setCell_other _ _ _ _ HNE.out.1, heap_setCell_other _ _ _ _ HNE.out.1, heap_setCell_other _ _ _ _ HNE.out.1]
        clear q2 q3
        go_wp2
        refine bodyPost_ret (by simp [results, Try.results11, go_sem, u0, u1, u2]) rfl ⟨.slice (some ⟨g, 0, none⟩) n cp, rfl, HI.out, QB.out⟩
      · obtain ⟨e1, e2⟩ := HZ.out (by rw [HCM.out.1]; exact hz)
        have HA : Hid (∀ V, Below wr.heap.size wr V → Calls Try.prog 27 #[.agg #[.slice (some ⟨g, 0, none⟩) n cp, .int .i64 O]] V fun e w' => e = .returned (.agg #[.int .i64 CC, .slice none 0 0, .int .i64 0]) ∧ Below V.heap.size V w') := fun V hV => by
          have := spec_ans_bad hln hz (HM.out.rd.below hV)
          rwa [← HCM.out.1] at this
        clear hz
        subst e1 e2
        go_wp2_with (fail)
        refine (HA.out _ (Below.refl _ _)).mono ?_
        rintro e w5 ⟨rfl, hb5⟩
        have HX5 := HX.out.below hb5
        have HM5 := HM.out.below hb5
        clear hb5 ma0 ma1 mal
        have t0 := cellOf (HX5.at 1 rfl) 0 rfl
        have f0 := frozOf (HX5.at 1 rfl) 0
        have t1 := cellOf (HX5.at 1 rfl) 1 rfl
        have f1 := frozOf (HX5.at 1 rfl) 1
        have t2 := cellOf (HX5.at 1 rfl) 2 rfl
        have f2 := frozOf (HX5.at 1 rfl) 2
        have tl := ltOf (HX5.at 1 rfl)
        have q2 := (((HX5.set 1 0 rfl (.int .i64 CC)).set 1 1 rfl (.slice none 0 0)).set 1 2 rfl (.int .i64 0))
        have q3 := q2
        have u0 := cellOf (q3.at 1 rfl) 0 rfl
        have u1 := cellOf (q3.at 1 rfl) 1 rfl
        have u2 := cellOf (q3.at 1 rfl) 2 rfl
        have QB : Hid _ := q3.bl
        clear q2 q3
        go_wp2
        refine bodyPost_ret (by simp [results, Try.results11, go_sem, u0, u1, u2]) rfl ⟨.slice none 0 0, rfl, World.ownsRow_nil _ _ _ _, QB.out⟩

end Go.Proofs.Ytfjfogiohijkkab
