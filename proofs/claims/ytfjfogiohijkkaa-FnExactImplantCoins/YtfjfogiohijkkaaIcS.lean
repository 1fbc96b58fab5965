/- Proved here: ImplantCoins of the model. -/
import Derived.Test.YtfjfogiohijkkaaPfX
import Derived.Test.YtfjfogiohijkkaaPfS
import Derived.Test.YtfjfogiohijkkaaPfT
import Derived.Test.YtfjfogiohijkkaaIcM
import Derived.Test.YtfjfogiohijkkaaSCoins
import Derived.StillTail
namespace Go.Proofs.Ytfjfogiohijkkaa
open Go.RowKit
set_option linter.unusedVariables false
set_option linter.unusedSimpArgs false

theorem fldC2 (C S : Int) (a : Option Addr) (m c : Nat) (w : World) : (Instr.field 61 (.agg #[.int .i64 C, .int .i64 S, .slice a m c]) 2).run Try.prog w = .ok (.slice a m c) w := by kernel_rfl

set_option maxRecDepth 100000 in
set_option maxHeartbeats 12800000 in
theorem spec_coined (o m k sd : Int) {W : World} {v : Value} {s : List Int} (hn : s.length ≤ 1048576) (h : RdI W v s) :
    Calls Try.prog 26 #[.agg #[v, .int .i64 o], .int .i64 m, .int .i64 k, .int .i64 sd] W fun e w' => ∃ v' , e = .returned (.agg #[.int .i64 (icC s o m k sd), v', .int .i64 (tdO (icC s o m k sd) (icO s o (icK sd m k) k.toNat m.toNat))]) ∧ IS w' W.heap.size v' (tdL (icC s o m k sd) (icL s (icK sd m k) k.toNat m.toNat)) ∧ Below W.heap.size W w' := by
  obtain ⟨ua, uc, rfl⟩ := h.form
  obtain ⟨n, hnn⟩ : ∃ n, n = s.length := ⟨_, rfl⟩
  rw [← hnn] at h hn ⊢
  have HN : Hid (n = s.length) := hnn
  have H : Hid (RdI W (.slice ua n uc) s) := h
  obtain ⟨CC, hCC⟩ : ∃ x, x = icC s o m k sd := ⟨_, rfl⟩
  rw [← hCC]
  obtain ⟨LL, hLL⟩ : ∃ x, x = tdL CC (icL s (icK sd m k) k.toNat m.toNat) := ⟨_, rfl⟩
  obtain ⟨QQ, hQQ⟩ : ∃ x, x = tdO CC (icO s o (icK sd m k) k.toNat m.toNat) := ⟨_, rfl⟩
  rw [← hLL, ← hQQ]
  have HZ : Hid (CC ≠ 0 → LL = [] ∧ QQ = 0) := fun h9 => by rw [hLL, hQQ, tdL, tdO, if_neg h9, if_neg h9]; exact ⟨rfl, rfl⟩
  have HF : Hid (CC = icC s o m k sd ∧ LL = tdL CC (icL s (icK sd m k) k.toNat m.toNat) ∧ QQ = tdO CC (icO s o (icK sd m k) k.toNat m.toNat)) := ⟨hCC, hLL, hQQ⟩
  obtain ⟨C, hC⟩ : ∃ C, C = pfC s o := ⟨_, rfl⟩
  have HP : Hid (∀ V, Below W.heap.size W V → Calls Try.prog 10 #[.agg #[.slice ua n uc, .int .i64 o]] V fun e w' => e = .returned (.int .i64 C) ∧ Below V.heap.size V w') := fun V hV => by
    have := spec_pf o (by rw [← HN.out]; exact hn) (H.out.below hV)
    rwa [← hC] at this
  have HC : Hid (C = pfC s o) := hC
  clear hC hCC hLL hQQ h hnn
  by_cases h0 : C ≠ 0
  · have hC2 : (C != 0) = true := by simpa using h0
    have hcc : CC = C := by rw [HF.out.1, HC.out]; exact icC_bad (by rw [← HC.out]; exact h0)
    obtain ⟨e1, e2⟩ := HZ.out (by rw [hcc]; exact h0)
    subst e1 e2
    clear HF
    subst hcc
    go_enter Try.func26, Try.ntmps26
    go_wp2_with (fail)
    refine (HP.out _ (by (repeat' (first | (with_reducible exact Below.refl _ _) | (with_reducible assumption) | (with_reducible refine Below.setCell ?_ ?_ _) | (with_reducible refine Below.alloc ?_ ?_ _) | (with_reducible refine below_drewN ?_ _) | (with_reducible refine Below.drew ?_) | (with_reducible exact Nat.le_refl _) | omega | (simp; done) | (simp; omega))))).mono ?_
    rintro e w1 ⟨rfl, hb1⟩
    have HB : Hid (BB W [(W.heap.size, .cells #[.slice ua n uc, .int .i64 o] 27), (W.heap.size + 1, .cells #[.int .i64 0, .slice none 0 0, .int .i64 0] 36)] (W.heap.size + 1 + 1) w1) := (((BB.start W).push rfl _).push (k := W.heap.size + 1) (by simp) _).grow hb1 (by omega) (by have := hb1.size; simpa using this)
    clear hb1
    obtain ⟨k0, hk0⟩ : ∃ k, k = W.heap.size := ⟨_, rfl⟩
    rw [← hk0] at HB ⊢
    have HK : Hid (k0 = W.heap.size) := hk0
    clear hk0
    have a0_0 := cellOf (HB.out.at 0 rfl) 0 rfl
    have a0_1 := cellOf (HB.out.at 0 rfl) 1 rfl
    have a0_l := ltOf (HB.out.at 0 rfl)
    have t0 := cellOf (HB.out.at 1 rfl) 0 rfl
    have f0 := frozOf (HB.out.at 1 rfl) 0
    have t1 := cellOf (HB.out.at 1 rfl) 1 rfl
    have f1 := frozOf (HB.out.at 1 rfl) 1
    have t2 := cellOf (HB.out.at 1 rfl) 2 rfl
    have f2 := frozOf (HB.out.at 1 rfl) 2
    have tl := ltOf (HB.out.at 1 rfl)
    have q2 := (((HB.out.set 1 0 rfl (.int .i64 CC)).set 1 1 rfl (.slice none 0 0)).set 1 2 rfl (.int .i64 0))
    have u0 := cellOf (q2.at 1 rfl) 0 rfl
    have u1 := cellOf (q2.at 1 rfl) 1 rfl
    have u2 := cellOf (q2.at 1 rfl) 2 rfl
    have QB : Hid _ := q2.bl
    clear q2
    go_wp2
    refine bodyPost_ret (by simp [results, Try.results26, go_sem, u0, u1, u2]) rfl ⟨.slice none 0 0, rfl, World.ownsRow_nil _ _ _ _, QB.out⟩
  have h0' : C = 0 := by simpa using h0
  have hC0 : pfC s o = 0 := by rw [← HC.out]; exact h0'
  have HG : Hid (PG s o ∧ pfC s o = 0) := ⟨pfC_ok hC0, hC0⟩
  subst h0'
  clear h0 hC0 HC
  obtain ⟨r0, hr0⟩ : ∃ r, r = decide (1 ≤ sd ∧ sd ≤ 2147483646) := ⟨_, rfl⟩
  obtain ⟨r1, hr1⟩ : ∃ r, r = decide (0 ≤ m ∧ m ≤ 200) := ⟨_, rfl⟩
  obtain ⟨r2, hr2⟩ : ∃ r, r = decide (1 ≤ k ∧ k ≤ 20) := ⟨_, rfl⟩
  have HR : Hid (r0 = decide (1 ≤ sd ∧ sd ≤ 2147483646) ∧ r1 = decide (0 ≤ m ∧ m ≤ 200) ∧ r2 = decide (1 ≤ k ∧ k ≤ 20) ∧ icB m k = (r1 && r2)) := ⟨hr0, hr1, hr2, by rw [hr1, hr2, icB]; exact Bool.decide_and _ _⟩
  clear hr0 hr1 hr2
  by_cases q0 : r0 = false
  · subst q0
    have hx3 : ¬ (1 ≤ sd ∧ sd ≤ 2147483646) := fun h => by have := HR.out.1; rw [decide_eq_true h] at this; cases this
    have hcc : CC = 1 := by rw [HF.out.1]; exact icC_sd HG.out.2 hx3
    obtain ⟨e1, e2⟩ := HZ.out (by rw [hcc]; decide)
    subst e1 e2
    clear HF hx3
    subst hcc
    go_enter Try.func26, Try.ntmps26
    go_wp2_with (fail)
    refine (HP.out _ (by (repeat' (first | (with_reducible exact Below.refl _ _) | (with_reducible assumption) | (with_reducible refine Below.setCell ?_ ?_ _) | (with_reducible refine Below.alloc ?_ ?_ _) | (with_reducible refine below_drewN ?_ _) | (with_reducible refine Below.drew ?_) | (with_reducible exact Nat.le_refl _) | omega | (simp; done) | (simp; omega))))).mono ?_
    rintro e w1 ⟨rfl, hb1⟩
    have HB : Hid (BB W [(W.heap.size, .cells #[.slice ua n uc, .int .i64 o] 27), (W.heap.size + 1, .cells #[.int .i64 0, .slice none 0 0, .int .i64 0] 36)] (W.heap.size + 1 + 1) w1) := (((BB.start W).push rfl _).push (k := W.heap.size + 1) (by simp) _).grow hb1 (by omega) (by have := hb1.size; simpa using this)
    clear hb1
    obtain ⟨k0, hk0⟩ : ∃ k, k = W.heap.size := ⟨_, rfl⟩
    rw [← hk0] at HB ⊢
    have HK : Hid (k0 = W.heap.size) := hk0
    clear hk0
    have a0_0 := cellOf (HB.out.at 0 rfl) 0 rfl
    have a0_1 := cellOf (HB.out.at 0 rfl) 1 rfl
    have a0_l := ltOf (HB.out.at 0 rfl)
    go_wp2_with (fail)
    refine (spec_ins sd 1 2147483646 false HR.out.1 _).mono ?_
    rintro e w3 ⟨rfl, hw⟩
    obtain rfl : w1 = w3 := hw.symm
    clear hw
    have t0 := cellOf (HB.out.at 1 rfl) 0 rfl
    have f0 := frozOf (HB.out.at 1 rfl) 0
    have t1 := cellOf (HB.out.at 1 rfl) 1 rfl
    have f1 := frozOf (HB.out.at 1 rfl) 1
    have t2 := cellOf (HB.out.at 1 rfl) 2 rfl
    have f2 := frozOf (HB.out.at 1 rfl) 2
    have tl := ltOf (HB.out.at 1 rfl)
    have q2 := (((HB.out.set 1 0 rfl (.int .i64 1)).set 1 1 rfl (.slice none 0 0)).set 1 2 rfl (.int .i64 0))
    have u0 := cellOf (q2.at 1 rfl) 0 rfl
    have u1 := cellOf (q2.at 1 rfl) 1 rfl
    have u2 := cellOf (q2.at 1 rfl) 2 rfl
    have QB : Hid _ := q2.bl
    clear q2
    go_wp2
    refine bodyPost_ret (by simp [results, Try.results26, go_sem, u0, u1, u2]) rfl ⟨.slice none 0 0, rfl, World.ownsRow_nil _ _ _ _, QB.out⟩
  have q0' : r0 = true := by cases r0 <;> simp_all
  subst q0'
  clear q0
  have h2 : 1 ≤ sd ∧ sd ≤ 2147483646 := of_decide_eq_true HR.out.1.symm
  by_cases q1 : r1 = false
  · subst q1
    have hcc : CC = 3 := by rw [HF.out.1]; exact icC_out HG.out.2 h2 (by rw [HR.out.2.2.2]; rfl)
    obtain ⟨e1, e2⟩ := HZ.out (by rw [hcc]; decide)
    subst e1 e2
    clear HF
    subst hcc
    go_enter Try.func26, Try.ntmps26
    go_wp2_with (fail)
    refine (HP.out _ (by (repeat' (first | (with_reducible exact Below.refl _ _) | (with_reducible assumption) | (with_reducible refine Below.setCell ?_ ?_ _) | (with_reducible refine Below.alloc ?_ ?_ _) | (with_reducible refine below_drewN ?_ _) | (with_reducible refine Below.drew ?_) | (with_reducible exact Nat.le_refl _) | omega | (simp; done) | (simp; omega))))).mono ?_
    rintro e w1 ⟨rfl, hb1⟩
    have HB : Hid (BB W [(W.heap.size, .cells #[.slice ua n uc, .int .i64 o] 27), (W.heap.size + 1, .cells #[.int .i64 0, .slice none 0 0, .int .i64 0] 36)] (W.heap.size + 1 + 1) w1) := (((BB.start W).push rfl _).push (k := W.heap.size + 1) (by simp) _).grow hb1 (by omega) (by have := hb1.size; simpa using this)
    clear hb1
    obtain ⟨k0, hk0⟩ : ∃ k, k = W.heap.size := ⟨_, rfl⟩
    rw [← hk0] at HB ⊢
    have HK : Hid (k0 = W.heap.size) := hk0
    clear hk0
    have a0_0 := cellOf (HB.out.at 0 rfl) 0 rfl
    have a0_1 := cellOf (HB.out.at 0 rfl) 1 rfl
    have a0_l := ltOf (HB.out.at 0 rfl)
    go_wp2_with (fail)
    refine (spec_ins sd 1 2147483646 true HR.out.1 _).mono ?_
    rintro e w3 ⟨rfl, hw⟩
    obtain rfl : w1 = w3 := hw.symm
    clear hw
    go_wp2_with (fail)
    refine (spec_ins m 0 200 false HR.out.2.1 _).mono ?_
    rintro e w3 ⟨rfl, hw⟩
    obtain rfl : w1 = w3 := hw.symm
    clear hw
    have t0 := cellOf (HB.out.at 1 rfl) 0 rfl
    have f0 := frozOf (HB.out.at 1 rfl) 0
    have t1 := cellOf (HB.out.at 1 rfl) 1 rfl
    have f1 := frozOf (HB.out.at 1 rfl) 1
    have t2 := cellOf (HB.out.at 1 rfl) 2 rfl
    have f2 := frozOf (HB.out.at 1 rfl) 2
    have tl := ltOf (HB.out.at 1 rfl)
    have q2 := (((HB.out.set 1 0 rfl (.int .i64 3)).set 1 1 rfl (.slice none 0 0)).set 1 2 rfl (.int .i64 0))
    have u0 := cellOf (q2.at 1 rfl) 0 rfl
    have u1 := cellOf (q2.at 1 rfl) 1 rfl
    have u2 := cellOf (q2.at 1 rfl) 2 rfl
    have QB : Hid _ := q2.bl
    clear q2
    go_wp2
    refine bodyPost_ret (by simp [results, Try.results26, go_sem, u0, u1, u2]) rfl ⟨.slice none 0 0, rfl, World.ownsRow_nil _ _ _ _, QB.out⟩
  have q1' : r1 = true := by cases r1 <;> simp_all
  subst q1'
  clear q1
  by_cases q2 : r2 = false
  · subst q2
    have hcc : CC = 3 := by rw [HF.out.1]; exact icC_out HG.out.2 h2 (by rw [HR.out.2.2.2]; rfl)
    obtain ⟨e1, e2⟩ := HZ.out (by rw [hcc]; decide)
    subst e1 e2
    clear HF
    subst hcc
    go_enter Try.func26, Try.ntmps26
    go_wp2_with (fail)
    refine (HP.out _ (by (repeat' (first | (with_reducible exact Below.refl _ _) | (with_reducible assumption) | (with_reducible refine Below.setCell ?_ ?_ _) | (with_reducible refine Below.alloc ?_ ?_ _) | (with_reducible refine below_drewN ?_ _) | (with_reducible refine Below.drew ?_) | (with_reducible exact Nat.le_refl _) | omega | (simp; done) | (simp; omega))))).mono ?_
    rintro e w1 ⟨rfl, hb1⟩
    have HB : Hid (BB W [(W.heap.size, .cells #[.slice ua n uc, .int .i64 o] 27), (W.heap.size + 1, .cells #[.int .i64 0, .slice none 0 0, .int .i64 0] 36)] (W.heap.size + 1 + 1) w1) := (((BB.start W).push rfl _).push (k := W.heap.size + 1) (by simp) _).grow hb1 (by omega) (by have := hb1.size; simpa using this)
    clear hb1
    obtain ⟨k0, hk0⟩ : ∃ k, k = W.heap.size := ⟨_, rfl⟩
    rw [← hk0] at HB ⊢
    have HK : Hid (k0 = W.heap.size) := hk0
    clear hk0
    have a0_0 := cellOf (HB.out.at 0 rfl) 0 rfl
    have a0_1 := cellOf (HB.out.at 0 rfl) 1 rfl
    have a0_l := ltOf (HB.out.at 0 rfl)
    go_wp2_with (fail)
    refine (spec_ins sd 1 2147483646 true HR.out.1 _).mono ?_
    rintro e w3 ⟨rfl, hw⟩
    obtain rfl : w1 = w3 := hw.symm
    clear hw
    go_wp2_with (fail)
    refine (spec_ins m 0 200 true HR.out.2.1 _).mono ?_
    rintro e w3 ⟨rfl, hw⟩
    obtain rfl : w1 = w3 := hw.symm
    clear hw
    go_wp2_with (fail)
    refine (spec_ins k 1 20 false HR.out.2.2.1 _).mono ?_
    rintro e w3 ⟨rfl, hw⟩
    obtain rfl : w1 = w3 := hw.symm
    clear hw
    have t0 := cellOf (HB.out.at 1 rfl) 0 rfl
    have f0 := frozOf (HB.out.at 1 rfl) 0
    have t1 := cellOf (HB.out.at 1 rfl) 1 rfl
    have f1 := frozOf (HB.out.at 1 rfl) 1
    have t2 := cellOf (HB.out.at 1 rfl) 2 rfl
    have f2 := frozOf (HB.out.at 1 rfl) 2
    have tl := ltOf (HB.out.at 1 rfl)
    have q2 := (((HB.out.set 1 0 rfl (.int .i64 3)).set 1 1 rfl (.slice none 0 0)).set 1 2 rfl (.int .i64 0))
    have u0 := cellOf (q2.at 1 rfl) 0 rfl
    have u1 := cellOf (q2.at 1 rfl) 1 rfl
    have u2 := cellOf (q2.at 1 rfl) 2 rfl
    have QB : Hid _ := q2.bl
    clear q2
    go_wp2
    refine bodyPost_ret (by simp [results, Try.results26, go_sem, u0, u1, u2]) rfl ⟨.slice none 0 0, rfl, World.ownsRow_nil _ _ _ _, QB.out⟩
  have q2' : r2 = true := by cases r2 <;> simp_all
  subst q2'
  clear q2
  have hmb : 0 ≤ m ∧ m ≤ 200 := of_decide_eq_true HR.out.2.1.symm
  have hkb : 1 ≤ k ∧ k ≤ 20 := of_decide_eq_true HR.out.2.2.1.symm
  have HIB : Hid (icB m k = true) := HR.out.2.2.2
  obtain ⟨mn, hmn⟩ : ∃ x : Nat, m = (x : Int) := ⟨m.toNat, by omega⟩
  obtain ⟨kn, hkn⟩ : ∃ x : Nat, k = (x : Int) := ⟨k.toNat, by omega⟩
  subst hmn hkn
  have hs40 : 0 < n ∧ n ≤ 40 := by rw [HN.out]; exact ⟨HG.out.1.pos, HG.out.1.len⟩
  obtain ⟨co, hco⟩ : ∃ x, x = coinsK sd 3 (mn * kn) := ⟨_, rfl⟩
  have HCO : Hid (co = coinsK sd 3 (mn * kn) ∧ co = icK sd (mn : Int) (kn : Int) ∧ C2 co ∧ co.length = mn * kn) := ⟨hco, hco, by rw [hco]; exact C2_coins _ _, by rw [hco, coinsK_length]⟩
  clear hco
  have HCP : Hid (∀ V, Below W.heap.size W V → Calls Try.prog 36 #[.agg #[.slice ua n uc, .int .i64 o]] V fun e w' => ∃ g c, e = .returned (.agg #[.slice (some ⟨g, 0, none⟩) n c, .int .i64 o]) ∧ IS w' V.heap.size (.slice (some ⟨g, 0, none⟩) n c) s ∧ Below V.heap.size V w') := fun V hV => by
    have := spec_cpd o HG.out.1.pos (by rw [← HN.out]; exact hn) (H.out.below hV)
    rwa [← HN.out] at this
  go_enter Try.func26, Try.ntmps26
  go_wp2_with (fail)
  refine (HP.out _ (by (repeat' (first | (with_reducible exact Below.refl _ _) | (with_reducible assumption) | (with_reducible refine Below.setCell ?_ ?_ _) | (with_reducible refine Below.alloc ?_ ?_ _) | (with_reducible refine below_drewN ?_ _) | (with_reducible refine Below.drew ?_) | (with_reducible exact Nat.le_refl _) | omega | (simp; done) | (simp; omega))))).mono ?_
  rintro e w1 ⟨rfl, hb1⟩
  have HB : Hid (BB W [(W.heap.size, .cells #[.slice ua n uc, .int .i64 o] 27), (W.heap.size + 1, .cells #[.int .i64 0, .slice none 0 0, .int .i64 0] 36)] (W.heap.size + 1 + 1) w1) := (((BB.start W).push rfl _).push (k := W.heap.size + 1) (by simp) _).grow hb1 (by omega) (by have := hb1.size; simpa using this)
  clear hb1
  obtain ⟨k0, hk0⟩ : ∃ k, k = W.heap.size := ⟨_, rfl⟩
  rw [← hk0] at HB ⊢
  have HK : Hid (k0 = W.heap.size) := hk0
  clear hk0
  have a0_0 := cellOf (HB.out.at 0 rfl) 0 rfl
  have a0_1 := cellOf (HB.out.at 0 rfl) 1 rfl
  have a0_l := ltOf (HB.out.at 0 rfl)
  go_wp2_with (fail)
  refine (spec_ins sd 1 2147483646 true HR.out.1 _).mono ?_
  rintro e w3 ⟨rfl, hw⟩
  obtain rfl : w1 = w3 := hw.symm
  clear hw
  go_wp2_with (fail)
  refine (spec_ins (mn : Int) 0 200 true HR.out.2.1 _).mono ?_
  rintro e w3 ⟨rfl, hw⟩
  obtain rfl : w1 = w3 := hw.symm
  clear hw
  go_wp2_with (fail)
  refine (spec_ins (kn : Int) 1 20 true HR.out.2.2.1 _).mono ?_
  rintro e w3 ⟨rfl, hw⟩
  obtain rfl : w1 = w3 := hw.symm
  clear hw
  clear HP HR
  go_wp2_with (fail)
  refine (HCP.out _ HB.out.bl).mono ?_
  rintro e w2 ⟨g, cp, rfl, hi2, hb2⟩
  have HB2 : Hid (BB W [(k0, .cells #[.slice ua n uc, .int .i64 o] 27), (k0 + 1, .cells #[.int .i64 0, .slice none 0 0, .int .i64 0] 36)] (k0 + 1 + 1) w2) := HB.out.below hb2
  have hgl := (IS.lt hi2 g rfl)
  have hsz := HB.out.sz
  obtain ⟨mk, hmk⟩ : ∃ x, x = mn * kn := ⟨_, rfl⟩
  have hmk2 : mk ≤ 4000 := by rw [hmk]; exact Nat.mul_le_mul (show mn ≤ 200 by omega) (show kn ≤ 20 by omega)
  have kw : IntKind.i64.wrap ((mn : Int) * (kn : Int)) = (mk : Int) := by rw [hmk, IntKind.wrap_i64, ← Int.natCast_mul, ← hmk]; omega
  have kw2 : (mn : Int) * (kn : Int) = (mk : Int) := by rw [hmk, Int.natCast_mul]
  have HMK : Hid (mk = mn * kn) := hmk
  clear a0_0 a0_1 a0_l HCP hmk
  go_wp2_with (fail)
  obtain ⟨K, hKK⟩ : ∃ K, K = w2.heap.size := ⟨_, rfl⟩
  obtain ⟨V, hV⟩ : ∃ w, w = w2.alloc (.cells #[.slice (some ⟨g, 0, none⟩) n cp, .int .i64 o] 27) := ⟨_, rfl⟩
  have hb4 : Below w2.heap.size w2 V := by rw [hV]; (repeat' (first | (with_reducible exact Below.refl _ _) | (with_reducible assumption) | (with_reducible refine Below.setCell ?_ ?_ _) | (with_reducible refine Below.alloc ?_ ?_ _) | (with_reducible refine below_drewN ?_ _) | (with_reducible refine Below.drew ?_) | (with_reducible exact Nat.le_refl _) | omega | (simp; done) | (simp; omega)))
  have HM4 : Hid (MP (k0 + 1 + 1) K g n cp s o V ∧ BB W [(k0, .cells #[.slice ua n uc, .int .i64 o] 27), (k0 + 1, .cells #[.int .i64 0, .slice none 0 0, .int .i64 0] 36)] (k0 + 1 + 1) V ∧ g < K ∧ k0 + 1 + 1 ≤ g ∧ V.heap.size = K + 1 ∧ k0 = W.heap.size) :=
    ⟨⟨by rw [hV, hKK]; exact heap_alloc_new _ _, (hi2.bel hb4).low (by omega), by omega, HN.out, ⟨by omega, by have := hb2.size; omega⟩⟩, HB2.out.below hb4, by omega, by omega, by rw [hV, hKK]; simp, HK.out⟩
  rw [← hKK, ← hV]
  clear hV hb4 hi2 hb2 hgl hsz HB2 HB hKK
  refine (spec_coins_ok sd 3 mk _ h2.1 h2.2 (by omega) (by omega) (by omega)).mono ?_
  rintro e w5 ⟨cv, rfl, hi5, hb5⟩
  have hcq : co = coinsK sd 3 mk := by rw [HCO.out.1, HMK.out]
  rw [← hcq] at hi5
  have hcl : co.length = mk := by rw [HCO.out.2.2.2, HMK.out]
  obtain ⟨ca, cc, rfl⟩ := hi5.form
  rw [hcl] at hi5 ⊢
  have hfl := fldC2 0 (seedK sd mk) ca mk cc
  have HR0 : Hid (MP (k0 + 1 + 1) K g n cp (icL s co kn 0) (icO s o co kn 0) w5 ∧ BB W [(k0, .cells #[.slice ua n uc, .int .i64 o] 27), (k0 + 1, .cells #[.int .i64 0, .slice none 0 0, .int .i64 0] 36)] (k0 + 1 + 1) w5 ∧ IS w5 V.heap.size (.slice ca mk cc) co) := ⟨HM4.out.1.below hb5, HM4.out.2.1.below hb5, hi5⟩
  have HD : Hid (g < K ∧ k0 + 1 + 1 ≤ g ∧ V.heap.size = K + 1 ∧ k0 = W.heap.size) := HM4.out.2.2
  have HCL : Hid (co.length = mk ∧ mk = mn * kn) := ⟨hcl, HMK.out⟩
  clear hcq hcl hi5 hb5 HM4 kw kw2 HMK
  go_wp2_with (fail)
  go_loopw [12, 13, 14] (fun i _ _ wr => ∃ (a : Nat), a ≤ mn ∧ i = .int .i64 (a : Int) ∧ Hid (MP (k0 + 1 + 1) K g n cp (icL s co kn a) (icO s o co kn a) wr ∧ BB W [(k0, .cells #[.slice ua n uc, .int .i64 o] 27), (k0 + 1, .cells #[.int .i64 0, .slice none 0 0, .int .i64 0] 36)] (k0 + 1 + 1) wr ∧ IS wr V.heap.size (.slice ca mk cc) co)) (fun i _ _ _ => mn - (intOf i).toNat)
  case atStart => exact ⟨0, Nat.zero_le _, rfl, HR0.out⟩
  case round =>
    clear HR0
    obtain ⟨a, ha, rfl, hR⟩ := hrel
    by_cases hlt : a < mn
    · obtain ⟨ak, hak⟩ : ∃ x, x = a * kn := ⟨_, rfl⟩
      have hle : (a + 1) * kn ≤ mn * kn := Nat.mul_le_mul_right _ hlt
      rw [Nat.succ_mul, ← HCL.out.2, ← hak] at hle
      have kw : IntKind.i64.wrap ((a : Int) * (kn : Int)) = (ak : Int) := by rw [hak, IntKind.wrap_i64, ← Int.natCast_mul, ← hak]; omega
      have kw2 : (a : Int) * (kn : Int) = (ak : Int) := by rw [hak, Int.natCast_mul]
      have kw3 : IntKind.i64.wrap (ak : Int) = (ak : Int) := by rw [IntKind.wrap_i64]; omega
      have HAK : Hid (ak = a * kn) := hak
      have b3 : (a : Int) < (mn : Int) := by omega
      clear hak
      go_wp2_with (fail)
      go_loop [13, 14] (fun d i => ∃ (q : Nat) (S : Int), q ≤ kn ∧ i = .int .i64 (q : Int) ∧ d = .int .i64 S ∧ 0 ≤ S ∧ S ≤ 1000 ∧ Hid (S = suL ((co.drop (a * kn)).take q))) (fun _ i => kn - (intOf i).toNat)
      case atStart => exact ⟨0, 0, Nat.zero_le _, rfl, rfl, by omega, by omega, by unfold Hid; simp [suL]⟩
      case round =>
        obtain ⟨q, S, hq, rfl, rfl, hS0, hS1, hQ⟩ := hrel
        by_cases hlq : q < kn
        · have hal : a * kn + kn ≤ co.length := by rw [HCL.out.1, ← HAK.out]; exact hle
          obtain ⟨x, hx⟩ : ∃ x, x = co.getD (ak + q) 0 := ⟨_, rfl⟩
          have hxb := HCO.out.2.2.1 (ak + q)
          rw [← hx] at hxb
          have hS2 : S + x = suL ((co.drop (a * kn)).take (q + 1)) := by rw [suL_take (by rw [List.length_drop]; omega), drop_at, ← hQ.out, hx, HAK.out]
          have hsb := su2_bd HCO.out.2.2.1 (a * kn) (q + 1) (by rw [List.length_drop]; omega)
          obtain ⟨gq, oq, rfl, hgq, d0⟩ := rd_at (IS.rg hR.out.2.2) (show ak + q < mk by omega)
          rw [← hx] at d0
          have HS : Hid (S + x = suL ((co.drop (a * kn)).take (q + 1)) ∧ 0 ≤ S + x ∧ S + x ≤ 1000) := ⟨hS2, by omega, by omega⟩
          have k1 : IntKind.i64.wrap (S + x) = S + x := by rw [IntKind.wrap_i64]; omega
          have k2 : IntKind.i64.wrap ((ak : Int) + (q : Int)) = ((ak + q : Nat) : Int) := by rw [IntKind.wrap_i64]; omega
          obtain ⟨aq, haq⟩ : ∃ z, z = ak + q := ⟨_, rfl⟩
          rw [← haq] at k2 d0
          have k3 : (ak : Int) + (q : Int) = (aq : Int) := by omega
          have b5 : (0 : Int) ≤ (aq : Int) := by omega
          have b6 : (aq : Int) < (mk : Int) := by omega
          have b7 : (q : Int) < (kn : Int) := by omega
          clear hal hx hxb hS2 hsb hQ hR haq
          go_wp2
          go_round
          case rel => exact ⟨q + 1, S + x, by omega, by go_num, rfl, HS.out.2.1, HS.out.2.2, HS.out.1⟩
          case measure => simp [intOf] <;> omega
        · have hal : a * kn + kn ≤ co.length := by rw [HCL.out.1, ← HAK.out]; exact hle
          have hSd : S = dpt co kn a := by rw [hQ.out, show q = kn by omega]; rfl
          obtain ⟨d, hd⟩ : ∃ d : Nat, S = (d : Int) := ⟨S.toNat, by omega⟩
          subst hd
          have HD2 : Hid ((dpt co kn a).toNat = d) := by unfold Hid; rw [← hSd]; rfl
          have hbd := icL_bd (co := co) HG.out.1 kn a
          have ha2 : (a : Int) ≤ 200 := by omega
          have hmm := hR.out.1
          have m0 := cellOf hmm.bx 0 rfl
          have ml := ltOf hmm.bx
          have b8 : ¬ (q : Int) < (kn : Int) := by omega
          by_cases hdn : d < n
          · obtain ⟨c0, c1⟩ := hmm.cell hdn
            obtain ⟨z, hz⟩ : ∃ z, z = (icL s co kn a).getD d 0 := ⟨_, rfl⟩
            have hzb := hbd.1 d
            rw [← hz] at c0 hzb
            have gl := hmm.lt.1
            have k1 : IntKind.i64.wrap (z + 1) = z + 1 := by rw [IntKind.wrap_i64]; omega
            have HF5 : Hid (MP (k0 + 1 + 1) K g n cp (icL s co kn (a + 1)) (icO s o co kn (a + 1)) (wr.drew.setCell ⟨g, d, none⟩ (.int .i64 (z + 1))) ∧ BB W [(k0, .cells #[.slice ua n uc, .int .i64 o] 27), (k0 + 1, .cells #[.int .i64 0, .slice none 0 0, .int .i64 0] 36)] (k0 + 1 + 1) (wr.drew.setCell ⟨g, d, none⟩ (.int .i64 (z + 1))) ∧ IS (wr.drew.setCell ⟨g, d, none⟩ (.int .i64 (z + 1))) V.heap.size (.slice ca mk cc) co) := by
              have hdd : Below wr.heap.size wr wr.drew := (Below.refl _ _).drew
              have h9 := HD.out
              refine ⟨?_, (hR.out.2.1.below hdd).other (by omega) (fun p hp => ?_) _, ?_⟩
              · rw [icL, icO, HD2.out, ptO, if_pos (by rw [icL_len, ← HN.out]; exact hdn), ptL, ← hz]
                exact (hmm.below hdd).setL d (z + 1)
              · have := (hR.out.2.1.lo p hp).2; omega
              · refine (hR.out.2.2.bel hdd).kept fun q hq => heap_setCell_other _ _ _ _ ?_
                have := (IS.lt hR.out.2.2 q hq).1
                show q ≠ g
                omega
            have b9 : (0 : Int) ≤ (d : Int) := by omega
            have b10 : (d : Int) < (n : Int) := by omega
            clear hR hmm hbd hz hzb hSd hal hQ
            go_wp2_with (fail)
            refine wp_region_still_tail 10 (by kernel_rfl) (by kernel_rfl) ?_
            have hdw : ({ wr with drawn := wr.drawn + 1 } : World) = wr.drew := rfl
            rw [hdw]
            clear hdw
            simp only [List.take_succ_cons, List.take_zero, List.drop_succ_cons, List.drop_zero]
            iterate 10 still_step
            refine wpStill_nil ?_
            go_wp2
            go_roundw
            case rel => exact ⟨a + 1, hlt, by go_num, HF5.out⟩
            case measure => simp [intOf] <;> omega
          · obtain ⟨O, hO⟩ : ∃ O, O = icO s o co kn a := ⟨_, rfl⟩
            have hob := hbd.2
            rw [← hO] at hob
            have m1 : wr.cell? ⟨K, 1, none⟩ = some (.int .i64 O) := by rw [hO]; exact cellOf hmm.bx 1 rfl
            have m1f := frozOf hmm.bx 1
            have k1 : IntKind.i64.wrap (O + 1) = O + 1 := by rw [IntKind.wrap_i64]; omega
            have HF5 : Hid (MP (k0 + 1 + 1) K g n cp (icL s co kn (a + 1)) (icO s o co kn (a + 1)) (wr.setCell ⟨K, 1, none⟩ (.int .i64 (O + 1))) ∧ BB W [(k0, .cells #[.slice ua n uc, .int .i64 o] 27), (k0 + 1, .cells #[.int .i64 0, .slice none 0 0, .int .i64 0] 36)] (k0 + 1 + 1) (wr.setCell ⟨K, 1, none⟩ (.int .i64 (O + 1))) ∧ IS (wr.setCell ⟨K, 1, none⟩ (.int .i64 (O + 1))) V.heap.size (.slice ca mk cc) co) := by
              have h9 := HD.out
              refine ⟨?_, hR.out.2.1.other (by omega) (fun p hp => ?_) _, ?_⟩
              · rw [icL, icO, HD2.out, ptO, if_neg (by rw [icL_len, ← HN.out]; exact hdn), ptL, List.set_eq_of_length_le (by rw [icL_len, ← HN.out]; omega), ← hO]
                exact hmm.setO (O + 1)
              · have := (hR.out.2.1.lo p hp).2; omega
              · refine hR.out.2.2.kept fun q hq => heap_setCell_other _ _ _ _ ?_
                have := (IS.lt hR.out.2.2 q hq).1
                show q ≠ K
                omega
            have b10 : ¬ (d : Int) < (n : Int) := by omega
            clear hR hmm hbd hO hob hSd hal hQ
            go_wp2
            go_roundw
            case rel => exact ⟨a + 1, hlt, by go_num, HF5.out⟩
            case measure => simp [intOf] <;> omega
    · obtain rfl : a = mn := by omega
      have hm := hR.out.1
      obtain ⟨M, hM⟩ : ∃ M, M = icL s co kn a := ⟨_, rfl⟩
      obtain ⟨O, hO⟩ : ∃ O, O = icO s o co kn a := ⟨_, rfl⟩
      rw [← hM, ← hO] at hm
      have h9 := HD.out
      have HM : Hid (MP W.heap.size K g n cp M O wr) := ⟨hm.bx, hm.is.low (by omega), hm.ne, hm.len, ⟨by omega, by omega⟩⟩
      have HX : Hid (BB W [(k0, .cells #[.slice ua n uc, .int .i64 o] 27), (k0 + 1, .cells #[.int .i64 0, .slice none 0 0, .int .i64 0] 36)] (k0 + 1 + 1) wr) := hR.out.2.1
      have hln : M.length ≤ 1048576 := by rw [← hm.len]; exact hn
      have HNE : Hid (g ≠ k0 + 1 ∧ True) := ⟨by omega, trivial⟩
      have HCM : Hid (CC = pfC M O ∧ LL = tdL CC M ∧ QQ = tdO CC O) := by
        have h8 := HF.out
        rw [icC_in HG.out.2 h2 HIB.out, ← HCO.out.2.1] at h8
        rw [hM, hO]
        exact h8
      clear hR hm hM hO h9
      have ma0 := cellOf HM.out.bx 0 rfl
      have ma1 := cellOf HM.out.bx 1 rfl
      have mal := ltOf HM.out.bx
      by_cases hz : pfC (M) (O) = 0
      · obtain ⟨e1, e2, e3⟩ : CC = 0 ∧ LL = M ∧ QQ = O := ⟨by rw [HCM.out.1, hz], by rw [HCM.out.2.1, tdL, if_pos (by rw [HCM.out.1, hz])], by rw [HCM.out.2.2, tdO, if_pos (by rw [HCM.out.1, hz])]⟩
        have HA : Hid (∀ V, Below wr.heap.size wr V → Calls Try.prog 37 #[.agg #[.slice (some ⟨g, 0, none⟩) n cp, .int .i64 O]] V fun e w' => e = .returned (.agg #[.int .i64 0, .slice (some ⟨g, 0, none⟩) n cp, .int .i64 QQ]) ∧ Below V.heap.size V w') := fun V hV => by
          have := spec_ans_ok hz (HM.out.rd.below hV)
          rw [e3]; exact this
        clear hz
        subst e1
        clear e3
        have HLL : Hid (LL = M) := e2
        clear e2
        go_wp2_with (fail)
        refine (HA.out _ (Below.refl _ _)).mono ?_
        rintro e w5 ⟨rfl, hb5⟩
        have HX5 := HX.out.below hb5
        have HM5 := HM.out.below hb5
        clear hb5 ma0 ma1 mal
        have t0 := cellOf (HX5.at 1 rfl) 0 rfl
        have f0 := frozOf (HX5.at 1 rfl) 0
        have t1 := cellOf (HX5.at 1 rfl) 1 rfl
        have f1 := frozOf (HX5.at 1 rfl) 1
        have t2 := cellOf (HX5.at 1 rfl) 2 rfl
        have f2 := frozOf (HX5.at 1 rfl) 2
        have tl := ltOf (HX5.at 1 rfl)
        have q2 := (((HX5.set 1 0 rfl (.int .i64 0)).set 1 1 rfl (.slice (some ⟨g, 0, none⟩) n cp)).set 1 2 rfl (.int .i64 QQ))
        have q3 := q2
        have u0 := cellOf (q3.at 1 rfl) 0 rfl
        have u1 := cellOf (q3.at 1 rfl) 1 rfl
        have u2 := cellOf (q3.at 1 rfl) 2 rfl
        have QB : Hid _ := q3.bl
        have HI : Hid (IS (((w5.setCell ⟨k0 + 1, 0, none⟩ (.int .i64 0)).setCell ⟨k0 + 1, 1, none⟩ (.slice (some ⟨g, 0, none⟩) n cp)).setCell ⟨k0 + 1, 2, none⟩ (.int .i64 QQ)) W.heap.size (.slice (some ⟨g, 0, none⟩) n cp) LL) := by
          unfold Hid
          rw [HLL.out]
          refine HM5.is.keepE ?_
          rw [heap_setCell_other _ _ _ _ HNE.out.1, heap_setCell_other _ _ _ _ HNE.out.1, heap_setCell_other _ _ _ _ HNE.out.1]
        clear q2 q3
        go_wp2
        refine bodyPost_ret (by simp [results, Try.results26, go_sem, u0, u1, u2]) rfl ⟨.slice (some ⟨g, 0, none⟩) n cp, rfl, HI.out, QB.out⟩
      · obtain ⟨e1, e2⟩ := HZ.out (by rw [HCM.out.1]; exact hz)
        have HA : Hid (∀ V, Below wr.heap.size wr V → Calls Try.prog 37 #[.agg #[.slice (some ⟨g, 0, none⟩) n cp, .int .i64 O]] V fun e w' => e = .returned (.agg #[.int .i64 CC, .slice none 0 0, .int .i64 0]) ∧ Below V.heap.size V w') := fun V hV => by
          have := spec_ans_bad hln hz (HM.out.rd.below hV)
          rwa [← HCM.out.1] at this
        clear hz
        subst e1 e2
        go_wp2_with (fail)
        refine (HA.out _ (Below.refl _ _)).mono ?_
        rintro e w5 ⟨rfl, hb5⟩
        have HX5 := HX.out.below hb5
        have HM5 := HM.out.below hb5
        clear hb5 ma0 ma1 mal
        have t0 := cellOf (HX5.at 1 rfl) 0 rfl
        have f0 := frozOf (HX5.at 1 rfl) 0
        have t1 := cellOf (HX5.at 1 rfl) 1 rfl
        have f1 := frozOf (HX5.at 1 rfl) 1
        have t2 := cellOf (HX5.at 1 rfl) 2 rfl
        have f2 := frozOf (HX5.at 1 rfl) 2
        have tl := ltOf (HX5.at 1 rfl)
        have q2 := (((HX5.set 1 0 rfl (.int .i64 CC)).set 1 1 rfl (.slice none 0 0)).set 1 2 rfl (.int .i64 0))
        have q3 := q2
        have u0 := cellOf (q3.at 1 rfl) 0 rfl
        have u1 := cellOf (q3.at 1 rfl) 1 rfl
        have u2 := cellOf (q3.at 1 rfl) 2 rfl
        have QB : Hid _ := q3.bl
        clear q2 q3
        go_wp2
        refine bodyPost_ret (by simp [results, Try.results26, go_sem, u0, u1, u2]) rfl ⟨.slice none 0 0, rfl, World.ownsRow_nil _ _ _ _, QB.out⟩

end Go.Proofs.Ytfjfogiohijkkaa
