/- Proved here: ImplantCoins of the program. -/
import Derived.Test.YtfjfogiohijkkaaPfX
import Derived.Test.YtfjfogiohijkkaaPfI
import Derived.Test.YtfjfogiohijkkaaPfK
import Derived.Test.YtfjfogiohijkkaaPfU
import Derived.Test.YtfjfogiohijkkaaKdI
namespace Go.Proofs.Ytfjfogiohijkkaa
open Go.RowKit Go.Shelf
set_option linter.unusedVariables false
set_option linter.unusedSimpArgs false
attribute [local go_sem] Oper.semAt_some

set_option maxRecDepth 100000 in
set_option maxHeartbeats 12800000 in
theorem impl_coined (o m k sd : Int) {W : World} {v : Value} {s : List Int} (hn : s.length ≤ 1048576) (h : RdI W v s) :
    Calls Try.prog 27 #[.agg #[v, .int .i64 o], .int .i64 m, .int .i64 k, .int .i64 sd] W fun e w' => ∃ v' , e = .returned (.agg #[.int .i64 (icC s o m k sd), v', .int .i64 (tdO (icC s o m k sd) (icO s o (icK sd m k) k.toNat m.toNat))]) ∧ IS w' W.heap.size v' (tdL (icC s o m k sd) (icL s (icK sd m k) k.toNat m.toNat)) ∧ Below W.heap.size W w' := by
  obtain ⟨ua, uc, rfl⟩ := h.form
  obtain ⟨n, hnn⟩ : ∃ n, n = s.length := ⟨_, rfl⟩
  rw [← hnn] at h hn ⊢
  have HN : Hid (n = s.length) := hnn
  have H : Hid (RdI W (.slice ua n uc) s) := h
  obtain ⟨CC, hCC⟩ : ∃ x, x = icC s o m k sd := ⟨_, rfl⟩
  rw [← hCC]
  obtain ⟨LL, hLL⟩ : ∃ x, x = tdL CC (icL s (icK sd m k) k.toNat m.toNat) := ⟨_, rfl⟩
  obtain ⟨QQ, hQQ⟩ : ∃ x, x = tdO CC (icO s o (icK sd m k) k.toNat m.toNat) := ⟨_, rfl⟩
  rw [← hLL, ← hQQ]
  have HZ : Hid (CC ≠ 0 → LL = [] ∧ QQ = 0) := fun h9 => by rw [hLL, hQQ, tdL, tdO, if_neg h9, if_neg h9]; exact ⟨rfl, rfl⟩
  have HF : Hid (CC = icC s o m k sd ∧ LL = tdL CC (icL s (icK sd m k) k.toNat m.toNat) ∧ QQ = tdO CC (icO s o (icK sd m k) k.toNat m.toNat)) := ⟨hCC, hLL, hQQ⟩
  obtain ⟨C, hC⟩ : ∃ C, C = pfC s o := ⟨_, rfl⟩
  have HP : Hid (∀ V, Below W.heap.size W V → Calls Try.prog 12 #[.agg #[.slice ua n uc, .int .i64 o]] V fun e w' => e = .returned (.int .i64 C) ∧ Below V.heap.size V w') := fun V hV => by
    have := impl_pf o (by rw [← HN.out]; exact hn) (H.out.below hV)
    rwa [← hC] at this
  have HC : Hid (C = pfC s o) := hC
  clear hC hCC hLL hQQ h hnn
  by_cases h0 : C ≠ 0
  · have hC2 : (C != 0) = true := by simpa using h0
    have hcc : CC = C := by rw [HF.out.1, HC.out]; exact icC_bad (by rw [← HC.out]; exact h0)
    obtain ⟨e1, e2⟩ := HZ.out (by rw [hcc]; exact h0)
    subst e1 e2
    clear HF
    subst hcc
    go_enter Try.func27, Try.ntmps27
    go_wp2_with (fail)
    refine (HP.out _ (by (repeat' (first | (with_reducible exact Below.refl _ _) | (with_reducible assumption) | (with_reducible refine Below.setCell ?_ ?_ _) | (with_reducible refine Below.alloc ?_ ?_ _) | (with_reducible refine below_drewN ?_ _) | (with_reducible refine Below.drew ?_) | (with_reducible exact Nat.le_refl _) | omega | (simp; done) | (simp; omega))))).mono ?_
    rintro e w1 ⟨rfl, hb1⟩
    have HB : Hid (BB W [(W.heap.size, .cells #[.slice ua n uc, .int .i64 o] 27), (W.heap.size + 1, .cells #[.int .i64 0, .slice none 0 0, .int .i64 0] 36)] (W.heap.size + 1 + 1) w1) := (((BB.start W).push rfl _).push (k := W.heap.size + 1) (by simp) _).grow hb1 (by omega) (by have := hb1.size; simpa using this)
    clear hb1
    obtain ⟨k0, hk0⟩ : ∃ k, k = W.heap.size := ⟨_, rfl⟩
    rw [← hk0] at HB ⊢
    have HK : Hid (k0 = W.heap.size) := hk0
    clear hk0
    have a0_0 := cellOf (HB.out.at 0 rfl) 0 rfl
    have a0_1 := cellOf (HB.out.at 0 rfl) 1 rfl
    have a0_l := ltOf (HB.out.at 0 rfl)
    have t0 := cellOf (HB.out.at 1 rfl) 0 rfl
    have f0 := frozOf (HB.out.at 1 rfl) 0
    have t1 := cellOf (HB.out.at 1 rfl) 1 rfl
    have f1 := frozOf (HB.out.at 1 rfl) 1
    have t2 := cellOf (HB.out.at 1 rfl) 2 rfl
    have f2 := frozOf (HB.out.at 1 rfl) 2
    have tl := ltOf (HB.out.at 1 rfl)
    have q2 := (((HB.out.set 1 0 rfl (.int .i64 CC)).set 1 1 rfl (.slice none 0 0)).set 1 2 rfl (.int .i64 0))
    have u0 := cellOf (q2.at 1 rfl) 0 rfl
    have u1 := cellOf (q2.at 1 rfl) 1 rfl
    have u2 := cellOf (q2.at 1 rfl) 2 rfl
    have QB : Hid _ := q2.bl
    clear q2
    go_wp2
    refine bodyPost_ret (by simp [results, Try.results27, go_sem, u0, u1, u2]) rfl ⟨.slice none 0 0, rfl, World.ownsRow_nil _ _ _ _, QB.out⟩
  have h0' : C = 0 := by simpa using h0
  have hC0 : pfC s o = 0 := by rw [← HC.out]; exact h0'
  have HG : Hid (PG s o ∧ pfC s o = 0) := ⟨pfC_ok hC0, hC0⟩
  subst h0'
  clear h0 hC0 HC
  obtain ⟨r0, hr0⟩ : ∃ r, r = decide (1 ≤ sd ∧ sd ≤ 2147483646) := ⟨_, rfl⟩
  obtain ⟨r1, hr1⟩ : ∃ r, r = decide (0 ≤ m ∧ m ≤ 200) := ⟨_, rfl⟩
  obtain ⟨r2, hr2⟩ : ∃ r, r = decide (1 ≤ k ∧ k ≤ 20) := ⟨_, rfl⟩
  have HR : Hid (r0 = decide (1 ≤ sd ∧ sd ≤ 2147483646) ∧ r1 = decide (0 ≤ m ∧ m ≤ 200) ∧ r2 = decide (1 ≤ k ∧ k ≤ 20) ∧ icB m k = (r1 && r2)) := ⟨hr0, hr1, hr2, by rw [hr1, hr2, icB]; exact Bool.decide_and _ _⟩
  clear hr0 hr1 hr2
  by_cases q0 : r0 = false
  · subst q0
    have hx3 : ¬ (1 ≤ sd ∧ sd ≤ 2147483646) := fun h => by have := HR.out.1; rw [decide_eq_true h] at this; cases this
    have hcc : CC = 1 := by rw [HF.out.1]; exact icC_sd HG.out.2 hx3
    obtain ⟨e1, e2⟩ := HZ.out (by rw [hcc]; decide)
    subst e1 e2
    clear HF hx3
    subst hcc
    go_enter Try.func27, Try.ntmps27
    go_wp2_with (fail)
    refine (HP.out _ (by (repeat' (first | (with_reducible exact Below.refl _ _) | (with_reducible assumption) | (with_reducible refine Below.setCell ?_ ?_ _) | (with_reducible refine Below.alloc ?_ ?_ _) | (with_reducible refine below_drewN ?_ _) | (with_reducible refine Below.drew ?_) | (with_reducible exact Nat.le_refl _) | omega | (simp; done) | (simp; omega))))).mono ?_
    rintro e w1 ⟨rfl, hb1⟩
    have HB : Hid (BB W [(W.heap.size, .cells #[.slice ua n uc, .int .i64 o] 27), (W.heap.size + 1, .cells #[.int .i64 0, .slice none 0 0, .int .i64 0] 36)] (W.heap.size + 1 + 1) w1) := (((BB.start W).push rfl _).push (k := W.heap.size + 1) (by simp) _).grow hb1 (by omega) (by have := hb1.size; simpa using this)
    clear hb1
    obtain ⟨k0, hk0⟩ : ∃ k, k = W.heap.size := ⟨_, rfl⟩
    rw [← hk0] at HB ⊢
    have HK : Hid (k0 = W.heap.size) := hk0
    clear hk0
    have a0_0 := cellOf (HB.out.at 0 rfl) 0 rfl
    have a0_1 := cellOf (HB.out.at 0 rfl) 1 rfl
    have a0_l := ltOf (HB.out.at 0 rfl)
    go_wp2_with (fail)
    refine (impl_ins sd 1 2147483646 false HR.out.1 _).mono ?_
    rintro e w3 ⟨rfl, hw⟩
    obtain rfl : w1 = w3 := hw.symm
    clear hw
    have t0 := cellOf (HB.out.at 1 rfl) 0 rfl
    have f0 := frozOf (HB.out.at 1 rfl) 0
    have t1 := cellOf (HB.out.at 1 rfl) 1 rfl
    have f1 := frozOf (HB.out.at 1 rfl) 1
    have t2 := cellOf (HB.out.at 1 rfl) 2 rfl
    have f2 := frozOf (HB.out.at 1 rfl) 2
    have tl := ltOf (HB.out.at 1 rfl)
    have q2 := (((HB.out.set 1 0 rfl (.int .i64 1)).set 1 1 rfl (.slice none 0 0)).set 1 2 rfl (.int .i64 0))
    have u0 := cellOf (q2.at 1 rfl) 0 rfl
    have u1 := cellOf (q2.at 1 rfl) 1 rfl
    have u2 := cellOf (q2.at 1 rfl) 2 rfl
    have QB : Hid _ := q2.bl
    clear q2
    go_wp2
    refine bodyPost_ret (by simp [results, Try.results27, go_sem, u0, u1, u2]) rfl ⟨.slice none 0 0, rfl, World.ownsRow_nil _ _ _ _, QB.out⟩
  have q0' : r0 = true := by cases r0 <;> simp_all
  subst q0'
  clear q0
  have h2 : 1 ≤ sd ∧ sd ≤ 2147483646 := of_decide_eq_true HR.out.1.symm
  by_cases q1 : r1 = false
  · subst q1
    have hcc : CC = 3 := by rw [HF.out.1]; exact icC_out HG.out.2 h2 (by rw [HR.out.2.2.2]; rfl)
    obtain ⟨e1, e2⟩ := HZ.out (by rw [hcc]; decide)
    subst e1 e2
    clear HF
    subst hcc
    go_enter Try.func27, Try.ntmps27
    go_wp2_with (fail)
    refine (HP.out _ (by (repeat' (first | (with_reducible exact Below.refl _ _) | (with_reducible assumption) | (with_reducible refine Below.setCell ?_ ?_ _) | (with_reducible refine Below.alloc ?_ ?_ _) | (with_reducible refine below_drewN ?_ _) | (with_reducible refine Below.drew ?_) | (with_reducible exact Nat.le_refl _) | omega | (simp; done) | (simp; omega))))).mono ?_
    rintro e w1 ⟨rfl, hb1⟩
    have HB : Hid (BB W [(W.heap.size, .cells #[.slice ua n uc, .int .i64 o] 27), (W.heap.size + 1, .cells #[.int .i64 0, .slice none 0 0, .int .i64 0] 36)] (W.heap.size + 1 + 1) w1) := (((BB.start W).push rfl _).push (k := W.heap.size + 1) (by simp) _).grow hb1 (by omega) (by have := hb1.size; simpa using this)
    clear hb1
    obtain ⟨k0, hk0⟩ : ∃ k, k = W.heap.size := ⟨_, rfl⟩
    rw [← hk0] at HB ⊢
    have HK : Hid (k0 = W.heap.size) := hk0
    clear hk0
    have a0_0 := cellOf (HB.out.at 0 rfl) 0 rfl
    have a0_1 := cellOf (HB.out.at 0 rfl) 1 rfl
    have a0_l := ltOf (HB.out.at 0 rfl)
    go_wp2_with (fail)
    refine (impl_ins sd 1 2147483646 true HR.out.1 _).mono ?_
    rintro e w3 ⟨rfl, hw⟩
    obtain rfl : w1 = w3 := hw.symm
    clear hw
    go_wp2_with (fail)
    refine (impl_ins m 0 200 false HR.out.2.1 _).mono ?_
    rintro e w3 ⟨rfl, hw⟩
    obtain rfl : w1 = w3 := hw.symm
    clear hw
    have t0 := cellOf (HB.out.at 1 rfl) 0 rfl
    have f0 := frozOf (HB.out.at 1 rfl) 0
    have t1 := cellOf (HB.out.at 1 rfl) 1 rfl
    have f1 := frozOf (HB.out.at 1 rfl) 1
    have t2 := cellOf (HB.out.at 1 rfl) 2 rfl
    have f2 := frozOf (HB.out.at 1 rfl) 2
    have tl := ltOf (HB.out.at 1 rfl)
    have q2 := (((HB.out.set 1 0 rfl (.int .i64 3)).set 1 1 rfl (.slice none 0 0)).set 1 2 rfl (.int .i64 0))
    have u0 := cellOf (q2.at 1 rfl) 0 rfl
    have u1 := cellOf (q2.at 1 rfl) 1 rfl
    have u2 := cellOf (q2.at 1 rfl) 2 rfl
    have QB : Hid _ := q2.bl
    clear q2
    go_wp2
    refine bodyPost_ret (by simp [results, Try.results27, go_sem, u0, u1, u2]) rfl ⟨.slice none 0 0, rfl, World.ownsRow_nil _ _ _ _, QB.out⟩
  have q1' : r1 = true := by cases r1 <;> simp_all
  subst q1'
  clear q1
  by_cases q2 : r2 = false
  · subst q2
    have hcc : CC = 3 := by rw [HF.out.1]; exact icC_out HG.out.2 h2 (by rw [HR.out.2.2.2]; rfl)
    obtain ⟨e1, e2⟩ := HZ.out (by rw [hcc]; decide)
    subst e1 e2
    clear HF
    subst hcc
    go_enter Try.func27, Try.ntmps27
    go_wp2_with (fail)
    refine (HP.out _ (by (repeat' (first | (with_reducible exact Below.refl _ _) | (with_reducible assumption) | (with_reducible refine Below.setCell ?_ ?_ _) | (with_reducible refine Below.alloc ?_ ?_ _) | (with_reducible refine below_drewN ?_ _) | (with_reducible refine Below.drew ?_) | (with_reducible exact Nat.le_refl _) | omega | (simp; done) | (simp; omega))))).mono ?_
    rintro e w1 ⟨rfl, hb1⟩
    have HB : Hid (BB W [(W.heap.size, .cells #[.slice ua n uc, .int .i64 o] 27), (W.heap.size + 1, .cells #[.int .i64 0, .slice none 0 0, .int .i64 0] 36)] (W.heap.size + 1 + 1) w1) := (((BB.start W).push rfl _).push (k := W.heap.size + 1) (by simp) _).grow hb1 (by omega) (by have := hb1.size; simpa using this)
    clear hb1
    obtain ⟨k0, hk0⟩ : ∃ k, k = W.heap.size := ⟨_, rfl⟩
    rw [← hk0] at HB ⊢
    have HK : Hid (k0 = W.heap.size) := hk0
    clear hk0
    have a0_0 := cellOf (HB.out.at 0 rfl) 0 rfl
    have a0_1 := cellOf (HB.out.at 0 rfl) 1 rfl
    have a0_l := ltOf (HB.out.at 0 rfl)
    go_wp2_with (fail)
    refine (impl_ins sd 1 2147483646 true HR.out.1 _).mono ?_
    rintro e w3 ⟨rfl, hw⟩
    obtain rfl : w1 = w3 := hw.symm
    clear hw
    go_wp2_with (fail)
    refine (impl_ins m 0 200 true HR.out.2.1 _).mono ?_
    rintro e w3 ⟨rfl, hw⟩
    obtain rfl : w1 = w3 := hw.symm
    clear hw
    go_wp2_with (fail)
    refine (impl_ins k 1 20 false HR.out.2.2.1 _).mono ?_
    rintro e w3 ⟨rfl, hw⟩
    obtain rfl : w1 = w3 := hw.symm
    clear hw
    have t0 := cellOf (HB.out.at 1 rfl) 0 rfl
    have f0 := frozOf (HB.out.at 1 rfl) 0
    have t1 := cellOf (HB.out.at 1 rfl) 1 rfl
    have f1 := frozOf (HB.out.at 1 rfl) 1
    have t2 := cellOf (HB.out.at 1 rfl) 2 rfl
    have f2 := frozOf (HB.out.at 1 rfl) 2
    have tl := ltOf (HB.out.at 1 rfl)
    have q2 := (((HB.out.set 1 0 rfl (.int .i64 3)).set 1 1 rfl (.slice none 0 0)).set 1 2 rfl (.int .i64 0))
    have u0 := cellOf (q2.at 1 rfl) 0 rfl
    have u1 := cellOf (q2.at 1 rfl) 1 rfl
    have u2 := cellOf (q2.at 1 rfl) 2 rfl
    have QB : Hid _ := q2.bl
    clear q2
    go_wp2
    refine bodyPost_ret (by simp [results, Try.results27, go_sem, u0, u1, u2]) rfl ⟨.slice none 0 0, rfl, World.ownsRow_nil _ _ _ _, QB.out⟩
  have q2' : r2 = true := by cases r2 <;> simp_all
  subst q2'
  clear q2
  have hmb : 0 ≤ m ∧ m ≤ 200 := of_decide_eq_true HR.out.2.1.symm
  have hkb : 1 ≤ k ∧ k ≤ 20 := of_decide_eq_true HR.out.2.2.1.symm
  have HIB : Hid (icB m k = true) := HR.out.2.2.2
  obtain ⟨mn, hmn⟩ : ∃ x : Nat, m = (x : Int) := ⟨m.toNat, by omega⟩
  obtain ⟨kn, hkn⟩ : ∃ x : Nat, k = (x : Int) := ⟨k.toNat, by omega⟩
  subst hmn hkn
  have hs40 : 0 < n ∧ n ≤ 40 := by rw [HN.out]; exact ⟨HG.out.1.pos, HG.out.1.len⟩
  obtain ⟨co, hco⟩ : ∃ x, x = coinsK sd 3 (mn * kn) := ⟨_, rfl⟩
  have HCO : Hid (co = coinsK sd 3 (mn * kn) ∧ co = icK sd (mn : Int) (kn : Int) ∧ C2 co ∧ co.length = mn * kn) := ⟨hco, hco, by rw [hco]; exact C2_coins _ _, by rw [hco, coinsK_length]⟩
  clear hco
  have HCP : Hid (∀ V, Below W.heap.size W V → Calls Try.prog 39 #[.agg #[.slice ua n uc, .int .i64 o]] V fun e w' => ∃ g c, e = .returned (.agg #[.slice (some ⟨g, 0, none⟩) n c, .int .i64 o]) ∧ IS w' V.heap.size (.slice (some ⟨g, 0, none⟩) n c) s ∧ Below V.heap.size V w') := fun V hV => by
    have := impl_cpd o HG.out.1.pos (by rw [← HN.out]; exact hn) (H.out.below hV)
    rwa [← HN.out] at this
  refine (callsIn_wide (n := 4)).1 ?_
  refine callsIn_of_wp_marks Try.func27 rfl trivial ?_ rfl
  simp only [Try.ntmps27, List.size_toArray, List.length_cons, List.length_nil, Nat.reduceAdd, Nat.reduceSub, Array.replicate_succ, Array.replicate_zero, List.push_toArray, List.append_toArray, List.nil_append, List.cons_append]
  gi_wp2_with (fail)
  refine ⟨trivial, (callsIn_wide.2 (HP.out _ (by (repeat' (first | (with_reducible exact Below.refl _ _) | (with_reducible assumption) | (with_reducible refine Below.setCell ?_ ?_ _) | (with_reducible refine Below.alloc ?_ ?_ _) | (with_reducible refine below_drewN ?_ _) | (with_reducible refine Below.drew ?_) | (with_reducible exact Nat.le_refl _) | omega | (simp; done) | (simp; omega)))))).mono ?_⟩
  rintro e w1 ⟨rfl, hb1⟩
  have HB : Hid (BB W [(W.heap.size, .cells #[.slice ua n uc, .int .i64 o] 27), (W.heap.size + 1, .cells #[.int .i64 0, .slice none 0 0, .int .i64 0] 36)] (W.heap.size + 1 + 1) w1) := (((BB.start W).push rfl _).push (k := W.heap.size + 1) (by simp) _).grow hb1 (by omega) (by have := hb1.size; simpa using this)
  clear hb1
  obtain ⟨k0, hk0⟩ : ∃ k, k = W.heap.size := ⟨_, rfl⟩
  rw [← hk0] at HB ⊢
  have HK : Hid (k0 = W.heap.size) := hk0
  clear hk0
  have a0_0 := cellOf (HB.out.at 0 rfl) 0 rfl
  have a0_1 := cellOf (HB.out.at 0 rfl) 1 rfl
  have a0_l := ltOf (HB.out.at 0 rfl)
  gi_wp2_with (fail)
  refine ⟨trivial, (callsIn_wide.2 (impl_ins sd 1 2147483646 true HR.out.1 _)).mono ?_⟩
  rintro e w3 ⟨rfl, hw⟩
  obtain rfl : w1 = w3 := hw.symm
  clear hw
  gi_wp2_with (fail)
  refine ⟨trivial, (callsIn_wide.2 (impl_ins (mn : Int) 0 200 true HR.out.2.1 _)).mono ?_⟩
  rintro e w3 ⟨rfl, hw⟩
  obtain rfl : w1 = w3 := hw.symm
  clear hw
  gi_wp2_with (fail)
  refine ⟨trivial, (callsIn_wide.2 (impl_ins (kn : Int) 1 20 true HR.out.2.2.1 _)).mono ?_⟩
  rintro e w3 ⟨rfl, hw⟩
  obtain rfl : w1 = w3 := hw.symm
  clear hw
  clear HP HR
  gi_wp2_with (fail)
  refine ⟨trivial, (callsIn_wide.2 (HCP.out _ HB.out.bl)).mono ?_⟩
  rintro e w2 ⟨g, cp, rfl, hi2, hb2⟩
  have HB2 : Hid (BB W [(k0, .cells #[.slice ua n uc, .int .i64 o] 27), (k0 + 1, .cells #[.int .i64 0, .slice none 0 0, .int .i64 0] 36)] (k0 + 1 + 1) w2) := HB.out.below hb2
  have hgl := (IS.lt hi2 g rfl)
  have hsz := HB.out.sz
  clear a0_0 a0_1 a0_l HCP
  gi_wp2_with (fail)
  obtain ⟨K, hKK⟩ : ∃ K, K = w2.heap.size := ⟨_, rfl⟩
  obtain ⟨w4, hw4⟩ : ∃ w, w = w2.alloc (.cells #[.slice (some ⟨g, 0, none⟩) n cp, .int .i64 o] 27) := ⟨_, rfl⟩
  have hs4 : w4.heap.size = K + 1 := by rw [hw4, hKK]; simp
  have hb4 : Below w2.heap.size w2 w4 := by rw [hw4]; (repeat' (first | (with_reducible exact Below.refl _ _) | (with_reducible assumption) | (with_reducible refine Below.setCell ?_ ?_ _) | (with_reducible refine Below.alloc ?_ ?_ _) | (with_reducible refine below_drewN ?_ _) | (with_reducible refine Below.drew ?_) | (with_reducible exact Nat.le_refl _) | omega | (simp; done) | (simp; omega)))
  have HM4 : Hid (MP (k0 + 1 + 1) K g n cp s o w4 ∧ BB W [(k0, .cells #[.slice ua n uc, .int .i64 o] 27), (k0 + 1, .cells #[.int .i64 0, .slice none 0 0, .int .i64 0] 36)] (k0 + 1 + 1) w4 ∧ g < K ∧ k0 + 1 + 1 ≤ g) :=
    ⟨⟨by rw [hw4, hKK]; exact heap_alloc_new _ _, (hi2.bel hb4).low (by omega), by omega, HN.out, ⟨by omega, by have := hb2.size; omega⟩⟩, HB2.out.below hb4, by omega, by omega⟩
  rw [← hKK, ← hw4]
  clear hw4 hb4 hi2 hb2 hgl hsz HB2 HB hKK
  refine ⟨trivial, (callsIn_wide.2 (kd_fn _ _ _ _)).mono ?_⟩
  rintro e w5 ⟨rfl, rfl⟩
  obtain ⟨V, hV⟩ : ∃ V, V = ((w4.alloc (.cells #[.int .i64 (mn : Int)] 2)).alloc (.cells #[.int .i64 (kn : Int)] 2)).alloc (.cells #[.int .i64 sd] 2) := ⟨_, rfl⟩
  have hbV : Below w4.heap.size w4 V := by rw [hV]; (repeat' (first | (with_reducible exact Below.refl _ _) | (with_reducible assumption) | (with_reducible refine Below.setCell ?_ ?_ _) | (with_reducible refine Below.alloc ?_ ?_ _) | (with_reducible refine below_drewN ?_ _) | (with_reducible refine Below.drew ?_) | (with_reducible exact Nat.le_refl _) | omega | (simp; done) | (simp; omega)))
  have HE : Hid (MP (k0 + 1 + 1) K g n cp s o V ∧ BB W [(k0, .cells #[.slice ua n uc, .int .i64 o] 27), (k0 + 1, .cells #[.int .i64 0, .slice none 0 0, .int .i64 0] 36)] (k0 + 1 + 1) V) := ⟨HM4.out.1.below hbV, HM4.out.2.1.below hbV⟩
  have HBx : Hid (V.heap[K + 1 + 1 + 1]? = some (.cells #[.int .i64 sd] 2) ∧ V.heap[K + 1]? = some (.cells #[.int .i64 (mn : Int)] 2) ∧ V.heap[K + 1 + 1]? = some (.cells #[.int .i64 (kn : Int)] 2)) := by
    refine ⟨?_, ?_, ?_⟩
    · rw [hV, ← hs4]; have := heap_alloc_new ((w4.alloc (.cells #[.int .i64 (mn : Int)] 2)).alloc (.cells #[.int .i64 (kn : Int)] 2)) (.cells #[.int .i64 sd] 2); simpa using this
    · rw [hV, ← hs4]; exact (Below.heap_alloc _ _ _ (by simp; omega)).trans ((Below.heap_alloc _ _ _ (by simp)).trans (heap_alloc_new w4 _))
    · rw [hV, ← hs4]; refine (Below.heap_alloc _ _ _ (by simp)).trans ?_; have := heap_alloc_new (w4.alloc (.cells #[.int .i64 (mn : Int)] 2)) (.cells #[.int .i64 (kn : Int)] 2); simpa using this
  have HV : Hid (V.heap.size = K + 4 ∧ g < K ∧ k0 + 1 + 1 ≤ g ∧ k0 = W.heap.size) := ⟨by rw [hV]; simp; omega, HM4.out.2.2.1, HM4.out.2.2.2, HK.out⟩
  gi_wp2_with (fail)
  rw [← hV]
  clear hV hbV hs4 HM4
  refine wpIn_rangeFunc_ownG (α := Kd) (w := V) rfl (by omega) (gf := 49) (lb := #[.pointer (some ⟨K + 1 + 1 + 1, 0, none⟩), .pointer (some ⟨K + 1, 0, none⟩), .pointer (some ⟨K + 1 + 1, 0, none⟩)]) rfl trivial (enters_of Try.func49 (by kernel_rfl) rfl)
    (kd_stops 3 (by omega) V.heap.size (K + 1 + 1 + 1) (K + 1) (K + 1 + 1) mn kn sd co HCO.out.1 (by omega) (by omega) h2 V (Nat.le_refl _) HBx.out.1 HBx.out.2.1 HBx.out.2.2)
    (fun h k => kpC_t h k) ?kb (Below.refl _ _) (fun _ => rfl)
    (fun pre wr => Hid (MP (k0 + 1 + 1) K g n cp (icF s o pre).1 (icF s o pre).2 wr ∧ BB W [(k0, .cells #[.slice ua n uc, .int .i64 o] 27), (k0 + 1, .cells #[.int .i64 0, .slice none 0 0, .int .i64 0] 36)] (k0 + 1 + 1) wr))
    (fun cc pre wr => False)
    ?hI ?hIx ?h0 ?a1 ?assign ?body ?done ?stop
  case assign =>
    intro l x A K hK
    unfold kdE
    gi_wp2
    exact hK
  case kb =>
    intro A l q q' hl hq h1 h2
    have h9 := HV.out
    refine ⟨by simp [World.putObj], fun p q2 hp hq2 hc => ?_, World.putObj_heap_other (by omega), World.putObj_heap_other (by omega), World.putObj_heap_other (by omega)⟩
    rw [World.putObj_heap_other (fun e => by rw [e, hq] at hq2; injection hq2 with hq2; rw [hq2, hc] at h1; cases h1)]
    exact hq2
  case hI =>
    rintro pre A B row hx hg hr
    have h9 := HV.out
    exact ⟨hx.out.1.keep (hg.block _ hx.out.1.lt.1 (fun e => by have := (hr _ e.symm).1; omega)) (hg.block _ hx.out.1.lt.2 (fun e => by have := (hr _ e.symm).1; omega)), hx.out.2.own (by omega) (by omega) hg hr⟩
  case hIx =>
    rintro cc pre A B row hx hg hr
    exact hx
  case h0 => exact HE.out
  case body =>
    rintro l pre y A hx hlt
    obtain ⟨x, hxx⟩ : ∃ x, x = y.1 := ⟨_, rfl⟩
    have hx40 : x ≤ 40 := by rw [hxx]; exact y.2
    obtain ⟨M, hM⟩ : ∃ M, M = (icF s o pre).1 := ⟨_, rfl⟩
    obtain ⟨O, hO⟩ : ∃ O, O = (icF s o pre).2 := ⟨_, rfl⟩
    have hbd := icF_bd HG.out.1 pre
    rw [← hM, ← hO] at hbd
    have hx2 := hx.out
    rw [← hM, ← hO] at hx2
    obtain ⟨hm, hb⟩ := hx2
    have hcb := hbd.1 x
    have HP1 : Hid (Calls Try.prog 40 #[.pointer (some ⟨K, 0, none⟩), .int .i64 (x : Int), .int .i64 1] A fun e w' => (∃ v, e = .returned v) ∧ MP (k0 + 1 + 1) K g n cp (ptL M x 1) (ptO M O x 1) w' ∧ PU K g A w') :=
      impl_put x 1 (by omega) ⟨by omega, by omega⟩ hn ⟨by omega, by omega⟩ ⟨hbd.2.1, by omega⟩ hm
    have HSN : Hid (icF s o (pre ++ [y]) = (ptL M x 1, ptO M O x 1)) := by
      unfold Hid; rw [icF_snoc, ← hM, ← hO, ← hxx]
    have HBB : Hid (BB W [(k0, .cells #[.slice ua n uc, .int .i64 o] 27), (k0 + 1, .cells #[.int .i64 0, .slice none 0 0, .int .i64 0] 36)] (k0 + 1 + 1) A) := hb
    rw [← hxx]
    clear hx hM hO hbd hm hb hxx hlt hcb
    gi_wp2_with (fail)
    refine ⟨trivial, (CallsIn.inRound l (callsIn_wide.2 HP1.out)).mono ?_⟩
    rintro e A3 ⟨⟨u2, rfl⟩, hm3, hu3⟩
    have HF3 : Hid (MP (k0 + 1 + 1) K g n cp (ptL M x 1) (ptO M O x 1) A3 ∧ PU K g A A3) := ⟨hm3, hu3⟩
    clear hm3 hu3
    gi_wp2
    have h9 := HV.out
    refine ⟨HF3.out.2.ko.from _, ⟨by rw [HF3.out.2.size]; exact Nat.le_refl _, fun q q2 hq hq2 _ => (HF3.out.2.oth q (by omega) (by omega)).trans hq2, HF3.out.2.oth _ (by omega) (by omega), HF3.out.2.oth _ (by omega) (by omega), HF3.out.2.oth _ (by omega) (by omega)⟩, ?_⟩
    dsimp only
    rw [HSN.out]
    exact ⟨HF3.out.1, HBB.out.keep (fun q q1 q2 => HF3.out.2.oth q (by omega) (by omega)) (HBB.out.bl.trans (HF3.out.2.bl _ (by omega) (by omega))) (by rw [HF3.out.2.size]; exact Nat.le_refl _)⟩
  case done =>
    rintro D xs A hD hS hx hK
    have hE : icF s o xs = (icL s co kn mn, icO s o co kn mn) := by rw [hS]; exact icF_all HCO.out.2.2.1 (by rw [HCO.out.2.2.2]; exact Nat.le_refl _) (by omega) mn (Nat.le_refl _)
    have hx2 := hx.out
    rw [hE] at hx2
    obtain ⟨hm, hb⟩ := hx2
    obtain ⟨M, hM⟩ : ∃ M, M = icL s co kn mn := ⟨_, rfl⟩
    obtain ⟨O, hO⟩ : ∃ O, O = icO s o co kn mn := ⟨_, rfl⟩
    simp only at hm
    rw [← hM, ← hO] at hm
    have h9 := HV.out
    have HM : Hid (MP W.heap.size K g n cp M O A) := ⟨hm.bx, hm.is.low (by omega), hm.ne, hm.len, ⟨by omega, by omega⟩⟩
    have HX : Hid (BB W [(k0, .cells #[.slice ua n uc, .int .i64 o] 27), (k0 + 1, .cells #[.int .i64 0, .slice none 0 0, .int .i64 0] 36)] (k0 + 1 + 1) A) := hb
    have hln : M.length ≤ 1048576 := by rw [← hm.len]; exact hn
    have HNE : Hid (g ≠ k0 + 1 ∧ g ≠ D) := ⟨by omega, by omega⟩
    have HCM : Hid (CC = pfC M O ∧ LL = tdL CC M ∧ QQ = tdO CC O) := by
      have h8 := HF.out
      rw [icC_in HG.out.2 h2 HIB.out, ← HCO.out.2.1] at h8
      rw [hM, hO]
      exact h8
    clear hx hm hb hM hO hE hS h9
    have ma0 := cellOf HM.out.bx 0 rfl
    have ma1 := cellOf HM.out.bx 1 rfl
    have mal := ltOf HM.out.bx
    by_cases hz : pfC (M) (O) = 0
    · obtain ⟨e1, e2, e3⟩ : CC = 0 ∧ LL = M ∧ QQ = O := ⟨by rw [HCM.out.1, hz], by rw [HCM.out.2.1, tdL, if_pos (by rw [HCM.out.1, hz])], by rw [HCM.out.2.2, tdO, if_pos (by rw [HCM.out.1, hz])]⟩
      have HA : Hid (∀ V, Below A.heap.size A V → Calls Try.prog 41 #[.agg #[.slice (some ⟨g, 0, none⟩) n cp, .int .i64 O]] V fun e w' => e = .returned (.agg #[.int .i64 0, .slice (some ⟨g, 0, none⟩) n cp, .int .i64 QQ]) ∧ Below V.heap.size V w') := fun V hV => by
        have := impl_ans_ok hz (HM.out.rd.below hV)
        rw [e3]; exact this
      clear hz
      subst e1
      clear e3
      have HLL : Hid (LL = M) := e2
      clear e2
      gi_wp2_with (fail)
      refine ⟨trivial, (callsIn_wide.2 (HA.out _ (Below.refl _ _))).mono ?_⟩
      rintro e w5 ⟨rfl, hb5⟩
      have HX5 := HX.out.below hb5
      have HM5 := HM.out.below hb5
      have hK5 : w5.heap[D]? = some (.deferred (some [])) := (hb5.block D (ltOf hK)).trans hK
      clear hb5 ma0 ma1 mal
      have t0 := cellOf (HX5.at 1 rfl) 0 rfl
      have f0 := frozOf (HX5.at 1 rfl) 0
      have t1 := cellOf (HX5.at 1 rfl) 1 rfl
      have f1 := frozOf (HX5.at 1 rfl) 1
      have t2 := cellOf (HX5.at 1 rfl) 2 rfl
      have f2 := frozOf (HX5.at 1 rfl) 2
      have tl := ltOf (HX5.at 1 rfl)
      have q2 := (((HX5.set 1 0 rfl (.int .i64 0)).set 1 1 rfl (.slice (some ⟨g, 0, none⟩) n cp)).set 1 2 rfl (.int .i64 QQ))
      have hK6 := ((KeepsOthers.setCell ((w5.setCell ⟨k0 + 1, 0, none⟩ (.int .i64 0)).setCell ⟨k0 + 1, 1, none⟩ (.slice (some ⟨g, 0, none⟩) n cp)) ⟨k0 + 1, 2, none⟩ (.int .i64 QQ)).same D _ ((KeepsOthers.setCell (w5.setCell ⟨k0 + 1, 0, none⟩ (.int .i64 0)) ⟨k0 + 1, 1, none⟩ (.slice (some ⟨g, 0, none⟩) n cp)).same D _ ((KeepsOthers.setCell w5 ⟨k0 + 1, 0, none⟩ (.int .i64 0)).same D _ hK5 rfl) rfl) rfl)
      have q3 := q2.own (B := V.heap.size) (by have := HV.out; omega) (by have := HV.out; omega) (grownBy_putObj' _ D (.deferred none)) (fun r e => by cases e; exact ⟨hD, _, hK6, rfl⟩)
      have u0 := cellOf (q3.at 1 rfl) 0 rfl
      have u1 := cellOf (q3.at 1 rfl) 1 rfl
      have u2 := cellOf (q3.at 1 rfl) 2 rfl
      have QB : Hid _ := q3.bl
      have HI : Hid (IS ((((w5.setCell ⟨k0 + 1, 0, none⟩ (.int .i64 0)).setCell ⟨k0 + 1, 1, none⟩ (.slice (some ⟨g, 0, none⟩) n cp)).setCell ⟨k0 + 1, 2, none⟩ (.int .i64 QQ)).putObj D (.deferred none)) W.heap.size (.slice (some ⟨g, 0, none⟩) n cp) LL) := by
        unfold Hid
        rw [HLL.out]
        refine HM5.is.keepE ?_
        rw [World.putObj_heap_other (by have := HNE.out.2; omega), heap_setCell_other _ _ _ _ HNE.out.1, heap_setCell_other _ _ _ _ HNE.out.1, heap_setCell_other _ _ _ _ HNE.out.1]
      clear q2 q3
      gi_wp2
      refine ⟨by simp, .inl ⟨_, _, rfl, run_takeDeferred hK6, ?_⟩⟩
      exact ⟨_, (by simp [results, Try.results27, go_sem, u0, u1, u2]), .slice (some ⟨g, 0, none⟩) n cp, rfl, HI.out, QB.out⟩
    · obtain ⟨e1, e2⟩ := HZ.out (by rw [HCM.out.1]; exact hz)
      have HA : Hid (∀ V, Below A.heap.size A V → Calls Try.prog 41 #[.agg #[.slice (some ⟨g, 0, none⟩) n cp, .int .i64 O]] V fun e w' => e = .returned (.agg #[.int .i64 CC, .slice none 0 0, .int .i64 0]) ∧ Below V.heap.size V w') := fun V hV => by
        have := impl_ans_bad hln hz (HM.out.rd.below hV)
        rwa [← HCM.out.1] at this
      clear hz
      subst e1 e2
      gi_wp2_with (fail)
      refine ⟨trivial, (callsIn_wide.2 (HA.out _ (Below.refl _ _))).mono ?_⟩
      rintro e w5 ⟨rfl, hb5⟩
      have HX5 := HX.out.below hb5
      have HM5 := HM.out.below hb5
      have hK5 : w5.heap[D]? = some (.deferred (some [])) := (hb5.block D (ltOf hK)).trans hK
      clear hb5 ma0 ma1 mal
      have t0 := cellOf (HX5.at 1 rfl) 0 rfl
      have f0 := frozOf (HX5.at 1 rfl) 0
      have t1 := cellOf (HX5.at 1 rfl) 1 rfl
      have f1 := frozOf (HX5.at 1 rfl) 1
      have t2 := cellOf (HX5.at 1 rfl) 2 rfl
      have f2 := frozOf (HX5.at 1 rfl) 2
      have tl := ltOf (HX5.at 1 rfl)
      have q2 := (((HX5.set 1 0 rfl (.int .i64 CC)).set 1 1 rfl (.slice none 0 0)).set 1 2 rfl (.int .i64 0))
      have hK6 := ((KeepsOthers.setCell ((w5.setCell ⟨k0 + 1, 0, none⟩ (.int .i64 CC)).setCell ⟨k0 + 1, 1, none⟩ (.slice none 0 0)) ⟨k0 + 1, 2, none⟩ (.int .i64 0)).same D _ ((KeepsOthers.setCell (w5.setCell ⟨k0 + 1, 0, none⟩ (.int .i64 CC)) ⟨k0 + 1, 1, none⟩ (.slice none 0 0)).same D _ ((KeepsOthers.setCell w5 ⟨k0 + 1, 0, none⟩ (.int .i64 CC)).same D _ hK5 rfl) rfl) rfl)
      have q3 := q2.own (B := V.heap.size) (by have := HV.out; omega) (by have := HV.out; omega) (grownBy_putObj' _ D (.deferred none)) (fun r e => by cases e; exact ⟨hD, _, hK6, rfl⟩)
      have u0 := cellOf (q3.at 1 rfl) 0 rfl
      have u1 := cellOf (q3.at 1 rfl) 1 rfl
      have u2 := cellOf (q3.at 1 rfl) 2 rfl
      have QB : Hid _ := q3.bl
      clear q2 q3
      gi_wp2
      refine ⟨by simp, .inl ⟨_, _, rfl, run_takeDeferred hK6, ?_⟩⟩
      exact ⟨_, (by simp [results, Try.results27, go_sem, u0, u1, u2]), .slice none 0 0, rfl, World.ownsRow_nil _ _ _ _, QB.out⟩

  case stop =>
    rintro D cc pre A hD hS hx hK
    exact hx.elim

end Go.Proofs.Ytfjfogiohijkkaa
