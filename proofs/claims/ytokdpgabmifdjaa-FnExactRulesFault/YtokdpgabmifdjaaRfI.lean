/- Proved here: ruleFault and RulesFault of the program: ruleK, rulesK. -/
import Derived.Test.YtokdpgabmifdjaaRfM
namespace Go.Proofs.Ytokdpgabmifdjaa
open Go.RowKit
set_option linter.unusedVariables false
set_option linter.unusedSimpArgs false

theorem cells4 {w : World} {k : Nat} {a b c d : Value} {t : TypeId} (h : w.heap[k]? = some (.cells #[a, b, c, d] t)) : w.cell? ⟨k, 0, none⟩ = some a ∧ w.cell? ⟨k, 1, none⟩ = some b ∧ w.cell? ⟨k, 2, none⟩ = some c ∧ w.cell? ⟨k, 3, none⟩ = some d := by
  refine ⟨by simp [World.cell?, h], by simp [World.cell?, h], by simp [World.cell?, h], by simp [World.cell?, h]⟩

set_option maxRecDepth 10000 in
set_option maxHeartbeats 6400000 in
theorem impl_rule_k1 (a b z L : Int) (w : World) : Calls Try.prog 54 #[.agg #[.int .i64 1, .int .i64 a, .int .i64 b, .int .i64 z], .int .i64 L] w fun e w' => e = .returned (.int .i64 (ruleK ⟨1, a, b, z⟩ L)) ∧ Below w.heap.size w w' := by
  have hst := store_fn
  have hsn := store_nf
  obtain ⟨C, hC⟩ : ∃ C, C = ruleK ⟨1, a, b, z⟩ L := ⟨_, rfl⟩
  rw [← hC]
  obtain ⟨r, hr⟩ : ∃ r, r = (decide (1 ≤ z) && decide (z ≤ 1000)) := ⟨_, rfl⟩
  have HIN : Hid (∀ w, Calls Try.prog 81 #[.int .i64 z, .int .i64 1, .int .i64 1000] w fun e w' => e = .returned (.bool r) ∧ w' = w) := impl_withinR z 1 1000 r hr
  by_cases h1 : a < 0
  · have HE : Hid (C = 1) := by unfold Hid; rw [hC, ruleK, if_pos (bad_iff.2 (by unfold badR; simp only; omega))]
    clear hC hr
    go_enter Try.func54, Try.ntmps54
    go_wp2_with (fail)
    refine (impl_kind1 _).mono ?_
    rintro e w1 ⟨rfl, hb1⟩
    obtain ⟨hk1, hlt1, hB1⟩ := resR hb1
    obtain ⟨r0, r1, r2, r3⟩ := cells4 hk1
    have HB1 : Hid (Below w.heap.size w w1) := hB1
    clear hb1 hk1 hB1
    go_wp2
    go_returns
    refine ⟨by rw [HE.out]; rfl, ?_⟩
    have hb := HB1.out
    (repeat' (first | (with_reducible exact Below.refl _ _) | (with_reducible assumption) | (with_reducible refine Below.setCell ?_ ?_ _) | (with_reducible refine Below.alloc ?_ ?_ _) | (with_reducible refine below_drewN ?_ _) | (with_reducible refine Below.drew ?_) | (with_reducible exact Nat.le_refl _) | omega | (simp; done) | (simp; omega)))
  by_cases h2 : L ≤ a
  · have HE : Hid (C = 1) := by unfold Hid; rw [hC, ruleK, if_pos (bad_iff.2 (by unfold badR; simp only; omega))]
    clear hC hr
    go_enter Try.func54, Try.ntmps54
    go_wp2_with (fail)
    refine (impl_kind1 _).mono ?_
    rintro e w1 ⟨rfl, hb1⟩
    obtain ⟨hk1, hlt1, hB1⟩ := resR hb1
    obtain ⟨r0, r1, r2, r3⟩ := cells4 hk1
    have HB1 : Hid (Below w.heap.size w w1) := hB1
    clear hb1 hk1 hB1
    go_wp2
    go_returns
    refine ⟨by rw [HE.out]; rfl, ?_⟩
    have hb := HB1.out
    (repeat' (first | (with_reducible exact Below.refl _ _) | (with_reducible assumption) | (with_reducible refine Below.setCell ?_ ?_ _) | (with_reducible refine Below.alloc ?_ ?_ _) | (with_reducible refine below_drewN ?_ _) | (with_reducible refine Below.drew ?_) | (with_reducible exact Nat.le_refl _) | omega | (simp; done) | (simp; omega)))
  have hok : ¬ badR ⟨1, a, b, z⟩ L := by unfold badR; simp only; omega
  cases r with
  | false =>
    have HE : Hid (C = 3) := by
      unfold Hid; rw [hC, ruleK, if_neg (fun e => hok (bad_iff.1 e)), if_neg (fun e => by simp only at e; rw [decide_eq_true e.1, decide_eq_true e.2] at hr; cases hr)]
    clear hC hr hok
    go_enter Try.func54, Try.ntmps54
    go_wp2_with (fail)
    refine (impl_kind1 _).mono ?_
    rintro e w1 ⟨rfl, hb1⟩
    obtain ⟨hk1, hlt1, hB1⟩ := resR hb1
    obtain ⟨r0, r1, r2, r3⟩ := cells4 hk1
    have HB1 : Hid (Below w.heap.size w w1) := hB1
    clear hb1 hk1 hB1
    go_wp2_with (fail)
    refine (HIN.out _).mono ?_
    rintro e w2 ⟨rfl, hw2⟩
    subst w2
    go_wp2
    go_returns
    refine ⟨by rw [HE.out]; rfl, ?_⟩
    have hb := HB1.out
    (repeat' (first | (with_reducible exact Below.refl _ _) | (with_reducible assumption) | (with_reducible refine Below.setCell ?_ ?_ _) | (with_reducible refine Below.alloc ?_ ?_ _) | (with_reducible refine below_drewN ?_ _) | (with_reducible refine Below.drew ?_) | (with_reducible exact Nat.le_refl _) | omega | (simp; done) | (simp; omega)))
  | true =>
    have HE : Hid (C = 0) := by
      unfold Hid; rw [hC, ruleK, if_neg (fun e => hok (bad_iff.1 e)), if_pos (by simpa using hr.symm)]
    clear hC hr hok
    go_enter Try.func54, Try.ntmps54
    go_wp2_with (fail)
    refine (impl_kind1 _).mono ?_
    rintro e w1 ⟨rfl, hb1⟩
    obtain ⟨hk1, hlt1, hB1⟩ := resR hb1
    obtain ⟨r0, r1, r2, r3⟩ := cells4 hk1
    have HB1 : Hid (Below w.heap.size w w1) := hB1
    clear hb1 hk1 hB1
    go_wp2_with (fail)
    refine (HIN.out _).mono ?_
    rintro e w2 ⟨rfl, hw2⟩
    subst w2
    go_wp2
    go_returns
    refine ⟨by rw [HE.out]; rfl, ?_⟩
    have hb := HB1.out
    (repeat' (first | (with_reducible exact Below.refl _ _) | (with_reducible assumption) | (with_reducible refine Below.setCell ?_ ?_ _) | (with_reducible refine Below.alloc ?_ ?_ _) | (with_reducible refine below_drewN ?_ _) | (with_reducible refine Below.drew ?_) | (with_reducible exact Nat.le_refl _) | omega | (simp; done) | (simp; omega)))

set_option maxRecDepth 10000 in
set_option maxHeartbeats 6400000 in
theorem impl_rule_k2 (a b z L : Int) (w : World) : Calls Try.prog 54 #[.agg #[.int .i64 2, .int .i64 a, .int .i64 b, .int .i64 z], .int .i64 L] w fun e w' => e = .returned (.int .i64 (ruleK ⟨2, a, b, z⟩ L)) ∧ Below w.heap.size w w' := by
  have hst := store_fn
  have hsn := store_nf
  obtain ⟨C, hC⟩ : ∃ C, C = ruleK ⟨2, a, b, z⟩ L := ⟨_, rfl⟩
  rw [← hC]
  obtain ⟨r, hr⟩ : ∃ r, r = (decide (1 ≤ z) && decide (z ≤ 1000)) := ⟨_, rfl⟩
  have HIN : Hid (∀ w, Calls Try.prog 81 #[.int .i64 z, .int .i64 1, .int .i64 1000] w fun e w' => e = .returned (.bool r) ∧ w' = w) := impl_withinR z 1 1000 r hr
  by_cases h1 : a < 0
  · have HE : Hid (C = 1) := by unfold Hid; rw [hC, ruleK, if_pos (bad_iff.2 (by unfold badR; simp only; omega))]
    clear hC hr
    go_enter Try.func54, Try.ntmps54
    go_wp2_with (fail)
    refine (impl_kind2 _).mono ?_
    rintro e w1 ⟨rfl, hb1⟩
    obtain ⟨hk1, hlt1, hB1⟩ := resR hb1
    obtain ⟨r0, r1, r2, r3⟩ := cells4 hk1
    have HB1 : Hid (Below w.heap.size w w1) := hB1
    clear hb1 hk1 hB1
    go_wp2
    go_returns
    refine ⟨by rw [HE.out]; rfl, ?_⟩
    have hb := HB1.out
    (repeat' (first | (with_reducible exact Below.refl _ _) | (with_reducible assumption) | (with_reducible refine Below.setCell ?_ ?_ _) | (with_reducible refine Below.alloc ?_ ?_ _) | (with_reducible refine below_drewN ?_ _) | (with_reducible refine Below.drew ?_) | (with_reducible exact Nat.le_refl _) | omega | (simp; done) | (simp; omega)))
  by_cases h2 : L ≤ a
  · have HE : Hid (C = 1) := by unfold Hid; rw [hC, ruleK, if_pos (bad_iff.2 (by unfold badR; simp only; omega))]
    clear hC hr
    go_enter Try.func54, Try.ntmps54
    go_wp2_with (fail)
    refine (impl_kind2 _).mono ?_
    rintro e w1 ⟨rfl, hb1⟩
    obtain ⟨hk1, hlt1, hB1⟩ := resR hb1
    obtain ⟨r0, r1, r2, r3⟩ := cells4 hk1
    have HB1 : Hid (Below w.heap.size w w1) := hB1
    clear hb1 hk1 hB1
    go_wp2
    go_returns
    refine ⟨by rw [HE.out]; rfl, ?_⟩
    have hb := HB1.out
    (repeat' (first | (with_reducible exact Below.refl _ _) | (with_reducible assumption) | (with_reducible refine Below.setCell ?_ ?_ _) | (with_reducible refine Below.alloc ?_ ?_ _) | (with_reducible refine below_drewN ?_ _) | (with_reducible refine Below.drew ?_) | (with_reducible exact Nat.le_refl _) | omega | (simp; done) | (simp; omega)))
  have hok : ¬ badR ⟨2, a, b, z⟩ L := by unfold badR; simp only; omega
  cases r with
  | false =>
    have HE : Hid (C = 3) := by
      unfold Hid; rw [hC, ruleK, if_neg (fun e => hok (bad_iff.1 e)), if_neg (fun e => by simp only at e; rw [decide_eq_true e.1, decide_eq_true e.2] at hr; cases hr)]
    clear hC hr hok
    go_enter Try.func54, Try.ntmps54
    go_wp2_with (fail)
    refine (impl_kind2 _).mono ?_
    rintro e w1 ⟨rfl, hb1⟩
    obtain ⟨hk1, hlt1, hB1⟩ := resR hb1
    obtain ⟨r0, r1, r2, r3⟩ := cells4 hk1
    have HB1 : Hid (Below w.heap.size w w1) := hB1
    clear hb1 hk1 hB1
    go_wp2_with (fail)
    refine (HIN.out _).mono ?_
    rintro e w2 ⟨rfl, hw2⟩
    subst w2
    go_wp2
    go_returns
    refine ⟨by rw [HE.out]; rfl, ?_⟩
    have hb := HB1.out
    (repeat' (first | (with_reducible exact Below.refl _ _) | (with_reducible assumption) | (with_reducible refine Below.setCell ?_ ?_ _) | (with_reducible refine Below.alloc ?_ ?_ _) | (with_reducible refine below_drewN ?_ _) | (with_reducible refine Below.drew ?_) | (with_reducible exact Nat.le_refl _) | omega | (simp; done) | (simp; omega)))
  | true =>
    have HE : Hid (C = 0) := by
      unfold Hid; rw [hC, ruleK, if_neg (fun e => hok (bad_iff.1 e)), if_pos (by simpa using hr.symm)]
    clear hC hr hok
    go_enter Try.func54, Try.ntmps54
    go_wp2_with (fail)
    refine (impl_kind2 _).mono ?_
    rintro e w1 ⟨rfl, hb1⟩
    obtain ⟨hk1, hlt1, hB1⟩ := resR hb1
    obtain ⟨r0, r1, r2, r3⟩ := cells4 hk1
    have HB1 : Hid (Below w.heap.size w w1) := hB1
    clear hb1 hk1 hB1
    go_wp2_with (fail)
    refine (HIN.out _).mono ?_
    rintro e w2 ⟨rfl, hw2⟩
    subst w2
    go_wp2
    go_returns
    refine ⟨by rw [HE.out]; rfl, ?_⟩
    have hb := HB1.out
    (repeat' (first | (with_reducible exact Below.refl _ _) | (with_reducible assumption) | (with_reducible refine Below.setCell ?_ ?_ _) | (with_reducible refine Below.alloc ?_ ?_ _) | (with_reducible refine below_drewN ?_ _) | (with_reducible refine Below.drew ?_) | (with_reducible exact Nat.le_refl _) | omega | (simp; done) | (simp; omega)))

set_option maxRecDepth 10000 in
set_option maxHeartbeats 6400000 in
theorem impl_rule_k3 (a b z L : Int) (w : World) : Calls Try.prog 54 #[.agg #[.int .i64 3, .int .i64 a, .int .i64 b, .int .i64 z], .int .i64 L] w fun e w' => e = .returned (.int .i64 (ruleK ⟨3, a, b, z⟩ L)) ∧ Below w.heap.size w w' := by
  have hst := store_fn
  have hsn := store_nf
  obtain ⟨C, hC⟩ : ∃ C, C = ruleK ⟨3, a, b, z⟩ L := ⟨_, rfl⟩
  rw [← hC]
  obtain ⟨r, hr⟩ : ∃ r, r = (decide (1 ≤ z) && decide (z ≤ 1000)) := ⟨_, rfl⟩
  have HIN : Hid (∀ w, Calls Try.prog 81 #[.int .i64 z, .int .i64 1, .int .i64 1000] w fun e w' => e = .returned (.bool r) ∧ w' = w) := impl_withinR z 1 1000 r hr
  by_cases h1 : a < 0
  · have HE : Hid (C = 1) := by unfold Hid; rw [hC, ruleK, if_pos (bad_iff.2 (by unfold badR; simp only; omega))]
    clear hC hr
    go_enter Try.func54, Try.ntmps54
    go_wp2_with (fail)
    refine (impl_kind3 _).mono ?_
    rintro e w1 ⟨rfl, hb1⟩
    obtain ⟨hk1, hlt1, hB1⟩ := resR hb1
    obtain ⟨r0, r1, r2, r3⟩ := cells4 hk1
    have HB1 : Hid (Below w.heap.size w w1) := hB1
    clear hb1 hk1 hB1
    go_wp2
    go_returns
    refine ⟨by rw [HE.out]; rfl, ?_⟩
    have hb := HB1.out
    (repeat' (first | (with_reducible exact Below.refl _ _) | (with_reducible assumption) | (with_reducible refine Below.setCell ?_ ?_ _) | (with_reducible refine Below.alloc ?_ ?_ _) | (with_reducible refine below_drewN ?_ _) | (with_reducible refine Below.drew ?_) | (with_reducible exact Nat.le_refl _) | omega | (simp; done) | (simp; omega)))
  by_cases h2 : L ≤ a
  · have HE : Hid (C = 1) := by unfold Hid; rw [hC, ruleK, if_pos (bad_iff.2 (by unfold badR; simp only; omega))]
    clear hC hr
    go_enter Try.func54, Try.ntmps54
    go_wp2_with (fail)
    refine (impl_kind3 _).mono ?_
    rintro e w1 ⟨rfl, hb1⟩
    obtain ⟨hk1, hlt1, hB1⟩ := resR hb1
    obtain ⟨r0, r1, r2, r3⟩ := cells4 hk1
    have HB1 : Hid (Below w.heap.size w w1) := hB1
    clear hb1 hk1 hB1
    go_wp2
    go_returns
    refine ⟨by rw [HE.out]; rfl, ?_⟩
    have hb := HB1.out
    (repeat' (first | (with_reducible exact Below.refl _ _) | (with_reducible assumption) | (with_reducible refine Below.setCell ?_ ?_ _) | (with_reducible refine Below.alloc ?_ ?_ _) | (with_reducible refine below_drewN ?_ _) | (with_reducible refine Below.drew ?_) | (with_reducible exact Nat.le_refl _) | omega | (simp; done) | (simp; omega)))
  by_cases h3 : b < 0
  · have HE : Hid (C = 1) := by unfold Hid; rw [hC, ruleK, if_pos (bad_iff.2 (show badR _ _ from Or.inr (Or.inr (Or.inr ⟨by simp, Or.inl h3⟩))))]
    clear hC hr
    go_enter Try.func54, Try.ntmps54
    go_wp2_with (fail)
    refine (impl_kind3 _).mono ?_
    rintro e w1 ⟨rfl, hb1⟩
    obtain ⟨hk1, hlt1, hB1⟩ := resR hb1
    obtain ⟨r0, r1, r2, r3⟩ := cells4 hk1
    have HB1 : Hid (Below w.heap.size w w1) := hB1
    clear hb1 hk1 hB1
    go_wp2
    go_returns
    refine ⟨by rw [HE.out]; rfl, ?_⟩
    have hb := HB1.out
    (repeat' (first | (with_reducible exact Below.refl _ _) | (with_reducible assumption) | (with_reducible refine Below.setCell ?_ ?_ _) | (with_reducible refine Below.alloc ?_ ?_ _) | (with_reducible refine below_drewN ?_ _) | (with_reducible refine Below.drew ?_) | (with_reducible exact Nat.le_refl _) | omega | (simp; done) | (simp; omega)))
  by_cases h4 : L ≤ b
  · have HE : Hid (C = 1) := by unfold Hid; rw [hC, ruleK, if_pos (bad_iff.2 (show badR _ _ from Or.inr (Or.inr (Or.inr ⟨by simp, Or.inr h4⟩))))]
    clear hC hr
    go_enter Try.func54, Try.ntmps54
    go_wp2_with (fail)
    refine (impl_kind3 _).mono ?_
    rintro e w1 ⟨rfl, hb1⟩
    obtain ⟨hk1, hlt1, hB1⟩ := resR hb1
    obtain ⟨r0, r1, r2, r3⟩ := cells4 hk1
    have HB1 : Hid (Below w.heap.size w w1) := hB1
    clear hb1 hk1 hB1
    go_wp2
    go_returns
    refine ⟨by rw [HE.out]; rfl, ?_⟩
    have hb := HB1.out
    (repeat' (first | (with_reducible exact Below.refl _ _) | (with_reducible assumption) | (with_reducible refine Below.setCell ?_ ?_ _) | (with_reducible refine Below.alloc ?_ ?_ _) | (with_reducible refine below_drewN ?_ _) | (with_reducible refine Below.drew ?_) | (with_reducible exact Nat.le_refl _) | omega | (simp; done) | (simp; omega)))
  have hok : ¬ badR ⟨3, a, b, z⟩ L := by unfold badR; simp only; omega
  cases r with
  | false =>
    have HE : Hid (C = 3) := by
      unfold Hid; rw [hC, ruleK, if_neg (fun e => hok (bad_iff.1 e)), if_neg (fun e => by simp only at e; rw [decide_eq_true e.1, decide_eq_true e.2] at hr; cases hr)]
    clear hC hr hok
    go_enter Try.func54, Try.ntmps54
    go_wp2_with (fail)
    refine (impl_kind3 _).mono ?_
    rintro e w1 ⟨rfl, hb1⟩
    obtain ⟨hk1, hlt1, hB1⟩ := resR hb1
    obtain ⟨r0, r1, r2, r3⟩ := cells4 hk1
    have HB1 : Hid (Below w.heap.size w w1) := hB1
    clear hb1 hk1 hB1
    go_wp2_with (fail)
    refine (HIN.out _).mono ?_
    rintro e w2 ⟨rfl, hw2⟩
    subst w2
    go_wp2
    go_returns
    refine ⟨by rw [HE.out]; rfl, ?_⟩
    have hb := HB1.out
    (repeat' (first | (with_reducible exact Below.refl _ _) | (with_reducible assumption) | (with_reducible refine Below.setCell ?_ ?_ _) | (with_reducible refine Below.alloc ?_ ?_ _) | (with_reducible refine below_drewN ?_ _) | (with_reducible refine Below.drew ?_) | (with_reducible exact Nat.le_refl _) | omega | (simp; done) | (simp; omega)))
  | true =>
    have HE : Hid (C = 0) := by
      unfold Hid; rw [hC, ruleK, if_neg (fun e => hok (bad_iff.1 e)), if_pos (by simpa using hr.symm)]
    clear hC hr hok
    go_enter Try.func54, Try.ntmps54
    go_wp2_with (fail)
    refine (impl_kind3 _).mono ?_
    rintro e w1 ⟨rfl, hb1⟩
    obtain ⟨hk1, hlt1, hB1⟩ := resR hb1
    obtain ⟨r0, r1, r2, r3⟩ := cells4 hk1
    have HB1 : Hid (Below w.heap.size w w1) := hB1
    clear hb1 hk1 hB1
    go_wp2_with (fail)
    refine (HIN.out _).mono ?_
    rintro e w2 ⟨rfl, hw2⟩
    subst w2
    go_wp2
    go_returns
    refine ⟨by rw [HE.out]; rfl, ?_⟩
    have hb := HB1.out
    (repeat' (first | (with_reducible exact Below.refl _ _) | (with_reducible assumption) | (with_reducible refine Below.setCell ?_ ?_ _) | (with_reducible refine Below.alloc ?_ ?_ _) | (with_reducible refine below_drewN ?_ _) | (with_reducible refine Below.drew ?_) | (with_reducible exact Nat.le_refl _) | omega | (simp; done) | (simp; omega)))

set_option maxRecDepth 10000 in
set_option maxHeartbeats 6400000 in
theorem impl_rule_k4 (a b z L : Int) (w : World) : Calls Try.prog 54 #[.agg #[.int .i64 4, .int .i64 a, .int .i64 b, .int .i64 z], .int .i64 L] w fun e w' => e = .returned (.int .i64 (ruleK ⟨4, a, b, z⟩ L)) ∧ Below w.heap.size w w' := by
  have hst := store_fn
  have hsn := store_nf
  obtain ⟨C, hC⟩ : ∃ C, C = ruleK ⟨4, a, b, z⟩ L := ⟨_, rfl⟩
  rw [← hC]
  obtain ⟨r, hr⟩ : ∃ r, r = (decide (1 ≤ z) && decide (z ≤ 1000)) := ⟨_, rfl⟩
  have HIN : Hid (∀ w, Calls Try.prog 81 #[.int .i64 z, .int .i64 1, .int .i64 1000] w fun e w' => e = .returned (.bool r) ∧ w' = w) := impl_withinR z 1 1000 r hr
  by_cases h1 : a < 0
  · have HE : Hid (C = 1) := by unfold Hid; rw [hC, ruleK, if_pos (bad_iff.2 (by unfold badR; simp only; omega))]
    clear hC hr
    go_enter Try.func54, Try.ntmps54
    go_wp2_with (fail)
    refine (impl_kind4 _).mono ?_
    rintro e w1 ⟨rfl, hb1⟩
    obtain ⟨hk1, hlt1, hB1⟩ := resR hb1
    obtain ⟨r0, r1, r2, r3⟩ := cells4 hk1
    have HB1 : Hid (Below w.heap.size w w1) := hB1
    clear hb1 hk1 hB1
    go_wp2
    go_returns
    refine ⟨by rw [HE.out]; rfl, ?_⟩
    have hb := HB1.out
    (repeat' (first | (with_reducible exact Below.refl _ _) | (with_reducible assumption) | (with_reducible refine Below.setCell ?_ ?_ _) | (with_reducible refine Below.alloc ?_ ?_ _) | (with_reducible refine below_drewN ?_ _) | (with_reducible refine Below.drew ?_) | (with_reducible exact Nat.le_refl _) | omega | (simp; done) | (simp; omega)))
  by_cases h2 : L ≤ a
  · have HE : Hid (C = 1) := by unfold Hid; rw [hC, ruleK, if_pos (bad_iff.2 (by unfold badR; simp only; omega))]
    clear hC hr
    go_enter Try.func54, Try.ntmps54
    go_wp2_with (fail)
    refine (impl_kind4 _).mono ?_
    rintro e w1 ⟨rfl, hb1⟩
    obtain ⟨hk1, hlt1, hB1⟩ := resR hb1
    obtain ⟨r0, r1, r2, r3⟩ := cells4 hk1
    have HB1 : Hid (Below w.heap.size w w1) := hB1
    clear hb1 hk1 hB1
    go_wp2
    go_returns
    refine ⟨by rw [HE.out]; rfl, ?_⟩
    have hb := HB1.out
    (repeat' (first | (with_reducible exact Below.refl _ _) | (with_reducible assumption) | (with_reducible refine Below.setCell ?_ ?_ _) | (with_reducible refine Below.alloc ?_ ?_ _) | (with_reducible refine below_drewN ?_ _) | (with_reducible refine Below.drew ?_) | (with_reducible exact Nat.le_refl _) | omega | (simp; done) | (simp; omega)))
  by_cases h3 : b < 0
  · have HE : Hid (C = 1) := by unfold Hid; rw [hC, ruleK, if_pos (bad_iff.2 (show badR _ _ from Or.inr (Or.inr (Or.inr ⟨by simp, Or.inl h3⟩))))]
    clear hC hr
    go_enter Try.func54, Try.ntmps54
    go_wp2_with (fail)
    refine (impl_kind4 _).mono ?_
    rintro e w1 ⟨rfl, hb1⟩
    obtain ⟨hk1, hlt1, hB1⟩ := resR hb1
    obtain ⟨r0, r1, r2, r3⟩ := cells4 hk1
    have HB1 : Hid (Below w.heap.size w w1) := hB1
    clear hb1 hk1 hB1
    go_wp2
    go_returns
    refine ⟨by rw [HE.out]; rfl, ?_⟩
    have hb := HB1.out
    (repeat' (first | (with_reducible exact Below.refl _ _) | (with_reducible assumption) | (with_reducible refine Below.setCell ?_ ?_ _) | (with_reducible refine Below.alloc ?_ ?_ _) | (with_reducible refine below_drewN ?_ _) | (with_reducible refine Below.drew ?_) | (with_reducible exact Nat.le_refl _) | omega | (simp; done) | (simp; omega)))
  by_cases h4 : L ≤ b
  · have HE : Hid (C = 1) := by unfold Hid; rw [hC, ruleK, if_pos (bad_iff.2 (show badR _ _ from Or.inr (Or.inr (Or.inr ⟨by simp, Or.inr h4⟩))))]
    clear hC hr
    go_enter Try.func54, Try.ntmps54
    go_wp2_with (fail)
    refine (impl_kind4 _).mono ?_
    rintro e w1 ⟨rfl, hb1⟩
    obtain ⟨hk1, hlt1, hB1⟩ := resR hb1
    obtain ⟨r0, r1, r2, r3⟩ := cells4 hk1
    have HB1 : Hid (Below w.heap.size w w1) := hB1
    clear hb1 hk1 hB1
    go_wp2
    go_returns
    refine ⟨by rw [HE.out]; rfl, ?_⟩
    have hb := HB1.out
    (repeat' (first | (with_reducible exact Below.refl _ _) | (with_reducible assumption) | (with_reducible refine Below.setCell ?_ ?_ _) | (with_reducible refine Below.alloc ?_ ?_ _) | (with_reducible refine below_drewN ?_ _) | (with_reducible refine Below.drew ?_) | (with_reducible exact Nat.le_refl _) | omega | (simp; done) | (simp; omega)))
  have hok : ¬ badR ⟨4, a, b, z⟩ L := by unfold badR; simp only; omega
  cases r with
  | false =>
    have HE : Hid (C = 3) := by
      unfold Hid; rw [hC, ruleK, if_neg (fun e => hok (bad_iff.1 e)), if_neg (fun e => by simp only at e; rw [decide_eq_true e.1, decide_eq_true e.2] at hr; cases hr)]
    clear hC hr hok
    go_enter Try.func54, Try.ntmps54
    go_wp2_with (fail)
    refine (impl_kind4 _).mono ?_
    rintro e w1 ⟨rfl, hb1⟩
    obtain ⟨hk1, hlt1, hB1⟩ := resR hb1
    obtain ⟨r0, r1, r2, r3⟩ := cells4 hk1
    have HB1 : Hid (Below w.heap.size w w1) := hB1
    clear hb1 hk1 hB1
    go_wp2_with (fail)
    refine (HIN.out _).mono ?_
    rintro e w2 ⟨rfl, hw2⟩
    subst w2
    go_wp2
    go_returns
    refine ⟨by rw [HE.out]; rfl, ?_⟩
    have hb := HB1.out
    (repeat' (first | (with_reducible exact Below.refl _ _) | (with_reducible assumption) | (with_reducible refine Below.setCell ?_ ?_ _) | (with_reducible refine Below.alloc ?_ ?_ _) | (with_reducible refine below_drewN ?_ _) | (with_reducible refine Below.drew ?_) | (with_reducible exact Nat.le_refl _) | omega | (simp; done) | (simp; omega)))
  | true =>
    have HE : Hid (C = 0) := by
      unfold Hid; rw [hC, ruleK, if_neg (fun e => hok (bad_iff.1 e)), if_pos (by simpa using hr.symm)]
    clear hC hr hok
    go_enter Try.func54, Try.ntmps54
    go_wp2_with (fail)
    refine (impl_kind4 _).mono ?_
    rintro e w1 ⟨rfl, hb1⟩
    obtain ⟨hk1, hlt1, hB1⟩ := resR hb1
    obtain ⟨r0, r1, r2, r3⟩ := cells4 hk1
    have HB1 : Hid (Below w.heap.size w w1) := hB1
    clear hb1 hk1 hB1
    go_wp2_with (fail)
    refine (HIN.out _).mono ?_
    rintro e w2 ⟨rfl, hw2⟩
    subst w2
    go_wp2
    go_returns
    refine ⟨by rw [HE.out]; rfl, ?_⟩
    have hb := HB1.out
    (repeat' (first | (with_reducible exact Below.refl _ _) | (with_reducible assumption) | (with_reducible refine Below.setCell ?_ ?_ _) | (with_reducible refine Below.alloc ?_ ?_ _) | (with_reducible refine below_drewN ?_ _) | (with_reducible refine Below.drew ?_) | (with_reducible exact Nat.le_refl _) | omega | (simp; done) | (simp; omega)))

set_option maxRecDepth 10000 in
set_option maxHeartbeats 6400000 in
theorem impl_rule_k5 (a b z L : Int) (w : World) : Calls Try.prog 54 #[.agg #[.int .i64 5, .int .i64 a, .int .i64 b, .int .i64 z], .int .i64 L] w fun e w' => e = .returned (.int .i64 (ruleK ⟨5, a, b, z⟩ L)) ∧ Below w.heap.size w w' := by
  have hst := store_fn
  have hsn := store_nf
  obtain ⟨C, hC⟩ : ∃ C, C = ruleK ⟨5, a, b, z⟩ L := ⟨_, rfl⟩
  rw [← hC]
  obtain ⟨r, hr⟩ : ∃ r, r = (decide (1 ≤ z) && decide (z ≤ 1000)) := ⟨_, rfl⟩
  have HIN : Hid (∀ w, Calls Try.prog 81 #[.int .i64 z, .int .i64 1, .int .i64 1000] w fun e w' => e = .returned (.bool r) ∧ w' = w) := impl_withinR z 1 1000 r hr
  by_cases h1 : a < 0
  · have HE : Hid (C = 1) := by unfold Hid; rw [hC, ruleK, if_pos (bad_iff.2 (by unfold badR; simp only; omega))]
    clear hC hr
    go_enter Try.func54, Try.ntmps54
    go_wp2_with (fail)
    refine (impl_kind5 _).mono ?_
    rintro e w1 ⟨rfl, hb1⟩
    obtain ⟨hk1, hlt1, hB1⟩ := resR hb1
    obtain ⟨r0, r1, r2, r3⟩ := cells4 hk1
    have HB1 : Hid (Below w.heap.size w w1) := hB1
    clear hb1 hk1 hB1
    go_wp2
    go_returns
    refine ⟨by rw [HE.out]; rfl, ?_⟩
    have hb := HB1.out
    (repeat' (first | (with_reducible exact Below.refl _ _) | (with_reducible assumption) | (with_reducible refine Below.setCell ?_ ?_ _) | (with_reducible refine Below.alloc ?_ ?_ _) | (with_reducible refine below_drewN ?_ _) | (with_reducible refine Below.drew ?_) | (with_reducible exact Nat.le_refl _) | omega | (simp; done) | (simp; omega)))
  by_cases h2 : L ≤ a
  · have HE : Hid (C = 1) := by unfold Hid; rw [hC, ruleK, if_pos (bad_iff.2 (by unfold badR; simp only; omega))]
    clear hC hr
    go_enter Try.func54, Try.ntmps54
    go_wp2_with (fail)
    refine (impl_kind5 _).mono ?_
    rintro e w1 ⟨rfl, hb1⟩
    obtain ⟨hk1, hlt1, hB1⟩ := resR hb1
    obtain ⟨r0, r1, r2, r3⟩ := cells4 hk1
    have HB1 : Hid (Below w.heap.size w w1) := hB1
    clear hb1 hk1 hB1
    go_wp2
    go_returns
    refine ⟨by rw [HE.out]; rfl, ?_⟩
    have hb := HB1.out
    (repeat' (first | (with_reducible exact Below.refl _ _) | (with_reducible assumption) | (with_reducible refine Below.setCell ?_ ?_ _) | (with_reducible refine Below.alloc ?_ ?_ _) | (with_reducible refine below_drewN ?_ _) | (with_reducible refine Below.drew ?_) | (with_reducible exact Nat.le_refl _) | omega | (simp; done) | (simp; omega)))
  have hok : ¬ badR ⟨5, a, b, z⟩ L := by unfold badR; simp only; omega
  cases r with
  | false =>
    have HE : Hid (C = 3) := by
      unfold Hid; rw [hC, ruleK, if_neg (fun e => hok (bad_iff.1 e)), if_neg (fun e => by simp only at e; rw [decide_eq_true e.1, decide_eq_true e.2] at hr; cases hr)]
    clear hC hr hok
    go_enter Try.func54, Try.ntmps54
    go_wp2_with (fail)
    refine (impl_kind5 _).mono ?_
    rintro e w1 ⟨rfl, hb1⟩
    obtain ⟨hk1, hlt1, hB1⟩ := resR hb1
    obtain ⟨r0, r1, r2, r3⟩ := cells4 hk1
    have HB1 : Hid (Below w.heap.size w w1) := hB1
    clear hb1 hk1 hB1
    go_wp2_with (fail)
    refine (HIN.out _).mono ?_
    rintro e w2 ⟨rfl, hw2⟩
    subst w2
    go_wp2
    go_returns
    refine ⟨by rw [HE.out]; rfl, ?_⟩
    have hb := HB1.out
    (repeat' (first | (with_reducible exact Below.refl _ _) | (with_reducible assumption) | (with_reducible refine Below.setCell ?_ ?_ _) | (with_reducible refine Below.alloc ?_ ?_ _) | (with_reducible refine below_drewN ?_ _) | (with_reducible refine Below.drew ?_) | (with_reducible exact Nat.le_refl _) | omega | (simp; done) | (simp; omega)))
  | true =>
    have HE : Hid (C = 0) := by
      unfold Hid; rw [hC, ruleK, if_neg (fun e => hok (bad_iff.1 e)), if_pos (by simpa using hr.symm)]
    clear hC hr hok
    go_enter Try.func54, Try.ntmps54
    go_wp2_with (fail)
    refine (impl_kind5 _).mono ?_
    rintro e w1 ⟨rfl, hb1⟩
    obtain ⟨hk1, hlt1, hB1⟩ := resR hb1
    obtain ⟨r0, r1, r2, r3⟩ := cells4 hk1
    have HB1 : Hid (Below w.heap.size w w1) := hB1
    clear hb1 hk1 hB1
    go_wp2_with (fail)
    refine (HIN.out _).mono ?_
    rintro e w2 ⟨rfl, hw2⟩
    subst w2
    go_wp2
    go_returns
    refine ⟨by rw [HE.out]; rfl, ?_⟩
    have hb := HB1.out
    (repeat' (first | (with_reducible exact Below.refl _ _) | (with_reducible assumption) | (with_reducible refine Below.setCell ?_ ?_ _) | (with_reducible refine Below.alloc ?_ ?_ _) | (with_reducible refine below_drewN ?_ _) | (with_reducible refine Below.drew ?_) | (with_reducible exact Nat.le_refl _) | omega | (simp; done) | (simp; omega)))

set_option maxRecDepth 10000 in
set_option maxHeartbeats 6400000 in
theorem impl_rule_not (n : Int) (q1 : ¬ (1 : Int) = n) (q2 : ¬ (2 : Int) = n) (q3 : ¬ (3 : Int) = n) (q4 : ¬ (4 : Int) = n) (q5 : ¬ (5 : Int) = n) (a b z L : Int) (w : World) : Calls Try.prog 54 #[.agg #[.int .i64 n, .int .i64 a, .int .i64 b, .int .i64 z], .int .i64 L] w fun e w' => e = .returned (.int .i64 (ruleK ⟨n, a, b, z⟩ L)) ∧ Below w.heap.size w w' := by
  have hst := store_fn
  have hsn := store_nf
  obtain ⟨C, hC⟩ : ∃ C, C = ruleK ⟨n, a, b, z⟩ L := ⟨_, rfl⟩
  rw [← hC]
  obtain ⟨r, hr⟩ : ∃ r, r = (decide (1 ≤ z) && decide (z ≤ 1000)) := ⟨_, rfl⟩
  have HIN : Hid (∀ w, Calls Try.prog 81 #[.int .i64 z, .int .i64 1, .int .i64 1000] w fun e w' => e = .returned (.bool r) ∧ w' = w) := impl_withinR z 1 1000 r hr
  have HE : Hid (C = 1) := by unfold Hid; rw [hC, ruleK, if_pos (bad_iff.2 (by unfold badR; simp only; omega))]
  clear hC hr
  go_enter Try.func54, Try.ntmps54
  go_wp2_with (fail)
  refine (impl_kind_not n _ q1 q2 q3 q4 q5).mono ?_
  rintro e w1 ⟨rfl, hb1⟩
  obtain ⟨hk1, hlt1, hB1⟩ := resR hb1
  obtain ⟨r0, r1, r2, r3⟩ := cells4 hk1
  have HB1 : Hid (Below w.heap.size w w1) := hB1
  clear hb1 hk1 hB1
  go_wp2
  go_returns
  refine ⟨by rw [HE.out]; rfl, ?_⟩
  have hb := HB1.out
  (repeat' (first | (with_reducible exact Below.refl _ _) | (with_reducible assumption) | (with_reducible refine Below.setCell ?_ ?_ _) | (with_reducible refine Below.alloc ?_ ?_ _) | (with_reducible refine below_drewN ?_ _) | (with_reducible refine Below.drew ?_) | (with_reducible exact Nat.le_refl _) | omega | (simp; done) | (simp; omega)))

theorem impl_rule (r : Bx) (L : Int) (w : World) : Calls Try.prog 54 #[.agg #[.int .i64 r.x0, .int .i64 r.y0, .int .i64 r.x1, .int .i64 r.y1], .int .i64 L] w fun e w' => e = .returned (.int .i64 (ruleK r L)) ∧ Below w.heap.size w w' := by
  obtain ⟨k, a, b, z⟩ := r
  by_cases h1 : (1 : Int) = k
  · subst h1; exact impl_rule_k1 a b z L w
  by_cases h2 : (2 : Int) = k
  · subst h2; exact impl_rule_k2 a b z L w
  by_cases h3 : (3 : Int) = k
  · subst h3; exact impl_rule_k3 a b z L w
  by_cases h4 : (4 : Int) = k
  · subst h4; exact impl_rule_k4 a b z L w
  by_cases h5 : (5 : Int) = k
  · subst h5; exact impl_rule_k5 a b z L w
  exact impl_rule_not k h1 h2 h3 h4 h5 a b z L w

end Go.Proofs.Ytokdpgabmifdjaa
