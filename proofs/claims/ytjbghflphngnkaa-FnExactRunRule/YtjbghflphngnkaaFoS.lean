/- Proved here: l22Before of the model: is a job ahead of another on two machines. -/
import Derived.Test.YtjbghflphngnkaaOpN
import Derived.Test.YtjbghflphngnkaaDjS
namespace Go.Proofs.Ytjbghflphngnkaa
open Go.RowKit
set_option linter.unusedVariables false
set_option linter.unusedSimpArgs false


theorem bef_iff (x y : Jb) : foC x y < 0 ↔ (if grpJ x = grpJ y then (k2J x < k2J y ∨ (k2J x = k2J y ∧ x.id < y.id)) else grpJ x < grpJ y) := by
  unfold foC
  show (if lexC grC k2C x y = 0 then idC x y else lexC grC k2C x y) < 0 ↔ _
  have h1 : lexC grC k2C x y = if cmpI (grpJ x) (grpJ y) = 0 then cmpI (k2J x) (k2J y) else cmpI (grpJ x) (grpJ y) := rfl
  rw [h1]
  have h2 : idC x y = cmpI x.id y.id := rfl
  rw [h2]
  unfold cmpI
  by_cases e1 : grpJ x = grpJ y
  · rw [if_pos e1, e1]
    simp only [Int.lt_irrefl, if_false, if_true]
    by_cases e2 : k2J x < k2J y
    · simp [e2]
    · by_cases e3 : k2J y < k2J x
      · simp [e2, e3]; omega
      · simp [e2, e3]
        have e4 : k2J x = k2J y := by omega
        simp [e4]
        split
        · rename_i h; simp [h]
        · rename_i h
          split <;> simp <;> omega
  · rw [if_neg e1]
    by_cases e2 : grpJ x < grpJ y
    · simp [e2]
    · have e3 : grpJ y < grpJ x := by omega
      simp [e2, e3]
set_option maxRecDepth 10000 in
set_option maxHeartbeats 6400000 in
theorem spec_bef (x y : Jb) (W : World) : Calls Try.prog 51 #[.agg #[.int .i64 x.id, .int .i64 x.co, .int .i64 x.ti, .int .i64 x.se, .int .i64 x.du, .int .i64 x.we, .int .i64 x.ki], .agg #[.int .i64 y.id, .int .i64 y.co, .int .i64 y.ti, .int .i64 y.se, .int .i64 y.du, .int .i64 y.we, .int .i64 y.ki]] W fun e w' => e = .returned (.bool (decide (foC x y < 0))) ∧ Below W.heap.size W w' := by
  obtain ⟨q, hq⟩ : ∃ q, q = decide (foC x y < 0) := ⟨_, rfl⟩
  rw [← hq]
  have HQ : Hid ((x.ti ≤ x.se → y.ti ≤ y.se → (q = true ↔ x.ti < y.ti ∨ (x.ti = y.ti ∧ x.id < y.id))) ∧ (¬ x.ti ≤ x.se → ¬ y.ti ≤ y.se → (q = true ↔ y.se < x.se ∨ (y.se = x.se ∧ x.id < y.id))) ∧ (x.ti ≤ x.se → ¬ y.ti ≤ y.se → q = true) ∧ (¬ x.ti ≤ x.se → y.ti ≤ y.se → q = false)) := by
    unfold Hid
    have e := bef_iff x y
    unfold grpJ k2J at e
    refine ⟨fun h1 h2 => ?_, fun h1 h2 => ?_, fun h1 h2 => ?_, fun h1 h2 => ?_⟩
    · rw [hq, decide_eq_true_iff, e]; simp only [if_pos h1, if_pos h2, if_true]
    · rw [hq, decide_eq_true_iff, e]; simp only [if_neg h1, if_neg h2, if_true]; omega
    · rw [hq, decide_eq_true_iff, e]; simp only [if_pos h1, if_neg h2]; rw [if_neg (by decide)]; decide
    · rw [hq, decide_eq_false_iff_not, e]; simp only [if_neg h1, if_pos h2]; rw [if_neg (by decide)]; decide
  clear hq
  by_cases h1 : x.ti ≤ x.se
  · by_cases h2 : y.ti ≤ y.se
    · rcases (by omega : x.ti < y.ti ∨ y.ti < x.ti ∨ x.ti = y.ti) with g | g | g
      · have HE : Hid (q = true) := (HQ.out.1 h1 h2).2 (Or.inl g)
        clear HQ
        go_enter Try.func51, Try.ntmps51
        go_wp2
        go_returns
        exact ⟨by rw [HE.out]; rfl, by (repeat' (first | (with_reducible exact Below.refl _ _) | (with_reducible assumption) | (with_reducible refine Below.setCell ?_ ?_ _) | (with_reducible refine Below.alloc ?_ ?_ _) | (with_reducible refine below_drewN ?_ _) | (with_reducible refine Below.drew ?_) | (with_reducible exact Nat.le_refl _) | omega | (simp; done) | (simp; omega)))⟩
      · have g' : ¬ x.ti < y.ti := by omega
        have g'' : ¬ x.ti = y.ti := by omega
        have HE : Hid (q = false) := Bool.eq_false_iff.2 (fun e => by have := (HQ.out.1 h1 h2).1 e; omega)
        clear HQ
        go_enter Try.func51, Try.ntmps51
        go_wp2
        go_returns
        exact ⟨by rw [HE.out]; rfl, by (repeat' (first | (with_reducible exact Below.refl _ _) | (with_reducible assumption) | (with_reducible refine Below.setCell ?_ ?_ _) | (with_reducible refine Below.alloc ?_ ?_ _) | (with_reducible refine below_drewN ?_ _) | (with_reducible refine Below.drew ?_) | (with_reducible exact Nat.le_refl _) | omega | (simp; done) | (simp; omega)))⟩
      · have g' : ¬ x.ti < y.ti := by omega
        have g'' : ¬ y.ti < x.ti := by omega
        have ge : (x.ti == y.ti) = true := beq_iff_eq.2 g
        by_cases gi : x.id < y.id
        · have HE : Hid (q = true) := (HQ.out.1 h1 h2).2 (Or.inr ⟨g, gi⟩)
          clear HQ g
          go_enter Try.func51, Try.ntmps51
          go_wp2
          go_returns
          exact ⟨by rw [HE.out]; rfl, by (repeat' (first | (with_reducible exact Below.refl _ _) | (with_reducible assumption) | (with_reducible refine Below.setCell ?_ ?_ _) | (with_reducible refine Below.alloc ?_ ?_ _) | (with_reducible refine below_drewN ?_ _) | (with_reducible refine Below.drew ?_) | (with_reducible exact Nat.le_refl _) | omega | (simp; done) | (simp; omega)))⟩
        · have HE : Hid (q = false) := Bool.eq_false_iff.2 (fun e => by have := (HQ.out.1 h1 h2).1 e; omega)
          clear HQ g
          go_enter Try.func51, Try.ntmps51
          go_wp2
          go_returns
          exact ⟨by rw [HE.out]; rfl, by (repeat' (first | (with_reducible exact Below.refl _ _) | (with_reducible assumption) | (with_reducible refine Below.setCell ?_ ?_ _) | (with_reducible refine Below.alloc ?_ ?_ _) | (with_reducible refine below_drewN ?_ _) | (with_reducible refine Below.drew ?_) | (with_reducible exact Nat.le_refl _) | omega | (simp; done) | (simp; omega)))⟩
    · have HE : Hid (q = true) := HQ.out.2.2.1 h1 h2
      clear HQ
      go_enter Try.func51, Try.ntmps51
      go_wp2
      go_returns
      exact ⟨by rw [HE.out]; rfl, by (repeat' (first | (with_reducible exact Below.refl _ _) | (with_reducible assumption) | (with_reducible refine Below.setCell ?_ ?_ _) | (with_reducible refine Below.alloc ?_ ?_ _) | (with_reducible refine below_drewN ?_ _) | (with_reducible refine Below.drew ?_) | (with_reducible exact Nat.le_refl _) | omega | (simp; done) | (simp; omega)))⟩
  · by_cases h2 : y.ti ≤ y.se
    · have HE : Hid (q = false) := HQ.out.2.2.2 h1 h2
      clear HQ
      go_enter Try.func51, Try.ntmps51
      go_wp2
      go_returns
      exact ⟨by rw [HE.out]; rfl, by (repeat' (first | (with_reducible exact Below.refl _ _) | (with_reducible assumption) | (with_reducible refine Below.setCell ?_ ?_ _) | (with_reducible refine Below.alloc ?_ ?_ _) | (with_reducible refine below_drewN ?_ _) | (with_reducible refine Below.drew ?_) | (with_reducible exact Nat.le_refl _) | omega | (simp; done) | (simp; omega)))⟩
    · rcases (by omega : y.se < x.se ∨ x.se < y.se ∨ y.se = x.se) with g | g | g
      · have HE : Hid (q = true) := (HQ.out.2.1 h1 h2).2 (Or.inl g)
        clear HQ
        go_enter Try.func51, Try.ntmps51
        go_wp2
        go_returns
        exact ⟨by rw [HE.out]; rfl, by (repeat' (first | (with_reducible exact Below.refl _ _) | (with_reducible assumption) | (with_reducible refine Below.setCell ?_ ?_ _) | (with_reducible refine Below.alloc ?_ ?_ _) | (with_reducible refine below_drewN ?_ _) | (with_reducible refine Below.drew ?_) | (with_reducible exact Nat.le_refl _) | omega | (simp; done) | (simp; omega)))⟩
      · have g' : ¬ y.se < x.se := by omega
        have g'' : ¬ y.se = x.se := by omega
        have HE : Hid (q = false) := Bool.eq_false_iff.2 (fun e => by have := (HQ.out.2.1 h1 h2).1 e; omega)
        clear HQ
        go_enter Try.func51, Try.ntmps51
        go_wp2
        go_returns
        exact ⟨by rw [HE.out]; rfl, by (repeat' (first | (with_reducible exact Below.refl _ _) | (with_reducible assumption) | (with_reducible refine Below.setCell ?_ ?_ _) | (with_reducible refine Below.alloc ?_ ?_ _) | (with_reducible refine below_drewN ?_ _) | (with_reducible refine Below.drew ?_) | (with_reducible exact Nat.le_refl _) | omega | (simp; done) | (simp; omega)))⟩
      · have g' : ¬ y.se < x.se := by omega
        have g'' : ¬ x.se < y.se := by omega
        have ge : (y.se == x.se) = true := beq_iff_eq.2 g
        by_cases gi : x.id < y.id
        · have HE : Hid (q = true) := (HQ.out.2.1 h1 h2).2 (Or.inr ⟨g, gi⟩)
          clear HQ g
          go_enter Try.func51, Try.ntmps51
          go_wp2
          go_returns
          exact ⟨by rw [HE.out]; rfl, by (repeat' (first | (with_reducible exact Below.refl _ _) | (with_reducible assumption) | (with_reducible refine Below.setCell ?_ ?_ _) | (with_reducible refine Below.alloc ?_ ?_ _) | (with_reducible refine below_drewN ?_ _) | (with_reducible refine Below.drew ?_) | (with_reducible exact Nat.le_refl _) | omega | (simp; done) | (simp; omega)))⟩
        · have HE : Hid (q = false) := Bool.eq_false_iff.2 (fun e => by have := (HQ.out.2.1 h1 h2).1 e; omega)
          clear HQ g
          go_enter Try.func51, Try.ntmps51
          go_wp2
          go_returns
          exact ⟨by rw [HE.out]; rfl, by (repeat' (first | (with_reducible exact Below.refl _ _) | (with_reducible assumption) | (with_reducible refine Below.setCell ?_ ?_ _) | (with_reducible refine Below.alloc ?_ ?_ _) | (with_reducible refine below_drewN ?_ _) | (with_reducible refine Below.drew ?_) | (with_reducible exact Nat.le_refl _) | omega | (simp; done) | (simp; omega)))⟩

end Go.Proofs.Ytjbghflphngnkaa
