/- Proved here: the faults of a pupil, of both: puF. -/
import Derived.Test.YtgaabcgdfbgchaaPuB
import Derived.Test.YtgaabcgdfbgchaaInsC
namespace Go.Proofs.Ytgaabcgdfbgchaa
open Go.RowKit
set_option linter.unusedVariables false
set_option linter.unusedSimpArgs false

def prtB (x : Int) : Bool := decide (-1048576 ≤ x ∧ x ≤ 1048576)
/-- The fault of a pupil. -/
def puF (C F : Int) (s : List Int) : Int :=
  if decide (0 ≤ C ∧ C ≤ 12) = true ∧ prtB F = true then (if 13 < s.length then 2 else if s.all prtB = true then 0 else 3) else 3
theorem puF_good {C F : Int} {s : List Int} (h : puF C F s = 0) : 0 ≤ C ∧ C ≤ 12 ∧ (-1048576 ≤ F ∧ F ≤ 1048576) ∧ s.length ≤ 13 ∧ ∀ j (hj : j < s.length), -1048576 ≤ s[j] ∧ s[j] ≤ 1048576 := by
  unfold puF at h
  split at h
  · rename_i h1
    split at h
    · cases h
    · split at h
      · rename_i h2 h3
        have a1 := of_decide_eq_true h1.1
        have a2 := of_decide_eq_true h1.2
        exact ⟨a1.1, a1.2, a2, by omega, fun j hj => of_decide_eq_true (List.all_eq_true.1 h3 _ (List.getElem_mem hj))⟩
      · cases h
  · cases h

set_option maxHeartbeats 800000 in
theorem spec_parts (n : Int) (w : World) : Calls Try.prog 80 #[.int .i64 n] w fun e w' => e = .returned (.bool (!prtB n)) ∧ w' = w := by
  by_cases h1 : n < -1048576
  · have hr : prtB n = false := decide_eq_false (by omega)
    rw [hr]
    go_enter Try.func80, Try.ntmps80
    go_wp2
    go_returns
    exact ⟨rfl, rfl⟩
  by_cases h2 : 1048576 < n
  · have hr : prtB n = false := decide_eq_false (by omega)
    rw [hr]
    go_enter Try.func80, Try.ntmps80
    go_wp2
    go_returns
    exact ⟨rfl, rfl⟩
  · have hr : prtB n = true := decide_eq_true (by omega)
    rw [hr]
    go_enter Try.func80, Try.ntmps80
    go_wp2
    go_returns
    exact ⟨rfl, rfl⟩

/-- The one walk over the parts, told by what is true of those ahead. -/
theorem all_hit {s : List Int} {k : Nat} (hk : k < s.length) (h : prtB (s.getD k 0) = false) : s.all prtB = false := by
  rw [List.all_eq_false]
  refine ⟨s[k], List.getElem_mem hk, ?_⟩
  have : s.getD k 0 = s[k] := by simp [hk]
  rw [this] at h
  simp [h]
theorem all_all {s : List Int} (h : ∀ j, j < s.length → prtB (s.getD j 0) = true) : s.all prtB = true := by
  rw [List.all_eq_true]
  intro x hx
  obtain ⟨j, hj, rfl⟩ := List.getElem_of_mem hx
  have := h j hj
  simpa [hj] using this

set_option maxHeartbeats 6400000 in
theorem impl_pu (C F : Int) {w : World} {v : Value} {s : List Int} (h : RdI w v s) :
    Calls Try.prog 54 #[.agg #[.int .i64 C, .int .i64 F, v]] w fun e w' => e = .returned (.int .i64 (puF C F s)) ∧ Below w.heap.size w w' := by
  obtain ⟨a, c, rfl⟩ := h.form
  obtain ⟨n, hnn⟩ : ∃ n, n = s.length := ⟨_, rfl⟩
  rw [← hnn] at h ⊢
  obtain ⟨R, hR⟩ : ∃ R, R = puF C F s := ⟨_, rfl⟩
  rw [← hR]
  obtain ⟨r0, hr0⟩ : ∃ r, r = decide (0 ≤ C ∧ C ≤ 12) := ⟨_, rfl⟩
  obtain ⟨r1, hr1⟩ : ∃ r, r = prtB F := ⟨_, rfl⟩
  have H : Hid (RdI w (.slice a n c) s ∧ n = s.length ∧ R = if r0 = true ∧ r1 = true then (if 13 < n then 2 else if s.all prtB = true then 0 else 3) else 3) := ⟨h, hnn, by rw [hR, puF, ← hr0, ← hr1, ← hnn]⟩
  have HI0 : Hid (∀ W, Calls Try.prog 55 #[.int .i64 C, .int .i64 0, .int .i64 12] W fun e w' => e = .returned (.bool r0) ∧ w' = W) := impl_insC C 0 12 r0 hr0
  have HI1 : Hid (∀ W, Calls Try.prog 55 #[.int .i64 F, .int .i64 (-1048576), .int .i64 1048576] W fun e w' => e = .returned (.bool r1) ∧ w' = W) := impl_insC F _ _ r1 hr1
  clear h hnn hR hr0 hr1
  go_enter Try.func54, Try.ntmps54
  go_wp2_with (fail)
  refine (HI0.out _).mono ?_
  rintro e w1 ⟨rfl, hw1⟩
  subst w1
  cases r0 with
  | false =>
    have HE : Hid (R = 3) := by unfold Hid; rw [H.out.2.2]; simp
    go_wp2
    go_returns
    exact ⟨by rw [HE.out]; rfl, by (repeat' (first | (with_reducible exact Below.refl _ _) | (with_reducible assumption) | (with_reducible refine Below.setCell ?_ ?_ _) | (with_reducible refine Below.alloc ?_ ?_ _) | (with_reducible refine below_drewN ?_ _) | (with_reducible refine Below.drew ?_) | (with_reducible exact Nat.le_refl _) | omega | (simp; done) | (simp; omega)))⟩
  | true =>
  go_wp2_with (fail)
  refine (HI1.out _).mono ?_
  rintro e w2 ⟨rfl, hw2⟩
  subst w2
  cases r1 with
  | false =>
    have HE : Hid (R = 3) := by unfold Hid; rw [H.out.2.2]; simp
    go_wp2
    go_returns
    exact ⟨by rw [HE.out]; rfl, by (repeat' (first | (with_reducible exact Below.refl _ _) | (with_reducible assumption) | (with_reducible refine Below.setCell ?_ ?_ _) | (with_reducible refine Below.alloc ?_ ?_ _) | (with_reducible refine below_drewN ?_ _) | (with_reducible refine Below.drew ?_) | (with_reducible exact Nat.le_refl _) | omega | (simp; done) | (simp; omega)))⟩
  | true =>
  by_cases hm : 13 < n
  · have hm' : (13 : Int) < (n : Int) := by omega
    have HE : Hid (R = 2) := by unfold Hid; rw [H.out.2.2]; simp [hm]
    go_wp2
    go_returns
    exact ⟨by rw [HE.out]; rfl, by (repeat' (first | (with_reducible exact Below.refl _ _) | (with_reducible assumption) | (with_reducible refine Below.setCell ?_ ?_ _) | (with_reducible refine Below.alloc ?_ ?_ _) | (with_reducible refine below_drewN ?_ _) | (with_reducible refine Below.drew ?_) | (with_reducible exact Nat.le_refl _) | omega | (simp; done) | (simp; omega)))⟩
  have hm' : ¬ (13 : Int) < (n : Int) := by omega
  have HF : Hid (R = if s.all prtB = true then 0 else 3) := by unfold Hid; rw [H.out.2.2]; simp [hm]
  clear HI0 HI1
  go_wp2
  go_loopw [22] (fun i wr => ∃ k : Nat, k ≤ n ∧ i = .int .i64 k ∧ Hid ((∀ j, j < k → prtB (s.getD j 0) = true) ∧ Below w.heap.size w wr)) (fun i _ => n - (intOf i).toNat)
  case atStart => exact ⟨0, Nat.zero_le _, rfl, fun j h => by omega, by (repeat' (first | (with_reducible exact Below.refl _ _) | (with_reducible assumption) | (with_reducible refine Below.setCell ?_ ?_ _) | (with_reducible refine Below.alloc ?_ ?_ _) | (with_reducible refine below_drewN ?_ _) | (with_reducible refine Below.drew ?_) | (with_reducible exact Nat.le_refl _) | omega | (simp; done) | (simp; omega)))⟩
  case round =>
    obtain ⟨k, hk, rfl, hR⟩ := hrel
    by_cases hlt : k < n
    · obtain ⟨g, o, c2, he, hg, hx⟩ := (H.out.1.below hR.out.2).ri (by rw [← H.out.2.1]; omega)
      rw [← H.out.2.1] at he hx
      injection he with he1 he2 he3
      subst he1 he3
      have hxk := hx k hlt
      obtain ⟨X, hX⟩ : ∃ X, X = s.getD k 0 := ⟨_, rfl⟩
      rw [← hX] at hxk
      obtain ⟨r2, hr2⟩ : ∃ r, r = prtB X := ⟨_, rfl⟩
      have HI2 : Hid (∀ W, Calls Try.prog 55 #[.int .i64 X, .int .i64 (-1048576), .int .i64 1048576] W fun e w' => e = .returned (.bool r2) ∧ w' = W) := impl_insC X _ _ r2 hr2
      have HX : Hid (X = s.getD k 0 ∧ r2 = prtB X) := ⟨hX, hr2⟩
      have hltI : (k : Int) < (n : Int) := by omega
      clear hx hX hr2
      go_wp2_with (fail)
      refine (HI2.out _).mono ?_
      rintro e w3 ⟨rfl, hw3⟩
      subst w3
      cases r2 with
      | false =>
        have HE : Hid (R = 3) := by
          unfold Hid; rw [HF.out, all_hit (k := k) (by rw [← H.out.2.1]; omega) (by rw [← HX.out.1, ← HX.out.2])]; rfl
        go_wp2
        go_returns
        exact ⟨by rw [HE.out]; rfl, hR.out.2⟩
      | true =>
        go_wp2
        refine ⟨⟨k + 1, by omega, by simp, fun j hj => ?_, hR.out.2⟩, ?_⟩
        · rcases Nat.lt_or_ge j k with h' | h'
          · exact hR.out.1 j h'
          · have : j = k := by omega
            subst this
            rw [← HX.out.1, ← HX.out.2]
        · show n - ((k : Int) + 1).toNat < n - (k : Int).toNat; omega
    · have hltI : ¬ (k : Int) < (n : Int) := by omega
      have HE : Hid (R = 0) := by
        unfold Hid; rw [HF.out, all_all (fun j hj => hR.out.1 j (by have := H.out.2.1; omega))]; rfl
      go_wp2
      go_returns
      exact ⟨by rw [HE.out]; rfl, hR.out.2⟩

set_option maxHeartbeats 6400000 in
theorem spec_pu (C F : Int) {w : World} {v : Value} {s : List Int} (h : RdI w v s) :
    Calls Try.prog 51 #[.agg #[.int .i64 C, .int .i64 F, v]] w fun e w' => e = .returned (.int .i64 (puF C F s)) ∧ Below w.heap.size w w' := by
  obtain ⟨a, c, rfl⟩ := h.form
  obtain ⟨n, hnn⟩ : ∃ n, n = s.length := ⟨_, rfl⟩
  rw [← hnn] at h ⊢
  obtain ⟨R, hR⟩ : ∃ R, R = puF C F s := ⟨_, rfl⟩
  rw [← hR]
  obtain ⟨r1, hr1⟩ : ∃ r, r = prtB F := ⟨_, rfl⟩
  have H : Hid (RdI w (.slice a n c) s ∧ n = s.length ∧ R = if decide (0 ≤ C ∧ C ≤ 12) = true ∧ r1 = true then (if 13 < n then 2 else if s.all prtB = true then 0 else 3) else 3) := ⟨h, hnn, by rw [hR, puF, ← hr1, ← hnn]⟩
  have HI1 : Hid (∀ W, Calls Try.prog 80 #[.int .i64 F] W fun e w' => e = .returned (.bool (!r1)) ∧ w' = W) := fun W => by rw [hr1]; exact spec_parts F W
  clear h hnn hR hr1
  by_cases hC0 : C < 0
  · have HE : Hid (R = 3) := by unfold Hid; rw [H.out.2.2]; simp; omega
    go_enter Try.func51, Try.ntmps51
    go_wp2
    go_returns
    exact ⟨by rw [HE.out]; rfl, by (repeat' (first | (with_reducible exact Below.refl _ _) | (with_reducible assumption) | (with_reducible refine Below.setCell ?_ ?_ _) | (with_reducible refine Below.alloc ?_ ?_ _) | (with_reducible refine below_drewN ?_ _) | (with_reducible refine Below.drew ?_) | (with_reducible exact Nat.le_refl _) | omega | (simp; done) | (simp; omega)))⟩
  by_cases hC1 : 12 < C
  · have HE : Hid (R = 3) := by unfold Hid; rw [H.out.2.2]; simp; omega
    go_enter Try.func51, Try.ntmps51
    go_wp2
    go_returns
    exact ⟨by rw [HE.out]; rfl, by (repeat' (first | (with_reducible exact Below.refl _ _) | (with_reducible assumption) | (with_reducible refine Below.setCell ?_ ?_ _) | (with_reducible refine Below.alloc ?_ ?_ _) | (with_reducible refine below_drewN ?_ _) | (with_reducible refine Below.drew ?_) | (with_reducible exact Nat.le_refl _) | omega | (simp; done) | (simp; omega)))⟩
  have HC : Hid (decide (0 ≤ C ∧ C ≤ 12) = true) := decide_eq_true (by omega)
  go_enter Try.func51, Try.ntmps51
  go_wp2_with (fail)
  refine (HI1.out _).mono ?_
  rintro e w2 ⟨rfl, hw2⟩
  subst w2
  cases r1 with
  | false =>
    have HE : Hid (R = 3) := by unfold Hid; rw [H.out.2.2]; simp
    go_wp2
    go_returns
    exact ⟨by rw [HE.out]; rfl, by (repeat' (first | (with_reducible exact Below.refl _ _) | (with_reducible assumption) | (with_reducible refine Below.setCell ?_ ?_ _) | (with_reducible refine Below.alloc ?_ ?_ _) | (with_reducible refine below_drewN ?_ _) | (with_reducible refine Below.drew ?_) | (with_reducible exact Nat.le_refl _) | omega | (simp; done) | (simp; omega)))⟩
  | true =>
  by_cases hm : 13 < n
  · have hm' : (13 : Int) < (n : Int) := by omega
    have HE : Hid (R = 2) := by unfold Hid; rw [H.out.2.2, HC.out]; simp [hm]
    go_wp2
    go_returns
    exact ⟨by rw [HE.out]; rfl, by (repeat' (first | (with_reducible exact Below.refl _ _) | (with_reducible assumption) | (with_reducible refine Below.setCell ?_ ?_ _) | (with_reducible refine Below.alloc ?_ ?_ _) | (with_reducible refine below_drewN ?_ _) | (with_reducible refine Below.drew ?_) | (with_reducible exact Nat.le_refl _) | omega | (simp; done) | (simp; omega)))⟩
  have hm' : ¬ (13 : Int) < (n : Int) := by omega
  have HF : Hid (R = if s.all prtB = true then 0 else 3) := by unfold Hid; rw [H.out.2.2, HC.out]; simp [hm]
  clear HI1 hC0 hC1
  go_wp2
  go_loopw [3] (fun i wr => ∃ k : Nat, k ≤ n ∧ i = .int .i64 k ∧ Hid ((∀ j, j < k → prtB (s.getD j 0) = true) ∧ Below w.heap.size w wr ∧ wr.heap[w.heap.size]? = some (.cells #[.int .i64 C, .int .i64 F, .slice a n c] 45))) (fun i _ => n - (intOf i).toNat)
  case atStart => exact ⟨0, Nat.zero_le _, rfl, fun j h => by omega, by (repeat' (first | (with_reducible exact Below.refl _ _) | (with_reducible assumption) | (with_reducible refine Below.setCell ?_ ?_ _) | (with_reducible refine Below.alloc ?_ ?_ _) | (with_reducible refine below_drewN ?_ _) | (with_reducible refine Below.drew ?_) | (with_reducible exact Nat.le_refl _) | omega | (simp; done) | (simp; omega))), heap_alloc_new w _⟩
  case round =>
    obtain ⟨k, hk, rfl, hR⟩ := hrel
    obtain ⟨b0, b1, b2, bf, bl⟩ := three_at hR.out.2.2
    by_cases hlt : k < n
    · obtain ⟨g, o, c2, he, hg, hx⟩ := (H.out.1.below hR.out.2.1).ri (by rw [← H.out.2.1]; omega)
      rw [← H.out.2.1] at he hx
      injection he with he1 he2 he3
      subst he1 he3
      have hxk := hx k hlt
      obtain ⟨X, hX⟩ : ∃ X, X = s.getD k 0 := ⟨_, rfl⟩
      rw [← hX] at hxk
      obtain ⟨r2, hr2⟩ : ∃ r, r = prtB X := ⟨_, rfl⟩
      have HI2 : Hid (∀ W, Calls Try.prog 80 #[.int .i64 X] W fun e w' => e = .returned (.bool (!r2)) ∧ w' = W) := fun W => by rw [hr2]; exact spec_parts X W
      have HX : Hid (X = s.getD k 0 ∧ r2 = prtB X) := ⟨hX, hr2⟩
      have hltI : (k : Int) < (n : Int) := by omega
      clear hx hX hr2
      go_wp2_with (fail)
      refine (HI2.out _).mono ?_
      rintro e w3 ⟨rfl, hw3⟩
      subst w3
      cases r2 with
      | false =>
        have HE : Hid (R = 3) := by
          unfold Hid; rw [HF.out, all_hit (k := k) (by rw [← H.out.2.1]; omega) (by rw [← HX.out.1, ← HX.out.2])]; rfl
        go_wp2
        go_returns
        exact ⟨by rw [HE.out]; rfl, hR.out.2.1⟩
      | true =>
        go_wp2
        refine ⟨⟨k + 1, by omega, by simp, fun j hj => ?_, hR.out.2⟩, ?_⟩
        · rcases Nat.lt_or_ge j k with h' | h'
          · exact hR.out.1 j h'
          · have : j = k := by omega
            subst this
            rw [← HX.out.1, ← HX.out.2]
        · show n - ((k : Int) + 1).toNat < n - (k : Int).toNat; omega
    · have hltI : ¬ (k : Int) < (n : Int) := by omega
      have HE : Hid (R = 0) := by
        unfold Hid; rw [HF.out, all_all (fun j hj => hR.out.1 j (by have := H.out.2.1; omega))]; rfl
      go_wp2
      go_returns
      exact ⟨by rw [HE.out]; rfl, hR.out.2.1⟩

end Go.Proofs.Ytgaabcgdfbgchaa
