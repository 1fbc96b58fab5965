/- Proved here: the quotient in lowest terms, of the program and of the document's model, for every two numbers of at most 4 times 10 to the 18 in size, the second not 0: both answer the same. -/
import Derived.Test.YtcojhkpdlmldcaaSFault
namespace Go.Proofs.Ytcojhkpdlmldcaa
open Go.ChangeShapes Go.WideShapes Go.ChangeAt Go.RowKit
set_option linter.unusedVariables false

def rqC (n d : Int) : Int := if inB (lowN n d) (lowD n d) then 0 else 3
def rqN (n d : Int) : Int := if inB (lowN n d) (lowD n d) then lowN n d else 0
def rqD (n d : Int) : Int := if inB (lowN n d) (lowD n d) then lowD n d else 0

theorem codeF_low (n d : Int) (h : 1 ≤ d) : codeF (lowN n d) (lowD n d) = if inB (lowN n d) (lowD n d) then 0 else 1 := by
  have := FracMath.low_coprime n d h
  unfold codeF okF
  have e : decide (Int.gcd (lowN n d) (lowD n d) = 1) = true := by unfold lowN lowD gz; simpa using this
  rw [e]; simp

set_option maxHeartbeats 400000 in
theorem impl_rq_pos (n d : Int) (w : World) (hd : 1 ≤ d) (hd' : d ≤ 4000000000000000000) (h1 : -4000000000000000000 ≤ n) (h2 : n ≤ 4000000000000000000) :
    Calls Try.prog 12 #[.int .i64 n, .int .i64 d] w fun e w' => e = .returned (.agg #[.int .i64 (rqC n d), .int .i64 (rqN n d), .int .i64 (rqD n d)]) ∧ Below w.heap.size w w' := by
  cases h : inB (lowN n d) (lowD n d)
  all_goals
    have e1 : rqC n d = if inB (lowN n d) (lowD n d) then 0 else 3 := rfl
    have e2 : rqN n d = if inB (lowN n d) (lowD n d) then lowN n d else 0 := rfl
    have e3 : rqD n d = if inB (lowN n d) (lowD n d) then lowD n d else 0 := rfl
    rw [h] at e1 e2 e3
    rw [e1, e2, e3]
    clear e1 e2 e3
    go_enter Try.func12, Try.ntmps12
    go_wp2_with (fail)
    refine (impl_low_pos n d _ hd hd' h1 h2).mono ?_
    rintro e w1 ⟨rfl, hb1⟩
    obtain ⟨hc1, hf1⟩ := bcell hb1
    have hz1 : w.heap.size < w1.heap.size := by have := hb1.size; simp at this; omega
    go_wp2_with (fail)
    refine (impl_inB _ _ _).mono ?_
    rintro e w2 ⟨rfl, hb2⟩
    rw [h]
    obtain ⟨hc2, hf2⟩ := bcell hb2
    go_wp2
    have hz2 : w.heap.size < w1.heap.size + 1 := by omega
    refine bodyPost_ret (by simp [results, Try.results12, go_sem, hc2, hc1, hz1, hz2]) rfl ⟨rfl, ?_⟩
    have hB : Below w.heap.size w w2 := ((Below.refl _ _).alloc (Nat.le_refl _) _).trans ((hb1.mono (by simp)).trans (((Below.refl _ _).alloc (by omega) _).trans (hb2.mono (by simp; omega))))
    clear hc1 hf1 hc2 hf2 hb1 hb2
    (repeat' (first | (with_reducible exact Below.refl _ _) | (with_reducible assumption) | (with_reducible refine Below.setCell ?_ ?_ _) | (with_reducible refine Below.alloc ?_ ?_ _) | (with_reducible refine below_drewN ?_ _) | (with_reducible refine Below.drew ?_) | (with_reducible exact Nat.le_refl _) | omega | (simp; done) | (simp; omega)))

set_option maxHeartbeats 400000 in
theorem impl_rq_neg (n d : Int) (w : World) (hd : d ≤ -1) (hd' : -4000000000000000000 ≤ d) (h1 : -4000000000000000000 ≤ n) (h2 : n ≤ 4000000000000000000) :
    Calls Try.prog 12 #[.int .i64 n, .int .i64 d] w fun e w' => e = .returned (.agg #[.int .i64 (rqC (-n) (-d)), .int .i64 (rqN (-n) (-d)), .int .i64 (rqD (-n) (-d))]) ∧ Below w.heap.size w w' := by
  cases h : inB (lowN (-n) (-d)) (lowD (-n) (-d))
  all_goals
    have e1 : rqC (-n) (-d) = if inB (lowN (-n) (-d)) (lowD (-n) (-d)) then 0 else 3 := rfl
    have e2 : rqN (-n) (-d) = if inB (lowN (-n) (-d)) (lowD (-n) (-d)) then lowN (-n) (-d) else 0 := rfl
    have e3 : rqD (-n) (-d) = if inB (lowN (-n) (-d)) (lowD (-n) (-d)) then lowD (-n) (-d) else 0 := rfl
    rw [h] at e1 e2 e3
    rw [e1, e2, e3]
    clear e1 e2 e3
    go_enter Try.func12, Try.ntmps12
    go_wp2_with (fail)
    refine (impl_low_neg n d _ hd hd' h1 h2).mono ?_
    rintro e w1 ⟨rfl, hb1⟩
    obtain ⟨hc1, hf1⟩ := bcell hb1
    have hz1 : w.heap.size < w1.heap.size := by have := hb1.size; simp at this; omega
    go_wp2_with (fail)
    refine (impl_inB _ _ _).mono ?_
    rintro e w2 ⟨rfl, hb2⟩
    rw [h]
    obtain ⟨hc2, hf2⟩ := bcell hb2
    go_wp2
    have hz2 : w.heap.size < w1.heap.size + 1 := by omega
    refine bodyPost_ret (by simp [results, Try.results12, go_sem, hc2, hc1, hz1, hz2]) rfl ⟨rfl, ?_⟩
    have hB : Below w.heap.size w w2 := ((Below.refl _ _).alloc (Nat.le_refl _) _).trans ((hb1.mono (by simp)).trans (((Below.refl _ _).alloc (by omega) _).trans (hb2.mono (by simp; omega))))
    clear hc1 hf1 hc2 hf2 hb1 hb2
    (repeat' (first | (with_reducible exact Below.refl _ _) | (with_reducible assumption) | (with_reducible refine Below.setCell ?_ ?_ _) | (with_reducible refine Below.alloc ?_ ?_ _) | (with_reducible refine below_drewN ?_ _) | (with_reducible refine Below.drew ?_) | (with_reducible exact Nat.le_refl _) | omega | (simp; done) | (simp; omega)))

theorem spec_fault_low (n d : Int) (hd : 1 ≤ d) (w : World) :
    Calls Try.prog 24 #[.agg #[.int .i64 (lowN n d), .int .i64 (lowD n d)]] w fun e w' => e = .returned (.int .i64 (if inB (lowN n d) (lowD n d) then 0 else 1)) ∧ Below w.heap.size w w' := by
  rw [← codeF_low n d hd]; exact spec_fault _ _ _

set_option maxHeartbeats 800000 in
theorem spec_low_pos (n d : Int) (w : World) (hd : 1 ≤ d) (hd' : d ≤ 4000000000000000000) (h1 : -4000000000000000000 ≤ n) (h2 : n ≤ 4000000000000000000) :
    Calls Try.prog 17 #[.int .i64 n, .int .i64 d] w fun e w' => e = .returned (.agg #[.int .i64 (rqC n d), .int .i64 (rqN n d), .int .i64 (rqD n d)]) ∧ Below w.heap.size w w' := by
  have hp := gz_pos n d (by omega)
  have hl := gz_le n d (by omega)
  have ha := absz_bd n
  have hq : (gz n d == 0) = false := by simp; omega
  cases h : inB (lowN n d) (lowD n d)
  all_goals
    have e1 : rqC n d = if inB (lowN n d) (lowD n d) then 0 else 3 := rfl
    have e2 : rqN n d = if inB (lowN n d) (lowD n d) then lowN n d else 0 := rfl
    have e3 : rqD n d = if inB (lowN n d) (lowD n d) then lowD n d else 0 := rfl
    rw [h] at e1 e2 e3
    rw [e1, e2, e3]
    clear e1 e2 e3
    go_enter Try.func17, Try.ntmps17
    go_wp2_with (first | (go_at_call 23; refine (spec_abs _ _ ?_ ?_).mono ?_; omega; omega; rintro e w' ⟨rfl, rfl⟩) | (go_at_call 22; refine (spec_gcd_abs n d _ ?_ ?_ ?_ ?_).mono ?_; omega; omega; omega; omega; rintro e w' ⟨rfl, rfl⟩))
    go_region
    go_wp2_with (fail)
    rw [show n.tdiv (gz n d) = lowN n d from rfl, show d / gz n d = lowD n d from rfl]
    refine (spec_fault_low n d (by omega) _).mono ?_
    rintro e w2 ⟨rfl, hb2⟩
    rw [h]
    obtain ⟨hc2, hf2⟩ := bcell hb2
    go_wp2
    have hz2 : w.heap.size < w.heap.size + 1 + 1 := by omega
    refine bodyPost_ret (by simp [results, Try.results17, go_sem, hc2, hz2]) rfl ⟨rfl, ?_⟩
    have hB : Below w.heap.size w w2 := Below.trans (by (repeat' (first | (with_reducible exact Below.refl _ _) | (with_reducible assumption) | (with_reducible refine Below.setCell ?_ ?_ _) | (with_reducible refine Below.alloc ?_ ?_ _) | (with_reducible refine below_drewN ?_ _) | (with_reducible refine Below.drew ?_) | (with_reducible exact Nat.le_refl _) | omega | (simp; done) | (simp; omega)))) (hb2.mono (by simp; omega))
    clear hc2 hf2 hb2
    (repeat' (first | (with_reducible exact Below.refl _ _) | (with_reducible assumption) | (with_reducible refine Below.setCell ?_ ?_ _) | (with_reducible refine Below.alloc ?_ ?_ _) | (with_reducible refine below_drewN ?_ _) | (with_reducible refine Below.drew ?_) | (with_reducible exact Nat.le_refl _) | omega | (simp; done) | (simp; omega)))

set_option maxHeartbeats 800000 in
theorem spec_low_neg (n d : Int) (w : World) (hd : d ≤ -1) (hd' : -4000000000000000000 ≤ d) (h1 : -4000000000000000000 ≤ n) (h2 : n ≤ 4000000000000000000) :
    Calls Try.prog 17 #[.int .i64 n, .int .i64 d] w fun e w' => e = .returned (.agg #[.int .i64 (rqC (-n) (-d)), .int .i64 (rqN (-n) (-d)), .int .i64 (rqD (-n) (-d))]) ∧ Below w.heap.size w w' := by
  have hp := gz_pos (-n) (-d) (by omega)
  have hl := gz_le (-n) (-d) (by omega)
  have ha := absz_bd (-n)
  have hq : (gz (-n) (-d) == 0) = false := by simp; omega
  cases h : inB (lowN (-n) (-d)) (lowD (-n) (-d))
  all_goals
    have e1 : rqC (-n) (-d) = if inB (lowN (-n) (-d)) (lowD (-n) (-d)) then 0 else 3 := rfl
    have e2 : rqN (-n) (-d) = if inB (lowN (-n) (-d)) (lowD (-n) (-d)) then lowN (-n) (-d) else 0 := rfl
    have e3 : rqD (-n) (-d) = if inB (lowN (-n) (-d)) (lowD (-n) (-d)) then lowD (-n) (-d) else 0 := rfl
    rw [h] at e1 e2 e3
    rw [e1, e2, e3]
    clear e1 e2 e3
    go_enter Try.func17, Try.ntmps17
    go_wp2_with (first | (go_at_call 23; refine (spec_abs _ _ ?_ ?_).mono ?_; omega; omega; rintro e w' ⟨rfl, rfl⟩) | (go_at_call 22; refine (spec_gcd_abs (-n) (-d) _ ?_ ?_ ?_ ?_).mono ?_; omega; omega; omega; omega; rintro e w' ⟨rfl, rfl⟩))
    go_region
    go_wp2_with (fail)
    rw [lowN_neg n d hp h1 h2, lowD_neg n d hd hp hd']
    refine (spec_fault_low (-n) (-d) (by omega) _).mono ?_
    rintro e w2 ⟨rfl, hb2⟩
    rw [h]
    obtain ⟨hc2, hf2⟩ := bcell hb2
    go_wp2
    have hz2 : w.heap.size < w.heap.size + 1 + 1 := by omega
    refine bodyPost_ret (by simp [results, Try.results17, go_sem, hc2, hz2]) rfl ⟨rfl, ?_⟩
    have hB : Below w.heap.size w w2 := Below.trans (by (repeat' (first | (with_reducible exact Below.refl _ _) | (with_reducible assumption) | (with_reducible refine Below.setCell ?_ ?_ _) | (with_reducible refine Below.alloc ?_ ?_ _) | (with_reducible refine below_drewN ?_ _) | (with_reducible refine Below.drew ?_) | (with_reducible exact Nat.le_refl _) | omega | (simp; done) | (simp; omega)))) (hb2.mono (by simp; omega))
    clear hc2 hf2 hb2
    (repeat' (first | (with_reducible exact Below.refl _ _) | (with_reducible assumption) | (with_reducible refine Below.setCell ?_ ?_ _) | (with_reducible refine Below.alloc ?_ ?_ _) | (with_reducible refine below_drewN ?_ _) | (with_reducible refine Below.drew ?_) | (with_reducible exact Nat.le_refl _) | omega | (simp; done) | (simp; omega)))

end Go.Proofs.Ytcojhkpdlmldcaa
