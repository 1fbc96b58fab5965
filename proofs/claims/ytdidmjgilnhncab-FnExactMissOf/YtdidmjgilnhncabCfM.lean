/- Proved here: the check of a fit, as numbers: four sums. No condition on the program. -/
import Derived.Test.YtdidmjgilnhncabOrC
namespace Go.Proofs.Ytdidmjgilnhncab
open Go.RowKit
set_option linter.unusedVariables false
set_option linter.unusedSimpArgs false

def mk0 : Mrk := ⟨0, 0, 0, 0⟩
/-- A fraction that is taken so many times. -/
def tmQ (a : Fr) (t : Int) : QR := muQ a (whole t)
def ckA (L : List Fr) (k : Nat) : List QR := (List.range k).map fun i => tmQ (L.getD (2 * i) fr0) 1
def ckU (L : List Fr) (k : Nat) : List QR := (List.range k).map fun i => tmQ (L.getD (2 * i + 1) fr0) 1
def ckS (s : List Mrk) (L : List Fr) (k : Nat) : List QR := (List.range k).flatMap fun i => [tmQ (L.getD (2 * i) fr0) (s.getD i mk0).x, tmQ (L.getD (2 * i + 1) fr0) (s.getD i mk0).y]
def ckT (s : List Mrk) (L : List Fr) (k : Nat) : List QR := (List.range k).flatMap fun i => [tmQ (L.getD (2 * i + 1) fr0) (s.getD i mk0).x, tmQ (L.getD (2 * i) fr0) (-(s.getD i mk0).y)]
def s0 (l : List QR) : QR := sumA (whole 0) l
def isN (q : QR) : Bool := decide (q.c = 0 ∧ q.n = 0 ∧ q.d = 1)
def cfB (s : List Mrk) (m : Mdl) : Bool := if rdC s m ≠ 0 then false else isN (s0 (ckA (rdL s m) s.length)) && isN (s0 (ckU (rdL s m) s.length)) && isN (s0 (ckS s (rdL s m) s.length)) && isN (s0 (ckT s (rdL s m) s.length))
theorem ckA_succ (L : List Fr) (k : Nat) : ckA L (k + 1) = ckA L k ++ [tmQ (L.getD (2 * k) fr0) 1] := by unfold ckA; rw [List.range_succ, List.map_append]; rfl
theorem ckU_succ (L : List Fr) (k : Nat) : ckU L (k + 1) = ckU L k ++ [tmQ (L.getD (2 * k + 1) fr0) 1] := by unfold ckU; rw [List.range_succ, List.map_append]; rfl
theorem ckS_succ (s : List Mrk) (L : List Fr) (k : Nat) : ckS s L (k + 1) = ckS s L k ++ [tmQ (L.getD (2 * k) fr0) (s.getD k mk0).x, tmQ (L.getD (2 * k + 1) fr0) (s.getD k mk0).y] := by unfold ckS; rw [List.range_succ, List.flatMap_append]; simp
theorem ckT_succ (s : List Mrk) (L : List Fr) (k : Nat) : ckT s L (k + 1) = ckT s L k ++ [tmQ (L.getD (2 * k + 1) fr0) (s.getD k mk0).x, tmQ (L.getD (2 * k) fr0) (-(s.getD k mk0).y)] := by unfold ckT; rw [List.range_succ, List.flatMap_append]; simp
theorem s0_one (l : List QR) (a : QR) : s0 (l ++ [a]) = adA (s0 l) a := by unfold s0 sumA; rw [List.foldl_append]; rfl
theorem s0_two (l : List QR) (a b : QR) : s0 (l ++ [a, b]) = adA (adA (s0 l) a) b := by unfold s0 sumA; rw [List.foldl_append]; rfl
theorem isN_zq (q : QR) : isN (zq q) = isN q := by
  by_cases h : q.c = 0
  · rw [zq_ok h]
  · rw [zq_not h]; unfold isN
    rw [decide_eq_false (fun e => h e.1), decide_eq_false (fun e => h e.1)]
theorem cfB_bad {s : List Mrk} {m : Mdl} (h : rdC s m ≠ 0) : cfB s m = false := by unfold cfB; rw [if_pos h]
theorem cfB_ok {s : List Mrk} {m : Mdl} (h : rdC s m = 0) : cfB s m = (isN (s0 (ckA (rdL s m) s.length)) && isN (s0 (ckU (rdL s m) s.length)) && isN (s0 (ckS s (rdL s m) s.length)) && isN (s0 (ckT s (rdL s m) s.length))) := by unfold cfB; rw [if_neg (by simpa using h)]
/-- Residuals without a code are right, and as many as marks, twice. -/
theorem rsC_all {m : Mdl} {s : List Mrk} (h : rsC m s = 0) : ∀ k ∈ s, rsc m k = 0 := by
  induction s with
  | nil => intro k hk; cases hk
  | cons a t ih =>
    rw [rsC] at h
    by_cases h0 : rsc m a = 0
    · rw [if_neg (by simpa using h0)] at h
      intro k hk
      rcases List.mem_cons.1 hk with rfl | hk
      · exact h0
      · exact ih h k hk
    · rw [if_pos h0] at h; exact absurd h h0
theorem rdL_ok {s : List Mrk} {m : Mdl} (h : rdC s m = 0) : (rdL s m).length = 2 * s.length ∧ msF s = 0 ∧ ∀ f ∈ rdL s m, okR f = true := by
  have hm : msF s = 0 := Classical.byContradiction fun e => e (by rw [rdC_ms e] at h; exact h)
  have hr : rsC m s = 0 := by rw [← rdC_rs hm]; exact h
  have e : rdL s m = rsL m s := by unfold rdL; rw [if_pos h]
  rw [e]
  refine ⟨rsL_len _ _, hm, fun f hf => ?_⟩
  unfold rsL at hf
  obtain ⟨k, hk, hf2⟩ := List.mem_flatMap.1 hf
  have h0 := rsC_all hr k hk
  have hbd := (msF_ok hm).2.2 k hk
  unfold rsc at h0
  by_cases hp : (prV m k.x k.y).c = 0
  case neg => rw [if_pos hp] at h0; exact absurd h0 hp
  rw [if_neg (by simpa using hp)] at h0
  by_cases hx : (rsX m k).c = 0
  case neg => rw [if_pos hx] at h0; exact absurd h0 hx
  rw [if_neg (by simpa using hx)] at h0
  have hg := rs_three (m := m) (k := k) (by omega) hp
  simp only [List.mem_cons, List.not_mem_nil, or_false] at hf2
  rcases hf2 with rfl | rfl
  · exact hg.1.2.1 hx
  · exact hg.2.2.1 h0
theorem rdL_at {s : List Mrk} {m : Mdl} (h : rdC s m = 0) {j : Nat} (hj : j < 2 * s.length) : okR ((rdL s m).getD j fr0) = true := by
  have h1 := rdL_ok h
  have hl : j < (rdL s m).length := by rw [h1.1]; exact hj
  rw [List.getD_eq_getElem?_getD, List.getElem?_eq_getElem hl]
  exact h1.2.2 _ (List.getElem_mem hl)

end Go.Proofs.Ytdidmjgilnhncab
