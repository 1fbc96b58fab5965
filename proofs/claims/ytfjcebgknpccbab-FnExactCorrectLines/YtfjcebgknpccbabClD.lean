/- Proved here: what a correction answers. -/
import Derived.Test.YtfjcebgknpccbabClM
namespace Go.Proofs.Ytfjcebgknpccbab
set_option linter.unusedVariables false

def clC (t : List Ln) (len : Int) (ws : List Int) (K R : Int) : Int := if peC t t len ws K = 0 then (if 0 ≤ R ∧ R ≤ 30 then 0 else 3) else peC t t len ws K
def clS (t : List Ln) (len : Int) (ws : List Int) (K R : Int) : ClS := if peC t t len ws K = 0 ∧ (0 ≤ R ∧ R ≤ 30) then runS t len ws K (2 * t.length) R.toNat (t, [peV t t len ws K]) else ([], [])
theorem clC_no {t : List Ln} {len : Int} {ws : List Int} {K R : Int} (h : ¬ peC t t len ws K = 0) : clC t len ws K R = peC t t len ws K ∧ clS t len ws K R = ([], []) :=
  ⟨if_neg h, if_neg (fun h' => h h'.1)⟩
theorem clC_range {t : List Ln} {len : Int} {ws : List Int} {K R : Int} (h : peC t t len ws K = 0) (hR : ¬ (0 ≤ R ∧ R ≤ 30)) : clC t len ws K R = 3 ∧ clS t len ws K R = ([], []) :=
  ⟨by rw [clC, if_pos h, if_neg hR], if_neg (fun h' => hR h'.2)⟩
theorem clC_run {t : List Ln} {len : Int} {ws : List Int} {K R : Int} (h : peC t t len ws K = 0) (hR : 0 ≤ R ∧ R ≤ 30) : clC t len ws K R = 0 ∧ clS t len ws K R = runS t len ws K (2 * t.length) R.toNat (t, [peV t t len ws K]) :=
  ⟨by rw [clC, if_pos h, if_pos hR], if_pos ⟨h, hR⟩⟩
theorem cl_good {t : List Ln} {len : Int} {ws : List Int} {K : Int} (h : peC t t len ws K = 0) : lnF t len = 0 ∧ knF ws K = 0 := by
  unfold peC at h
  split at h
  · rename_i h1
    refine ⟨h1, ?_⟩
    rw [lpF, if_pos h1] at h
    exact h
  · rename_i h1; exact absurd h h1
theorem start_ok {t : List Ln} {len E : Int} (h : lnF t len = 0) : OkS len (2 * t.length) 1 (t, [E]) := ⟨rfl, h, by simp, by simp⟩
theorem runS_len {t : List Ln} {len : Int} {ws : List Int} {K R : Int} : (clS t len ws K R).1.length ≤ 12 ∧ (clS t len ws K R).2.length ≤ 721 := by
  unfold clS
  split
  · rename_i h
    have hg := (cl_good h.1).1
    have h1 := runS_ok (t := t) (ws := ws) (K := K) R.toNat (start_ok (E := peV t t len ws K) hg)
    have h2 := (lnF_good hg).2.2.1
    have h3 := (lnF_good h1.lf).2.2.1
    have h4 := h1.em
    refine ⟨h3, ?_⟩
    have h5 : 2 * t.length * R.toNat ≤ 24 * 30 := Nat.mul_le_mul (by omega) (by omega)
    omega
  · simp

end Go.Proofs.Ytfjcebgknpccbab
