/- How many flat boxes a cell has, capped: as one sum and step by step. Arithmetic alone. -/
import Derived.Test.YtfnfedpgemnneaaVMap
namespace Go.Proofs.Ytfnfedpgemnneaa
open Go.RowKit
set_option linter.unusedVariables false

def cfF (v : ByteArray → Int) (ps : List Pl) (a : Int) : Int := ps.foldl (fun m p => m + p.nx * p.ny * v p.c) a
def cap4 (x : Int) : Int := if x < 401 then x else 401
def cfG (v : ByteArray → Int) (c : Cl) : Int := cap4 (cfF v c.ps c.bs.length)
theorem cfF_step {v : ByteArray → Int} {ps : List Pl} {k : Nat} {a : Int} (h : k < ps.length) : cfF v (ps.take (k + 1)) a = cfF v (ps.take k) a + (ps[k]).nx * (ps[k]).ny * v (ps[k]).c := by
  unfold cfF
  rw [← List.take_append_getElem h, List.foldl_append]
  rfl
theorem cap4_step (x b : Int) (hb : 0 ≤ b) : cap4 (cap4 x + b) = cap4 (x + b) := by
  unfold cap4
  split <;> split <;> omega
/-- What a place adds. -/
theorem cf_add {nx ny v : Int} (h1 : 1 ≤ nx) (h2 : nx ≤ 20) (h3 : 1 ≤ ny) (h4 : ny ≤ 20) (h5 : 0 ≤ v) (h6 : v ≤ 401) : 0 ≤ nx * ny ∧ nx * ny ≤ 400 ∧ 0 ≤ nx * ny * v ∧ nx * ny * v ≤ 160400 := by
  have a1 : 0 ≤ nx * ny := Int.mul_nonneg (by omega) (by omega)
  have a2 : nx * ny ≤ 20 * 20 := Int.mul_le_mul h2 h4 (by omega) (by omega)
  have a3 : 0 ≤ nx * ny * v := Int.mul_nonneg a1 h5
  have a4 : nx * ny * v ≤ 400 * 401 := Int.mul_le_mul (by omega) h6 h5 (by omega)
  exact ⟨a1, by omega, a3, by omega⟩
theorem cfF_bound {v : ByteArray → Int} (hv : ∀ q, 0 ≤ v q ∧ v q ≤ 401) (ps : List Pl) (hp : ∀ i (h : i < ps.length), 1 ≤ (ps[i]).nx ∧ (ps[i]).nx ≤ 20 ∧ 1 ≤ (ps[i]).ny ∧ (ps[i]).ny ≤ 20) (a : Int) (ha : 0 ≤ a) : ∀ k, k ≤ ps.length → 0 ≤ cfF v (ps.take k) a ∧ cfF v (ps.take k) a ≤ a + k * 160400 := by
  intro k
  induction k with
  | zero => intro _; unfold cfF; simp; exact ha
  | succ k ih =>
    intro hk
    rw [cfF_step (by omega)]
    have h0 := ih (by omega)
    obtain ⟨h1, h2, h3, h4⟩ := hp k (by omega)
    obtain ⟨h5, h6⟩ := hv (ps[k]).c
    obtain ⟨_, _, h7, h8⟩ := cf_add h1 h2 h3 h4 h5 h6
    omega
theorem cf_bound {s : List Cl} (ho : OkL s) : ∀ k q, 0 ≤ vmap cfG s k q ∧ vmap cfG s k q ≤ 401 := by
  intro k
  induction k with
  | zero => intro q; exact ⟨by simp [vmap], by simp [vmap]⟩
  | succ k ih =>
    intro q
    rw [vmap]
    have h1 := ih q
    split
    · rename_i hk
      split
      · have h2 := (cfF_bound ih s[k].ps (fun i hi => (ho.pl k hk i hi).2) s[k].bs.length (by omega) s[k].ps.length (Nat.le_refl _)).1
        rw [List.take_length] at h2
        have e : cfG (vmap cfG s k) s[k] = cap4 (cfF (vmap cfG s k) s[k].ps s[k].bs.length) := rfl
        rw [e]
        generalize cfF (vmap cfG s k) s[k].ps s[k].bs.length = x at h2 ⊢
        unfold cap4
        split <;> omega
      · exact h1
    · exact h1

/-- Code and value of CountFlat. -/
def cfC (s : List Cl) (q : ByteArray) : Int := if libK s = 0 then (if ahB s s.length q = true then (if 400 < vmap cfG s s.length q then 2 else 0) else 4) else libK s
def cfV (s : List Cl) (q : ByteArray) : Int := if libK s = 0 ∧ ahB s s.length q = true ∧ ¬ 400 < vmap cfG s s.length q then vmap cfG s s.length q else 0

end Go.Proofs.Ytfnfedpgemnneaa
