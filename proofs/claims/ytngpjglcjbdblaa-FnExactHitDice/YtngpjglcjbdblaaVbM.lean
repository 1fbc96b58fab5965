/- Proved here: defects by the die that they lie in. -/
import Derived.Test.YtngpjglcjbdblaaVdM
import Derived.Test.YtngpjglcjbdblaaVpK
namespace Go.Proofs.Ytngpjglcjbdblaa
open Go.RowKit
set_option linter.unusedVariables false
set_option linter.unusedSimpArgs false

def vX (p : Int) (d : Dft) : Int := d.x.tdiv p
def vY (p : Int) (d : Dft) : Int := d.y.tdiv p
def vpk (p : Int) (d : Dft) : Lit := pk (vX p d) (vY p d)
/-- The defects in the die of a key. -/
def vbL (s : List Dft) (p : Int) (kl : Lit) : List Dft := s.filter (fun d => (vpk p d).sameKey kl)
theorem vbL_len (s : List Dft) (p : Int) (kl : Lit) : (vbL s p kl).length ≤ s.length := List.length_filter_le _ _
theorem vbL_succ {s : List Dft} {j : Nat} (hj : j < s.length) (p : Int) (q : Lit) : (if q.sameKey (vpk p s[j]) then vbL (s.take j) p (vpk p s[j]) ++ [s[j]] else vbL (s.take j) p q) = vbL (s.take (j + 1)) p q := by
  have hs : (vpk p s[j]).sameKey (vpk p s[j]) = true := pk_same _ _
  unfold vbL
  rw [List.take_succ_eq_append_getElem hj, List.filter_append]
  by_cases h : q = vpk p s[j]
  · subst h
    rw [if_pos hs]
    simp [hs]
  · rw [if_neg (by rw [Maps.sameKey_ne h]; exact Bool.false_ne_true)]
    have h2 : (vpk p s[j]).sameKey q = false := Maps.sameKey_ne (fun e => h e.symm)
    simp [h2]
theorem tdiv_bd15 {x p : Int} (h0 : 0 ≤ x) (h1 : x ≤ 10000) (hp : 1 ≤ p) : 0 ≤ x.tdiv p ∧ x.tdiv p ≤ 10000 := by
  have h2 : x.tdiv p = x / p := Int.tdiv_eq_ediv_of_nonneg h0
  rw [h2]
  refine ⟨Int.ediv_nonneg h0 (by omega), ?_⟩
  have := Int.ediv_le_self (b := p) h0 
  omega
theorem vX_bd {p : Int} {d : Dft} (hp : 1 ≤ p) (h : Vok d) : 0 ≤ vX p d ∧ vX p d ≤ 10000 := tdiv_bd15 h.1 h.2.1 hp
theorem vY_bd {p : Int} {d : Dft} (hp : 1 ≤ p) (h : Vok d) : 0 ≤ vY p d ∧ vY p d ≤ 10000 := tdiv_bd15 h.2.2.1 h.2.2.2.1 hp

end Go.Proofs.Ytngpjglcjbdblaa
