/- Proved here: a grid told by its world; times straight down. -/
import Derived.Test.YtpbkoigdfjajkaaDtM
namespace Go.Proofs.Ytpbkoigdfjajkaa
open Go.RowKit
set_option linter.unusedVariables false
set_option linter.unusedSimpArgs false

/-- The grid that lies there. -/
noncomputable def gvS (w : World) (B g n c W : Nat) (vs : List Value) : List (List Int) := by
  classical
  exact if h : ∃ S, GV w B g n c W S vs then Classical.choose h else []
theorem GV.uniq {w : World} {B g n c W : Nat} {S T : List (List Int)} {vs : List Value} (h : GV w B g n c W S vs) (h' : GV w B g n c W T vs) : S = T := by
  refine grid_ext h.sh h'.sh fun j m hj hm => ?_
  obtain ⟨gj, cj, hr, _, _, _, _, _, _, hc⟩ := h.at hj
  obtain ⟨gj', cj', hr', _, _, _, _, _, _, hc'⟩ := h'.at hj
  rw [hr] at hr'
  injection hr' with e1
  injection e1 with e2
  injection e2 with e3
  subst e3
  have h1 := (hc m hm).1
  rw [(hc' m hm).1] at h1
  injection h1 with h1
  injection h1 with _ h1
  exact h1.symm
theorem GV.is {w : World} {B g n c W : Nat} {S : List (List Int)} {vs : List Value} (h : GV w B g n c W S vs) : gvS w B g n c W vs = S := by
  have hx : ∃ S, GV w B g n c W S vs := ⟨S, h⟩
  unfold gvS
  rw [dif_pos hx]
  exact (Classical.choose_spec hx).uniq h
def flagOf : Value → Nat
  | .bool true => 1
  | _ => 0
/-- The sum of a column's numbers down to a row. -/
def dn (R : List (List Int)) (k : Nat) : Nat → Int
  | 0 => at2 R 0 k
  | i + 1 => dn R k i + at2 R (i + 1) k
theorem dn_bd {R : List (List Int)} (h : GG 1000000 R) {i k : Nat} (hi : i < R.length) : 0 ≤ dn R k i ∧ dn R k i ≤ ((i : Int) + 1) * 1000000 := by
  have hx : ∀ i, 0 ≤ at2 R i k ∧ at2 R i k ≤ 1000000 := fun i => by
    have := h.at i k
    unfold at2; omega
  induction i with
  | zero => have := hx 0; simp only [dn]; omega
  | succ i ih => have := hx (i + 1); have := ih (by omega); rw [dn]; omega
theorem down_st {R L : List (List Int)} (h : GG 1000000 R) (hL : ∀ i k, i < R.length → k < (R.getD 0 []).length → at2 L i k = dn R k i) : ST R.length (R.getD 0 []).length R L := by
  have h16 := h.h1
  refine ⟨fun i k hi hk => ?_, fun i k hi hk => ?_, fun k hk => ?_, fun T hT i k hi hk => ?_⟩
  · rw [hL i k hi hk]; exact (dn_bd h hi).1
  · rw [hL i k hi hk]; have := (dn_bd h (k := k) hi).2; omega
  · rw [hL 0 k h.h0 hk]; exact Int.le_refl _
  · rw [hL i k hi hk]
    clear hL
    induction i with
    | zero => exact hT.top k hk
    | succ i ih =>
      have h1 := ih (by omega)
      have h2 := hT.step (i + 1) k i k hi hk (by omega) hk (Or.inr ⟨rfl, Or.inl rfl⟩)
      rw [dn]; omega

end Go.Proofs.Ytpbkoigdfjajkaa
