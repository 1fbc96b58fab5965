/- Proved here: a sum over boxes that lie apart is the sum over the frame's cells that one of them has. No condition on the program. -/
import Derived.Test.YtmdijanohjkeeaaSeC
import Derived.Test.YtmdijanohjkeeaaFcM
namespace Go.Proofs.Ytmdijanohjkeeaa
set_option linter.unusedVariables false
set_option linter.unusedSimpArgs false

theorem sub_sumU (F : Nat → Int) {lo hi : Nat} (h : lo ≤ hi) : ∀ m, sumN (fun i => if lo ≤ i ∧ i < hi then F i else 0) m = sumN (fun k => F (lo + k)) ((if m ≤ hi then m else hi) - lo)
  | 0 => by simp [sumN]
  | m + 1 => by
    rw [sumN, sub_sumU F h m]
    by_cases h1 : m < lo
    · rw [if_neg (show ¬ (lo ≤ m ∧ m < hi) by omega), if_pos (show m ≤ hi by omega), if_pos (show m + 1 ≤ hi by omega), show m - lo = 0 by omega, show m + 1 - lo = 0 by omega]; simp
    · by_cases h2 : m < hi
      · rw [if_pos (show lo ≤ m ∧ m < hi by omega), if_pos (show m ≤ hi by omega), if_pos (show m + 1 ≤ hi by omega), show m + 1 - lo = (m - lo) + 1 by omega, sumN, show lo + (m - lo) = m by omega]
      · rw [if_neg (show ¬ (lo ≤ m ∧ m < hi) by omega), if_neg (show ¬ m + 1 ≤ hi by omega), show (if m ≤ hi then m else hi) = hi by split <;> omega]; simp
theorem sub_sum (F : Nat → Int) {lo hi W : Nat} (h : lo ≤ hi) (hW : hi ≤ W) : sumN (fun k => F (lo + k)) (hi - lo) = sumN (fun i => if lo ≤ i ∧ i < hi then F i else 0) W := by
  rw [sub_sumU F h]
  by_cases h1 : W ≤ hi
  · rw [if_pos h1, show W = hi by omega]
  · rw [if_neg h1]
/-- How far off a place is. -/
def offA (G : Nat → Nat → Int) (z : Int) (j i : Nat) : Int := (((G j i - z).natAbs : Nat) : Int)
theorem sbR_sum {f b : Bx} (G : Nat → Nat → Int) (z : Int) (hb : InF f b) (j : Nat) : ∀ i, sbR f G z b j i = sumN (fun i => offA G z ((b.y0 - f.y0).toNat + j) ((b.x0 - f.x0).toNat + i)) i
  | 0 => rfl
  | i + 1 => by
    have h1 := sbR_sum G z hb j i
    unfold InF at hb
    rw [sbR, sumN, h1, show (b.y0 + (j : Int) - f.y0).toNat = (b.y0 - f.y0).toNat + j by omega, show (b.x0 + (i : Int) - f.x0).toNat = (b.x0 - f.x0).toNat + i by omega]
    rfl
theorem sbB_sum {f b : Bx} (G : Nat → Nat → Int) (z : Int) (hb : InF f b) : ∀ j, sbB f G z b j = sumN (fun j => sumN (fun i => offA G z ((b.y0 - f.y0).toNat + j) ((b.x0 - f.x0).toNat + i)) (wdN b)) j
  | 0 => rfl
  | j + 1 => by rw [sbB, sumN, sbB_sum G z hb j, sbR_sum G z hb]
theorem sbB_grid {f b : Bx} (G : Nat → Nat → Int) (z : Int) {n W : Nat} (hw : f.x1 = f.x0 + (W : Int)) (hh : f.y1 = f.y0 + (n : Int)) (hb : InF f b) : sbB f G z b (htN b) = grid (fun i j => offA G z j i * ind b (f.x0 + i) (f.y0 + j)) n W := by
  have hB := hb
  unfold InF at hB
  rw [sbB_sum G z hb]
  obtain ⟨lx, hlx⟩ : ∃ q, q = (b.x0 - f.x0).toNat := ⟨_, rfl⟩
  obtain ⟨hx, hhx⟩ : ∃ q, q = (b.x1 - f.x0).toNat := ⟨_, rfl⟩
  obtain ⟨ly, hly⟩ : ∃ q, q = (b.y0 - f.y0).toNat := ⟨_, rfl⟩
  obtain ⟨hy, hhy⟩ : ∃ q, q = (b.y1 - f.y0).toNat := ⟨_, rfl⟩
  rw [← hlx, ← hly, show wdN b = hx - lx by unfold wdN; omega, show htN b = hy - ly by unfold htN; omega]
  rw [sub_sum (fun j => sumN (fun i => offA G z j (lx + i)) (hx - lx)) (lo := ly) (hi := hy) (W := n) (by omega) (by omega)]
  unfold grid
  refine sumN_congr n fun j hj => ?_
  by_cases h1 : ly ≤ j ∧ j < hy
  · rw [if_pos h1, sub_sum (fun i => offA G z j i) (lo := lx) (hi := hx) (W := W) (by omega) (by omega)]
    refine sumN_congr W fun i hi => ?_
    show (if lx ≤ i ∧ i < hx then offA G z j i else 0) = offA G z j i * ind b (f.x0 + (i : Int)) (f.y0 + (j : Int))
    rw [ind_if]
    by_cases h2 : lx ≤ i ∧ i < hx
    · rw [if_pos h2, if_pos (by omega), Int.mul_one]
    · rw [if_neg h2, if_neg (by omega), Int.mul_zero]
  · rw [if_neg h1, ← sumN_zero W]
    refine sumN_congr W fun i hi => ?_
    show (0 : Int) = offA G z j i * ind b (f.x0 + (i : Int)) (f.y0 + (j : Int))
    rw [ind_if, if_neg (by omega), Int.mul_zero]
theorem sbL_sum (f : Bx) (G : Nat → Nat → Int) (z : Int) (cs : List Bx) : ∀ k, k ≤ cs.length → sbL f G z cs k = sumB (fun b => sbB f G z b (htN b)) (cs.take k)
  | 0, _ => rfl
  | k + 1, h => by
    rw [sbL, sbL_sum f G z cs k (by omega), List.take_succ_eq_append_getElem (by omega), sumB_append, bat_get (by omega)]
    simp [sumB]
theorem erW_sum (l : List Sh) (f : Bx) (G : Nat → Nat → Int) (z : Int) (j : Nat) : ∀ i, erW l f G z j i = sumN (fun i => if cvB l (f.x0 + (i : Int)) (f.y0 + (j : Int)) = true then offA G z j i else 0) i
  | 0 => rfl
  | i + 1 => by rw [erW, sumN, erW_sum l f G z j i]; rfl
theorem erA_sum (l : List Sh) (f : Bx) (G : Nat → Nat → Int) (z : Int) (W : Nat) : ∀ j, erA l f G z W j = sumN (fun j => sumN (fun i => if cvB l (f.x0 + (i : Int)) (f.y0 + (j : Int)) = true then offA G z j i else 0) W) j
  | 0 => rfl
  | j + 1 => by rw [erA, sumN, erA_sum l f G z W j, erW_sum]
/-- The two sums are one. -/
theorem sb_er {l : List Sh} {f : Bx} {cs : List Bx} (G : Nat → Nat → Int) (z : Int) {n W : Nat} (hw : f.x1 = f.x0 + (W : Int)) (hh : f.y1 = f.y0 + (n : Int)) (ha : cs.Pairwise Aft) (hy : ∀ b ∈ cs, b.y0 < b.y1) (hi : ∀ b ∈ cs, InF f b)
    (hc : ∀ x y, (f.x0 ≤ x ∧ x < f.x1) ∧ (f.y0 ≤ y ∧ y < f.y1) → (inK (rowK cs y) x = true ↔ cvB l x y = true)) : sbL f G z cs cs.length = erA l f G z W n := by
  rw [sbL_sum f G z cs _ (Nat.le_refl _), List.take_length, erA_sum]
  rw [sumB_congr (f := fun b => grid (fun i j => offA G z j i * ind b (f.x0 + i) (f.y0 + j)) n W) fun b hb => sbB_grid G z hw hh (hi b hb)]
  rw [← grid_sumB (fun b i j => offA G z j i * ind b (f.x0 + i) (f.y0 + j))]
  unfold grid
  refine sumN_congr n fun j hj => sumN_congr W fun i hi' => ?_
  show sumB (fun b => offA G z j i * ind b (f.x0 + (i : Int)) (f.y0 + (j : Int))) cs = if cvB l (f.x0 + (i : Int)) (f.y0 + (j : Int)) = true then offA G z j i else 0
  rw [← sumB_mulL, ind_has ha hy]
  have h1 := hc (f.x0 + (i : Int)) (f.y0 + (j : Int)) (by omega)
  by_cases h2 : cvB l (f.x0 + (i : Int)) (f.y0 + (j : Int)) = true
  · rw [if_pos h2, if_pos (h1.2 h2), Int.mul_one]
  · rw [if_neg h2, if_neg (fun e => h2 (h1.1 e)), Int.mul_zero]

end Go.Proofs.Ytmdijanohjkeeaa
