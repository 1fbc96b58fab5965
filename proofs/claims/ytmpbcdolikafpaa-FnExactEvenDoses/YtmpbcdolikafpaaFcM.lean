/- Proved here: the arithmetic of FnCells: cells of a shape counted one by one over a frame, and their sides, are the area and the rim of its boxes. No condition on the program. -/
import Derived.Test.YtmpbcdolikafpaaRimMath
namespace Go.Proofs.Ytmpbcdolikafpaa
set_option linter.unusedVariables false
set_option linter.unusedSimpArgs false

def sumN (f : Nat → Int) : Nat → Int
  | 0 => 0
  | n + 1 => sumN f n + f n
theorem sumN_congr {f g : Nat → Int} : ∀ n, (∀ i, i < n → f i = g i) → sumN f n = sumN g n
  | 0, _ => rfl
  | n + 1, h => by simp only [sumN]; rw [sumN_congr n (fun i hi => h i (by omega)), h n (by omega)]
theorem sumN_add (f g : Nat → Int) : ∀ n, sumN (fun i => f i + g i) n = sumN f n + sumN g n
  | 0 => rfl
  | n + 1 => by simp only [sumN]; rw [sumN_add f g n]; omega
theorem sumN_sub (f g : Nat → Int) : ∀ n, sumN (fun i => f i - g i) n = sumN f n - sumN g n
  | 0 => rfl
  | n + 1 => by simp only [sumN]; rw [sumN_sub f g n]; omega
theorem sumN_mul (c : Int) (f : Nat → Int) : ∀ n, sumN (fun i => c * f i) n = c * sumN f n
  | 0 => by simp [sumN]
  | n + 1 => by simp only [sumN]; rw [sumN_mul c f n, Int.mul_add]
theorem sumN_zero (n : Nat) : sumN (fun _ => 0) n = 0 := by
  induction n with
  | zero => rfl
  | succ n ih => simp only [sumN, ih]; rfl
def grid (F : Nat → Nat → Int) (H W : Nat) : Int := sumN (fun j => sumN (fun i => F i j) W) H
theorem grid_add (F G : Nat → Nat → Int) (H W : Nat) : grid (fun i j => F i j + G i j) H W = grid F H W + grid G H W := by
  unfold grid
  rw [← sumN_add]
  exact sumN_congr H fun j _ => sumN_add _ _ W
theorem grid_sub (F G : Nat → Nat → Int) (H W : Nat) : grid (fun i j => F i j - G i j) H W = grid F H W - grid G H W := by
  unfold grid
  rw [← sumN_sub]
  exact sumN_congr H fun j _ => sumN_sub _ _ W
theorem grid_two (F : Nat → Nat → Int) (H W : Nat) : grid (fun i j => 2 * F i j) H W = 2 * grid F H W := by
  unfold grid
  rw [← sumN_mul]
  exact sumN_congr H fun j _ => sumN_mul _ _ W
theorem grid_zero (H W : Nat) : grid (fun _ _ => 0) H W = 0 := by
  unfold grid
  have : (fun j : Nat => sumN (fun _ => 0) W) = fun _ => 0 := by funext j; exact sumN_zero W
  rw [this, sumN_zero]
theorem grid_congr {F G : Nat → Nat → Int} {H W : Nat} (h : ∀ i j, i < W → j < H → F i j = G i j) : grid F H W = grid G H W :=
  sumN_congr H fun j hj => sumN_congr W fun i hi => h i j hi hj
theorem grid_mul (U V : Nat → Int) (H W : Nat) : grid (fun i j => U i * V j) H W = sumN U W * sumN V H := by
  unfold grid
  have : (fun j => sumN (fun i => U i * V j) W) = fun j => sumN U W * V j := by
    funext j
    have h1 : (fun i => U i * V j) = fun i => V j * U i := by funext i; rw [Int.mul_comm]
    rw [h1, sumN_mul, Int.mul_comm]
  rw [this, sumN_mul]
theorem grid_sumB (F : Bx → Nat → Nat → Int) (H W : Nat) : ∀ s : List Bx, grid (fun i j => sumB (fun b => F b i j) s) H W = sumB (fun b => grid (F b) H W) s
  | [] => grid_zero H W
  | b :: t => by
    simp only [sumB]
    rw [grid_add, grid_sumB F H W t]
def pairsP (F : Bx → Bx → Int) : List Bx → Int
  | [] => 0
  | b :: t => sumB (F b) t + pairsP F t
theorem grid_pairs (F : Bx → Bx → Nat → Nat → Int) (H W : Nat) : ∀ s : List Bx, grid (fun i j => pairsP (fun a b => F a b i j) s) H W = pairsP (fun a b => grid (F a b) H W) s
  | [] => grid_zero H W
  | b :: t => by
    simp only [pairsP]
    rw [grid_add, grid_sumB (fun c i j => F b c i j) H W t, grid_pairs F H W t]
theorem pairsP_fB : ∀ s : List Bx, pairsP fB s = pairs s
  | [] => rfl
  | b :: t => by simp only [pairsP, pairs]; rw [pairsP_fB t]
theorem pairsP_congr {F G : Bx → Bx → Int} : ∀ {s : List Bx}, s.Pairwise (fun a b => F a b = G a b) → pairsP F s = pairsP G s
  | [], _ => rfl
  | b :: t, h => by
    have h' := List.pairwise_cons.1 h
    simp only [pairsP]
    rw [sumB_congr (fun c hc => h'.1 c hc), pairsP_congr h'.2]
theorem pairsP_zero : ∀ s : List Bx, pairsP (fun _ _ => 0) s = 0
  | [] => rfl
  | b :: t => by simp only [pairsP]; rw [pairsP_zero t, sumB_zero (fun _ _ => rfl)]; rfl
theorem sumB_mulL (c : Int) (g : Bx → Int) : ∀ s : List Bx, c * sumB g s = sumB (fun b => c * g b) s
  | [] => by simp [sumB]
  | b :: t => by simp only [sumB]; rw [Int.mul_add, sumB_mulL c g t]
theorem prod_list (f g : Bx → Int) : ∀ {s : List Bx}, s.Pairwise (fun a b => f b * g a = 0) → sumB f s * sumB g s = sumB (fun b => f b * g b) s + pairsP (fun a b => f a * g b) s
  | [], _ => by simp [sumB, pairsP]
  | b :: t, h => by
    have h' := List.pairwise_cons.1 h
    have h1 := prod_list f g h'.2
    have h2 : sumB f t * g b = 0 := by
      rw [Int.mul_comm, sumB_mulL]
      exact sumB_zero fun c hc => by rw [Int.mul_comm]; exact h'.1 c hc
    have h3 : f b * sumB g t = sumB (fun c => f b * g c) t := sumB_mulL _ _ _
    simp only [sumB, pairsP]
    rw [Int.add_mul, Int.mul_add, Int.mul_add, h1, h2, h3]
    omega

def ux (b : Bx) (x : Int) : Int := if b.x0 ≤ x ∧ x < b.x1 then 1 else 0
def vy (b : Bx) (y : Int) : Int := if b.y0 ≤ y ∧ y < b.y1 then 1 else 0
def ind (b : Bx) (x y : Int) : Int := ux b x * vy b y
theorem ux_01 (b : Bx) (x : Int) : ux b x = 0 ∨ ux b x = 1 := by unfold ux; split <;> simp
theorem vy_01 (b : Bx) (y : Int) : vy b y = 0 ∨ vy b y = 1 := by unfold vy; split <;> simp
theorem ind_if (b : Bx) (x y : Int) : ind b x y = if (b.x0 ≤ x ∧ x < b.x1) ∧ (b.y0 ≤ y ∧ y < b.y1) then 1 else 0 := by
  unfold ind ux vy
  by_cases h1 : b.x0 ≤ x ∧ x < b.x1
  · by_cases h2 : b.y0 ≤ y ∧ y < b.y1
    · rw [if_pos h1, if_pos h2, if_pos ⟨h1, h2⟩]; rfl
    · rw [if_pos h1, if_neg h2, if_neg (fun e => h2 e.2)]; rfl
  · rw [if_neg h1, Int.zero_mul, if_neg (fun e => h1 e.1)]
theorem ind_no {a b : Bx} {x y u v : Int} (h : ¬ (((a.x0 ≤ x ∧ x < a.x1) ∧ (a.y0 ≤ y ∧ y < a.y1)) ∧ ((b.x0 ≤ u ∧ u < b.x1) ∧ (b.y0 ≤ v ∧ v < b.y1)))) : ind a x y * ind b u v = 0 := by
  rw [ind_if, ind_if]
  by_cases h1 : (a.x0 ≤ x ∧ x < a.x1) ∧ (a.y0 ≤ y ∧ y < a.y1)
  · rw [if_neg (fun e => h ⟨h1, e⟩)]; simp
  · rw [if_neg h1]; simp
/-- Two boxes of the one form, the former first. -/
def Aft (b c : Bx) : Prop := (b.y0 = c.y0 ∧ b.y1 = c.y1 ∧ b.x1 < c.x0) ∨ b.y1 ≤ c.y0
theorem form_after : ∀ {rows : List (List Bx)} {below : List Bx}, FormB below rows → rows.flatten.Pairwise Aft := by
  intro rows
  induction rows with
  | nil => intro below _; exact List.Pairwise.nil
  | cons r rest ih =>
    intro below h
    rw [List.flatten_cons, List.pairwise_append]
    refine ⟨?_, ih h.2.2.2.2.2, ?_⟩
    · refine (List.Pairwise.and_mem.1 h.2.2.1.gap).imp fun {p q} hpq => Or.inl ?_
      have h1 := h.2.2.1.y p hpq.1
      have h2 := h.2.2.1.y q hpq.2.1
      exact ⟨by omega, by omega, hpq.2.2⟩
    · intro p hp q hq
      right
      have hp1 := h.2.2.1.y p hp
      rcases (FormB.rise rest r h.2.2.2.2.2).2 q hq with e | e
      · exact absurd e h.1
      · omega
theorem cnt (X lo hi : Int) (h1 : X ≤ lo) (h2 : lo ≤ hi) : ∀ n : Nat, sumN (fun i => if lo ≤ X + i ∧ X + i < hi then 1 else 0) n = if X + n ≤ lo then 0 else if X + n ≤ hi then X + n - lo else hi - lo
  | 0 => by
    simp only [sumN]
    rw [if_pos (by simpa using h1)]
  | n + 1 => by
    simp only [sumN]
    rw [cnt X lo hi h1 h2 n]
    have e : ((n + 1 : Nat) : Int) = (n : Int) + 1 := by omega
    rw [e]
    repeat' split
    all_goals omega
theorem cnt_all {X lo hi : Int} {n : Nat} (h1 : X ≤ lo) (h2 : lo ≤ hi) (h3 : hi ≤ X + n) : sumN (fun i => if lo ≤ X + i ∧ X + i < hi then 1 else 0) n = hi - lo := by
  rw [cnt X lo hi h1 h2]
  repeat' split
  all_goals omega

/-- A frame that has the boxes, and a place to spare on the lower sides. -/
def Framed (X Y : Int) (W H : Nat) (s : List Bx) : Prop := ∀ b ∈ s, X + 1 ≤ b.x0 ∧ b.x0 < b.x1 ∧ b.x1 ≤ X + W ∧ Y + 1 ≤ b.y0 ∧ b.y0 < b.y1 ∧ b.y1 ≤ Y + H
theorem ux_sum {X : Int} {W : Nat} {b : Bx} (d : Int) (hd : 0 ≤ d ∧ d ≤ 1) (h : X + 1 ≤ b.x0 ∧ b.x0 < b.x1 ∧ b.x1 ≤ X + W) : sumN (fun i => ux b (X + i + d)) W = b.x1 - b.x0 := by
  have := cnt_all (X := X) (lo := b.x0 - d) (hi := b.x1 - d) (n := W) (by omega) (by omega) (by omega)
  rw [show b.x1 - d - (b.x0 - d) = b.x1 - b.x0 by omega] at this
  rw [← this]
  refine sumN_congr W fun i _ => ?_
  unfold ux
  by_cases hc : b.x0 ≤ X + ↑i + d ∧ X + ↑i + d < b.x1
  · rw [if_pos hc, if_pos (by omega)]
  · rw [if_neg hc, if_neg (by omega)]
theorem vy_sum {Y : Int} {H : Nat} {b : Bx} (d : Int) (hd : 0 ≤ d ∧ d ≤ 1) (h : Y + 1 ≤ b.y0 ∧ b.y0 < b.y1 ∧ b.y1 ≤ Y + H) : sumN (fun j => vy b (Y + j + d)) H = b.y1 - b.y0 := by
  have := cnt_all (X := Y) (lo := b.y0 - d) (hi := b.y1 - d) (n := H) (by omega) (by omega) (by omega)
  rw [show b.y1 - d - (b.y0 - d) = b.y1 - b.y0 by omega] at this
  rw [← this]
  refine sumN_congr H fun i _ => ?_
  unfold vy
  by_cases hc : b.y0 ≤ Y + ↑i + d ∧ Y + ↑i + d < b.y1
  · rw [if_pos hc, if_pos (by omega)]
  · rw [if_neg hc, if_neg (by omega)]
theorem ux_twice {X : Int} {W : Nat} {b : Bx} (h : X + 1 ≤ b.x0 ∧ b.x0 < b.x1 ∧ b.x1 ≤ X + W) : sumN (fun i => ux b (X + i) * ux b (X + i + 1)) W = b.x1 - b.x0 - 1 := by
  have := cnt_all (X := X) (lo := b.x0) (hi := b.x1 - 1) (n := W) (by omega) (by omega) (by omega)
  rw [show b.x1 - 1 - b.x0 = b.x1 - b.x0 - 1 by omega] at this
  rw [← this]
  refine sumN_congr W fun i _ => ?_
  unfold ux
  by_cases h1 : b.x0 ≤ X + ↑i ∧ X + ↑i < b.x1
  · by_cases h2 : b.x0 ≤ X + ↑i + 1 ∧ X + ↑i + 1 < b.x1
    · rw [if_pos h1, if_pos h2, if_pos (by omega)]; rfl
    · rw [if_pos h1, if_neg h2, if_neg (by omega)]; rfl
  · rw [if_neg h1, Int.zero_mul, if_neg (by omega)]
theorem vy_twice {Y : Int} {H : Nat} {b : Bx} (h : Y + 1 ≤ b.y0 ∧ b.y0 < b.y1 ∧ b.y1 ≤ Y + H) : sumN (fun j => vy b (Y + j) * vy b (Y + j + 1)) H = b.y1 - b.y0 - 1 := by
  have := cnt_all (X := Y) (lo := b.y0) (hi := b.y1 - 1) (n := H) (by omega) (by omega) (by omega)
  rw [show b.y1 - 1 - b.y0 = b.y1 - b.y0 - 1 by omega] at this
  rw [← this]
  refine sumN_congr H fun i _ => ?_
  unfold vy
  by_cases h1 : b.y0 ≤ Y + ↑i ∧ Y + ↑i < b.y1
  · by_cases h2 : b.y0 ≤ Y + ↑i + 1 ∧ Y + ↑i + 1 < b.y1
    · rw [if_pos h1, if_pos h2, if_pos (by omega)]; rfl
    · rw [if_pos h1, if_neg h2, if_neg (by omega)]; rfl
  · rw [if_neg h1, Int.zero_mul, if_neg (by omega)]
def areaF (b : Bx) : Int := (b.x1 - b.x0) * (b.y1 - b.y0)
/-- The cells of the boxes, moved by d and e. -/
theorem grid_area {X Y : Int} {W H : Nat} {s : List Bx} (hf : Framed X Y W H s) (d e : Int) (hd : 0 ≤ d ∧ d ≤ 1) (he : 0 ≤ e ∧ e ≤ 1) : grid (fun i j => sumB (fun b => ind b (X + i + d) (Y + j + e)) s) H W = sumB areaF s := by
  rw [grid_sumB (fun b i j => ind b (X + i + d) (Y + j + e)) H W s]
  refine sumB_congr fun b hb => ?_
  have h := hf b hb
  unfold ind
  rw [grid_mul (fun i => ux b (X + i + d)) (fun j => vy b (Y + j + e)), ux_sum d hd ⟨h.1, h.2.1, h.2.2.1⟩, vy_sum e he ⟨h.2.2.2.1, h.2.2.2.2.1, h.2.2.2.2.2⟩]
  rfl

theorem aft_ind {b c : Bx} (h : Aft b c) (hb : b.y0 < b.y1) (hc : c.y0 < c.y1) (x y : Int) : ind b x y * ind c x y = 0 := by
  refine ind_no fun e => ?_
  unfold Aft at h; omega
theorem aft_r {b c : Bx} (h : Aft b c) (hb : b.y0 < b.y1) (hc : c.y0 < c.y1) (x y : Int) : ind b x y * ind c (x + 1) y = 0 := by
  refine ind_no fun e => ?_
  unfold Aft at h; omega
theorem aft_l {b c : Bx} (h : Aft b c) (hb : b.y0 < b.y1) (hc : c.y0 < c.y1) (x y : Int) : ind c x y * ind b (x + 1) y = 0 := by
  refine ind_no fun e => ?_
  unfold Aft at h; omega
theorem aft_d {b c : Bx} (h : Aft b c) (hb : b.y0 < b.y1) (hc : c.y0 < c.y1) (x y : Int) : ind c x y * ind b x (y + 1) = 0 := by
  refine ind_no fun e => ?_
  unfold Aft at h; omega
theorem pair_mem {R Q : Bx → Bx → Prop} {s : List Bx} (h : s.Pairwise R) (hq : ∀ a b, a ∈ s → b ∈ s → R a b → Q a b) : s.Pairwise Q :=
  (List.Pairwise.and_mem.1 h).imp fun {a b} hab => hq a b hab.1 hab.2.1 hab.2.2
/-- A place is in at most one of the boxes. -/
theorem ind_has : ∀ {s : List Bx}, s.Pairwise Aft → (∀ b ∈ s, b.y0 < b.y1) → ∀ x y, sumB (fun b => ind b x y) s = if inK (rowK s y) x = true then 1 else 0
  | [], _, _, x, y => by simp [sumB, rowK, inK]
  | b :: t, h, hv, x, y => by
    have h' := List.pairwise_cons.1 h
    have ih := ind_has h'.2 (fun c hc => hv c (by simp [hc])) x y
    simp only [sumB]
    by_cases hb : (b.x0 ≤ x ∧ x < b.x1) ∧ (b.y0 ≤ y ∧ y < b.y1)
    · have hz : sumB (fun c => ind c x y) t = 0 := sumB_zero fun c hc => by
        have := aft_ind (h'.1 c hc) (hv b (by simp)) (hv c (by simp [hc])) x y
        rw [ind_if b, if_pos hb, Int.one_mul] at this
        exact this
      rw [hz, ind_if, if_pos hb, if_pos]
      · rfl
      · simp [rowK, inK, hb.1.1, hb.1.2, hb.2.1, hb.2.2]
    · have hne : inK (rowK (b :: t) y) x = inK (rowK t y) x := by
        unfold inK rowK
        rw [List.filter_cons]
        split
        · rename_i h1
          simp at h1
          have e : (decide (b.x0 ≤ x) && decide (x < b.x1)) = false := by
            rw [Bool.eq_false_iff]; simp; omega
          simp [e]
        · rfl
      rw [ind_if, if_neg hb, ih, hne]
      simp
theorem ne_prod {p q : Int} (hp : p = 0 ∨ p = 1) (hq : q = 0 ∨ q = 1) : (if p = q then (0 : Int) else 1) = p + q - 2 * (p * q) := by
  rcases hp with rfl | rfl <;> rcases hq with rfl | rfl <;> rfl
theorem ov_sum {X : Int} {W : Nat} {a b : Bx} (ha : X + 1 ≤ a.x0 ∧ a.x0 < a.x1 ∧ a.x1 ≤ X + W) (hb : X + 1 ≤ b.x0 ∧ b.x0 < b.x1 ∧ b.x1 ≤ X + W) : sumN (fun i => ux a (X + i) * ux b (X + i)) W = ovB a b := by
  have hval : ovB a b = if minI a.x1 b.x1 ≤ maxI a.x0 b.x0 then 0 else minI a.x1 b.x1 - maxI a.x0 b.x0 := by
    unfold ovB
    generalize minI a.x1 b.x1 = p
    generalize maxI a.x0 b.x0 = q
    unfold maxI
    repeat' split
    all_goals omega
  have hmm : ∀ x, (a.x0 ≤ x ∧ x < a.x1) ∧ (b.x0 ≤ x ∧ x < b.x1) ↔ maxI a.x0 b.x0 ≤ x ∧ x < minI a.x1 b.x1 := by
    intro x
    unfold maxI minI
    split <;> split <;> omega
  have hprod : ∀ x, ux a x * ux b x = if maxI a.x0 b.x0 ≤ x ∧ x < minI a.x1 b.x1 then 1 else 0 := by
    intro x
    unfold ux
    by_cases h1 : a.x0 ≤ x ∧ x < a.x1
    · by_cases h2 : b.x0 ≤ x ∧ x < b.x1
      · rw [if_pos h1, if_pos h2, if_pos ((hmm x).1 ⟨h1, h2⟩)]; rfl
      · rw [if_pos h1, if_neg h2, if_neg (fun e => h2 ((hmm x).2 e).2)]; rfl
    · rw [if_neg h1, Int.zero_mul, if_neg (fun e => h1 ((hmm x).2 e).1)]
  have hlo : X ≤ maxI a.x0 b.x0 := by unfold maxI; split <;> omega
  have hhi : minI a.x1 b.x1 ≤ X + W := by unfold minI; split <;> omega
  generalize minI a.x1 b.x1 = hi at hval hprod hhi
  generalize maxI a.x0 b.x0 = lo at hval hprod hlo
  rw [hval]
  split
  · rename_i hle
    rw [sumN_congr W (g := fun _ => 0) (fun i _ => by rw [hprod, if_neg (by omega)])]
    exact sumN_zero W
  · rename_i hgt
    rw [← cnt_all (X := X) (lo := lo) (hi := hi) (n := W) hlo (by omega) hhi]
    exact sumN_congr W fun i _ => hprod _
/-- What two boxes on each other share. -/
theorem grid_pair {X Y : Int} {W H : Nat} {a b : Bx} (h : Aft a b) (ha : X + 1 ≤ a.x0 ∧ a.x0 < a.x1 ∧ a.x1 ≤ X + W ∧ Y + 1 ≤ a.y0 ∧ a.y0 < a.y1 ∧ a.y1 ≤ Y + H) (hb : X + 1 ≤ b.x0 ∧ b.x0 < b.x1 ∧ b.x1 ≤ X + W ∧ Y + 1 ≤ b.y0 ∧ b.y0 < b.y1 ∧ b.y1 ≤ Y + H) :
    grid (fun i j => ind a (X + i) (Y + j) * ind b (X + i) (Y + j + 1)) H W = fB a b := by
  have e : ∀ (i j : Nat), ind a (X + i) (Y + j) * ind b (X + i) (Y + j + 1) = (ux a (X + i) * ux b (X + i)) * (vy a (Y + j) * vy b (Y + j + 1)) := by
    intro i j
    unfold ind
    rw [Int.mul_assoc, ← Int.mul_assoc (vy a _), Int.mul_comm (vy a _) (ux b _), Int.mul_assoc (ux b _), ← Int.mul_assoc]
  rw [grid_congr (fun i j _ _ => e i j), grid_mul (fun i => ux a (X + i) * ux b (X + i)) (fun j => vy a (Y + j) * vy b (Y + j + 1)), ov_sum ⟨ha.1, ha.2.1, ha.2.2.1⟩ ⟨hb.1, hb.2.1, hb.2.2.1⟩]
  unfold fB
  by_cases ht : a.y1 = b.y0
  · rw [if_pos ht]
    have : sumN (fun j : Nat => vy a (Y + j) * vy b (Y + j + 1)) H = 1 := by
      have h1 := cnt_all (X := Y) (lo := a.y1 - 1) (hi := a.y1) (n := H) (by omega) (by omega) (by omega)
      rw [show a.y1 - (a.y1 - 1) = 1 by omega] at h1
      refine Eq.trans ?_ h1
      refine sumN_congr H fun j _ => ?_
      unfold vy
      by_cases h1 : a.y0 ≤ Y + ↑j ∧ Y + ↑j < a.y1
      · by_cases h2 : b.y0 ≤ Y + ↑j + 1 ∧ Y + ↑j + 1 < b.y1
        · rw [if_pos h1, if_pos h2, if_pos (by omega)]; rfl
        · rw [if_pos h1, if_neg h2, if_neg (by omega)]; rfl
      · rw [if_neg h1, Int.zero_mul, if_neg (by omega)]
    rw [this, Int.mul_one]
  · rw [if_neg ht]
    rcases h with h | h
    · have : ovB a b = 0 := by
        unfold ovB maxI minI
        repeat' split
        all_goals omega
      rw [this, Int.zero_mul]
    · have : sumN (fun j : Nat => vy a (Y + j) * vy b (Y + j + 1)) H = 0 := by
        rw [sumN_congr H (g := fun _ => 0) (fun j _ => ?_)]
        · exact sumN_zero H
        · unfold vy
          by_cases h1 : a.y0 ≤ Y + ↑j ∧ Y + ↑j < a.y1
          · rw [if_pos h1, if_neg (by omega)]; rfl
          · rw [if_neg h1, Int.zero_mul]
      rw [this, Int.mul_zero]
def ioC (s : List Bx) (x y : Int) : Int := if inK (rowK s y) x = true then 1 else 0
def rioC (s : List Bx) (x y : Int) : Int := (if ioC s x y = ioC s (x + 1) y then 0 else 1) + (if ioC s x y = ioC s x (y + 1) then 0 else 1)
theorem ioC_01 (s : List Bx) (x y : Int) : ioC s x y = 0 ∨ ioC s x y = 1 := by unfold ioC; split <;> simp
theorem sumB_sub (f g : Bx → Int) : ∀ s : List Bx, sumB (fun b => f b - g b) s = sumB f s - sumB g s
  | [] => rfl
  | b :: t => by simp only [sumB]; rw [sumB_sub f g t]; omega
theorem ux_sq (b : Bx) (x : Int) : ux b x * ux b x = ux b x := by rcases ux_01 b x with h | h <;> rw [h] <;> rfl
theorem vy_sq (b : Bx) (y : Int) : vy b y * vy b y = vy b y := by rcases vy_01 b y with h | h <;> rw [h] <;> rfl
theorem cells_area {X Y : Int} {W H : Nat} {s : List Bx} (ha : s.Pairwise Aft) (hf : Framed X Y W H s) : grid (fun i j => ioC s (X + i) (Y + j)) H W = sumB areaF s := by
  have h := grid_area hf 0 0 (by omega) (by omega)
  rw [← h]
  refine grid_congr fun i j _ _ => ?_
  rw [Int.add_zero, Int.add_zero, ind_has ha (fun b hb => (hf b hb).2.2.2.2.1)]
  rfl
theorem cells_rim {X Y : Int} {W H : Nat} {s : List Bx} (ha : s.Pairwise Aft) (hf : Framed X Y W H s) : grid (fun i j => rioC s (X + i) (Y + j)) H W = rimS s := by
  have hv : ∀ b ∈ s, b.y0 < b.y1 := fun b hb => (hf b hb).2.2.2.2.1
  have hI : ∀ x y, ioC s x y = sumB (fun b => ind b x y) s := fun x y => (ind_has ha hv x y).symm
  have g00 := grid_area hf 0 0 (by omega) (by omega)
  have g10 := grid_area hf 1 0 (by omega) (by omega)
  have g01 := grid_area hf 0 1 (by omega) (by omega)
  simp only [Int.add_zero] at g00 g10 g01
  have hx : grid (fun i j => sumB (fun b => ind b (X + i) (Y + j)) s * sumB (fun b => ind b (X + i + 1) (Y + j)) s) H W = sumB areaF s - sumB (fun b => b.y1 - b.y0) s := by
    have e : ∀ (i j : Nat), sumB (fun b => ind b (X + i) (Y + j)) s * sumB (fun b => ind b (X + i + 1) (Y + j)) s = sumB (fun b => ind b (X + i) (Y + j) * ind b (X + i + 1) (Y + j)) s := by
      intro i j
      rw [prod_list _ _ (pair_mem ha fun a b ha' hb' hab => aft_l hab (hv a ha') (hv b hb') _ _)]
      rw [pairsP_congr (G := fun _ _ => 0) (pair_mem ha fun a b ha' hb' hab => aft_r hab (hv a ha') (hv b hb') _ _), pairsP_zero]
      omega
    rw [grid_congr (fun i j _ _ => e i j), grid_sumB (fun b i j => ind b (X + i) (Y + j) * ind b (X + i + 1) (Y + j)) H W s]
    rw [sumB_congr (f := fun b => areaF b - (b.y1 - b.y0)) (fun b hb => ?_), sumB_sub]
    have h := hf b hb
    have e2 : ∀ (i j : Nat), ind b (X + i) (Y + j) * ind b (X + i + 1) (Y + j) = (ux b (X + i) * ux b (X + i + 1)) * vy b (Y + j + 0) := by
      intro i j
      unfold ind
      rw [Int.add_zero, Int.mul_assoc, ← Int.mul_assoc (vy b _), Int.mul_comm (vy b _) (ux b _), Int.mul_assoc (ux b _), ← Int.mul_assoc, vy_sq]
    rw [grid_congr (fun i j _ _ => e2 i j), grid_mul (fun i => ux b (X + i) * ux b (X + i + 1)) (fun j => vy b (Y + j + 0)), ux_twice ⟨h.1, h.2.1, h.2.2.1⟩, vy_sum 0 (by omega) ⟨h.2.2.2.1, h.2.2.2.2.1, h.2.2.2.2.2⟩]
    unfold areaF
    rw [Int.sub_mul, Int.one_mul]
  have hy : grid (fun i j => sumB (fun b => ind b (X + i) (Y + j)) s * sumB (fun b => ind b (X + i) (Y + j + 1)) s) H W = sumB areaF s - sumB (fun b => b.x1 - b.x0) s + pairs s := by
    have e : ∀ (i j : Nat), sumB (fun b => ind b (X + i) (Y + j)) s * sumB (fun b => ind b (X + i) (Y + j + 1)) s = sumB (fun b => ind b (X + i) (Y + j) * ind b (X + i) (Y + j + 1)) s + pairsP (fun a b => ind a (X + i) (Y + j) * ind b (X + i) (Y + j + 1)) s := by
      intro i j
      exact prod_list _ _ (pair_mem ha fun a b ha' hb' hab => aft_d hab (hv a ha') (hv b hb') _ _)
    rw [grid_congr (fun i j _ _ => e i j), grid_add, grid_sumB (fun b i j => ind b (X + i) (Y + j) * ind b (X + i) (Y + j + 1)) H W s, grid_pairs (fun a b i j => ind a (X + i) (Y + j) * ind b (X + i) (Y + j + 1)) H W s]
    rw [pairsP_congr (G := fB) (pair_mem ha fun a b ha' hb' hab => grid_pair hab (hf a ha') (hf b hb')), pairsP_fB]
    rw [sumB_congr (f := fun b => areaF b - (b.x1 - b.x0)) (fun b hb => ?_), sumB_sub]
    have h := hf b hb
    have e2 : ∀ (i j : Nat), ind b (X + i) (Y + j) * ind b (X + i) (Y + j + 1) = ux b (X + i + 0) * (vy b (Y + j) * vy b (Y + j + 1)) := by
      intro i j
      unfold ind
      rw [Int.add_zero, Int.mul_assoc, ← Int.mul_assoc (vy b _), Int.mul_comm (vy b _) (ux b _), Int.mul_assoc (ux b _), ← Int.mul_assoc, ux_sq]
    rw [grid_congr (fun i j _ _ => e2 i j), grid_mul (fun i => ux b (X + i + 0)) (fun j => vy b (Y + j) * vy b (Y + j + 1)), ux_sum 0 (by omega) ⟨h.1, h.2.1, h.2.2.1⟩, vy_twice ⟨h.2.2.2.1, h.2.2.2.2.1, h.2.2.2.2.2⟩]
    unfold areaF
    rw [Int.mul_sub, Int.mul_one]
  have e : ∀ (i j : Nat), rioC s (X + i) (Y + j) = ((sumB (fun b => ind b (X + i) (Y + j)) s + sumB (fun b => ind b (X + i + 1) (Y + j)) s) - 2 * (sumB (fun b => ind b (X + i) (Y + j)) s * sumB (fun b => ind b (X + i + 1) (Y + j)) s)) + ((sumB (fun b => ind b (X + i) (Y + j)) s + sumB (fun b => ind b (X + i) (Y + j + 1)) s) - 2 * (sumB (fun b => ind b (X + i) (Y + j)) s * sumB (fun b => ind b (X + i) (Y + j + 1)) s)) := by
    intro i j
    unfold rioC
    rw [ne_prod (ioC_01 s _ _) (ioC_01 s _ _), ne_prod (ioC_01 s _ _) (ioC_01 s _ _), hI, hI, hI]
  rw [grid_congr (fun i j _ _ => e i j), grid_add, grid_sub, grid_sub, grid_add, grid_add, grid_two, grid_two, g00, g10, g01, hx, hy]
  unfold rimS
  have hp : sumB perB s = 2 * sumB (fun b => b.x1 - b.x0) s + 2 * sumB (fun b => b.y1 - b.y0) s := by
    clear hx hy e g00 g10 g01 hI hv ha hf
    induction s with
    | nil => rfl
    | cons b t ih => simp only [sumB, perB] at ih ⊢; omega
  rw [hp]
  omega

end Go.Proofs.Ytmpbcdolikafpaa
