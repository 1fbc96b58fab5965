/- Proved here: the arithmetic of charts, loops and wear: faults of lists, smoothed numbers, sums that tell, inputs and errors of a loop, its bound, wear; each with its bounds. -/
import Derived.Test.YtkacfjbhkgdpdaaIntsBase
namespace Go.Proofs.Ytkacfjbhkgdpdaa
set_option linter.unusedVariables false
set_option linter.unusedSimpArgs false

/-- A list that is told place by place. -/
def rgL (f : Nat → Int) (n : Nat) : List Int := (List.range n).map f
theorem rgL_zero (f : Nat → Int) : rgL f 0 = [] := rfl
theorem rgL_succ (f : Nat → Int) (n : Nat) : rgL f (n + 1) = rgL f n ++ [f n] := by simp [rgL, List.range_succ]
theorem rgL_len (f : Nat → Int) (n : Nat) : (rgL f n).length = n := by simp [rgL]

/-- The fault of a list whose numbers are to lie from lo to hi. -/
def chG (lo hi : Int) : List Int → Int
  | [] => 0
  | x :: t => if lo ≤ x ∧ x ≤ hi then chG lo hi t else 3
def chL (lo hi : Int) (s : List Int) : Int := if 200 < s.length then 2 else chG lo hi s
def chF (s : List Int) : Int := chL (-1000000) 1000000 s
theorem chG_step (lo hi : Int) {s : List Int} {k : Nat} (hk : k < s.length) : chG lo hi (s.drop k) = if lo ≤ s[k] ∧ s[k] ≤ hi then chG lo hi (s.drop (k + 1)) else 3 := by
  rw [List.drop_eq_getElem_cons hk, chG]
theorem chG_good {lo hi : Int} {s : List Int} (h : chG lo hi s = 0) : ∀ x ∈ s, lo ≤ x ∧ x ≤ hi := by
  induction s with
  | nil => intro x hx; cases hx
  | cons a t ih =>
    rw [chG] at h
    by_cases ha : lo ≤ a ∧ a ≤ hi
    · rw [if_pos ha] at h
      intro x hx
      rcases List.mem_cons.1 hx with rfl | hx
      · exact ha
      · exact ih h x hx
    · rw [if_neg ha] at h; cases h
theorem chL_good {lo hi : Int} {s : List Int} (h : chL lo hi s = 0) : s.length ≤ 200 ∧ ∀ k, k < s.length → lo ≤ s.getD k 0 ∧ s.getD k 0 ≤ hi := by
  unfold chL at h
  split at h
  · cases h
  · rename_i h1
    refine ⟨by omega, fun k hk => ?_⟩
    have := chG_good h (s.getD k 0) (by rw [List.getD_eq_getElem?_getD, List.getElem?_eq_getElem hk]; exact List.getElem_mem hk)
    exact this

/-- The fault of a loop. -/
def loF (T N D S : Int) : Int := if (1 ≤ D ∧ D ≤ 1000) ∧ (1 ≤ N ∧ N ≤ D) then (if (-1000000 ≤ T ∧ T ≤ 1000000) ∧ (-1000000 ≤ S ∧ S ≤ 1000000) then 0 else 3) else 1
theorem loF_good {T N D S : Int} (h : loF T N D S = 0) : (1 ≤ D ∧ D ≤ 1000) ∧ (1 ≤ N ∧ N ≤ D) ∧ (-1000000 ≤ T ∧ T ≤ 1000000) ∧ (-1000000 ≤ S ∧ S ≤ 1000000) := by
  unfold loF at h
  split at h
  · rename_i h1
    split at h
    · rename_i h2; exact ⟨h1.1, h1.2, h2.1, h2.2⟩
    · cases h
  · cases h

/-- Down: a product by num of den lies between 0 and what was multiplied. -/
theorem down_between {x q d : Int} (hq : 0 ≤ q ∧ q ≤ d) (hd : 1 ≤ d) : (0 ≤ x → 0 ≤ x * q / d ∧ x * q / d ≤ x) ∧ (x ≤ 0 → x ≤ x * q / d ∧ x * q / d ≤ 0) := by
  constructor
  · intro hx
    refine ⟨Int.ediv_nonneg (Int.mul_nonneg hx hq.1) (by omega), ?_⟩
    have h1 : x * q ≤ x * d := Int.mul_le_mul_of_nonneg_left hq.2 hx
    have h2 := Int.ediv_le_ediv (show (0 : Int) < d by omega) h1
    rw [Int.mul_ediv_cancel _ (by omega)] at h2
    exact h2
  · intro hx
    constructor
    · have h1 : x * d ≤ x * q := Int.mul_le_mul_of_nonpos_left hx hq.2
      have h2 := Int.ediv_le_ediv (show (0 : Int) < d by omega) h1
      rw [Int.mul_ediv_cancel _ (by omega)] at h2
      exact h2
    · have h1 : x * q ≤ 0 := Int.mul_nonpos_of_nonpos_of_nonneg hx hq.1
      have h2 := Int.ediv_le_ediv (show (0 : Int) < d by omega) h1
      simpa using h2

/-- Smoothed numbers. -/
def ewE (q d : Int) (s : List Int) : Nat → Int
  | 0 => 64 * s.getD 0 0
  | k + 1 => ewE q d s k + (64 * s.getD k 0 - ewE q d s k) * q / d
theorem ewE_bd {q d : Int} {s : List Int} (hq : 0 ≤ q ∧ q ≤ d) (hd : 1 ≤ d) (h : ∀ k, k < s.length → -1000000 ≤ s.getD k 0 ∧ s.getD k 0 ≤ 1000000) : ∀ k, k ≤ s.length → -64000000 ≤ ewE q d s k ∧ ewE q d s k ≤ 64000000 := by
  intro k
  induction k with
  | zero =>
    intro _
    by_cases h0 : 0 < s.length
    · have := h 0 h0; rw [ewE]; omega
    · have : s = [] := List.length_eq_zero_iff.1 (by omega)
      subst this; simp [ewE]
  | succ k ih =>
    intro hk
    have h1 := ih (by omega)
    have h2 := h k (by omega)
    rw [ewE]
    obtain ⟨e, he⟩ : ∃ e, e = ewE q d s k := ⟨_, rfl⟩
    obtain ⟨x, hx⟩ : ∃ x, x = 64 * s.getD k 0 - e := ⟨_, rfl⟩
    rw [← he] at h1 ⊢
    rw [← hx]
    have h3 := down_between (x := x) hq hd
    rcases Int.le_total 0 x with h4 | h4
    · have := h3.1 h4; omega
    · have := h3.2 h4; omega
def ewC (q d : Int) (s : List Int) : Int := if chF s = 0 then (if (1 ≤ d ∧ d ≤ 1000) ∧ (0 ≤ q ∧ q ≤ d) then 0 else 1) else chF s
def ewL (q d : Int) (s : List Int) : List Int := if ewC q d s = 0 then rgL (fun j => ewE q d s (j + 1)) s.length else []
theorem ewC_zero {q d : Int} {s : List Int} (h : ewC q d s = 0) : chF s = 0 := by
  unfold ewC at h
  split at h
  · assumption
  · assumption
theorem ewL_len (q d : Int) (s : List Int) : (ewL q d s).length ≤ 200 := by
  unfold ewL
  split
  · rename_i h; rw [rgL_len]; exact (chL_good (ewC_zero h)).1
  · simp

/-- Wear. -/
def weE (m : Int) (s : List Int) : Nat → Int
  | 0 => 0
  | k + 1 => if m < weE m s k + s.getD k 0 then s.getD k 0 else weE m s k + s.getD k 0
theorem weE_bd {m : Int} {s : List Int} (h : ∀ k, k < s.length → 0 ≤ s.getD k 0 ∧ s.getD k 0 ≤ 1000000) : ∀ k, k ≤ s.length → 0 ≤ weE m s k ∧ weE m s k ≤ 1000000 * (k : Int) := by
  intro k
  induction k with
  | zero => intro _; simp [weE]
  | succ k ih =>
    intro hk
    have h1 := ih (by omega)
    have h2 := h k (by omega)
    rw [weE]
    split <;> omega
def weC (m : Int) (s : List Int) : Int := if chL 0 1000000 s = 0 then (if 1 ≤ m ∧ m ≤ 1000000 then 0 else 3) else chL 0 1000000 s
def weL (m : Int) (s : List Int) : List Int := if weC m s = 0 then rgL (fun j => weE m s (j + 1)) s.length else []
theorem weC_zero {m : Int} {s : List Int} (h : weC m s = 0) : chL 0 1000000 s = 0 := by
  unfold weC at h
  split at h
  · assumption
  · assumption
theorem weL_len (m : Int) (s : List Int) : (weL m s).length ≤ 200 := by
  unfold weL
  split
  · rename_i h; rw [rgL_len]; exact (chL_good (weC_zero h)).1
  · simp

/-- The nearest whole number; of two as near the one of the greater size. -/
def nqV (a b : Int) : Int := if a < 0 then -((2 * (-a) + b) / (2 * b)) else (2 * a + b) / (2 * b)
theorem nq_pos {x n d : Int} (hx : 0 ≤ x) (hn : 1 ≤ n ∧ n ≤ d) : 0 ≤ (2 * (x * n) + d) / (2 * d) ∧ (2 * (x * n) + d) / (2 * d) ≤ x := by
  have h0 : 0 ≤ x * n := Int.mul_nonneg hx (by omega)
  have h1 : x * n ≤ x * d := Int.mul_le_mul_of_nonneg_left hn.2 hx
  refine ⟨Int.ediv_nonneg (by omega) (by omega), ?_⟩
  have h3 : (2 * (x * n) + d) / (2 * d) < x + 1 := by
    refine Int.ediv_lt_of_lt_mul (by omega) ?_
    have : (x + 1) * (2 * d) = 2 * (x * d) + 2 * d := by grind
    omega
  omega
theorem nq_between {x n d : Int} (hn : 1 ≤ n ∧ n ≤ d) : (0 ≤ x → 0 ≤ nqV (x * n) d ∧ nqV (x * n) d ≤ x) ∧ (x ≤ 0 → x ≤ nqV (x * n) d ∧ nqV (x * n) d ≤ 0) := by
  constructor
  · intro hx
    have h0 : 0 ≤ x * n := Int.mul_nonneg hx (by omega)
    rw [nqV, if_neg (by omega)]
    exact nq_pos hx hn
  · intro hx
    have h0 : x * n ≤ 0 := Int.mul_nonpos_of_nonpos_of_nonneg hx (by omega)
    unfold nqV
    split
    · have h1 := nq_pos (x := -x) (by omega) hn
      rw [show -(x * n) = -x * n by grind]
      omega
    · have h1 : x * n = 0 := by omega
      have h2 : x = 0 := by
        rcases Int.mul_eq_zero.1 h1 with h | h
        · exact h
        · omega
      rw [h1, h2]
      have : (2 * 0 + d) / (2 * d) = 0 := Int.ediv_eq_zero_of_lt (by omega) (by omega)
      omega
/-- Inputs and errors of a loop. -/
def luE (T N D S : Int) (s : List Int) : Nat → Int
  | 0 => S
  | k + 1 => luE T N D S s k - nqV ((luE T N D S s k + s.getD k 0 - T) * N) D
def leE (T N D S : Int) (s : List Int) (k : Nat) : Int := luE T N D S s k + s.getD k 0 - T
theorem luE_bd {T N D S : Int} {s : List Int} (hl : loF T N D S = 0) (h : ∀ k, k < s.length → -1000000 ≤ s.getD k 0 ∧ s.getD k 0 ≤ 1000000) : ∀ k, k ≤ s.length → -(1000000 + 4000000 * (k : Int)) ≤ luE T N D S s k ∧ luE T N D S s k ≤ 1000000 + 4000000 * (k : Int) := by
  have hg := loF_good hl
  intro k
  induction k with
  | zero => intro _; rw [luE]; omega
  | succ k ih =>
    intro hk
    have h1 := ih (by omega)
    have h2 := h k (by omega)
    rw [luE]
    obtain ⟨u, hu⟩ : ∃ e, e = luE T N D S s k := ⟨_, rfl⟩
    obtain ⟨x, hx⟩ : ∃ x, x = u + s.getD k 0 - T := ⟨_, rfl⟩
    rw [← hu] at h1 ⊢
    rw [← hx]
    have h3 := nq_between (x := x) hg.2.1
    rcases Int.le_total 0 x with h4 | h4
    · have := h3.1 h4; omega
    · have := h3.2 h4; omega
def ruC (T N D S : Int) (s : List Int) : Int := if loF T N D S = 0 then chF s else loF T N D S
def ruI (T N D S : Int) (s : List Int) : List Int := if ruC T N D S s = 0 then rgL (luE T N D S s) s.length else []
def ruE (T N D S : Int) (s : List Int) : List Int := if ruC T N D S s = 0 then rgL (leE T N D S s) s.length else []
theorem ruC_zero {T N D S : Int} {s : List Int} (h : ruC T N D S s = 0) : loF T N D S = 0 ∧ chF s = 0 := by
  unfold ruC at h
  split at h
  · exact ⟨by assumption, h⟩
  · rename_i h1; exact absurd h h1
theorem ru_len (T N D S : Int) (s : List Int) : (ruI T N D S s).length ≤ 200 ∧ (ruE T N D S s).length ≤ 200 := by
  unfold ruI ruE
  split
  · rename_i h; rw [rgL_len, rgL_len]; exact ⟨(chL_good (ruC_zero h).2).1, (chL_good (ruC_zero h).2).1⟩
  · simp

/-- An alarm: its place, and the rule. -/
structure Alm where
  a : Int
  r : Int
/-- Two sums that tell. -/
def mx0 (x : Int) : Int := if 0 < x then x else 0
def cuS (c sl m : Int) (s : List Int) : Nat → Int × Int
  | 0 => (0, 0)
  | k + 1 =>
    let u := mx0 ((cuS c sl m s k).1 + (s.getD k 0 - c) - sl)
    let l := mx0 ((cuS c sl m s k).2 - (s.getD k 0 - c) - sl)
    (if m < u then 0 else u, if m < l then 0 else l)
def cuU (c sl m : Int) (s : List Int) (k : Nat) : Int := mx0 ((cuS c sl m s k).1 + (s.getD k 0 - c) - sl)
def cuW (c sl m : Int) (s : List Int) (k : Nat) : Int := mx0 ((cuS c sl m s k).2 - (s.getD k 0 - c) - sl)
def cuA (c sl m : Int) (s : List Int) : Nat → List Alm
  | 0 => []
  | k + 1 => (cuA c sl m s k ++ (if m < cuU c sl m s k then [⟨(k : Int), 1⟩] else [])) ++ (if m < cuW c sl m s k then [⟨(k : Int), 2⟩] else [])
theorem cuS_succ (c sl m : Int) (s : List Int) (k : Nat) : cuS c sl m s (k + 1) = (if m < cuU c sl m s k then 0 else cuU c sl m s k, if m < cuW c sl m s k then 0 else cuW c sl m s k) := rfl
theorem mx0_nn (x : Int) : 0 ≤ mx0 x := by unfold mx0; split <;> omega
theorem cuS_bd {c sl m : Int} {s : List Int} (hm : 1 ≤ m ∧ m ≤ 1000000) : ∀ k, (0 ≤ (cuS c sl m s k).1 ∧ (cuS c sl m s k).1 ≤ 1000000) ∧ (0 ≤ (cuS c sl m s k).2 ∧ (cuS c sl m s k).2 ≤ 1000000) := by
  intro k
  cases k with
  | zero => simp [cuS]
  | succ k =>
    rw [cuS_succ]
    have h1 := mx0_nn ((cuS c sl m s k).1 + (s.getD k 0 - c) - sl)
    have h2 := mx0_nn ((cuS c sl m s k).2 - (s.getD k 0 - c) - sl)
    refine ⟨?_, ?_⟩
    · show 0 ≤ (if m < cuU c sl m s k then 0 else cuU c sl m s k) ∧ _
      unfold cuU
      split <;> omega
    · show 0 ≤ (if m < cuW c sl m s k then 0 else cuW c sl m s k) ∧ _
      unfold cuW
      split <;> omega
theorem cuA_len (c sl m : Int) (s : List Int) (k : Nat) : (cuA c sl m s k).length ≤ 2 * k := by
  induction k with
  | zero => simp [cuA]
  | succ k ih =>
    rw [cuA, List.length_append, List.length_append]
    split <;> split <;> simp <;> omega
def cuC (c sl m : Int) (s : List Int) : Int := if chF s = 0 then (if (-1000000 ≤ c ∧ c ≤ 1000000) ∧ (0 ≤ sl ∧ sl ≤ 1000000) ∧ (1 ≤ m ∧ m ≤ 1000000) then 0 else 3) else chF s
def cuL (c sl m : Int) (s : List Int) : List Alm := if cuC c sl m s = 0 then cuA c sl m s s.length else []
theorem cuC_zero {c sl m : Int} {s : List Int} (h : cuC c sl m s = 0) : chF s = 0 ∧ (-1000000 ≤ c ∧ c ≤ 1000000) ∧ (0 ≤ sl ∧ sl ≤ 1000000) ∧ (1 ≤ m ∧ m ≤ 1000000) := by
  unfold cuC at h
  split at h
  · rename_i h1
    split at h
    · rename_i h2; exact ⟨h1, h2⟩
    · cases h
  · rename_i h1; exact absurd h h1
theorem cuL_len (c sl m : Int) (s : List Int) : (cuL c sl m s).length ≤ 400 := by
  unfold cuL
  split
  · rename_i h; have := cuA_len c sl m s s.length; have := (chL_good (cuC_zero h).1).1; omega
  · simp

/-- The bound of a loop. -/
theorem up_down {x n : Int} (hn : 1 ≤ n) : -((-x) / n) = (x + n - 1) / n := by
  have h1 := Int.mul_ediv_add_emod (-x) n
  have h2 := Int.emod_nonneg (-x) (show n ≠ 0 by omega)
  have h3 := Int.emod_lt_of_pos (-x) (show (0 : Int) < n by omega)
  obtain ⟨q, hq⟩ : ∃ q, q = (-x) / n := ⟨_, rfl⟩
  obtain ⟨r, hr⟩ : ∃ r, r = (-x) % n := ⟨_, rfl⟩
  rw [← hq, ← hr] at h1
  rw [← hr] at h2 h3
  rw [← hq]
  have h4 : x + n - 1 = (n - 1 - r) + n * (-q) := by grind
  rw [h4, Int.add_mul_ediv_left _ _ (by omega), Int.ediv_eq_zero_of_lt (by omega) (by omega)]
  omega
def bnC (T N D S f st : Int) : Int := if loF T N D S = 0 then (if (0 ≤ f ∧ f ≤ 1000000) ∧ (0 ≤ st ∧ st ≤ 1000000) then 0 else 3) else loF T N D S
def bnV (T N D S f st : Int) : Int := if bnC T N D S f st = 0 then (if f < ((st + 1) * D + N - 1) / N then ((st + 1) * D + N - 1) / N else f) else 0

end Go.Proofs.Ytkacfjbhkgdpdaa
