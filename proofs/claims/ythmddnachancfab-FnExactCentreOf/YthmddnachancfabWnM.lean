/- Proved here: pass maps and windows: what is answered. No condition on the program. -/
import Derived.Test.YthmddnachancfabGvM
import Derived.Test.YthmddnachancfabGtB
namespace Go.Proofs.Ythmddnachancfab
open Go.RowKit
set_option linter.unusedVariables false
set_option linter.unusedSimpArgs false

def hiR : List Int → Bool
  | [] => false
  | x :: t => decide (1 < x) || hiR t
def hiG : List (List Int) → Bool
  | [] => false
  | r :: t => hiR r || hiG t
theorem hiR_step {s : List Int} {k : Nat} (h : k < s.length) : hiR (s.drop k) = (decide (1 < s.getD k 0) || hiR (s.drop (k + 1))) := by
  rw [List.drop_eq_getElem_cons h, hiR, getD_lt h]
theorem hiG_step {s : List (List Int)} {k : Nat} (h : k < s.length) : hiG (s.drop k) = (hiR (s.getD k []) || hiG (s.drop (k + 1))) := by
  rw [List.drop_eq_getElem_cons h, hiG, getD_lt h]
/-- The fault of a pass map. -/
def pmC (ls : List (List Int)) : Int := if gfC ls 1000000 = 0 then (if hiG ls = true then 1 else 0) else gfC ls 1000000
theorem hiR_none {s : List Int} (h : ¬ hiR s = true) : ∀ x ∈ s, x ≤ 1 := by
  induction s with
  | nil => intro x hx; cases hx
  | cons a t ih =>
    rw [hiR, Bool.or_eq_true, decide_eq_true_eq] at h
    intro x hx
    rcases List.mem_cons.1 hx with rfl | hx
    · have : ¬ 1 < x := fun e => h (Or.inl e)
      omega
    · exact ih (fun e => h (Or.inr e)) x hx
theorem hiR_some {s : List Int} (h : hiR s = true) : ∃ x ∈ s, 1 < x := by
  induction s with
  | nil => cases h
  | cons a t ih =>
    rw [hiR, Bool.or_eq_true, decide_eq_true_eq] at h
    rcases h with h | h
    · exact ⟨a, by simp, h⟩
    · obtain ⟨x, hx, h1⟩ := ih h
      exact ⟨x, by simp [hx], h1⟩
theorem hiG_none {ls : List (List Int)} (h : ¬ hiG ls = true) : ∀ r ∈ ls, ∀ x ∈ r, x ≤ 1 := by
  induction ls with
  | nil => intro x hx; cases hx
  | cons a t ih =>
    rw [hiG, Bool.or_eq_true] at h
    intro x hx
    rcases List.mem_cons.1 hx with rfl | hx
    · exact hiR_none fun e => h (Or.inl e)
    · exact ih (fun e => h (Or.inr e)) x hx
theorem hiG_some {ls : List (List Int)} (h : hiG ls = true) : ∃ r ∈ ls, ∃ x ∈ r, 1 < x := by
  induction ls with
  | nil => cases h
  | cons a t ih =>
    rw [hiG, Bool.or_eq_true] at h
    rcases h with h | h
    · exact ⟨a, by simp, hiR_some h⟩
    · obtain ⟨r, hr, h1⟩ := ih h
      exact ⟨r, by simp [hr], h1⟩
theorem pmC_one {ls : List (List Int)} (h : GG 1000000 ls) : (gfC ls 1 = 0 ↔ ¬ hiG ls = true) := by
  constructor
  · intro h1 h2
    obtain ⟨r, hr, x, hx, h3⟩ := hiG_some h2
    have := (gfC_good h1).nu r hr x hx
    omega
  · intro h1
    refine GG.fine ⟨h.h0, h.h1, h.w0, h.w1, h.wd, fun r hr x hx => ⟨(h.nu r hr x hx).1, hiG_none h1 r hr x hx⟩⟩
theorem pmC_spec (ls : List (List Int)) : pmC ls = if gfC ls 1000000 = 0 then (if gfC ls 1 = 0 then 0 else 1) else gfC ls 1000000 := by
  unfold pmC
  by_cases h : gfC ls 1000000 = 0
  · rw [if_pos h, if_pos h]
    have := pmC_one (gfC_good h)
    by_cases h1 : hiG ls = true
    · rw [if_pos h1, if_neg (fun e => this.1 e h1)]
    · rw [if_neg h1, if_pos (this.2 h1)]
  · rw [if_neg h, if_neg h]
theorem pmC_good {ls : List (List Int)} (h : pmC ls = 0) : GG 1 ls := by
  unfold pmC at h
  split at h
  · rename_i h1
    split at h
    · cases h
    · rename_i h2
      exact gfC_good ((pmC_one (gfC_good h1)).2 h2)
  · rename_i h1; exact absurd h h1
theorem pmC_gf {ls : List (List Int)} (h : pmC ls = 0) : gfC ls 1000000 = 0 := by
  unfold pmC at h
  split at h
  · assumption
  · exact h
theorem GG.bit {ls : List (List Int)} (h : GG 1 ls) (j k : Nat) : at2 ls j k = 0 ∨ at2 ls j k = 1 := by
  have := h.at j k
  unfold at2
  omega

/-- What is 1. -/
def oneP (ls : List (List Int)) (y x : Nat) : Bool := at2 ls y x == 1

/-- A map by what is good. -/
def mpL (n W : Nat) (P : Nat → Nat → Bool) : List (List Int) := (List.range n).map fun y => (List.range W).map fun x => if P y x = true then 1 else 0
theorem mpL_row {n W : Nat} {P : Nat → Nat → Bool} {j : Nat} (h : j < n) : (mpL n W P).getD j [] = (List.range W).map fun x => if P j x = true then 1 else 0 := by
  unfold mpL
  rw [getD_lt (by simpa using h)]
  simp
theorem mpL_sh (n W : Nat) (P : Nat → Nat → Bool) : Sh n W (mpL n W P) := by
  refine ⟨by simp [mpL], fun j hj => ?_⟩
  rw [mpL_row hj]; simp
theorem mpL_at {n W : Nat} {P : Nat → Nat → Bool} {j m : Nat} (hj : j < n) (hm : m < W) : at2 (mpL n W P) j m = if P j m = true then 1 else 0 := by
  unfold at2
  rw [mpL_row hj, getD_lt (by simpa using hm)]
  simp
theorem sh_tot {n W : Nat} {L : List (List Int)} (h : Sh n W L) {i : Nat} (hi : i ≤ n) : totR L i = i * W := by
  induction i with
  | zero => simp [totR]
  | succ i ih => rw [totR, ih (by omega), h.wd i (by omega), Nat.succ_mul]
theorem sh_sm {n W : Nat} {L : List (List Int)} (h : Sh n W L) (hn : n ≤ 16) (hW : W ≤ 16) : SmR L := by
  refine ⟨by rw [h.len]; omega, ?_⟩
  rw [h.len, sh_tot h (Nat.le_refl _)]
  have := Nat.mul_le_mul hn hW
  omega
theorem nil_sm' : SmR [] := ⟨by simp, by simp [totR]⟩

def ppC (ls : List (List Int)) (lo hi : Int) : Int := if gfC ls 1000000 = 0 then (if hi < lo then 3 else 0) else gfC ls 1000000
def ppL (ls : List (List Int)) (lo hi : Int) : List (List Int) := if ppC ls lo hi = 0 then mpL ls.length (ls.getD 0 []).length (fun y x => decide (lo ≤ at2 ls y x ∧ at2 ls y x ≤ hi)) else []
theorem ppC_gf {ls : List (List Int)} {lo hi : Int} (h : ppC ls lo hi = 0) : GG 1000000 ls := by
  unfold ppC at h
  split at h
  · exact gfC_good (by assumption)
  · exact gfC_good h
theorem mpL_sm {M : Int} {ls : List (List Int)} (h : GG M ls) (P : Nat → Nat → Bool) : SmR (mpL ls.length (ls.getD 0 []).length P) := sh_sm (mpL_sh _ _ _) h.h1 h.w1
theorem ppL_sm (ls : List (List Int)) (lo hi : Int) : SmR (ppL ls lo hi) := by
  unfold ppL; split
  · exact mpL_sm (ppC_gf (by assumption)) _
  · exact nil_sm'
def bpC (a b : List (List Int)) : Int := if gfC a 1000000 = 0 then (if gfC b 1000000 = 0 then (if a.length = b.length ∧ (a.getD 0 []).length = (b.getD 0 []).length ∧ pmC a = 0 ∧ pmC b = 0 then 0 else 1) else gfC b 1000000) else gfC a 1000000
def bpL (a b : List (List Int)) : List (List Int) := if bpC a b = 0 then mpL a.length (a.getD 0 []).length (fun y x => oneP a y x && oneP b y x) else []
theorem bpC_gf {a b : List (List Int)} (h : bpC a b = 0) : GG 1000000 a := by
  unfold bpC at h
  split at h
  · exact gfC_good (by assumption)
  · exact gfC_good h
theorem bpL_sm (a b : List (List Int)) : SmR (bpL a b) := by
  unfold bpL; split
  · exact mpL_sm (bpC_gf (by assumption)) _
  · exact nil_sm'
/-- How many are good. -/
def psV (L : List (List Int)) : Int := totV L L.length

/-- Sums over what has been made. -/
def rsum (p : Nat → Int) : Nat → Int
  | 0 => 0
  | k + 1 => rsum p k + p k
theorem sumI_rsum {s : List Int} {p : Nat → Int} : ∀ {k : Nat}, (∀ m, m < k → s.getD m 0 = p m) → sumI s k = rsum p k
  | 0, _ => rfl
  | k + 1, h => by rw [sumI, rsum, sumI_rsum (fun m hm => h m (by omega)), h k (by omega)]
theorem totV_rsum {n W : Nat} {L : List (List Int)} (h : Sh n W L) : ∀ {i : Nat}, i ≤ n → totV L i = rsum (fun y => rsum (fun x => at2 L y x) W) i
  | 0, _ => rfl
  | i + 1, hi => by
    rw [totV, rsum, totV_rsum h (by omega), h.wd i (by omega)]
    rw [sumI_rsum (p := fun x => at2 L i x) (fun m _ => rfl)]
theorem rsum_bd {p : Nat → Int} (h : ∀ m, 0 ≤ p m ∧ p m ≤ 1) : ∀ k, 0 ≤ rsum p k ∧ rsum p k ≤ k
  | 0 => by simp [rsum]
  | k + 1 => by have := rsum_bd h k; have := h k; rw [rsum]; omega

/-- The longest run, and the run at the end. -/
def rnF (p : Nat → Bool) : Nat → Int × Int
  | 0 => (0, 0)
  | k + 1 =>
    let r := if p k = true then (rnF p k).2 + 1 else 0
    (if r > (rnF p k).1 then r else (rnF p k).1, r)
theorem rnF_bd (p : Nat → Bool) : ∀ k, 0 ≤ (rnF p k).1 ∧ (rnF p k).1 ≤ k ∧ 0 ≤ (rnF p k).2 ∧ (rnF p k).2 ≤ k
  | 0 => by simp [rnF]
  | k + 1 => by
    have := rnF_bd p k
    simp only [rnF]
    repeat' split
    all_goals omega
theorem rnF_congr {p q : Nat → Bool} : ∀ {k : Nat}, (∀ m, m < k → p m = q m) → rnF p k = rnF q k
  | 0, _ => rfl
  | k + 1, h => by
    have ih := rnF_congr (p := p) (q := q) (k := k) (fun m hm => h m (by omega))
    simp only [rnF, ih, h k (by omega)]

def dpC (ls : List (List Int)) (row : Int) (n : Nat) : Int := if pmC ls = 0 then (if 0 ≤ row ∧ row ≤ (n : Int) - 1 then 0 else 4) else pmC ls
def dpV (ls : List (List Int)) (row : Int) : Int := if dpC ls row ls.length = 0 then (rnF (fun x => oneP ls row.toNat x) (ls.getD 0 []).length).1 else 0
def ltV (ls : List (List Int)) (col : Int) : Int := if dpC ls col (ls.getD 0 []).length = 0 then (rnF (fun y => oneP ls y col.toNat) ls.length).1 else 0

/-- A window: its area and its box. -/
structure Wnd where
  a : Int
  x0 : Int
  y0 : Int
  x1 : Int
  y1 : Int
def wz : Wnd := ⟨0, 0, 0, 0, 0⟩
def btr (b c : Wnd) : Wnd := if b.a < c.a then c else b
/-- The first place from x on, of k, that is not good. -/
def goU (p : Nat → Bool) : Nat → Nat → Nat
  | x, 0 => x
  | x, k + 1 => if p x = true then goU p (x + 1) k else x
theorem goU_bd (p : Nat → Bool) : ∀ (k x : Nat), x ≤ goU p x k ∧ goU p x k ≤ x + k
  | 0, x => by simp [goU]
  | k + 1, x => by
    have := goU_bd p k (x + 1)
    rw [goU]; split <;> omega
/-- How far the rows reach that begin at x0, y0: behind k of them. -/
def rgt (P : Nat → Nat → Bool) (W y0 x0 : Nat) : Nat → Nat
  | 0 => W
  | k + 1 => goU (P (y0 + k)) x0 (rgt P W y0 x0 k - x0)
theorem rgt_bd (P : Nat → Nat → Bool) {W y0 x0 : Nat} (h : x0 ≤ W) : ∀ k, x0 ≤ rgt P W y0 x0 k ∧ rgt P W y0 x0 k ≤ W
  | 0 => ⟨h, Nat.le_refl _⟩
  | k + 1 => by
    have h1 := rgt_bd P h (y0 := y0) k
    have h2 := goU_bd (P (y0 + k)) (rgt P W y0 x0 k - x0) x0
    rw [rgt]; omega
theorem rgt_stop (P : Nat → Nat → Bool) {W y0 x0 k : Nat} (h : x0 ≤ W) (hk : rgt P W y0 x0 k = x0) : ∀ m, rgt P W y0 x0 (k + m) = x0
  | 0 => hk
  | m + 1 => by rw [← Nat.add_assoc, rgt, rgt_stop P h hk m, Nat.sub_self, goU]
def cnd (P : Nat → Nat → Bool) (W y0 x0 k : Nat) : Wnd := ⟨((rgt P W y0 x0 (k + 1) : Int) - x0) * ((k : Int) + 1), x0, y0, rgt P W y0 x0 (k + 1), (y0 : Int) + k + 1⟩
def lfN (P : Nat → Nat → Bool) (W y0 x0 : Nat) : Nat → Wnd → Wnd
  | 0, b => b
  | k + 1, b => btr (lfN P W y0 x0 k b) (cnd P W y0 x0 k)
def rwN (P : Nat → Nat → Bool) (n W y0 : Nat) : Nat → Wnd → Wnd
  | 0, b => b
  | x + 1, b => btr (rwN P n W y0 x b) (lfN P W y0 x (n - y0) wz)
def alN (P : Nat → Nat → Bool) (n W : Nat) : Nat → Wnd
  | 0 => wz
  | y + 1 => rwN P n W y W (alN P n W y)
theorem btr_assoc (a b c : Wnd) : btr (btr a b) c = btr a (btr b c) := by
  unfold btr
  by_cases h1 : a.a < b.a
  · by_cases h2 : b.a < c.a
    · simp [h1, h2]; omega
    · simp [h1, h2]
  · by_cases h2 : b.a < c.a
    · simp [h1, h2]
    · have : ¬ a.a < c.a := by omega
      simp [h1, h2, this]
theorem btr_nn {b c : Wnd} (h : 0 ≤ b.a) : 0 ≤ (btr b c).a := by
  unfold btr; split <;> omega
theorem btr_wz {b : Wnd} (h : 0 ≤ b.a) : btr b wz = b := by
  unfold btr; rw [if_neg (by simp [wz]; omega)]
theorem lfN_nn (P : Nat → Nat → Bool) (W y0 x0 : Nat) {b : Wnd} (h : 0 ≤ b.a) : ∀ k, 0 ≤ (lfN P W y0 x0 k b).a
  | 0 => h
  | k + 1 => btr_nn (lfN_nn P W y0 x0 h k)
theorem lfN_from (P : Nat → Nat → Bool) (W y0 x0 : Nat) {b : Wnd} (h : 0 ≤ b.a) : ∀ k, lfN P W y0 x0 k b = btr b (lfN P W y0 x0 k wz)
  | 0 => (btr_wz h).symm
  | k + 1 => by rw [lfN, lfN_from P W y0 x0 h k, btr_assoc, lfN]
theorem lfN_stop (P : Nat → Nat → Bool) {W y0 x0 k : Nat} {b : Wnd} (hx : x0 ≤ W) (h : 0 ≤ b.a) (hk : rgt P W y0 x0 k = x0) : ∀ m, lfN P W y0 x0 (k + m) b = lfN P W y0 x0 k b
  | 0 => rfl
  | m + 1 => by
    rw [← Nat.add_assoc, lfN, lfN_stop P hx h hk m]
    have := lfN_nn P W y0 x0 h k
    have e : (cnd P W y0 x0 (k + m)).a = 0 := by
      unfold cnd; rw [Nat.add_assoc, rgt_stop P hx hk (m + 1)]; simp
    unfold btr; rw [if_neg (by rw [e]; omega)]
theorem rwN_nn (P : Nat → Nat → Bool) (n W y0 : Nat) {b : Wnd} (h : 0 ≤ b.a) : ∀ x, 0 ≤ (rwN P n W y0 x b).a
  | 0 => h
  | x + 1 => btr_nn (rwN_nn P n W y0 h x)
theorem alN_nn (P : Nat → Nat → Bool) (n W : Nat) : ∀ y, 0 ≤ (alN P n W y).a
  | 0 => by simp [alN, wz]
  | y + 1 => rwN_nn P n W y (alN_nn P n W y) W
/-- Corner by corner, going on from what was best. -/
theorem rwN_next (P : Nat → Nat → Bool) (n W y0 x : Nat) {b : Wnd} (h : 0 ≤ b.a) : rwN P n W y0 (x + 1) b = lfN P W y0 x (n - y0) (rwN P n W y0 x b) := by
  rw [rwN, lfN_from P W y0 x (rwN_nn P n W y0 h x)]
/-- The greatest window. -/
def lwB (ls : List (List Int)) : Wnd := alN (oneP ls) ls.length (ls.getD 0 []).length ls.length
def lwC (ls : List (List Int)) : Int := if pmC ls = 0 then (if (lwB ls).a = 0 then 4 else 0) else pmC ls
def lwW (ls : List (List Int)) : Wnd := if lwC ls = 0 then lwB ls else wz
/-- Bounds of what is best. -/
def WB (n W : Nat) (b : Wnd) : Prop := 0 ≤ b.a ∧ b.a ≤ 65536 ∧ 0 ≤ b.x0 ∧ b.x0 ≤ 16 ∧ 0 ≤ b.y0 ∧ b.y0 ≤ 16 ∧ 0 ≤ b.x1 ∧ b.x1 ≤ 16 ∧ 0 ≤ b.y1 ∧ b.y1 ≤ 64

end Go.Proofs.Ythmddnachancfab
