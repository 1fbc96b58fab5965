/- Proved here: books of matter balance: what was there is what is left and what is booked as gone. No condition on the program. -/
import Derived.Test.YtceljakmjddgbabLyM
namespace Go.Proofs.Ytceljakmjddgbab
open Go.RowKit
set_option linter.unusedVariables false
set_option linter.unusedSimpArgs false

/-- So much of the material j + 1. -/
def amt (m t : Int) (j : Nat) : Int := if (j : Int) + 1 = m then t else 0
theorem amt_add (m a b : Int) (j : Nat) : amt m (a + b) j = amt m a j + amt m b j := by unfold amt; split <;> omega
theorem amt_def (m t : Int) (j : Nat) : (if (j : Int) + 1 = m then t else 0) = amt m t j := rfl
theorem amt_zero (m : Int) (j : Nat) : amt m 0 j = 0 := by unfold amt; split <;> rfl
def colA (c : List Flm) (j : Nat) : Nat → Int
  | 0 => 0
  | k + 1 => colA c j k + amt (fat c k).m (fat c k).t j
theorem colA_congr {c d : List Flm} {j n : Nat} (h : ∀ k, k < n → fat c k = fat d k) : colA c j n = colA d j n := by
  induction n with
  | zero => rfl
  | succ n ih => rw [colA, colA, ih fun k hk => h k (by omega), h n (by omega)]
/-- Twelve numbers. -/
theorem mtC_at {xs : List Int} {c : List Flm} (hl : xs.length = 12) (hc : ∀ k, k < c.length → 1 ≤ (fat c k).m ∧ (fat c k).m ≤ 12) {k : Nat} (hk : k ≤ c.length) (j : Nat) : (mtC xs c k).length = 12 ∧ (mtC xs c k).getD j 0 = xs.getD j 0 + colA c j k := by
  induction k with
  | zero => rw [mtC, colA]; exact ⟨hl, by omega⟩
  | succ k ih =>
    obtain ⟨h1, h2⟩ := ih (by omega)
    have h3 := hc k (by omega)
    rw [mtC, colA]
    refine ⟨by rw [addM_len]; exact h1, ?_⟩
    rw [addM_at h1 h3.1 h3.2, h2]
    unfold amt
    omega
/-- A film upon a column, in the book. -/
theorem putF_col (c : List Flm) (f : Flm) (j : Nat) : colA (putF c f) j (putF c f).length = colA c j c.length + amt f.m f.t j := by
  unfold putF
  split
  · rename_i h; rw [h, amt_zero]; omega
  · split
    · rename_i h
      obtain ⟨n, hn⟩ : ∃ n, c.length = n + 1 := ⟨c.length - 1, by omega⟩
      rw [List.length_set, hn, colA, colA, colA_congr (c := c.set _ _) (d := c) fun k hk => by rw [fat_set (by omega), if_neg (by omega)]]
      rw [fat_set (by omega), if_pos (by omega)]
      have e : n + 1 - 1 = n := Nat.add_sub_cancel ..
      have h2 := h.2
      rw [hn, e] at h2
      rw [e]
      show colA c j n + amt f.m ((fat c n).t + f.t) j = _
      rw [amt_add, h2]
      omega
    · rw [List.length_append, List.length_singleton, colA, colA_congr (c := c ++ [f]) (d := c) fun k hk => by rw [fat_snoc, if_neg (by omega)]]
      rw [fat_snoc, if_pos rfl]
/-- What was there of a layer, and what is lost. -/
def origL : Lay → Flm
  | .who m t => ⟨m, t⟩
  | .thi m t _ => ⟨m, t⟩
  | .gon m t => ⟨m, t⟩
def lostL : Lay → Int
  | .who _ _ => 0
  | .thi _ _ b => b
  | .gon _ t => t
theorem left_lost (l : Lay) (j : Nat) : amt (origL l).m (origL l).t j = amt (leftL l).m (leftL l).t j + amt (origL l).m (lostL l) j := by
  cases l with
  | who m t => simp only [origL, leftL, lostL]; rw [amt_zero]; omega
  | thi m t b => simp only [origL, leftL, lostL]; rw [← amt_add]; congr 1; omega
  | gon m t => simp only [origL, leftL, lostL]; rw [amt_zero]; omega
theorem bookL_at {xs : List Int} (hl : xs.length = 12) {l : Lay} (ho : okL l) (j : Nat) : (bookL xs l).length = 12 ∧ (bookL xs l).getD j 0 = xs.getD j 0 + amt (origL l).m (lostL l) j := by
  cases l with
  | who m t => exact ⟨hl, by simp only [bookL, lostL]; rw [amt_zero]; omega⟩
  | thi m t b =>
    simp only [okL] at ho
    refine ⟨by simp only [bookL]; rw [addM_len]; exact hl, ?_⟩
    simp only [bookL, origL, lostL]
    rw [addM_at hl ho.1 ho.2.1, amt_def]
  | gon m t =>
    simp only [okL] at ho
    refine ⟨by simp only [bookL]; rw [addM_len]; exact hl, ?_⟩
    simp only [bookL, origL, lostL]
    rw [addM_at hl ho.1 ho.2.1, amt_def]
def leftA (ls : List Lay) (j : Nat) : Nat → Int
  | 0 => 0
  | k + 1 => leftA ls j k + amt (leftL (lat ls k)).m (leftL (lat ls k)).t j
def lostA (ls : List Lay) (j : Nat) : Nat → Int
  | 0 => 0
  | k + 1 => lostA ls j k + amt (origL (lat ls k)).m (lostL (lat ls k)) j
theorem putA_col (ls : List Lay) (j k : Nat) : colA (putA ls k) j (putA ls k).length = leftA ls j k := by
  induction k with
  | zero => simp [putA, colA, leftA]
  | succ k ih => rw [putA, putF_col, ih, leftA]
theorem bkA_at {xs : List Int} {ls : List Lay} (hl : xs.length = 12) (ho : ∀ k, k < ls.length → okL (lat ls k)) {k : Nat} (hk : k ≤ ls.length) (j : Nat) : (bkA xs ls k).length = 12 ∧ (bkA xs ls k).getD j 0 = xs.getD j 0 + lostA ls j k := by
  induction k with
  | zero => rw [bkA, lostA]; exact ⟨hl, by omega⟩
  | succ k ih =>
    obtain ⟨h1, h2⟩ := ih (by omega)
    obtain ⟨h3, h4⟩ := bookL_at h1 (ho k (by omega)) j
    rw [bkA, lostA]
    exact ⟨h3, by rw [h4, h2]; omega⟩
theorem orig_col {c : List Flm} {ls : List Lay} {k : Nat} (h : ∀ q, q < k → origL (lat ls q) = fat c q) (j : Nat) : colA c j k = leftA ls j k + lostA ls j k := by
  induction k with
  | zero => simp [colA, leftA, lostA]
  | succ k ih =>
    rw [colA, leftA, lostA, ih fun q hq => h q (by omega), ← h k (by omega), left_lost]
    omega
/-- The layers of a step, film by film. -/
structure LyOk (s : List (List Flm)) (lays : Nat → List Lay) : Prop where
  len : ∀ i, i < s.length → (lays i).length = (s.getD i []).length
  ok : ∀ i, i < s.length → ∀ k, k < (lays i).length → okL (lat (lays i) k)
  org : ∀ i, i < s.length → ∀ k, k < (lays i).length → origL (lat (lays i) k) = fat (s.getD i []) k
theorem okL.mat {l : Lay} (h : okL l) : 1 ≤ (leftL l).m ∧ (leftL l).m ≤ 12 := by
  cases l <;> simp only [okL, leftL] at * <;> omega
theorem putF_mat {c : List Flm} {f : Flm} (hc : ∀ k, k < c.length → 1 ≤ (fat c k).m ∧ (fat c k).m ≤ 12) (hf : 1 ≤ f.m ∧ f.m ≤ 12) : ∀ k, k < (putF c f).length → 1 ≤ (fat (putF c f) k).m ∧ (fat (putF c f) k).m ≤ 12 := by
  intro k hk
  unfold putF at hk ⊢
  split
  · rename_i h; rw [if_pos h] at hk; exact hc k hk
  · rename_i h
    rw [if_neg h] at hk
    split
    · rename_i h4
      rw [if_pos h4, List.length_set] at hk
      rw [fat_set (by omega)]
      split
      · exact hf
      · exact hc k hk
    · rename_i h4
      rw [if_neg h4, List.length_append, List.length_singleton] at hk
      rw [fat_snoc]
      split
      · exact hf
      · exact hc k (by omega)
theorem putA_mat {ls : List Lay} (ho : ∀ k, k < ls.length → okL (lat ls k)) {n : Nat} (hn : n ≤ ls.length) : ∀ k, k < (putA ls n).length → 1 ≤ (fat (putA ls n) k).m ∧ (fat (putA ls n) k).m ≤ 12 := by
  induction n with
  | zero => intro k hk; simp [putA] at hk
  | succ n ih => rw [putA]; exact putF_mat (ih (by omega)) (ho n (by omega)).mat
theorem books {s : List (List Flm)} {lays : Nat → List Lay} (hs : GS s) (h : LyOk s lays) {i : Nat} (hi : i ≤ s.length) (j : Nat) :
    (mtS s i).length = 12 ∧ (mtS (aftS lays s.length) i).length = 12 ∧ (goA lays i).length = 12 ∧ (mtS s i).getD j 0 - (mtS (aftS lays s.length) i).getD j 0 = (goA lays i).getD j 0 := by
  induction i with
  | zero =>
    rw [mtS, mtS, goA]
    refine ⟨by simp, by simp, by simp, ?_⟩
    have h0 := BM.zero
    have h1 := h0.lo j
    have h2 := h0.hi j
    omega
  | succ i ih =>
    obtain ⟨h1, h2, h3, h4⟩ := ih (by omega)
    have hil : i < s.length := by omega
    have hg := hs.col i hil
    have ha : (aftS lays s.length).getD i [] = putA (lays i) (lays i).length := aftS_at lays hil
    obtain ⟨a1, a2⟩ := mtC_at h1 (fun k hk => hg.m hk) (Nat.le_refl (s.getD i []).length) j
    obtain ⟨b1, b2⟩ := mtC_at (c := putA (lays i) (lays i).length) h2 (putA_mat (h.ok i hil) (Nat.le_refl _)) (Nat.le_refl _) j
    obtain ⟨c1, c2⟩ := bkA_at h3 (h.ok i hil) (Nat.le_refl _) j
    rw [mtS, mtS, goA, ha]
    refine ⟨a1, b1, c1, ?_⟩
    rw [a2, b2, c2, putA_col, ← h.len i hil, orig_col (h.org i hil)]
    omega
/-- Differences, number by number. -/
def lsL (xs ys : List Int) : List Int := (List.range xs.length).map fun i => xs.getD i 0 - ys.getD i 0
theorem lsL_len (xs ys : List Int) : (lsL xs ys).length = xs.length := by simp [lsL]
theorem books_all {s : List (List Flm)} {lays : Nat → List Lay} (hs : GS s) (h : LyOk s lays) : lsL (mtS s s.length) (mtS (aftS lays s.length) s.length) = goA lays s.length := by
  obtain ⟨h1, h2, h3, _⟩ := books hs h (Nat.le_refl _) 0
  apply List.ext_getElem
  · rw [lsL_len]; omega
  · intro j hj1 hj2
    have h4 := (books hs h (Nat.le_refl _) j).2.2.2
    simp only [lsL, List.getElem_map, List.getElem_range]
    rw [h4]
    simp [hj2]
/-- What is left may stand in a book. -/
theorem aft_ws {s : List (List Flm)} {lays : Nat → List Lay} (hs : GS s) (h : LyOk s lays) : WS (aftS lays s.length) := by
  refine ⟨by rw [aftS_len]; exact hs.len, fun i hi => ?_⟩
  rw [aftS_len] at hi
  rw [aftS_at lays hi]
  have hb := putA_bound (h.ok i hi) (Nat.le_refl _)
  refine ⟨Nat.le_trans (putA_len _ _) (by rw [h.len i hi]; exact (hs.col i hi).len), fun k hk => ⟨(putA_mat (h.ok i hi) (Nat.le_refl _) k hk).1, (putA_mat (h.ok i hi) (Nat.le_refl _) k hk).2, hb.1 k hk⟩, ?_⟩
  have key : ∀ k, k ≤ (lays i).length → topC (putA (lays i) k) ≤ topA (s.getD i []) k := by
    intro k
    induction k with
    | zero => intro _; simp [putA, topC, topA]
    | succ k ih =>
      intro hk
      have h1 := ih (by omega)
      rw [putA, putF_top, topA, ← h.org i hi k (by omega)]
      have h2 := h.ok i hi k (by omega)
      have h3 : (leftL (lat (lays i) k)).t ≤ (origL (lat (lays i) k)).t := by
        generalize lat (lays i) k = l at h2
        cases l <;> simp only [okL, leftL, origL] at * <;> omega
      omega
  have h1 := key _ (Nat.le_refl _)
  rw [h.len i hi] at h1
  rw [h.len i hi]
  exact Int.le_trans h1 (hs.col i hi).top

end Go.Proofs.Ytceljakmjddgbab
