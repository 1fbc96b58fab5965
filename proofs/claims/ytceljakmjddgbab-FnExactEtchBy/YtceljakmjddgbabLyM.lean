/- Proved here: layers: what a step leaves of a film; columns that are put together of films; their arithmetic and how they lie. No condition on the program. -/
import Derived.Test.YtceljakmjddgbabScB
namespace Go.Proofs.Ytceljakmjddgbab
open Go.RowKit
set_option linter.unusedVariables false
set_option linter.unusedSimpArgs false

/-- A film as a step leaves it: whole, thinned, or gone. -/
inductive Lay where
  | who (m t : Int)
  | thi (m t b : Int)
  | gon (m t : Int)
def leftL : Lay → Flm
  | .who m t => ⟨m, t⟩
  | .thi m t b => ⟨m, t - b⟩
  | .gon m t => ⟨m, 0⟩
def bookL (xs : List Int) : Lay → List Int
  | .who _ _ => xs
  | .thi m _ b => addM xs m b
  | .gon m t => addM xs m t
/-- A film upon a column. -/
def putF (c : List Flm) (f : Flm) : List Flm :=
  if f.t = 0 then c else if 0 < c.length ∧ (fat c (c.length - 1)).m = f.m then c.set (c.length - 1) ⟨f.m, (fat c (c.length - 1)).t + f.t⟩ else c ++ [f]
def lat (ls : List Lay) (k : Nat) : Lay := ls.getD k (.who 0 0)
theorem lat_get {ls : List Lay} {k : Nat} (h : k < ls.length) : lat ls k = ls[k] := by simp [lat, h]
/-- The first k layers, put upon each other. -/
def putA (ls : List Lay) : Nat → List Flm
  | 0 => []
  | k + 1 => putF (putA ls k) (leftL (lat ls k))
def bkA (xs : List Int) (ls : List Lay) : Nat → List Int
  | 0 => xs
  | k + 1 => bookL (bkA xs ls k) (lat ls k)
def goA (lays : Nat → List Lay) : Nat → List Int
  | 0 => List.replicate 12 0
  | i + 1 => bkA (goA lays i) (lays i) (lays i).length
/-- The columns that a step leaves. -/
def aftS (lays : Nat → List Lay) (n : Nat) : List (List Flm) := (List.range n).map fun i => putA (lays i) (lays i).length
theorem aftS_len (lays : Nat → List Lay) (n : Nat) : (aftS lays n).length = n := by simp [aftS]
theorem aftS_at (lays : Nat → List Lay) {n i : Nat} (h : i < n) : (aftS lays n).getD i [] = putA (lays i) (lays i).length := by simp [aftS, h]

/-- A layer without a fault: what is left of it and what is lost. -/
def okL : Lay → Prop
  | .who m t => 1 ≤ m ∧ m ≤ 12 ∧ 0 ≤ t ∧ t ≤ 250000
  | .thi m t b => 1 ≤ m ∧ m ≤ 12 ∧ 0 ≤ b ∧ b ≤ t ∧ t ≤ 250000
  | .gon m t => 1 ≤ m ∧ m ≤ 12 ∧ 0 ≤ t ∧ t ≤ 250000
theorem okL.left {l : Lay} (h : okL l) : 0 ≤ (leftL l).t ∧ (leftL l).t ≤ 250000 := by
  cases l <;> simp only [okL, leftL] at * <;> omega
theorem BM.book {B : Int} {xs : List Int} (h : BM B xs) {l : Lay} (hl : okL l) : BM (B + 250000) (bookL xs l) := by
  cases l with
  | who m t => exact h.up (by omega)
  | thi m t b => simp only [okL] at hl; exact (h.add hl.1 hl.2.1 hl.2.2.1).up (by omega)
  | gon m t => simp only [okL] at hl; exact (h.add hl.1 hl.2.1 hl.2.2.1).up (by omega)
theorem BM.bk {B : Int} {xs : List Int} (h : BM B xs) {ls : List Lay} (hl : ∀ k, k < ls.length → okL (lat ls k)) {k : Nat} (hk : k ≤ ls.length) : BM (B + 250000 * (k : Int)) (bkA xs ls k) := by
  induction k with
  | zero => rw [bkA]; exact h.up (by omega)
  | succ k ih =>
    rw [bkA]
    exact ((ih (by omega)).book (hl k (by omega))).up (by omega)
theorem BM.go {lays : Nat → List Lay} {n : Nat} (hl : ∀ i, i < n → (lays i).length ≤ 25 ∧ ∀ k, k < (lays i).length → okL (lat (lays i) k)) {i : Nat} (hi : i ≤ n) : BM (6250000 * (i : Int)) (goA lays i) := by
  induction i with
  | zero => exact BM.zero
  | succ i ih =>
    rw [goA]
    have := hl i (by omega)
    exact ((ih (by omega)).bk this.2 (Nat.le_refl _)).up (by have := this.1; omega)

theorem fat_set {c : List Flm} {i j : Nat} {f : Flm} (hi : i < c.length) : fat (c.set i f) j = if j = i then f else fat c j := by
  unfold fat
  by_cases e : j = i
  · subst e; simp [hi]
  · rw [if_neg e, List.getD_eq_getElem?_getD, List.getElem?_set_ne (by omega), ← List.getD_eq_getElem?_getD]
theorem fat_snoc {c : List Flm} {f : Flm} {j : Nat} : fat (c ++ [f]) j = if j = c.length then f else fat c j := by
  unfold fat
  rcases Nat.lt_trichotomy j c.length with h | h | h
  · rw [if_neg (by omega), List.getD_eq_getElem?_getD, List.getElem?_append_left h, ← List.getD_eq_getElem?_getD]
  · rw [if_pos h, List.getD_eq_getElem?_getD, List.getElem?_append_right (by omega)]; simp [h]
  · rw [if_neg (by omega), List.getD_eq_getElem?_getD, List.getD_eq_getElem?_getD, List.getElem?_eq_none (by simp; omega), List.getElem?_eq_none (by omega)]
theorem putF_len (c : List Flm) (f : Flm) : c.length ≤ (putF c f).length ∧ (putF c f).length ≤ c.length + 1 := by
  unfold putF
  split
  · omega
  · split
    · simp
    · simp
theorem putA_len (ls : List Lay) (k : Nat) : (putA ls k).length ≤ k := by
  induction k with
  | zero => simp [putA]
  | succ k ih => rw [putA]; have := (putF_len (putA ls k) (leftL (lat ls k))).2; omega
theorem topA_congr {c d : List Flm} {n : Nat} (h : ∀ j, j < n → fat c j = fat d j) : topA c n = topA d n := by
  induction n with
  | zero => rfl
  | succ n ih => rw [topA, topA, ih fun j hj => h j (by omega), h n (by omega)]
/-- A film upon a column makes it so much higher. -/
theorem putF_top (c : List Flm) (f : Flm) : topC (putF c f) = topC c + f.t := by
  unfold putF
  split
  · rename_i h; rw [h]; omega
  · split
    · rename_i h
      obtain ⟨n, hn⟩ : ∃ n, c.length = n + 1 := ⟨c.length - 1, by omega⟩
      unfold topC
      rw [List.length_set, hn, topA, topA, topA_congr (c := c.set _ _) (d := c) fun j hj => by rw [fat_set (by omega), if_neg (by omega)]]
      rw [fat_set (by omega), if_pos (by omega)]
      have e : fat c (n + 1 - 1) = fat c n := by rw [Nat.add_sub_cancel]
      rw [e]
      show topA c n + ((fat c n).t + f.t) = topA c n + (fat c n).t + f.t
      omega
    · unfold topC
      rw [List.length_append, List.length_singleton, topA, topA_congr (c := c ++ [f]) (d := c) fun j hj => by rw [fat_snoc, if_neg (by omega)]]
      rw [fat_snoc, if_pos rfl]
/-- Every film of a column that is put together is at least 0 thick, the whole at most so much. -/
theorem putA_bound {ls : List Lay} (hl : ∀ k, k < ls.length → okL (lat ls k)) {k : Nat} (hk : k ≤ ls.length) : (∀ j, j < (putA ls k).length → 0 ≤ (fat (putA ls k) j).t) ∧ topC (putA ls k) ≤ 250000 * (k : Int) := by
  induction k with
  | zero => exact ⟨fun j hj => by simp [putA] at hj, by simp [putA, topC, topA]⟩
  | succ k ih =>
    obtain ⟨h1, h2⟩ := ih (by omega)
    have h3 := (hl k (by omega)).left
    refine ⟨fun j hj => ?_, by rw [putA, putF_top]; omega⟩
    rw [putA] at hj ⊢
    unfold putF at hj ⊢
    split
    · rename_i h; rw [if_pos h] at hj; exact h1 j hj
    · rename_i h
      rw [if_neg h] at hj
      split
      · rename_i h4
        rw [if_pos h4, List.length_set] at hj
        rw [fat_set (by omega)]
        split
        · have := h1 ((putA ls k).length - 1) (by omega); show 0 ≤ _ + _; omega
        · exact h1 j hj
      · rename_i h4
        rw [if_neg h4, List.length_append, List.length_singleton] at hj
        rw [fat_snoc]
        split
        · exact h3.1
        · exact h1 j (by omega)
theorem top_part {c : List Flm} (h : ∀ j, j < c.length → 0 ≤ (fat c j).t) {k : Nat} (hk : k < c.length) : (fat c k).t ≤ topC c := by
  have h1 := topA_mono (c := c) (n := k + 1) (m := c.length) h hk
  have h2 := topA_mono (c := c) (n := 0) (m := k) (fun j hj => h j (by omega)) (Nat.zero_le _)
  rw [show topA c (k + 1) = topA c k + (fat c k).t from rfl] at h1
  rw [show topA c 0 = 0 from rfl] at h2
  unfold topC
  omega

/-- What a function that puts a film upon a list of a caller's leaves. -/
structure PF (B : Nat) (w w' : World) (vo v : Value) (l : List Flm) : Prop where
  o : OG 76 2 flC w' B v l
  g : w.grownBy w' vo.ownBlock
  r : ∀ j, v.ownBlock = some j → w.heap.size ≤ j ∨ vo.ownBlock = some j
/-- A row is put in, which is that one grown, or new. -/
theorem RoF.swap {w w' : World} {B g k n c : Nat} {ls : List (List Flm)} {vs : List Value} {u : Value} {l : List Flm} (h : RoF w B (.slice (some ⟨g, 0, none⟩) n c) ls vs) (hk : k < ls.length) (hp : PF B w w' (rat vs k) u l) :
    RoF (w'.setCell ⟨g, k, none⟩ u) B (.slice (some ⟨g, 0, none⟩) n c) (ls.set k l) (vs.set k u) := by
  have hl := h.len
  have hrow : (Value.slice (some ⟨g, 0, none⟩) n c).ownBlock = some g := rfl
  have hgl := rowBlk h.o hrow
  have hkg : (rat vs k).ownBlock ≠ some g := fun e => h.rowNot hrow (h.bx k hk) e rfl
  have hg' : w'.heap[g]? = w.heap[g]? := hp.g.block g hgl.2.1 (fun e => hkg e.symm)
  have r1 : ∀ i, i ≠ k → rat (vs.set k u) i = rat vs i := fun i hi => by
    unfold rat
    rw [List.getD_eq_getElem?_getD, List.getElem?_set_ne (by omega), ← List.getD_eq_getElem?_getD]
  have r2 : rat (vs.set k u) k = u := by unfold rat; simp [hl, hk]
  have oth : ∀ i, i < ls.length → i ≠ k → ∀ q, (rat vs i).ownBlock = some q → (w'.setCell ⟨g, k, none⟩ u).heap[q]? = w.heap[q]? := by
    intro i hi hik q hq
    have h1 := rowBlk (h.bx i hi) hq
    rw [heap_setCell_other _ _ _ _ (by have := h.rowNot hrow (h.bx i hi) hq; simpa using this)]
    exact hp.g.block q h1.2.1 (fun e => h.ds i k hik hi hk q hq e.symm)
  have hug : ∀ q, u.ownBlock = some q → q ≠ g := by
    intro q hq e
    rcases hp.r q hq with h1 | h1
    · have := hgl.2.1; omega
    · exact hkg (by rw [← e]; exact h1)
  refine ⟨?_, fun i hi => ?_, fun i j hij hi hj g' hgi => ?_⟩
  · rw [List.length_set]
    have hn : n = ls.length := by obtain ⟨_, _, e⟩ := h.form; injection e
    subst hn
    exact (World.ownsRow.stored (rowKept h.o fun q hq => by injection hq with hq; subst hq; exact hg') k u).1
  · rw [List.length_set] at hi
    by_cases e : i = k
    · subst e
      have : (ls.set i l).getD i [] = l := by simp [hi]
      rw [this, r2]
      exact hp.o.kept fun q hq => heap_setCell_other _ _ _ _ (by have := hug q hq; simpa using this)
    · have : (ls.set k l).getD i [] = ls.getD i [] := by
        rw [List.getD_eq_getElem?_getD, List.getElem?_set_ne (by omega), ← List.getD_eq_getElem?_getD]
      rw [this, r1 i e]
      exact (h.bx i hi).kept (oth i hi e)
  · rw [List.length_set] at hi hj
    have key : ∀ i, i < ls.length → i ≠ k → ∀ q, (rat vs i).ownBlock = some q → u.ownBlock ≠ some q := by
      intro i hi hik q hq e
      have h1 := rowBlk (h.bx i hi) hq
      rcases hp.r q e with h2 | h2
      · omega
      · exact h.ds i k hik hi hk q hq h2
    by_cases e1 : i = k
    · subst e1
      rw [r2] at hgi
      rw [r1 j (by omega)]
      exact fun e4 => key j hj (by omega) g' e4 hgi
    · by_cases e2 : j = k
      · subst e2
        rw [r1 i e1] at hgi
        rw [r2]
        exact key i hi e1 g' hgi
      · rw [r1 i e1] at hgi
        rw [r1 j e2]
        exact h.ds i j hij hi hj g' hgi
theorem flC_fm (c : List Flm) (f : Flm) : (c ++ [f]).flatMap flC = c.flatMap flC ++ [.int .i64 f.m, .int .i64 f.t] := by simp [flC]
/-- The thickness of one film is set. -/
theorem og_thick {w : World} {B g n c k : Nat} {l : List Flm} (h : OG 76 2 flC w B (.slice (some ⟨g, 0, none⟩) n c) l) (hk : k < l.length) (y : Int) :
    OG 76 2 flC (w.setCell ⟨g, k * 2 + 1, none⟩ (.int .i64 y)) B (.slice (some ⟨g, 0, none⟩) n c) (l.set k ⟨(fat l k).m, y⟩) := by
  have hn : n = l.length := by obtain ⟨_, _, e⟩ := h.form; injection e
  subst hn
  have h1 := (World.ownsRow.stored h (k * 2 + 1) (.int .i64 y)).1
  unfold OG
  rw [List.length_set]
  have e : (l.set k ⟨(fat l k).m, y⟩).flatMap flC = (l.flatMap flC).set (k * 2 + 1) (.int .i64 y) := by
    apply List.ext_getElem?
    intro t
    have hlen : ((l.set k ⟨(fat l k).m, y⟩).flatMap flC).length = l.length * 2 := by rw [fm_length flC_len, List.length_set]
    have hlen2 : (l.flatMap flC).length = l.length * 2 := fm_length flC_len l
    rcases Nat.lt_or_ge t (l.length * 2) with ht | ht
    · obtain ⟨j, i, rfl, hi⟩ : ∃ j i, t = j * 2 + i ∧ i < 2 := ⟨t / 2, t % 2, by omega, by omega⟩
      have hj : j < l.length := by omega
      rw [fm_get flC_len _ j i (by rw [List.length_set]; exact hj) hi]
      by_cases e : j = k
      · subst e
        rw [List.getElem_set_self]
        match i, hi with
        | 0, _ =>
          rw [List.getElem?_set_ne (by omega), fm_get flC_len l j 0 hj (by omega), fat_get hj]
          rfl
        | 1, _ => rw [List.getElem?_set_self (by omega)]; rfl
      · rw [List.getElem_set_ne (by omega), List.getElem?_set_ne (by omega), fm_get flC_len l j i hj hi]
    · rw [List.getElem?_eq_none (by omega), List.getElem?_eq_none (by rw [List.length_set]; omega)]
  rw [e]; exact h1

end Go.Proofs.Ytceljakmjddgbab
