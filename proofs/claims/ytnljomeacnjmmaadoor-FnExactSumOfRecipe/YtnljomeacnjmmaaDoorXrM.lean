/- The code of a recipe, as a function of it. Arithmetic alone. -/
import Derived.Test.YtnljomeacnjmmaaDoorXvM
namespace Go.Proofs.YtnljomeacnjmmaaDoor
open Go.ChangeShapes Go.WideShapes Go.ChangeAt Go.RowKit Go.Joins
set_option linter.unusedVariables false
set_option linter.unusedSimpArgs false

/-- The place of a name in a list of names; -1: it is not there. -/
def atL : List ByteArray → ByteArray → Int
  | [], _ => -1
  | x :: l, nm => if x = nm then 0 else (if atL l nm < 0 then -1 else atL l nm + 1)
theorem atL_none : ∀ {l : List ByteArray} {nm : ByteArray}, (∀ i (h : i < l.length), ¬ l[i] = nm) → atL l nm = -1
  | [], _, _ => rfl
  | x :: l, nm, h => by
    have h0 := h 0 (by simp)
    have ih := atL_none (l := l) (nm := nm) (fun i hi => by have := h (i + 1) (by simpa using hi); simpa using this)
    unfold atL
    rw [if_neg (by simpa using h0), ih]; rfl
theorem atL_some : ∀ {l : List ByteArray} {nm : ByteArray} {k : Nat} (hk : k < l.length), (∀ i (h : i < l.length), i < k → ¬ l[i] = nm) → l[k] = nm → atL l nm = k
  | x :: l, nm, 0, hk, h, e => by
    unfold atL
    rw [if_pos (by simpa using e)]; rfl
  | x :: l, nm, k + 1, hk, h, e => by
    have h0 := h 0 (by simp) (by omega)
    have ih := atL_some (l := l) (nm := nm) (k := k) (by simpa using hk) (fun i hi hik => by have := h (i + 1) (by simpa using hi) (by omega); simpa using this) (by simpa using e)
    unfold atL
    rw [if_neg (by simpa using h0), ih, if_neg (by omega)]
    omega
theorem atL_cases (l : List ByteArray) (nm : ByteArray) : (atL l nm = -1 ∧ ∀ i (h : i < l.length), ¬ l[i] = nm) ∨ ∃ k, ∃ h : k < l.length, atL l nm = k ∧ l[k] = nm ∧ ∀ i (h : i < l.length), i < k → ¬ l[i] = nm := by
  induction l with
  | nil => exact Or.inl ⟨rfl, fun i h => by simp at h⟩
  | cons x l ih =>
    by_cases hx : x = nm
    · refine Or.inr ⟨0, by simp, ?_, by simpa using hx, fun i h hi => by omega⟩
      unfold atL; rw [if_pos hx]; rfl
    · rcases ih with ⟨h1, h2⟩ | ⟨k, hk, h1, h2, h3⟩
      · refine Or.inl ⟨?_, fun i hi => ?_⟩
        · unfold atL; rw [if_neg hx, h1]; rfl
        · cases i with
          | zero => simpa using hx
          | succ i => simpa using h2 i (by simpa using hi)
      · refine Or.inr ⟨k + 1, by simpa using hk, ?_, by simpa using h2, fun i hi hik => ?_⟩
        · unfold atL; rw [if_neg hx, h1, if_neg (by omega)]; omega
        · cases i with
          | zero => simpa using hx
          | succ i => simpa using h3 i (by simpa using hi) (by omega)
theorem atL_bnd (l : List ByteArray) (nm : ByteArray) : -1 ≤ atL l nm ∧ atL l nm < l.length := by
  rcases atL_cases l nm with ⟨h, _⟩ | ⟨k, hk, h, _⟩
  · rw [h]; omega
  · rw [h]; omega
/-- The first number that is not 0 among so many. -/
def fnz (f : Nat → Int) : Nat → Int
  | 0 => 0
  | n + 1 => if fnz f n = 0 then f n else fnz f n
theorem fnz_zero {f : Nat → Int} : ∀ {n : Nat}, (∀ i, i < n → f i = 0) → fnz f n = 0
  | 0, _ => rfl
  | n + 1, h => by
    unfold fnz
    rw [if_pos (fnz_zero (fun i hi => h i (by omega))), h n (by omega)]
theorem fnz_stop {f : Nat → Int} {k : Nat} : ∀ {n : Nat}, k < n → (∀ i, i < k → f i = 0) → ¬ f k = 0 → fnz f n = f k
  | n + 1, hk, h, hf => by
    unfold fnz
    rcases (by omega : k = n ∨ k < n) with rfl | hk'
    · rw [if_pos (fnz_zero h)]
    · rw [fnz_stop hk' h hf, if_neg hf]
theorem fnz_congr {f g : Nat → Int} : ∀ {n : Nat}, (∀ i, i < n → f i = g i) → fnz f n = fnz g n
  | 0, _ => rfl
  | n + 1, h => by unfold fnz; rw [fnz_congr (fun i hi => h i (by omega)), h n (by omega)]

def pnm (ps : List Pm) : List ByteArray := ps.map (·.nm)
def snm (ss : List Se) : List ByteArray := ss.map (·.nm)
def tnm (ss : List Sp) : List ByteArray := ss.map (·.nm)
/-- What is wrong with a value where it stands. -/
def useK (ps : List Pm) (v : Vl) : Int := if vtS v = ⟨#[]⟩ then 1 else if v.k = 2 ∧ atL (pnm ps) v.s < 0 then 4 else 0
/-- The least that it can be. -/
def lowV (ps : List Pm) (v : Vl) : Int := if v.k = 2 then (ps.getD (atL (pnm ps) v.s).toNat ⟨⟨#[]⟩, 0, 0, 0⟩).lo else v.n
def timK (ps : List Pm) (v : Vl) : Int := if useK ps v = 0 then (if lowV ps v < 0 then 3 else 0) else useK ps v
/-- What is wrong with a setting behind those ahead of it; with a step; with a parameter; with a recipe. -/
def sefK (ps : List Pm) (ah : List Se) (s : Se) : Int := if nameK s.nm = 0 then (if 0 ≤ atL (snm ah) s.nm then 1 else useK ps s.v) else nameK s.nm
def seD : Se := ⟨⟨#[]⟩, ⟨0, 0, ⟨#[]⟩⟩⟩
def spD : Sp := ⟨⟨#[]⟩, ⟨0, 0, ⟨#[]⟩⟩, []⟩
def pmD : Pm := ⟨⟨#[]⟩, 0, 0, 0⟩
def setsK (ps : List Pm) (ss : List Se) : Int := fnz (fun i => sefK ps (ss.take i) (ss.getD i seD)) ss.length
def stpK (ps : List Pm) (ah : List Sp) (s : Sp) : Int :=
  if nameK s.nm = 0 then (if 0 ≤ atL (tnm ah) s.nm then 1 else if 8 < s.ss.length then 2 else if timK ps s.t = 0 then setsK ps s.ss else timK ps s.t) else nameK s.nm
def rngB (p : Pm) : Bool := decide (p.lo < -1000000) || decide (1000000 < p.hi) || decide (p.hi < p.lo) || !insB p.ba p.lo p.hi
def prmK (ah : List Pm) (p : Pm) : Int := if nameK p.nm = 0 then (if 0 ≤ atL (pnm ah) p.nm then 1 else if rngB p = true then 3 else 0) else nameK p.nm
def rfK (c : Rp) : Int :=
  if nameK c.nm = 0 then (if 20 < c.ps.length ∨ 40 < c.ss.length then 2 else
    if fnz (fun i => prmK (c.ps.take i) (c.ps.getD i pmD)) c.ps.length = 0 then fnz (fun i => stpK c.ps (c.ss.take i) (c.ss.getD i spD)) c.ss.length
    else fnz (fun i => prmK (c.ps.take i) (c.ps.getD i pmD)) c.ps.length) else nameK c.nm
theorem getD_at {α : Type} {s : List α} {i : Nat} {d : α} (h : i < s.length) : s.getD i d = s[i] := by simp [List.getD, List.getElem?_eq_getElem h]
theorem take_rg {α : Type} {k : Nat} {enc : α → List Value} {w : World} {a : Option Addr} {n c c' j : Nat} {s : List α} (h : RG k enc w (.slice a n c) s) (hj : j ≤ n) : RG k enc w (.slice a j c') (s.take j) := by
  have hl := h.len
  obtain ⟨a', c2, e, h⟩ := h
  simp only [Value.slice.injEq] at e
  obtain ⟨rfl, rfl, rfl⟩ := e
  refine ⟨a, c', by rw [List.length_take, Nat.min_eq_left hj], fun hn => ?_⟩
  obtain ⟨g, o, rfl, hg, hc⟩ := h (by intro e; subst e; simp at hn)
  refine ⟨g, o, rfl, hg, fun i hi q hq => ?_⟩
  rw [List.length_take] at hi
  rw [hc i (by omega) q hq]
  simp
theorem useK_ok {ps : List Pm} {v : Vl} (h : useK ps v = 0) : ¬ vtS v = ⟨#[]⟩ ∧ (v.k = 2 → 0 ≤ atL (pnm ps) v.s) := by
  unfold useK at h
  split at h
  · cases h
  · rename_i h1
    split at h
    · cases h
    · rename_i h2
      exact ⟨h1, fun e => by have := fun h3 => h2 ⟨e, h3⟩; omega⟩
theorem ltQ {w : World} {k : Nat} {o : Obj} (h : w.heap[k]? = some o) : k < w.heap.size := by
  rcases Nat.lt_or_ge k w.heap.size with h' | h'
  · exact h'
  · rw [Array.getElem?_eq_none h'] at h; cases h
/-- The ways of a value's code. -/
theorem useK_ways {ps : List Pm} {v : Vl} {K A : Int} {T : ByteArray} (hK : K = useK ps v) (hT : T = vtS v) (hA : A = atL (pnm ps) v.s) :
    (T = ⟨#[]⟩ ∧ K = 1) ∨ (¬ T = ⟨#[]⟩ ∧ v.k = 2 ∧ A < 0 ∧ K = 4) ∨ (¬ T = ⟨#[]⟩ ∧ v.k = 2 ∧ ¬ A < 0 ∧ K = 0) ∨ (¬ T = ⟨#[]⟩ ∧ ¬ v.k = 2 ∧ K = 0) := by
  subst hK hT hA
  unfold useK
  by_cases h1 : vtS v = ⟨#[]⟩
  · rw [if_pos h1]; exact Or.inl ⟨h1, rfl⟩
  · rw [if_neg h1]
    by_cases h2 : v.k = 2
    · by_cases h3 : atL (pnm ps) v.s < 0
      · rw [if_pos ⟨h2, h3⟩]; exact Or.inr (Or.inl ⟨h1, h2, h3, rfl⟩)
      · rw [if_neg (fun h => h3 h.2)]; exact Or.inr (Or.inr (Or.inl ⟨h1, h2, h3, rfl⟩))
    · rw [if_neg (fun h => h2 h.1)]; exact Or.inr (Or.inr (Or.inr ⟨h1, h2, rfl⟩))
theorem setsK_stop {ps : List Pm} {ss : List Se} {k : Nat} (hk : k < ss.length) (h : ∀ i, i < k → sefK ps (ss.take i) (ss.getD i seD) = 0) (h2 : ¬ sefK ps (ss.take k) (ss[k]) = 0) : setsK ps ss = sefK ps (ss.take k) (ss[k]) := by
  unfold setsK
  have := fnz_stop (f := fun i => sefK ps (ss.take i) (ss.getD i seD)) hk h (by rw [getD_at hk]; exact h2)
  rw [this, getD_at hk]
theorem rfK_eq (c : Rp) : rfK c = if nameK c.nm = 0 then (if 20 < c.ps.length then 2 else if 40 < c.ss.length then 2 else
    if fnz (fun i => prmK (c.ps.take i) (c.ps.getD i pmD)) c.ps.length = 0 then fnz (fun i => stpK c.ps (c.ss.take i) (c.ss.getD i spD)) c.ss.length
    else fnz (fun i => prmK (c.ps.take i) (c.ps.getD i pmD)) c.ps.length) else nameK c.nm := by
  unfold rfK
  by_cases h1 : 20 < c.ps.length
  · rw [if_pos (Or.inl h1), if_pos h1]
  · rw [if_neg h1]
    by_cases h2 : 40 < c.ss.length
    · rw [if_pos (Or.inr h2), if_pos h2]
    · rw [if_neg (show ¬ (20 < c.ps.length ∨ 40 < c.ss.length) from fun h => h.elim h1 h2), if_neg h2]
theorem tnm_take {w : World} {rs : List Rs} {ss : List Sp} (h : RelS w rs ss) (i : Nat) : (rs.take i).map (·.nm) = tnm (ss.take i) := by
  apply List.ext_getElem
  · simp [tnm, h.len]
  · intro k h1 h2
    simp [tnm] at h1 h2 ⊢
    exact (h.at_ k (by omega) (by omega)).nm
end Go.Proofs.YtnljomeacnjmmaaDoor
