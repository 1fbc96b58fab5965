/- Orders of jobs, how late they end, when two machines are done: arithmetic alone. -/
import Derived.Test.YtjbghflphngnkaaTkR
namespace Go.Proofs.Ytjbghflphngnkaa
open Go.RowKit
set_option linter.unusedVariables false
set_option linter.unusedSimpArgs false


/-- The job of a number. -/
def pkJ (s : List Jb) (x : Int) : Jb := s.getD (fdI (jdA s) x s.length).toNat default
def pkL (s : List Jb) (is : List Int) : List Jb := is.map (pkJ s)
theorem pkL_len (s : List Jb) (is : List Int) : (pkL s is).length = is.length := by simp [pkL]
/-- The i-th number is a job's, and none ahead of it is the same. -/
def inO (s : List Jb) (is : List Int) (i : Nat) : Bool := decide (0 ≤ fdI (jdA s) (is.getD i 0) s.length) && decide (is.getD i 0 ∉ is.take i)
def ordB (s : List Jb) (is : List Int) : Bool := decide (is.length = s.length) && (List.range is.length).all (inO s is)
def joC (s : List Jb) (is : List Int) : Int := if jbF s ≠ 0 then jbF s else if ordB s is = true then 0 else 1
def joL (s : List Jb) (is : List Int) : List Jb := if joC s is = 0 then pkL s is else []
theorem ordB_of {s : List Jb} {is : List Int} (h1 : is.length = s.length) (h2 : ∀ i, i < is.length → inO s is i = true) : ordB s is = true := by
  unfold ordB
  rw [Bool.and_eq_true, decide_eq_true_iff, List.all_eq_true]
  exact ⟨h1, fun i hi => h2 i (by simpa using hi)⟩
theorem ordB_no {s : List Jb} {is : List Int} {i : Nat} (hi : i < is.length) (h : inO s is i = false) : ordB s is = false := by
  cases e : ordB s is
  · rfl
  · unfold ordB at e
    rw [Bool.and_eq_true, List.all_eq_true] at e
    have := e.2 i (by simpa using hi)
    rw [h] at this; cases this
theorem ordB_len {s : List Jb} {is : List Int} (h : is.length ≠ s.length) : ordB s is = false := by
  unfold ordB; rw [decide_eq_false h]; rfl
theorem ordB_at {s : List Jb} {is : List Int} (h : ordB s is = true) : is.length = s.length ∧ ∀ i, i < is.length → 0 ≤ fdI (jdA s) (is.getD i 0) s.length ∧ is.getD i 0 ∉ is.take i := by
  unfold ordB at h
  rw [Bool.and_eq_true, decide_eq_true_iff, List.all_eq_true] at h
  refine ⟨h.1, fun i hi => ?_⟩
  have := h.2 i (by simpa using hi)
  unfold inO at this
  rw [Bool.and_eq_true, decide_eq_true_iff, decide_eq_true_iff] at this
  exact this
theorem pkJ_rg {s : List Jb} (h : OkJ s) {x : Int} (hx : 0 ≤ fdI (jdA s) x s.length) : ∃ i, ∃ hi : i < s.length, pkJ s x = s[i] ∧ fdI (jdA s) x s.length = (i : Int) ∧ s[i].id = x := by
  obtain ⟨i, hi, h1, h2, _⟩ := fdI_pos hx
  refine ⟨i, hi, ?_, h1, by rw [← jdA_at hi]; exact h2⟩
  unfold pkJ; rw [h1]; simp [List.getD, hi]
/-- One machine: when the first k jobs have ended, and how late they are. -/
def lat (l : List Jb) : Nat → Int × Int
  | 0 => (0, 0)
  | k + 1 => (max (lat l k).1 (l.getD k default).co + (l.getD k default).ti, (lat l k).2 + (l.getD k default).we * max 0 (max (lat l k).1 (l.getD k default).co + (l.getD k default).ti - (l.getD k default).du))
def lateV (l : List Jb) : Int := (lat l l.length).2
/-- Two machines: when each has ended the first k jobs. -/
def flo (l : List Jb) : Nat → Int × Int
  | 0 => (0, 0)
  | k + 1 => ((flo l k).1 + (l.getD k default).ti, max ((flo l k).1 + (l.getD k default).ti) (flo l k).2 + (l.getD k default).se)
def floV (l : List Jb) : Int := (flo l l.length).2
theorem mx (x y : Int) : (if x < y then y else x) = max x y := by split <;> omega
theorem mz (x y : Int) : (if y < x then x - y else 0) = max 0 (x - y) := by split <;> omega
theorem w64 {x : Int} (h : -9223372036854775808 ≤ x ∧ x ≤ 9223372036854775807) : wrap64 x = x := by unfold wrap64; omega
theorem mulW {a b : Int} (h0 : 0 ≤ a) (h1 : a ≤ 100) (h2 : 0 ≤ b) (h3 : b ≤ 40000000) : 0 ≤ a * b ∧ a * b ≤ 4000000000 :=
  ⟨Int.mul_nonneg h0 h2, Int.le_trans (Int.mul_le_mul h1 h3 h2 (by decide)) (by decide)⟩
theorem lat_bnd {l : List Jb} (h : ∀ i (hi : i < l.length), rgJ l[i]) : ∀ k, k ≤ l.length → k ≤ 30 → 0 ≤ (lat l k).1 ∧ (lat l k).1 ≤ 1000000 * ((k : Int) + 1) ∧ 0 ≤ (lat l k).2 ∧ (lat l k).2 ≤ 4000000000 * (k : Int) := by
  intro k
  induction k with
  | zero => intro _ _; simp [lat]
  | succ k ih =>
    intro h1 h2
    obtain ⟨i1, i2, i3, i4⟩ := ih (by omega) (by omega)
    have hk : k < l.length := by omega
    have hr := h k hk
    have e : l.getD k default = l[k] := by simp [List.getD, hk]
    unfold lat
    rw [e]
    obtain ⟨⟨r1, r2, r3⟩, r4, r5, r6⟩ := hr
    generalize (lat l k).1 = x at *
    generalize (lat l k).2 = y at *
    have hm := mulW (b := max 0 (max x l[k].co + l[k].ti - l[k].du)) r5.1 r5.2 (by omega) (by omega)
    refine ⟨by omega, by push_cast; omega, by omega, by push_cast; omega⟩
theorem flo_bnd {l : List Jb} (h : ∀ i (hi : i < l.length), rgJ l[i]) : ∀ k, k ≤ l.length → k ≤ 30 → 0 ≤ (flo l k).1 ∧ (flo l k).1 ≤ 1000000 * (k : Int) ∧ 0 ≤ (flo l k).2 ∧ (flo l k).2 ≤ 2000000 * (k : Int) := by
  intro k
  induction k with
  | zero => intro _ _; simp [flo]
  | succ k ih =>
    intro h1 h2
    obtain ⟨i1, i2, i3, i4⟩ := ih (by omega) (by omega)
    have hk : k < l.length := by omega
    have hr := h k hk
    have e : l.getD k default = l[k] := by simp [List.getD, hk]
    unfold flo
    rw [e]
    obtain ⟨⟨r1, r2, r3⟩, r4, r5, r6⟩ := hr
    refine ⟨by omega, by push_cast; omega, by omega, by push_cast; omega⟩

end Go.Proofs.Ytjbghflphngnkaa
