/- What a recipe without a fault is; what its times come to. Arithmetic alone. -/
import Derived.Test.YtnljomeacnjmmaaDoorXrM
namespace Go.Proofs.YtnljomeacnjmmaaDoor
open Go.ChangeShapes Go.WideShapes Go.ChangeAt Go.RowKit Go.Joins
set_option linter.unusedVariables false
set_option linter.unusedSimpArgs false

theorem fnz_all {f : Nat → Int} : ∀ {n : Nat}, fnz f n = 0 → ∀ i, i < n → f i = 0
  | n + 1, h, i, hi => by
    unfold fnz at h
    by_cases h0 : fnz f n = 0
    · rw [if_pos h0] at h
      rcases (by omega : i = n ∨ i < n) with rfl | hi'
      · exact h
      · exact fnz_all h0 i hi'
    · rw [if_neg h0] at h; exact absurd h h0
structure PmOk (ah : List Pm) (p : Pm) : Prop where
  nm : nameK p.nm = 0
  one : atL (pnm ah) p.nm < 0
  lo : -1000000 ≤ p.lo
  hi : p.hi ≤ 1000000
  ba : p.lo ≤ p.ba ∧ p.ba ≤ p.hi
structure SeOk (ps : List Pm) (ah : List Se) (s : Se) : Prop where
  nm : nameK s.nm = 0
  one : atL (snm ah) s.nm < 0
  use : useK ps s.v = 0
structure SpOk (ps : List Pm) (ah : List Sp) (s : Sp) : Prop where
  nm : nameK s.nm = 0
  one : atL (tnm ah) s.nm < 0
  few : s.ss.length ≤ 8
  use : useK ps s.t = 0
  low : 0 ≤ lowV ps s.t
  ss : ∀ j (h : j < s.ss.length), SeOk ps (s.ss.take j) s.ss[j]
structure RpOk (c : Rp) : Prop where
  nm : nameK c.nm = 0
  pn : c.ps.length ≤ 20
  sn : c.ss.length ≤ 40
  ps : ∀ j (h : j < c.ps.length), PmOk (c.ps.take j) c.ps[j]
  ss : ∀ j (h : j < c.ss.length), SpOk c.ps (c.ss.take j) c.ss[j]
theorem nameK_no {s : ByteArray} {x : Int} (h : (if nameK s = 0 then x else nameK s) = 0) : nameK s = 0 ∧ x = 0 := by
  by_cases h0 : nameK s = 0
  · rw [if_pos h0] at h; exact ⟨h0, h⟩
  · rw [if_neg h0] at h; exact absurd h h0
theorem pm_ok {ah : List Pm} {p : Pm} (h : prmK ah p = 0) : PmOk ah p := by
  obtain ⟨h0, h1⟩ := nameK_no h
  by_cases ha : 0 ≤ atL (pnm ah) p.nm
  · rw [if_pos ha] at h1; cases h1
  · rw [if_neg ha] at h1
    by_cases hr : rngB p = true
    · rw [if_pos hr] at h1; cases h1
    · have hr' : rngB p = false := by simpa using hr
      unfold rngB insB at hr'
      simp only [Bool.or_eq_false_iff, decide_eq_false_iff_not, Bool.not_eq_false', Bool.and_eq_true, decide_eq_true_eq] at hr'
      exact ⟨h0, by omega, by omega, by omega, by omega⟩
theorem se_ok {ps : List Pm} {ah : List Se} {s : Se} (h : sefK ps ah s = 0) : SeOk ps ah s := by
  obtain ⟨h0, h1⟩ := nameK_no h
  by_cases ha : 0 ≤ atL (snm ah) s.nm
  · rw [if_pos ha] at h1; cases h1
  · rw [if_neg ha] at h1; exact ⟨h0, by omega, h1⟩
theorem tim_ok {ps : List Pm} {v : Vl} (h : timK ps v = 0) : useK ps v = 0 ∧ 0 ≤ lowV ps v := by
  unfold timK at h
  by_cases h0 : useK ps v = 0
  · rw [if_pos h0] at h
    by_cases h1 : lowV ps v < 0
    · rw [if_pos h1] at h; cases h
    · exact ⟨h0, by omega⟩
  · rw [if_neg h0] at h; exact absurd h h0
theorem sp_ok {ps : List Pm} {ah : List Sp} {s : Sp} (h : stpK ps ah s = 0) : SpOk ps ah s := by
  obtain ⟨h0, h1⟩ := nameK_no h
  by_cases ha : 0 ≤ atL (tnm ah) s.nm
  · rw [if_pos ha] at h1; cases h1
  · rw [if_neg ha] at h1
    by_cases h8 : 8 < s.ss.length
    · rw [if_pos h8] at h1; cases h1
    · rw [if_neg h8] at h1
      by_cases ht : timK ps s.t = 0
      · rw [if_pos ht] at h1
        obtain ⟨t1, t2⟩ := tim_ok ht
        refine ⟨h0, by omega, by omega, t1, t2, fun j hj => ?_⟩
        have := fnz_all h1 j hj
        rw [getD_at hj] at this
        exact se_ok this
      · rw [if_neg ht] at h1; exact absurd h1 ht
theorem rp_ok {c : Rp} (h : rfK c = 0) : RpOk c := by
  rw [rfK_eq] at h
  obtain ⟨h0, h1⟩ := nameK_no h
  by_cases h20 : 20 < c.ps.length
  · rw [if_pos h20] at h1; cases h1
  · rw [if_neg h20] at h1
    by_cases h40 : 40 < c.ss.length
    · rw [if_pos h40] at h1; cases h1
    · rw [if_neg h40] at h1
      by_cases hp : fnz (fun i => prmK (c.ps.take i) (c.ps.getD i pmD)) c.ps.length = 0
      · rw [if_pos hp] at h1
        refine ⟨h0, by omega, by omega, fun j hj => ?_, fun j hj => ?_⟩
        · have := fnz_all hp j hj
          rw [getD_at hj] at this
          exact pm_ok this
        · have := fnz_all h1 j hj
          rw [getD_at hj] at this
          exact sp_ok this
      · rw [if_neg hp] at h1; exact absurd h1 hp
/-- The base of a name among the first so many, the last one's. -/
def basN (ps : List Pm) : Nat → ByteArray → Int
  | 0, _ => 0
  | t + 1, q => if (ps.getD t pmD).nm = q then (ps.getD t pmD).ba else basN ps t q
theorem basN_at {ps : List Pm} (h1 : ∀ j (h : j < ps.length), PmOk (ps.take j) ps[j]) {k : Nat} (hk : k < ps.length) : ∀ {n : Nat}, k < n → n ≤ ps.length → basN ps n (ps[k]).nm = (ps[k]).ba
  | n + 1, hkn, hn => by
    unfold basN
    rw [getD_at (show n < ps.length by omega)]
    rcases (by omega : k = n ∨ k < n) with rfl | hk'
    · rw [if_pos rfl]
    · have hne : ¬ (ps[n]).nm = (ps[k]).nm := by
        intro e
        have h2 := (h1 n (by omega)).one
        rcases atL_cases (pnm (ps.take n)) (ps[n]).nm with ⟨_, h3⟩ | ⟨i, _, h3, _⟩
        · have := h3 k (by simp [pnm]; omega)
          simp [pnm] at this
          exact this e.symm
        · omega
      rw [if_neg hne]
      exact basN_at h1 hk hk' (by omega)
/-- A value's number, a parameter's by its base. -/
def fxN (ps : List Pm) (v : Vl) : Int := if v.k = 2 then (ps.getD (atL (pnm ps) v.s).toNat pmD).ba else v.n
theorem fx_par {ps : List Pm} {v : Vl} (hu : useK ps v = 0) (h2 : v.k = 2) : ∃ k, ∃ h : k < ps.length, atL (pnm ps) v.s = (k : Int) ∧ (ps[k]).nm = v.s ∧ fxN ps v = (ps[k]).ba := by
  have h0 := (useK_ok hu).2 h2
  rcases atL_cases (pnm ps) v.s with ⟨h3, _⟩ | ⟨k, hk, h3, h4, _⟩
  · omega
  · have hk' : k < ps.length := by simpa [pnm] using hk
    refine ⟨k, hk', h3, by simpa [pnm] using h4, ?_⟩
    unfold fxN
    rw [if_pos h2, h3, Int.toNat_natCast, getD_at hk']
theorem use_num {ps : List Pm} {v : Vl} (hu : useK ps v = 0) (h2 : ¬ v.k = 2) : v.k = 1 ∧ v.s = ⟨#[]⟩ ∧ -1000000 ≤ v.n ∧ v.n ≤ 1000000 := by
  have h0 := (useK_ok hu).1
  unfold vtS at h0
  by_cases h1 : v.k = 1
  · rw [if_pos h1] at h0
    by_cases h3 : v.s = ⟨#[]⟩ ∧ -1000000 ≤ v.n ∧ v.n ≤ 1000000
    · exact ⟨h1, h3⟩
    · rw [if_neg h3] at h0; exact absurd rfl h0
  · rw [if_neg h1, if_neg h2] at h0; exact absurd rfl h0
theorem use_par {ps : List Pm} {v : Vl} (hu : useK ps v = 0) (h2 : v.k = 2) : v.n = 0 ∧ nameK v.s = 0 := by
  have h0 := (useK_ok hu).1
  unfold vtS at h0
  rw [if_neg (by omega), if_pos h2] at h0
  by_cases h3 : v.n = 0 ∧ nameK v.s = 0
  · exact h3
  · rw [if_neg h3] at h0; exact absurd rfl h0
theorem fx_bnd {ps : List Pm} {v : Vl} (hp : ∀ j (h : j < ps.length), PmOk (ps.take j) ps[j]) (hu : useK ps v = 0) : -1000000 ≤ fxN ps v ∧ fxN ps v ≤ 1000000 := by
  by_cases h2 : v.k = 2
  · obtain ⟨k, hk, _, _, e⟩ := fx_par hu h2
    have h1 := (hp k hk).lo
    have h3 := (hp k hk).hi
    have h4 := (hp k hk).ba
    rw [e]; omega
  · have := use_num hu h2
    unfold fxN; rw [if_neg h2]; omega
def sumN (f : Nat → Int) : Nat → Int
  | 0 => 0
  | n + 1 => sumN f n + f n
def ttV (c : Rp) : Int := if rfK c = 0 then sumN (fun i => fxN c.ps (c.ss.getD i spD).t) c.ss.length else 0
theorem basN_fx {ps : List Pm} (hp : ∀ j (h : j < ps.length), PmOk (ps.take j) ps[j]) {v : Vl} (hu : useK ps v = 0) (h2 : v.k = 2) : basN ps ps.length v.s = fxN ps v := by
  obtain ⟨k, hk, _, e1, e2⟩ := fx_par hu h2
  rw [e2, ← e1]
  exact basN_at hp hk hk (Nat.le_refl _)
end Go.Proofs.YtnljomeacnjmmaaDoor
