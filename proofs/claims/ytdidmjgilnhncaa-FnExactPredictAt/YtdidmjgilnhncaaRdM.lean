/- Proved here: residuals as numbers: codes and lists, told mark by mark. No condition on the program. (And ahead of it: Proved here: lists of fractions: their cells.) -/
import Derived.Test.YtdidmjgilnhncaaGen
import Derived.Test.YtdidmjgilnhncaaFqM
import Derived.Test.YtdidmjgilnhncaaMaM
import Derived.Test.YtdidmjgilnhncaaFsB0
namespace Go.Proofs.Ytdidmjgilnhncaa
open Go.RowKit
set_option linter.unusedVariables false
set_option linter.unusedSimpArgs false

def frC (x : Fr) : List Value := [.int .i64 x.n, .int .i64 x.d]
theorem frC_len (x : Fr) : (frC x).length = 2 := rfl
theorem frC_one (x : Fr) : ∀ u ∈ frC x, u.oneCell' = true := by
  intro u hu
  simp only [frC, List.mem_cons, List.not_mem_nil, or_false] at hu
  rcases hu with rfl | rfl <;> rfl
theorem info_Frac : (Try.prog.info? 44).map (fun i => (i.zero, i.size, i.bytes)) = some (some (.agg #[.int .i64 0, .int .i64 0]), 2, 16) := by kernel_rfl
theorem frC_at {w : World} {g o : Nat} {x : Fr} (h : ∀ i, i < 2 → w.cell? ⟨g, o + i, none⟩ = (frC x)[i]?) : w.cell? ⟨g, o, none⟩ = some (.int .i64 x.n) ∧ w.cell? ⟨g, o + 1, none⟩ = some (.int .i64 x.d) :=
  ⟨h 0 (by omega), h 1 (by omega)⟩
theorem og_nil (T k : Nat) {α : Type} (enc : α → List Value) (w : World) (B : Nat) : OG T k enc w B (.slice none 0 0) ([] : List α) := ⟨by simp, Or.inl ⟨rfl, rfl⟩⟩

end Go.Proofs.Ytdidmjgilnhncaa

namespace Go.Proofs.Ytdidmjgilnhncaa
open Go.RowKit
set_option linter.unusedVariables false
set_option linter.unusedSimpArgs false

/-- What is left at a mark. -/
def rsX (m : Mdl) (k : Mrk) : QR := suQ (whole k.dx) (prV m k.x k.y).x
def rsY (m : Mdl) (k : Mrk) : QR := suQ (whole k.dy) (prV m k.x k.y).y
def rsc (m : Mdl) (k : Mrk) : Int := if (prV m k.x k.y).c ≠ 0 then (prV m k.x k.y).c else if (rsX m k).c ≠ 0 then (rsX m k).c else (rsY m k).c
/-- The first code. -/
def rsC (m : Mdl) : List Mrk → Int
  | [] => 0
  | k :: t => if rsc m k ≠ 0 then rsc m k else rsC m t
def rsL (m : Mdl) (s : List Mrk) : List Fr := s.flatMap fun k => [(rsX m k).fr, (rsY m k).fr]
theorem rsL_len (m : Mdl) (s : List Mrk) : (rsL m s).length = 2 * s.length := by
  unfold rsL
  induction s with
  | nil => rfl
  | cons k t ih => rw [List.flatMap_cons, List.length_append, ih]; simp; omega
theorem rsL_take {m : Mdl} {s : List Mrk} {k : Nat} (h : k < s.length) : rsL m (s.take (k + 1)) = rsL m (s.take k) ++ [(rsX m s[k]).fr, (rsY m s[k]).fr] := by
  unfold rsL; rw [List.take_succ_eq_append_getElem h, List.flatMap_append]; simp
theorem rsC_drop {m : Mdl} {s : List Mrk} {k : Nat} (h : k < s.length) : rsC m (s.drop k) = if rsc m s[k] ≠ 0 then rsc m s[k] else rsC m (s.drop (k + 1)) := by
  rw [List.drop_eq_getElem_cons h, rsC]
def rdC (s : List Mrk) (m : Mdl) : Int := if msF s ≠ 0 then msF s else rsC m s
def rdL (s : List Mrk) (m : Mdl) : List Fr := if rdC s m = 0 then rsL m s else []
theorem rdL_len (s : List Mrk) (m : Mdl) : (rdL s m).length ≤ 40 := by
  unfold rdL
  by_cases h : msF s = 0
  · have h2 := (msF_ok h).2.1
    by_cases h3 : rdC s m = 0
    · rw [if_pos h3, rsL_len]; omega
    · rw [if_neg h3]; simp
  · have h3 : rdC s m ≠ 0 := by unfold rdC; rw [if_pos h]; exact h
    rw [if_neg h3]; simp
theorem muQ_all {a b : Fr} (ha : okR a = true) (hb : -1000000000 ≤ b.n ∧ b.n ≤ 1000000000 ∧ b.d = 1) : Good (muQ a b) := by
  refine muQ_good ha ?_
  have e : b = whole b.n := Fr.ext rfl hb.2.2
  rw [e]; exact whole_ok ⟨hb.1, hb.2.1⟩
/-- What is predicted without a code is right. -/
theorem prV_good {m : Mdl} {x y : Int} (h : (prV m x y).c = 0) : mdF m = 0 ∧ okR (prV m x y).x = true ∧ okR (prV m x y).y = true := by
  by_cases hm : mdF m = 0
  case neg => rw [prV_md hm] at h; exact absurd h hm
  obtain ⟨h1, h2, h3, h4⟩ := mdF_ok hm
  refine ⟨hm, ?_⟩
  cases hi : inP x y with
  | false => rw [prV_out hm hi] at h; exact absurd h (by decide)
  | true =>
    have hb : (-1000 ≤ x ∧ x ≤ 1000) ∧ (-1000 ≤ y ∧ y ≤ 1000) := by
      unfold inP at hi; simpa using hi
    have ga : ∀ t ∈ paL m x y, Good t := by
      intro t ht
      unfold paL at ht
      simp only [List.mem_cons, List.not_mem_nil, or_false] at ht
      rcases ht with rfl | rfl
      · exact muQ_good h3 (whole_ok (by omega))
      · exact muQ_good h4 (whole_ok (by omega))
    have gu : ∀ t ∈ puL m x y, Good t := by
      intro t ht
      unfold puL at ht
      simp only [List.mem_cons, List.not_mem_nil, or_false] at ht
      rcases ht with rfl | rfl
      · exact muQ_good h4 (whole_ok (by omega))
      · exact muQ_good h3 (whole_ok (by omega))
    by_cases ha : (paQ m x y).c = 0
    case neg => rw [prV_a hm hi ha] at h; exact absurd h ha
    by_cases hu : (puQ m x y).c = 0
    case neg => rw [prV_u hm hi ha hu] at h; exact absurd h hu
    rw [prV_ok hm hi ha hu]
    refine ⟨?_, ?_⟩
    · have := psA_good h1 ga (paL m x y).length
      rw [psA_all] at this; exact this ha
    · have := psA_good h2 gu (puL m x y).length
      rw [psA_all] at this; exact this hu
theorem rs_three {m : Mdl} {k : Mrk} (hk : -1000 ≤ k.dx ∧ k.dx ≤ 1000 ∧ -1000 ≤ k.dy ∧ k.dy ≤ 1000) (h : (prV m k.x k.y).c = 0) : Good (rsX m k) ∧ Good (rsY m k) := by
  obtain ⟨_, h1, h2⟩ := prV_good h
  exact ⟨suQ_good (whole_ok (by omega)) h1, suQ_good (whole_ok (by omega)) h2⟩
theorem rsC_md {m : Mdl} {k : Mrk} {t : List Mrk} (h : mdF m ≠ 0) : rsC m (k :: t) = mdF m := by
  have e : rsc m k = mdF m := by unfold rsc; rw [prV_md h, if_pos h]
  rw [rsC, e, if_pos h]
theorem rdC_ms {s : List Mrk} {m : Mdl} (h : msF s ≠ 0) : rdC s m = msF s := by unfold rdC; rw [if_pos h]
theorem rdC_rs {s : List Mrk} {m : Mdl} (h : msF s = 0) : rdC s m = rsC m s := by unfold rdC; rw [if_neg (by simpa using h)]

end Go.Proofs.Ytdidmjgilnhncaa
