/- Proved here: the first number that is not 0 (cmp.Or), of the program. (And ahead of it: Proved here: what marks miss by, as a number.) (And ahead of it: Proved here: residuals as numbers: codes and lists, told mark by mark. No condition on the program.) -/
import Derived.Test.YtdidmjgilnhncabMaC
import Derived.Test.YtdidmjgilnhncabFsB0
import Derived.Test.YtdidmjgilnhncabLwS
namespace Go.Proofs.Ytdidmjgilnhncab
open Go.RowKit
set_option linter.unusedVariables false
set_option linter.unusedSimpArgs false

/-- What is left at a mark. -/
def rsX (m : Mdl) (k : Mrk) : QR := suQ (whole k.dx) (prV m k.x k.y).x
def rsY (m : Mdl) (k : Mrk) : QR := suQ (whole k.dy) (prV m k.x k.y).y
def rsc (m : Mdl) (k : Mrk) : Int := if (prV m k.x k.y).c ≠ 0 then (prV m k.x k.y).c else if (rsX m k).c ≠ 0 then (rsX m k).c else (rsY m k).c
/-- The first code. -/
def rsC (m : Mdl) : List Mrk → Int
  | [] => 0
  | k :: t => if rsc m k ≠ 0 then rsc m k else rsC m t
def rsL (m : Mdl) (s : List Mrk) : List Fr := s.flatMap fun k => [(rsX m k).fr, (rsY m k).fr]
theorem rsL_len (m : Mdl) (s : List Mrk) : (rsL m s).length = 2 * s.length := by
  unfold rsL
  induction s with
  | nil => rfl
  | cons k t ih => rw [List.flatMap_cons, List.length_append, ih]; simp; omega
theorem rsL_take {m : Mdl} {s : List Mrk} {k : Nat} (h : k < s.length) : rsL m (s.take (k + 1)) = rsL m (s.take k) ++ [(rsX m s[k]).fr, (rsY m s[k]).fr] := by
  unfold rsL; rw [List.take_succ_eq_append_getElem h, List.flatMap_append]; simp
theorem rsC_drop {m : Mdl} {s : List Mrk} {k : Nat} (h : k < s.length) : rsC m (s.drop k) = if rsc m s[k] ≠ 0 then rsc m s[k] else rsC m (s.drop (k + 1)) := by
  rw [List.drop_eq_getElem_cons h, rsC]
def rdC (s : List Mrk) (m : Mdl) : Int := if msF s ≠ 0 then msF s else rsC m s
def rdL (s : List Mrk) (m : Mdl) : List Fr := if rdC s m = 0 then rsL m s else []
theorem rdL_len (s : List Mrk) (m : Mdl) : (rdL s m).length ≤ 40 := by
  unfold rdL
  by_cases h : msF s = 0
  · have h2 := (msF_ok h).2.1
    by_cases h3 : rdC s m = 0
    · rw [if_pos h3, rsL_len]; omega
    · rw [if_neg h3]; simp
  · have h3 : rdC s m ≠ 0 := by unfold rdC; rw [if_pos h]; exact h
    rw [if_neg h3]; simp
theorem muQ_all {a b : Fr} (ha : okR a = true) (hb : -1000000000 ≤ b.n ∧ b.n ≤ 1000000000 ∧ b.d = 1) : Good (muQ a b) := by
  refine muQ_good ha ?_
  have e : b = whole b.n := Fr.ext rfl hb.2.2
  rw [e]; exact whole_ok ⟨hb.1, hb.2.1⟩
/-- What is predicted without a code is right. -/
theorem prV_good {m : Mdl} {x y : Int} (h : (prV m x y).c = 0) : mdF m = 0 ∧ okR (prV m x y).x = true ∧ okR (prV m x y).y = true := by
  by_cases hm : mdF m = 0
  case neg => rw [prV_md hm] at h; exact absurd h hm
  obtain ⟨h1, h2, h3, h4⟩ := mdF_ok hm
  refine ⟨hm, ?_⟩
  cases hi : inP x y with
  | false => rw [prV_out hm hi] at h; exact absurd h (by decide)
  | true =>
    have hb : (-1000 ≤ x ∧ x ≤ 1000) ∧ (-1000 ≤ y ∧ y ≤ 1000) := by
      unfold inP at hi; simpa using hi
    have ga : ∀ t ∈ paL m x y, Good t := by
      intro t ht
      unfold paL at ht
      simp only [List.mem_cons, List.not_mem_nil, or_false] at ht
      rcases ht with rfl | rfl
      · exact muQ_good h3 (whole_ok (by omega))
      · exact muQ_good h4 (whole_ok (by omega))
    have gu : ∀ t ∈ puL m x y, Good t := by
      intro t ht
      unfold puL at ht
      simp only [List.mem_cons, List.not_mem_nil, or_false] at ht
      rcases ht with rfl | rfl
      · exact muQ_good h4 (whole_ok (by omega))
      · exact muQ_good h3 (whole_ok (by omega))
    by_cases ha : (paQ m x y).c = 0
    case neg => rw [prV_a hm hi ha] at h; exact absurd h ha
    by_cases hu : (puQ m x y).c = 0
    case neg => rw [prV_u hm hi ha hu] at h; exact absurd h hu
    rw [prV_ok hm hi ha hu]
    refine ⟨?_, ?_⟩
    · have := psA_good h1 ga (paL m x y).length
      rw [psA_all] at this; exact this ha
    · have := psA_good h2 gu (puL m x y).length
      rw [psA_all] at this; exact this hu
theorem rs_three {m : Mdl} {k : Mrk} (hk : -1000 ≤ k.dx ∧ k.dx ≤ 1000 ∧ -1000 ≤ k.dy ∧ k.dy ≤ 1000) (h : (prV m k.x k.y).c = 0) : Good (rsX m k) ∧ Good (rsY m k) := by
  obtain ⟨_, h1, h2⟩ := prV_good h
  exact ⟨suQ_good (whole_ok (by omega)) h1, suQ_good (whole_ok (by omega)) h2⟩
theorem rsC_md {m : Mdl} {k : Mrk} {t : List Mrk} (h : mdF m ≠ 0) : rsC m (k :: t) = mdF m := by
  have e : rsc m k = mdF m := by unfold rsc; rw [prV_md h, if_pos h]
  rw [rsC, e, if_pos h]
theorem rdC_ms {s : List Mrk} {m : Mdl} (h : msF s ≠ 0) : rdC s m = msF s := by unfold rdC; rw [if_pos h]
theorem rdC_rs {s : List Mrk} {m : Mdl} (h : msF s = 0) : rdC s m = rsC m s := by unfold rdC; rw [if_neg (by simpa using h)]

end Go.Proofs.Ytdidmjgilnhncab

namespace Go.Proofs.Ytdidmjgilnhncab
open Go.RowKit
set_option linter.unusedVariables false
set_option linter.unusedSimpArgs false

def sqL (L : List Fr) : List QR := L.map fun f => muQ f f
def moQ (s : List Mrk) (m : Mdl) : QR := if rdC s m ≠ 0 then ⟨rdC s m, 0, 0⟩ else zq (sumA (whole 0) (sqL (rdL s m)))
theorem moQ_bad {s : List Mrk} {m : Mdl} (h : rdC s m ≠ 0) : moQ s m = ⟨rdC s m, 0, 0⟩ := by unfold moQ; rw [if_pos h]
theorem moQ_ok {s : List Mrk} {m : Mdl} (h : rdC s m = 0) : moQ s m = zq (sumA (whole 0) (sqL (rdL s m))) := by unfold moQ; rw [if_neg (by simpa using h)]

end Go.Proofs.Ytdidmjgilnhncab

namespace Go.Proofs.Ytdidmjgilnhncab
open Go.RowKit
set_option linter.unusedVariables false
set_option linter.unusedSimpArgs false

/-- The first that is not 0. -/
def orL : List Int → Int
  | [] => 0
  | x :: t => if x = 0 then orL t else x
theorem orL_drop {xs : List Int} {k : Nat} (h : k < xs.length) : orL (xs.drop k) = if xs[k] = 0 then orL (xs.drop (k + 1)) else xs[k] := by
  rw [List.drop_eq_getElem_cons h, orL]

set_option maxRecDepth 10000 in
set_option maxHeartbeats 3200000 in
theorem impl_or {w : World} {g n : Nat} {xs : List Int} (hn : n ≤ 1000) (hl : n = xs.length) (h : ∀ j (hj : j < xs.length), w.cell? ⟨g, j, none⟩ = some (.int .i64 xs[j])) :
    Calls Try.prog 68 #[.slice (some ⟨g, 0, none⟩) n n] w fun e w' => e = .returned (.int .i64 (orL xs)) ∧ w' = w := by
  obtain ⟨G, hG⟩ : ∃ G, G = orL xs := ⟨_, rfl⟩
  rw [← hG]
  have H : Hid (n = xs.length ∧ G = orL xs ∧ ∀ j (hj : j < xs.length), w.cell? ⟨g, j, none⟩ = some (.int .i64 xs[j])) := ⟨hl, hG, h⟩
  clear hl hG h
  go_enter Try.func68, Try.ntmps68
  go_wp2
  go_loopw [8] (fun i wr => ∃ k : Nat, k ≤ n ∧ i = .int .i64 k ∧ wr = w ∧ Hid (G = orL (xs.drop k))) (fun i _ => n - (intOf i).toNat)
  case atStart => exact ⟨0, Nat.zero_le _, rfl, rfl, H.out.2.1⟩
  case round =>
    obtain ⟨k, hk, rfl, rfl, hR⟩ := hrel
    by_cases hlt : k < n
    · have hjl : k < xs.length := by rw [← H.out.1]; exact hlt
      have c0 := H.out.2.2 k hjl
      obtain ⟨x, hx⟩ : ∃ x, x = xs[k] := ⟨_, rfl⟩
      rw [← hx] at c0
      have HN : Hid (G = if x = 0 then orL (xs.drop (k + 1)) else x) := by unfold Hid; rw [hR.out, orL_drop hjl, hx]
      clear hx hR
      have b0 : (0 : Int) ≤ (k : Int) := by omega
      have b1 : (k : Int) < (n : Int) := by omega
      by_cases h0 : x = 0
      · have HN2 : Hid (G = orL (xs.drop (k + 1))) := by have e := HN.out; rw [if_pos h0] at e; exact e
        have hA : (x != 0) = false := by rw [h0]; rfl
        clear HN h0
        go_wp2
        go_roundw
        case rel => exact ⟨k + 1, by omega, by go_num, by first | rfl | trivial, HN2.out⟩
        case measure => simp [intOf]; omega
      · have HN2 : Hid (G = x) := by have e := HN.out; rw [if_neg h0] at e; exact e
        have hA : (x != 0) = true := by simpa using h0
        clear HN h0
        go_wp2
        go_returns
        exact ⟨by rw [HN2.out]; rfl, rfl⟩
    · have HN2 : Hid (G = 0) := by unfold Hid; rw [hR.out, List.drop_eq_nil_of_le (by rw [← H.out.1]; omega)]; rfl
      go_wp2
      go_returns
      exact ⟨by rw [HN2.out]; rfl, rfl⟩

end Go.Proofs.Ytdidmjgilnhncab
