/- Proved here: sums, products and quotients of fractions as numbers: what each answers, what a change of sign does to it, and sums one after the other with the first code. No condition on the program. -/
import Derived.Test.YtjacmneopijiaaaBoth
import Derived.Test.YtjacmneopijiaaaMulB
namespace Go.Proofs.Ytjacmneopijiaaa
open Go.RowKit
set_option linter.unusedVariables false

/-- A fraction. -/
structure Fr where
  n : Int
  d : Int
/-- A code and a fraction. -/
structure QR where
  c : Int
  n : Int
  d : Int
def QR.fr (q : QR) : Fr := ⟨q.n, q.d⟩
theorem QR.ext {a b : QR} (h1 : a.c = b.c) (h2 : a.n = b.n) (h3 : a.d = b.d) : a = b := by
  cases a; cases b; cases h1; cases h2; cases h3; rfl
theorem Fr.ext {a b : Fr} (h2 : a.n = b.n) (h3 : a.d = b.d) : a = b := by
  cases a; cases b; cases h2; cases h3; rfl
/-- The quotient in lowest terms, with its code. -/
def rqQ (n d : Int) : QR := ⟨rqC n d, rqN n d, rqD n d⟩
def okR (f : Fr) : Bool := okF f.n f.d
def adQ (a b : Fr) : QR := if bothB a.n a.d b.n b.d then rqQ (a.n * b.d + b.n * a.d) (a.d * b.d) else ⟨1, 0, 0⟩
def suQ (a b : Fr) : QR := if bothB a.n a.d b.n b.d then rqQ (a.n * b.d - b.n * a.d) (a.d * b.d) else ⟨1, 0, 0⟩
def muQ (a b : Fr) : QR := if bothB a.n a.d b.n b.d then rqQ (a.n * b.n) (a.d * b.d) else ⟨1, 0, 0⟩
def diQ (a b : Fr) : QR := if bothB a.n a.d b.n b.d then (if b.n = 0 then ⟨6, 0, 0⟩ else if 1 ≤ b.n then rqQ (a.n * b.d) (a.d * b.n) else rqQ (-(a.n * b.d)) (-(a.d * b.n))) else ⟨1, 0, 0⟩
/-- An answer with a code has no fraction. -/
def Tidy (q : QR) : Prop := q.c ≠ 0 → q.n = 0 ∧ q.d = 0
/-- An answer without a code is right. -/
def Good (q : QR) : Prop := Tidy q ∧ (q.c = 0 → okR q.fr = true) ∧ (q.c = 0 ∨ q.c = 3)

theorem rqQ_good (n d : Int) (hd : 1 ≤ d) : Good (rqQ n d) := by
  have hg := FracMath.low_coprime n d hd
  cases h : inB (lowN n d) (lowD n d)
  · have e : rqQ n d = ⟨3, 0, 0⟩ := by simp [rqQ, rqC, rqN, rqD, h]
    rw [e]
    refine ⟨fun _ => ⟨rfl, rfl⟩, fun h => ?_, Or.inr rfl⟩
    exact absurd h (by decide)
  · have e : rqQ n d = ⟨0, lowN n d, lowD n d⟩ := by simp [rqQ, rqC, rqN, rqD, h]
    rw [e]
    refine ⟨fun h0 => absurd rfl h0, fun _ => ?_, Or.inl rfl⟩
    show okF (lowN n d) (lowD n d) = true
    unfold okF
    rw [h, Bool.true_and]
    exact decide_eq_true hg
theorem okR_both {a b : Fr} (ha : okR a = true) (hb : okR b = true) : bothB a.n a.d b.n b.d = true := by
  unfold bothB okR at *; rw [ha, hb]; rfl
theorem okR_pos {a : Fr} (h : okR a = true) : 1 ≤ a.d ∧ a.d ≤ 1000000000 ∧ -1000000000 ≤ a.n ∧ a.n ≤ 1000000000 := inB_true (okF_in h).1
theorem adQ_good {a b : Fr} (ha : okR a = true) (hb : okR b = true) : Good (adQ a b) := by
  unfold adQ; rw [if_pos (okR_both ha hb)]
  exact rqQ_good _ _ (mul_pos (okR_pos ha).1 (okR_pos hb).1)
theorem suQ_good {a b : Fr} (ha : okR a = true) (hb : okR b = true) : Good (suQ a b) := by
  unfold suQ; rw [if_pos (okR_both ha hb)]
  exact rqQ_good _ _ (mul_pos (okR_pos ha).1 (okR_pos hb).1)
theorem muQ_good {a b : Fr} (ha : okR a = true) (hb : okR b = true) : Good (muQ a b) := by
  unfold muQ; rw [if_pos (okR_both ha hb)]
  exact rqQ_good _ _ (mul_pos (okR_pos ha).1 (okR_pos hb).1)
theorem diQ_good {a b : Fr} (ha : okR a = true) (hb : okR b = true) (h0 : b.n ≠ 0) : Good (diQ a b) := by
  unfold diQ; rw [if_pos (okR_both ha hb), if_neg h0]
  by_cases h : 1 ≤ b.n
  · rw [if_pos h]; exact rqQ_good _ _ (mul_pos (okR_pos ha).1 h)
  · rw [if_neg h]
    have := mul_pos (x := a.d) (y := -b.n) (okR_pos ha).1 (by omega)
    rw [Int.mul_neg] at this
    exact rqQ_good _ _ this

/-- The opposite. -/
def Fr.neg (a : Fr) : Fr := ⟨-a.n, a.d⟩
def QR.neg (q : QR) : QR := ⟨q.c, -q.n, q.d⟩
theorem gz_neg (n d : Int) : gz (-n) d = gz n d := by unfold gz; rw [Int.neg_gcd]
theorem lowN_opp (n d : Int) : lowN (-n) d = - lowN n d := by unfold lowN; rw [gz_neg, Int.neg_tdiv]
theorem lowD_opp (n d : Int) : lowD (-n) d = lowD n d := by unfold lowD; rw [gz_neg]
theorem inB_opp (n d : Int) : inB (-n) d = inB n d := by
  unfold inB
  rw [decide_eq_decide]
  omega
theorem rqQ_neg (n d : Int) : rqQ (-n) d = (rqQ n d).neg := by
  unfold rqQ QR.neg rqC rqN rqD
  rw [lowN_opp, lowD_opp, inB_opp]
  cases inB (lowN n d) (lowD n d) <;> simp
theorem okF_opp (n d : Int) : okF (-n) d = okF n d := by
  unfold okF; rw [inB_opp, Int.neg_gcd]
theorem okR_neg (a : Fr) : okR a.neg = okR a := okF_opp a.n a.d
theorem muQ_neg (a b : Fr) : muQ a b.neg = (muQ a b).neg := by
  unfold muQ bothB
  rw [show okF b.neg.n b.neg.d = okF b.n b.d from okF_opp b.n b.d]
  cases okF a.n a.d && okF b.n b.d
  · rfl
  · simp only [Fr.neg, if_true, Int.mul_neg]
    exact rqQ_neg _ _
theorem adQ_neg (a b : Fr) : adQ a b.neg = suQ a b := by
  unfold adQ suQ bothB
  rw [show okF b.neg.n b.neg.d = okF b.n b.d from okF_opp b.n b.d]
  cases okF a.n a.d && okF b.n b.d
  · rfl
  · simp only [Fr.neg, if_true, Int.neg_mul]
    rfl
theorem rqQ_low {n d : Int} (h : okF n d = true) : rqQ n d = ⟨0, n, d⟩ := by
  obtain ⟨h1, h2⟩ := okF_in h
  have hN : lowN n d = n := by unfold lowN gz; rw [h2]; simp
  have hD : lowD n d = d := by unfold lowD gz; rw [h2]; simp
  unfold rqQ rqC rqN rqD
  rw [hN, hD, h1]; rfl
/-- A whole number. -/
def whole (n : Int) : Fr := ⟨n, 1⟩
theorem whole_ok {n : Int} (h : -1000000000 ≤ n ∧ n ≤ 1000000000) : okR (whole n) = true := by
  unfold okR whole okF
  rw [inB_mk (by omega : (1 : Int) ≤ 1 ∧ (1 : Int) ≤ 1000000000 ∧ -1000000000 ≤ n ∧ n ≤ 1000000000)]
  simp
theorem muQ_one {a : Fr} (h : okR a = true) : muQ a (whole 1) = ⟨0, a.n, a.d⟩ := by
  unfold muQ
  rw [if_pos (okR_both h (whole_ok (by omega)))]
  show rqQ (a.n * 1) (a.d * 1) = _
  rw [Int.mul_one, Int.mul_one]
  exact rqQ_low h

/-- One more is added to a sum on its way. -/
def adA (a r : QR) : QR := if a.c ≠ 0 then a else if r.c ≠ 0 then ⟨r.c, a.n, a.d⟩ else adQ a.fr r.fr
def startQ (s : Fr) : QR := ⟨0, s.n, s.d⟩
/-- A sum with its first code; with a code there is no fraction. -/
def zq (a : QR) : QR := if a.c = 0 then a else ⟨a.c, 0, 0⟩
def sumA (s : Fr) (ts : List QR) : QR := ts.foldl adA (startQ s)
theorem adA_code {a : QR} (h : a.c ≠ 0) (r : QR) : adA a r = a := by unfold adA; rw [if_pos h]
theorem foldA_code {a : QR} (h : a.c ≠ 0) (ts : List QR) : ts.foldl adA a = a := by
  induction ts with
  | nil => rfl
  | cons t ts ih => rw [List.foldl_cons, adA_code h]; exact ih
theorem adA_ok {a r : QR} (h : a.c = 0) (hr : r.c = 0) : adA a r = adQ a.fr r.fr := by
  unfold adA; rw [if_neg (by simpa using h), if_neg (by simpa using hr)]
theorem adA_bad {a r : QR} (h : a.c = 0) (hr : r.c ≠ 0) : (adA a r).c = r.c := by
  unfold adA; rw [if_neg (by simpa using h), if_pos hr]
/-- The sum of the first k. -/
def psA (s : Fr) (ts : List QR) (k : Nat) : QR := (ts.take k).foldl adA (startQ s)
theorem psA_zero (s : Fr) (ts : List QR) : psA s ts 0 = startQ s := rfl
theorem psA_all (s : Fr) (ts : List QR) : psA s ts ts.length = sumA s ts := by unfold psA sumA; rw [List.take_length]
theorem psA_succ (s : Fr) (ts : List QR) (k : Nat) (h : k < ts.length) : psA s ts (k + 1) = adA (psA s ts k) ts[k] := by
  unfold psA; rw [List.take_succ_eq_append_getElem h, List.foldl_append]; rfl
theorem sumA_stop {s : Fr} {ts : List QR} {k : Nat} (h : k ≤ ts.length) (hc : (psA s ts k).c ≠ 0) : sumA s ts = psA s ts k := by
  unfold sumA
  rw [← List.take_append_drop k ts, List.foldl_append]
  have e : ((ts.take k).foldl adA (startQ s)) = psA s ts k := rfl
  rw [e, foldA_code hc]
  congr 1
  rw [List.take_append_drop]
theorem psA_good {s : Fr} {ts : List QR} (hs : okR s = true) (ht : ∀ t ∈ ts, Good t) : ∀ k, (psA s ts k).c = 0 → okR (psA s ts k).fr = true := by
  intro k
  induction k with
  | zero => intro _; exact hs
  | succ k ih =>
    intro h0
    by_cases hk : k < ts.length
    · rw [psA_succ s ts k hk] at h0 ⊢
      by_cases hc : (psA s ts k).c = 0
      · by_cases hr : (ts[k]).c = 0
        · rw [adA_ok hc hr] at h0 ⊢
          exact (adQ_good (ih hc) ((ht _ (List.getElem_mem hk)).2.1 hr)).2.1 h0
        · exact absurd ((adA_bad hc hr).symm.trans h0) hr
      · rw [adA_code hc] at h0; exact absurd h0 hc
    · have e : psA s ts (k + 1) = psA s ts k := by unfold psA; rw [List.take_of_length_le (by omega), List.take_of_length_le (by omega)]
      rw [e] at h0 ⊢; exact ih h0
theorem psA_three {s : Fr} {ts : List QR} (hs : okR s = true) (ht : ∀ t ∈ ts, Good t) : ∀ k, (psA s ts k).c = 0 ∨ (psA s ts k).c = 3 := by
  intro k
  induction k with
  | zero => exact Or.inl rfl
  | succ k ih =>
    by_cases hk : k < ts.length
    · rw [psA_succ s ts k hk]
      by_cases hc : (psA s ts k).c = 0
      · by_cases hr : (ts[k]).c = 0
        · rw [adA_ok hc hr]
          exact (adQ_good (psA_good hs ht k hc) ((ht _ (List.getElem_mem hk)).2.1 hr)).2.2
        · rw [adA_bad hc hr]; exact (ht _ (List.getElem_mem hk)).2.2
      · rw [adA_code hc]; exact ih
    · have e : psA s ts (k + 1) = psA s ts k := by unfold psA; rw [List.take_of_length_le (by omega), List.take_of_length_le (by omega)]
      rw [e]; exact ih

end Go.Proofs.Ytjacmneopijiaaa
