/- Proved here: what it is that a slice holds a list of edges, and small rules on it (as BoxBase). (And ahead of it: Proved here: the program's sweep, by heights and edges, makes of two lists of boxes what the model's makes. No condition on the program.) -/
import Derived.Test.YtmpbcdolikafpaaSwMath
import Derived.Test.YtmpbcdolikafpaaBoxBase
namespace Go.Proofs.Ytmpbcdolikafpaa
set_option linter.unusedVariables false
set_option linter.unusedSimpArgs false

def ed1 (b : Bx) : List Ed := [⟨b.x0, b.y0, b.y1, 1, 0⟩, ⟨b.x1, b.y0, b.y1, -1, 0⟩]
def ed2 (b : Bx) : List Ed := [⟨b.x0, b.y0, b.y1, 0, 1⟩, ⟨b.x1, b.y0, b.y1, 0, -1⟩]
/-- All edges of two lists. -/
def edges (a b : List Bx) : List Ed := a.flatMap ed1 ++ b.flatMap ed2
/-- The edges of the boxes that have the row from low to high. -/
def crossK (low high : Int) (M : List Ed) : List Ed := M.filter fun e => decide (e.y0 ≤ low) && decide (high ≤ e.y1)

theorem cross_flat {low high : Int} (g : Bx → List Ed) (hg : ∀ b, ∀ e ∈ g b, e.y0 = b.y0 ∧ e.y1 = b.y1) : ∀ (a : List Bx), (∀ b ∈ a, b.y1 ≤ low ∨ high ≤ b.y1) → low < high → crossK low high (a.flatMap g) = (rowK a low).flatMap g := by
  intro a
  induction a with
  | nil => intro _ _; rfl
  | cons b t ih =>
    intro h hlh
    have i := ih (fun q hq => h q (by simp [hq])) hlh
    have hb := h b (by simp)
    unfold crossK rowK at i ⊢
    rw [List.flatMap_cons, List.filter_append, i, List.filter_cons]
    by_cases hin : b.y0 ≤ low ∧ low < b.y1
    · have e1 : (g b).filter (fun e => decide (e.y0 ≤ low) && decide (high ≤ e.y1)) = g b := by
        rw [List.filter_eq_self]
        intro e he
        have := hg b e he
        simp; omega
      have e2 : (decide (b.y0 ≤ low) && decide (low < b.y1)) = true := by simp [hin]
      rw [e1, e2]; rfl
    · have e1 : (g b).filter (fun e => decide (e.y0 ≤ low) && decide (high ≤ e.y1)) = [] := by
        rw [List.filter_eq_nil_iff]
        intro e he
        have := hg b e he
        simp; omega
      have e2 : (decide (b.y0 ≤ low) && decide (low < b.y1)) = false := by rw [Bool.eq_false_iff]; simpa using hin
      rw [e1, e2]; rfl

theorem cross_edges {low high : Int} {a b : List Bx} (ha : ∀ q ∈ a, q.y1 ≤ low ∨ high ≤ q.y1) (hb : ∀ q ∈ b, q.y1 ≤ low ∨ high ≤ q.y1) (h : low < high) : crossK low high (edges a b) = edges (rowK a low) (rowK b low) := by
  have h1 := cross_flat ed1 (fun b e he => by simp [ed1] at he; rcases he with h | h <;> subst h <;> exact ⟨rfl, rfl⟩) a ha h
  have h2 := cross_flat ed2 (fun b e he => by simp [ed2] at he; rcases he with h | h <;> subst h <;> exact ⟨rfl, rfl⟩) b hb h
  unfold edges
  rw [show crossK low high (a.flatMap ed1 ++ b.flatMap ed2) = crossK low high (a.flatMap ed1) ++ crossK low high (b.flatMap ed2) from List.filter_append .., h1, h2]

theorem cnt_pos {x : Int} : ∀ (p : List Bx), (∀ b ∈ p, b.x0 < b.x1) → 0 ≤ sumE (fun e => if e.x ≤ x then e.f else 0) (p.flatMap ed1) ∧ (0 < sumE (fun e => if e.x ≤ x then e.f else 0) (p.flatMap ed1) ↔ inK p x = true) ∧ sumE (fun e => if e.x ≤ x then e.s else 0) (p.flatMap ed1) = 0 := by
  intro p
  induction p with
  | nil => intro _; simp [sumE, inK]
  | cons b t ih =>
    intro h
    obtain ⟨i1, i2, i3⟩ := ih (fun q hq => h q (by simp [hq]))
    have hb := h b (by simp)
    have hin : inK (b :: t) x = ((decide (b.x0 ≤ x) && decide (x < b.x1)) || inK t x) := rfl
    rw [List.flatMap_cons, sumE_append, sumE_append, hin]
    simp only [ed1, sumE]
    refine ⟨?_, ?_, ?_⟩
    · split <;> split <;> omega
    · by_cases h1 : b.x0 ≤ x
      · by_cases h2 : b.x1 ≤ x
        · have e : (decide (b.x0 ≤ x) && decide (x < b.x1)) = false := by simp; omega
          rw [if_pos h1, if_pos h2, e, Bool.false_or, ← i2]
          constructor <;> intro h3 <;> omega
        · have e : (decide (b.x0 ≤ x) && decide (x < b.x1)) = true := by simp; omega
          rw [if_pos h1, if_neg h2, e, Bool.true_or]
          exact ⟨fun _ => rfl, fun _ => by omega⟩
      · have e : (decide (b.x0 ≤ x) && decide (x < b.x1)) = false := by simp; omega
        rw [if_neg h1, if_neg (by omega), e, Bool.false_or, ← i2]
        constructor <;> intro h3 <;> omega
    · rw [i3]; split <;> split <;> omega
theorem cnt_pos2 {x : Int} : ∀ (p : List Bx), (∀ b ∈ p, b.x0 < b.x1) → 0 ≤ sumE (fun e => if e.x ≤ x then e.s else 0) (p.flatMap ed2) ∧ (0 < sumE (fun e => if e.x ≤ x then e.s else 0) (p.flatMap ed2) ↔ inK p x = true) ∧ sumE (fun e => if e.x ≤ x then e.f else 0) (p.flatMap ed2) = 0 := by
  intro p
  induction p with
  | nil => intro _; simp [sumE, inK]
  | cons b t ih =>
    intro h
    obtain ⟨i1, i2, i3⟩ := ih (fun q hq => h q (by simp [hq]))
    have hb := h b (by simp)
    have hin : inK (b :: t) x = ((decide (b.x0 ≤ x) && decide (x < b.x1)) || inK t x) := rfl
    rw [List.flatMap_cons, sumE_append, sumE_append, hin]
    simp only [ed2, sumE]
    refine ⟨?_, ?_, ?_⟩
    · split <;> split <;> omega
    · by_cases h1 : b.x0 ≤ x
      · by_cases h2 : b.x1 ≤ x
        · have e : (decide (b.x0 ≤ x) && decide (x < b.x1)) = false := by simp; omega
          rw [if_pos h1, if_pos h2, e, Bool.false_or, ← i2]
          constructor <;> intro h3 <;> omega
        · have e : (decide (b.x0 ≤ x) && decide (x < b.x1)) = true := by simp; omega
          rw [if_pos h1, if_neg h2, e, Bool.true_or]
          exact ⟨fun _ => rfl, fun _ => by omega⟩
      · have e : (decide (b.x0 ≤ x) && decide (x < b.x1)) = false := by simp; omega
        rw [if_neg h1, if_neg (by omega), e, Bool.false_or, ← i2]
        constructor <;> intro h3 <;> omega
    · rw [i3]; split <;> split <;> omega
theorem sum_f (p : List Bx) : sumE Ed.f (p.flatMap ed1) = 0 ∧ sumE Ed.s (p.flatMap ed1) = 0 ∧ sumE Ed.f (p.flatMap ed2) = 0 ∧ sumE Ed.s (p.flatMap ed2) = 0 := by
  induction p with
  | nil => exact ⟨rfl, rfl, rfl, rfl⟩
  | cons b t ih =>
    obtain ⟨h1, h2, h3, h4⟩ := ih
    simp only [List.flatMap_cons, sumE_append, h1, h2, h3, h4]
    simp [ed1, ed2, sumE]

/-- The runs of a row, by its edges. -/
theorem sweep_runs (K : Bool → Bool → Bool) (hK : K false false = false) {low high x0 : Int} {p q : List Bx} {M : List Ed} (hp : ∀ b ∈ p, b.x0 < b.x1) (hq : ∀ b ∈ q, b.x0 < b.x1) (hM : M.Perm (edges p q)) (hr : Rising M) :
    sweepE K low high M 0 0 false x0 [] = runsOf K p q low high := by
  have hat : ∀ x, decide (0 < atF M x) = inK p x ∧ decide (0 < atS M x) = inK q x := by
    intro x
    have c1 := cnt_pos (x := x) p hp
    have c2 := cnt_pos2 (x := x) q hq
    have e1 : atF M x = sumE (fun e => if e.x ≤ x then e.f else 0) (p.flatMap ed1) := by
      unfold atF; rw [sumE_perm hM]; unfold edges; rw [sumE_append, c2.2.2]; omega
    have e2 : atS M x = sumE (fun e => if e.x ≤ x then e.s else 0) (q.flatMap ed2) := by
      unfold atS; rw [sumE_perm hM]; unfold edges; rw [sumE_append, c1.2.2]; omega
    rw [e1, e2]
    refine ⟨?_, ?_⟩
    · rw [Bool.eq_iff_iff, decide_eq_true_eq]; exact c1.2.1
    · rw [Bool.eq_iff_iff, decide_eq_true_eq]; exact c2.2.1
  have hsf : sumE Ed.f M = 0 ∧ sumE Ed.s M = 0 := by
    have h1 := sum_f p
    have h2 := sum_f q
    rw [sumE_perm hM, sumE_perm hM]
    unfold edges
    rw [sumE_append, sumE_append]
    omega
  have hok := sweepE_ok K hK low high M hsf.1 hsf.2 hr M [] false x0 [] rfl ⟨Canon.nil _ _, fun x hx => ?_, (fun r hr => (by cases hr)), (fun h => (by cases h))⟩
  · obtain ⟨o1, o2⟩ := hok
    obtain ⟨r1, r2⟩ := runsOf_ok K hK p q low high
    refine canon_uniq o1 r1 fun x => ?_
    have := o2 x
    rw [(hat x).1, (hat x).2] at this
    rw [r2]; exact this
  · have hs := at_split (P := []) (R := M) (fun e he => by cases he) hx
    simp only [List.nil_append] at hs
    rw [hs.1, hs.2]
    constructor
    · intro h1; simp [sumE, hK] at h1
    · rintro (⟨r, hr, _⟩ | ⟨h1, _⟩)
      · cases hr
      · cases h1

/-- The program's step from one height to the next. -/
def stepI (R : Int → Int → List Bx) (st : List Bx × List Bx) (a b : Int) : List Bx × List Bx :=
  if goesOnK (R a b) st.2 then (st.1, raise st.2 b) else (st.1 ++ st.2, R a b)
def opI (R : Int → Int → List Bx) : List Int → List Bx × List Bx → List Bx
  | a :: b :: rest, st => opI R (b :: rest) (stepI R st a b)
  | _, st => st.1 ++ st.2

theorem step_same {R : Int → Int → List Bx} {st : List Bx × List Bx} {c d a0 t0 : Int} (hR : Canon c d (R c d)) (hl : Canon a0 t0 st.2) : stepI R st c d = stepO R st c d := by
  unfold stepI stepO
  cases hr : R c d with
  | nil =>
    cases hs : st.2 with
    | nil => simp [goesOnK, goesK, raise]
    | cons u l => simp [goesOnK, goesK]
  | cons b t =>
    rw [hr] at hR
    rw [goesOnK_eq (b :: t) st.2 hR hl (by simp)]

theorem opI_same {R S : Int → Int → List Bx} (full : List Int) (hS : ∀ c d, Canon c d (S c d)) (hRS : ∀ c d, c < d → c ∈ full → d ∈ full → (∀ z ∈ full, z ≤ c ∨ d ≤ z) → R c d = S c d) :
    ∀ (ys pre : List Int) (c : Int) (st : List Bx × List Bx), full = pre ++ c :: ys → Up full → (∃ a0 t0, Canon a0 t0 st.2) → opI R (c :: ys) st = opK S (c :: ys) st := by
  intro ys
  induction ys with
  | nil => intro pre c st _ _ _; rfl
  | cons d rest ih =>
    intro pre c st hf hu hl
    obtain ⟨a0, t0, hl⟩ := hl
    have hu' : Up (pre ++ c :: d :: rest) := by rw [← hf]; exact hu
    have hpp := List.pairwise_append.1 hu'
    have hc := List.pairwise_cons.1 hpp.2.1
    have hd := List.pairwise_cons.1 hc.2
    have hcd : c < d := hc.1 d (by simp)
    have he : R c d = S c d := hRS c d hcd (by rw [hf]; simp) (by rw [hf]; simp) fun z hz => by
      rw [hf] at hz
      rcases List.mem_append.1 hz with h1 | h1
      · have := hpp.2.2 z h1 c (by simp); omega
      · rcases List.mem_cons.1 h1 with h1 | h1
        · omega
        · rcases List.mem_cons.1 h1 with h1 | h1
          · omega
          · have := hd.1 z h1; omega
    have hst : stepI R st c d = stepO S st c d := by
      have h1 : stepI R st c d = stepI S st c d := by unfold stepI; rw [he]
      rw [h1]; exact step_same (hS c d) hl
    rw [opI, opK, hst]
    refine ih (pre ++ [c]) d _ (by rw [hf]; simp) hu ?_
    unfold stepO
    split
    · exact ⟨a0, d, raise_canon hl⟩
    · exact ⟨c, d, hS c d⟩

/-- The program's sweep makes what the model's makes. -/
theorem sweep_all (K : Bool → Bool → Bool) (hK : K false false = false) (x0 : Int) (a b : List Bx) (E : List Ed) (ys : List Int) (ha : ∀ q ∈ a, q.x0 < q.x1) (hb : ∀ q ∈ b, q.x0 < q.x1) (hE : E.Perm (edges a b)) (hr : Rising E) (hys : ys = endsF Bx.y0 Bx.y1 (endsF Bx.y0 Bx.y1 [] a) b) :
    opI (fun c d => sweepE K c d (crossK c d E) 0 0 false x0 []) ys ([], []) = opOf K a b := by
  unfold opOf
  rw [← hys]
  have hu : Up ys := by rw [hys]; exact endsF_up _ _ _ (endsF_up _ _ _ List.Pairwise.nil)
  have hm : ∀ z, z ∈ ys ↔ (∃ b ∈ a, z = b.y0 ∨ z = b.y1) ∨ ∃ q ∈ b, z = q.y0 ∨ z = q.y1 := by
    intro z; rw [hys, endsF_mem, endsF_mem]; simp
  cases ys with
  | nil => rfl
  | cons c t =>
    refine opI_same (c :: t) (fun c d => (runsOf_ok K hK _ _ c d).1) ?_ t [] c _ rfl hu ⟨0, 0, Canon.nil _ _⟩
    intro c' d' hcd _ _ hz
    have ha' : ∀ q ∈ a, q.y1 ≤ c' ∨ d' ≤ q.y1 := fun q hq => hz _ ((hm _).2 (Or.inl ⟨q, hq, Or.inr rfl⟩))
    have hb' : ∀ q ∈ b, q.y1 ≤ c' ∨ d' ≤ q.y1 := fun q hq => hz _ ((hm _).2 (Or.inr ⟨q, hq, Or.inr rfl⟩))
    refine sweep_runs K hK (fun q hq => ha q (List.mem_filter.1 hq).1) (fun q hq => hb q (List.mem_filter.1 hq).1) ?_ (List.Pairwise.sublist List.filter_sublist hr)
    rw [← cross_edges ha' hb' hcd]
    exact hE.filter _

end Go.Proofs.Ytmpbcdolikafpaa

namespace Go.Proofs.Ytmpbcdolikafpaa
open Go.RowKit
set_option linter.unusedVariables false

theorem info_edge : (Try.prog.info? 94).map (fun i => (i.zero, i.size, i.bytes)) = some (some (.agg #[.int .i64 0, .int .i64 0, .int .i64 0, .int .i64 0, .int .i64 0]), 5, 40) := by kernel_rfl

/-- The edge at a place of a list. -/
def eat (s : List Ed) (j : Nat) : Ed := s.getD j ⟨0, 0, 0, 0, 0⟩
theorem eat_get {s : List Ed} {j : Nat} (h : j < s.length) : eat s j = s[j] := by simp [eat, h]
theorem drop_eat {s : List Ed} {k : Nat} (h : k < s.length) : s.drop k = eat s k :: s.drop (k + 1) := by
  rw [eat_get h]; exact List.drop_eq_getElem_cons h
theorem take_eat {s : List Ed} {k : Nat} (h : k < s.length) : s.take (k + 1) = s.take k ++ [eat s k] := by
  rw [eat_get h]; exact (List.take_append_getElem h).symm

/-- An edge at cell o of block g. -/
structure EAt (w : World) (g o : Nat) (b : Ed) : Prop where
  x : w.cell? ⟨g, o, none⟩ = some (.int .i64 b.x)
  y0 : w.cell? ⟨g, o + 1, none⟩ = some (.int .i64 b.y0)
  y1 : w.cell? ⟨g, o + 2, none⟩ = some (.int .i64 b.y1)
  f : w.cell? ⟨g, o + 3, none⟩ = some (.int .i64 b.f)
  s : w.cell? ⟨g, o + 4, none⟩ = some (.int .i64 b.s)

/-- A slice that can be read as a list of edges. -/
def RE (w : World) (v : Value) (s : List Ed) : Prop :=
  ∃ a c, v = .slice a s.length c ∧ (s ≠ [] → ∃ g o, a = some ⟨g, o, none⟩ ∧ g < w.heap.size ∧ ∀ j, j < s.length → EAt w g (o + j * 5) (eat s j))

theorem EAt.below {w w' : World} {g o : Nat} {b : Ed} (h : EAt w g o b) (hg : g < w.heap.size) (hb : Below w.heap.size w w') : EAt w' g o b :=
  ⟨(hb.cell (p := ⟨g, o, none⟩) hg).trans h.x, (hb.cell (p := ⟨g, o + 1, none⟩) hg).trans h.y0, (hb.cell (p := ⟨g, o + 2, none⟩) hg).trans h.y1, (hb.cell (p := ⟨g, o + 3, none⟩) hg).trans h.f, (hb.cell (p := ⟨g, o + 4, none⟩) hg).trans h.s⟩
theorem RE.below {w w' : World} {v : Value} {s : List Ed} (h : RE w v s) (hb : Below w.heap.size w w') : RE w' v s := by
  obtain ⟨a, c, rfl, h⟩ := h
  refine ⟨a, c, rfl, fun hn => ?_⟩
  obtain ⟨g, o, rfl, hg, hj⟩ := h hn
  exact ⟨g, o, rfl, Nat.lt_of_lt_of_le hg hb.size, fun j hl => (hj j hl).below hg hb⟩
theorem RE.pos {w : World} {v : Value} {s : List Ed} (h : RE w v s) (hn : 0 < s.length) : ∃ g o c, v = .slice (some ⟨g, o, none⟩) s.length c ∧ g < w.heap.size ∧ ∀ j, j < s.length → EAt w g (o + j * 5) (eat s j) := by
  obtain ⟨a, c, rfl, h⟩ := h
  obtain ⟨g, o, rfl, hg, hj⟩ := h (by intro e; rw [e] at hn; exact absurd hn (by simp))
  exact ⟨g, o, c, rfl, hg, hj⟩
theorem RE.form {w : World} {v : Value} {s : List Ed} (h : RE w v s) : ∃ a c, v = .slice a s.length c := by
  obtain ⟨a, c, rfl, _⟩ := h; exact ⟨a, c, rfl⟩

/-- An edge's five cells. -/
def ecells (b : Ed) : List Value := [.int .i64 b.x, .int .i64 b.y0, .int .i64 b.y1, .int .i64 b.f, .int .i64 b.s]
def eflat (s : List Ed) : List Value := s.flatMap ecells
theorem eflat_length (s : List Ed) : (eflat s).length = s.length * 5 := by
  induction s with
  | nil => rfl
  | cons b t ih => simp [eflat, ecells] at ih ⊢; omega
theorem eflat_append (s t : List Ed) : eflat (s ++ t) = eflat s ++ eflat t := by simp [eflat]
theorem eflat_get (s : List Ed) (j i : Nat) (hj : j < s.length) (hi : i < 5) : (eflat s)[j * 5 + i]? = (ecells (eat s j))[i]? := by
  induction s generalizing j with
  | nil => simp at hj
  | cons b t ih =>
    cases j with
    | zero =>
      have : (eflat (b :: t)) = ecells b ++ eflat t := rfl
      rw [this, List.getElem?_append_left (by simp [ecells]; omega)]
      simp [eat]
    | succ j =>
      have : (eflat (b :: t)) = ecells b ++ eflat t := rfl
      rw [this, List.getElem?_append_right (by simp [ecells]; omega)]
      have e : (j + 1) * 5 + i - (ecells b).length = j * 5 + i := by simp [ecells]; omega
      rw [e, ih j (by simpa using hj)]
      simp [eat]
theorem eflat_set (s : List Ed) (j i : Nat) (hj : j < s.length) (hi : i < 5) (b : Ed) (v : Value) (hb : (ecells (eat s j)).set i v = ecells b) : (eflat s).set (j * 5 + i) v = eflat (s.set j b) := by
  induction s generalizing j with
  | nil => simp at hj
  | cons c t ih =>
    have hf : (eflat (c :: t)) = ecells c ++ eflat t := rfl
    cases j with
    | zero =>
      rw [hf]
      rw [List.set_append_left _ _ (by simp [ecells]; omega)]
      simp only [eat, List.getD_cons_zero] at hb
      simp only [Nat.zero_mul, Nat.zero_add, hb, List.set_cons_zero]
      rfl
    | succ j =>
      rw [hf]
      rw [List.set_append_right _ _ (by simp [ecells]; omega)]
      have e : (j + 1) * 5 + i - (ecells c).length = j * 5 + i := by simp [ecells]; omega
      rw [e, ih j (by simpa using hj) (by simpa [eat] using hb)]
      rfl

/-- A list of edges that a slice of the call's own holds. -/
def ES (w : World) (B : Nat) (v : Value) (s : List Ed) : Prop := w.ownsRow B 94 5 v s.length (eflat s)

theorem ES.form {w : World} {B : Nat} {v : Value} {s : List Ed} (h : ES w B v s) : ∃ a c, v = .slice a s.length c := by
  rcases h.2 with ⟨rfl, h0⟩ | ⟨g, cap, cur, rfl, _⟩
  · exact ⟨none, 0, by rw [h0]⟩
  · exact ⟨_, _, rfl⟩
theorem ES.pos {w : World} {B : Nat} {v : Value} {s : List Ed} (h : ES w B v s) (hp : 0 < s.length) :
    ∃ g cap, v = .slice (some ⟨g, 0, none⟩) s.length cap ∧ B ≤ g ∧ g < w.heap.size ∧ ∀ j, j < s.length → EAt w g (0 + j * 5) (eat s j) := by
  rcases h.2 with ⟨_, h0⟩ | ⟨g, cap, cur, rfl, hB, hg, hn, hm, hs, ht⟩
  · omega
  · have key : ∀ j i, j < s.length → i < 5 → w.cell? ⟨g, 0 + j * 5 + i, none⟩ = (ecells (eat s j))[i]? := by
      intro j i hj hi
      have := World.ownsRow.cellAt (w := w) (g := g) (cap := cap) h (j * 5 + i) (by omega)
      rw [Nat.zero_add, this, eflat_get s j i hj hi]
    refine ⟨g, cap, rfl, hB, ?_, fun j hj => ⟨key j 0 hj (by omega), key j 1 hj (by omega), key j 2 hj (by omega), key j 3 hj (by omega), key j 4 hj (by omega)⟩⟩
    rcases Nat.lt_or_ge g w.heap.size with h' | h'
    · exact h'
    · rw [Array.getElem?_eq_none h'] at hg; cases hg
theorem ES.re {w : World} {B : Nat} {v : Value} {s : List Ed} (h : ES w B v s) : RE w v s := by
  obtain ⟨a, c, rfl⟩ := h.form
  refine ⟨a, c, rfl, fun hn => ?_⟩
  obtain ⟨g, cap, e, _, hg, hj⟩ := h.pos (List.length_pos_iff.2 hn)
  injection e with e1 _ _
  exact ⟨g, 0, e1, hg, hj⟩
theorem ES.kept {w w' : World} {B : Nat} {v : Value} {s : List Ed} (h : ES w B v s) (hb : ∀ g, v.ownBlock = some g → w'.heap[g]? = w.heap[g]?) : ES w' B v s := by
  refine ⟨h.1, ?_⟩
  rcases h.2 with h' | ⟨g, cap, cur, rfl, hB, hg, hr⟩
  · exact Or.inl h'
  · exact Or.inr ⟨g, cap, cur, rfl, hB, by rw [hb g rfl]; exact hg, hr⟩
theorem ES.below {w w' : World} {B : Nat} {v : Value} {s : List Ed} (h : ES w B v s) (hb : Below w.heap.size w w') : ES w' B v s :=
  h.kept fun g hg => hb.block g (World.ownsRow.lt h g hg).2
theorem ES.low {w : World} {A B : Nat} {v : Value} {s : List Ed} (h : ES w B v s) (hab : A ≤ B) : ES w A v s := by
  refine ⟨h.1, ?_⟩
  rcases h.2 with h' | ⟨g, cap, cur, rfl, hB, hr⟩
  · exact Or.inl h'
  · exact Or.inr ⟨g, cap, cur, rfl, Nat.le_trans hab hB, hr⟩
theorem ES.nil (w : World) (B : Nat) : ES w B (.slice none 0 0) [] := World.ownsRow_nil _ _ _ _
theorem ES.lit0 (w : World) (B : Nat) (hB : B ≤ w.heap.size) : ES (w.alloc (.cells #[] 94)) B (.slice (some ⟨w.heap.size, 0, none⟩) 0 0) [] :=
  World.ownsRow_lit w #[] 0 hB (by decide) (by simp)
/-- Behind the append of one edge. -/
theorem pushE {w wr w1 : World} {A B : Nat} {v v' : Value} {s : List Ed} {b : Ed} {ob : Obj} (hbs : ES wr A v s) (hab : B ≤ A) (hbl : Below B w wr) (hs : B ≤ wr.heap.size)
    (h : w1.ownsRow A 94 5 v' (s.length + 1) (eflat s ++ ecells b)) (hg : (wr.alloc ob).grownBy w1 v.ownBlock) : ES w1 A v' (s ++ [b]) ∧ Below B w w1 := by
  refine ⟨?_, (hbl.alloc hs ob).grown hg (by simp; omega) (fun k hk => Nat.le_trans hab (World.ownsRow.lt hbs k hk).1)⟩
  unfold ES
  rw [eflat_append, List.length_append]
  exact h

end Go.Proofs.Ytmpbcdolikafpaa
