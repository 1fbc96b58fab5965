/- Proved here: the best fit as numbers: sums over marks, their bounds, d is above 0; what is answered. No condition on the program. -/
import Derived.Test.YtdidmjgilnhncaaMaM
import Derived.Test.YtdidmjgilnhncaaOrC
import Derived.Test.YtdidmjgilnhncaaMdM
namespace Go.Proofs.Ytdidmjgilnhncaa
open Go.RowKit
set_option linter.unusedVariables false
set_option linter.unusedSimpArgs false

def smM (f : Mrk → Int) : List Mrk → Int
  | [] => 0
  | m :: t => f m + smM f t
theorem smM_app (f : Mrk → Int) (a b : List Mrk) : smM f (a ++ b) = smM f a + smM f b := by
  induction a with
  | nil => rw [List.nil_append, smM]; omega
  | cons m t ih => rw [List.cons_append, smM, smM, ih]; omega
theorem smM_take (f : Mrk → Int) {s : List Mrk} {k : Nat} (h : k < s.length) : smM f (s.take (k + 1)) = smM f (s.take k) + f s[k] := by
  rw [List.take_succ_eq_append_getElem h, smM_app, smM, smM]; omega
theorem smM_bd {f : Mrk → Int} {B : Int} {s : List Mrk} (h : ∀ m ∈ s, -B ≤ f m ∧ f m ≤ B) : -(B * (s.length : Int)) ≤ smM f s ∧ smM f s ≤ B * (s.length : Int) := by
  induction s with
  | nil => rw [smM]; simp
  | cons m t ih =>
    have h1 := h m (List.mem_cons_self ..)
    have h2 := ih (fun x hx => h x (List.mem_cons_of_mem _ hx))
    rw [smM, List.length_cons, Int.natCast_add, Int.mul_add]
    have e : B * ((1 : Nat) : Int) = B := by simp
    rw [e]; omega
theorem smM_nn {f : Mrk → Int} {s : List Mrk} (h : ∀ m ∈ s, 0 ≤ f m) : 0 ≤ smM f s := by
  induction s with
  | nil => exact Int.le_refl _
  | cons m t ih =>
    have h1 := h m (List.mem_cons_self ..)
    have h2 := ih (fun x hx => h x (List.mem_cons_of_mem _ hx))
    rw [smM]; omega
theorem smM_pos {f : Mrk → Int} {s : List Mrk} (h : ∀ m ∈ s, 0 ≤ f m) {a : Mrk} (ha : a ∈ s) (hp : 1 ≤ f a) : 1 ≤ smM f s := by
  induction s with
  | nil => cases ha
  | cons m t ih =>
    have h1 := h m (List.mem_cons_self ..)
    have h2 := smM_nn (fun x hx => h x (List.mem_cons_of_mem _ hx))
    rw [smM]
    rcases List.mem_cons.1 ha with rfl | ha
    · omega
    · have := ih (fun x hx => h x (List.mem_cons_of_mem _ hx)) ha; omega
def fX (m : Mrk) : Int := m.x
def fY (m : Mrk) : Int := m.y
def fQ (m : Mrk) : Int := m.x * m.x + m.y * m.y
def fU (m : Mrk) : Int := m.dx
def fV (m : Mrk) : Int := m.dy
def fA (m : Mrk) : Int := m.x * m.dx + m.y * m.dy
def fB (m : Mrk) : Int := m.x * m.dy - m.y * m.dx
def fmD (s : List Mrk) : Int := (s.length : Int) * smM fQ s - smM fX s * smM fX s - smM fY s * smM fY s
def fmK (s : List Mrk) : Int := (s.length : Int) * smM fA s - smM fX s * smM fU s - smM fY s * smM fV s
def fmR (s : List Mrk) : Int := (s.length : Int) * smM fB s - smM fX s * smM fV s + smM fY s * smM fU s
def fm1 (s : List Mrk) : QR := rqQ (smM fU s * fmD s - fmK s * smM fX s + fmR s * smM fY s) ((s.length : Int) * fmD s)
def fm2 (s : List Mrk) : QR := rqQ (smM fV s * fmD s - fmK s * smM fY s - fmR s * smM fX s) ((s.length : Int) * fmD s)
def fm3 (s : List Mrk) : QR := rqQ (fmK s) (fmD s)
def fm4 (s : List Mrk) : QR := rqQ (fmR s) (fmD s)
def fmC (s : List Mrk) : Int := if msF s ≠ 0 then msF s else orL [(fm1 s).c, (fm2 s).c, (fm3 s).c, (fm4 s).c]
def md0 : Mdl := ⟨fr0, fr0, fr0, fr0⟩
def fmM (s : List Mrk) : Mdl := if fmC s = 0 then ⟨(fm1 s).fr, (fm2 s).fr, (fm3 s).fr, (fm4 s).fr⟩ else md0
/-- How far from a mark. -/
def fW (a m : Mrk) : Int := (m.x - a.x) * (m.x - a.x) + (m.y - a.y) * (m.y - a.y)
theorem sq_nn (x : Int) : 0 ≤ x * x := by
  rcases Int.le_total 0 x with h | h
  · exact Int.mul_nonneg h h
  · exact Int.mul_nonneg_of_nonpos_of_nonpos h h
theorem sq_pos {x : Int} (h : x ≠ 0) : 1 ≤ x * x := by
  have h1 := sq_nn x
  have h2 : x * x ≠ 0 := fun e => by rcases Int.mul_eq_zero.1 e with h' | h' <;> exact h h'
  omega
theorem fW_sum (a : Mrk) (s : List Mrk) : smM (fW a) s = smM fQ s - 2 * a.x * smM fX s - 2 * a.y * smM fY s + (s.length : Int) * (a.x * a.x + a.y * a.y) := by
  induction s with
  | nil => simp [smM]
  | cons m t ih =>
    rw [smM, smM, smM, smM, ih, List.length_cons, Int.natCast_add]
    unfold fW fQ fX fY
    grind
theorem fmD_cons (a : Mrk) (t : List Mrk) : fmD (a :: t) = fmD t + smM (fW a) t := by
  rw [fW_sum]
  unfold fmD
  rw [smM, smM, smM, List.length_cons, Int.natCast_add]
  unfold fQ fX fY
  grind
theorem fW_nn (a m : Mrk) : 0 ≤ fW a m := by
  have h1 := sq_nn (m.x - a.x)
  have h2 := sq_nn (m.y - a.y)
  unfold fW; omega
theorem fmD_nn (s : List Mrk) : 0 ≤ fmD s := by
  induction s with
  | nil => unfold fmD; simp [smM]
  | cons a t ih =>
    have := smM_nn (f := fW a) (s := t) (fun m _ => fW_nn a m)
    rw [fmD_cons]; omega
theorem fmD_pos {s : List Mrk} (h : msF s = 0) : 1 ≤ fmD s := by
  have h1 := msF_ok h
  cases s with
  | nil => simp at h1
  | cons a t =>
    rw [msF_is2 (by omega) (by omega)] at h
    cases hb : (a :: t).any beyM with
    | true => rw [if_pos hb] at h; exact absurd h (by decide)
    | false =>
      rw [if_neg (by rw [hb]; decide)] at h
      cases ha : (a :: t).any (aptM a) with
      | false => rw [ha] at h; exact absurd h (by decide)
      | true =>
        obtain ⟨m, hm, hap⟩ := List.any_eq_true.1 ha
        have hne : m.x - a.x ≠ 0 ∨ m.y - a.y ≠ 0 := by
          unfold aptM at hap
          simp only [Bool.or_eq_true, decide_eq_true_eq] at hap
          omega
        have hmt : m ∈ t := by
          rcases List.mem_cons.1 hm with rfl | hm
          · omega
          · exact hm
        have hw : 1 ≤ fW a m := by
          have h2 := sq_nn (m.x - a.x)
          have h3 := sq_nn (m.y - a.y)
          unfold fW
          rcases hne with e | e
          · have := sq_pos e; omega
          · have := sq_pos e; omega
        have h4 := smM_pos (f := fW a) (fun x _ => fW_nn a x) hmt hw
        have h5 := fmD_nn t
        rw [fmD_cons]; omega
theorem pr_in {x y A B : Int} (h1 : -A ≤ x) (h2 : x ≤ A) (h3 : -B ≤ y) (h4 : y ≤ B) : -(A * B) ≤ x * y ∧ x * y ≤ A * B := by
  have key : ∀ u v : Int, 0 ≤ u → u ≤ A → 0 ≤ v → v ≤ B → 0 ≤ u * v ∧ u * v ≤ A * B := fun u v a b c d =>
    ⟨Int.mul_nonneg a c, Int.mul_le_mul b d c (by omega)⟩
  rcases Int.le_total 0 x with hx | hx <;> rcases Int.le_total 0 y with hy | hy
  · have := key x y hx h2 hy h4; omega
  · have := key x (-y) hx h2 (by omega) (by omega); rw [Int.mul_neg] at this; omega
  · have := key (-x) y (by omega) (by omega) hy h4; rw [Int.neg_mul] at this; omega
  · have := key (-x) (-y) (by omega) (by omega) (by omega) (by omega); rw [Int.neg_mul_neg] at this; omega
/-- The bounds of a mark's numbers. -/
theorem mk_bd {m : Mrk} (h : -50 ≤ m.x ∧ m.x ≤ 50 ∧ -50 ≤ m.y ∧ m.y ≤ 50 ∧ -1000 ≤ m.dx ∧ m.dx ≤ 1000 ∧ -1000 ≤ m.dy ∧ m.dy ≤ 1000) :
    (-2500 ≤ m.x * m.x ∧ m.x * m.x ≤ 2500) ∧ (-2500 ≤ m.y * m.y ∧ m.y * m.y ≤ 2500) ∧ (-50000 ≤ m.x * m.dx ∧ m.x * m.dx ≤ 50000) ∧ (-50000 ≤ m.y * m.dy ∧ m.y * m.dy ≤ 50000) ∧ (-50000 ≤ m.x * m.dy ∧ m.x * m.dy ≤ 50000) ∧ (-50000 ≤ m.y * m.dx ∧ m.y * m.dx ≤ 50000) := by
  have a := pr_in (A := 50) (B := 50) (x := m.x) (y := m.x) (by omega) (by omega) (by omega) (by omega)
  have b := pr_in (A := 50) (B := 50) (x := m.y) (y := m.y) (by omega) (by omega) (by omega) (by omega)
  have c := pr_in (A := 50) (B := 1000) (x := m.x) (y := m.dx) (by omega) (by omega) (by omega) (by omega)
  have d := pr_in (A := 50) (B := 1000) (x := m.y) (y := m.dy) (by omega) (by omega) (by omega) (by omega)
  have e := pr_in (A := 50) (B := 1000) (x := m.x) (y := m.dy) (by omega) (by omega) (by omega) (by omega)
  have f := pr_in (A := 50) (B := 1000) (x := m.y) (y := m.dx) (by omega) (by omega) (by omega) (by omega)
  omega
theorem sums_bd {s : List Mrk} (hl : s.length ≤ 20) (h : ∀ m ∈ s, -50 ≤ m.x ∧ m.x ≤ 50 ∧ -50 ≤ m.y ∧ m.y ≤ 50 ∧ -1000 ≤ m.dx ∧ m.dx ≤ 1000 ∧ -1000 ≤ m.dy ∧ m.dy ≤ 1000) :
    (-1000 ≤ smM fX s ∧ smM fX s ≤ 1000) ∧ (-1000 ≤ smM fY s ∧ smM fY s ≤ 1000) ∧ (-100000 ≤ smM fQ s ∧ smM fQ s ≤ 100000) ∧ (-20000 ≤ smM fU s ∧ smM fU s ≤ 20000) ∧ (-20000 ≤ smM fV s ∧ smM fV s ≤ 20000) ∧ (-2000000 ≤ smM fA s ∧ smM fA s ≤ 2000000) ∧ (-2000000 ≤ smM fB s ∧ smM fB s ≤ 2000000) := by
  have hX := smM_bd (f := fX) (B := 50) (s := s) (fun m hm => by have a := h m hm; have b := mk_bd a; unfold fX; omega)
  have hY := smM_bd (f := fY) (B := 50) (s := s) (fun m hm => by have a := h m hm; have b := mk_bd a; unfold fY; omega)
  have hQ := smM_bd (f := fQ) (B := 5000) (s := s) (fun m hm => by have a := h m hm; have b := mk_bd a; unfold fQ; omega)
  have hU := smM_bd (f := fU) (B := 1000) (s := s) (fun m hm => by have a := h m hm; have b := mk_bd a; unfold fU; omega)
  have hV := smM_bd (f := fV) (B := 1000) (s := s) (fun m hm => by have a := h m hm; have b := mk_bd a; unfold fV; omega)
  have hA := smM_bd (f := fA) (B := 100000) (s := s) (fun m hm => by have a := h m hm; have b := mk_bd a; unfold fA; omega)
  have hB := smM_bd (f := fB) (B := 100000) (s := s) (fun m hm => by have a := h m hm; have b := mk_bd a; unfold fB; omega)
  omega
/-- The bounds of what is reckoned. -/
theorem fit_bd {s : List Mrk} (h : msF s = 0) : (2 ≤ (s.length : Int) ∧ (s.length : Int) ≤ 20) ∧ (1 ≤ fmD s ∧ fmD s ≤ 4000000) ∧ (-80000000 ≤ fmK s ∧ fmK s ≤ 80000000) ∧ (-80000000 ≤ fmR s ∧ fmR s ≤ 80000000) := by
  have h1 := msF_ok h
  have hb := sums_bd h1.2.1 h1.2.2
  have hd := fmD_pos h
  have a1 := pr_in (A := 20) (B := 100000) (x := (s.length : Int)) (y := smM fQ s) (by omega) (by omega) (by omega) (by omega)
  have a2 := sq_nn (smM fX s)
  have a3 := sq_nn (smM fY s)
  have b1 := pr_in (A := 20) (B := 2000000) (x := (s.length : Int)) (y := smM fA s) (by omega) (by omega) (by omega) (by omega)
  have b2 := pr_in (A := 20) (B := 2000000) (x := (s.length : Int)) (y := smM fB s) (by omega) (by omega) (by omega) (by omega)
  have c1 := pr_in (A := 1000) (B := 20000) (x := smM fX s) (y := smM fU s) (by omega) (by omega) (by omega) (by omega)
  have c2 := pr_in (A := 1000) (B := 20000) (x := smM fX s) (y := smM fV s) (by omega) (by omega) (by omega) (by omega)
  have c3 := pr_in (A := 1000) (B := 20000) (x := smM fY s) (y := smM fU s) (by omega) (by omega) (by omega) (by omega)
  have c4 := pr_in (A := 1000) (B := 20000) (x := smM fY s) (y := smM fV s) (by omega) (by omega) (by omega) (by omega)
  unfold fmD fmK fmR at *
  omega
theorem fmC_ms {s : List Mrk} (h : msF s ≠ 0) : fmC s = msF s := by unfold fmC; rw [if_pos h]
theorem fmC_or {s : List Mrk} (h : msF s = 0) : fmC s = orL [(fm1 s).c, (fm2 s).c, (fm3 s).c, (fm4 s).c] := by unfold fmC; rw [if_neg (by simpa using h)]

end Go.Proofs.Ytdidmjgilnhncaa
