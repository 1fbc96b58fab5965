/- Proved here: two lists of boxes in the one form that have the same cells are the same list; and which cells the sweep over the heights leaves. No condition on the program. (And ahead of it: Proved here: the cells of a list of up to 45000 boxes, by program and model.) -/
import Derived.Test.YtokdpgabmifdjabRim
import Derived.Test.YtokdpgabmifdjabShMath2
namespace Go.Proofs.Ytokdpgabmifdjab
open Go.RowKit
set_option linter.unusedVariables false
set_option linter.unusedSimpArgs false

def areaB (b : Bx) : Int := (b.x1 - b.x0) * (b.y1 - b.y0)
def areaS : List Bx → Int
  | [] => 0
  | b :: t => areaB b + areaS t
theorem areaS_append (s t : List Bx) : areaS (s ++ t) = areaS s + areaS t := by
  induction s with
  | nil => simp [areaS]
  | cons b u ih => simp only [List.cons_append, areaS, ih]; omega
theorem areaB_bd {b : Bx} (h : b.x0 < b.x1 ∧ b.y0 < b.y1 ∧ -10000 ≤ b.x0 ∧ -10000 ≤ b.y0 ∧ b.x1 ≤ 10000 ∧ b.y1 ≤ 10000) : 0 ≤ areaB b ∧ areaB b ≤ 400000000 := by
  unfold areaB
  have h1 : 0 ≤ b.x1 - b.x0 := by omega
  have h2 : 0 ≤ b.y1 - b.y0 := by omega
  refine ⟨Int.mul_nonneg h1 h2, ?_⟩
  have h3 := Int.mul_le_mul (show b.x1 - b.x0 ≤ 20000 by omega) (show b.y1 - b.y0 ≤ 20000 by omega) h2 (by omega)
  omega
theorem areaS_bd : ∀ (s : List Bx), Good s → 0 ≤ areaS s ∧ areaS s ≤ 400000000 * (s.length : Int) := by
  intro s
  induction s with
  | nil => intro _; simp [areaS]
  | cons b t ih =>
    intro h
    have h1 := areaB_bd (h b (by simp))
    have h2 := ih (fun q hq => h q (by simp [hq]))
    simp only [areaS, List.length_cons]
    omega
theorem areaS_step {s : List Bx} {k : Nat} (h : Good s) (hk : k < s.length) (hl : s.length ≤ 45000) {b : Bx} (hb : b = bat s k) : areaS (s.take (k + 1)) = areaS (s.take k) + (b.x1 - b.x0) * (b.y1 - b.y0) ∧ 0 ≤ areaS (s.take k) ∧ areaS (s.take k) ≤ 18000000000000 ∧ 0 ≤ (b.x1 - b.x0) * (b.y1 - b.y0) ∧ (b.x1 - b.x0) * (b.y1 - b.y0) ≤ 400000000 := by
  have h1 := areaS_bd (s.take k) (fun q hq => h q (List.mem_of_mem_take hq))
  have h2 := areaB_bd (h.at hk hb)
  have h3 : (s.take k).length ≤ 45000 := by simp; omega
  refine ⟨?_, h1.1, by omega, h2.1, h2.2⟩
  rw [take_bat hk, areaS_append, ← hb]; simp [areaS, areaB]

set_option maxHeartbeats 800000 in
theorem spec_area_zero (a : Option Addr) (c : Nat) (w : World) :
    Calls Try.prog 48 #[.slice a 0 c] w fun e w' => e = .returned (.int .i64 0) ∧ Below w.heap.size w w' := by
  go_enter Try.func48, Try.ntmps48
  go_wp2
  refine wp_loop_rounds 1 ?_
  rw [rounds_succ]
  go_wp2
  go_returns
  exact ⟨rfl, Below.refl _ _⟩

set_option maxHeartbeats 1600000 in
theorem spec_area_pos (g o c n : Nat) (s : List Bx) (w : World) (hl : Hid (s.length = n)) (hn : n ≤ 45000) (hgd : Hid (Good s)) (h : ∀ j, j < n → BAt w g (o + j * 4) (bat s j)) :
    Calls Try.prog 48 #[.slice (some ⟨g, o, none⟩) n c] w fun e w' => e = .returned (.int .i64 (areaS s)) ∧ Below w.heap.size w w' := by
  have H : Hid _ := h
  clear h
  go_enter Try.func48, Try.ntmps48
  go_wp2
  go_loopw [3, 4] (fun v i wr => ∃ (k m : Nat) (z : Int), k ≤ n ∧ i = .int .i64 k ∧ v = .int .i64 z ∧ wr = w.drewN m ∧ Hid (z = areaS (s.take k))) (fun _ i _ => n - (intOf i).toNat)
  case atStart => exact ⟨0, 0, 0, Nat.zero_le _, rfl, rfl, rfl, rfl⟩
  case round =>
    obtain ⟨k, m, z, hk, rfl, rfl, rfl, hZ⟩ := hrel
    by_cases hlt : k < n
    · obtain ⟨c0, c1, c2, c3⟩ := H.out k hlt
      obtain ⟨b, hb⟩ : ∃ b, b = bat s k := ⟨_, rfl⟩
      rw [← hb] at c0 c1 c2 c3
      have hgb := hgd.out.at (by rw [hl.out]; exact hlt) hb
      have hst := areaS_step hgd.out (by rw [hl.out]; exact hlt) (by rw [hl.out]; omega) hb
      rw [← hZ.out] at hst
      have hw1 : IntKind.i64.wrap (b.x1 - b.x0) = b.x1 - b.x0 := by rw [IntKind.wrap_i64]; omega
      have hw2 : IntKind.i64.wrap (b.y1 - b.y0) = b.y1 - b.y0 := by rw [IntKind.wrap_i64]; omega
      have hw3 : IntKind.i64.wrap ((b.x1 - b.x0) * (b.y1 - b.y0)) = (b.x1 - b.x0) * (b.y1 - b.y0) := by rw [IntKind.wrap_i64]; omega
      have hw4 : IntKind.i64.wrap (z + (b.x1 - b.x0) * (b.y1 - b.y0)) = z + (b.x1 - b.x0) * (b.y1 - b.y0) := by rw [IntKind.wrap_i64]; omega
      have HST : Hid (areaS (s.take (k + 1)) = z + (b.x1 - b.x0) * (b.y1 - b.y0)) := hst.1
      clear hb hgb hst
      have b0 : (0 : Int) ≤ (k : Int) := by omega
      have b1 : (k : Int) < (n : Int) := by omega
      go_wp2_with (fail)
      go_quiet (fail)
      go_wp2
      go_roundw
      case rel => exact ⟨k + 1, m + nq, _, by omega, by go_num, rfl, rfl, HST.out.symm⟩
      case measure => simp [intOf]; omega
    · have e : Hid (z = areaS s) := by unfold Hid; rw [hZ.out, List.take_of_length_le (by rw [hl.out]; omega)]
      go_wp2
      go_returns
      exact ⟨by rw [← e.out]; rfl, below_drewN (Below.refl _ _) m⟩

theorem spec_area {w : World} {v : Value} {s : List Bx} (hl : s.length ≤ 45000) (hg : Good s) (h : RB w v s) :
    Calls Try.prog 48 #[v] w fun e w' => e = .returned (.int .i64 (areaS s)) ∧ Below w.heap.size w w' := by
  rcases Nat.eq_zero_or_pos s.length with h0 | hp
  · obtain rfl : s = [] := List.length_eq_zero_iff.1 h0
    obtain ⟨a, c, rfl⟩ := h.form
    exact spec_area_zero a c w
  · obtain ⟨g, o, c, rfl, _, hj⟩ := h.pos hp
    exact spec_area_pos g o c _ s w rfl hl hg hj

set_option maxHeartbeats 800000 in
theorem impl_cells_zero (a : Option Addr) (c : Nat) (w : World) :
    Calls Try.prog 52 #[.slice a 0 c] w fun e w' => e = .returned (.int .i64 0) ∧ Below w.heap.size w w' := by
  go_enter Try.func52, Try.ntmps52
  go_wp2
  refine wp_loop_rounds 1 ?_
  rw [rounds_succ]
  go_wp2
  go_returns
  exact ⟨rfl, Below.refl _ _⟩

set_option maxHeartbeats 1600000 in
theorem impl_cells_pos (g o c n : Nat) (s : List Bx) (w : World) (hl : Hid (s.length = n)) (hn : n ≤ 45000) (hgd : Hid (Good s)) (hg : g < w.heap.size) (h : ∀ j, j < n → BAt w g (o + j * 4) (bat s j)) :
    Calls Try.prog 52 #[.slice (some ⟨g, o, none⟩) n c] w fun e w' => e = .returned (.int .i64 (areaS s)) ∧ Below w.heap.size w w' := by
  have H : Hid _ := h
  clear h
  go_enter Try.func52, Try.ntmps52
  go_wp2
  go_loopw [3, 8] (fun v i wr => ∃ (k : Nat) (z : Int), k ≤ n ∧ i = .int .i64 k ∧ v = .int .i64 z ∧ Hid (z = areaS (s.take k) ∧ Below w.heap.size w wr)) (fun _ i _ => n - (intOf i).toNat)
  case atStart => exact ⟨0, 0, Nat.zero_le _, rfl, rfl, rfl, Below.refl _ _⟩
  case round =>
    obtain ⟨k, z, hk, rfl, rfl, hR⟩ := hrel
    by_cases hlt : k < n
    · obtain ⟨c0, c1, c2, c3⟩ := (H.out k hlt).below hg hR.out.2
      obtain ⟨b, hb⟩ : ∃ b, b = bat s k := ⟨_, rfl⟩
      rw [← hb] at c0 c1 c2 c3
      have hgb := hgd.out.at (by rw [hl.out]; exact hlt) hb
      have hst := areaS_step hgd.out (by rw [hl.out]; exact hlt) (by rw [hl.out]; omega) hb
      rw [← hR.out.1] at hst
      have hw1 : IntKind.i64.wrap (b.x1 - b.x0) = b.x1 - b.x0 := by rw [IntKind.wrap_i64]; omega
      have hw2 : IntKind.i64.wrap (b.y1 - b.y0) = b.y1 - b.y0 := by rw [IntKind.wrap_i64]; omega
      have hw3 : IntKind.i64.wrap ((b.x1 - b.x0) * (b.y1 - b.y0)) = (b.x1 - b.x0) * (b.y1 - b.y0) := by rw [IntKind.wrap_i64]; omega
      have hw4 : IntKind.i64.wrap (z + (b.x1 - b.x0) * (b.y1 - b.y0)) = z + (b.x1 - b.x0) * (b.y1 - b.y0) := by rw [IntKind.wrap_i64]; omega
      have HST : Hid (areaS (s.take (k + 1)) = z + (b.x1 - b.x0) * (b.y1 - b.y0)) := hst.1
      have HBL : Hid (Below w.heap.size w wr) := hR.out.2
      have hsz := hR.out.2.size
      clear hb hgb hst hR
      have b0 : (0 : Int) ≤ (k : Int) := by omega
      have b1 : (k : Int) < (n : Int) := by omega
      go_wp2
      go_roundw
      case rel =>
        have hbl := HBL.out
        exact ⟨k + 1, _, by omega, by go_num, rfl, HST.out.symm, by (repeat' (first | (with_reducible exact Below.refl _ _) | (with_reducible assumption) | (with_reducible refine Below.setCell ?_ ?_ _) | (with_reducible refine Below.alloc ?_ ?_ _) | (with_reducible refine below_drewN ?_ _) | (with_reducible refine Below.drew ?_) | (with_reducible exact Nat.le_refl _) | omega | (simp; done) | (simp; omega)))⟩
      case measure => simp [intOf]; omega
    · have e : Hid (z = areaS s) := by unfold Hid; rw [hR.out.1, List.take_of_length_le (by rw [hl.out]; omega)]
      go_wp2
      go_returns
      exact ⟨by rw [← e.out]; rfl, hR.out.2⟩

theorem impl_cells {w : World} {v : Value} {s : List Bx} (hl : s.length ≤ 45000) (hg : Good s) (h : RB w v s) :
    Calls Try.prog 52 #[v] w fun e w' => e = .returned (.int .i64 (areaS s)) ∧ Below w.heap.size w w' := by
  rcases Nat.eq_zero_or_pos s.length with h0 | hp
  · obtain rfl : s = [] := List.length_eq_zero_iff.1 h0
    obtain ⟨a, c, rfl⟩ := h.form
    exact impl_cells_zero a c w
  · obtain ⟨g, o, c, rfl, hg', hj⟩ := h.pos hp
    exact impl_cells_pos g o c _ s w rfl hl hg hg' hj

def areaV (s : List Bx) : Int := if shapeK s = 0 then areaS s else 0


end Go.Proofs.Ytokdpgabmifdjab

namespace Go.Proofs.Ytokdpgabmifdjab
set_option linter.unusedVariables false
set_option linter.unusedSimpArgs false

/-- A row's runs at another height. -/
def lay (a b : Int) (l : List Bx) : List Bx := l.map fun r => ⟨r.x0, a, r.x1, b⟩
theorem lay_canon {a b c d : Int} {l : List Bx} (h : Canon c d l) : Canon a b (lay a b l) := by
  refine ⟨fun r hr => ?_, ?_⟩
  · obtain ⟨q, hq, rfl⟩ := List.mem_map.1 hr
    exact ⟨rfl, rfl, (h.y q hq).2.2⟩
  · unfold lay; rw [List.pairwise_map]; exact h.gap
theorem lay_cov {a b : Int} (l : List Bx) (x : Int) : Cov (lay a b l) x ↔ Cov l x := by
  constructor
  · rintro ⟨r, hr, h⟩
    obtain ⟨q, hq, rfl⟩ := List.mem_map.1 hr
    exact ⟨q, hq, h⟩
  · rintro ⟨q, hq, h⟩
    exact ⟨_, List.mem_map.2 ⟨q, hq, rfl⟩, h⟩
theorem sameRuns_lay (a b : Int) : ∀ l : List Bx, sameRuns l (lay a b l) = true := by
  intro l
  induction l with
  | nil => rfl
  | cons x t ih =>
    have : lay a b (x :: t) = ⟨x.x0, a, x.x1, b⟩ :: lay a b t := rfl
    rw [this, sameRuns, ih]
    simp
theorem cov_same {a b c d : Int} {r q : List Bx} (hr : Canon a b r) (hq : Canon c d q) (h : ∀ x, Cov r x ↔ Cov q x) : q = lay c d r :=
  canon_uniq hq (lay_canon hr) fun x => by rw [lay_cov]; exact (h x).symm
theorem cov_ne {a b : Int} {r : List Bx} (h : Canon a b r) (hn : r ≠ []) : ∃ x, Cov r x := by
  cases r with
  | nil => exact absurd rfl hn
  | cons p t => exact ⟨p.x0, p, by simp, by omega, (h.y p (by simp)).2.2⟩
theorem cov_nil (x : Int) : ¬ Cov [] x := by rintro ⟨r, hr, _⟩; cases hr
theorem rowK_append (s t : List Bx) (y : Int) : rowK (s ++ t) y = rowK s y ++ rowK t y := by unfold rowK; rw [List.filter_append]
theorem cov_append (s t : List Bx) (x : Int) : Cov (s ++ t) x ↔ Cov s x ∨ Cov t x := by
  constructor
  · rintro ⟨r, hr, h⟩
    rcases List.mem_append.1 hr with hr | hr
    · exact Or.inl ⟨r, hr, h⟩
    · exact Or.inr ⟨r, hr, h⟩
  · rintro (⟨r, hr, h⟩ | ⟨r, hr, h⟩)
    · exact ⟨r, List.mem_append.2 (Or.inl hr), h⟩
    · exact ⟨r, List.mem_append.2 (Or.inr hr), h⟩
theorem rowK_at {r : List Bx} {a b y : Int} (h : Canon a b r) : rowK r y = if a ≤ y ∧ y < b then r else [] := by
  unfold rowK
  split
  · rw [List.filter_eq_self]
    intro q hq
    have := h.y q hq
    simp; omega
  · rw [List.filter_eq_nil_iff]
    intro q hq
    have := h.y q hq
    simp; omega
/-- The cells of a list. -/
def Cell (s : List Bx) (x y : Int) : Prop := Cov (rowK s y) x
/-- Bands from the first on: the row at a height. -/
theorem form_head {r : List Bx} {rest : List (List Bx)} {below : List Bx} (h : FormB below (r :: rest)) (y : Int) : rowK (r :: rest).flatten y = if hy0 r ≤ y ∧ y < hy1 r then r else if y < hy0 r then [] else rowK rest.flatten y := by
  rw [List.flatten_cons, rowK_append, rowK_at h.2.2.1]
  have ho := FormB.over h.1 h.2.2.2.2.2
  have hlt := h.2.1
  have hnil : y < hy1 r → rowK rest.flatten y = [] := fun hy => rowK_over h.2.2.2.2.2 (by
    cases rest with
    | nil => trivial
    | cons q u => have h3 : hy1 r ≤ hy0 q := ho; show y + 1 ≤ hy0 q; omega)
  by_cases h1 : hy0 r ≤ y ∧ y < hy1 r
  · rw [if_pos h1, if_pos h1, hnil h1.2, List.append_nil]
  · rw [if_neg h1, if_neg h1, List.nil_append]
    by_cases h2 : y < hy0 r
    · rw [if_pos h2, hnil (by omega)]
    · rw [if_neg h2]
/-- One band cannot end while the other goes on. -/
theorem form_ends {r q : List Bx} {below : List Bx} {rest : List (List Bx)} {u : List Bx} (h : FormB below (r :: rest)) (hq : Canon (hy0 q) (hy1 q) q) (hqn : q ≠ []) (h0 : hy0 r = hy0 q) (hlt : hy1 r < hy1 q) (hs : ∀ x, Cov r x ↔ Cov q x) (hc : ∀ x, Cov (rowK rest.flatten (hy1 r)) x ↔ Cov q x) : False := by
  obtain ⟨x0, hx0⟩ := cov_ne hq hqn
  cases rest with
  | nil => exact cov_nil x0 (by simpa [rowK] using (hc x0).2 hx0)
  | cons p rest =>
    have hF := h.2.2.2.2.2
    have ho : hy1 r ≤ hy0 p := FormB.over h.1 hF
    rw [form_head hF] at hc
    by_cases e : hy0 p ≤ hy1 r ∧ hy1 r < hy1 p
    · rw [if_pos e] at hc
      have hp : p = lay (hy0 p) (hy1 p) r := cov_same h.2.2.1 hF.2.2.1 fun x => (hs x).trans (hc x).symm
      have hg := hF.2.2.2.2.1
      have : goesK p r (hy0 p) = true := by
        unfold goesK
        have e1 : p.isEmpty = false := by simpa using hF.1
        have e2 : r.isEmpty = false := by simpa using h.1
        have e3 : (hy1 r == hy0 p) = true := by simp; omega
        have e4 : sameRuns r p = true := by rw [hp]; exact sameRuns_lay _ _ _
        simp [e1, e2, e3, e4]
      rw [this] at hg
      cases hg
    · have hlt2 := hF.2.1
      rw [if_neg e, if_pos (by omega)] at hc
      exact cov_nil x0 ((hc x0).2 hx0)
/-- The one form is one. -/
theorem form_uniq : ∀ (rows qows : List (List Bx)) (below : List Bx), FormB below rows → FormB below qows → (∀ x y, Cell rows.flatten x y ↔ Cell qows.flatten x y) → rows = qows := by
  intro rows
  induction rows with
  | nil =>
    intro qows below _ hq hc
    cases qows with
    | nil => rfl
    | cons q rest =>
      exfalso
      obtain ⟨x, hx⟩ := cov_ne hq.2.2.1 hq.1
      have hlt := hq.2.1
      have := (hc x (hy0 q)).2 (by unfold Cell; rw [form_head hq, if_pos ⟨Int.le_refl _, hlt⟩]; exact hx)
      exact cov_nil x (by simpa [Cell, rowK] using this)
  | cons r rest ih =>
    intro qows below hr hq hc
    obtain ⟨x0, hx0⟩ := cov_ne hr.2.2.1 hr.1
    have hrl := hr.2.1
    have at0 : Cell (r :: rest).flatten x0 (hy0 r) := by unfold Cell; rw [form_head hr, if_pos ⟨Int.le_refl _, hrl⟩]; exact hx0
    cases qows with
    | nil => exact absurd (by simpa [Cell, rowK] using (hc x0 (hy0 r)).1 at0) (cov_nil x0)
    | cons q qest =>
      obtain ⟨x1, hx1⟩ := cov_ne hq.2.2.1 hq.1
      have hql := hq.2.1
      have at1 : Cell (q :: qest).flatten x1 (hy0 q) := by unfold Cell; rw [form_head hq, if_pos ⟨Int.le_refl _, hql⟩]; exact hx1
      have h01 : hy0 q ≤ hy0 r := by
        apply Int.not_lt.1
        intro hlt
        have := (hc x0 (hy0 r)).1 at0
        unfold Cell at this
        rw [form_head hq, if_neg (by omega), if_pos hlt] at this
        exact cov_nil _ this
      have h10 : hy0 r ≤ hy0 q := by
        apply Int.not_lt.1
        intro hlt
        have := (hc x1 (hy0 q)).2 at1
        unfold Cell at this
        rw [form_head hr, if_neg (by omega), if_pos hlt] at this
        exact cov_nil _ this
      have h0 : hy0 r = hy0 q := by omega
      have hs : ∀ x, Cov r x ↔ Cov q x := by
        intro x
        have := hc x (hy0 r)
        unfold Cell at this
        rw [form_head hr, form_head hq, if_pos ⟨Int.le_refl _, hrl⟩, if_pos (by omega)] at this
        exact this
      have h1 : hy1 r = hy1 q := by
        rcases Int.lt_trichotomy (hy1 r) (hy1 q) with hlt | he | hlt
        · exfalso
          refine form_ends (u := r) hr hq.2.2.1 hq.1 h0 hlt hs fun x => ?_
          have := hc x (hy1 r)
          unfold Cell at this
          rw [form_head hr, form_head hq, if_neg (by omega), if_neg (by omega), if_pos (by omega)] at this
          exact this
        · exact he
        · exfalso
          refine form_ends (u := r) hq hr.2.2.1 hr.1 h0.symm hlt (fun x => (hs x).symm) fun x => ?_
          have := hc x (hy1 q)
          unfold Cell at this
          rw [form_head hr, form_head hq, if_pos (by omega), if_neg (by omega), if_neg (by omega)] at this
          exact this.symm
      have hrq : r = q := canon_uniq hr.2.2.1 (by rw [h0, h1]; exact hq.2.2.1) hs
      subst hrq
      rw [ih qest r hr.2.2.2.2.2 hq.2.2.2.2.2 fun x y => ?_]
      have hro := FormB.over hr.1 hr.2.2.2.2.2
      have hqo := FormB.over hq.1 hq.2.2.2.2.2
      by_cases hy : y < hy1 r
      · have e1 : rowK rest.flatten y = [] := rowK_over hr.2.2.2.2.2 (by
          cases rest with
          | nil => trivial
          | cons p u => have h3 : hy1 r ≤ hy0 p := hro; show y + 1 ≤ hy0 p; omega)
        have e2 : rowK qest.flatten y = [] := rowK_over hq.2.2.2.2.2 (by
          cases qest with
          | nil => trivial
          | cons p u => have h3 : hy1 r ≤ hy0 p := hqo; show y + 1 ≤ hy0 p; omega)
        unfold Cell
        rw [e1, e2]
      · have := hc x y
        unfold Cell at this ⊢
        rw [form_head hr, form_head hq, if_neg (by omega), if_neg (by omega), if_neg (by omega), if_neg (by omega)] at this
        exact this

end Go.Proofs.Ytokdpgabmifdjab
