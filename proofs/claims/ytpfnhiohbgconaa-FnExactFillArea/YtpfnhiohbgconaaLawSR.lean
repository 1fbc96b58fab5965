/- Proved here: what the laws' package's small functions on answers that hold boxes do: are two alike; write the numbers 1, 2, .. into one; does one hold them. -/
import Derived.Test.YtpfnhiohbgconaaLawBx
namespace Go.Proofs.Ytpfnhiohbgconaa
open Go.ChangeShapes Go.WideShapes Go.ChangeAt Go.RowKit Go.Joins
set_option linter.unusedVariables false
set_option linter.unusedSimpArgs false

/-- The numbers 1, 2, .. -/
def marks (n : Nat) : List Value := (List.range n).map fun j : Nat => Value.int .i64 (1 + (j : Int))
theorem marks_length (n : Nat) : (marks n).length = n := by simp [marks]
theorem marks_get {n j : Nat} (h : j < n) : (marks n)[j]? = some (.int .i64 (1 + (j : Int))) := by simp [marks, h]

/-- A slice of the call's own, whatever its cells hold. -/
def RW (w : World) (B : Nat) (v : Value) (n : Nat) (cs : List Value) : Prop := w.ownsRow B 30 4 v n cs
theorem RW.below {w w' : World} {B n : Nat} {v : Value} {cs : List Value} (h : RW w B v n cs) (hb : Below w.heap.size w w') : RW w' B v n cs :=
  World.ownsRow.kept (row := none) h ⟨hb.os, hb.tape, hb.output, hb.size, fun k hk _ => hb.block k hk⟩ (by cases v.ownBlock <;> simp)
theorem RW.only {w w' : World} {B n g : Nat} {v : Value} {cs : List Value} (h : RW w B v n cs) (hb : Only g w w') (hg : v.ownBlock ≠ some g) : RW w' B v n cs :=
  World.ownsRow.kept (row := some g) h ⟨hb.os, hb.tape, hb.output, by rw [hb.size]; exact Nat.le_refl _, fun k hk hne => hb.block k (fun e => hne (by rw [e]))⟩ (Or.inr hg)

theorem four_setsC {w : World} {B g n c : Nat} {ys : List Value} (h : RW w B (.slice (some ⟨g, 0, none⟩) n c) n ys) (k : Nat) (a b d e : Value) :
    RW ((((w.setCell ⟨g, k * 4, none⟩ a).setCell ⟨g, k * 4 + 1, none⟩ b).setCell ⟨g, k * 4 + 2, none⟩ d).setCell ⟨g, k * 4 + 3, none⟩ e) B (.slice (some ⟨g, 0, none⟩) n c) n ((((ys.set (k * 4) a).set (k * 4 + 1) b).set (k * 4 + 2) d).set (k * 4 + 3) e) :=
  (World.ownsRow.stored (World.ownsRow.stored (World.ownsRow.stored (World.ownsRow.stored h (k * 4) a).1 (k * 4 + 1) b).1 (k * 4 + 2) d).1 (k * 4 + 3) e).1
theorem four_marks {ys : List Value} {n j : Nat} {z : Int} (hl : ys.length = n * 4) (hj : j < n) (hz : z = 1 + 4 * (j : Int)) (h : ∀ t, t < j * 4 → ys[t]? = some (.int .i64 (1 + (t : Int)))) :
    ∀ t, t < (j + 1) * 4 → ((((ys.set (j * 4) (.int .i64 z)).set (j * 4 + 1) (.int .i64 (z + 1))).set (j * 4 + 2) (.int .i64 (z + 1 + 1))).set (j * 4 + 3) (.int .i64 (z + 1 + 1 + 1)))[t]? = some (.int .i64 (1 + (t : Int))) := by
  intro t ht
  rcases Nat.lt_or_ge t (j * 4) with h1 | h1
  · rw [List.getElem?_set_ne (by omega), List.getElem?_set_ne (by omega), List.getElem?_set_ne (by omega), List.getElem?_set_ne (by omega)]
    exact h t h1
  · rcases (by omega : t = j * 4 ∨ t = j * 4 + 1 ∨ t = j * 4 + 2 ∨ t = j * 4 + 3) with rfl | rfl | rfl | rfl
    · rw [List.getElem?_set_ne (by omega), List.getElem?_set_ne (by omega), List.getElem?_set_ne (by omega), List.getElem?_set_self (by omega)]
      rw [show z = 1 + ((j * 4 : Nat) : Int) by omega]
    · rw [List.getElem?_set_ne (by omega), List.getElem?_set_ne (by omega), List.getElem?_set_self (by simp; omega)]
      rw [show z + 1 = 1 + ((j * 4 + 1 : Nat) : Int) by omega]
    · rw [List.getElem?_set_ne (by omega), List.getElem?_set_self (by simp; omega)]
      rw [show z + 1 + 1 = 1 + ((j * 4 + 2 : Nat) : Int) by omega]
    · rw [List.getElem?_set_self (by simp; omega)]
      rw [show z + 1 + 1 + 1 = 1 + ((j * 4 + 3 : Nat) : Int) by omega]

set_option maxHeartbeats 800000 in
theorem mark_zero (a : Option Addr) (c : Nat) (w : World) :
    Calls Try.prog 15 #[.slice a 0 c, .int .i64 1] w fun e w' => e = .returned (.int .i64 1) ∧ w' = w := by
  go_enter Try.func15, Try.ntmps15
  go_wp2
  refine wp_loop_rounds 1 ?_
  rw [rounds_succ]
  go_wp2
  go_returns
  exact ⟨rfl, rfl⟩

set_option maxHeartbeats 3200000 in
theorem mark_pos (g c n B : Nat) (ys : List Value) (w : World) (hn : n ≤ 1048576) (h : RW w B (.slice (some ⟨g, 0, none⟩) n c) n ys) :
    Calls Try.prog 15 #[.slice (some ⟨g, 0, none⟩) n c, .int .i64 1] w fun e w' => e = .returned (.int .i64 (1 + 4 * (n : Int))) ∧ RW w' B (.slice (some ⟨g, 0, none⟩) n c) n (marks (n * 4)) ∧ Only g w w' := by
  have H : Hid (RW w B (.slice (some ⟨g, 0, none⟩) n c) n ys) := h
  clear h
  go_enter Try.func15, Try.ntmps15
  go_wp2
  go_loopw [1, 5] (fun q i wr => ∃ (j : Nat) (z : Int), j ≤ n ∧ i = .int .i64 j ∧ q = .int .i64 z ∧ 0 ≤ z ∧ z ≤ 5000000 ∧ Hid (z = 1 + 4 * (j : Int) ∧ ∃ ys : List Value, ys.length = n * 4 ∧ (∀ t, t < j * 4 → ys[t]? = some (.int .i64 (1 + (t : Int)))) ∧ RW wr B (.slice (some ⟨g, 0, none⟩) n c) n ys ∧ Only g w wr)) (fun _ i _ => n - (intOf i).toNat)
  case atStart => exact ⟨0, 1, Nat.zero_le _, rfl, rfl, by omega, by omega, by simp, ys, H.out.1, fun t ht => by omega, H.out, Only.refl _ _⟩
  case round =>
    obtain ⟨j, z, hj, rfl, rfl, hz0, hz1, hR⟩ := hrel
    by_cases hlt : j < n
    · obtain ⟨hzj, ys, hyl, hyt, hown, honly⟩ := hR.out
      have f0 := World.ownsRow.frozenAt hown (j * 4)
      have f1 := World.ownsRow.frozenAt hown (j * 4 + 1)
      have f2 := World.ownsRow.frozenAt hown (j * 4 + 2)
      have f3 := World.ownsRow.frozenAt hown (j * 4 + 3)
      have g0 : wr.cell? ⟨g, j * 4, none⟩ = some (ys.getD (j * 4) (.bool false)) := by rw [World.ownsRow.cellAt hown _ (by omega)]; simp [hyl, show j * 4 < n * 4 by omega]
      have g1 : wr.cell? ⟨g, j * 4 + 1, none⟩ = some (ys.getD (j * 4 + 1) (.bool false)) := by rw [World.ownsRow.cellAt hown _ (by omega)]; simp [hyl, show j * 4 + 1 < n * 4 by omega]
      have g2 : wr.cell? ⟨g, j * 4 + 2, none⟩ = some (ys.getD (j * 4 + 2) (.bool false)) := by rw [World.ownsRow.cellAt hown _ (by omega)]; simp [hyl, show j * 4 + 2 < n * 4 by omega]
      have g3 : wr.cell? ⟨g, j * 4 + 3, none⟩ = some (ys.getD (j * 4 + 3) (.bool false)) := by rw [World.ownsRow.cellAt hown _ (by omega)]; simp [hyl, show j * 4 + 3 < n * 4 by omega]
      have R : Hid (z + 1 + 1 + 1 + 1 = 1 + 4 * ((j + 1 : Nat) : Int) ∧ ∃ ys : List Value, ys.length = n * 4 ∧ (∀ t, t < (j + 1) * 4 → ys[t]? = some (.int .i64 (1 + (t : Int)))) ∧
          RW ((((wr.setCell ⟨g, j * 4, none⟩ (.int .i64 z)).setCell ⟨g, j * 4 + 1, none⟩ (.int .i64 (z + 1))).setCell ⟨g, j * 4 + 2, none⟩ (.int .i64 (z + 1 + 1))).setCell ⟨g, j * 4 + 3, none⟩ (.int .i64 (z + 1 + 1 + 1))) B (.slice (some ⟨g, 0, none⟩) n c) n ys ∧
          Only g w ((((wr.setCell ⟨g, j * 4, none⟩ (.int .i64 z)).setCell ⟨g, j * 4 + 1, none⟩ (.int .i64 (z + 1))).setCell ⟨g, j * 4 + 2, none⟩ (.int .i64 (z + 1 + 1))).setCell ⟨g, j * 4 + 3, none⟩ (.int .i64 (z + 1 + 1 + 1)))) := by
        refine ⟨by omega, _, ?_, ?_, four_setsC hown j _ _ _ _, (((honly.set _ _).set _ _).set _ _).set _ _⟩
        · simpa using hyl
        · exact four_marks hyl hlt hzj hyt
      clear hyl hyt hown honly hzj
      have b0 : (0 : Int) ≤ (j : Int) := by omega
      have b1 : (j : Int) < (n : Int) := by omega
      have hz4 : z + 1 + 1 + 1 + 1 ≤ 5000000 := by have := R.out.1; omega
      go_wp2
      go_roundw
      case rel => exact ⟨j + 1, _, by omega, by go_num, rfl, by omega, hz4, R.out⟩
      case measure => simp [intOf]; omega
    · go_wp2
      go_returns
      obtain ⟨hzj, ys, hyl, hyt, hown, honly⟩ := hR.out
      have ej : j = n := by omega
      subst ej
      refine ⟨by rw [hzj]; rfl, ?_, honly⟩
      have e : ys = marks (j * 4) := by
        apply List.ext_getElem?
        intro t
        rcases Nat.lt_or_ge t (j * 4) with ht | ht
        · rw [hyt t ht, marks_get ht]
        · rw [List.getElem?_eq_none (by omega), List.getElem?_eq_none (by rw [marks_length]; exact ht)]
      rw [← e]; exact hown

/-- The numbers 1, 2, .. are written; nothing else turns. -/
theorem mark_any {w : World} {B n : Nat} {v : Value} {ys : List Value} (hn : n ≤ 1048576) (h : RW w B v n ys) :
    Calls Try.prog 15 #[v, .int .i64 1] w fun e w' => e = .returned (.int .i64 (1 + 4 * (n : Int))) ∧ RW w' B v n (marks (n * 4)) ∧ ∃ g, B ≤ g ∧ (v.ownBlock = some g ∨ w' = w) ∧ Only g w w' := by
  rcases h.2 with ⟨rfl, rfl⟩ | ⟨g, cap, cur, rfl, hB, _⟩
  · refine (mark_zero none 0 w).mono ?_
    rintro e w' ⟨rfl, rfl⟩
    exact ⟨rfl, by have := h.1; obtain rfl : ys = [] := List.length_eq_zero_iff.1 (by omega); exact h, B, Nat.le_refl _, Or.inr rfl, Only.refl _ _⟩
  · refine (mark_pos g cap n B ys w hn h).mono ?_
    rintro e w' ⟨rfl, h1, h2⟩
    exact ⟨rfl, h1, g, hB, Or.inl rfl, h2⟩

set_option maxHeartbeats 800000 in
theorem held_zero (a : Option Addr) (c : Nat) (w : World) :
    Calls Try.prog 59 #[.slice a 0 c, .int .i64 1] w fun e w' => e = .returned (.int .i64 1) ∧ w' = w := by
  go_enter Try.func59, Try.ntmps59
  go_wp2
  refine wp_loop_rounds 1 ?_
  rw [rounds_succ]
  go_wp2
  go_returns
  exact ⟨rfl, rfl⟩

set_option maxHeartbeats 3200000 in
theorem held_pos (g c n : Nat) (w : World) (hn : n ≤ 1048576) (h : ∀ t, t < n * 4 → w.cell? ⟨g, t, none⟩ = some (.int .i64 (1 + (t : Int)))) :
    Calls Try.prog 59 #[.slice (some ⟨g, 0, none⟩) n c, .int .i64 1] w fun e w' => e = .returned (.int .i64 (1 + 4 * (n : Int))) ∧ w' = w := by
  have H : Hid (∀ t, t < n * 4 → w.cell? ⟨g, t, none⟩ = some (.int .i64 (1 + (t : Int)))) := h
  clear h
  go_enter Try.func59, Try.ntmps59
  go_wp2
  go_loop [1, 5] (fun q i => ∃ (j : Nat) (z : Int), j ≤ n ∧ i = .int .i64 j ∧ q = .int .i64 z ∧ 0 ≤ z ∧ z ≤ 5000000 ∧ Hid (z = 1 + 4 * (j : Int))) (fun _ i => n - (intOf i).toNat)
  case atStart => exact ⟨0, 1, Nat.zero_le _, rfl, rfl, by omega, by omega, by unfold Hid; simp⟩
  case round =>
    obtain ⟨j, z, hj, rfl, rfl, hz0, hz1, hR⟩ := hrel
    by_cases hlt : j < n
    · have c0 := H.out (j * 4) (by omega)
      have c1 := H.out (j * 4 + 1) (by omega)
      have c2 := H.out (j * 4 + 2) (by omega)
      have c3 := H.out (j * 4 + 3) (by omega)
      rw [show (1 : Int) + ((j * 4 : Nat) : Int) = z by have := hR.out; omega] at c0
      rw [show (1 : Int) + ((j * 4 + 1 : Nat) : Int) = z + 1 by have := hR.out; omega] at c1
      rw [show (1 : Int) + ((j * 4 + 2 : Nat) : Int) = z + 1 + 1 by have := hR.out; omega] at c2
      rw [show (1 : Int) + ((j * 4 + 3 : Nat) : Int) = z + 1 + 1 + 1 by have := hR.out; omega] at c3
      have HZ : Hid (z + 1 + 1 + 1 + 1 = 1 + 4 * ((j + 1 : Nat) : Int)) := by unfold Hid; have := hR.out; omega
      have b0 : (0 : Int) ≤ (j : Int) := by omega
      have b1 : (j : Int) < (n : Int) := by omega
      have hz4 : z + 1 + 1 + 1 + 1 ≤ 5000000 := by have := HZ.out; omega
      clear hR
      go_wp2
      go_round
      case rel => exact ⟨j + 1, _, by omega, by go_num, rfl, by omega, hz4, HZ.out⟩
      case measure => simp [intOf]; omega
    · have e : Hid (z = 1 + 4 * (n : Int)) := by unfold Hid; rw [hR.out]; omega
      go_wp2
      go_returns
      exact ⟨by rw [← e.out]; rfl, rfl⟩

theorem held_any {w : World} {B n : Nat} {v : Value} (hn : n ≤ 1048576) (h : RW w B v n (marks (n * 4))) :
    Calls Try.prog 59 #[v, .int .i64 1] w fun e w' => e = .returned (.int .i64 (1 + 4 * (n : Int))) ∧ w' = w := by
  rcases h.2 with ⟨rfl, rfl⟩ | ⟨g, cap, cur, rfl, hB, _⟩
  · exact held_zero none 0 w
  · refine held_pos g cap n w hn fun t ht => ?_
    rw [World.ownsRow.cellAt (w := w) (g := g) (cap := cap) h t ht, marks_get ht]

theorem BS.slice {w : World} {B : Nat} {v : Value} {s : List Bx} (h : BS w B v s) : ∃ a c, v = .slice a s.length c := h.form

set_option maxHeartbeats 800000 in
theorem eqSR_same (C : Int) (L : List Bx) (v1 v2 : Value) (w : World) (hl : L.length ≤ 1048576) (h1 : RB w v1 L) (h2 : RB w v2 L) :
    Calls Try.prog 13 #[.agg #[.int .i64 C, v1], .agg #[.int .i64 C, v2]] w fun e w' => e = .returned (.bool true) ∧ Below w.heap.size w w' := by
  obtain ⟨a1, c1, rfl⟩ := h1.form
  obtain ⟨a2, c2, rfl⟩ := h2.form
  have H1 : Hid (RB w (.slice a1 L.length c1) L) := h1
  have H2 : Hid (RB w (.slice a2 L.length c2) L) := h2
  clear h1 h2
  go_enter Try.func13, Try.ntmps13
  go_wp2_with (fail)
  refine (eqBoxS_same (by omega) (H1.out.below (by (repeat' (first | (with_reducible exact Below.refl _ _) | (with_reducible assumption) | (with_reducible refine Below.setCell ?_ ?_ _) | (with_reducible refine Below.alloc ?_ ?_ _) | (with_reducible refine below_drewN ?_ _) | (with_reducible refine Below.drew ?_) | (with_reducible exact Nat.le_refl _) | omega | (simp; done) | (simp; omega))))) (H2.out.below (by (repeat' (first | (with_reducible exact Below.refl _ _) | (with_reducible assumption) | (with_reducible refine Below.setCell ?_ ?_ _) | (with_reducible refine Below.alloc ?_ ?_ _) | (with_reducible refine below_drewN ?_ _) | (with_reducible refine Below.drew ?_) | (with_reducible exact Nat.le_refl _) | omega | (simp; done) | (simp; omega)))))).mono ?_
  rintro e w' ⟨rfl, hb⟩
  have HB : Hid (Below w.heap.size w w') := Below.trans (by (repeat' (first | (with_reducible exact Below.refl _ _) | (with_reducible assumption) | (with_reducible refine Below.setCell ?_ ?_ _) | (with_reducible refine Below.alloc ?_ ?_ _) | (with_reducible refine below_drewN ?_ _) | (with_reducible refine Below.drew ?_) | (with_reducible exact Nat.le_refl _) | omega | (simp; done) | (simp; omega)))) (hb.mono (by simp; omega))
  clear hb
  go_wp2
  go_returns
  exact ⟨rfl, HB.out⟩

/-- What was there is there still, but for block g. -/
structure SaveBut (g : Nat) (w w' : World) : Prop where
  os : w'.os = w.os
  tape : w'.tape = w.tape
  output : w'.output = w.output
  size : w.heap.size ≤ w'.heap.size
  block : ∀ k, k < w.heap.size → k ≠ g → w'.heap[k]? = w.heap[k]?

set_option maxHeartbeats 800000 in
theorem markSR (C : Int) (n : Nat) (cs : List Value) (a : Option Addr) (c : Nat) (B : Nat) (w : World) (hl : n ≤ 1048576) (hB : B ≤ w.heap.size) (h : RW w B (.slice a n c) n cs) :
    Calls Try.prog 16 #[.agg #[.int .i64 C, .slice a n c], .int .i64 1] w fun e w' => e = .returned (.int .i64 (1 + 4 * (n : Int))) ∧ RW w' B (.slice a n c) n (marks (n * 4)) ∧ ∃ g, B ≤ g ∧ ((Value.slice a n c).ownBlock = some g ∨ w.heap.size ≤ g) ∧ SaveBut g w w' := by
  have H : Hid (RW w B (.slice a n c) n cs) := h
  clear h
  go_enter Try.func16, Try.ntmps16
  go_wp2_with (fail)
  refine (mark_any hl (RW.below H.out (by (repeat' (first | (with_reducible exact Below.refl _ _) | (with_reducible assumption) | (with_reducible refine Below.setCell ?_ ?_ _) | (with_reducible refine Below.alloc ?_ ?_ _) | (with_reducible refine below_drewN ?_ _) | (with_reducible refine Below.drew ?_) | (with_reducible exact Nat.le_refl _) | omega | (simp; done) | (simp; omega)))))).mono ?_
  rintro e w1 ⟨rfl, hm, g, hBg, hg, hon⟩
  go_wp2
  go_returns
  refine ⟨rfl, hm, ?_⟩
  have hs := hon.size
  simp at hs
  rcases hg with hg | hg
  · refine ⟨g, hBg, Or.inl hg, ⟨hon.os, hon.tape, hon.output, by omega, fun k hk hkg => ?_⟩⟩
    rw [hon.block k hkg]
    exact Below.heap_alloc _ _ _ hk
  · subst hg
    exact ⟨w.heap.size, hB, Or.inr (Nat.le_refl _), ⟨rfl, rfl, rfl, by simp, fun k hk hkg => Below.heap_alloc _ _ _ hk⟩⟩

set_option maxHeartbeats 800000 in
theorem heldSR (C : Int) (n : Nat) (a : Option Addr) (c : Nat) (B : Nat) (w : World) (hl : n ≤ 1048576) (h : RW w B (.slice a n c) n (marks (n * 4))) :
    Calls Try.prog 17 #[.agg #[.int .i64 C, .slice a n c], .int .i64 1] w fun e w' => e = .returned (.int .i64 (1 + 4 * (n : Int))) ∧ Below w.heap.size w w' := by
  have H : Hid (RW w B (.slice a n c) n (marks (n * 4))) := h
  clear h
  have hneg : ¬ (1 + 4 * (n : Int)) < 0 := by omega
  go_enter Try.func17, Try.ntmps17
  go_wp2_with (fail)
  refine (held_any (B := B) hl (RW.below H.out (by (repeat' (first | (with_reducible exact Below.refl _ _) | (with_reducible assumption) | (with_reducible refine Below.setCell ?_ ?_ _) | (with_reducible refine Below.alloc ?_ ?_ _) | (with_reducible refine below_drewN ?_ _) | (with_reducible refine Below.drew ?_) | (with_reducible exact Nat.le_refl _) | omega | (simp; done) | (simp; omega)))))).mono ?_
  rintro e w1 ⟨rfl, rfl⟩
  go_wp2
  go_returns
  exact ⟨rfl, by (repeat' (first | (with_reducible exact Below.refl _ _) | (with_reducible assumption) | (with_reducible refine Below.setCell ?_ ?_ _) | (with_reducible refine Below.alloc ?_ ?_ _) | (with_reducible refine below_drewN ?_ _) | (with_reducible refine Below.drew ?_) | (with_reducible exact Nat.le_refl _) | omega | (simp; done) | (simp; omega)))⟩

end Go.Proofs.Ytpfnhiohbgconaa
