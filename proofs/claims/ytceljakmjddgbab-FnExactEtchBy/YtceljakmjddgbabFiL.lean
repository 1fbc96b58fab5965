/- Proved here: how the laws' package marks lists of lists of Film. -/
import Derived.Test.YtceljakmjddgbabFiO
namespace Go.Proofs.Ytceljakmjddgbab
open Go.ChangeShapes Go.WideShapes Go.ChangeAt Go.RowKit Go.Joins Go.Deep
set_option linter.unusedVariables false
set_option linter.unusedSimpArgs false

set_option maxHeartbeats 800000 in
theorem markFilmS_zero (a : Option Addr) (c : Nat) (z : Int) (w : World) :
    Calls Try.prog 81 #[.slice a 0 c, .int .i64 z] w fun e w' => e = .returned (.int .i64 z) ∧ w' = w := by
  go_enter Try.func81, Try.ntmps81
  go_wp2
  refine wp_loop_rounds 1 ?_
  rw [rounds_succ]
  go_wp2
  go_returns
  exact ⟨rfl, rfl⟩
theorem marksFilm_step {ys : List Value} {n j : Nat} {z z0 : Int} (hl : ys.length = n * 2) (hj : j < n) (hz : z = z0 + 2 * (j : Int)) (h : ∀ t, t < j * 2 → ys[t]? = some (.int .i64 (z0 + (t : Int)))) :
    ∀ t, t < (j + 1) * 2 → (((ys.set (j * 2) (.int .i64 (z))).set (j * 2 + 1) (.int .i64 (z + 1))))[t]? = some (.int .i64 (z0 + (t : Int))) := by
  intro t ht
  rcases Nat.lt_or_ge t (j * 2) with h1 | h1
  · rw [List.getElem?_set_ne (by omega), List.getElem?_set_ne (by omega)]
    exact h t h1
  · rcases (by omega : t = j * 2 ∨ t = j * 2 + 1) with rfl | rfl
    · rw [List.getElem?_set_ne (by omega), List.getElem?_set_self (by (try simp); omega)]
      rw [show z = z0 + (((j * 2 : Nat)) : Int) by omega]
    · rw [List.getElem?_set_self (by (try simp); omega)]
      rw [show z + 1 = z0 + (((j * 2 + 1 : Nat)) : Int) by omega]

set_option maxRecDepth 10000 in
set_option maxHeartbeats 3200000 in
theorem markFilmS_pos (g c n B : Nat) (ys : List Value) (z0 : Int) (w : World) (hn : n ≤ 1048576) (hz0 : 0 ≤ z0) (hz1 : z0 ≤ 1000000000000) (h : w.ownsRow B 76 2 (.slice (some ⟨g, 0, none⟩) n c) n ys) :
    Calls Try.prog 81 #[.slice (some ⟨g, 0, none⟩) n c, .int .i64 z0] w fun e w' => e = .returned (.int .i64 (z0 + 2 * (n : Int))) ∧ w'.ownsRow B 76 2 (.slice (some ⟨g, 0, none⟩) n c) n (mkV z0 (n * 2)) ∧ Only g w w' := by
  have H : Hid (w.ownsRow B 76 2 (.slice (some ⟨g, 0, none⟩) n c) n ys) := h
  clear h
  go_enter Try.func81, Try.ntmps81
  go_wp2
  go_loopw [1, 5] (fun q i wr => ∃ (j : Nat) (z : Int), j ≤ n ∧ i = .int .i64 j ∧ q = .int .i64 z ∧ 0 ≤ z ∧ z ≤ 1000100000000 ∧ Hid (z = z0 + 2 * (j : Int) ∧ ∃ ys : List Value, ys.length = n * 2 ∧ (∀ t, t < j * 2 → ys[t]? = some (.int .i64 (z0 + (t : Int)))) ∧ wr.ownsRow B 76 2 (.slice (some ⟨g, 0, none⟩) n c) n ys ∧ Only g w wr)) (fun _ i _ => n - (intOf i).toNat)
  case atStart => exact ⟨0, z0, Nat.zero_le _, rfl, rfl, by omega, by omega, by simp, ys, by have := H.out.1; omega, fun t ht => by omega, H.out, Only.refl _ _⟩
  case round =>
    clear H
    obtain ⟨j, z, hj, rfl, rfl, hzz0, hzz1, hR⟩ := hrel
    by_cases hlt : j < n
    · obtain ⟨hzj, ys, hyl, hyt, ho, hon⟩ := hR.out
      have HZ : Hid (z + 1 + 1 = z0 + 2 * ((j + 1 : Nat) : Int)) := by unfold Hid; omega
      have hz4 : z + 1 + 1 ≤ 1000100000000 := by omega
      have f0 := World.ownsRow.frozenAt ho (j * 2)
      have g0 : wr.cell? ⟨g, j * 2, none⟩ = some (ys.getD (j * 2) (.bool false)) := by rw [World.ownsRow.cellAt ho _ (by omega)]; simp [hyl, show j * 2 < n * 2 by omega]
      have f1 := World.ownsRow.frozenAt ho (j * 2 + 1)
      have g1 : wr.cell? ⟨g, j * 2 + 1, none⟩ = some (ys.getD (j * 2 + 1) (.bool false)) := by rw [World.ownsRow.cellAt ho _ (by omega)]; simp [hyl, show j * 2 + 1 < n * 2 by omega]
      have R : Hid (∃ ys : List Value, ys.length = n * 2 ∧ (∀ t, t < (j + 1) * 2 → ys[t]? = some (.int .i64 (z0 + (t : Int)))) ∧ (((wr.setCell ⟨g, j * 2, none⟩ (.int .i64 (z))).setCell ⟨g, j * 2 + 1, none⟩ (.int .i64 (z + 1)))).ownsRow B 76 2 (.slice (some ⟨g, 0, none⟩) n c) n ys ∧ Only g w (((wr.setCell ⟨g, j * 2, none⟩ (.int .i64 (z))).setCell ⟨g, j * 2 + 1, none⟩ (.int .i64 (z + 1))))) :=
        ⟨_, by simpa using hyl, marksFilm_step hyl hlt hzj hyt, (World.ownsRow.stored (World.ownsRow.stored ho (j * 2) (.int .i64 (z))).1 (j * 2 + 1) (.int .i64 (z + 1))).1, ((hon.set _ _).set _ _)⟩
      have hgl : g < wr.heap.size := (World.ownsRow.lt ho g rfl).2
      clear ho hon hR hyl hzj hyt
      generalize ys.getD (j * 2) (.bool false) = v0 at g0
      generalize ys.getD (j * 2 + 1) (.bool false) = v1 at g1
      have b0 : (0 : Int) ≤ (j : Int) := by omega
      have b1 : (j : Int) < (n : Int) := by omega
      go_wp2
      go_roundw
      case rel => exact ⟨j + 1, _, by omega, by go_num, rfl, by omega, hz4, HZ.out, R.out⟩
      case measure => simp [intOf]; omega
    · have HR : Hid _ := hR.out
      clear hR
      go_wp2
      go_returns
      obtain ⟨hzj, ys, hyl, hyt, ho, hon⟩ := HR.out
      obtain rfl : j = n := by omega
      refine ⟨by rw [hzj]; rfl, ?_, hon⟩
      rw [← mkV_of hyl hyt]; exact ho
theorem markFilmS_to {w : World} {B Z n : Nat} {v : Value} {ys : List Value} (z : Int) (hn : n ≤ 1048576) (hz0 : 0 ≤ z) (hz1 : z ≤ 1000000000000) (h : w.ownsRow B 76 2 v n ys) (hZ : ∀ g, v.ownBlock = some g → g < Z) :
    Calls Try.prog 81 #[v, .int .i64 z] w fun e w' => e = .returned (.int .i64 (z + 2 * (n : Int))) ∧ w'.ownsRow B 76 2 v n (mkV z (n * 2)) ∧ Chg B Z w w' := by
  rcases h.2 with ⟨rfl, rfl⟩ | ⟨g, cap, cur, rfl, hB, _⟩
  · refine (markFilmS_zero none 0 z w).mono ?_
    rintro e w' ⟨rfl, rfl⟩
    refine ⟨by simp, ?_, Chg.refl _ _ _⟩
    have e : ys = [] := List.length_eq_zero_iff.1 (by have := h.1; omega)
    rw [e] at h
    simpa [mkV] using h
  · refine (markFilmS_pos g cap n B ys z w hn hz0 hz1 h).mono ?_
    rintro e w' ⟨rfl, h1, h2⟩
    exact ⟨rfl, h1, Chg.only h2 hB (hZ g rfl)⟩

set_option maxHeartbeats 800000 in
theorem heldFilmS_zero (a : Option Addr) (c : Nat) (z : Int) (w : World) :
    Calls Try.prog 88 #[.slice a 0 c, .int .i64 z] w fun e w' => e = .returned (.int .i64 z) ∧ w' = w := by
  go_enter Try.func88, Try.ntmps88
  go_wp2
  refine wp_loop_rounds 1 ?_
  rw [rounds_succ]
  go_wp2
  go_returns
  exact ⟨rfl, rfl⟩

set_option maxHeartbeats 3200000 in
theorem heldFilmS_pos (g c n : Nat) (z0 : Int) (w : World) (hn : n ≤ 1048576) (hz0 : 0 ≤ z0) (hz1 : z0 ≤ 1000000000000) (h : ∀ t, t < n * 2 → w.cell? ⟨g, t, none⟩ = some (.int .i64 (z0 + (t : Int)))) :
    Calls Try.prog 88 #[.slice (some ⟨g, 0, none⟩) n c, .int .i64 z0] w fun e w' => e = .returned (.int .i64 (z0 + 2 * (n : Int))) ∧ w' = w := by
  have H : Hid (∀ t, t < n * 2 → w.cell? ⟨g, t, none⟩ = some (.int .i64 (z0 + (t : Int)))) := h
  clear h
  go_enter Try.func88, Try.ntmps88
  go_wp2
  go_loop [1, 5] (fun q i => ∃ (j : Nat) (z : Int), j ≤ n ∧ i = .int .i64 j ∧ q = .int .i64 z ∧ 0 ≤ z ∧ z ≤ 1000100000000 ∧ Hid (z = z0 + 2 * (j : Int))) (fun _ i => n - (intOf i).toNat)
  case atStart => exact ⟨0, z0, Nat.zero_le _, rfl, rfl, by omega, by omega, by unfold Hid; simp⟩
  case round =>
    obtain ⟨j, z, hj, rfl, rfl, hzz0, hzz1, hR⟩ := hrel
    by_cases hlt : j < n
    · have HZ : Hid (z + 1 + 1 = z0 + 2 * ((j + 1 : Nat) : Int)) := by unfold Hid; have := hR.out; omega
      have c0 := H.out (j * 2) (by omega)
      rw [show z0 + (((j * 2 : Nat)) : Int) = z by have := hR.out; omega] at c0
      have c1 := H.out (j * 2 + 1) (by omega)
      rw [show z0 + (((j * 2 + 1 : Nat)) : Int) = z + 1 by have := hR.out; omega] at c1
      have b0 : (0 : Int) ≤ (j : Int) := by omega
      have b1 : (j : Int) < (n : Int) := by omega
      have hz4 : z + 1 + 1 ≤ 1000100000000 := by have := HZ.out; omega
      clear hR
      go_wp2
      go_round
      case rel => exact ⟨j + 1, _, by omega, by go_num, rfl, by omega, hz4, HZ.out⟩
      case measure => simp [intOf]; omega
    · have e : Hid (z = z0 + 2 * (n : Int)) := by unfold Hid; rw [hR.out]; omega
      go_wp2
      go_returns
      exact ⟨by rw [← e.out]; rfl, rfl⟩
theorem heldFilmS_to {w : World} {B n : Nat} {v : Value} (z : Int) (hn : n ≤ 1048576) (hz0 : 0 ≤ z) (hz1 : z ≤ 1000000000000) (h : w.ownsRow B 76 2 v n (mkV z (n * 2))) :
    Calls Try.prog 88 #[v, .int .i64 z] w fun e w' => e = .returned (.int .i64 (z + 2 * (n : Int))) ∧ w' = w := by
  rcases h.2 with ⟨rfl, rfl⟩ | ⟨g, cap, cur, rfl, hB, _⟩
  · refine (heldFilmS_zero none 0 z w).mono ?_
    rintro e w' ⟨rfl, rfl⟩
    exact ⟨by simp, rfl⟩
  · refine heldFilmS_pos g cap n z w hn hz0 hz1 fun t ht => ?_
    rw [World.ownsRow.cellAt (w := w) (g := g) (cap := cap) h t (by omega), mkV_at ht]

/-- The numbers z, z + 1, .. as elements. -/
def marksF (z : Int) (n : Nat) : List Flm := (List.range n).map fun j : Nat => ⟨z + 2 * (j : Int), z + 2 * (j : Int) + 1⟩
theorem marksF_length (z : Int) (n : Nat) : (marksF z n).length = n := by simp [marksF]
theorem marksF_fm (z : Int) (n : Nat) : (marksF z n).flatMap flC = mkV z (n * 2) := by
  refine mkV_of (by rw [fm_length flC_len, marksF_length]) fun t ht => ?_
  obtain ⟨j, i, rfl, hi⟩ : ∃ j i, t = j * 2 + i ∧ i < 2 := ⟨t / 2, t % 2, by omega, by omega⟩
  have hj : j < (marksF z n).length := by rw [marksF_length]; omega
  rw [fm_get flC_len _ j i hj hi]
  simp only [marksF, List.getElem_map, List.getElem_range, flC]
  match i, hi with
  | 0, _ => simp only [List.getElem?_cons_zero]; rw [show z + 2 * (j : Int) = z + ((j * 2 + 0 : Nat) : Int) by omega]
  | 1, _ => simp only [List.getElem?_cons_succ, List.getElem?_cons_zero]; rw [show z + 2 * (j : Int) + 1 = z + ((j * 2 + 1 : Nat) : Int) by omega]
theorem mark1F {w : World} {B : Nat} {v : Value} {xs : List Flm} (z : Int) (hn : xs.length ≤ 1048576) (hk0 : 0 ≤ z) (hk1 : z ≤ 1000000000000) (h : OG 76 2 flC w B v xs) :
    Calls Try.prog 81 #[v, .int .i64 z] w fun e w' => e = .returned (.int .i64 (z + 2 * (xs.length : Int))) ∧ OG 76 2 flC w' B v (marksF z xs.length) ∧ ∃ g, B ≤ g ∧ (v.ownBlock = some g ∨ w' = w) ∧ Only g w w' := by
  rcases h.2 with ⟨rfl, h0⟩ | ⟨g, cap, cur, rfl, hB, _⟩
  · obtain rfl : xs = [] := List.length_eq_zero_iff.1 h0
    refine (markFilmS_zero none 0 z w).mono ?_
    rintro e w' ⟨rfl, rfl⟩
    exact ⟨by simp, h, B, Nat.le_refl _, Or.inr rfl, Only.refl _ _⟩
  · refine (markFilmS_pos g cap xs.length B _ z w hn hk0 hk1 h).mono ?_
    rintro e w' ⟨rfl, h1, h2⟩
    refine ⟨rfl, ?_, g, hB, Or.inl rfl, h2⟩
    unfold OG
    rw [marksF_length, marksF_fm]; exact h1
theorem held1F {w : World} {B n : Nat} {v : Value} (z : Int) (hn : n ≤ 1048576) (hk0 : 0 ≤ z) (hk1 : z ≤ 1000000000000) (h : OG 76 2 flC w B v (marksF z n)) :
    Calls Try.prog 88 #[v, .int .i64 z] w fun e w' => e = .returned (.int .i64 (z + 2 * (n : Int))) ∧ w' = w := by
  unfold OG at h
  rw [marksF_length, marksF_fm] at h
  exact heldFilmS_to z hn hk0 hk1 h
/-- Nothing has turned but the rows' own cells. -/
structure OnlyF (vs : List Value) (m : Nat) (w w' : World) : Prop where
  os : w'.os = w.os
  tape : w'.tape = w.tape
  output : w'.output = w.output
  size : w'.heap.size = w.heap.size
  block : ∀ k, (∀ i, i < m → (rat vs i).ownBlock ≠ some k) → w'.heap[k]? = w.heap[k]?
theorem OnlyF.refl (vs : List Value) (m : Nat) (w : World) : OnlyF vs m w w := ⟨rfl, rfl, rfl, rfl, fun _ _ => rfl⟩
theorem OnlyF.chg {vs : List Value} {m : Nat} {w w' : World} {B Z : Nat} (h : OnlyF vs m w w') (hv : ∀ i, i < m → ∀ g, (rat vs i).ownBlock = some g → B ≤ g ∧ g < Z) : Chg B Z w w' :=
  ⟨h.os, h.tape, h.output, by rw [h.size]; exact Nat.le_refl _, fun k hk hb => h.block k fun i hi e => by have := hv i hi k e; omega⟩
/-- The first j rows marked, from z on. -/
def mkGF (z : Int) (ls : List (List Flm)) : Nat → List (List Flm)
  | 0 => ls
  | j + 1 => (mkGF z ls j).set j (marksF (z + 2 * (totF ls j : Int)) (ls.getD j []).length)
theorem mkGF_len (z : Int) (ls : List (List Flm)) (j : Nat) : (mkGF z ls j).length = ls.length := by
  induction j with
  | zero => rfl
  | succ j ih => rw [mkGF, List.length_set, ih]
theorem mkGF_after (z : Int) (ls : List (List Flm)) {j i : Nat} (h : j ≤ i) : (mkGF z ls j).getD i [] = ls.getD i [] := by
  induction j with
  | zero => rfl
  | succ j ih =>
    rw [mkGF, List.getD_eq_getElem?_getD, List.getElem?_set_ne (by omega), ← List.getD_eq_getElem?_getD]
    exact ih (by omega)
theorem mkGF_at (z : Int) (ls : List (List Flm)) {j i : Nat} (h : i < j) (hi : i < ls.length) : (mkGF z ls j).getD i [] = marksF (z + 2 * (totF ls i : Int)) (ls.getD i []).length := by
  induction j with
  | zero => omega
  | succ j ih =>
    rw [mkGF]
    by_cases e : i = j
    · subst e
      rw [List.getD_eq_getElem?_getD, List.getElem?_set_self (by rw [mkGF_len]; exact hi)]
      rfl
    · rw [List.getD_eq_getElem?_getD, List.getElem?_set_ne (by omega), ← List.getD_eq_getElem?_getD]
      exact ih (by omega)

set_option maxRecDepth 10000 in
set_option maxHeartbeats 4000000 in
theorem markRows_onF {w : World} {B : Nat} {v : Value} {ls : List (List Flm)} {vs : List Value} (z0 : Int) (hn : SmF ls) (hz0 : 0 ≤ z0) (hz1 : z0 ≤ 1000000000) (h : RoF w B v ls vs) :
    Calls Try.prog 50 #[v, .int .i64 z0] w fun e w' => e = .returned (.int .i64 (z0 + 2 * (totF ls ls.length : Int))) ∧ RoF w' B v (mkGF z0 ls ls.length) vs ∧ OnlyF vs ls.length w w' := by
  obtain ⟨a, c, rfl⟩ := h.form
  obtain ⟨m, hm⟩ : ∃ m, m = ls.length := ⟨_, rfl⟩
  rw [← hm] at h ⊢
  have H : Hid (RoF w B (.slice a m c) ls vs) := h
  have HM : Hid (m = ls.length ∧ SmF ls) := ⟨hm, hn⟩
  have hl : m ≤ 1048576 := by rw [hm]; exact hn.len
  clear h hm hn
  go_enter Try.func50, Try.ntmps50
  go_wp2_with (fail)
  go_loopw [1, 5] (fun q i wr => ∃ (j : Nat) (z : Int), j ≤ m ∧ i = .int .i64 j ∧ q = .int .i64 z ∧ 0 ≤ z ∧ z ≤ 2000000000 ∧ Hid (z = z0 + 2 * (totF ls j : Int) ∧ RoF wr B (.slice a m c) (mkGF z0 ls j) vs ∧ OnlyF vs m w wr)) (fun _ i _ => m - (intOf i).toNat)
  case atStart => exact ⟨0, z0, Nat.zero_le _, rfl, rfl, hz0, by omega, by simp [totF], H.out, OnlyF.refl _ _ _⟩
  case round =>
    clear H
    obtain ⟨j, z, hj, rfl, rfl, hz0', hz1', hR⟩ := hrel
    by_cases hlt : j < m
    · have hjl : j < (mkGF z0 ls j).length := by rw [mkGF_len, ← HM.out.1]; exact hlt
      obtain ⟨gr, cr, he, hgB, hgl, hjr⟩ := hR.out.2.1.pos (by omega)
      simp only [Value.slice.injEq] at he
      obtain ⟨rfl, hx1, hx2⟩ := he
      clear hx1 hx2
      have r0 := hjr j hjl
      have hrw := hR.out.2.1.bx j hjl
      rw [mkGF_after z0 ls (Nat.le_refl j)] at hrw
      have hbj := HM.out.2.row j
      have ht1 := HM.out.2.upto (show j + 1 ≤ ls.length by rw [← HM.out.1]; omega)
      obtain ⟨u, hu⟩ : ∃ u, u = rat vs j := ⟨_, rfl⟩
      rw [← hu] at r0 hrw
      obtain ⟨L, hL⟩ : ∃ L, L = (ls.getD j []).length := ⟨_, rfl⟩
      have HC : Hid (Calls Try.prog 81 #[u, .int .i64 z] wr fun e w' => e = .returned (.int .i64 (z + 2 * (L : Int))) ∧ RoF w' B (.slice (some ⟨gr, 0, none⟩) m c) (mkGF z0 ls (j + 1)) vs ∧ OnlyF vs m w w') := by
        refine (mark1F z (by omega) hz0' (by omega) hrw).mono ?_
        rintro e w' ⟨rfl, h1, g, _, hgo, hon⟩
        have hO : ∀ k, u.ownBlock ≠ some k → w'.heap[k]? = wr.heap[k]? := fun k hk => by
          rcases hgo with e | e
          · exact hon.block k fun e2 => hk (by rw [e, e2])
          · rw [e]
        refine ⟨by rw [hL], ?_, ⟨hon.os.trans hR.out.2.2.os, hon.tape.trans hR.out.2.2.tape, hon.output.trans hR.out.2.2.output, hon.size.trans hR.out.2.2.size, fun k hk => (hO k (by rw [hu]; exact hk j hlt)).trans (hR.out.2.2.block k hk)⟩⟩
        rw [mkGF]
        refine hR.out.2.1.turn hjl ?_ (by rw [← hu]; exact hO)
        rw [← hu, ← hR.out.1]
        exact h1
      have HT : Hid (z + 2 * (L : Int) = z0 + 2 * (totF ls (j + 1) : Int)) := by unfold Hid; rw [hR.out.1, hL]; simp only [totF]; omega
      have hLt : z + 2 * (L : Int) = z0 + 2 * (totF ls (j + 1) : Int) := HT.out
      obtain ⟨ua, uc, huf⟩ := hrw.form
      rw [← hL] at huf
      subst huf
      clear hjr hR hrw hu hL hbj
      have hz2 : 0 ≤ z + 2 * (L : Int) ∧ z + 2 * (L : Int) ≤ 2000000000 := by omega
      clear hLt ht1
      have b0 : (0 : Int) ≤ (j : Int) := by omega
      have b1 : (j : Int) < (m : Int) := by omega
      go_wp2_with (fail)
      refine HC.out.mono ?_
      rintro e w' ⟨rfl, hP, hO⟩
      have R : Hid (z + 2 * (L : Int) = z0 + 2 * (totF ls (j + 1) : Int) ∧ RoF w' B (.slice (some ⟨gr, 0, none⟩) m c) (mkGF z0 ls (j + 1)) vs ∧ OnlyF vs m w w') := ⟨HT.out, hP, hO⟩
      clear hP hO HC HT
      go_wp2
      go_roundw
      case rel => exact ⟨j + 1, _, by omega, by go_num, rfl, hz2.1, hz2.2, R.out⟩
      case measure => simp [intOf]; omega
    · have ej : m = j := by omega
      subst ej
      have HR : Hid _ := hR.out
      clear hR
      go_wp2
      go_returns
      exact ⟨by rw [HR.out.1]; rfl, HR.out.2.1, HR.out.2.2⟩

theorem markFilmSS_to {w : World} {B Z : Nat} {v : Value} {ls : List (List Flm)} {vs : List Value} (z : Int) (hn : SmF ls) (hz0 : 0 ≤ z) (hz1 : z ≤ 1000000000) (h : RoF w B v ls vs) (hZ : LtF v vs ls.length Z) :
    Calls Try.prog 50 #[v, .int .i64 z] w fun e w' => e = .returned (.int .i64 (z + 2 * (totF ls ls.length : Int))) ∧ RoF w' B v (mkGF z ls ls.length) vs ∧ Chg B Z w w' := by
  refine (markRows_onF z hn hz0 hz1 h).mono ?_
  rintro e w' ⟨rfl, h1, h2⟩
  exact ⟨rfl, h1, h2.chg fun i hi g hg => ⟨(rowBlk (h.bx i hi) hg).1, hZ.2 i hi g hg⟩⟩


end Go.Proofs.Ytceljakmjddgbab
