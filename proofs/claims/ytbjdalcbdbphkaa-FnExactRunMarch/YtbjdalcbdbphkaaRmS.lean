/- Proved here: a write to a memory with a fault, of the model. -/
import Derived.Test.YtbjdalcbdbphkaaRmM
import Derived.Test.YtbjdalcbdbphkaaCeQ
import Derived.Test.YtbjdalcbdbphkaaUnd
import Derived.Deep.Cut
namespace Go.Proofs.Ytbjdalcbdbphkaa
open Go.RowKit
set_option linter.unusedVariables false
set_option linter.unusedSimpArgs false

theorem IS.bit {w : World} {B g n cc i : Nat} {m : Nat → Int} (h : IS w B (.slice (some ⟨g, 0, none⟩) n cc) ((List.range n).map m)) (hi : i < n) : w.cell? ⟨g, i, none⟩ = some (.int .i64 (m i)) ∧ w.frozen? ⟨g, i, none⟩ = false ∧ g < w.heap.size := by
  have h9 := h.cellAt (j := i) (y := m i) (by simp [hi])
  exact ⟨h9.1, h9.2, (IS.lt h g rfl).2⟩
theorem IS.up {w : World} {B g n cc : Nat} {m : Nat → Int} (h : IS w B (.slice (some ⟨g, 0, none⟩) n cc) ((List.range n).map m)) (i : Nat) (x : Int) : IS (w.setCell ⟨g, i, none⟩ (.int .i64 x)) B (.slice (some ⟨g, 0, none⟩) n cc) ((List.range n).map (up m i x)) := by
  have h9 := h.put i x
  rw [map_up] at h9; exact h9
theorem up_same (m : Nat → Int) (i : Nat) : Go.Proofs.Ytbjdalcbdbphkaa.up m i (m i) = m := by
  funext j; unfold Go.Proofs.Ytbjdalcbdbphkaa.up
  by_cases e : j = i
  · rw [if_pos e, e]
  · rw [if_neg e]
theorem wr_same {f : Mf} {m : Nat → Int} {i : Nat} {v : Int} (h : m i = v) : wrM f m i v = m := by unfold wrM; rw [if_pos h]

set_option maxRecDepth 10000 in
set_option maxHeartbeats 25600000 in
theorem spec_wr {W : World} {B g n cc : Nat} {f : Mf} {m : Nat → Int} (i : Nat) (v : Int) (hi : i < n) (hv : v = 0 ∨ v = 1) (hc : f.c < n) (hbit : Bit m) (hn12 : n ≤ 12) (h : IS W B (.slice (some ⟨g, 0, none⟩) n cc) ((List.range n).map m)) :
    Calls Try.prog 80 #[(.slice (some ⟨g, 0, none⟩) n cc), .agg #[.int .i64 f.k, .int .i64 (f.c : Int), .int .i64 f.b, .int .i64 f.v], .int .i64 i, .int .i64 v] W fun e w' => e = .returned (.tuple #[]) ∧ IS w' B (.slice (some ⟨g, 0, none⟩) n cc) ((List.range n).map (wrM f m i v)) ∧ ((∀ q, q < W.heap.size → q ≠ g → w'.heap[q]? = W.heap[q]?) ∧ Below B W w') := by
  obtain ⟨k, c, b, u⟩ := f
  simp only at hc ⊢
  obtain ⟨V, hV⟩ : ∃ V, V = W.alloc (.cells #[.int .i64 k, .int .i64 (c : Int), .int .i64 b, .int .i64 u] 31) := ⟨_, rfl⟩
  have hgW : g < W.heap.size := (IS.lt h g rfl).2
  have hBW : Hid (B ≤ W.heap.size) := by have h9 := (IS.lt h g rfl).1; unfold Hid; omega
  have HV : Hid (IS V B (.slice (some ⟨g, 0, none⟩) n cc) ((List.range n).map m) ∧ ((∀ q, q < W.heap.size → q ≠ g → V.heap[q]? = W.heap[q]?) ∧ Below B W V) ∧ V.heap[W.heap.size]? = some (.cells #[.int .i64 k, .int .i64 (c : Int), .int .i64 b, .int .i64 u] 31)) := by
    rw [hV]
    exact ⟨h.alloc _, ⟨fun q h1 h2 => heap_alloc_old _ _ h1, (Below.refl _ _).alloc hBW.out _⟩, heap_alloc_new _ _⟩
  obtain ⟨n0, n1, gl⟩ := HV.out.1.bit hi
  obtain ⟨x, hx⟩ : ∃ x, x = m i := ⟨_, rfl⟩
  have HX : Hid (x = m i) := hx
  have hx01 : x = 0 ∨ x = 1 := by rw [hx]; exact hbit i
  rw [← hx] at n0
  clear hx h hBW
  have bi : (0 : Int) ≤ (i : Int) := by omega
  have bi2 : (i : Int) < (n : Int) := by omega
  have bc : (0 : Int) ≤ (c : Int) := by omega
  have bc2 : (c : Int) < (n : Int) := by omega
  have p0 : V.cell? ⟨W.heap.size, 0, none⟩ = some (.int .i64 k) := cellOfQ HV.out.2.2 0 rfl
  have p1 : V.cell? ⟨W.heap.size, 1, none⟩ = some (.int .i64 (c : Int)) := cellOfQ HV.out.2.2 1 rfl
  have p2 : V.cell? ⟨W.heap.size, 2, none⟩ = some (.int .i64 b) := cellOfQ HV.out.2.2 2 rfl
  have p3 : V.cell? ⟨W.heap.size, 3, none⟩ = some (.int .i64 u) := cellOfQ HV.out.2.2 3 rfl
  have pl := ltOfQ HV.out.2.2

  go_enter Try.func80, Try.ntmps80
  go_upto_region 1 with (fail)
  rw [← hV]
  clear hV
  by_cases h1 : k = 1
  · subst h1
    by_cases hit : i = c
    · subst hit
      have HN : Hid (wrM ⟨1, i, b, u⟩ m i v = m) := by
        unfold Hid wrM brM; by_cases e : m i = v
        · rw [if_pos e]
        · rw [if_neg e, if_pos (by simp)]

      go_wp2
      go_returns
      exact ⟨rfl, by rw [HN.out]; exact HV.out.1, HV.out.2.1⟩

    have bh : ((c : Int) == (i : Int)) = false := by simp; omega
    have hk4 : ¬ (1 : Int) = 4 := by decide
    have hk5 : ¬ (1 : Int) = 5 := by decide
    have HBR : Hid (¬ m i = v → brM ⟨1, c, b, u⟩ i v = false) := by
      intro hxv
      unfold brM; rw [if_neg hit]

    obtain ⟨V1, hV1⟩ : ∃ V1, V1 = V.setCell ⟨g, i, none⟩ (.int .i64 v) := ⟨_, rfl⟩
    have HV1 : Hid (IS V1 B (.slice (some ⟨g, 0, none⟩) n cc) ((List.range n).map (up m i v)) ∧ ((∀ q, q < W.heap.size → q ≠ g → V1.heap[q]? = W.heap[q]?) ∧ Below B W V1) ∧ V1.heap[W.heap.size]? = some (.cells #[.int .i64 1, .int .i64 (c : Int), .int .i64 b, .int .i64 u] 31)) := by
      rw [hV1]
      refine ⟨HV.out.1.up i v, ⟨fun q h1 h2 => ?_, HV.out.2.1.2.setCell (by have h9 := (IS.lt HV.out.1 g rfl).1; exact h9) _⟩, ?_⟩
      · rw [heap_setCell_other _ _ _ _ (by exact h2)]; exact HV.out.2.1.1 q h1 h2
      · rw [heap_setCell_other _ _ _ _ (by show W.heap.size ≠ g; omega)]; exact HV.out.2.2
    by_cases e1 : x = v
    · have HN : Hid (wrM ⟨1, c, b, u⟩ m i v = up m i v) := by
        have h9 : up m i v = m := by rw [← e1, HX.out]; exact up_same m i
        unfold Hid; rw [h9, wr_same (by rw [← HX.out]; exact e1)]
      subst e1
      go_wp2
      go_returns
      rw [← hV1]
      exact ⟨rfl, by rw [HN.out]; exact HV1.out.1, HV1.out.2.1⟩

    have b1 : (x == v) = false := by simpa using e1
    have hxv : ¬ m i = v := by rw [← HX.out]; exact e1
    by_cases e2 : ¬ b = (i : Int)
    · have HN : Hid (wrM ⟨1, c, b, u⟩ m i v = up m i v) := by
        unfold Hid wrM
        rw [if_neg hxv, if_neg (by rw [HBR.out hxv]; decide), if_neg (fun h => e2 h.symm)]
      have b2 : (b == (i : Int)) = false := by simpa using e2
      go_wp2
      go_returns
      rw [← hV1]
      exact ⟨rfl, by rw [HN.out]; exact HV1.out.1, HV1.out.2.1⟩

    have HN0 : Hid (wrM ⟨1, c, b, u⟩ m i v = tuM ⟨1, c, b, u⟩ (up m i v) v) := by
      unfold Hid wrM
      rw [if_neg hxv, if_neg (by rw [HBR.out hxv]; decide), if_pos (Decidable.of_not_not e2).symm]
    have e2 := Decidable.of_not_not e2
    subst e2
    go_upto_region 8 with (fail)
    rw [← hV1]
    have q0 : V1.cell? ⟨W.heap.size, 0, none⟩ = some (.int .i64 1) := cellOfQ HV1.out.2.2 0 rfl
    have q1 : V1.cell? ⟨W.heap.size, 1, none⟩ = some (.int .i64 (c : Int)) := cellOfQ HV1.out.2.2 1 rfl
    have q2 : V1.cell? ⟨W.heap.size, 2, none⟩ = some (.int .i64 (i : Int)) := cellOfQ HV1.out.2.2 2 rfl
    have q3 : V1.cell? ⟨W.heap.size, 3, none⟩ = some (.int .i64 u) := cellOfQ HV1.out.2.2 3 rfl
    have ql := ltOfQ HV1.out.2.2
    clear HV hV1 n0 n1 gl p0 p1 p2 p3 pl
    have HN : Hid (wrM ⟨1, c, (i : Int), u⟩ m i v = up m i v) := by
      unfold Hid; rw [HN0.out]; unfold tuM; rw [if_neg hk4, if_neg hk5]
    go_wp2
    go_returns

    exact ⟨rfl, by rw [HN.out]; exact HV1.out.1, HV1.out.2.1⟩
  have kb1 : (k == 1) = false := by simpa using h1
  by_cases h2 : k = 2
  · subst h2
    by_cases hit : i = c
    · subst hit
      by_cases e0 : x = 0
      · subst e0
        have HN : Hid (wrM ⟨2, i, b, u⟩ m i v = m) := by
          have h0 := HX.out
          unfold Hid wrM brM; by_cases e : m i = v
          · rw [if_pos e]
          · rw [if_neg e]
            have hv1 : v = 1 := by omega
            subst hv1
            rw [if_pos (by simp)]

        go_wp2
        go_returns
        exact ⟨rfl, by rw [HN.out]; exact HV.out.1, HV.out.2.1⟩
      have b0 : (x == 0) = false := by simpa using e0
      have hk4 : ¬ (2 : Int) = 4 := by decide
      have hk5 : ¬ (2 : Int) = 5 := by decide
      have HBR : Hid (¬ m i = v → brM ⟨2, i, b, u⟩ i v = false) := by
        intro hxv
        have hx1 : x = 1 := by omega
        have h0 := HX.out
        have hv1 : v = 0 := by omega
        subst hv1
        unfold brM
        simp

      obtain ⟨V1, hV1⟩ : ∃ V1, V1 = V.setCell ⟨g, i, none⟩ (.int .i64 v) := ⟨_, rfl⟩
      have HV1 : Hid (IS V1 B (.slice (some ⟨g, 0, none⟩) n cc) ((List.range n).map (up m i v)) ∧ ((∀ q, q < W.heap.size → q ≠ g → V1.heap[q]? = W.heap[q]?) ∧ Below B W V1) ∧ V1.heap[W.heap.size]? = some (.cells #[.int .i64 2, .int .i64 (i : Int), .int .i64 b, .int .i64 u] 31)) := by
        rw [hV1]
        refine ⟨HV.out.1.up i v, ⟨fun q h1 h2 => ?_, HV.out.2.1.2.setCell (by have h9 := (IS.lt HV.out.1 g rfl).1; exact h9) _⟩, ?_⟩
        · rw [heap_setCell_other _ _ _ _ (by exact h2)]; exact HV.out.2.1.1 q h1 h2
        · rw [heap_setCell_other _ _ _ _ (by show W.heap.size ≠ g; omega)]; exact HV.out.2.2
      by_cases e1 : x = v
      · have HN : Hid (wrM ⟨2, i, b, u⟩ m i v = up m i v) := by
          have h9 : up m i v = m := by rw [← e1, HX.out]; exact up_same m i
          unfold Hid; rw [h9, wr_same (by rw [← HX.out]; exact e1)]
        subst e1
        go_wp2
        go_returns
        rw [← hV1]
        exact ⟨rfl, by rw [HN.out]; exact HV1.out.1, HV1.out.2.1⟩

      have b1 : (x == v) = false := by simpa using e1
      have hxv : ¬ m i = v := by rw [← HX.out]; exact e1
      by_cases e2 : ¬ b = (i : Int)
      · have HN : Hid (wrM ⟨2, i, b, u⟩ m i v = up m i v) := by
          unfold Hid wrM
          rw [if_neg hxv, if_neg (by rw [HBR.out hxv]; decide), if_neg (fun h => e2 h.symm)]
        have b2 : (b == (i : Int)) = false := by simpa using e2
        go_wp2
        go_returns
        rw [← hV1]
        exact ⟨rfl, by rw [HN.out]; exact HV1.out.1, HV1.out.2.1⟩

      have HN0 : Hid (wrM ⟨2, i, b, u⟩ m i v = tuM ⟨2, i, b, u⟩ (up m i v) v) := by
        unfold Hid wrM
        rw [if_neg hxv, if_neg (by rw [HBR.out hxv]; decide), if_pos (Decidable.of_not_not e2).symm]
      have e2 := Decidable.of_not_not e2
      subst e2
      go_upto_region 8 with (fail)
      rw [← hV1]
      have q0 : V1.cell? ⟨W.heap.size, 0, none⟩ = some (.int .i64 2) := cellOfQ HV1.out.2.2 0 rfl
      have q1 : V1.cell? ⟨W.heap.size, 1, none⟩ = some (.int .i64 (i : Int)) := cellOfQ HV1.out.2.2 1 rfl
      have q2 : V1.cell? ⟨W.heap.size, 2, none⟩ = some (.int .i64 (i : Int)) := cellOfQ HV1.out.2.2 2 rfl
      have q3 : V1.cell? ⟨W.heap.size, 3, none⟩ = some (.int .i64 u) := cellOfQ HV1.out.2.2 3 rfl
      have ql := ltOfQ HV1.out.2.2
      clear HV hV1 n0 n1 gl p0 p1 p2 p3 pl
      have HN : Hid (wrM ⟨2, i, (i : Int), u⟩ m i v = up m i v) := by
        unfold Hid; rw [HN0.out]; unfold tuM; rw [if_neg hk4, if_neg hk5]
      go_wp2
      go_returns

      exact ⟨rfl, by rw [HN.out]; exact HV1.out.1, HV1.out.2.1⟩

    have bh : ((c : Int) == (i : Int)) = false := by simp; omega
    have hk4 : ¬ (2 : Int) = 4 := by decide
    have hk5 : ¬ (2 : Int) = 5 := by decide
    have HBR : Hid (¬ m i = v → brM ⟨2, c, b, u⟩ i v = false) := by
      intro hxv
      unfold brM; rw [if_neg hit]

    obtain ⟨V1, hV1⟩ : ∃ V1, V1 = V.setCell ⟨g, i, none⟩ (.int .i64 v) := ⟨_, rfl⟩
    have HV1 : Hid (IS V1 B (.slice (some ⟨g, 0, none⟩) n cc) ((List.range n).map (up m i v)) ∧ ((∀ q, q < W.heap.size → q ≠ g → V1.heap[q]? = W.heap[q]?) ∧ Below B W V1) ∧ V1.heap[W.heap.size]? = some (.cells #[.int .i64 2, .int .i64 (c : Int), .int .i64 b, .int .i64 u] 31)) := by
      rw [hV1]
      refine ⟨HV.out.1.up i v, ⟨fun q h1 h2 => ?_, HV.out.2.1.2.setCell (by have h9 := (IS.lt HV.out.1 g rfl).1; exact h9) _⟩, ?_⟩
      · rw [heap_setCell_other _ _ _ _ (by exact h2)]; exact HV.out.2.1.1 q h1 h2
      · rw [heap_setCell_other _ _ _ _ (by show W.heap.size ≠ g; omega)]; exact HV.out.2.2
    by_cases e1 : x = v
    · have HN : Hid (wrM ⟨2, c, b, u⟩ m i v = up m i v) := by
        have h9 : up m i v = m := by rw [← e1, HX.out]; exact up_same m i
        unfold Hid; rw [h9, wr_same (by rw [← HX.out]; exact e1)]
      subst e1
      go_wp2
      go_returns
      rw [← hV1]
      exact ⟨rfl, by rw [HN.out]; exact HV1.out.1, HV1.out.2.1⟩

    have b1 : (x == v) = false := by simpa using e1
    have hxv : ¬ m i = v := by rw [← HX.out]; exact e1
    by_cases e2 : ¬ b = (i : Int)
    · have HN : Hid (wrM ⟨2, c, b, u⟩ m i v = up m i v) := by
        unfold Hid wrM
        rw [if_neg hxv, if_neg (by rw [HBR.out hxv]; decide), if_neg (fun h => e2 h.symm)]
      have b2 : (b == (i : Int)) = false := by simpa using e2
      go_wp2
      go_returns
      rw [← hV1]
      exact ⟨rfl, by rw [HN.out]; exact HV1.out.1, HV1.out.2.1⟩

    have HN0 : Hid (wrM ⟨2, c, b, u⟩ m i v = tuM ⟨2, c, b, u⟩ (up m i v) v) := by
      unfold Hid wrM
      rw [if_neg hxv, if_neg (by rw [HBR.out hxv]; decide), if_pos (Decidable.of_not_not e2).symm]
    have e2 := Decidable.of_not_not e2
    subst e2
    go_upto_region 8 with (fail)
    rw [← hV1]
    have q0 : V1.cell? ⟨W.heap.size, 0, none⟩ = some (.int .i64 2) := cellOfQ HV1.out.2.2 0 rfl
    have q1 : V1.cell? ⟨W.heap.size, 1, none⟩ = some (.int .i64 (c : Int)) := cellOfQ HV1.out.2.2 1 rfl
    have q2 : V1.cell? ⟨W.heap.size, 2, none⟩ = some (.int .i64 (i : Int)) := cellOfQ HV1.out.2.2 2 rfl
    have q3 : V1.cell? ⟨W.heap.size, 3, none⟩ = some (.int .i64 u) := cellOfQ HV1.out.2.2 3 rfl
    have ql := ltOfQ HV1.out.2.2
    clear HV hV1 n0 n1 gl p0 p1 p2 p3 pl
    have HN : Hid (wrM ⟨2, c, (i : Int), u⟩ m i v = up m i v) := by
      unfold Hid; rw [HN0.out]; unfold tuM; rw [if_neg hk4, if_neg hk5]
    go_wp2
    go_returns

    exact ⟨rfl, by rw [HN.out]; exact HV1.out.1, HV1.out.2.1⟩
  have kb2 : (k == 2) = false := by simpa using h2
  by_cases h3 : k = 3
  · subst h3
    by_cases hit : i = c
    · subst hit
      by_cases e0 : x = 1
      · subst e0
        have HN : Hid (wrM ⟨3, i, b, u⟩ m i v = m) := by
          have h0 := HX.out
          unfold Hid wrM brM; by_cases e : m i = v
          · rw [if_pos e]
          · rw [if_neg e]
            have hv1 : v = 0 := by omega
            subst hv1
            rw [if_pos (by simp)]

        go_wp2
        go_returns
        exact ⟨rfl, by rw [HN.out]; exact HV.out.1, HV.out.2.1⟩
      have b0 : (x == 1) = false := by simpa using e0
      have hk4 : ¬ (3 : Int) = 4 := by decide
      have hk5 : ¬ (3 : Int) = 5 := by decide
      have HBR : Hid (¬ m i = v → brM ⟨3, i, b, u⟩ i v = false) := by
        intro hxv
        have hx1 : x = 0 := by omega
        have h0 := HX.out
        have hv1 : v = 1 := by omega
        subst hv1
        unfold brM
        simp

      obtain ⟨V1, hV1⟩ : ∃ V1, V1 = V.setCell ⟨g, i, none⟩ (.int .i64 v) := ⟨_, rfl⟩
      have HV1 : Hid (IS V1 B (.slice (some ⟨g, 0, none⟩) n cc) ((List.range n).map (up m i v)) ∧ ((∀ q, q < W.heap.size → q ≠ g → V1.heap[q]? = W.heap[q]?) ∧ Below B W V1) ∧ V1.heap[W.heap.size]? = some (.cells #[.int .i64 3, .int .i64 (i : Int), .int .i64 b, .int .i64 u] 31)) := by
        rw [hV1]
        refine ⟨HV.out.1.up i v, ⟨fun q h1 h2 => ?_, HV.out.2.1.2.setCell (by have h9 := (IS.lt HV.out.1 g rfl).1; exact h9) _⟩, ?_⟩
        · rw [heap_setCell_other _ _ _ _ (by exact h2)]; exact HV.out.2.1.1 q h1 h2
        · rw [heap_setCell_other _ _ _ _ (by show W.heap.size ≠ g; omega)]; exact HV.out.2.2
      by_cases e1 : x = v
      · have HN : Hid (wrM ⟨3, i, b, u⟩ m i v = up m i v) := by
          have h9 : up m i v = m := by rw [← e1, HX.out]; exact up_same m i
          unfold Hid; rw [h9, wr_same (by rw [← HX.out]; exact e1)]
        subst e1
        go_wp2
        go_returns
        rw [← hV1]
        exact ⟨rfl, by rw [HN.out]; exact HV1.out.1, HV1.out.2.1⟩

      have b1 : (x == v) = false := by simpa using e1
      have hxv : ¬ m i = v := by rw [← HX.out]; exact e1
      by_cases e2 : ¬ b = (i : Int)
      · have HN : Hid (wrM ⟨3, i, b, u⟩ m i v = up m i v) := by
          unfold Hid wrM
          rw [if_neg hxv, if_neg (by rw [HBR.out hxv]; decide), if_neg (fun h => e2 h.symm)]
        have b2 : (b == (i : Int)) = false := by simpa using e2
        go_wp2
        go_returns
        rw [← hV1]
        exact ⟨rfl, by rw [HN.out]; exact HV1.out.1, HV1.out.2.1⟩

      have HN0 : Hid (wrM ⟨3, i, b, u⟩ m i v = tuM ⟨3, i, b, u⟩ (up m i v) v) := by
        unfold Hid wrM
        rw [if_neg hxv, if_neg (by rw [HBR.out hxv]; decide), if_pos (Decidable.of_not_not e2).symm]
      have e2 := Decidable.of_not_not e2
      subst e2
      go_upto_region 8 with (fail)
      rw [← hV1]
      have q0 : V1.cell? ⟨W.heap.size, 0, none⟩ = some (.int .i64 3) := cellOfQ HV1.out.2.2 0 rfl
      have q1 : V1.cell? ⟨W.heap.size, 1, none⟩ = some (.int .i64 (i : Int)) := cellOfQ HV1.out.2.2 1 rfl
      have q2 : V1.cell? ⟨W.heap.size, 2, none⟩ = some (.int .i64 (i : Int)) := cellOfQ HV1.out.2.2 2 rfl
      have q3 : V1.cell? ⟨W.heap.size, 3, none⟩ = some (.int .i64 u) := cellOfQ HV1.out.2.2 3 rfl
      have ql := ltOfQ HV1.out.2.2
      clear HV hV1 n0 n1 gl p0 p1 p2 p3 pl
      have HN : Hid (wrM ⟨3, i, (i : Int), u⟩ m i v = up m i v) := by
        unfold Hid; rw [HN0.out]; unfold tuM; rw [if_neg hk4, if_neg hk5]
      go_wp2
      go_returns

      exact ⟨rfl, by rw [HN.out]; exact HV1.out.1, HV1.out.2.1⟩

    have bh : ((c : Int) == (i : Int)) = false := by simp; omega
    have hk4 : ¬ (3 : Int) = 4 := by decide
    have hk5 : ¬ (3 : Int) = 5 := by decide
    have HBR : Hid (¬ m i = v → brM ⟨3, c, b, u⟩ i v = false) := by
      intro hxv
      unfold brM; rw [if_neg hit]

    obtain ⟨V1, hV1⟩ : ∃ V1, V1 = V.setCell ⟨g, i, none⟩ (.int .i64 v) := ⟨_, rfl⟩
    have HV1 : Hid (IS V1 B (.slice (some ⟨g, 0, none⟩) n cc) ((List.range n).map (up m i v)) ∧ ((∀ q, q < W.heap.size → q ≠ g → V1.heap[q]? = W.heap[q]?) ∧ Below B W V1) ∧ V1.heap[W.heap.size]? = some (.cells #[.int .i64 3, .int .i64 (c : Int), .int .i64 b, .int .i64 u] 31)) := by
      rw [hV1]
      refine ⟨HV.out.1.up i v, ⟨fun q h1 h2 => ?_, HV.out.2.1.2.setCell (by have h9 := (IS.lt HV.out.1 g rfl).1; exact h9) _⟩, ?_⟩
      · rw [heap_setCell_other _ _ _ _ (by exact h2)]; exact HV.out.2.1.1 q h1 h2
      · rw [heap_setCell_other _ _ _ _ (by show W.heap.size ≠ g; omega)]; exact HV.out.2.2
    by_cases e1 : x = v
    · have HN : Hid (wrM ⟨3, c, b, u⟩ m i v = up m i v) := by
        have h9 : up m i v = m := by rw [← e1, HX.out]; exact up_same m i
        unfold Hid; rw [h9, wr_same (by rw [← HX.out]; exact e1)]
      subst e1
      go_wp2
      go_returns
      rw [← hV1]
      exact ⟨rfl, by rw [HN.out]; exact HV1.out.1, HV1.out.2.1⟩

    have b1 : (x == v) = false := by simpa using e1
    have hxv : ¬ m i = v := by rw [← HX.out]; exact e1
    by_cases e2 : ¬ b = (i : Int)
    · have HN : Hid (wrM ⟨3, c, b, u⟩ m i v = up m i v) := by
        unfold Hid wrM
        rw [if_neg hxv, if_neg (by rw [HBR.out hxv]; decide), if_neg (fun h => e2 h.symm)]
      have b2 : (b == (i : Int)) = false := by simpa using e2
      go_wp2
      go_returns
      rw [← hV1]
      exact ⟨rfl, by rw [HN.out]; exact HV1.out.1, HV1.out.2.1⟩

    have HN0 : Hid (wrM ⟨3, c, b, u⟩ m i v = tuM ⟨3, c, b, u⟩ (up m i v) v) := by
      unfold Hid wrM
      rw [if_neg hxv, if_neg (by rw [HBR.out hxv]; decide), if_pos (Decidable.of_not_not e2).symm]
    have e2 := Decidable.of_not_not e2
    subst e2
    go_upto_region 8 with (fail)
    rw [← hV1]
    have q0 : V1.cell? ⟨W.heap.size, 0, none⟩ = some (.int .i64 3) := cellOfQ HV1.out.2.2 0 rfl
    have q1 : V1.cell? ⟨W.heap.size, 1, none⟩ = some (.int .i64 (c : Int)) := cellOfQ HV1.out.2.2 1 rfl
    have q2 : V1.cell? ⟨W.heap.size, 2, none⟩ = some (.int .i64 (i : Int)) := cellOfQ HV1.out.2.2 2 rfl
    have q3 : V1.cell? ⟨W.heap.size, 3, none⟩ = some (.int .i64 u) := cellOfQ HV1.out.2.2 3 rfl
    have ql := ltOfQ HV1.out.2.2
    clear HV hV1 n0 n1 gl p0 p1 p2 p3 pl
    have HN : Hid (wrM ⟨3, c, (i : Int), u⟩ m i v = up m i v) := by
      unfold Hid; rw [HN0.out]; unfold tuM; rw [if_neg hk4, if_neg hk5]
    go_wp2
    go_returns

    exact ⟨rfl, by rw [HN.out]; exact HV1.out.1, HV1.out.2.1⟩
  have kb3 : (k == 3) = false := by simpa using h3
  by_cases h4 : k = 4
  · subst h4
    have HBR : Hid (¬ m i = v → brM ⟨4, c, b, u⟩ i v = false) := by
      intro hxv
      unfold brM; simp

    obtain ⟨V1, hV1⟩ : ∃ V1, V1 = V.setCell ⟨g, i, none⟩ (.int .i64 v) := ⟨_, rfl⟩
    have HV1 : Hid (IS V1 B (.slice (some ⟨g, 0, none⟩) n cc) ((List.range n).map (up m i v)) ∧ ((∀ q, q < W.heap.size → q ≠ g → V1.heap[q]? = W.heap[q]?) ∧ Below B W V1) ∧ V1.heap[W.heap.size]? = some (.cells #[.int .i64 4, .int .i64 (c : Int), .int .i64 b, .int .i64 u] 31)) := by
      rw [hV1]
      refine ⟨HV.out.1.up i v, ⟨fun q h1 h2 => ?_, HV.out.2.1.2.setCell (by have h9 := (IS.lt HV.out.1 g rfl).1; exact h9) _⟩, ?_⟩
      · rw [heap_setCell_other _ _ _ _ (by exact h2)]; exact HV.out.2.1.1 q h1 h2
      · rw [heap_setCell_other _ _ _ _ (by show W.heap.size ≠ g; omega)]; exact HV.out.2.2
    by_cases e1 : x = v
    · have HN : Hid (wrM ⟨4, c, b, u⟩ m i v = up m i v) := by
        have h9 : up m i v = m := by rw [← e1, HX.out]; exact up_same m i
        unfold Hid; rw [h9, wr_same (by rw [← HX.out]; exact e1)]
      subst e1
      go_wp2
      go_returns
      rw [← hV1]
      exact ⟨rfl, by rw [HN.out]; exact HV1.out.1, HV1.out.2.1⟩

    have b1 : (x == v) = false := by simpa using e1
    have hxv : ¬ m i = v := by rw [← HX.out]; exact e1
    by_cases e2 : ¬ b = (i : Int)
    · have HN : Hid (wrM ⟨4, c, b, u⟩ m i v = up m i v) := by
        unfold Hid wrM
        rw [if_neg hxv, if_neg (by rw [HBR.out hxv]; decide), if_neg (fun h => e2 h.symm)]
      have b2 : (b == (i : Int)) = false := by simpa using e2
      go_wp2
      go_returns
      rw [← hV1]
      exact ⟨rfl, by rw [HN.out]; exact HV1.out.1, HV1.out.2.1⟩

    have HN0 : Hid (wrM ⟨4, c, b, u⟩ m i v = tuM ⟨4, c, b, u⟩ (up m i v) v) := by
      unfold Hid wrM
      rw [if_neg hxv, if_neg (by rw [HBR.out hxv]; decide), if_pos (Decidable.of_not_not e2).symm]
    have e2 := Decidable.of_not_not e2
    subst e2
    go_upto_region 8 with (fail)
    rw [← hV1]
    have q0 : V1.cell? ⟨W.heap.size, 0, none⟩ = some (.int .i64 4) := cellOfQ HV1.out.2.2 0 rfl
    have q1 : V1.cell? ⟨W.heap.size, 1, none⟩ = some (.int .i64 (c : Int)) := cellOfQ HV1.out.2.2 1 rfl
    have q2 : V1.cell? ⟨W.heap.size, 2, none⟩ = some (.int .i64 (i : Int)) := cellOfQ HV1.out.2.2 2 rfl
    have q3 : V1.cell? ⟨W.heap.size, 3, none⟩ = some (.int .i64 u) := cellOfQ HV1.out.2.2 3 rfl
    have ql := ltOfQ HV1.out.2.2
    clear HV hV1 n0 n1 gl p0 p1 p2 p3 pl
    obtain ⟨V2, hV2⟩ : ∃ V2, V2 = V1.setCell ⟨g, c, none⟩ (.int .i64 u) := ⟨_, rfl⟩
    have HV2 : Hid (IS V2 B (.slice (some ⟨g, 0, none⟩) n cc) ((List.range n).map (up (up m i v) c u)) ∧ ((∀ q, q < W.heap.size → q ≠ g → V2.heap[q]? = W.heap[q]?) ∧ Below B W V2)) := by
      rw [hV2]
      exact ⟨HV1.out.1.up c u, fun q h1 h2 => by rw [heap_setCell_other _ _ _ _ (by exact h2)]; exact HV1.out.2.1.1 q h1 h2, HV1.out.2.1.2.setCell (by have h9 := (IS.lt HV1.out.1 g rfl).1; exact h9) _⟩
    have HN : Hid (wrM ⟨4, c, (i : Int), u⟩ m i v = up (up m i v) c u) := by
      unfold Hid; rw [HN0.out]; rfl
    obtain ⟨n0, n1, gl⟩ := HV1.out.1.bit hc
    go_wp2
    go_returns
    rw [← hV2]
    exact ⟨rfl, by rw [HN.out]; exact HV2.out.1, HV2.out.2⟩
  have kb4 : (k == 4) = false := by simpa using h4
  by_cases h5 : k = 5
  · subst h5
    have HBR : Hid (¬ m i = v → brM ⟨5, c, b, u⟩ i v = false) := by
      intro hxv
      unfold brM; simp

    obtain ⟨V1, hV1⟩ : ∃ V1, V1 = V.setCell ⟨g, i, none⟩ (.int .i64 v) := ⟨_, rfl⟩
    have HV1 : Hid (IS V1 B (.slice (some ⟨g, 0, none⟩) n cc) ((List.range n).map (up m i v)) ∧ ((∀ q, q < W.heap.size → q ≠ g → V1.heap[q]? = W.heap[q]?) ∧ Below B W V1) ∧ V1.heap[W.heap.size]? = some (.cells #[.int .i64 5, .int .i64 (c : Int), .int .i64 b, .int .i64 u] 31)) := by
      rw [hV1]
      refine ⟨HV.out.1.up i v, ⟨fun q h1 h2 => ?_, HV.out.2.1.2.setCell (by have h9 := (IS.lt HV.out.1 g rfl).1; exact h9) _⟩, ?_⟩
      · rw [heap_setCell_other _ _ _ _ (by exact h2)]; exact HV.out.2.1.1 q h1 h2
      · rw [heap_setCell_other _ _ _ _ (by show W.heap.size ≠ g; omega)]; exact HV.out.2.2
    by_cases e1 : x = v
    · have HN : Hid (wrM ⟨5, c, b, u⟩ m i v = up m i v) := by
        have h9 : up m i v = m := by rw [← e1, HX.out]; exact up_same m i
        unfold Hid; rw [h9, wr_same (by rw [← HX.out]; exact e1)]
      subst e1
      go_wp2
      go_returns
      rw [← hV1]
      exact ⟨rfl, by rw [HN.out]; exact HV1.out.1, HV1.out.2.1⟩

    have b1 : (x == v) = false := by simpa using e1
    have hxv : ¬ m i = v := by rw [← HX.out]; exact e1
    by_cases e2 : ¬ b = (i : Int)
    · have HN : Hid (wrM ⟨5, c, b, u⟩ m i v = up m i v) := by
        unfold Hid wrM
        rw [if_neg hxv, if_neg (by rw [HBR.out hxv]; decide), if_neg (fun h => e2 h.symm)]
      have b2 : (b == (i : Int)) = false := by simpa using e2
      go_wp2
      go_returns
      rw [← hV1]
      exact ⟨rfl, by rw [HN.out]; exact HV1.out.1, HV1.out.2.1⟩

    have HN0 : Hid (wrM ⟨5, c, b, u⟩ m i v = tuM ⟨5, c, b, u⟩ (up m i v) v) := by
      unfold Hid wrM
      rw [if_neg hxv, if_neg (by rw [HBR.out hxv]; decide), if_pos (Decidable.of_not_not e2).symm]
    have e2 := Decidable.of_not_not e2
    subst e2
    go_upto_region 8 with (fail)
    rw [← hV1]
    have q0 : V1.cell? ⟨W.heap.size, 0, none⟩ = some (.int .i64 5) := cellOfQ HV1.out.2.2 0 rfl
    have q1 : V1.cell? ⟨W.heap.size, 1, none⟩ = some (.int .i64 (c : Int)) := cellOfQ HV1.out.2.2 1 rfl
    have q2 : V1.cell? ⟨W.heap.size, 2, none⟩ = some (.int .i64 (i : Int)) := cellOfQ HV1.out.2.2 2 rfl
    have q3 : V1.cell? ⟨W.heap.size, 3, none⟩ = some (.int .i64 u) := cellOfQ HV1.out.2.2 3 rfl
    have ql := ltOfQ HV1.out.2.2
    clear HV hV1 n0 n1 gl p0 p1 p2 p3 pl
    by_cases e3 : ¬ v = u
    · have HN : Hid (wrM ⟨5, c, (i : Int), u⟩ m i v = up m i v) := by
        unfold Hid; rw [HN0.out]; unfold tuM; rw [if_neg (by show ¬ (5 : Int) = 4; decide), if_pos rfl, if_neg e3]
      have b3 : (v == u) = false := by simpa using e3
      go_wp2
      go_returns

      exact ⟨rfl, by rw [HN.out]; exact HV1.out.1, HV1.out.2.1⟩

    have e3 := Decidable.of_not_not e3
    subst e3
    obtain ⟨y, hy⟩ : ∃ y, y = up m i v c := ⟨_, rfl⟩
    have hy1 : y = 0 ∨ y = 1 := by rw [hy]; exact up_bit hbit hv c
    obtain ⟨V2, hV2⟩ : ∃ V2, V2 = V1.setCell ⟨g, c, none⟩ (.int .i64 (1 - y)) := ⟨_, rfl⟩
    have HV2 : Hid (IS V2 B (.slice (some ⟨g, 0, none⟩) n cc) ((List.range n).map (up (up m i v) c (1 - y))) ∧ ((∀ q, q < W.heap.size → q ≠ g → V2.heap[q]? = W.heap[q]?) ∧ Below B W V2)) := by
      rw [hV2]
      exact ⟨HV1.out.1.up c (1 - y), fun q h1 h2 => by rw [heap_setCell_other _ _ _ _ (by exact h2)]; exact HV1.out.2.1.1 q h1 h2, HV1.out.2.1.2.setCell (by have h9 := (IS.lt HV1.out.1 g rfl).1; exact h9) _⟩
    have HN : Hid (wrM ⟨5, c, (i : Int), v⟩ m i v = up (up m i v) c (1 - y)) := by
      unfold Hid; rw [HN0.out, hy]; unfold tuM; rw [if_neg (by show ¬ (5 : Int) = 4; decide), if_pos rfl, if_pos rfl]
    obtain ⟨n0, n1, gl⟩ := HV1.out.1.bit hc
    rw [← hy] at n0
    clear hy
    go_wp2
    go_region
    go_wp2
    go_returns
    rw [← hV2]
    have hd : Below B W V2.drew := ⟨HV2.out.2.2.os, HV2.out.2.2.tape, HV2.out.2.2.output, HV2.out.2.2.size, HV2.out.2.2.block⟩
    exact ⟨rfl, by rw [HN.out]; exact HV2.out.1, HV2.out.2.1, hd⟩
  have kb5 : (k == 5) = false := by simpa using h5
  have hk4 := h4
  have hk5 := h5
  have HBR : Hid (¬ m i = v → brM ⟨k, c, b, u⟩ i v = false) := by
    intro hxv
    unfold brM; by_cases e : i = c
    · rw [if_pos e, if_neg h1, if_neg h2, if_neg h3]
    · rw [if_neg e]

  obtain ⟨V1, hV1⟩ : ∃ V1, V1 = V.setCell ⟨g, i, none⟩ (.int .i64 v) := ⟨_, rfl⟩
  have HV1 : Hid (IS V1 B (.slice (some ⟨g, 0, none⟩) n cc) ((List.range n).map (up m i v)) ∧ ((∀ q, q < W.heap.size → q ≠ g → V1.heap[q]? = W.heap[q]?) ∧ Below B W V1) ∧ V1.heap[W.heap.size]? = some (.cells #[.int .i64 k, .int .i64 (c : Int), .int .i64 b, .int .i64 u] 31)) := by
    rw [hV1]
    refine ⟨HV.out.1.up i v, ⟨fun q h1 h2 => ?_, HV.out.2.1.2.setCell (by have h9 := (IS.lt HV.out.1 g rfl).1; exact h9) _⟩, ?_⟩
    · rw [heap_setCell_other _ _ _ _ (by exact h2)]; exact HV.out.2.1.1 q h1 h2
    · rw [heap_setCell_other _ _ _ _ (by show W.heap.size ≠ g; omega)]; exact HV.out.2.2
  by_cases e1 : x = v
  · have HN : Hid (wrM ⟨k, c, b, u⟩ m i v = up m i v) := by
      have h9 : up m i v = m := by rw [← e1, HX.out]; exact up_same m i
      unfold Hid; rw [h9, wr_same (by rw [← HX.out]; exact e1)]
    subst e1
    go_wp2
    go_returns
    rw [← hV1]
    exact ⟨rfl, by rw [HN.out]; exact HV1.out.1, HV1.out.2.1⟩

  have b1 : (x == v) = false := by simpa using e1
  have hxv : ¬ m i = v := by rw [← HX.out]; exact e1
  by_cases e2 : ¬ b = (i : Int)
  · have HN : Hid (wrM ⟨k, c, b, u⟩ m i v = up m i v) := by
      unfold Hid wrM
      rw [if_neg hxv, if_neg (by rw [HBR.out hxv]; decide), if_neg (fun h => e2 h.symm)]
    have b2 : (b == (i : Int)) = false := by simpa using e2
    go_wp2
    go_returns
    rw [← hV1]
    exact ⟨rfl, by rw [HN.out]; exact HV1.out.1, HV1.out.2.1⟩

  have HN0 : Hid (wrM ⟨k, c, b, u⟩ m i v = tuM ⟨k, c, b, u⟩ (up m i v) v) := by
    unfold Hid wrM
    rw [if_neg hxv, if_neg (by rw [HBR.out hxv]; decide), if_pos (Decidable.of_not_not e2).symm]
  have e2 := Decidable.of_not_not e2
  subst e2
  go_upto_region 8 with (fail)
  rw [← hV1]
  have q0 : V1.cell? ⟨W.heap.size, 0, none⟩ = some (.int .i64 k) := cellOfQ HV1.out.2.2 0 rfl
  have q1 : V1.cell? ⟨W.heap.size, 1, none⟩ = some (.int .i64 (c : Int)) := cellOfQ HV1.out.2.2 1 rfl
  have q2 : V1.cell? ⟨W.heap.size, 2, none⟩ = some (.int .i64 (i : Int)) := cellOfQ HV1.out.2.2 2 rfl
  have q3 : V1.cell? ⟨W.heap.size, 3, none⟩ = some (.int .i64 u) := cellOfQ HV1.out.2.2 3 rfl
  have ql := ltOfQ HV1.out.2.2
  clear HV hV1 n0 n1 gl p0 p1 p2 p3 pl
  have HN : Hid (wrM ⟨k, c, (i : Int), u⟩ m i v = up m i v) := by
    unfold Hid; rw [HN0.out]; unfold tuM; rw [if_neg hk4, if_neg hk5]
  go_wp2
  go_returns

  exact ⟨rfl, by rw [HN.out]; exact HV1.out.1, HV1.out.2.1⟩

end Go.Proofs.Ytbjdalcbdbphkaa
