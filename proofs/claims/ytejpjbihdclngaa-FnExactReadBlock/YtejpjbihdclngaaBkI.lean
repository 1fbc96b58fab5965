/- Proved here: ReadBlock of the program: rbC, rbX, rbL, rbD. -/
import Derived.Test.YtejpjbihdclngaaBkU
import Derived.Test.YtejpjbihdclngaaBkE
import Derived.Test.YtejpjbihdclngaaInsC
import Derived.Test.YtejpjbihdclngaaOpN
import Derived.Test.YtejpjbihdclngaaFloat
import Derived.Deep.Cut
import Derived.Deep.DeepCutAuto
import Derived.StillTail
namespace Go.Proofs.Ytejpjbihdclngaa
open Go.RowKit
set_option linter.unusedVariables false
set_option linter.unusedSimpArgs false

theorem seven_B {w : World} {k : Nat} {a b c d e f g : Value} {T : TypeId} (h : w.heap[k]? = some (.cells #[a, b, c, d, e, f, g] T)) :
    w.cell? ⟨k, 0, none⟩ = some a ∧ w.cell? ⟨k, 1, none⟩ = some b ∧ w.cell? ⟨k, 2, none⟩ = some c ∧ w.cell? ⟨k, 3, none⟩ = some d ∧ w.cell? ⟨k, 4, none⟩ = some e ∧ w.cell? ⟨k, 5, none⟩ = some f ∧ w.cell? ⟨k, 6, none⟩ = some g ∧ w.frozen? ⟨k, 0, none⟩ = false ∧ w.frozen? ⟨k, 1, none⟩ = false ∧ w.frozen? ⟨k, 2, none⟩ = false ∧ w.frozen? ⟨k, 3, none⟩ = false ∧ w.frozen? ⟨k, 4, none⟩ = false ∧ w.frozen? ⟨k, 5, none⟩ = false ∧ w.frozen? ⟨k, 6, none⟩ = false ∧ k < w.heap.size := ⟨cellOf h 0 rfl, cellOf h 1 rfl, cellOf h 2 rfl, cellOf h 3 rfl, cellOf h 4 rfl, cellOf h 5 rfl, cellOf h 6 rfl, frozOf h 0, frozOf h 1, frozOf h 2, frozOf h 3, frozOf h 4, frozOf h 5, frozOf h 6, ltOf h⟩
theorem drew_heapB (W : World) (q : Nat) : W.drew.heap[q]? = W.heap[q]? := rfl
theorem own_formB {w : World} {B T k n : Nat} {v : Value} {xs : List Value} (h : w.ownsRow B T k v n xs) : ∃ a c, v = .slice a n c := by
  rcases h.2 with ⟨rfl, h0⟩ | ⟨g, cap, cur, rfl, _⟩
  · exact ⟨none, 0, by rw [h0]⟩
  · exact ⟨_, _, rfl⟩
set_option maxRecDepth 10000 in
set_option maxHeartbeats 3200000 in
theorem impl_rb {w : World} {v : Value} {s : List UInt8} (hn : s.length ≤ 1048576) (h : RBc w v s) :
    Calls Try.prog 27 #[v] w fun e w' => ∃ (v : Value) (_ : Unit), e = .returned (.agg #[.int .i64 (rbC s), .int .i64 (rbX s 1), .int .i64 (rbX s 2), .int .i64 (rbX s 3), .bool (rbL s), .int .i64 (rbX s 4), v]) ∧ OBy w' w.heap.size v (rbD s) ∧ Below w.heap.size w w' := by
  obtain ⟨i0, hi, hz0, hz1, hz2⟩ := info_parts info_by
  obtain ⟨a, c, rfl, hc⟩ := h.form
  obtain ⟨n, hnn⟩ : ∃ n, n = s.length := ⟨_, rfl⟩
  rw [← hnn] at h hn hc ⊢
  obtain ⟨C, hC⟩ : ∃ X, X = rbC s := ⟨_, rfl⟩
  obtain ⟨X1, hX1⟩ : ∃ X, X = rbX s 1 := ⟨_, rfl⟩
  obtain ⟨X2, hX2⟩ : ∃ X, X = rbX s 2 := ⟨_, rfl⟩
  obtain ⟨X3, hX3⟩ : ∃ X, X = rbX s 3 := ⟨_, rfl⟩
  obtain ⟨BL, hBL⟩ : ∃ X, X = rbL s := ⟨_, rfl⟩
  obtain ⟨X4, hX4⟩ : ∃ X, X = rbX s 4 := ⟨_, rfl⟩
  obtain ⟨D, hD⟩ : ∃ X, X = rbD s := ⟨_, rfl⟩
  rw [← hC, ← hX1, ← hX2, ← hX3, ← hBL, ← hX4, ← hD]
  have HF : Hid (C = rbC s ∧ X1 = rbX s 1 ∧ X2 = rbX s 2 ∧ X3 = rbX s 3 ∧ BL = rbL s ∧ X4 = rbX s 4 ∧ D = rbD s) := ⟨hC, hX1, hX2, hX3, hBL, hX4, hD⟩
  have H : Hid (RBy w (.slice a n c) s ∧ n = s.length) := ⟨h.by, hnn⟩
  clear h hnn hC hX1 hX2 hX3 hBL hX4 hD
  obtain ⟨W0, hW0⟩ : ∃ W, W = w.alloc (.cells #[.int .i64 0, .int .i64 0, .int .i64 0, .int .i64 0, .bool false, .int .i64 0, .slice none 0 0] 50) := ⟨_, rfl⟩
  have HW0 : Hid (Below w.heap.size w W0 ∧ W0.heap[w.heap.size]? = some (.cells #[.int .i64 0, .int .i64 0, .int .i64 0, .int .i64 0, .bool false, .int .i64 0, .slice none 0 0] 50) ∧ W0.heap.size = w.heap.size + 1) := by
    rw [hW0]; exact ⟨by (repeat' (first | (with_reducible exact Below.refl _ _) | (with_reducible assumption) | (with_reducible refine Below.setCell ?_ ?_ _) | (with_reducible refine Below.alloc ?_ ?_ _) | (with_reducible refine below_drewN ?_ _) | (with_reducible refine Below.drew ?_) | (with_reducible exact Nat.le_refl _) | omega | (simp; done) | (simp; omega))), heap_alloc_new _ _, by simp⟩
  have HFF : Hid (rbF s = (decide (8 ≤ n) && (decide (5 ≤ byN s 0 ∧ byN s 0 ≤ 37) && decide ((n : Int) = byN s 0 + 3)))) := by unfold Hid; rw [H.out.2]; rfl
  by_cases h8 : (n : Int) < 8
  · have HB0 : Hid (rbF s = false) := by unfold Hid; rw [HFF.out, decide_eq_false (show ¬ 8 ≤ n by omega)]; rfl
    go_enter Try.func27, Try.ntmps27
    go_upto_region 1 with fail
    rw [← hW0]
    clear hW0
    have HZ : Hid (C = 5 ∧ X1 = 0 ∧ X2 = 0 ∧ X3 = 0 ∧ BL = false ∧ X4 = 0 ∧ D = []) := by
      obtain ⟨e0, e1, e2, e3⟩ := rb_five HB0.out
      obtain ⟨f0, f1, f2, f3, f4, f5, f6⟩ := HF.out
      exact ⟨f0.trans e0, f1.trans (e1 1), f2.trans (e1 2), f3.trans (e1 3), f4.trans e2, f5.trans (e1 4), f6.trans e3⟩
    obtain ⟨p0, p1, p2, p3, p4, p5, p6, pf0, pf1, pf2, pf3, pf4, pf5, pf6, pl⟩ := seven_B (HW0.out.2.1)
    clear H
    go_wp2
    try simp only [Exit.inBlock, Exit.then]
    refine bodyPost_ret (by simp [results, Try.results27, go_sem, p0, p1, p2, p3, p4, p5, p6, pl]; try rfl) rfl ?_
    first | refine ⟨.slice none 0 0, (), ?_, ?_, ?_⟩ | refine ⟨.slice none 0 0, ?_, ?_, ?_⟩
    · rw [HZ.out.1, HZ.out.2.1, HZ.out.2.2.1, HZ.out.2.2.2.1, HZ.out.2.2.2.2.1, HZ.out.2.2.2.2.2.1]
    · rw [HZ.out.2.2.2.2.2.2]; exact OBy.nil _ _
    have hb := HW0.out.1
    (repeat' (first | (with_reducible exact Below.refl _ _) | (with_reducible assumption) | (with_reducible refine Below.setCell ?_ ?_ _) | (with_reducible refine Below.alloc ?_ ?_ _) | (with_reducible refine below_drewN ?_ _) | (with_reducible refine Below.drew ?_) | (with_reducible exact Nat.le_refl _) | omega | (simp; done) | (simp; omega)))
  obtain ⟨g, o, c2, he, hg, _⟩ := H.out.1.pos (by rw [← H.out.2]; omega)
  simp only [Value.slice.injEq] at he
  obtain ⟨rfl, hx1, hx2⟩ := he
  clear hx1 hx2 c2
  have HCL : Hid (∀ (W : World) k, Below w.heap.size w W → k < n → W.cell? ⟨g, o + k, none⟩ = some (.int .u8 (byN s k)) ∧ g < W.heap.size) := fun W k hW hk => by_cellN (H.out.1.below hW) hk
  obtain ⟨Y0, hY0⟩ : ∃ Y, Y = byN s 0 := ⟨_, rfl⟩
  have hY0b : 0 ≤ Y0 ∧ Y0 ≤ 255 := by rw [hY0]; exact byN_bd s 0
  have c0 : W0.cell? ⟨g, o, none⟩ = some (.int .u8 Y0) := by rw [hY0]; exact (HCL.out W0 0 HW0.out.1 (by omega)).1
  have gl0 : g < W0.heap.size := (HCL.out W0 0 HW0.out.1 (by omega)).2
  have HY0 : Hid (Y0 = byN s 0) := hY0
  have hwy : IntKind.i64.wrap Y0 = Y0 := by rw [IntKind.wrap_i64]; omega
  clear hg hY0
  obtain ⟨q1, hq1⟩ : ∃ b, b = decide (5 ≤ Y0 ∧ Y0 ≤ 37) := ⟨_, rfl⟩
  have H1 : Hid (∀ W, Calls Try.prog 49 #[.int .i64 Y0, .int .i64 5, .int .i64 37] W fun e w' => e = .returned (.bool q1) ∧ w' = W) := impl_insC Y0 5 37 q1 hq1
  have HQ1 : Hid (q1 = decide (5 ≤ Y0 ∧ Y0 ≤ 37)) := hq1
  clear hq1
  go_enter Try.func27, Try.ntmps27
  go_upto_region 1 with fail
  rw [← hW0]
  clear hW0
  go_wp2_with (fail)
  refine (H1.out _).mono ?_
  rintro e w1 ⟨rfl, hw⟩
  subst w1
  cases q1
  · have HB0 : Hid (rbF s = false) := by unfold Hid; rw [HFF.out, ← HY0.out, ← HQ1.out]; simp
    have HZ : Hid (C = 5 ∧ X1 = 0 ∧ X2 = 0 ∧ X3 = 0 ∧ BL = false ∧ X4 = 0 ∧ D = []) := by
      obtain ⟨e0, e1, e2, e3⟩ := rb_five HB0.out
      obtain ⟨f0, f1, f2, f3, f4, f5, f6⟩ := HF.out
      exact ⟨f0.trans e0, f1.trans (e1 1), f2.trans (e1 2), f3.trans (e1 3), f4.trans e2, f5.trans (e1 4), f6.trans e3⟩
    obtain ⟨p0, p1, p2, p3, p4, p5, p6, pf0, pf1, pf2, pf3, pf4, pf5, pf6, pl⟩ := seven_B (HW0.out.2.1)
    clear H
    go_wp2
    try simp only [Exit.inBlock, Exit.then]
    refine bodyPost_ret (by simp [results, Try.results27, go_sem, p0, p1, p2, p3, p4, p5, p6, pl]; try rfl) rfl ?_
    first | refine ⟨.slice none 0 0, (), ?_, ?_, ?_⟩ | refine ⟨.slice none 0 0, ?_, ?_, ?_⟩
    · rw [HZ.out.1, HZ.out.2.1, HZ.out.2.2.1, HZ.out.2.2.2.1, HZ.out.2.2.2.2.1, HZ.out.2.2.2.2.2.1]
    · rw [HZ.out.2.2.2.2.2.2]; exact OBy.nil _ _
    have hb := HW0.out.1
    (repeat' (first | (with_reducible exact Below.refl _ _) | (with_reducible assumption) | (with_reducible refine Below.setCell ?_ ?_ _) | (with_reducible refine Below.alloc ?_ ?_ _) | (with_reducible refine below_drewN ?_ _) | (with_reducible refine Below.drew ?_) | (with_reducible exact Nat.le_refl _) | omega | (simp; done) | (simp; omega)))
  have h37 : 5 ≤ Y0 ∧ Y0 ≤ 37 := by simpa using HQ1.out.symm
  by_cases h3 : (n : Int) = 1 + Y0 + 2
  case neg =>
    have HB0 : Hid (rbF s = false) := by unfold Hid; rw [HFF.out, ← HY0.out, decide_eq_false (show ¬ (n : Int) = Y0 + 3 by omega)]; simp
    have hne : ((n : Int) == 1 + Y0 + 2) = false := by simpa using h3
    have HZ : Hid (C = 5 ∧ X1 = 0 ∧ X2 = 0 ∧ X3 = 0 ∧ BL = false ∧ X4 = 0 ∧ D = []) := by
      obtain ⟨e0, e1, e2, e3⟩ := rb_five HB0.out
      obtain ⟨f0, f1, f2, f3, f4, f5, f6⟩ := HF.out
      exact ⟨f0.trans e0, f1.trans (e1 1), f2.trans (e1 2), f3.trans (e1 3), f4.trans e2, f5.trans (e1 4), f6.trans e3⟩
    obtain ⟨p0, p1, p2, p3, p4, p5, p6, pf0, pf1, pf2, pf3, pf4, pf5, pf6, pl⟩ := seven_B (HW0.out.2.1)
    clear H
    go_wp2
    try simp only [Exit.inBlock, Exit.then]
    refine bodyPost_ret (by simp [results, Try.results27, go_sem, p0, p1, p2, p3, p4, p5, p6, pl]; try rfl) rfl ?_
    first | refine ⟨.slice none 0 0, (), ?_, ?_, ?_⟩ | refine ⟨.slice none 0 0, ?_, ?_, ?_⟩
    · rw [HZ.out.1, HZ.out.2.1, HZ.out.2.2.1, HZ.out.2.2.2.1, HZ.out.2.2.2.2.1, HZ.out.2.2.2.2.2.1]
    · rw [HZ.out.2.2.2.2.2.2]; exact OBy.nil _ _
    have hb := HW0.out.1
    (repeat' (first | (with_reducible exact Below.refl _ _) | (with_reducible assumption) | (with_reducible refine Below.setCell ?_ ?_ _) | (with_reducible refine Below.alloc ?_ ?_ _) | (with_reducible refine below_drewN ?_ _) | (with_reducible refine Below.drew ?_) | (with_reducible exact Nat.le_refl _) | omega | (simp; done) | (simp; omega)))
  have HB0 : Hid (rbF s = true) := by unfold Hid; rw [HFF.out, ← HY0.out, decide_eq_true (show (n : Int) = Y0 + 3 by omega), decide_eq_true h37, decide_eq_true (show 8 ≤ n by omega)]; rfl
  have hne : ((n : Int) == 1 + Y0 + 2) = true := by simpa using h3
  obtain ⟨e, he⟩ : ∃ e, e = n - 2 := ⟨_, rfl⟩
  have hen : (n : Int) - 2 = (e : Int) := by omega
  have heb : 6 ≤ e ∧ e ≤ 38 := by omega
  have HEN : Hid (e = n - 2) := he
  have hn40 : n ≤ 40 := by omega
  clear he h3 HQ1 H1 HFF
  go_wp2_with (fail)
  clear c0
  have hce : ¬ c - e = 0 := by omega
  have hce2 : ¬ c = e := by omega
  have hne2 : n - e = 2 := by have := HEN.out; omega
  have hen2 : e ≤ n := by omega
  have hec : e ≤ c := by omega
  obtain ⟨q2, hq2⟩ : ∃ b, b = rbS s := ⟨_, rfl⟩
  have HQ2 : Hid (q2 = rbS s) := hq2
  clear hq2
  have HBS : Hid (∀ W, Below w.heap.size w W → Calls Try.prog 56 #[.slice (some ⟨g, o, none⟩) e c] W fun r w' => ∃ k, r = .returned (.slice (some ⟨k, 0, none⟩) 2 2) ∧ OBy w' W.heap.size (.slice (some ⟨k, 0, none⟩) 2 2) [hiB (suV ((s.take e).drop 1)), loB (suV ((s.take e).drop 1))] ∧ Below W.heap.size W w') := fun W hW => by
    have h1 := RBy.cut (H.out.1.below hW) 0 e c (by omega) (by omega)
    have hl : (s.take e).length = e := by rw [List.length_take, ← H.out.2]; omega
    have h2 := impl_bsum (s := s.take e) (by omega) (by omega) ⟨h1, some ⟨g, o, none⟩, c, by rw [hl]; rfl, by omega⟩
    exact h2
  have HBE : Hid (∀ (W : World) k, Below w.heap.size w W → RBy W (.slice (some ⟨k, 0, none⟩) 2 2) [hiB (suV ((s.take e).drop 1)), loB (suV ((s.take e).drop 1))] → Calls Try.prog 55 #[.slice (some ⟨g, o + e, none⟩) 2 (c - e), .slice (some ⟨k, 0, none⟩) 2 2] W fun r w' => r = .returned (.bool q2) ∧ w' = W) := fun W k hW hk => by
    have h1 := RBy.cut (H.out.1.below hW) e n (c - e) (by omega) (Nat.le_refl _)
    rw [hne2] at h1
    have h2 := beq_any h1 hk
    have e9 : (s.take n).drop e = [s.getD e 0, s.getD (e + 1) 0] := by
      rw [H.out.2, List.take_length, List.drop_eq_getElem_cons (by rw [← H.out.2]; omega), List.drop_eq_getElem_cons (by rw [← H.out.2]; omega), List.drop_eq_nil_of_le (by rw [← H.out.2]; omega)]
      rw [List.getD_eq_getElem?_getD, List.getD_eq_getElem?_getD, List.getElem?_eq_getElem (by rw [← H.out.2]; omega), List.getElem?_eq_getElem (by rw [← H.out.2]; omega)]
      rfl
    rw [e9] at h2
    have e8 : decide ([s.getD e 0, s.getD (e + 1) 0] = [hiB (suV ((s.take e).drop 1)), loB (suV ((s.take e).drop 1))]) = q2 := by
      rw [HQ2.out, rbS, ← H.out.2, ← HEN.out, show n - 1 = e + 1 by omega]
      unfold byN
      rw [decide_eq_decide]
      exact two_sum (suK_lt _ _)
    rw [e8] at h2
    exact h2
  refine wp_region_float (by kernel_rfl) (fun hS => ?_)
  refine fl_take (i := 0) (d := 34) (v := .slice (some ⟨g, o, none⟩) n c) rfl rfl rfl (by kernel_rfl) (by kernel_rfl) (by kernel_rfl) hS ?_ ?_
  · intro w' hk; go_simp
  simp only [Act.put, List.setIfInBounds_toArray, List.set_cons_zero, List.set_cons_succ]
  refine fl_take (i := 1) (d := 35) (v := .int .i64 e) rfl rfl rfl (by kernel_rfl) (by kernel_rfl) (by kernel_rfl) hS ?_ ?_
  · intro w' hk; go_simp
  simp only [Act.put, List.setIfInBounds_toArray, List.set_cons_zero, List.set_cons_succ]
  refine fl_take (i := 2) (d := 36) (v := .slice (some ⟨g, o + e, none⟩) 2 (c - e)) rfl rfl rfl (by kernel_rfl) (by kernel_rfl) (by kernel_rfl) hS ?_ ?_
  · intro w' hk; go_simp
  simp only [Act.put, List.setIfInBounds_toArray, List.set_cons_zero, List.set_cons_succ]
  refine fl_take (i := 3) (d := 37) (v := .slice (some ⟨g, o, none⟩) n c) rfl rfl rfl (by kernel_rfl) (by kernel_rfl) (by kernel_rfl) hS ?_ ?_
  · intro w' hk; go_simp
  simp only [Act.put, List.setIfInBounds_toArray, List.set_cons_zero, List.set_cons_succ]
  refine fl_take (i := 4) (d := 38) (v := .int .i64 e) rfl rfl rfl (by kernel_rfl) (by kernel_rfl) (by kernel_rfl) hS ?_ ?_
  · intro w' hk; go_simp
  simp only [Act.put, List.setIfInBounds_toArray, List.set_cons_zero, List.set_cons_succ]
  refine fl_take (i := 5) (d := 39) (v := .slice (some ⟨g, o, none⟩) e c) rfl rfl rfl (by kernel_rfl) (by kernel_rfl) (by kernel_rfl) hS ?_ ?_
  · intro w' hk; go_simp
  simp only [Act.put, List.setIfInBounds_toArray, List.set_cons_zero, List.set_cons_succ]
  refine wpAnyH_all (rs := [6]) (by kernel_rfl) (by simp) ?_
  intro i hi9
  obtain rfl : i = 6 := by simpa using hi9
  refine op_call (d := 40) rfl rfl rfl (by go_simp) ((HBS.out _ (HW0.out.1.trans (hS.2.mono HW0.out.1.size))).mono ?_)
  rintro r y0 ⟨k, rfl, hk0, hb0⟩
  have hK0 : KS W0 y0 := hS.call hb0
  refine ⟨_, rfl, hK0, ?_⟩
  simp only [Act.put, List.setIfInBounds_toArray, List.set_cons_zero, List.set_cons_succ]
  refine wpAnyH_all (rs := [7]) (by kernel_rfl) (by simp) ?_
  intro i hi9
  obtain rfl : i = 7 := by simpa using hi9
  refine op_call (d := 41) rfl rfl rfl (by go_simp) ((HBE.out _ k (HW0.out.1.trans (hK0.2.mono HW0.out.1.size)) hk0.rg).mono ?_)
  rintro r y1 ⟨rfl, hy1⟩
  subst y1
  refine ⟨_, rfl, hK0, ?_⟩
  simp only [Act.put, List.setIfInBounds_toArray, List.set_cons_zero, List.set_cons_succ]
  refine wpAnyH_all (rs := [8]) (by kernel_rfl) (by simp) ?_
  intro i hi9
  obtain rfl : i = 8 := by simpa using hi9
  refine op_val (d := 42) (v := .bool (!q2)) (w' := y0) rfl rfl rfl (by go_simp; try rfl) ?_
  simp only [Act.put, List.setIfInBounds_toArray, List.set_cons_zero, List.set_cons_succ]
  refine ⟨hK0, wpAnyH_done (by kernel_rfl) (NoPanic.normal ?_) _⟩
  have HW1 : Hid (Below w.heap.size w y0 ∧ y0.heap[w.heap.size]? = some (.cells #[.int .i64 0, .int .i64 0, .int .i64 0, .int .i64 0, .bool false, .int .i64 0, .slice none 0 0] 50) ∧ w.heap.size + 1 ≤ y0.heap.size) :=
    ⟨HW0.out.1.trans (hK0.2.mono HW0.out.1.size), (hK0.2.block _ (ltOf HW0.out.2.1)).trans HW0.out.2.1, by have := hK0.2.size; have := HW0.out.2.2; omega⟩
  clear hS hK0 hk0 hb0 HBS HBE HW0 gl0
  cases q2
  · have HB1 : Hid (rbS s = false) := HQ2.out.symm
    have HZ : Hid (C = 6 ∧ X1 = 0 ∧ X2 = 0 ∧ X3 = 0 ∧ BL = false ∧ X4 = 0 ∧ D = []) := by
      obtain ⟨e0, e1, e2, e3⟩ := rb_six HB0.out HB1.out
      obtain ⟨f0, f1, f2, f3, f4, f5, f6⟩ := HF.out
      exact ⟨f0.trans e0, f1.trans (e1 1), f2.trans (e1 2), f3.trans (e1 3), f4.trans e2, f5.trans (e1 4), f6.trans e3⟩
    obtain ⟨p0, p1, p2, p3, p4, p5, p6, pf0, pf1, pf2, pf3, pf4, pf5, pf6, pl⟩ := seven_B (HW1.out.2.1)
    clear H
    go_wp2
    try simp only [Exit.inBlock, Exit.then]
    refine bodyPost_ret (by simp [results, Try.results27, go_sem, p0, p1, p2, p3, p4, p5, p6, pl]; try rfl) rfl ?_
    first | refine ⟨.slice none 0 0, (), ?_, ?_, ?_⟩ | refine ⟨.slice none 0 0, ?_, ?_, ?_⟩
    · rw [HZ.out.1, HZ.out.2.1, HZ.out.2.2.1, HZ.out.2.2.2.1, HZ.out.2.2.2.2.1, HZ.out.2.2.2.2.2.1]
    · rw [HZ.out.2.2.2.2.2.2]; exact OBy.nil _ _
    have hb := HW1.out.1
    (repeat' (first | (with_reducible exact Below.refl _ _) | (with_reducible assumption) | (with_reducible refine Below.setCell ?_ ?_ _) | (with_reducible refine Below.alloc ?_ ?_ _) | (with_reducible refine below_drewN ?_ _) | (with_reducible refine Below.drew ?_) | (with_reducible exact Nat.le_refl _) | omega | (simp; done) | (simp; omega)))
  have HB1 : Hid (rbS s = true) := HQ2.out.symm
  obtain ⟨Y1, hY1⟩ : ∃ Y, Y = byN s 1 := ⟨_, rfl⟩
  have hb1 : 0 ≤ Y1 ∧ Y1 ≤ 255 := by rw [hY1]; exact byN_bd s 1
  have HY1 : Hid (Y1 = byN s 1) := hY1
  have hwy1 : IntKind.i64.wrap Y1 = Y1 := by rw [IntKind.wrap_i64]; omega
  clear hY1
  obtain ⟨Y2, hY2⟩ : ∃ Y, Y = byN s 2 := ⟨_, rfl⟩
  have hb2 : 0 ≤ Y2 ∧ Y2 ≤ 255 := by rw [hY2]; exact byN_bd s 2
  have HY2 : Hid (Y2 = byN s 2) := hY2
  have hwy2 : IntKind.i64.wrap Y2 = Y2 := by rw [IntKind.wrap_i64]; omega
  clear hY2
  obtain ⟨Y3, hY3⟩ : ∃ Y, Y = byN s 3 := ⟨_, rfl⟩
  have hb3 : 0 ≤ Y3 ∧ Y3 ≤ 255 := by rw [hY3]; exact byN_bd s 3
  have HY3 : Hid (Y3 = byN s 3) := hY3
  have hwy3 : IntKind.i64.wrap Y3 = Y3 := by rw [IntKind.wrap_i64]; omega
  clear hY3
  obtain ⟨Y4, hY4⟩ : ∃ Y, Y = byN s 4 := ⟨_, rfl⟩
  have hb4 : 0 ≤ Y4 ∧ Y4 ≤ 255 := by rw [hY4]; exact byN_bd s 4
  have HY4 : Hid (Y4 = byN s 4) := hY4
  have hwy4 : IntKind.i64.wrap Y4 = Y4 := by rw [IntKind.wrap_i64]; omega
  clear hY4
  obtain ⟨Y5, hY5⟩ : ∃ Y, Y = byN s 5 := ⟨_, rfl⟩
  have hb5 : 0 ≤ Y5 ∧ Y5 ≤ 255 := by rw [hY5]; exact byN_bd s 5
  have HY5 : Hid (Y5 = byN s 5) := hY5
  have hwy5 : IntKind.i64.wrap Y5 = Y5 := by rw [IntKind.wrap_i64]; omega
  clear hY5
  have c1 : y0.cell? ⟨g, o + 1, none⟩ = some (.int .u8 Y1) := by rw [HY1.out]; exact (HCL.out y0 1 HW1.out.1 (by omega)).1
  have c3 : y0.cell? ⟨g, o + 3, none⟩ = some (.int .u8 Y3) := by rw [HY3.out]; exact (HCL.out y0 3 HW1.out.1 (by omega)).1
  have c5 : y0.cell? ⟨g, o + 5, none⟩ = some (.int .u8 Y5) := by rw [HY5.out]; exact (HCL.out y0 5 HW1.out.1 (by omega)).1
  have gl0 : g < y0.heap.size := (HCL.out y0 1 HW1.out.1 (by omega)).2
  go_wp2
  go_quiet (fail)
  obtain ⟨y2, hy2⟩ : ∃ W, W = y0.drewN nq := ⟨_, rfl⟩
  have HW2 : Hid (Below w.heap.size w y2 ∧ y2.heap[w.heap.size]? = some (.cells #[.int .i64 0, .int .i64 0, .int .i64 0, .int .i64 0, .bool false, .int .i64 0, .slice none 0 0] 50) ∧ w.heap.size + 1 ≤ y2.heap.size) := by
    rw [hy2]; exact ⟨below_drewN HW1.out.1 _, HW1.out.2.1, HW1.out.2.2⟩
  rw [← hy2]
  clear hy2 HW1 c1 c3 c5 gl0
  obtain ⟨q3, hq3⟩ : ∃ b, b = decide (1 ≤ Y1 ∧ Y1 ≤ 127) := ⟨_, rfl⟩
  have H3 : Hid (∀ W, Calls Try.prog 49 #[.int .i64 Y1, .int .i64 1, .int .i64 127] W fun e w' => e = .returned (.bool q3) ∧ w' = W) := impl_insC Y1 1 127 q3 hq3
  have HRR : Hid (rbR s = (q3 && (!(Y3 == 0) && !(decide (1 < Y5))))) := by unfold Hid; rw [hq3, HY1.out, HY3.out, HY5.out]; rfl
  clear hq3
  go_wp2_with (fail)
  refine (H3.out _).mono ?_
  rintro r w1 ⟨rfl, hw⟩
  subst w1
  cases q3
  · have HB2 : Hid (rbR s = false) := by unfold Hid; rw [HRR.out]; rfl
    have HZ : Hid (C = 3 ∧ X1 = 0 ∧ X2 = 0 ∧ X3 = 0 ∧ BL = false ∧ X4 = 0 ∧ D = []) := by
      obtain ⟨e0, e1, e2, e3⟩ := rb_three HB0.out HB1.out HB2.out
      obtain ⟨f0, f1, f2, f3, f4, f5, f6⟩ := HF.out
      exact ⟨f0.trans e0, f1.trans (e1 1), f2.trans (e1 2), f3.trans (e1 3), f4.trans e2, f5.trans (e1 4), f6.trans e3⟩
    obtain ⟨p0, p1, p2, p3, p4, p5, p6, pf0, pf1, pf2, pf3, pf4, pf5, pf6, pl⟩ := seven_B (HW2.out.2.1)
    clear H
    go_wp2
    try simp only [Exit.inBlock, Exit.then]
    refine bodyPost_ret (by simp [results, Try.results27, go_sem, p0, p1, p2, p3, p4, p5, p6, pl]; try rfl) rfl ?_
    first | refine ⟨.slice none 0 0, (), ?_, ?_, ?_⟩ | refine ⟨.slice none 0 0, ?_, ?_, ?_⟩
    · rw [HZ.out.1, HZ.out.2.1, HZ.out.2.2.1, HZ.out.2.2.2.1, HZ.out.2.2.2.2.1, HZ.out.2.2.2.2.2.1]
    · rw [HZ.out.2.2.2.2.2.2]; exact OBy.nil _ _
    have hb := HW2.out.1
    (repeat' (first | (with_reducible exact Below.refl _ _) | (with_reducible assumption) | (with_reducible refine Below.setCell ?_ ?_ _) | (with_reducible refine Below.alloc ?_ ?_ _) | (with_reducible refine below_drewN ?_ _) | (with_reducible refine Below.drew ?_) | (with_reducible exact Nat.le_refl _) | omega | (simp; done) | (simp; omega)))
  by_cases h30 : Y3 = 0
  · have h30b : (Y3 == 0) = true := by simpa using h30
    have HB2 : Hid (rbR s = false) := by unfold Hid; rw [HRR.out, h30b]; rfl
    have HZ : Hid (C = 3 ∧ X1 = 0 ∧ X2 = 0 ∧ X3 = 0 ∧ BL = false ∧ X4 = 0 ∧ D = []) := by
      obtain ⟨e0, e1, e2, e3⟩ := rb_three HB0.out HB1.out HB2.out
      obtain ⟨f0, f1, f2, f3, f4, f5, f6⟩ := HF.out
      exact ⟨f0.trans e0, f1.trans (e1 1), f2.trans (e1 2), f3.trans (e1 3), f4.trans e2, f5.trans (e1 4), f6.trans e3⟩
    obtain ⟨p0, p1, p2, p3, p4, p5, p6, pf0, pf1, pf2, pf3, pf4, pf5, pf6, pl⟩ := seven_B (HW2.out.2.1)
    clear H
    go_wp2
    try simp only [Exit.inBlock, Exit.then]
    refine bodyPost_ret (by simp [results, Try.results27, go_sem, p0, p1, p2, p3, p4, p5, p6, pl]; try rfl) rfl ?_
    first | refine ⟨.slice none 0 0, (), ?_, ?_, ?_⟩ | refine ⟨.slice none 0 0, ?_, ?_, ?_⟩
    · rw [HZ.out.1, HZ.out.2.1, HZ.out.2.2.1, HZ.out.2.2.2.1, HZ.out.2.2.2.2.1, HZ.out.2.2.2.2.2.1]
    · rw [HZ.out.2.2.2.2.2.2]; exact OBy.nil _ _
    have hb := HW2.out.1
    (repeat' (first | (with_reducible exact Below.refl _ _) | (with_reducible assumption) | (with_reducible refine Below.setCell ?_ ?_ _) | (with_reducible refine Below.alloc ?_ ?_ _) | (with_reducible refine below_drewN ?_ _) | (with_reducible refine Below.drew ?_) | (with_reducible exact Nat.le_refl _) | omega | (simp; done) | (simp; omega)))
  have h30b : (Y3 == 0) = false := by simpa using h30
  by_cases h51 : 1 < Y5
  · have h51b : decide (1 < Y5) = true := decide_eq_true h51
    have HB2 : Hid (rbR s = false) := by unfold Hid; rw [HRR.out, h51b]; simp
    have HZ : Hid (C = 3 ∧ X1 = 0 ∧ X2 = 0 ∧ X3 = 0 ∧ BL = false ∧ X4 = 0 ∧ D = []) := by
      obtain ⟨e0, e1, e2, e3⟩ := rb_three HB0.out HB1.out HB2.out
      obtain ⟨f0, f1, f2, f3, f4, f5, f6⟩ := HF.out
      exact ⟨f0.trans e0, f1.trans (e1 1), f2.trans (e1 2), f3.trans (e1 3), f4.trans e2, f5.trans (e1 4), f6.trans e3⟩
    obtain ⟨p0, p1, p2, p3, p4, p5, p6, pf0, pf1, pf2, pf3, pf4, pf5, pf6, pl⟩ := seven_B (HW2.out.2.1)
    clear H
    go_wp2
    try simp only [Exit.inBlock, Exit.then]
    refine bodyPost_ret (by simp [results, Try.results27, go_sem, p0, p1, p2, p3, p4, p5, p6, pl]; try rfl) rfl ?_
    first | refine ⟨.slice none 0 0, (), ?_, ?_, ?_⟩ | refine ⟨.slice none 0 0, ?_, ?_, ?_⟩
    · rw [HZ.out.1, HZ.out.2.1, HZ.out.2.2.1, HZ.out.2.2.2.1, HZ.out.2.2.2.2.1, HZ.out.2.2.2.2.2.1]
    · rw [HZ.out.2.2.2.2.2.2]; exact OBy.nil _ _
    have hb := HW2.out.1
    (repeat' (first | (with_reducible exact Below.refl _ _) | (with_reducible assumption) | (with_reducible refine Below.setCell ?_ ?_ _) | (with_reducible refine Below.alloc ?_ ?_ _) | (with_reducible refine below_drewN ?_ _) | (with_reducible refine Below.drew ?_) | (with_reducible exact Nat.le_refl _) | omega | (simp; done) | (simp; omega)))
  have h51b : decide (1 < Y5) = false := decide_eq_false h51
  have HB2 : Hid (rbR s = true) := by unfold Hid; rw [HRR.out, h51b, h30b]; rfl
  have HZ : Hid (C = 0 ∧ X1 = Y1 ∧ X2 = Y2 ∧ X3 = Y3 ∧ BL = (Y5 == 1) ∧ X4 = Y4 ∧ D = (s.take e).drop 6) := by
    obtain ⟨e0, e1, e2, e3⟩ := rb_good HB0.out HB1.out HB2.out
    obtain ⟨f0, f1, f2, f3, f4, f5, f6⟩ := HF.out
    refine ⟨f0.trans e0, (f1.trans (e1 1)).trans HY1.out.symm, (f2.trans (e1 2)).trans HY2.out.symm, (f3.trans (e1 3)).trans HY3.out.symm, ?_, (f5.trans (e1 4)).trans HY4.out.symm, ?_⟩
    · rw [f4, e2, HY5.out]
    · rw [f6, e3, ← H.out.2, ← HEN.out]
  clear HRR H3 HB0 HB1 HB2
  have hc6 : ¬ c - 6 = 0 := by omega
  have HD : Hid (RBy y2 (.slice (some ⟨g, o + 6, none⟩) (e - 6) (c - 6)) ((s.take e).drop 6)) := RBy.cut (H.out.1.below HW2.out.1) 6 e (c - 6) (by omega) (by omega)
  obtain ⟨DD, hDD⟩ : ∃ D, D = (s.take e).drop 6 := ⟨_, rfl⟩
  rw [← hDD] at HD HZ
  have hDl : DD.length = e - 6 := HD.out.len.symm
  have HDL : Hid ((DD.flatMap byC).length = (e - 6) * 1) := by unfold Hid; rw [by_flen, hDl]
  have HDN : Hid (e - 6 = DD.length) := hDl.symm
  clear hDD hDl
  have hsz2 := HW2.out.2.2
  go_wp2_with (at_builtin; go_loud (refine appAny rfl _ _ 22 rfl (w.heap.size + 1) 5 i0 (.int .u8 0) 1 1 Try.underlying22 hi hz0 hz1 hz2 rfl (by decide) (.slice none 0 0) 0 [] rfl (OBy.nil y2 _) (some ⟨g, o + 6, none⟩) (e - 6) (c - 6) (DD.flatMap byC) rfl HDL.out (by intro h; cases h) (by_news HD.out) (byC_one DD) (by unfold maxLen; omega) (by omega) (by omega) ?_); intro v6 w6 hown6 hgrow6 hv6; go_loud (obtain ⟨va6, vc6, rfl⟩ := own_formB hown6))
  rw [Nat.zero_add] at hown6
  have HW6 : Hid (Below w.heap.size w w6 ∧ w6.heap[w.heap.size]? = some (.cells #[.int .i64 0, .int .i64 0, .int .i64 0, .int .i64 0, .bool false, .int .i64 0, .slice none 0 0] 50) ∧ OBy w6 (w.heap.size + 1) (.slice va6 (e - 6) vc6) DD) := by
    refine ⟨HW2.out.1.grown hgrow6 HW2.out.1.size (fun q hq => by cases hq), ?_, ?_⟩
    · rw [hgrow6.block _ (ltOf HW2.out.2.1) (by simp [Value.ownBlock])]; exact HW2.out.2.1
    · show World.ownsRow _ _ _ _ _ _ _
      rw [← HDN.out]; exact hown6
  clear hown6 hgrow6 hv6 HW2 HD HDL hsz2
  have c2 : w6.cell? ⟨g, o + 2, none⟩ = some (.int .u8 Y2) := by rw [HY2.out]; exact (HCL.out w6 2 HW6.out.1 (by omega)).1
  have c4 : w6.cell? ⟨g, o + 4, none⟩ = some (.int .u8 Y4) := by rw [HY4.out]; exact (HCL.out w6 4 HW6.out.1 (by omega)).1
  have gl0 : g < w6.heap.size := (HCL.out w6 1 HW6.out.1 (by omega)).2
  obtain ⟨p0, p1, p2, p3, p4, p5, p6, pf0, pf1, pf2, pf3, pf4, pf5, pf6, pl⟩ := seven_B (HW6.out.2.1)
  try simp only [Nat.zero_add]
  have b2 : (2 : Int) < (n : Int) := by omega
  have b4 : (4 : Int) < (n : Int) := by omega
  go_wp2
  refine wp_region_still_tail 15 (by kernel_rfl) (by kernel_rfl) ?_
  have hdw : ({ w6 with drawn := w6.drawn + 1 } : World) = w6.drew := rfl
  rw [hdw]
  clear hdw
  simp only [List.take_succ_cons, List.take_zero, List.drop_succ_cons, List.drop_zero]
  iterate 15 still_step
  refine wpStill_nil ?_
  go_wp2
  try simp only [Exit.inBlock, Exit.then]
  refine bodyPost_ret (by simp [results, Try.results27, go_sem, p0, p1, p2, p3, p4, p5, p6, pl]; try rfl) rfl ⟨.slice va6 (e - 6) vc6, (), by rw [HZ.out.1, HZ.out.2.1, HZ.out.2.2.1, HZ.out.2.2.2.1, HZ.out.2.2.2.2.1, HZ.out.2.2.2.2.2.1], ?_, ?_⟩
  · rw [HZ.out.2.2.2.2.2.2]
    refine OG.low (B := w.heap.size + 1) (ownsRow_keep HW6.out.2.2 fun q hq => ?_) (by omega)
    have h9 := (OG.lt HW6.out.2.2 q hq).1
    first
      | rw [drew_heapB, heap_setCell_other _ _ _ _ (by simp; omega), heap_setCell_other _ _ _ _ (by simp; omega), heap_setCell_other _ _ _ _ (by simp; omega), heap_setCell_other _ _ _ _ (by simp; omega), heap_setCell_other _ _ _ _ (by simp; omega), heap_setCell_other _ _ _ _ (by simp; omega), heap_setCell_other _ _ _ _ (by simp; omega)]
      | rw [heap_setCell_other _ _ _ _ (by simp; omega), heap_setCell_other _ _ _ _ (by simp; omega), heap_setCell_other _ _ _ _ (by simp; omega), heap_setCell_other _ _ _ _ (by simp; omega), heap_setCell_other _ _ _ _ (by simp; omega), heap_setCell_other _ _ _ _ (by simp; omega), heap_setCell_other _ _ _ _ (by simp; omega), drew_heapB]
      | rw [heap_setCell_other _ _ _ _ (by simp; omega), heap_setCell_other _ _ _ _ (by simp; omega), heap_setCell_other _ _ _ _ (by simp; omega), heap_setCell_other _ _ _ _ (by simp; omega), heap_setCell_other _ _ _ _ (by simp; omega), heap_setCell_other _ _ _ _ (by simp; omega), heap_setCell_other _ _ _ _ (by simp; omega)]
  · have hb := HW6.out.1
    (repeat' (first | (with_reducible exact Below.refl _ _) | (with_reducible assumption) | (with_reducible refine Below.setCell ?_ ?_ _) | (with_reducible refine Below.alloc ?_ ?_ _) | (with_reducible refine below_drewN ?_ _) | (with_reducible refine Below.drew ?_) | (with_reducible exact Nat.le_refl _) | omega | (simp; done) | (simp; omega)))

end Go.Proofs.Ytejpjbihdclngaa
