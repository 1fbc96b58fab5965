/- Proved here: ReadBlock of the model: rbC, rbX, rbL, rbD. -/
import Derived.Test.YtejpjbihdclngaaBkV
import Derived.Test.YtejpjbihdclngaaInS
import Derived.Test.YtejpjbihdclngaaOpN
import Derived.Test.YtejpjbihdclngaaFloat
import Derived.Test.YtejpjbihdclngaaReg
import Derived.Deep.Cut
import Derived.Deep.DeepCutAuto
import Derived.StillTail
namespace Go.Proofs.Ytejpjbihdclngaa
open Go.RowKit
set_option linter.unusedVariables false
set_option linter.unusedSimpArgs false

theorem seven_S {w : World} {k : Nat} {a b c d e f g : Value} {T : TypeId} (h : w.heap[k]? = some (.cells #[a, b, c, d, e, f, g] T)) :
    w.cell? ⟨k, 0, none⟩ = some a ∧ w.cell? ⟨k, 1, none⟩ = some b ∧ w.cell? ⟨k, 2, none⟩ = some c ∧ w.cell? ⟨k, 3, none⟩ = some d ∧ w.cell? ⟨k, 4, none⟩ = some e ∧ w.cell? ⟨k, 5, none⟩ = some f ∧ w.cell? ⟨k, 6, none⟩ = some g ∧ w.frozen? ⟨k, 0, none⟩ = false ∧ w.frozen? ⟨k, 1, none⟩ = false ∧ w.frozen? ⟨k, 2, none⟩ = false ∧ w.frozen? ⟨k, 3, none⟩ = false ∧ w.frozen? ⟨k, 4, none⟩ = false ∧ w.frozen? ⟨k, 5, none⟩ = false ∧ w.frozen? ⟨k, 6, none⟩ = false ∧ k < w.heap.size := ⟨cellOf h 0 rfl, cellOf h 1 rfl, cellOf h 2 rfl, cellOf h 3 rfl, cellOf h 4 rfl, cellOf h 5 rfl, cellOf h 6 rfl, frozOf h 0, frozOf h 1, frozOf h 2, frozOf h 3, frozOf h 4, frozOf h 5, frozOf h 6, ltOf h⟩
theorem drew_heapS (W : World) (q : Nat) : W.drew.heap[q]? = W.heap[q]? := rfl
theorem own_formS {w : World} {B T k n : Nat} {v : Value} {xs : List Value} (h : w.ownsRow B T k v n xs) : ∃ a c, v = .slice a n c := by
  rcases h.2 with ⟨rfl, h0⟩ | ⟨g, cap, cur, rfl, _⟩
  · exact ⟨none, 0, by rw [h0]⟩
  · exact ⟨_, _, rfl⟩
theorem six_S {w : World} {k : Nat} {a b c d e f : Value} {T : TypeId} (h : w.heap[k]? = some (.cells #[a, b, c, d, e, f] T)) :
    w.cell? ⟨k, 0, none⟩ = some a ∧ w.cell? ⟨k, 1, none⟩ = some b ∧ w.cell? ⟨k, 2, none⟩ = some c ∧ w.cell? ⟨k, 3, none⟩ = some d ∧ w.cell? ⟨k, 4, none⟩ = some e ∧ w.cell? ⟨k, 5, none⟩ = some f ∧ w.frozen? ⟨k, 0, none⟩ = false ∧ w.frozen? ⟨k, 1, none⟩ = false ∧ w.frozen? ⟨k, 2, none⟩ = false ∧ w.frozen? ⟨k, 3, none⟩ = false ∧ w.frozen? ⟨k, 4, none⟩ = false ∧ w.frozen? ⟨k, 5, none⟩ = false ∧ k < w.heap.size := ⟨cellOf h 0 rfl, cellOf h 1 rfl, cellOf h 2 rfl, cellOf h 3 rfl, cellOf h 4 rfl, cellOf h 5 rfl, frozOf h 0, frozOf h 1, frozOf h 2, frozOf h 3, frozOf h 4, frozOf h 5, ltOf h⟩
theorem there_six {w : World} {k : Nat} {a b c d e f : Value} {T : TypeId} (h : w.heap[k]? = some (.cells #[a, b, c, d, e, f] T)) : w.there k 0 6 := by
  intro j hj
  have hj2 : j < 6 := hj
  simp [World.cell?, World.frozen?, h, hj2]
theorem set_six {w : World} {k : Nat} {a b c d e f a' b' c' d' e' f' : Value} {T : TypeId} (h : w.heap[k]? = some (.cells #[a, b, c, d, e, f] T)) : (w.setCells k 0 [a', b', c', d', e', f']).heap[k]? = some (.cells #[a', b', c', d', e', f'] T) :=
  heap_setCell_same _ _ 5 _ _ _ (heap_setCell_same _ _ 4 _ _ _ (heap_setCell_same _ _ 3 _ _ _ (heap_setCell_same _ _ 2 _ _ _ (heap_setCell_same _ _ 1 _ _ _ (heap_setCell_same _ _ 0 _ _ _ h)))))
theorem set_sixB {w w0 : World} {k : Nat} {a' b' c' d' e' f' : Value} (hb : Below w0.heap.size w0 w) (hk : w0.heap.size ≤ k) : Below w0.heap.size w0 (w.setCells k 0 [a', b', c', d', e', f']) :=
  (((((hb.setCell (p := ⟨k, 0, none⟩) hk _).setCell (p := ⟨k, 1, none⟩) hk _).setCell (p := ⟨k, 2, none⟩) hk _).setCell (p := ⟨k, 3, none⟩) hk _).setCell (p := ⟨k, 4, none⟩) hk _).setCell (p := ⟨k, 5, none⟩) hk _
set_option maxRecDepth 10000 in
set_option maxHeartbeats 3200000 in
theorem spec_rb {w : World} {v : Value} {s : List UInt8} (hn : s.length ≤ 1048576) (h : RBc w v s) :
    Calls Try.prog 25 #[v] w fun e w' => ∃ (v : Value) (_ : Unit), e = .returned (.agg #[.int .i64 (rbC s), .int .i64 (rbX s 1), .int .i64 (rbX s 2), .int .i64 (rbX s 3), .bool (rbL s), .int .i64 (rbX s 4), v]) ∧ OBy w' w.heap.size v (rbD s) ∧ Below w.heap.size w w' := by
  obtain ⟨i0, hi, hz0, hz1, hz2⟩ := info_parts info_by
  obtain ⟨a, c, rfl, hc⟩ := h.form
  obtain ⟨n, hnn⟩ : ∃ n, n = s.length := ⟨_, rfl⟩
  rw [← hnn] at h hn hc ⊢
  obtain ⟨C, hC⟩ : ∃ X, X = rbC s := ⟨_, rfl⟩
  obtain ⟨X1, hX1⟩ : ∃ X, X = rbX s 1 := ⟨_, rfl⟩
  obtain ⟨X2, hX2⟩ : ∃ X, X = rbX s 2 := ⟨_, rfl⟩
  obtain ⟨X3, hX3⟩ : ∃ X, X = rbX s 3 := ⟨_, rfl⟩
  obtain ⟨BL, hBL⟩ : ∃ X, X = rbL s := ⟨_, rfl⟩
  obtain ⟨X4, hX4⟩ : ∃ X, X = rbX s 4 := ⟨_, rfl⟩
  obtain ⟨D, hD⟩ : ∃ X, X = rbD s := ⟨_, rfl⟩
  rw [← hC, ← hX1, ← hX2, ← hX3, ← hBL, ← hX4, ← hD]
  have HF : Hid (C = rbC s ∧ X1 = rbX s 1 ∧ X2 = rbX s 2 ∧ X3 = rbX s 3 ∧ BL = rbL s ∧ X4 = rbX s 4 ∧ D = rbD s) := ⟨hC, hX1, hX2, hX3, hBL, hX4, hD⟩
  have H : Hid (RBy w (.slice a n c) s ∧ n = s.length) := ⟨h.by, hnn⟩
  clear h hnn hC hX1 hX2 hX3 hBL hX4 hD
  obtain ⟨W0, hW0⟩ : ∃ W, W = w.alloc (.cells #[.int .i64 0, .int .i64 0, .int .i64 0, .int .i64 0, .bool false, .int .i64 0, .slice none 0 0] 50) := ⟨_, rfl⟩
  have HW0 : Hid (Below w.heap.size w W0 ∧ W0.heap[w.heap.size]? = some (.cells #[.int .i64 0, .int .i64 0, .int .i64 0, .int .i64 0, .bool false, .int .i64 0, .slice none 0 0] 50) ∧ W0.heap.size = w.heap.size + 1) := by
    rw [hW0]; exact ⟨by (repeat' (first | (with_reducible exact Below.refl _ _) | (with_reducible assumption) | (with_reducible refine Below.setCell ?_ ?_ _) | (with_reducible refine Below.alloc ?_ ?_ _) | (with_reducible refine below_drewN ?_ _) | (with_reducible refine Below.drew ?_) | (with_reducible exact Nat.le_refl _) | omega | (simp; done) | (simp; omega))), heap_alloc_new _ _, by simp⟩
  have HFF : Hid (rbF s = (decide (8 ≤ n) && (decide (5 ≤ byN s 0 ∧ byN s 0 ≤ 37) && decide ((n : Int) = byN s 0 + 3)))) := by unfold Hid; rw [H.out.2]; rfl
  by_cases h8 : (n : Int) < 8
  · have HB0 : Hid (rbF s = false) := by unfold Hid; rw [HFF.out, decide_eq_false (show ¬ 8 ≤ n by omega)]; rfl
    go_enter Try.func25, Try.ntmps25
    go_upto_region 1 with fail
    rw [← hW0]
    clear hW0
    have HZ : Hid (C = 5 ∧ X1 = 0 ∧ X2 = 0 ∧ X3 = 0 ∧ BL = false ∧ X4 = 0 ∧ D = []) := by
      obtain ⟨e0, e1, e2, e3⟩ := rb_five HB0.out
      obtain ⟨f0, f1, f2, f3, f4, f5, f6⟩ := HF.out
      exact ⟨f0.trans e0, f1.trans (e1 1), f2.trans (e1 2), f3.trans (e1 3), f4.trans e2, f5.trans (e1 4), f6.trans e3⟩
    obtain ⟨p0, p1, p2, p3, p4, p5, p6, pf0, pf1, pf2, pf3, pf4, pf5, pf6, pl⟩ := seven_S (HW0.out.2.1)
    clear H
    go_wp2
    try simp only [Exit.inBlock, Exit.then]
    refine bodyPost_ret (by simp [results, Try.results25, go_sem, p0, p1, p2, p3, p4, p5, p6, pl]; try rfl) rfl ?_
    first | refine ⟨.slice none 0 0, (), ?_, ?_, ?_⟩ | refine ⟨.slice none 0 0, ?_, ?_, ?_⟩
    · rw [HZ.out.1, HZ.out.2.1, HZ.out.2.2.1, HZ.out.2.2.2.1, HZ.out.2.2.2.2.1, HZ.out.2.2.2.2.2.1]
    · rw [HZ.out.2.2.2.2.2.2]; exact OBy.nil _ _
    have hb := HW0.out.1
    (repeat' (first | (with_reducible exact Below.refl _ _) | (with_reducible assumption) | (with_reducible refine Below.setCell ?_ ?_ _) | (with_reducible refine Below.alloc ?_ ?_ _) | (with_reducible refine below_drewN ?_ _) | (with_reducible refine Below.drew ?_) | (with_reducible exact Nat.le_refl _) | omega | (simp; done) | (simp; omega)))
  obtain ⟨g, o, c2, he, hg, _⟩ := H.out.1.pos (by rw [← H.out.2]; omega)
  simp only [Value.slice.injEq] at he
  obtain ⟨rfl, hx1, hx2⟩ := he
  clear hx1 hx2 c2
  have HCL : Hid (∀ (W : World) k, Below w.heap.size w W → k < n → W.cell? ⟨g, o + k, none⟩ = some (.int .u8 (byN s k)) ∧ g < W.heap.size) := fun W k hW hk => by_cellN (H.out.1.below hW) hk
  obtain ⟨Y0, hY0⟩ : ∃ Y, Y = byN s 0 := ⟨_, rfl⟩
  have hY0b : 0 ≤ Y0 ∧ Y0 ≤ 255 := by rw [hY0]; exact byN_bd s 0
  have c0 : W0.cell? ⟨g, o, none⟩ = some (.int .u8 Y0) := by rw [hY0]; exact (HCL.out W0 0 HW0.out.1 (by omega)).1
  have gl0 : g < W0.heap.size := (HCL.out W0 0 HW0.out.1 (by omega)).2
  have HY0 : Hid (Y0 = byN s 0) := hY0
  have hwy : IntKind.i64.wrap Y0 = Y0 := by rw [IntKind.wrap_i64]; omega
  clear hg hY0
  have b0 : (0 : Int) < (n : Int) := by omega
  by_cases h5 : Y0 < 5
  · have h5b : decide (Y0 < 5) = true := decide_eq_true h5
    have HB0 : Hid (rbF s = false) := by unfold Hid; rw [HFF.out, ← HY0.out, decide_eq_false (show ¬ (5 ≤ Y0 ∧ Y0 ≤ 37) by omega)]; simp
    go_enter Try.func25, Try.ntmps25
    go_upto_region 1 with fail
    rw [← hW0]
    clear hW0
    have HZ : Hid (C = 5 ∧ X1 = 0 ∧ X2 = 0 ∧ X3 = 0 ∧ BL = false ∧ X4 = 0 ∧ D = []) := by
      obtain ⟨e0, e1, e2, e3⟩ := rb_five HB0.out
      obtain ⟨f0, f1, f2, f3, f4, f5, f6⟩ := HF.out
      exact ⟨f0.trans e0, f1.trans (e1 1), f2.trans (e1 2), f3.trans (e1 3), f4.trans e2, f5.trans (e1 4), f6.trans e3⟩
    obtain ⟨p0, p1, p2, p3, p4, p5, p6, pf0, pf1, pf2, pf3, pf4, pf5, pf6, pl⟩ := seven_S (HW0.out.2.1)
    clear H
    go_wp2
    try simp only [Exit.inBlock, Exit.then]
    refine bodyPost_ret (by simp [results, Try.results25, go_sem, p0, p1, p2, p3, p4, p5, p6, pl]; try rfl) rfl ?_
    first | refine ⟨.slice none 0 0, (), ?_, ?_, ?_⟩ | refine ⟨.slice none 0 0, ?_, ?_, ?_⟩
    · rw [HZ.out.1, HZ.out.2.1, HZ.out.2.2.1, HZ.out.2.2.2.1, HZ.out.2.2.2.2.1, HZ.out.2.2.2.2.2.1]
    · rw [HZ.out.2.2.2.2.2.2]; exact OBy.nil _ _
    have hb := HW0.out.1
    (repeat' (first | (with_reducible exact Below.refl _ _) | (with_reducible assumption) | (with_reducible refine Below.setCell ?_ ?_ _) | (with_reducible refine Below.alloc ?_ ?_ _) | (with_reducible refine below_drewN ?_ _) | (with_reducible refine Below.drew ?_) | (with_reducible exact Nat.le_refl _) | omega | (simp; done) | (simp; omega)))
  have h5b : decide (Y0 < 5) = false := decide_eq_false h5
  by_cases h37 : 37 < Y0
  · have h37b : decide (37 < Y0) = true := decide_eq_true h37
    have HB0 : Hid (rbF s = false) := by unfold Hid; rw [HFF.out, ← HY0.out, decide_eq_false (show ¬ (5 ≤ Y0 ∧ Y0 ≤ 37) by omega)]; simp
    go_enter Try.func25, Try.ntmps25
    go_upto_region 1 with fail
    rw [← hW0]
    clear hW0
    have HZ : Hid (C = 5 ∧ X1 = 0 ∧ X2 = 0 ∧ X3 = 0 ∧ BL = false ∧ X4 = 0 ∧ D = []) := by
      obtain ⟨e0, e1, e2, e3⟩ := rb_five HB0.out
      obtain ⟨f0, f1, f2, f3, f4, f5, f6⟩ := HF.out
      exact ⟨f0.trans e0, f1.trans (e1 1), f2.trans (e1 2), f3.trans (e1 3), f4.trans e2, f5.trans (e1 4), f6.trans e3⟩
    obtain ⟨p0, p1, p2, p3, p4, p5, p6, pf0, pf1, pf2, pf3, pf4, pf5, pf6, pl⟩ := seven_S (HW0.out.2.1)
    clear H
    go_wp2
    try simp only [Exit.inBlock, Exit.then]
    refine bodyPost_ret (by simp [results, Try.results25, go_sem, p0, p1, p2, p3, p4, p5, p6, pl]; try rfl) rfl ?_
    first | refine ⟨.slice none 0 0, (), ?_, ?_, ?_⟩ | refine ⟨.slice none 0 0, ?_, ?_, ?_⟩
    · rw [HZ.out.1, HZ.out.2.1, HZ.out.2.2.1, HZ.out.2.2.2.1, HZ.out.2.2.2.2.1, HZ.out.2.2.2.2.2.1]
    · rw [HZ.out.2.2.2.2.2.2]; exact OBy.nil _ _
    have hb := HW0.out.1
    (repeat' (first | (with_reducible exact Below.refl _ _) | (with_reducible assumption) | (with_reducible refine Below.setCell ?_ ?_ _) | (with_reducible refine Below.alloc ?_ ?_ _) | (with_reducible refine below_drewN ?_ _) | (with_reducible refine Below.drew ?_) | (with_reducible exact Nat.le_refl _) | omega | (simp; done) | (simp; omega)))
  have h37b : decide (37 < Y0) = false := decide_eq_false h37
  by_cases h3 : (n : Int) = Y0 + 3
  case neg =>
    have HB0 : Hid (rbF s = false) := by unfold Hid; rw [HFF.out, ← HY0.out, decide_eq_false h3]; simp
    have hne : ((n : Int) == Y0 + 3) = false := by simpa using h3
    go_enter Try.func25, Try.ntmps25
    go_upto_region 1 with fail
    rw [← hW0]
    clear hW0
    have HZ : Hid (C = 5 ∧ X1 = 0 ∧ X2 = 0 ∧ X3 = 0 ∧ BL = false ∧ X4 = 0 ∧ D = []) := by
      obtain ⟨e0, e1, e2, e3⟩ := rb_five HB0.out
      obtain ⟨f0, f1, f2, f3, f4, f5, f6⟩ := HF.out
      exact ⟨f0.trans e0, f1.trans (e1 1), f2.trans (e1 2), f3.trans (e1 3), f4.trans e2, f5.trans (e1 4), f6.trans e3⟩
    obtain ⟨p0, p1, p2, p3, p4, p5, p6, pf0, pf1, pf2, pf3, pf4, pf5, pf6, pl⟩ := seven_S (HW0.out.2.1)
    clear H
    go_wp2
    try simp only [Exit.inBlock, Exit.then]
    refine bodyPost_ret (by simp [results, Try.results25, go_sem, p0, p1, p2, p3, p4, p5, p6, pl]; try rfl) rfl ?_
    first | refine ⟨.slice none 0 0, (), ?_, ?_, ?_⟩ | refine ⟨.slice none 0 0, ?_, ?_, ?_⟩
    · rw [HZ.out.1, HZ.out.2.1, HZ.out.2.2.1, HZ.out.2.2.2.1, HZ.out.2.2.2.2.1, HZ.out.2.2.2.2.2.1]
    · rw [HZ.out.2.2.2.2.2.2]; exact OBy.nil _ _
    have hb := HW0.out.1
    (repeat' (first | (with_reducible exact Below.refl _ _) | (with_reducible assumption) | (with_reducible refine Below.setCell ?_ ?_ _) | (with_reducible refine Below.alloc ?_ ?_ _) | (with_reducible refine below_drewN ?_ _) | (with_reducible refine Below.drew ?_) | (with_reducible exact Nat.le_refl _) | omega | (simp; done) | (simp; omega)))
  have HB0 : Hid (rbF s = true) := by unfold Hid; rw [HFF.out, ← HY0.out, decide_eq_true h3, decide_eq_true (show 5 ≤ Y0 ∧ Y0 ≤ 37 by omega), decide_eq_true (show 8 ≤ n by omega)]; rfl
  have hne : ((n : Int) == Y0 + 3) = true := by simpa using h3
  obtain ⟨e, he⟩ : ∃ e, e = n - 2 := ⟨_, rfl⟩
  have hen : (n : Int) - 2 = (e : Int) := by omega
  have heb : 6 ≤ e ∧ e ≤ 38 := by omega
  have HEN : Hid (e = n - 2) := he
  have hn40 : n ≤ 40 := by omega
  clear he h3 HFF
  go_enter Try.func25, Try.ntmps25
  go_upto_region 1 with fail
  rw [← hW0]
  clear hW0
  go_wp2_with (fail)
  clear c0
  have hc1 : ¬ c - 1 = 0 := by omega
  have hc1b : ¬ c = 1 := by omega
  have hen2 : e ≤ n := by omega
  have hec : e ≤ c := by omega
  have h1e : 1 ≤ e := by omega
  obtain ⟨S, hS9⟩ : ∃ S : Nat, S = suV ((s.take e).drop 1) := ⟨_, rfl⟩
  have hSb : S < 65536 := by rw [hS9]; exact suK_lt _ _
  have HSU : Hid (∀ W, Below w.heap.size w W → Calls Try.prog 50 #[.slice (some ⟨g, o + 1, none⟩) (e - 1) (c - 1)] W fun r w' => r = .returned (.int .i64 (S : Int)) ∧ w' = W) := fun W hW => by
    have h1 := RBy.cut (H.out.1.below hW) 1 e (c - 1) (by omega) (by omega)
    rw [hS9]
    exact spec_sum (by simp; omega) h1
  obtain ⟨Ye, hYe⟩ : ∃ Y, Y = byN s e := ⟨_, rfl⟩
  obtain ⟨Yf, hYf⟩ : ∃ Y, Y = byN s (e + 1) := ⟨_, rfl⟩
  have hYeb : 0 ≤ Ye ∧ Ye ≤ 255 := by rw [hYe]; exact byN_bd s e
  have hYfb : 0 ≤ Yf ∧ Yf ≤ 255 := by rw [hYf]; exact byN_bd s (e + 1)
  have ce : W0.cell? ⟨g, o + e, none⟩ = some (.int .u8 Ye) := by rw [hYe]; exact (HCL.out W0 e HW0.out.1 (by omega)).1
  have cf : W0.cell? ⟨g, o + (e + 1), none⟩ = some (.int .u8 Yf) := by rw [hYf]; exact (HCL.out W0 (e + 1) HW0.out.1 (by omega)).1
  have cf2 : W0.cell? ⟨g, o + ((e : Int) + 1).toNat, none⟩ = some (.int .u8 Yf) := by rw [show ((e : Int) + 1).toNat = e + 1 by omega]; exact cf
  have hwe : IntKind.i64.wrap Ye = Ye := by rw [IntKind.wrap_i64]; omega
  have hwf : IntKind.i64.wrap Yf = Yf := by rw [IntKind.wrap_i64]; omega
  obtain ⟨q2, hq2⟩ : ∃ b, b = rbS s := ⟨_, rfl⟩
  have hqs : ((S : Int) == Ye * 256 + Yf) = q2 := by
    rw [hq2, rbS, ← H.out.2, ← HEN.out, show n - 1 = e + 1 by omega, ← hYe, ← hYf, hS9, Bool.eq_iff_iff]; simp
  have hqn : ((S : Int) != Ye * 256 + Yf) = !q2 := by rw [← hqs]; rfl
  have be0 : (0 : Int) ≤ (e : Int) := by omega
  have be1 : (e : Int) < (n : Int) := by omega
  have be2 : (e : Int) + 1 < (n : Int) := by omega
  have be3 : (0 : Int) ≤ (e : Int) + 1 := by omega
  have HQ2 : Hid (q2 = rbS s) := hq2
  clear hq2 hYe hYf hS9
  go_quiet (first | (go_at_call 50; with_reducible refine Calls.quiet_of_same (HSU.out _ (below_drewN HW0.out.1 _))))
  obtain ⟨y0, hy0⟩ : ∃ W, W = W0.drewN nq := ⟨_, rfl⟩
  have HW1 : Hid (Below w.heap.size w y0 ∧ y0.heap[w.heap.size]? = some (.cells #[.int .i64 0, .int .i64 0, .int .i64 0, .int .i64 0, .bool false, .int .i64 0, .slice none 0 0] 50) ∧ w.heap.size + 1 ≤ y0.heap.size) := by
    rw [hy0]; exact ⟨below_drewN HW0.out.1 _, HW0.out.2.1, by have := HW0.out.2.2; show _ ≤ W0.heap.size; omega⟩
  rw [← hy0]
  clear hy0 HW0 gl0 ce cf cf2
  cases q2
  · have HB1 : Hid (rbS s = false) := HQ2.out.symm
    have HZ : Hid (C = 6 ∧ X1 = 0 ∧ X2 = 0 ∧ X3 = 0 ∧ BL = false ∧ X4 = 0 ∧ D = []) := by
      obtain ⟨e0, e1, e2, e3⟩ := rb_six HB0.out HB1.out
      obtain ⟨f0, f1, f2, f3, f4, f5, f6⟩ := HF.out
      exact ⟨f0.trans e0, f1.trans (e1 1), f2.trans (e1 2), f3.trans (e1 3), f4.trans e2, f5.trans (e1 4), f6.trans e3⟩
    obtain ⟨p0, p1, p2, p3, p4, p5, p6, pf0, pf1, pf2, pf3, pf4, pf5, pf6, pl⟩ := seven_S (HW1.out.2.1)
    clear H
    go_wp2
    try simp only [Exit.inBlock, Exit.then]
    refine bodyPost_ret (by simp [results, Try.results25, go_sem, p0, p1, p2, p3, p4, p5, p6, pl]; try rfl) rfl ?_
    first | refine ⟨.slice none 0 0, (), ?_, ?_, ?_⟩ | refine ⟨.slice none 0 0, ?_, ?_, ?_⟩
    · rw [HZ.out.1, HZ.out.2.1, HZ.out.2.2.1, HZ.out.2.2.2.1, HZ.out.2.2.2.2.1, HZ.out.2.2.2.2.2.1]
    · rw [HZ.out.2.2.2.2.2.2]; exact OBy.nil _ _
    have hb := HW1.out.1
    (repeat' (first | (with_reducible exact Below.refl _ _) | (with_reducible assumption) | (with_reducible refine Below.setCell ?_ ?_ _) | (with_reducible refine Below.alloc ?_ ?_ _) | (with_reducible refine below_drewN ?_ _) | (with_reducible refine Below.drew ?_) | (with_reducible exact Nat.le_refl _) | omega | (simp; done) | (simp; omega)))
  have HB1 : Hid (rbS s = true) := HQ2.out.symm
  obtain ⟨Y1, hY1⟩ : ∃ Y, Y = byN s 1 := ⟨_, rfl⟩
  have hb1 : 0 ≤ Y1 ∧ Y1 ≤ 255 := by rw [hY1]; exact byN_bd s 1
  have HY1 : Hid (Y1 = byN s 1) := hY1
  have hwy1 : IntKind.i64.wrap Y1 = Y1 := by rw [IntKind.wrap_i64]; omega
  have bn1 : (1 : Int) < (n : Int) := by omega
  clear hY1
  obtain ⟨Y2, hY2⟩ : ∃ Y, Y = byN s 2 := ⟨_, rfl⟩
  have hb2 : 0 ≤ Y2 ∧ Y2 ≤ 255 := by rw [hY2]; exact byN_bd s 2
  have HY2 : Hid (Y2 = byN s 2) := hY2
  have hwy2 : IntKind.i64.wrap Y2 = Y2 := by rw [IntKind.wrap_i64]; omega
  have bn2 : (2 : Int) < (n : Int) := by omega
  clear hY2
  obtain ⟨Y3, hY3⟩ : ∃ Y, Y = byN s 3 := ⟨_, rfl⟩
  have hb3 : 0 ≤ Y3 ∧ Y3 ≤ 255 := by rw [hY3]; exact byN_bd s 3
  have HY3 : Hid (Y3 = byN s 3) := hY3
  have hwy3 : IntKind.i64.wrap Y3 = Y3 := by rw [IntKind.wrap_i64]; omega
  have bn3 : (3 : Int) < (n : Int) := by omega
  clear hY3
  obtain ⟨Y4, hY4⟩ : ∃ Y, Y = byN s 4 := ⟨_, rfl⟩
  have hb4 : 0 ≤ Y4 ∧ Y4 ≤ 255 := by rw [hY4]; exact byN_bd s 4
  have HY4 : Hid (Y4 = byN s 4) := hY4
  have hwy4 : IntKind.i64.wrap Y4 = Y4 := by rw [IntKind.wrap_i64]; omega
  have bn4 : (4 : Int) < (n : Int) := by omega
  clear hY4
  obtain ⟨Y5, hY5⟩ : ∃ Y, Y = byN s 5 := ⟨_, rfl⟩
  have hb5 : 0 ≤ Y5 ∧ Y5 ≤ 255 := by rw [hY5]; exact byN_bd s 5
  have HY5 : Hid (Y5 = byN s 5) := hY5
  have hwy5 : IntKind.i64.wrap Y5 = Y5 := by rw [IntKind.wrap_i64]; omega
  have bn5 : (5 : Int) < (n : Int) := by omega
  clear hY5
  have c1 : y0.cell? ⟨g, o + 1, none⟩ = some (.int .u8 Y1) := by rw [HY1.out]; exact (HCL.out y0 1 HW1.out.1 (by omega)).1
  have c2 : y0.cell? ⟨g, o + 2, none⟩ = some (.int .u8 Y2) := by rw [HY2.out]; exact (HCL.out y0 2 HW1.out.1 (by omega)).1
  have c3 : y0.cell? ⟨g, o + 3, none⟩ = some (.int .u8 Y3) := by rw [HY3.out]; exact (HCL.out y0 3 HW1.out.1 (by omega)).1
  have c4 : y0.cell? ⟨g, o + 4, none⟩ = some (.int .u8 Y4) := by rw [HY4.out]; exact (HCL.out y0 4 HW1.out.1 (by omega)).1
  have c5 : y0.cell? ⟨g, o + 5, none⟩ = some (.int .u8 Y5) := by rw [HY5.out]; exact (HCL.out y0 5 HW1.out.1 (by omega)).1
  have gl0 : g < y0.heap.size := (HCL.out y0 1 HW1.out.1 (by omega)).2
  go_wp2_with (fail)
  refine wp_region_float (by kernel_rfl) (fun hS => ?_)
  refine fl_take (i := 0) (d := 53) (v := .slice (some ⟨g, o, none⟩) n c) rfl rfl rfl (by kernel_rfl) (by kernel_rfl) (by kernel_rfl) hS ?_ ?_
  · intro w' hk; go_simp
  simp only [Act.put, List.setIfInBounds_toArray, List.set_cons_zero, List.set_cons_succ]
  refine fl_take (i := 1) (d := 54) (v := .pointer (some ⟨g, o + 1, none⟩)) rfl rfl rfl (by kernel_rfl) (by kernel_rfl) (by kernel_rfl) hS ?_ ?_
  · intro w' hk; go_simp
  simp only [Act.put, List.setIfInBounds_toArray, List.set_cons_zero, List.set_cons_succ]
  refine fl_take (i := 2) (d := 55) (v := .int .u8 Y1) rfl rfl rfl (by kernel_rfl) (by kernel_rfl) (by kernel_rfl) hS ?_ ?_
  · intro w' hk; go_simp
  simp only [Act.put, List.setIfInBounds_toArray, List.set_cons_zero, List.set_cons_succ]
  refine fl_take (i := 3) (d := 56) (v := .int .i64 Y1) rfl rfl rfl (by kernel_rfl) (by kernel_rfl) (by kernel_rfl) hS ?_ ?_
  · intro w' hk; go_simp
  simp only [Act.put, List.setIfInBounds_toArray, List.set_cons_zero, List.set_cons_succ]
  refine fl_take (i := 4) (d := 57) (v := .slice (some ⟨g, o, none⟩) n c) rfl rfl rfl (by kernel_rfl) (by kernel_rfl) (by kernel_rfl) hS ?_ ?_
  · intro w' hk; go_simp
  simp only [Act.put, List.setIfInBounds_toArray, List.set_cons_zero, List.set_cons_succ]
  refine fl_take (i := 5) (d := 58) (v := .pointer (some ⟨g, o + 2, none⟩)) rfl rfl rfl (by kernel_rfl) (by kernel_rfl) (by kernel_rfl) hS ?_ ?_
  · intro w' hk; go_simp
  simp only [Act.put, List.setIfInBounds_toArray, List.set_cons_zero, List.set_cons_succ]
  refine fl_take (i := 6) (d := 59) (v := .int .u8 Y2) rfl rfl rfl (by kernel_rfl) (by kernel_rfl) (by kernel_rfl) hS ?_ ?_
  · intro w' hk; go_simp
  simp only [Act.put, List.setIfInBounds_toArray, List.set_cons_zero, List.set_cons_succ]
  refine fl_take (i := 7) (d := 60) (v := .int .i64 Y2) rfl rfl rfl (by kernel_rfl) (by kernel_rfl) (by kernel_rfl) hS ?_ ?_
  · intro w' hk; go_simp
  simp only [Act.put, List.setIfInBounds_toArray, List.set_cons_zero, List.set_cons_succ]
  refine fl_take (i := 8) (d := 61) (v := .slice (some ⟨g, o, none⟩) n c) rfl rfl rfl (by kernel_rfl) (by kernel_rfl) (by kernel_rfl) hS ?_ ?_
  · intro w' hk; go_simp
  simp only [Act.put, List.setIfInBounds_toArray, List.set_cons_zero, List.set_cons_succ]
  refine fl_take (i := 9) (d := 62) (v := .pointer (some ⟨g, o + 3, none⟩)) rfl rfl rfl (by kernel_rfl) (by kernel_rfl) (by kernel_rfl) hS ?_ ?_
  · intro w' hk; go_simp
  simp only [Act.put, List.setIfInBounds_toArray, List.set_cons_zero, List.set_cons_succ]
  refine fl_take (i := 10) (d := 63) (v := .int .u8 Y3) rfl rfl rfl (by kernel_rfl) (by kernel_rfl) (by kernel_rfl) hS ?_ ?_
  · intro w' hk; go_simp
  simp only [Act.put, List.setIfInBounds_toArray, List.set_cons_zero, List.set_cons_succ]
  refine fl_take (i := 11) (d := 64) (v := .int .i64 Y3) rfl rfl rfl (by kernel_rfl) (by kernel_rfl) (by kernel_rfl) hS ?_ ?_
  · intro w' hk; go_simp
  simp only [Act.put, List.setIfInBounds_toArray, List.set_cons_zero, List.set_cons_succ]
  refine fl_take (i := 12) (d := 65) (v := .slice (some ⟨g, o, none⟩) n c) rfl rfl rfl (by kernel_rfl) (by kernel_rfl) (by kernel_rfl) hS ?_ ?_
  · intro w' hk; go_simp
  simp only [Act.put, List.setIfInBounds_toArray, List.set_cons_zero, List.set_cons_succ]
  refine fl_take (i := 13) (d := 66) (v := .pointer (some ⟨g, o + 4, none⟩)) rfl rfl rfl (by kernel_rfl) (by kernel_rfl) (by kernel_rfl) hS ?_ ?_
  · intro w' hk; go_simp
  simp only [Act.put, List.setIfInBounds_toArray, List.set_cons_zero, List.set_cons_succ]
  refine fl_take (i := 14) (d := 67) (v := .int .u8 Y4) rfl rfl rfl (by kernel_rfl) (by kernel_rfl) (by kernel_rfl) hS ?_ ?_
  · intro w' hk; go_simp
  simp only [Act.put, List.setIfInBounds_toArray, List.set_cons_zero, List.set_cons_succ]
  refine fl_take (i := 15) (d := 68) (v := .int .i64 Y4) rfl rfl rfl (by kernel_rfl) (by kernel_rfl) (by kernel_rfl) hS ?_ ?_
  · intro w' hk; go_simp
  simp only [Act.put, List.setIfInBounds_toArray, List.set_cons_zero, List.set_cons_succ]
  refine fl_take (i := 16) (d := 69) (v := .slice (some ⟨g, o, none⟩) n c) rfl rfl rfl (by kernel_rfl) (by kernel_rfl) (by kernel_rfl) hS ?_ ?_
  · intro w' hk; go_simp
  simp only [Act.put, List.setIfInBounds_toArray, List.set_cons_zero, List.set_cons_succ]
  refine fl_take (i := 17) (d := 70) (v := .pointer (some ⟨g, o + 5, none⟩)) rfl rfl rfl (by kernel_rfl) (by kernel_rfl) (by kernel_rfl) hS ?_ ?_
  · intro w' hk; go_simp
  simp only [Act.put, List.setIfInBounds_toArray, List.set_cons_zero, List.set_cons_succ]
  refine fl_take (i := 18) (d := 71) (v := .int .u8 Y5) rfl rfl rfl (by kernel_rfl) (by kernel_rfl) (by kernel_rfl) hS ?_ ?_
  · intro w' hk; go_simp
  simp only [Act.put, List.setIfInBounds_toArray, List.set_cons_zero, List.set_cons_succ]
  refine fl_take (i := 19) (d := 72) (v := .bool (Y5 == 1)) rfl rfl rfl (by kernel_rfl) (by kernel_rfl) (by kernel_rfl) hS ?_ ?_
  · intro w' hk; go_simp
  simp only [Act.put, List.setIfInBounds_toArray, List.set_cons_zero, List.set_cons_succ]
  refine fl_take (i := 20) (d := 73) (v := .agg #[.int .i64 Y1, .int .i64 Y2, .int .i64 Y3, .bool (Y5 == 1), .int .i64 Y4, .slice none 0 0]) rfl rfl rfl (by kernel_rfl) (by kernel_rfl) (by kernel_rfl) hS ?_ ?_
  · intro w' hk; go_simp
  simp only [Act.put, List.setIfInBounds_toArray, List.set_cons_zero, List.set_cons_succ]
  refine wpAnyH_all (rs := [21]) (by kernel_rfl) (by simp) ?_
  intro i hi9
  obtain rfl : i = 21 := by simpa using hi9
  refine op_val (d := 4) (v := .pointer (some ⟨y0.heap.size, 0, none⟩)) (w' := y0.drew.alloc (.cells #[.int .i64 0, .int .i64 0, .int .i64 0, .bool false, .int .i64 0, .slice none 0 0] 48)) rfl rfl rfl (by go_simp; try rfl) ?_
  simp only [Act.put, List.setIfInBounds_toArray, List.set_cons_zero, List.set_cons_succ]
  have hS1 : KS y0 (y0.drew.alloc (.cells #[.int .i64 0, .int .i64 0, .int .i64 0, .bool false, .int .i64 0, .slice none 0 0] 48)) := hS.alloc _
  refine ⟨hS1, ?_⟩
  refine wpAnyH_all (rs := [22]) (by kernel_rfl) (by simp) ?_
  intro i hi9
  obtain rfl : i = 22 := by simpa using hi9
  have hzo : (y0.drew.alloc (.cells #[.int .i64 0, .int .i64 0, .int .i64 0, .bool false, .int .i64 0, .slice none 0 0] 48)).heap[y0.heap.size]? = some (.cells #[.int .i64 0, .int .i64 0, .int .i64 0, .bool false, .int .i64 0, .slice none 0 0] 48) := heap_alloc_new y0.drew _
  refine op_store rfl rfl rfl _ _ _ rfl y0.heap.size #[.int .i64 Y1, .int .i64 Y2, .int .i64 Y3, .bool (Y5 == 1), .int .i64 Y4, .slice none 0 0] rfl rfl (there_six hzo) (by kernel_rfl) (by simp [Value.oneCell']) ?_
  obtain ⟨y1, hy1⟩ : ∃ W, W = (y0.drew.alloc (.cells #[.int .i64 0, .int .i64 0, .int .i64 0, .bool false, .int .i64 0, .slice none 0 0] 48)).setCells y0.heap.size 0 [.int .i64 Y1, .int .i64 Y2, .int .i64 Y3, .bool (Y5 == 1), .int .i64 Y4, .slice none 0 0] := ⟨_, rfl⟩
  have hbb : Below y0.heap.size y0 y1 := by rw [hy1]; exact set_sixB hS1.2 (Nat.le_refl _)
  have hS2 : KS y0 y1 := KS.of hbb
  obtain ⟨KB, hKB⟩ : ∃ K, K = y0.heap.size := ⟨_, rfl⟩
  have HW2 : Hid (Below w.heap.size w y1 ∧ y1.heap[w.heap.size]? = some (.cells #[.int .i64 0, .int .i64 0, .int .i64 0, .int .i64 0, .bool false, .int .i64 0, .slice none 0 0] 50) ∧ w.heap.size + 1 ≤ KB ∧ y1.heap[KB]? = some (.cells #[.int .i64 Y1, .int .i64 Y2, .int .i64 Y3, .bool (Y5 == 1), .int .i64 Y4, .slice none 0 0] 48)) := by
    refine ⟨HW1.out.1.trans (hbb.mono HW1.out.1.size), (hbb.block _ (ltOf HW1.out.2.1)).trans HW1.out.2.1, by rw [hKB]; exact HW1.out.2.2, ?_⟩
    rw [hKB, hy1]; exact set_six hzo
  show KS y0 _ ∧ _
  rw [← hy1]
  refine ⟨hS2, wpAnyH_done (by kernel_rfl) (NoPanic.normal ?_) _⟩
  rw [← hKB]
  clear hS hS1 hS2 hzo hy1 hbb hKB HW1 c1 c2 c3 c4 c5 gl0
  have hKB1 := HW2.out.2.2.1
  obtain ⟨x0, x1, x2, x3, x4, x5, xf0, xf1, xf2, xf3, xf4, xf5, xl⟩ := six_S HW2.out.2.2.2
  have c5 : y1.cell? ⟨g, o + 5, none⟩ = some (.int .u8 Y5) := by rw [HY5.out]; exact (HCL.out y1 5 HW2.out.1 (by omega)).1
  have gl0 : g < y1.heap.size := (HCL.out y1 1 HW2.out.1 (by omega)).2
  obtain ⟨q3, hq3⟩ : ∃ b, b = decide (1 ≤ Y1 ∧ Y1 ≤ 127) := ⟨_, rfl⟩
  have H3 : Hid (∀ W, Calls Try.prog 48 #[.int .i64 Y1, .int .i64 1, .int .i64 127] W fun e w' => e = .returned (.bool q3) ∧ w' = W) := fun W => by rw [hq3]; exact spec_in10 Y1 1 127 W
  have HRR : Hid (rbR s = (q3 && (!(Y3 == 0) && !(decide (1 < Y5))))) := by unfold Hid; rw [hq3, HY1.out, HY3.out, HY5.out]; rfl
  clear hq3
  go_wp2_with (fail)
  refine (H3.out _).mono ?_
  rintro r w1 ⟨rfl, hw⟩
  subst w1
  cases q3
  · have HB2 : Hid (rbR s = false) := by unfold Hid; rw [HRR.out]; rfl
    have HZ : Hid (C = 3 ∧ X1 = 0 ∧ X2 = 0 ∧ X3 = 0 ∧ BL = false ∧ X4 = 0 ∧ D = []) := by
      obtain ⟨e0, e1, e2, e3⟩ := rb_three HB0.out HB1.out HB2.out
      obtain ⟨f0, f1, f2, f3, f4, f5, f6⟩ := HF.out
      exact ⟨f0.trans e0, f1.trans (e1 1), f2.trans (e1 2), f3.trans (e1 3), f4.trans e2, f5.trans (e1 4), f6.trans e3⟩
    obtain ⟨p0, p1, p2, p3, p4, p5, p6, pf0, pf1, pf2, pf3, pf4, pf5, pf6, pl⟩ := seven_S (HW2.out.2.1)
    clear H
    go_wp2
    try simp only [Exit.inBlock, Exit.then]
    refine bodyPost_ret (by simp [results, Try.results25, go_sem, p0, p1, p2, p3, p4, p5, p6, pl]; try rfl) rfl ?_
    first | refine ⟨.slice none 0 0, (), ?_, ?_, ?_⟩ | refine ⟨.slice none 0 0, ?_, ?_, ?_⟩
    · rw [HZ.out.1, HZ.out.2.1, HZ.out.2.2.1, HZ.out.2.2.2.1, HZ.out.2.2.2.2.1, HZ.out.2.2.2.2.2.1]
    · rw [HZ.out.2.2.2.2.2.2]; exact OBy.nil _ _
    have hb := HW2.out.1
    (repeat' (first | (with_reducible exact Below.refl _ _) | (with_reducible assumption) | (with_reducible refine Below.setCell ?_ ?_ _) | (with_reducible refine Below.alloc ?_ ?_ _) | (with_reducible refine below_drewN ?_ _) | (with_reducible refine Below.drew ?_) | (with_reducible exact Nat.le_refl _) | omega | (simp; done) | (simp; omega)))
  by_cases h30 : Y3 = 0
  · have h30b : (Y3 == 0) = true := by simpa using h30
    have HB2 : Hid (rbR s = false) := by unfold Hid; rw [HRR.out, h30b]; rfl
    have HZ : Hid (C = 3 ∧ X1 = 0 ∧ X2 = 0 ∧ X3 = 0 ∧ BL = false ∧ X4 = 0 ∧ D = []) := by
      obtain ⟨e0, e1, e2, e3⟩ := rb_three HB0.out HB1.out HB2.out
      obtain ⟨f0, f1, f2, f3, f4, f5, f6⟩ := HF.out
      exact ⟨f0.trans e0, f1.trans (e1 1), f2.trans (e1 2), f3.trans (e1 3), f4.trans e2, f5.trans (e1 4), f6.trans e3⟩
    obtain ⟨p0, p1, p2, p3, p4, p5, p6, pf0, pf1, pf2, pf3, pf4, pf5, pf6, pl⟩ := seven_S (HW2.out.2.1)
    clear H
    go_wp2
    try simp only [Exit.inBlock, Exit.then]
    refine bodyPost_ret (by simp [results, Try.results25, go_sem, p0, p1, p2, p3, p4, p5, p6, pl]; try rfl) rfl ?_
    first | refine ⟨.slice none 0 0, (), ?_, ?_, ?_⟩ | refine ⟨.slice none 0 0, ?_, ?_, ?_⟩
    · rw [HZ.out.1, HZ.out.2.1, HZ.out.2.2.1, HZ.out.2.2.2.1, HZ.out.2.2.2.2.1, HZ.out.2.2.2.2.2.1]
    · rw [HZ.out.2.2.2.2.2.2]; exact OBy.nil _ _
    have hb := HW2.out.1
    (repeat' (first | (with_reducible exact Below.refl _ _) | (with_reducible assumption) | (with_reducible refine Below.setCell ?_ ?_ _) | (with_reducible refine Below.alloc ?_ ?_ _) | (with_reducible refine below_drewN ?_ _) | (with_reducible refine Below.drew ?_) | (with_reducible exact Nat.le_refl _) | omega | (simp; done) | (simp; omega)))
  have h30b : (Y3 == 0) = false := by simpa using h30
  by_cases h51 : 1 < Y5
  · have h51b : decide (1 < Y5) = true := decide_eq_true h51
    have HB2 : Hid (rbR s = false) := by unfold Hid; rw [HRR.out, h51b]; simp
    have HZ : Hid (C = 3 ∧ X1 = 0 ∧ X2 = 0 ∧ X3 = 0 ∧ BL = false ∧ X4 = 0 ∧ D = []) := by
      obtain ⟨e0, e1, e2, e3⟩ := rb_three HB0.out HB1.out HB2.out
      obtain ⟨f0, f1, f2, f3, f4, f5, f6⟩ := HF.out
      exact ⟨f0.trans e0, f1.trans (e1 1), f2.trans (e1 2), f3.trans (e1 3), f4.trans e2, f5.trans (e1 4), f6.trans e3⟩
    obtain ⟨p0, p1, p2, p3, p4, p5, p6, pf0, pf1, pf2, pf3, pf4, pf5, pf6, pl⟩ := seven_S (HW2.out.2.1)
    clear H
    go_wp2
    try simp only [Exit.inBlock, Exit.then]
    refine bodyPost_ret (by simp [results, Try.results25, go_sem, p0, p1, p2, p3, p4, p5, p6, pl]; try rfl) rfl ?_
    first | refine ⟨.slice none 0 0, (), ?_, ?_, ?_⟩ | refine ⟨.slice none 0 0, ?_, ?_, ?_⟩
    · rw [HZ.out.1, HZ.out.2.1, HZ.out.2.2.1, HZ.out.2.2.2.1, HZ.out.2.2.2.2.1, HZ.out.2.2.2.2.2.1]
    · rw [HZ.out.2.2.2.2.2.2]; exact OBy.nil _ _
    have hb := HW2.out.1
    (repeat' (first | (with_reducible exact Below.refl _ _) | (with_reducible assumption) | (with_reducible refine Below.setCell ?_ ?_ _) | (with_reducible refine Below.alloc ?_ ?_ _) | (with_reducible refine below_drewN ?_ _) | (with_reducible refine Below.drew ?_) | (with_reducible exact Nat.le_refl _) | omega | (simp; done) | (simp; omega)))
  have h51b : decide (1 < Y5) = false := decide_eq_false h51
  have HB2 : Hid (rbR s = true) := by unfold Hid; rw [HRR.out, h51b, h30b]; rfl
  have HZ : Hid (C = 0 ∧ X1 = Y1 ∧ X2 = Y2 ∧ X3 = Y3 ∧ BL = (Y5 == 1) ∧ X4 = Y4 ∧ D = (s.take e).drop 6) := by
    obtain ⟨e0, e1, e2, e3⟩ := rb_good HB0.out HB1.out HB2.out
    obtain ⟨f0, f1, f2, f3, f4, f5, f6⟩ := HF.out
    refine ⟨f0.trans e0, (f1.trans (e1 1)).trans HY1.out.symm, (f2.trans (e1 2)).trans HY2.out.symm, (f3.trans (e1 3)).trans HY3.out.symm, ?_, (f5.trans (e1 4)).trans HY4.out.symm, ?_⟩
    · rw [f4, e2, HY5.out]
    · rw [f6, e3, ← H.out.2, ← HEN.out]
  clear HRR H3 HB0 HB1 HB2
  have hc6 : ¬ c - 6 = 0 := by omega
  have hc6b : ¬ c = 6 := by omega
  have h6e : 6 ≤ e := by omega
  obtain ⟨y2, hy2⟩ : ∃ W, W = y1.alloc (.cells #[] 5) := ⟨_, rfl⟩
  obtain ⟨KL, hKL⟩ : ∃ K, K = y1.heap.size := ⟨_, rfl⟩
  have HW3 : Hid (Below w.heap.size w y2 ∧ y2.heap[w.heap.size]? = some (.cells #[.int .i64 0, .int .i64 0, .int .i64 0, .int .i64 0, .bool false, .int .i64 0, .slice none 0 0] 50) ∧ y2.heap[KB]? = some (.cells #[.int .i64 Y1, .int .i64 Y2, .int .i64 Y3, .bool (Y5 == 1), .int .i64 Y4, .slice none 0 0] 48) ∧ OBy y2 (KB + 1) (.slice (some ⟨KL, 0, none⟩) 0 0) [] ∧ KB + 1 ≤ KL ∧ KL < y2.heap.size) := by
    have h9 := ltOf HW2.out.2.2.2
    rw [hy2, hKL]
    exact ⟨HW2.out.1.alloc HW2.out.1.size _, (Below.heap_alloc _ _ _ (ltOf HW2.out.2.1)).trans HW2.out.2.1, (Below.heap_alloc _ _ _ h9).trans HW2.out.2.2.2, OBy.lit0 y1 _ (by omega), by omega, by simp⟩
  have HD : Hid (RBy y2 (.slice (some ⟨g, o + 6, none⟩) (e - 6) (c - 6)) ((s.take e).drop 6)) := RBy.cut (H.out.1.below HW3.out.1) 6 e (c - 6) (by omega) (by omega)
  obtain ⟨DD, hDD⟩ : ∃ D, D = (s.take e).drop 6 := ⟨_, rfl⟩
  rw [← hDD] at HD HZ
  have hDl : DD.length = e - 6 := HD.out.len.symm
  have HDL : Hid ((DD.flatMap byC).length = (e - 6) * 1) := by unfold Hid; rw [by_flen, hDl]
  have HDN : Hid (e - 6 = DD.length) := hDl.symm
  clear hDD hDl
  have hszL := HW3.out.2.2.2.2
  have HYY : Hid (y2 = y1.alloc (.cells #[] 5) ∧ KL = y1.heap.size) := ⟨hy2, hKL⟩
  clear hy2 hKL
  go_wp2_with (at_builtin; go_loud (rw [← HYY.out.1, ← HYY.out.2]; refine appAny rfl _ _ 22 rfl (KB + 1) 5 i0 (.int .u8 0) 1 1 Try.underlying22 hi hz0 hz1 hz2 rfl (by decide) (.slice (some ⟨KL, 0, none⟩) 0 0) 0 [] rfl HW3.out.2.2.2.1 (some ⟨g, o + 6, none⟩) (e - 6) (c - 6) (DD.flatMap byC) rfl HDL.out (by intro h; cases h) (by_news HD.out) (byC_one DD) (by unfold maxLen; omega) (by omega) (by omega) ?_); intro v6 w6 hown6 hgrow6 hv6; go_loud (obtain ⟨va6, vc6, rfl⟩ := own_formS hown6; have HW6 : Hid (Below w.heap.size w w6 ∧ w6.heap[w.heap.size]? = some (.cells #[.int .i64 0, .int .i64 0, .int .i64 0, .int .i64 0, .bool false, .int .i64 0, .slice none 0 0] 50) ∧ w6.heap[KB]? = some (.cells #[.int .i64 Y1, .int .i64 Y2, .int .i64 Y3, .bool (Y5 == 1), .int .i64 Y4, .slice none 0 0] 48) ∧ w6.ownsRow (KB + 1) 5 1 (.slice va6 (0 + (e - 6)) vc6) (0 + (e - 6)) (DD.flatMap byC)) := ⟨HW3.out.1.grown hgrow6 HW3.out.1.size (fun q hq => by simp only [Value.ownBlock, Option.some.injEq] at hq; omega), (hgrow6.block _ (ltOf HW3.out.2.1) (by simp only [Value.ownBlock, ne_eq, Option.some.injEq]; omega)).trans HW3.out.2.1, (hgrow6.block _ (ltOf HW3.out.2.2.1) (by simp only [Value.ownBlock, ne_eq, Option.some.injEq]; omega)).trans HW3.out.2.2.1, by simpa using hown6⟩; clear hown6 hgrow6 hv6 x0 x1 x2 x3 x4 x5 xf0 xf1 xf2 xf3 xf4 xf5 xl c5 gl0; obtain ⟨x0, x1, x2, x3, x4, x5, xf0, xf1, xf2, xf3, xf4, xf5, xl⟩ := six_S HW6.out.2.2.1; obtain ⟨p0, p1, p2, p3, p4, p5, p6, pf0, pf1, pf2, pf3, pf4, pf5, pf6, pl⟩ := seven_S (HW6.out.2.1)))
  try simp only [Exit.inBlock, Exit.then]
  refine bodyPost_ret (by simp [results, Try.results25, go_sem, p0, p1, p2, p3, p4, p5, p6, pl]; try rfl) rfl ?_
  first | refine ⟨.slice va6 (0 + (e - 6)) vc6, (), ?_, ?_, ?_⟩ | refine ⟨.slice va6 (e - 6) vc6, (), ?_, ?_, ?_⟩ | refine ⟨.slice va6 (0 + (e - 6)) vc6, ?_, ?_, ?_⟩ | refine ⟨.slice va6 (e - 6) vc6, ?_, ?_, ?_⟩
  · rw [HZ.out.1, HZ.out.2.1, HZ.out.2.2.1, HZ.out.2.2.2.1, HZ.out.2.2.2.2.1, HZ.out.2.2.2.2.2.1]; try simp
  · rw [HZ.out.2.2.2.2.2.2]
    have h8 : OBy w6 (KB + 1) (.slice va6 (0 + (e - 6)) vc6) DD := by
      show World.ownsRow _ _ _ _ _ _ _
      have h7 := HW6.out.2.2.2
      rw [Nat.zero_add] at h7 ⊢
      rw [← HDN.out]; exact h7
    refine OG.low (B := KB + 1) (show OBy _ _ _ _ from ownsRow_keep h8 fun q hq => ?_) (by omega)
    have h9 := (OG.lt h8 q hq).1
    rw [heap_setCell_other _ _ _ _ (by simp; omega), heap_setCell_other _ _ _ _ (by simp; omega), heap_setCell_other _ _ _ _ (by simp; omega), heap_setCell_other _ _ _ _ (by simp; omega), heap_setCell_other _ _ _ _ (by simp; omega), heap_setCell_other _ _ _ _ (by simp; omega), heap_setCell_other _ _ _ _ (by simp; omega), heap_setCell_other _ _ _ _ (by simp; omega)]
  · have hb := HW6.out.1
    (repeat' (first | (with_reducible exact Below.refl _ _) | (with_reducible assumption) | (with_reducible refine Below.setCell ?_ ?_ _) | (with_reducible refine Below.alloc ?_ ?_ _) | (with_reducible refine below_drewN ?_ _) | (with_reducible refine Below.drew ?_) | (with_reducible exact Nat.le_refl _) | omega | (simp; done) | (simp; omega)))

end Go.Proofs.Ytejpjbihdclngaa
